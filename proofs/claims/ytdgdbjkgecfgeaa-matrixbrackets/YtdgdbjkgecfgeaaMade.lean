/- The contract of hayricklaw03.made: a matrix of so many rows and columns, in new memory. -/
import Derived.Test.YtdgdbjkgecfgeaaMadeM
import Derived.Test.YtdgdbjkgecfgeaaRefId
import Derived.Deep.RegionHeld3
namespace Go.Proofs.Ytdgdbjkgecfgeaa
open Go.RowKit

theorem wpList_append_byteZ {w : World} {ops : Array Oper} {rest : List Oper} {o : Oper} {a : Act} {Q : Exit → Act → World → Prop} (hgd : o.guard = none) (d s : Operand)
    (ho : o.op = .call { callee := .builtin .append, args := #[d, s], argTypes := #[45, 45] }) (dv : Value) (ad : Addr) (hed : a.eval d = dv) (hes : a.eval s = .slice (some ad) 1 1)
    {B : Nat} {xs : List Nat} {V : Int} (hd : Own B w dv xs) (hu : w.cell? ad = some (.int .u8 V)) (h0 : 0 ≤ V) (h1 : V < 256) (hB : B ≤ w.heap.size) (hl : xs.length + 1 ≤ 140737488351232)
    (h : ∀ v' w' x, Own B w' v' (xs ++ [x]) → w.grownBy w' dv.ownBlock → (v'.ownBlock = dv.ownBlock ∨ v'.ownBlock = some w.heap.size) → wpList Try.prog ops Q rest (a.put o.dst v') w') : wpList Try.prog ops Q (o :: rest) a w := by
  obtain ⟨x, rfl⟩ := Int.eq_ofNat_of_zero_le h0
  exact wpList_append_byte hgd d s ho dv ad hed hes hd (by omega) hu hB hl (fun v' w' o g at' => h v' w' x o g at')

/-- So far: k rows are full, row k has j numbers, the others have none. -/
def MadeTo (M : List (List Nat)) (n m k j : Nat) : Prop := M.length = n ∧ (∀ r, r < k → (M.getD r []).length = m) ∧ (k < n → (M.getD k []).length = j) ∧ ∀ r, k < r → r < n → M.getD r [] = []

theorem MadeTo.more {M : List (List Nat)} {n m k j : Nat} (h : MadeTo M n m k j) (hk : k < n) (x : Nat) : MadeTo (M.set k (M.getD k [] ++ [x])) n m k (j + 1) := by
  refine ⟨by simpa using h.1, fun r hr => ?_, fun _ => ?_, fun r h1 h2 => ?_⟩
  · rw [getD_set_ne _ _ _ (by omega)]; exact h.2.1 r hr
  · rw [getD_set_self _ _ _ _ (by rw [h.1]; exact hk)]; simp; exact h.2.2.1 hk
  · rw [getD_set_ne _ _ _ (by omega)]; exact h.2.2.2 r h1 h2
theorem MadeTo.next {M : List (List Nat)} {n m k : Nat} (h : MadeTo M n m k m) (hk : k < n) : MadeTo M n m (k + 1) 0 := by
  refine ⟨h.1, fun r hr => ?_, fun h1 => ?_, fun r h1 h2 => h.2.2.2 r (by omega) h2⟩
  · by_cases e : r = k
    · subst e; exact h.2.2.1 hk
    · exact h.2.1 r (by omega)
  · rw [h.2.2.2 (k + 1) (by omega) h1]; rfl
theorem MadeTo.shape {M : List (List Nat)} {n m j : Nat} (h : MadeTo M n m n j) : Shape M n m := ⟨h.1, h.2.1⟩

theorem tmod_nat (a b : Nat) : ((a : Int)).tmod (b : Int) = ((a % b : Nat) : Int) := by
  rw [Int.tmod_eq_emod_of_nonneg (by omega)]; rfl
theorem tdiv_nat (a b : Nat) : ((a : Int)).tdiv (b : Int) = ((a / b : Nat) : Int) := by
  rw [Int.tdiv_eq_ediv_of_nonneg (by omega)]; rfl

set_option maxHeartbeats 6400000 in
theorem made_any {w : World} {l : Value} {xs : List Nat} (n m : Nat) (hn : n ≤ 9) (hm : m ≤ 9) (n1 : 1 ≤ n) (vl : Vec w l xs) :
    Calls Try.prog 24 #[.int .i64 (n : Int), .int .i64 (m : Int), l] w fun e w' => ∃ p k c us M, e = .returned (.slice p k c) ∧ OwnMat w.heap.size w' (.slice p k c) us M ∧ Shape M n m ∧ w.grownBy w' none := by
  obtain ⟨q, L, cap, rfl, hL⟩ := vl.opened
  have hLl : L ≤ 140737488351232 := by rw [hL]; exact vl.len
  have VL : Hid (∀ w', w.grownBy w' none → Vec w' (.slice q L cap) xs) := fun w' g => vl.keep g
  have HL : Hid (L = xs.length) := hL
  clear vl hL
  go_enter Try.func24, Try.ntmps24
  go_wp2_with (at_make; refine wpList_make_rows rfl _ _ rfl n rfl rfl (by omega) ?_; intro w1 p om g1; have OM : Hid (OwnMat w.heap.size w1 (.slice p n n) (List.replicate n (.slice none 0 0)) (List.replicate n [])) := om; have G1 : Hid (w.grownBy w1 none) := g1; clear om g1)
  obtain ⟨g, rfl, hb, q1, q2, q3, q4, q5⟩ := OM.out.place (k := 0) (by simp; omega)
  have HB : Hid (w.heap.size ≤ g) := hb
  clear q1 q2 q3 q4 q5 hb
  have M0 : Hid (MadeTo (List.replicate n []) n m 0 0) := ⟨by simp, fun r hr => by omega, fun h => by rw [getD_replicate _ _ _ _ h]; rfl, fun r _ h => getD_replicate _ _ _ _ h⟩
  go_loopw [15] (fun ti wr => ∃ (k : Nat) (us : List Value) (M : List (List Nat)), k ≤ n ∧ ti = .int .i64 k ∧ Hid (OwnMat w.heap.size wr (.slice (some ⟨g, 0, none⟩) n n) us M) ∧ Hid (Sep us) ∧ Hid (MadeTo M n m k 0) ∧ Hid (w.grownBy wr none)) (fun ti _ => n - (intOf ti).toNat)
  case atStart => exact ⟨0, _, _, by omega, rfl, OM.out, Sep.nils n, M0.out, G1.out⟩
  case round =>
    clear OM G1 M0
    obtain ⟨k, us, M, hk, rfl, OK, SP, MT, GK⟩ := hrel
    by_cases hlt : k < n
    · have i1 : (k : Int) < (n : Int) := by omega
      have i3 : (0 : Int) ≤ (k : Int) := by omega
      go_wp2_with fail
      go_loopw [19] (fun ti wr => ∃ (j : Nat) (us : List Value) (M : List (List Nat)), j ≤ m ∧ ti = .int .i64 j ∧ Hid (OwnMat w.heap.size wr (.slice (some ⟨g, 0, none⟩) n n) us M) ∧ Hid (Sep us) ∧ Hid (MadeTo M n m k j) ∧ Hid (w.grownBy wr none)) (fun ti _ => m - (intOf ti).toNat)
      case atStart => exact ⟨0, us, M, by omega, rfl, OK.out, SP.out, MT.out, GK.out⟩
      case round =>
        clear OK SP MT GK us M
        obtain ⟨j, us, M, hj, rfl, OK, SP, MT, GK⟩ := hrel
        by_cases hjl : j < m
        · have j1 : (j : Int) < (m : Int) := by omega
          have j3 : (0 : Int) ≤ (j : Int) := by omega
          have hkM : k < M.length := by rw [MT.out.1]; exact hlt
          obtain ⟨g1, e1, z1, hc, hf, z2, z3, z4⟩ := OK.out.place (k := k) hkM
          obtain rfl : g = g1 := (by injection e1 with e1; injection e1 with e1)
          have ov := OK.out.vec k hkM
          obtain ⟨pk, nk, ck, ek, hnk⟩ := ov.vec.opened
          rw [ek] at hc ov
          have OV : Hid (∀ w', wr.grownBy w' none → Own w.heap.size w' (.slice pk nk ck) (M.getD k [])) := fun w' g => ov.keep g
          have HLN : Hid ((M.getD k []).length + 1 ≤ 140737488351232) := by have := MT.out.2.2.1 hlt; show _ ≤ _; omega
          have ST : Hid (∀ w2 w3 v' x, wr.grownBy w2 none → w2.grownBy w3 (Value.slice pk nk ck).ownBlock → Own w.heap.size w3 v' (M.getD k [] ++ [x]) → (v'.ownBlock = (Value.slice pk nk ck).ownBlock ∨ v'.ownBlock = some w2.heap.size) →
              (∃ u0, w3.cell? ⟨g, k, none⟩ = some u0) ∧ w3.frozen? ⟨g, k, none⟩ = false ∧ ∃ M', OwnMat w.heap.size (w3.setCell ⟨g, k, none⟩ v') (.slice (some ⟨g, 0, none⟩) n n) (us.set k v') M' ∧ Sep (us.set k v') ∧ MadeTo M' n m k (j + 1) ∧ w.grownBy (w3.setCell ⟨g, k, none⟩ v') none) := fun w2 w3 v' x g2 g3 o3 at3 => by
            have hsm := OK.out.same
            have h := (OK.out.keep g2).regrow SP.out hkM (by rw [ek]; exact g3) o3
            have hsz := g2.size
            refine ⟨⟨_, h.1⟩, h.2.1, _, h.2.2.1, SP.out.regrow (H := w2.heap.size) (by omega) (fun i hi => (OK.out.hiRow i hi).mono hsz) (by rw [ek]; exact at3), MT.out.more hlt x, ?_⟩
            refine grown_new (grown_new (grown_trans GK.out g2) g3 (fun i e => ?_)) h.2.2.2 (fun i e => by have := Option.some.inj e; have := HB.out; omega)
            exact ov.lo i e
          have GW : Hid (w.grownBy wr none) := GK.out
          have HSZ : Hid (w.heap.size ≤ wr.heap.size) := GK.out.size
          clear z1 z2 z3 z4 e1 ov ek hnk hkM OK SP MT hf
          by_cases hL0 : L = 0
          · have hLz : ¬ ((0 : Int) < (L : Int)) := by omega
            clear hL0
            go_wp2_with (at_builtin; refine wpList_append_byteZ rfl _ _ rfl (.slice pk nk ck) ⟨wr.heap.size, 0, none⟩ rfl rfl (B := w.heap.size) (OV.out _ (World.grownBy_alloc _ _ none)) (cell_new1 _ _ rfl) (by omega) (by omega) (by have := HSZ.out; simp; omega) HLN.out ?_; intro v' w3 x o3 g3 at3; obtain ⟨pv, nv, cv, rfl, hnv⟩ := o3.vec.opened; obtain ⟨⟨u0, hc3⟩, hf3, M', om', sp', mt', gr'⟩ := ST.out _ w3 _ x (World.grownBy_alloc wr _ none) g3 o3 at3; have OM' : Hid (OwnMat w.heap.size (w3.setCell ⟨g, k, none⟩ (.slice pv nv cv)) (.slice (some ⟨g, 0, none⟩) n n) (us.set k (.slice pv nv cv)) M') := om'; have RR : Hid (Sep (us.set k (.slice pv nv cv)) ∧ MadeTo M' n m k (j + 1) ∧ w.grownBy (w3.setCell ⟨g, k, none⟩ (.slice pv nv cv)) none) := ⟨sp', mt', gr'⟩; clear o3 g3 at3 om' sp' mt' gr' hnv hc)
            go_roundw
            case rel => exact ⟨j + 1, us.set k (.slice pv nv cv), M', by omega, by go_num, OM'.out, RR.out.1, RR.out.2.1, RR.out.2.2⟩
            case measure => simp [intOf]; omega
          · have hLp : (0 : Int) < (L : Int) := by omega
            have hLn : ¬ (L : Int) = 0 := by omega
            have hLN : 0 < L := by omega
            have hkm : (k : Int) * (m : Int) = ((k * m : Nat) : Int) := by simp
            have hQ : k * m ≤ 81 := Nat.le_trans (Nat.mul_le_mul (show k ≤ 9 by omega) hm) (by decide)
            generalize k * m = QQ at *
            have tm : ((QQ : Int) + (j : Int)).tmod (L : Int) = (((QQ + j) % L : Nat) : Int) := by have h := tmod_nat (QQ + j) L; rwa [Int.natCast_add] at h
            have td : ((QQ : Int) + (j : Int)).tdiv (L : Int) = (((QQ + j) / L : Nat) : Int) := by have h := tdiv_nat (QQ + j) L; rwa [Int.natCast_add] at h
            have hT : (QQ + j) % L < L := Nat.mod_lt _ hLN
            have hD : (QQ + j) / L ≤ 1000 := Nat.le_trans (Nat.div_le_self _ _) (by omega)
            generalize (QQ + j) % L = TT at *
            generalize (QQ + j) / L = DD at *
            obtain ⟨b, off, rfl, hcx, hx256⟩ := (VL.out wr.drew (grown_trans GK.out (grown_drewN _ 1))).spot (k := TT) (by have := HL.out; omega)
            generalize xs.getD TT 0 = z at *
            have t1 : (TT : Int) < (L : Int) := by omega
            have t3 : (0 : Int) ≤ (TT : Int) := by omega
            have wb : IntKind.i64.wrap ((QQ : Int)) = (QQ : Int) := IntWalk.i64_in _ (by omega)
            have wd : IntKind.i64.wrap ((QQ : Int) + (j : Int)) = (QQ : Int) + (j : Int) := IntWalk.i64_in _ (by omega)
            have HC : Hid (wr.drew.cell? ⟨b, off + TT, none⟩ = some (.int .u8 (z : Int))) := hcx
            have HCR : Hid (wr.drew.cell? ⟨g, k, none⟩ = some (.slice pk nk ck)) := hc
            have GD : Hid (wr.grownBy wr.drew none) := grown_drewN _ 1
            clear hcx
            go_wp2_with fail
            go_region_held3 (fun w' => w'.cell? ⟨b, off + TT, none⟩ = some (.int .u8 (z : Int))) (exact HC.out) (fail)
            all_goals
              clear HC hkm tm td wb wd hQ hD t1 t3 hc
              generalize wr.drew = w9 at *
              have hcr := HCR.out
              go_wp2_with (at_builtin; refine wpList_append_byteZ rfl _ _ rfl (.slice pk nk ck) ⟨w9.heap.size, 0, none⟩ rfl rfl (B := w.heap.size) (OV.out _ (grown_trans GD.out (World.grownBy_alloc _ _ none))) (cell_new1 _ _ rfl) (by omega) (by omega) (by have := HSZ.out; have := GD.out.size; simp; omega) HLN.out ?_; intro v' w3 x o3 g3 at3; obtain ⟨pv, nv, cv, rfl, hnv⟩ := o3.vec.opened; obtain ⟨⟨u0, hc3⟩, hf3, M', om', sp', mt', gr'⟩ := ST.out _ w3 _ x (grown_trans GD.out (World.grownBy_alloc _ _ none)) g3 o3 at3; have OM' : Hid (OwnMat w.heap.size (w3.setCell ⟨g, k, none⟩ (.slice pv nv cv)) (.slice (some ⟨g, 0, none⟩) n n) (us.set k (.slice pv nv cv)) M') := om'; have RR : Hid (Sep (us.set k (.slice pv nv cv)) ∧ MadeTo M' n m k (j + 1) ∧ w.grownBy (w3.setCell ⟨g, k, none⟩ (.slice pv nv cv)) none) := ⟨sp', mt', gr'⟩; clear o3 g3 at3 om' sp' mt' gr' hnv hcr)
              go_roundw
              case rel => exact ⟨j + 1, us.set k (.slice pv nv cv), M', by omega, by go_num, OM'.out, RR.out.1, RR.out.2.1, RR.out.2.2⟩
              case measure => simp [intOf]; omega
        · have hjm : j = m := by omega
          subst hjm
          go_wp2_with fail
          go_roundw
          case rel => exact ⟨k + 1, us, M, by omega, by go_num, OK.out, SP.out, MT.out.next hlt, GK.out⟩
          case measure => simp [intOf]; omega
    · have hkn : n = k := by omega
      subst hkn
      go_wp2
      go_ret
      exact ⟨_, _, _, us, M, rfl, OK.out, MT.out.shape, GK.out⟩
end Go.Proofs.Ytdgdbjkgecfgeaa
