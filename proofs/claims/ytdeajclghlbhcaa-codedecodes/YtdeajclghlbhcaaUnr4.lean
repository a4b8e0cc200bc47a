/- Contracts of slices.Max and code.unravel. -/
import Derived.Test.YtdeajclghlbhcaaLine4
import Derived.Test.YtdeajclghlbhcaaInvert
import Derived.Test.YtdeajclghlbhcaaMulInv
set_option linter.unusedVariables false
namespace Go.Proofs.Ytdeajclghlbhcaa
open Go.RowKit

/-- One of a list, and none is above it. -/
structure IsMax (ls : List Int) (m : Int) (k : Nat) : Prop where
  up : ∀ j, j < k → ls.getD j 0 ≤ m
  is : ∃ j, j < k ∧ m = ls.getD j 0

set_option maxHeartbeats 1600000 in
theorem max_any {w : World} {v : Value} {ls : List Int} (hv : IVec w v ls) (h1 : 1 ≤ ls.length) :
    Calls Try.prog 54 #[v] w fun e w' => ∃ m : Int, e = .returned (.int .i64 m) ∧ IsMax ls m ls.length ∧ w.grownBy w' none := by
  obtain ⟨q, N, cap, rfl, hN⟩ := hv.opened
  have hNl : N ≤ 140737488351232 := by rw [hN]; exact hv.len
  have HN : Hid (N = ls.length) := hN
  have KV : Hid (∀ w', w.grownBy w' none → IVec w' (.slice q N cap) ls) := fun w' g => hv.keep g
  have hN1 : (1 : Int) ≤ (N : Int) := by omega
  have hN2 : 0 < N := by omega
  have hN3 : ¬ (N : Int) < 1 := by omega
  have hN4 : (0 : Int) < (N : Int) := by omega
  obtain ⟨b, off, rfl, hc⟩ := hv.spot (k := 0) (by omega)
  rw [Nat.add_zero] at hc
  clear hN hv h1
  have H0 : Hid (ls.getD 0 0 = ls.getD 0 0) := rfl
  have HS : Hid (IsMax ls (ls.getD 0 0) 1) := ⟨fun j hj => by rw [show j = 0 from by omega]; exact Int.le_refl _, 0, by omega, rfl⟩
  generalize hz : ls.getD 0 0 = z0 at *
  clear hz H0
  go_enter Try.func54, Try.ntmps54
  go_wp2
  go_loopw [3, 4] (fun tm ti wr => ∃ (j : Nat) (m : Int), 1 ≤ j ∧ j ≤ N ∧ ti = .int .i64 j ∧ tm = .int .i64 m ∧ Hid (IsMax ls m j) ∧ Hid (w.grownBy wr none)) (fun _ ti _ => N - (intOf ti).toNat)
  case atStart => exact ⟨1, z0, by omega, by omega, rfl, rfl, HS, World.grownBy.refl _ _⟩
  case round =>
    clear HS hc
    obtain ⟨j, m, hj1, hj, rfl, rfl, HM, GK⟩ := hrel
    by_cases hlt : j < N
    · have i1 : (j : Int) < (N : Int) := by omega
      have i3 : (0 : Int) ≤ (j : Int) := by omega
      obtain ⟨b1, o1, e1, hr⟩ := (KV.out _ GK.out).spot (k := j) (by have := HN.out; omega)
      obtain ⟨rfl, rfl⟩ : b = b1 ∧ off = o1 := by
        injection e1 with e1
        injection e1 with e2 e3
        exact ⟨e2, e3⟩
      have HM' : Hid (IsMax ls (if m < ls.getD j 0 then ls.getD j 0 else m) (j + 1)) := by
        obtain ⟨u, i, hi, e⟩ := HM.out
        refine ⟨fun t ht => ?_, ?_⟩
        · by_cases c : t = j
          · subst c; split <;> omega
          · have := u t (by omega); split <;> omega
        · by_cases c : m < ls.getD j 0
          · exact ⟨j, by omega, if_pos c⟩
          · exact ⟨i, by omega, by rw [if_neg c]; exact e⟩
      generalize ls.getD j 0 = z at *
      clear e1 HM
      go_wp2
      go_roundw
      case rel => exact ⟨j + 1, _, by omega, by omega, by go_num, rfl, HM', GK⟩
      case measure => simp [intOf]; omega
    · obtain rfl : j = N := by omega
      go_wp2
      go_ret
      exact ⟨m, rfl, by have h := HM.out; rw [HN.out] at h; exact h, GK.out⟩

/-- The generator's rows that stand in line. -/
def lineRows (k : Nat) (F : Nat → Nat) : List (List Nat) := (List.range k).map fun i => genRow k (F i)
theorem lineRows_shape (k : Nat) (F : Nat → Nat) : Shape (lineRows k F) k k := ⟨by simp [lineRows], fun j hj => by simp [lineRows, List.getD, hj, genRow_len]⟩
theorem lineRows_at {k : Nat} {F : Nat → Nat} {i j : Nat} (hi : i < k) (hj : j < k) : at2 (lineRows k F) i j = MX.gen k (F i) j := by
  have e : (lineRows k F).getD i [] = genRow k (F i) := by simp [lineRows, List.getD, hi]
  unfold at2
  rw [e, genRow_get hj]
theorem lineRows_inv {k : Nat} {F : Nat → Nat} (h2 : k ≤ 255) (lt : ∀ i, i < k → F i < 255) (inj : ∀ i i', i < k → i' < k → F i = F i' → i = i') : ¬ NoInv k (at2 (lineRows k F)) := by
  obtain ⟨c, hc⟩ := MX.gen_inv (n := 255) (Nat.le_refl _) h2 F lt inj
  intro h
  exact h ⟨c, hc.sb, (MX.mm_congr (MX.Eq2.refl _ _ _) (fun i j hi hj => lineRows_at hi hj)).trans hc.l⟩
theorem lineRows_one {k : Nat} {F : Nat → Nat} (h : ∀ i, i < k → F i = i) : MX.Inv k (at2 (lineRows k F)) (at2 (lineRows k F)) := by
  have e : MX.Eq2 k k (at2 (lineRows k F)) MX.one := fun i j hi hj => by
    rw [lineRows_at hi hj, h i hi]
    unfold MX.gen
    rw [if_pos hi]
  have s : MX.Small k k (at2 (lineRows k F)) := fun i j hi hj => by rw [lineRows_at hi hj]; exact MX.gen_lt _ _ _
  have m : MX.Eq2 k k (MX.mm k (at2 (lineRows k F)) (at2 (lineRows k F))) MX.one := (MX.mm_congr e e).trans (MX.mm_one (MX.one_small k k))
  exact ⟨s, s, m, m⟩

theorem intsOf_get {F : Nat → Nat} {k j : Nat} (h : j < k) : (intsOf F k k).getD j 0 = (F j : Int) := by simp [intsOf, List.getD, h]

set_option maxHeartbeats 3200000 in
theorem unravel_any {w : World} {v : Value} {F : Nat → Nat} {k : Nat} (hv : IVec w v (intsOf F k k)) (h1 : 1 ≤ k) (h2 : k < 255) (lt : ∀ i, i < k → F i < 255) (own : ∀ i, i < k → F i = i ∨ k ≤ F i) (inj : ∀ i i', i < k → i' < k → F i = F i' → i = i') :
    Calls Try.prog 47 #[v] w fun e w' => ∃ p n c us Y, e = .returned (.tuple #[.slice p n c, .int .i64 0]) ∧ OwnMat w.heap.size w' (.slice p n c) us Y ∧ Shape Y k k ∧ MX.Inv k (at2 (lineRows k F)) (at2 Y) ∧ w.grownBy w' none := by
  obtain ⟨q, N, cap, rfl, hN⟩ := hv.opened
  obtain rfl : N = k := by rw [intsOf_len] at hN; exact hN
  have KV : Hid (∀ w', w.grownBy w' none → IVec w' (.slice q N cap) (intsOf F N N)) := fun w' g => hv.keep g
  have HP : Hid ((∀ i, i < N → F i < 255) ∧ (∀ i, i < N → F i = i ∨ N ≤ F i) ∧ ∀ i i', i < N → i' < N → F i = F i' → i = i') := ⟨lt, own, inj⟩
  clear hN hv lt own inj
  go_enter Try.func47, Try.ntmps47
  go_wp2_with (at_make; refine wpList_make_rows rfl _ _ rfl N rfl rfl (by omega) ?_; intro w1 p om g1; have OM : Hid (OwnMat w.heap.size w1 (.slice p N N) (List.replicate N (.slice none 0 0)) (upTo (fun i => genRow N (F i)) N 0)) := (by rw [upTo_zero]; exact om); have G1 : Hid (w.grownBy w1 none) := g1; clear om g1)
  go_loopw [14] (fun ti wr => ∃ (j : Nat) (us : List Value), j ≤ N ∧ ti = .int .i64 j ∧ Hid (OwnMat w.heap.size wr (.slice p N N) us (upTo (fun i => genRow N (F i)) N j)) ∧ Hid (Sep us) ∧ Hid (w.grownBy wr none)) (fun ti _ => N - (intOf ti).toNat)
  case atStart => exact ⟨0, _, by omega, rfl, OM, Sep.nils N, G1⟩
  case round =>
    clear OM G1
    obtain ⟨j, us, hj, rfl, OK, SK, GK⟩ := hrel
    by_cases hlt : j < N
    · have i1 : (j : Int) < (N : Int) := by omega
      have i3 : (0 : Int) ≤ (j : Int) := by omega
      obtain ⟨bl, ol, rfl, hcl⟩ := (KV.out _ GK.out).spot (k := j) (by rw [intsOf_len]; exact hlt)
      rw [intsOf_get hlt] at hcl
      have HX : Hid ((upTo (fun i => genRow N (F i)) N j).set j (genRow N (F j)) = upTo (fun i => genRow N (F i)) N (j + 1)) := upTo_set (fun i => genRow N (F i)) _ _
      have HL : Hid (j < (upTo (fun i => genRow N (F i)) N j).length) := by show _ < _; rw [upTo_len]; exact hlt
      have CJ : Hid (Calls Try.prog 26 #[.int .i64 (N : Int), .int .i64 (F j : Int)] wr fun e w'' => ∃ p n c, e = .returned (.slice p n c) ∧ Own wr.heap.size w'' (.slice p n c) (genRow N (F j)) ∧ wr.grownBy w'' none) := row_any N (F j) wr (by omega) (by have := HP.out.1 j hlt; omega)
      generalize upTo (fun i => genRow N (F i)) N j = XK at *
      generalize genRow N (F j) = YK at *
      generalize F j = fj at *
      obtain ⟨g, rfl, _⟩ := OK.out.place (k := j) HL.out
      go_wp2_with (go_at_call 26; refine CJ.out.mono ?_; rintro e w2 ⟨p2, n2, c2, rfl, o2, g2⟩; obtain ⟨g', e', hb, hc, hf, hput, hown, hgr⟩ := (OK.out.keep g2).place (k := j) HL.out; obtain rfl : g = g' := (by injection e' with e'; injection e' with e'); have OU : Hid (Own wr.heap.size w2 (.slice p2 n2 c2) YK) := o2; have G2 : Hid (wr.grownBy w2 none) := g2; have PUT : Hid _ := hput; have GR : Hid _ := hgr; have HB : Hid (w.heap.size ≤ g) := hb; clear o2 g2 e' hput hgr hown hb)
      have R : Hid (OwnMat w.heap.size (w2.setCell ⟨g, j, none⟩ (.slice p2 n2 c2)) (.slice (some ⟨g, 0, none⟩) N N) (us.set j (.slice p2 n2 c2)) (upTo (fun i => genRow N (F i)) N (j + 1)) ∧ Sep (us.set j (.slice p2 n2 c2)) ∧ w.grownBy (w2.setCell ⟨g, j, none⟩ (.slice p2 n2 c2)) none) := by
        refine ⟨?_, SK.out.put (H := wr.heap.size) (OK.out.hiRow) OU.out.lo j, ?_⟩
        · rw [← HX.out]
          exact PUT.out _ _ (OU.out.down GK.out.size)
        · exact grown_new (grown_trans GK.out G2.out) (GR.out _) (fun i e => by have := Option.some.inj e; have := HB.out; omega)
      clear OK SK GK OU G2 PUT GR HX HL HB CJ hcl
      go_roundw
      case rel => exact ⟨j + 1, us.set j (.slice p2 n2 c2), by omega, by go_num, R.out.1, R.out.2.1, R.out.2.2⟩
      case measure => simp [intOf]; omega
    · obtain rfl : j = N := by omega
      have OK' : Hid (OwnMat w.heap.size wr (.slice p j j) us (lineRows j F)) := by
        have h := OK.out
        rw [upTo_all] at h
        exact h
      have MXC : Hid (Calls Try.prog 54 #[.slice q j cap] wr fun e w' => ∃ m : Int, e = .returned (.int .i64 m) ∧ IsMax (intsOf F j j) m (intsOf F j j).length ∧ wr.grownBy w' none) := max_any (KV.out _ GK.out) (by rw [intsOf_len]; exact h1)
      clear OK SK
      go_wp2_with fail
      refine MXC.out.mono ?_
      rintro e w3 ⟨m, rfl, im, g3⟩
      rw [intsOf_len] at im
      have G3 : Hid (w.grownBy w3 none) := grown_trans GK.out g3
      have O3 : Hid (OwnMat w.heap.size w3 (.slice p j j) us (lineRows j F)) := OK'.out.keep g3
      clear g3 OK' GK MXC
      by_cases hm : m < (j : Int)
      · have HO : Hid (∀ i, i < j → F i = i) := fun i hi => by
          have a := im.up i hi
          rw [intsOf_get hi] at a
          rcases HP.out.2.1 i hi with c | c
          · exact c
          · omega
        clear im
        go_wp2
        go_ret2
        exact ⟨p, j, j, us, _, rfl, O3.out, lineRows_shape j F, lineRows_one HO.out, G3.out⟩
      · have sh := lineRows_shape j F
        have IV : Hid (Calls Try.prog 55 #[.slice p j j] w3 fun e w' => ∃ p' k c us' Y, e = .returned (.tuple #[.slice p' k c, .int .i64 0]) ∧ Ans (lineRows j F).length (lineRows j F) w3 w' (.slice p' k c) us' Y) := invert_yes O3.out.mat (may_of sh h1 (by omega) h1 (by omega)) (by rw [sh.len, sh.row 0 (by omega)]) (by rw [sh.len]; exact lineRows_inv (by omega) HP.out.1 HP.out.2.2)
        have SL : Hid ((lineRows j F).length = j) := sh.len
        clear im sh
        go_wp2_with (go_at_call 55; refine IV.out.mono ?_; rintro e w4 ⟨p4, n4, c4, u4, Y, rfl, an⟩; have AN : Hid _ := an; clear an)
        go_ret2
        have an := AN.out
        rw [SL.out] at an
        exact ⟨p4, n4, c4, u4, Y, rfl, an.om.down G3.out.size, an.shape, an.inv, grown_trans G3.out an.grown⟩
end Go.Proofs.Ytdeajclghlbhcaa
