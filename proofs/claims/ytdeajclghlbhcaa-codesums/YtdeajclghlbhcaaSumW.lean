/- The walk of CodeSums. -/
import Derived.Test.YtdeajclghlbhcaaSumM4
import Derived.Test.YtdeajclghlbhcaaRefRows
set_option linter.unusedVariables false
set_option linter.unusedSimpArgs false
namespace Go.Proofs.Ytdeajclghlbhcaa.codeSums
open Go.ChangeShapes Go.WideShapes Go.ChangeAt Go.RowKit

/-- The sum is made up to the place j of row i. -/
def Part2 (A B Y : List (List Nat)) (k L i j : Nat) : Prop := Shape Y k L ∧ ∀ r t, t < L → at2 Y r t = if r < i ∨ (r = i ∧ t < j) then at2 A r t ^^^ at2 B r t else at2 A r t
theorem Part2.next {A B Y : List (List Nat)} {k L i j : Nat} (h : Part2 A B Y k L i j) (hi : i < k) (hj : j < L) : Part2 A B (Y.set i ((Y.getD i []).set j (at2 A i j ^^^ at2 B i j))) k L i (j + 1) := by
  refine ⟨shape_set h.1 hi, fun r t ht => ?_⟩
  rw [at2_spot (by rw [h.1.len]; exact hi) (by rw [h.1.row i hi]; exact hj), h.2 r t ht]
  by_cases e : r = i ∧ t = j
  · rw [if_pos e, if_pos (by omega), e.1, e.2]
  · rw [if_neg e]
    have : (r < i ∨ (r = i ∧ t < j + 1)) = (r < i ∨ (r = i ∧ t < j)) := by apply propext; omega
    simp only [this]
theorem Part2.row {A B Y : List (List Nat)} {k L i : Nat} (h : Part2 A B Y k L i L) : Part2 A B Y k L (i + 1) 0 := by
  refine ⟨h.1, fun r t ht => ?_⟩
  rw [h.2 r t ht]
  have : (r < i ∨ (r = i ∧ t < L)) = (r < i + 1 ∨ (r = i + 1 ∧ t < 0)) := by apply propext; omega
  simp only [this]

theorem opened_len {w : World} {p : Option Addr} {n c : Nat} {us : List Value} {X : List (List Nat)} (h : Mat w (.slice p n c) us X) : n = us.length ∧ n = X.length ∧ n ≤ 140737488351232 ∧ n ≤ c ∧ c ≤ 9223372036854775807 := by
  have hs := h.same
  obtain ⟨h2, p', cap', e, h3, h4, _⟩ := h.row
  injection e with e1 e2 e3
  unfold maxLen at h4
  omega

theorem mat_len {w : World} {p : Option Addr} {n c : Nat} {us : List Value} {X : List (List Nat)} (h : Mat w (.slice p n c) us X) : n = X.length := (opened_len h).2.1
theorem spot0 {B : Nat} {w : World} {p : Option Addr} {n cap : Nat} {us : List Value} {X : List (List Nat)} (h : OwnMat B w (.slice p n cap) us X) (hk : 0 < X.length) : ∃ g, p = some ⟨g, 0, none⟩ := by
  obtain ⟨g, e, _⟩ := h.place (k := 0) hk
  exact ⟨g, e⟩
theorem spotOf {B : Nat} {w : World} {g n cap : Nat} {us : List Value} {X : List (List Nat)} (h : OwnMat B w (.slice (some ⟨g, 0, none⟩) n cap) us X) {k : Nat} (hk : k < X.length) : w.cell? ⟨g, k, none⟩ = some (us.getD k undef) := by
  obtain ⟨g', e', _, hr, _⟩ := h.place (k := k) hk
  obtain rfl : g = g' := by injection e' with e'; injection e' with e'
  exact hr

set_option maxHeartbeats 12800000 in
set_option maxRecDepth 100000 in
theorem walk_nat {w : World} {K Mo Lo c : Nat} {xb xp : Value} {Bs Ps : List Nat} (hK : K < 256) (hM : Mo < 256) (hL : Lo < 256) (vb : Vec w xb Bs) (vp : Vec w xp Ps) (hc : c < 256) :
    Calls Try.prog 7 #[.agg #[.int .u8 (K : Int), .int .u8 (Mo : Int), .int .u8 (Lo : Int), xb, xp], .int .u8 (c : Int)] w fun e w' => e = .returned (.bool true) ∧ w.grownBy w' none := by
  obtain ⟨pb, nb, cb, rfl, hq1⟩ := vb.opened
  obtain ⟨pp, np, cp, rfl, hq2⟩ := vp.opened
  clear hq1 hq2
  have VB : Hid (∀ w', w.grownBy w' none → Vec w' (.slice pb nb cb) Bs) := fun w' g => vb.keep g
  have k12 : K % 12 < 12 := Nat.mod_lt _ (by decide)
  have m12 : Mo % 12 < 12 := Nat.mod_lt _ (by decide)
  have l20 : Lo % 20 < 20 := Nat.mod_lt _ (by decide)
  have SZ : Hid (∀ W, Calls Try.prog 23 #[.agg #[.int .u8 (K : Int), .int .u8 (Mo : Int), .int .u8 (Lo : Int), .slice pb nb cb, .slice pp np cp]] W fun e w' => e = .returned (.tuple #[.int .i64 ((1 + K % 12 : Nat) : Int), .int .i64 ((2 + K % 12 + Mo % 12 : Nat) : Int)]) ∧ W.grownBy w' none) := fun W => sizes_any hK hM
  have DT : Hid (∀ W (d : Nat), d < 256 → w.grownBy W none → Calls Try.prog 24 #[.agg #[.int .u8 (K : Int), .int .u8 (Mo : Int), .int .u8 (Lo : Int), .slice pb nb cb, .slice pp np cp], .int .u8 (d : Int)] W fun e w' => ∃ p m cc us D, e = .returned (.slice p m cc) ∧ OwnMat W.heap.size w' (.slice p m cc) us D ∧ Sep us ∧ Shape D (1 + K % 12) (Lo % 20) ∧ W.grownBy w' none) := fun W d hd g => data_any hK hM hL hd (VB.out _ g)
  obtain ⟨k, HK⟩ : ∃ k, Hid (k = 1 + K % 12) := ⟨_, rfl⟩
  obtain ⟨n, HN⟩ : ∃ n, Hid (n = 2 + K % 12 + Mo % 12) := ⟨_, rfl⟩
  obtain ⟨L, HL⟩ : ∃ L, Hid (L = Lo % 20) := ⟨_, rfl⟩
  rw [← HK.out, ← HN.out] at SZ
  rw [← HK.out, ← HL.out] at DT
  have hk1 : 1 ≤ k := by have := HK.out; omega
  have hkn : k < n := by have := HK.out; have := HN.out; omega
  have hn : n ≤ 255 := by have := HN.out; omega
  have hL20 : L < 20 := by have := HL.out; omega
  obtain ⟨WB, HWB⟩ : ∃ WB, Hid (WB = w.alloc (.cells #[.int .u8 (K : Int), .int .u8 (Mo : Int), .int .u8 (Lo : Int), .slice pb nb cb, .slice pp np cp] 52)) := ⟨_, rfl⟩
  have HB : Hid (∀ w', WB.grownBy w' none → w'.cell? ⟨w.heap.size, 0, none⟩ = some (.int .u8 (K : Int)) ∧ w'.cell? ⟨w.heap.size, 1, none⟩ = some (.int .u8 (Mo : Int)) ∧ w'.cell? ⟨w.heap.size, 2, none⟩ = some (.int .u8 (Lo : Int)) ∧ w'.cell? ⟨w.heap.size, 3, none⟩ = some (.slice pb nb cb) ∧ w'.cell? ⟨w.heap.size, 4, none⟩ = some (.slice pp np cp)) := fun w' g => by
    have h := heap_alloc_new w (.cells #[.int .u8 (K : Int), .int .u8 (Mo : Int), .int .u8 (Lo : Int), .slice pb nb cb, .slice pp np cp] 52)
    rw [← HWB.out] at h
    exact ⟨g.cell (cell_of_row _ _ 0 _ _ _ h) (by simp), g.cell (cell_of_row _ _ 1 _ _ _ h) (by simp), g.cell (cell_of_row _ _ 2 _ _ _ h) (by simp), g.cell (cell_of_row _ _ 3 _ _ _ h) (by simp), g.cell (cell_of_row _ _ 4 _ _ _ h) (by simp)⟩
  have GB : Hid (w.grownBy WB none) := by rw [HWB.out]; exact World.grownBy_alloc _ _ none
  clear vb vp k12 m12 l20 HK HN HL VB
  go_enter Try.func7, Try.ntmps7
  go_wp2_with fail
  rw [← HWB.out]
  refine (SZ.out _).mono ?_
  rintro e w1 ⟨rfl, g1⟩
  have G1 : Hid (WB.grownBy w1 none) := g1
  clear g1 SZ HWB
  go_wp2_with fail
  go_region_held3 (fun w' => w'.cell? ⟨w.heap.size, 0, none⟩ = some (.int .u8 (K : Int)) ∧ w'.cell? ⟨w.heap.size, 1, none⟩ = some (.int .u8 (Mo : Int)) ∧ w'.cell? ⟨w.heap.size, 2, none⟩ = some (.int .u8 (Lo : Int)) ∧ w'.cell? ⟨w.heap.size, 3, none⟩ = some (.slice pb nb cb) ∧ w'.cell? ⟨w.heap.size, 4, none⟩ = some (.slice pp np cp))
    (first | exact HB.out _ (gb_drew G1.out) | exact HB.out _ G2.out.1 | exact HB.out _ G3.out.1)
    (first
      | (go_at_call_of 24 (Value.int IntKind.u8 0); refine (DT.out _ 0 (by decide) (grown_trans GB.out (gb_drew G1.out))).mono ?_; rintro e w2 ⟨pa, na, ca, ua, A, rfl, oa, sa, shA, g2⟩; have G2 : Hid (WB.grownBy w2 none ∧ w1.drew.grownBy w2 none) := ⟨grown_trans (gb_drew G1.out) g2, g2⟩; have OA : Hid (∀ w', w2.grownBy w' none → Mat w' (.slice pa na ca) ua A) := fun w' g => oa.mat.keep g; have SA : Hid (Shape A k L) := shA; clear oa sa shA g2)
      | (go_at_call_of 24 (Value.int IntKind.u8 (c : Int)); refine (DT.out _ c hc (grown_trans GB.out G2.out.1)).mono ?_; rintro e w3 ⟨pe, ne, ce, ue, B, rfl, ob, sb, shB, g3⟩; have G3 : Hid (WB.grownBy w3 none ∧ w2.grownBy w3 none) := ⟨grown_trans G2.out.1 g3, g3⟩; have OB : Hid (∀ w', w3.grownBy w' none → Mat w' (.slice pe ne ce) ue B) := fun w' g => ob.mat.keep g; have SB : Hid (Shape B k L) := shB; clear ob sb shB g3))
  have KA : Hid (∀ w', w3.grownBy w' none → Mat w' (.slice pa na ca) ua A) := fun w' g => OA.out _ (grown_trans G3.out.2 g)
  have GW : Hid (w.grownBy w3 none) := grown_trans GB.out G3.out.1
  have hA := KA.out _ (World.grownBy.refl _ _)
  have hB := OB.out _ (World.grownBy.refl _ _)
  have MA : Hid (∀ i j, at2 A i j < 256) := mat_small hA
  have MB : Hid (∀ i j, at2 B i j < 256) := mat_small hB
  clear hA hB OA G1 G2 G3 HB GB DT
  go_wp2_with fail
  refine (refCopy_sep (KA.out _ (World.grownBy.refl _ _))).mono ?_
  rintro e w4 ⟨v, us, rfl, om, ss, g4⟩
  obtain ⟨ps, ns, cs, rfl, hq⟩ := om.mat.row.opened
  have hns := mat_len om.mat
  have hnk : ns = k := by rw [hns, SA.out.len]
  clear hq hns
  subst hnk
  have SS : Hid (Sep us) := ss
  have OM : Hid (∃ Y, OwnMat w3.heap.size w4 (.slice ps ns cs) us Y ∧ Part2 A B Y ns L 0 0) := ⟨A, om, SA.out, fun r t ht => by rw [if_neg (by omega)]⟩
  have G4 : Hid (w3.grownBy w4 none) := g4
  obtain ⟨gs, rfl⟩ := spot0 om (by rw [SA.out.len]; omega)
  clear om ss g4
  go_wp2_with fail
  go_loopw [34] (fun ti wr => ∃ i : Nat, i ≤ ns ∧ ti = .int .i64 i ∧ Hid (∃ Y, OwnMat w3.heap.size wr (.slice (some ⟨gs, 0, none⟩) ns cs) us Y ∧ Part2 A B Y ns L i 0) ∧ Hid (w3.grownBy wr none)) (fun ti _ => ns - (intOf ti).toNat)
  case atStart => exact ⟨0, by omega, rfl, OM, G4⟩
  case round =>
    clear OM G4
    obtain ⟨i, hi, rfl, OM, GK⟩ := hrel
    obtain ⟨wa, hwa⟩ : ∃ wa, wa = wr := ⟨wr, rfl⟩
    subst hwa
    by_cases hlt : i < ns
    · have i1 : (i : Int) < (ns : Int) := by omega
      have i3 : (0 : Int) ≤ (i : Int) := by omega
      obtain ⟨Y, oY, pY⟩ := OM.out
      have hr := spotOf oY (k := i) (by rw [pY.1.len]; exact hlt)
      have hv := oY.vec i (by rw [pY.1.len]; exact hlt)
      obtain ⟨pi, ni, ci, ei, hni⟩ := hv.vec.opened
      obtain rfl : ni = L := by rw [hni]; exact pY.1.row i hlt
      have EI : Hid (us.getD i undef = .slice pi ni ci) := ei
      rw [ei] at hr
      clear hv ei hni pY oY Y
      go_wp2_with fail
      clear hr
      go_loopw [42] (fun tj wr => ∃ j : Nat, j ≤ ni ∧ tj = .int .i64 j ∧ Hid (∃ Y, OwnMat w3.heap.size wr (.slice (some ⟨gs, 0, none⟩) ns cs) us Y ∧ Part2 A B Y ns ni i j) ∧ Hid (w3.grownBy wr none)) (fun tj _ => ni - (intOf tj).toNat)
      case atStart => exact ⟨0, by omega, rfl, OM, GK⟩
      case round =>
        clear OM GK
        obtain ⟨j, hj, rfl, OM, GK⟩ := hrel
        by_cases hjl : j < ni
        · have j1 : (j : Int) < (ni : Int) := by omega
          have j3 : (0 : Int) ≤ (j : Int) := by omega
          obtain ⟨Y, oY, pY⟩ := OM.out
          have oD := oY.keep (grown_drewN wr 1)
          have hYl : i < Y.length := by rw [pY.1.len]; exact hlt
          have hrs := spotOf oD hYl
          have hv := oD.vec i hYl
          rw [EI.out] at hrs hv
          obtain ⟨gi, rfl, hz, hcc, hf, h256, hset, hgr⟩ := hv.spot (k := j) (by rw [pY.1.row i hlt]; exact hjl)
          clear hz
          have mB := OB.out _ (gb_drew GK.out)
          have lB := opened_len mB
          have hBl : B.length = ns := SB.out.len
          obtain ⟨be, oe, rfl, hre⟩ := mB.row.spot (k := i) (by omega)
          have vB := mB.vec i (by omega)
          obtain ⟨pf, nf, cf, ef, hnf⟩ := vB.opened
          rw [ef] at hre vB
          have hnf2 : nf = ni := by rw [hnf]; exact SB.out.row i hlt
          subst hnf2
          obtain ⟨bf, of, rfl, hbf, hb256⟩ := vB.spot (k := j) (by rw [SB.out.row i hlt]; exact hjl)
          have hne : (ne : Int) = (ns : Int) := by omega
          have EY : Hid (at2 Y i j = at2 A i j) := by
            show _ = _
            rw [pY.2 i j hjl, if_neg (by omega)]
          have hy256 : at2 Y i j < 256 := h256
          have hB256 : at2 B i j < 256 := hb256
          have hx := u8_xor_nat (at2 Y i j) (at2 B i j) hy256 hB256
          have hx256 : at2 Y i j ^^^ at2 B i j < 256 := M.xor_lt hy256 hB256
          obtain ⟨R, HR⟩ : ∃ R, Hid (R = at2 Y i j ^^^ at2 B i j) := ⟨_, rfl⟩
          rw [← HR.out] at hx hx256
          have hOwn := hset R hx256
          have OE : Hid (∃ Y', OwnMat w3.heap.size (wr.drew.setCell ⟨gi, j, none⟩ (.int .u8 (R : Int))) (.slice (some ⟨gs, 0, none⟩) ns cs) us Y' ∧ Part2 A B Y' ns nf i (j + 1)) := by
            refine ⟨_, oD.rowSet SS.out hYl (ys := (Y.getD i []).set j R) (by rw [EI.out]; exact hOwn) (by rw [EI.out]; exact hgr _), ?_⟩
            have h := pY.next hlt hjl
            rw [← EY.out, ← HR.out] at h
            exact h
          have GE : Hid (w3.grownBy (wr.drew.setCell ⟨gi, j, none⟩ (.int .u8 (R : Int))) none) := grown_new (gb_drew GK.out) (hgr _) (fun r e => hv.lo r e)
          have S0 : Hid (wr.drew.cell? ⟨gs, i, none⟩ = some (.slice (some ⟨gi, 0, none⟩) nf ci) ∧ wr.drew.cell? ⟨be, oe + i, none⟩ = some (.slice (some ⟨bf, of, none⟩) nf cf) ∧ wr.drew.cell? ⟨bf, of + j, none⟩ = some (.int .u8 ((at2 B i j : Nat) : Int))) := ⟨hrs, hre, hbf⟩
          have SE : Hid ((wr.drew.setCell ⟨gi, j, none⟩ (.int .u8 (R : Int))).cell? ⟨gs, i, none⟩ = some (.slice (some ⟨gi, 0, none⟩) nf ci) ∧ (wr.drew.setCell ⟨gi, j, none⟩ (.int .u8 (R : Int))).cell? ⟨be, oe + i, none⟩ = some (.slice (some ⟨bf, of, none⟩) nf cf) ∧ (wr.drew.setCell ⟨gi, j, none⟩ (.int .u8 (R : Int))).cell? ⟨bf, of + j, none⟩ = some (.int .u8 ((at2 B i j : Nat) : Int))) := by
            have mE := OB.out _ GE.out
            obtain ⟨b2, o2, e2, r2⟩ := mE.row.spot (k := i) (by omega)
            injection e2 with e2
            injection e2 with e2 e3
            subst e2 e3
            have vE := mE.vec i (by omega)
            rw [ef] at r2 vE
            obtain ⟨b4, o4, e4, r4, _⟩ := vE.spot (k := j) (by rw [SB.out.row i hlt]; exact hjl)
            injection e4 with e4
            injection e4 with e4 e5
            subst e4 e5
            obtain ⟨Y', oY', pY'⟩ := OE.out
            have r1 := spotOf oY' (k := i) (by rw [pY'.1.len]; exact hlt)
            rw [EI.out] at r1
            exact ⟨r1, r2, r4⟩
          have hcD : wr.drew.cell? ⟨gi, j, none⟩ = some (.int .u8 ((at2 Y i j : Nat) : Int)) := hcc
          have hfD : wr.drew.frozen? ⟨gi, j, none⟩ = false := hf
          clear hset hgr hOwn hcc hf h256 hb256 hbf hre hrs hv vB ef hnf mB lB hBl oD oY pY OM GK EY HR
          generalize at2 Y i j = y at *
          generalize at2 B i j = bm at *
          obtain rfl : ne = ns := by omega
          clear hne hYl
          go_wp2_with fail
          refine wp_region_noPanic ?_
          refine wp_region_held_drew (S := fun w' => w'.cell? ⟨gs, i, none⟩ = some (.slice (some ⟨gi, 0, none⟩) nf ci) ∧ w'.cell? ⟨be, oe + i, none⟩ = some (.slice (some ⟨bf, of, none⟩) nf cf) ∧ w'.cell? ⟨bf, of + j, none⟩ = some (.int .u8 (bm : Int))) (by kernel_rfl) ?_ (fun hHeld => ?_)
          · exact S0.out
          refine wpAnyH_take (i := 0) (v := ?_) rfl (by kernel_rfl) (by kernel_rfl) (by kernel_rfl) (fun _ _ _ h => h) (Or.inl ⟨by rfl, ?_⟩) (by assumption) ?_
          rotate_left
          · intro w hSw; (try dsimp only at hSw); first | (go_simp; done) | (go_simp; with_reducible rfl)
          simp only [Act.put, List.getElem_toArray, List.getElem_cons_succ, List.getElem_cons_zero, List.setIfInBounds_toArray, List.set_cons_zero, List.set_cons_succ]
          refine wpAnyH_take (i := 1) (v := ?_) rfl (by kernel_rfl) (by kernel_rfl) (by kernel_rfl) (fun _ _ _ h => h) (Or.inl ⟨by rfl, ?_⟩) (by assumption) ?_
          rotate_left
          · intro w hSw; (try dsimp only at hSw); first | (go_simp; done) | (go_simp; with_reducible rfl)
          simp only [Act.put, List.getElem_toArray, List.getElem_cons_succ, List.getElem_cons_zero, List.setIfInBounds_toArray, List.set_cons_zero, List.set_cons_succ]
          refine wpAnyH_take (i := 2) (v := ?_) rfl (by kernel_rfl) (by kernel_rfl) (by kernel_rfl) (fun _ _ _ h => h) (Or.inl ⟨by rfl, ?_⟩) (by assumption) ?_
          rotate_left
          · intro w hSw; (try dsimp only at hSw); first | (go_simp; done) | (go_simp; with_reducible rfl)
          simp only [Act.put, List.getElem_toArray, List.getElem_cons_succ, List.getElem_cons_zero, List.setIfInBounds_toArray, List.set_cons_zero, List.set_cons_succ]
          refine wpAnyH_take (i := 3) (v := ?_) rfl (by kernel_rfl) (by kernel_rfl) (by kernel_rfl) (fun _ _ _ h => h) (Or.inl ⟨by rfl, ?_⟩) (by assumption) ?_
          rotate_left
          · intro w hSw; (try dsimp only at hSw); first | (go_simp; done) | (go_simp; with_reducible rfl)
          simp only [Act.put, List.getElem_toArray, List.getElem_cons_succ, List.getElem_cons_zero, List.setIfInBounds_toArray, List.set_cons_zero, List.set_cons_succ]
          refine wpAnyH_take (i := 4) (v := ?_) rfl (by kernel_rfl) (by kernel_rfl) (by kernel_rfl) (fun _ _ _ h => h) (Or.inl ⟨by rfl, ?_⟩) (by assumption) ?_
          rotate_left
          · intro w hSw; (try dsimp only at hSw); first | (go_simp; done) | (go_simp; with_reducible rfl)
          simp only [Act.put, List.getElem_toArray, List.getElem_cons_succ, List.getElem_cons_zero, List.setIfInBounds_toArray, List.set_cons_zero, List.set_cons_succ]
          refine wpAnyH_take (i := 5) (v := ?_) rfl (by kernel_rfl) (by kernel_rfl) (by kernel_rfl) (fun _ _ _ h => h) (Or.inl ⟨by rfl, ?_⟩) (by assumption) ?_
          rotate_left
          · intro w hSw; (try dsimp only at hSw); first | (go_simp; done) | (go_simp; with_reducible rfl)
          simp only [Act.put, List.getElem_toArray, List.getElem_cons_succ, List.getElem_cons_zero, List.setIfInBounds_toArray, List.set_cons_zero, List.set_cons_succ]
          refine wpAnyH_take (i := 7) (v := ?_) rfl (by kernel_rfl) (by kernel_rfl) (by kernel_rfl) (fun _ _ _ h => h) (Or.inl ⟨by rfl, ?_⟩) (by assumption) ?_
          rotate_left
          · intro w hSw; (try dsimp only at hSw); first | (go_simp; done) | (go_simp; with_reducible rfl)
          simp only [Act.put, List.getElem_toArray, List.getElem_cons_succ, List.getElem_cons_zero, List.setIfInBounds_toArray, List.set_cons_zero, List.set_cons_succ]
          refine wpAnyH_take (i := 8) (v := ?_) rfl (by kernel_rfl) (by kernel_rfl) (by kernel_rfl) (fun _ _ _ h => h) (Or.inl ⟨by rfl, ?_⟩) (by assumption) ?_
          rotate_left
          · intro w hSw; (try dsimp only at hSw); first | (go_simp; done) | (go_simp; with_reducible rfl)
          simp only [Act.put, List.getElem_toArray, List.getElem_cons_succ, List.getElem_cons_zero, List.setIfInBounds_toArray, List.set_cons_zero, List.set_cons_succ]
          refine wpAnyH_take (i := 9) (v := ?_) rfl (by kernel_rfl) (by kernel_rfl) (by kernel_rfl) (fun _ _ _ h => h) (Or.inl ⟨by rfl, ?_⟩) (by assumption) ?_
          rotate_left
          · intro w hSw; (try dsimp only at hSw); first | (go_simp; done) | (go_simp; with_reducible rfl)
          simp only [Act.put, List.getElem_toArray, List.getElem_cons_succ, List.getElem_cons_zero, List.setIfInBounds_toArray, List.set_cons_zero, List.set_cons_succ]
          refine wpAnyH_take (i := 10) (v := ?_) rfl (by kernel_rfl) (by kernel_rfl) (by kernel_rfl) (fun _ _ _ h => h) (Or.inl ⟨by rfl, ?_⟩) (by assumption) ?_
          rotate_left
          · intro w hSw; (try dsimp only at hSw); first | (go_simp; done) | (go_simp; with_reducible rfl)
          simp only [Act.put, List.getElem_toArray, List.getElem_cons_succ, List.getElem_cons_zero, List.setIfInBounds_toArray, List.set_cons_zero, List.set_cons_succ]
          refine wpAnyH_take (i := 11) (v := ?_) rfl (by kernel_rfl) (by kernel_rfl) (by kernel_rfl) (fun _ _ _ h => h) (Or.inl ⟨by rfl, ?_⟩) (by assumption) ?_
          rotate_left
          · intro w hSw; (try dsimp only at hSw); first | (go_simp; done) | (go_simp; with_reducible rfl)
          simp only [Act.put, List.getElem_toArray, List.getElem_cons_succ, List.getElem_cons_zero, List.setIfInBounds_toArray, List.set_cons_zero, List.set_cons_succ]
          refine wpAnyH_take (i := 12) (v := ?_) rfl (by kernel_rfl) (by kernel_rfl) (by kernel_rfl) (fun _ _ _ h => h) (Or.inl ⟨by rfl, ?_⟩) (by assumption) ?_
          rotate_left
          · intro w hSw; (try dsimp only at hSw); first | (go_simp; done) | (go_simp; with_reducible rfl)
          simp only [Act.put, List.getElem_toArray, List.getElem_cons_succ, List.getElem_cons_zero, List.setIfInBounds_toArray, List.set_cons_zero, List.set_cons_succ]
          refine wpAnyH_take (i := 13) (v := ?_) rfl (by kernel_rfl) (by kernel_rfl) (by kernel_rfl) (fun _ _ _ h => h) (Or.inl ⟨by rfl, ?_⟩) (by assumption) ?_
          rotate_left
          · intro w hSw; (try dsimp only at hSw); first | (go_simp; done) | (go_simp; with_reducible rfl)
          simp only [Act.put, List.getElem_toArray, List.getElem_cons_succ, List.getElem_cons_zero, List.setIfInBounds_toArray, List.set_cons_zero, List.set_cons_succ]
          refine wpAnyH_ready (rs := [6]) (by kernel_rfl) (by simp) ?_
          refine AllReadyH.cons rfl (fun K hK => ?_) AllReadyH.nil
          go_simp
          refine hK.out _ _ S0.out (fun hHeld => ?_)
          clear hK K
          refine wpAnyH_take (i := 14) (v := ?_) rfl (by kernel_rfl) (by kernel_rfl) (by kernel_rfl) (fun _ _ _ h => h) (Or.inl ⟨by rfl, ?_⟩) (by assumption) ?_
          rotate_left
          · intro w hSw; (try dsimp only at hSw); first | (go_simp; done) | (go_simp; with_reducible rfl)
          simp only [Act.put, List.getElem_toArray, List.getElem_cons_succ, List.getElem_cons_zero, List.setIfInBounds_toArray, List.set_cons_zero, List.set_cons_succ]
          refine wpAnyH_take (i := 15) (v := ?_) rfl (by kernel_rfl) (by kernel_rfl) (by kernel_rfl) (fun _ _ _ h => h) (Or.inl ⟨by rfl, ?_⟩) (by assumption) ?_
          rotate_left
          · intro w hSw; (try dsimp only at hSw); first | (go_simp; done) | (go_simp; with_reducible rfl)
          simp only [Act.put, List.getElem_toArray, List.getElem_cons_succ, List.getElem_cons_zero, List.setIfInBounds_toArray, List.set_cons_zero, List.set_cons_succ]
          refine wpAnyH_ready (rs := [16]) (by kernel_rfl) (by simp) ?_
          refine AllReadyH.cons rfl (fun K hK => ?_) AllReadyH.nil
          go_simp
          refine hK.out _ _ SE.out (fun hHeld => ?_)
          clear hK K
          refine wpAnyH_done (by kernel_rfl) ?_ _
          refine NoPanic.normal ?_
          go_wp2
          go_roundw
          case rel => exact ⟨j + 1, by omega, by go_num, OE, GE⟩
          case measure => simp [intOf]; omega
        · have j1 : ¬ (j : Int) < (ni : Int) := by omega
          have OM' : Hid (∃ Y, OwnMat w3.heap.size wr (.slice (some ⟨gs, 0, none⟩) ns cs) us Y ∧ Part2 A B Y ns ni (i + 1) 0) := by
            obtain ⟨Y, oY, pY⟩ := OM.out
            have e : j = ni := by omega
            rw [e] at pY
            exact ⟨Y, oY, pY.row⟩
          clear OM
          go_wp2
          go_roundw
          case rel => exact ⟨i + 1, by omega, by go_num, OM', GK⟩
          case measure => simp [intOf]; omega
    · have i1 : ¬ (i : Int) < (ns : Int) := by omega
      obtain ⟨Y, oY, pY⟩ := OM.out
      have e : i = ns := by omega
      rw [e] at pY
      have KY : Hid (Mat wa (.slice (some ⟨gs, 0, none⟩) ns cs) us Y) := oY.mat
      have PY : Hid (Shape Y ns L ∧ ∀ r t, r < ns → t < L → at2 Y r t = at2 A r t ^^^ at2 B r t) := ⟨pY.1, fun r t hr ht => by rw [pY.2 r t ht, if_pos (by omega)]⟩
      clear oY pY e OM
      go_wp2_with fail
      refine (encode_yes (KA.out _ GK.out) SA.out hk1 hkn hn).mono ?_
      rintro e w5 ⟨px, nx, cx, ux, rfl, ox, sx, g5⟩
      have lx := opened_len ox.mat
      obtain rfl : n = nx := by rw [lx.2.1, codeList_len]
      have hcx : n ≤ cx ∧ cx ≤ 9223372036854775807 := lx.2.2.2
      have KX : Hid (∀ w', w5.grownBy w' none → Mat w' (.slice px n cx) ux (codeList A ns n L)) := fun w' g => ox.mat.keep g
      have G5 : Hid (w3.grownBy w5 none ∧ wa.grownBy w5 none) := ⟨grown_trans GK.out g5, g5⟩
      clear ox sx g5 lx
      go_wp2_with fail
      refine (encode_yes (OB.out _ G5.out.1) SB.out hk1 hkn hn).mono ?_
      rintro e w6 ⟨py, ny, cy, uy, rfl, oy, sy, g6⟩
      obtain rfl : n = ny := by have := mat_len oy.mat; rw [this, codeList_len]
      have KYY : Hid (∀ w', w6.grownBy w' none → Mat w' (.slice py n cy) uy (codeList B ns n L)) := fun w' g => oy.mat.keep g
      have G6 : Hid (w3.grownBy w6 none ∧ wa.grownBy w6 none ∧ w5.grownBy w6 none) := ⟨grown_trans G5.out.1 g6, grown_trans G5.out.2 g6, g6⟩
      clear oy sy g6 G5
      go_wp2_with fail
      refine (encode_yes (KY.out.keep G6.out.2.1) PY.out.1 hk1 hkn hn).mono ?_
      rintro e w7 ⟨pz, nz, cz, uz, rfl, oz, sz, g7⟩
      obtain rfl : n = nz := by have := mat_len oz.mat; rw [this, codeList_len]
      have KZ : Hid (∀ w', w7.grownBy w' none → Mat w' (.slice pz n cz) uz (codeList Y ns n L)) := fun w' g => oz.mat.keep g
      have G7 : Hid (w3.grownBy w7 none ∧ w5.grownBy w7 none ∧ w6.grownBy w7 none) := ⟨grown_trans G6.out.1 g7, grown_trans G6.out.2.2 g7, g7⟩
      clear oz sz g7 G6 KY
      have AW : Hid (Calls Try.prog 9 #[] w7 fun e w' => e = .returned (.bool true) ∧ w7.grownBy w' none) := awake_any w7
      have SM : Hid (∀ w', w7.grownBy w' none → Calls Try.prog 14 #[.slice px ns cx, .slice pa na ca] w' fun e w'' => e = .returned (.bool true) ∧ w'.grownBy w'' none) := fun w' g => by
        have h1 := (KX.out _ (grown_trans G7.out.2.1 g)).cut (k := ns) (by rw [codeList_len]; omega)
        rw [code_take SA.out MA.out (by omega)] at h1
        have h := refSame_any h1 (KA.out _ (grown_trans G7.out.1 g))
        rw [decide_eq_true rfl] at h
        exact h
      go_wp2_with (first
        | (go_at_call 9; refine AW.out.mono ?_; rintro e w8 ⟨rfl, g8⟩; have G8 : Hid (w7.grownBy w8 none) := g8; clear g8)
        | (go_at_call 14; refine (SM.out _ G8.out).mono ?_; rintro e w9 ⟨rfl, g9⟩; have G9 : Hid (w7.grownBy w9 none) := grown_trans G8.out g9; clear g9))
      clear AW SM G8
      have MX9 : Hid (Mat w9 (.slice px n cx) ux (codeList A ns n L)) := KX.out _ (grown_trans G7.out.2.1 G9.out)
      have MY9 : Hid (Mat w9 (.slice py n cy) uy (codeList B ns n L)) := KYY.out _ (grown_trans G7.out.2.2 G9.out)
      have MZ9 : Hid (Mat w9 (.slice pz n cz) uz (codeList Y ns n L)) := KZ.out _ G9.out
      have GW9 : Hid (w.grownBy w9 none) := grown_trans GW.out (grown_trans G7.out.1 G9.out)
      clear KX KYY KZ G7 G9 KA OB GW GK
      go_loopw [125] (fun ti wr => ∃ i : Nat, i ≤ n ∧ ti = .int .i64 i ∧ Hid (w9.grownBy wr none)) (fun ti _ => n - (intOf ti).toNat)
      case atStart => exact ⟨0, by omega, rfl, World.grownBy.refl _ _⟩
      case round =>
        obtain ⟨r, hr, rfl, GR⟩ := hrel
        obtain ⟨wb, hwb⟩ : ∃ wb, wb = wr := ⟨wr, rfl⟩
        subst hwb
        by_cases hrn : r < n
        · have r1 : (r : Int) < (n : Int) := by omega
          have r3 : (0 : Int) ≤ (r : Int) := by omega
          have mz := MZ9.out.keep GR.out
          obtain ⟨bz, oz, rfl, hcz⟩ := mz.row.spot (k := r) (by have := (opened_len mz).1; omega)
          obtain ⟨pz1, nz1, cz1, ez, hnz⟩ := (mz.vec r (by rw [codeList_len]; exact hrn)).opened
          obtain rfl : L = nz1 := by rw [hnz, codeList_get hrn, codeRow_len]
          rw [ez] at hcz
          have EZ : Hid (uz.getD r undef = .slice pz1 L cz1) := ez
          clear mz ez hnz
          go_wp2_with fail
          clear hcz
          go_loopw [133] (fun tj wr => ∃ t : Nat, t ≤ L ∧ tj = .int .i64 t ∧ Hid (w9.grownBy wr none)) (fun tj _ => L - (intOf tj).toNat)
          case atStart => exact ⟨0, by omega, rfl, GR⟩
          case round =>
            clear GR
            obtain ⟨t, ht, rfl, GR⟩ := hrel
            by_cases htl : t < L
            · have t1 : (t : Int) < (L : Int) := by omega
              have t3 : (0 : Int) ≤ (t : Int) := by omega
              have mx := MX9.out.keep (gb_drew GR.out)
              have my := MY9.out.keep (gb_drew GR.out)
              have mz := MZ9.out.keep (gb_drew GR.out)
              have lx := (opened_len mx).1
              have ly := (opened_len my).1
              have lz := (opened_len mz).1
              obtain ⟨bx, ox, rfl, hcx1⟩ := mx.row.spot (k := r) (by omega)
              obtain ⟨by', oy, rfl, hcy1⟩ := my.row.spot (k := r) (by omega)
              obtain ⟨bz2, oz2, e2, hcz1⟩ := mz.row.spot (k := r) (by omega)
              injection e2 with e2
              injection e2 with e2 e3
              subst e2 e3
              have vx := mx.vec r (by rw [codeList_len]; exact hrn)
              have vy := my.vec r (by rw [codeList_len]; exact hrn)
              have vz := mz.vec r (by rw [codeList_len]; exact hrn)
              rw [codeList_get hrn] at vx vy vz
              rw [EZ.out] at hcz1 vz
              obtain ⟨px1, nx1, cx1, ex, hnx⟩ := vx.opened
              obtain rfl : L = nx1 := by rw [hnx, codeRow_len]
              obtain ⟨py1, ny1, cy1, ey, hny⟩ := vy.opened
              obtain rfl : L = ny1 := by rw [hny, codeRow_len]
              rw [ex] at hcx1 vx
              rw [ey] at hcy1 vy
              obtain ⟨b1, o1, rfl, hx, hx256⟩ := vx.spot (k := t) (by rw [codeRow_len]; exact htl)
              obtain ⟨b2, o2, rfl, hy, hy256⟩ := vy.spot (k := t) (by rw [codeRow_len]; exact htl)
              obtain ⟨b3, o3, rfl, hz, hz256⟩ := vz.spot (k := t) (by rw [codeRow_len]; exact htl)
              rw [codeRow_get htl] at hx hx256 hy hy256 hz hz256
              have hsum : codeAt Y ns r t = codeAt A ns r t ^^^ codeAt B ns r t := code_sum MA.out MB.out (fun q hq => PY.out.2 q t hq htl) (by omega) (by omega)
              rw [hsum] at hz
              have hxe := u8_xor_nat (codeAt A ns r t) (codeAt B ns r t) hx256 hy256
              have S0 : Hid (wr.drew.cell? ⟨bz, oz + r, none⟩ = some (.slice (some ⟨b3, o3, none⟩) L cz1) ∧ wr.drew.cell? ⟨b3, o3 + t, none⟩ = some (.int .u8 ((codeAt A ns r t ^^^ codeAt B ns r t : Nat) : Int)) ∧ wr.drew.cell? ⟨bx, ox + r, none⟩ = some (.slice (some ⟨b1, o1, none⟩) L cx1) ∧ wr.drew.cell? ⟨b1, o1 + t, none⟩ = some (.int .u8 ((codeAt A ns r t : Nat) : Int)) ∧ wr.drew.cell? ⟨by', oy + r, none⟩ = some (.slice (some ⟨b2, o2, none⟩) L cy1) ∧ wr.drew.cell? ⟨b2, o2 + t, none⟩ = some (.int .u8 ((codeAt B ns r t : Nat) : Int))) := ⟨hcz1, hz, hcx1, hx, hcy1, hy⟩
              clear hcz1 hz hcx1 hx hcy1 hy vx vy vz mx my mz lx ly lz ex ey hnx hny hx256 hy256 hz256 hsum
              generalize codeAt A ns r t ^^^ codeAt B ns r t = cz0 at *
              generalize codeAt A ns r t = cx0 at *
              generalize codeAt B ns r t = cy0 at *
              go_wp2_with fail
              go_region_held3 (fun w' => w'.cell? ⟨bz, oz + r, none⟩ = some (.slice (some ⟨b3, o3, none⟩) L cz1) ∧ w'.cell? ⟨b3, o3 + t, none⟩ = some (.int .u8 (cz0 : Int)) ∧ w'.cell? ⟨bx, ox + r, none⟩ = some (.slice (some ⟨b1, o1, none⟩) L cx1) ∧ w'.cell? ⟨b1, o1 + t, none⟩ = some (.int .u8 (cx0 : Int)) ∧ w'.cell? ⟨by', oy + r, none⟩ = some (.slice (some ⟨b2, o2, none⟩) L cy1) ∧ w'.cell? ⟨b2, o2 + t, none⟩ = some (.int .u8 (cy0 : Int))) (exact S0.out) (fail)
              clear S0
              have GR' : Hid (w9.grownBy wr.drew none) := gb_drew GR.out
              clear GR
              go_wp2
              go_roundw
              case rel => exact ⟨t + 1, by omega, by go_num, GR'⟩
              case measure => simp [intOf]; omega
            · have t1 : ¬ (t : Int) < (L : Int) := by omega
              go_wp2
              go_roundw
              case rel => exact ⟨r + 1, by omega, by go_num, GR⟩
              case measure => simp [intOf]; omega
        · have r1 : ¬ (r : Int) < (n : Int) := by omega
          go_wp2
          go_ret
          exact ⟨rfl, grown_trans GW9.out GR.out⟩

theorem walk {w : World} {K Mo Lo : Nat} {c : Int} {xb xp : Value} {Bs Ps : List Nat} (hK : K < 256) (hM : Mo < 256) (hL : Lo < 256) (vb : Vec w xb Bs) (vp : Vec w xp Ps) (h0 : 0 ≤ c) (h1 : c < 256) :
    Calls Try.prog 7 #[.agg #[.int .u8 (K : Int), .int .u8 (Mo : Int), .int .u8 (Lo : Int), xb, xp], .int .u8 c] w fun e w' => e = .returned (.bool true) ∧ w.grownBy w' none := by
  obtain ⟨m, rfl⟩ := Int.eq_ofNat_of_zero_le h0
  exact walk_nat hK hM hL vb vp (by omega)
end Go.Proofs.Ytdeajclghlbhcaa.codeSums
