/- The walk of CodeEncodes. -/
import Derived.Test.YtdeajclghlbhcaaEncB4
import Derived.Test.YtdeajclghlbhcaaWake4
import Derived.Test.YtdeajclghlbhcaaLift
set_option linter.unusedVariables false
namespace Go.Proofs.Ytdeajclghlbhcaa.codeEncodes
open Go.ChangeShapes Go.WideShapes Go.ChangeAt Go.RowKit

set_option maxHeartbeats 12800000 in
set_option maxRecDepth 100000 in
theorem walk {w : World} {k n i : Int} {x : Value} {vx : List Value} {X : List (List Nat)} (mx : Mat w x vx X) :
    Calls Try.prog 4 #[.agg #[.int .i64 k, .int .i64 n, .int .i64 i, x]] w fun e w' => e = .returned (.bool true) ∧ w.grownBy w' none := by
  obtain ⟨q, N, cap, rfl, hN⟩ := mx.row.opened
  have MX : Hid (∀ w', w.grownBy w' none → Mat w' (.slice q N cap) vx X) := fun w' g => mx.keep g
  clear mx hN
  have HC : Hid ((w.alloc (.cells #[.int .i64 k, .int .i64 n, .int .i64 i, .slice q N cap] 33)).drew.cell? ⟨w.heap.size, 0, none⟩ = some (.int .i64 k) ∧ (w.alloc (.cells #[.int .i64 k, .int .i64 n, .int .i64 i, .slice q N cap] 33)).drew.cell? ⟨w.heap.size, 1, none⟩ = some (.int .i64 n) ∧ (w.alloc (.cells #[.int .i64 k, .int .i64 n, .int .i64 i, .slice q N cap] 33)).drew.cell? ⟨w.heap.size, 2, none⟩ = some (.int .i64 i) ∧ (w.alloc (.cells #[.int .i64 k, .int .i64 n, .int .i64 i, .slice q N cap] 33)).drew.cell? ⟨w.heap.size, 3, none⟩ = some (.slice q N cap)) := by
    have h := heap_alloc_new w (.cells #[.int .i64 k, .int .i64 n, .int .i64 i, .slice q N cap] 33)
    exact ⟨cell_of_row _ _ 0 _ _ _ h, cell_of_row _ _ 1 _ _ _ h, cell_of_row _ _ 2 _ _ _ h, cell_of_row _ _ 3 _ _ _ h⟩
  have G0 : Hid (w.grownBy (w.alloc (.cells #[.int .i64 k, .int .i64 n, .int .i64 i, .slice q N cap] 33)).drew none) := gb_drew (gb_alloc (World.grownBy.refl _ _) _)
  go_enter Try.func4, Try.ntmps4
  go_wp2_with fail
  go_region_held3 (fun w' => w'.cell? ⟨w.heap.size, 0, none⟩ = some (.int .i64 k) ∧ w'.cell? ⟨w.heap.size, 1, none⟩ = some (.int .i64 n) ∧ w'.cell? ⟨w.heap.size, 2, none⟩ = some (.int .i64 i) ∧ w'.cell? ⟨w.heap.size, 3, none⟩ = some (.slice q N cap)) (exact HC.out) (fail)
  clear HC
  generalize (w.alloc (.cells #[.int .i64 k, .int .i64 n, .int .i64 i, .slice q N cap] 33)).drew = W0 at *
  go_wp2_with fail
  refine (awake_any W0).mono ?_
  rintro e w1 ⟨rfl, g1⟩
  have G1 : Hid (w.grownBy w1 none) := grown_trans G0.out g1
  clear g1 G0
  go_wp2_with fail
  refine (great4_any k n (MX.out _ G1.out)).mono ?_
  rintro e w2 ⟨⟨b1, rfl⟩, hw⟩
  obtain rfl := hw.symm
  clear hw
  cases b1
  case true =>
    go_wp2
    go_ret
    exact ⟨rfl, G1.out⟩
  case false =>
  go_wp2_with fail
  refine (refCopy_any (MX.out _ G1.out)).mono ?_
  rintro e w2 ⟨v, ux, rfl, om, g2⟩
  obtain ⟨px, nx, cx, rfl, hq⟩ := om.mat.row.opened
  have KX : Hid (∀ w', w2.grownBy w' none → Mat w' (.slice px nx cx) ux X) := fun w' g => om.mat.keep g
  have G2 : Hid (w.grownBy w2 none) := grown_trans G1.out g2
  have KA : Hid (∀ w', w2.grownBy w' none → Mat w' (.slice q N cap) vx X) := fun w' g => MX.out _ (grown_trans G2.out g)
  clear om g2 hq G1 MX
  go_wp2_with fail
  refine (encode_all k n (KX.out _ (World.grownBy.refl _ _))).mono ?_
  rintro e w3 ⟨pa, na, ca, ua, rfl, om, sa, g3⟩
  have O3 : Hid (∀ w', w3.grownBy w' none → OwnMat w2.heap.size w' (.slice pa na ca) ua (encL k n X)) := fun w' g => om.keep g
  have W3 : Hid (w2.grownBy w3 none) := g3
  clear om g3 sa
  generalize hE : encE k n X = E1 at *
  have HE : Hid (encE k n X = E1) := hE
  clear hE
  go_wp2_with fail
  refine (refEncode_all k n (KA.out _ W3.out)).mono ?_
  rintro e w4 ⟨pb, nb, cb, ub, rfl, om, sa, g4⟩
  rw [HE.out]
  have O4 : Hid (∀ w', w4.grownBy w' none → Mat w' (.slice pb nb cb) ub (encL k n X)) := fun w' g => om.mat.keep g
  have W4 : Hid (w2.grownBy w4 none ∧ w3.grownBy w4 none) := ⟨grown_trans W3.out g4, g4⟩
  clear om g4 sa W3 HE
  go_wp2_with fail
  refine (one_all k n i (KX.out _ W4.out.1)).mono ?_
  rintro e w5 ⟨pc, nc, cc, rfl, oc, g5⟩
  have O5 : Hid (∀ w', w5.grownBy w' none → Own w2.heap.size w' (.slice pc nc cc) (oneL k n i X)) := fun w' g => (oc.keep g).down W4.out.1.size
  have W5 : Hid (w2.grownBy w5 none ∧ w3.grownBy w5 none ∧ w4.grownBy w5 none) := ⟨grown_trans W4.out.1 g5, grown_trans W4.out.2 g5, g5⟩
  clear oc g5 W4
  generalize hE : oneE k n i X = E2 at *
  have HE : Hid (oneE k n i X = E2) := hE
  clear hE
  go_wp2_with fail
  refine (refOne_all k n i (KA.out _ W5.out.1)).mono ?_
  rintro e w6 ⟨pd, nd, cd, rfl, vd, g6⟩
  rw [HE.out]
  have W6 : Hid (w2.grownBy w6 none) := grown_trans W5.out.1 g6
  have A6 : Hid (OwnMat w2.heap.size w6 (.slice pa na ca) ua (encL k n X)) := O3.out _ (grown_trans W5.out.2.1 g6)
  have C6 : Hid (Own w2.heap.size w6 (.slice pc nc cc) (oneL k n i X)) := O5.out _ g6
  have VD : Hid (∀ w', w6.grownBy w' none → Vec w' (.slice pd nd cd) (oneL k n i X)) := fun w' g => vd.keep g
  have SA : Hid (Calls Try.prog 14 #[.slice pa na ca, .slice pb nb cb] w6 fun e w'' => e = .returned (.bool true) ∧ w6.grownBy w'' none) := by
    have h := refSame_any A6.out.mat (O4.out _ (grown_trans W5.out.2.2 g6))
    rw [decide_eq_true rfl] at h
    exact h
  clear O3 O4 O5 W5 g6 vd HE
  generalize encL k n X = P at *
  generalize oneL k n i X = R at *
  go_wp2_with (go_at_call 14; refine SA.out.mono ?_; rintro e w7 ⟨rfl, g7⟩; have c1 := convert_vec (C6.out.vec.keep g7); have c2 := convert_vec (VD.out _ g7); have A7 : Hid (OwnMat w2.heap.size w7 (.slice pa na ca) ua P) := A6.out.keep g7; have C7 : Hid (Own w2.heap.size w7 (.slice pc nc cc) R) := C6.out.keep g7; have W7 : Hid (w2.grownBy w7 none) := grown_trans W6.out g7; clear g7)
  clear c1 c2
  have hna : na ≤ 140737488351232 := by
    obtain ⟨p', n', c', e', h'⟩ := A7.out.mat.row.opened
    injection e' with e1 e2 e3
    have := A7.out.len
    omega
  have HNA : Hid (na = ua.length) := by
    obtain ⟨p', n', c', e', h'⟩ := A7.out.mat.row.opened
    injection e' with e1 e2 e3
    show _ = _
    omega
  have hnc : nc ≤ 140737488351232 := by
    obtain ⟨p', n', c', e', h'⟩ := C7.out.vec.opened
    injection e' with e1 e2 e3
    have := C7.out.len
    omega
  have FL : Hid (Flat w2 w2.heap.size w7 [(.slice pa na ca, ua)] (.slice pc nc cc :: ua)) := (A7.out.flat (Nat.le_refl _) (Nat.le_refl _) W7.out).more C7.out (Nat.le_refl _)
  clear A6 C6 VD SA W6 A7 C7 W7
  go_loopw [89] (fun ti wr => ∃ j : Nat, j ≤ na ∧ ti = .int .i64 j ∧ Hid (Flat w2 w2.heap.size wr [(.slice pa na ca, ua)] (.slice pc nc cc :: ua))) (fun ti _ => na - (intOf ti).toNat)
  case atStart => exact ⟨0, by omega, rfl, FL⟩
  case round =>
    clear FL
    obtain ⟨j, hj, rfl, FL⟩ := hrel
    obtain ⟨wa, hwa⟩ : ∃ wa, wa = wr := ⟨wr, rfl⟩
    subst hwa
    by_cases hlt : j < na
    · have i1 : (j : Int) < (na : Int) := by omega
      have i3 : (0 : Int) ≤ (j : Int) := by omega
      have hO : Out w2.heap.size wa (.slice pa na ca) ua := FL.out.out _ List.mem_cons_self
      obtain ⟨b, off, rfl, hr⟩ := hO.cells.spot (k := j) (by have := HNA.out; omega)
      clear hO
      have HMJ : Hid (ua.getD j undef ∈ Value.slice pc nc cc :: ua) := List.mem_cons_of_mem _ (by
        have hj' : j < ua.length := by have := HNA.out; omega
        simp [List.getD, hj'])
      obtain ⟨ys, oy⟩ := FL.out.vec _ HMJ.out
      obtain ⟨pj, nj, cj, ej, hnj⟩ := oy.vec.opened
      have hl : nj ≤ 140737488351232 := by rw [hnj]; exact oy.len
      rw [ej] at hr HMJ
      clear ej hnj oy ys
      go_wp2
      clear hr
      go_loopw [95] (fun ti wr => ∃ t : Nat, t ≤ nj ∧ ti = .int .i64 t ∧ Hid (Flat w2 w2.heap.size wr [(.slice (some ⟨b, off, none⟩) na ca, ua)] (.slice pc nc cc :: ua))) (fun ti _ => nj - (intOf ti).toNat)
      case atStart => exact ⟨0, by omega, rfl, FL⟩
      case round =>
        clear FL
        obtain ⟨t, ht, rfl, FL⟩ := hrel
        by_cases hlt2 : t < nj
        · have i2 : (t : Int) < (nj : Int) := by omega
          obtain ⟨g, y, rfl, hy, hc, hf, hset⟩ := FL.out.poke HMJ.out hlt2
          obtain ⟨z, hz1, hz2⟩ := xor_255 hy
          have FN : Hid _ := hset z hz1
          clear hset FL
          go_wp2
          go_roundw
          case rel => exact ⟨t + 1, by omega, by go_num, FN⟩
          case measure => simp [intOf]; omega
        · have i2 : ¬ (t : Int) < (nj : Int) := by omega
          go_wp2
          go_roundw
          case rel => exact ⟨j + 1, by omega, by go_num, FL⟩
          case measure => simp [intOf]; omega
    · have i1 : ¬ (j : Int) < (na : Int) := by omega
      go_wp2
      go_loopw [108] (fun ti wr => ∃ t : Nat, t ≤ nc ∧ ti = .int .i64 t ∧ Hid (Flat w2 w2.heap.size wr [(.slice pa na ca, ua)] (.slice pc nc cc :: ua))) (fun ti _ => nc - (intOf ti).toNat)
      case atStart => exact ⟨0, by omega, rfl, FL⟩
      case round =>
        clear FL
        obtain ⟨t, ht, rfl, FL⟩ := hrel
        by_cases hlt2 : t < nc
        · have i2 : (t : Int) < (nc : Int) := by omega
          obtain ⟨g, y, rfl, hy, hc, hf, hset⟩ := FL.out.poke List.mem_cons_self hlt2
          obtain ⟨z, hz1, hz2⟩ := xor_255 hy
          have FN : Hid _ := hset z hz1
          clear hset FL
          go_wp2
          go_roundw
          case rel => exact ⟨t + 1, by omega, by go_num, FN⟩
          case measure => simp [intOf]; omega
        · have i2 : ¬ (t : Int) < (nc : Int) := by omega
          have SB : Hid (Calls Try.prog 14 #[.slice px nx cx, .slice q N cap] wr fun e w'' => e = .returned (.bool true) ∧ wr.grownBy w'' none) := by
            have h := refSame_any (KX.out _ FL.out.gr) (KA.out _ FL.out.gr)
            rw [decide_eq_true rfl] at h
            exact h
          go_wp2_with (go_at_call 14; refine SB.out.mono ?_; rintro e w9 ⟨rfl, g9⟩)
          go_ret
          exact ⟨rfl, grown_trans G2.out (grown_trans FL.out.gr g9)⟩
end Go.Proofs.Ytdeajclghlbhcaa.codeEncodes
