/- MatrixInverse: for any [][]byte m the call hayricklaw03.MatrixInverse(m) returns true, and m reads afterwards as it read before.
   Conditions: none beyond the form's own (m is readable as data and within the form's reach). -/
import Derived.Test.YtdgdbjkgecfgeaaLift
import Derived.Test.YtdgdbjkgecfgeaaMulInv
namespace Go.Proofs.Ytdgdbjkgecfgeaa.matrixInverse
open Go.ChangeShapes Go.WideShapes Go.ChangeAt Go.RowKit
set_option linter.unusedVariables false

set_option maxHeartbeats 6400000 in
theorem walk {w : World} {m : Value} {vs : List Value} {X : List (List Nat)} (mr : Mat w m vs X) :
    Calls Try.prog 5 #[m] w fun e w' => e = .returned (.bool true) ∧ w.grownBy w' none := by
  obtain ⟨q, N, cap, rfl, hN⟩ := mr.row.opened
  have MR : Hid (Mat w (.slice q N cap) vs X) := mr
  have HN : Hid (N = vs.length ∧ N = X.length) := ⟨hN, by have := mr.same; omega⟩
  have hNl : N ≤ 140737488351232 := by have := mr.row.len; omega
  clear mr hN
  go_enter Try.func5, Try.ntmps5
  go_wp2_with fail
  refine (awake_any w).mono ?_
  rintro e w1 ⟨rfl, g1⟩
  have G1 : Hid (w.grownBy w1 none) := g1
  clear g1
  go_wp2_with fail
  refine (great_any (MR.out.keep G1.out)).mono ?_
  rintro e w2 ⟨⟨bb, rfl⟩, hw⟩
  obtain rfl := hw.symm
  clear hw
  cases bb
  case true =>
    go_wp2
    go_ret
    exact ⟨rfl, G1.out⟩
  case false =>
  by_cases h30 : 30 < N
  · have i30 : (30 : Int) < (N : Int) := by omega
    go_wp2
    go_ret
    exact ⟨rfl, G1.out⟩
  · have i30 : ¬ (30 : Int) < (N : Int) := by omega
    by_cases hgood : mayB X = true ∧ X.length = (X.getD 0 []).length
    · obtain ⟨hx, hsq⟩ := hgood
      have HX : Hid (mayB X = true ∧ X.length = (X.getD 0 []).length) := ⟨hx, hsq⟩
      by_cases hi : NoInv X.length (at2 X)
      · have MA : Hid (∀ w', w.grownBy w' none → Calls Try.prog 18 #[.slice q N cap] w' fun e w'' => e = .returned (.bool true) ∧ w'' = w') := fun w' g => by have h := may_any (MR.out.keep g); rw [hx] at h; exact h
        have IN : Hid (Calls Try.prog 13 #[.slice q N cap] w1 fun e w' => e = .returned (.tuple #[.slice none 0 0, .int .i64 22]) ∧ w1.grownBy w' none) := invert_no (MR.out.keep G1.out) hx hsq hi
        clear hx hsq hi
        go_wp2_with fail
        refine IN.out.mono ?_
        rintro e w2 ⟨rfl, g2⟩
        have G2 : Hid (w.grownBy w2 none) := grown_trans G1.out g2
        clear g2
        go_wp2_with fail
        refine (MA.out _ G2.out).mono ?_
        rintro e w3 ⟨rfl, hw⟩
        obtain rfl := hw.symm
        clear hw
        go_wp2
        go_ret
        exact ⟨rfl, G2.out⟩
      · have sx := may_spec hx
        have hs : Shape X N N := by have := sx.2.2.2.2; rw [← hsq] at this; rw [HN.out.2]; exact this
        have HS : Hid (Shape X N N ∧ 1 ≤ N ∧ N ≤ 255) := ⟨hs, by have := HN.out; omega, by have := HN.out; omega⟩
        have IN : Hid (Calls Try.prog 13 #[.slice q N cap] w1 fun e w' => ∃ p k c us Y, e = .returned (.tuple #[.slice p k c, .int .i64 0]) ∧ Ans N X w1 w' (.slice p k c) us Y) := by
          have h := invert_yes (MR.out.keep G1.out) hx hsq hi
          rw [← HN.out.2] at h
          exact h
        clear hx hsq hi sx hs
        go_wp2_with fail
        refine IN.out.mono ?_
        rintro e w2 ⟨p, k, c, us, Y, rfl, an⟩
        have G2 : Hid (w.grownBy w2 none) := grown_trans G1.out an.grown
        have MY : Hid (∀ w', w2.grownBy w' none → Mat w' (.slice p k c) us Y) := fun w' g => an.om.mat.keep g
        have SY : Hid (Shape Y N N ∧ MX.Inv N (at2 X) (at2 Y) ∧ mayB Y = true ∧ Y.length = (Y.getD 0 []).length ∧ Y.length = N) :=
          ⟨an.shape, an.inv, may_of an.shape HS.out.2.1 HS.out.2.2 HS.out.2.1 HS.out.2.2, by rw [an.shape.len, an.shape.row 0 (by have := HS.out; omega)], an.shape.len⟩
        clear an IN
        go_wp2_with fail
        refine (ident_any N w2 HS.out.2.1 HS.out.2.2).mono ?_
        rintro e w3 ⟨v, us3, rfl, om, sp, g3⟩
        obtain ⟨p3, n3, c3, rfl, hq⟩ := om.mat.row.opened
        have G3 : Hid (w.grownBy w3 none ∧ w2.grownBy w3 none) := ⟨grown_trans G2.out g3, g3⟩
        have M3 : Hid (∀ w', w3.grownBy w' none → Mat w' (.slice p3 n3 c3) us3 (idList N)) := fun w' g => om.mat.keep g
        clear om sp g3 hq
        go_wp2_with fail
        have MU : Hid (Calls Try.prog 11 #[.slice q N cap, .slice p k c] w3 fun e w' => ∃ v us, e = .returned (.tuple #[v, .int .i64 0]) ∧ OwnMat w3.heap.size w' v us (idList N) ∧ Sep us ∧ w3.grownBy w' none) := by
          have h := mul_yes (MR.out.keep G3.out.1) (MY.out _ G3.out.2) HX.out.1 SY.out.2.2.1 (by rw [SY.out.2.2.2.2, ← HX.out.2, ← HN.out.2])
          rw [mul_right HS.out.1 SY.out.1 HS.out.2.1 SY.out.2.1] at h
          exact h
        refine MU.out.mono ?_
        rintro e w4 ⟨v, us4, rfl, om, sp, g4⟩
        obtain ⟨p4, n4, c4, rfl, hq⟩ := om.mat.row.opened
        have G4 : Hid (w.grownBy w4 none ∧ w2.grownBy w4 none ∧ w3.grownBy w4 none) := ⟨grown_trans G3.out.1 g4, grown_trans G3.out.2 g4, g4⟩
        have M4 : Hid (∀ w', w4.grownBy w' none → Mat w' (.slice p4 n4 c4) us4 (idList N)) := fun w' g => om.mat.keep g
        clear om sp g4 hq MU
        go_wp2_with fail
        have MU : Hid (Calls Try.prog 11 #[.slice p k c, .slice q N cap] w4 fun e w' => ∃ v us, e = .returned (.tuple #[v, .int .i64 0]) ∧ OwnMat w4.heap.size w' v us (idList N) ∧ Sep us ∧ w4.grownBy w' none) := by
          have h := mul_yes (MY.out _ G4.out.2.1) (MR.out.keep G4.out.1) SY.out.2.2.1 HX.out.1 (by rw [← SY.out.2.2.2.1, SY.out.2.2.2.2, ← HN.out.2])
          rw [mul_right SY.out.1 HS.out.1 HS.out.2.1 SY.out.2.1.symm] at h
          exact h
        refine MU.out.mono ?_
        rintro e w5 ⟨v, us5, rfl, om, sp, g5⟩
        obtain ⟨p5, n5, c5, rfl, hq⟩ := om.mat.row.opened
        have G5 : Hid (w.grownBy w5 none ∧ w2.grownBy w5 none ∧ w3.grownBy w5 none ∧ w4.grownBy w5 none) := ⟨grown_trans G4.out.1 g5, grown_trans G4.out.2.1 g5, grown_trans G4.out.2.2 g5, g5⟩
        have M5 : Hid (∀ w', w5.grownBy w' none → Mat w' (.slice p5 n5 c5) us5 (idList N)) := fun w' g => om.mat.keep g
        clear om sp g5 hq MU
        go_wp2_with fail
        have IN : Hid (Calls Try.prog 13 #[.slice p k c] w5 fun e w' => ∃ p k c us, e = .returned (.tuple #[.slice p k c, .int .i64 0]) ∧ Mat w' (.slice p k c) us X ∧ w5.grownBy w' none) := by
          have hni : ¬ NoInv Y.length (at2 Y) := by rw [SY.out.2.2.2.2]; exact inv_has SY.out.2.1.symm
          refine (invert_yes (MY.out _ G5.out.2.1) SY.out.2.2.1 SY.out.2.2.2.1 hni).mono ?_
          rintro e w' ⟨p, k, c, us, Z, rfl, an⟩
          rw [SY.out.2.2.2.2] at an
          obtain rfl := inv_twice HS.out.1 an.shape SY.out.2.1 an.inv
          exact ⟨p, k, c, us, rfl, an.om.mat, an.grown⟩
        refine IN.out.mono ?_
        rintro e w6 ⟨p6, n6, c6, us6, rfl, om, g6⟩
        have G6 : Hid (w.grownBy w6 none ∧ w3.grownBy w6 none ∧ w4.grownBy w6 none ∧ w5.grownBy w6 none) := ⟨grown_trans G5.out.1 g6, grown_trans G5.out.2.2.1 g6, grown_trans G5.out.2.2.2 g6, g6⟩
        have M6 : Hid (Mat w6 (.slice p6 n6 c6) us6 X) := om
        clear om g6 IN
        have SA : Hid (Calls Try.prog 20 #[.slice p4 n4 c4, .slice p3 n3 c3] w6 fun e w' => e = .returned (.bool true) ∧ w' = w6) := by
          have h := same_any (M4.out _ G6.out.2.2.1) (M3.out _ G6.out.2.1)
          rw [show decide (idList N = idList N) = true from decide_eq_true rfl] at h
          exact h
        have SB : Hid (Calls Try.prog 20 #[.slice p5 n5 c5, .slice p3 n3 c3] w6 fun e w' => e = .returned (.bool true) ∧ w' = w6) := by
          have h := same_any (M5.out _ G6.out.2.2.2) (M3.out _ G6.out.2.1)
          rw [show decide (idList N = idList N) = true from decide_eq_true rfl] at h
          exact h
        have SC : Hid (Calls Try.prog 20 #[.slice p6 n6 c6, .slice q N cap] w6 fun e w' => e = .returned (.bool true) ∧ w' = w6) := by
          have h := same_any M6.out (MR.out.keep G6.out.1)
          rw [show decide (X = X) = true from decide_eq_true rfl] at h
          exact h
        go_wp2_with fail
        refine SA.out.mono ?_
        rintro e w7 ⟨rfl, hw⟩
        obtain rfl := hw.symm
        clear hw
        go_wp2_with fail
        refine SB.out.mono ?_
        rintro e w7 ⟨rfl, hw⟩
        obtain rfl := hw.symm
        clear hw
        go_wp2_with fail
        refine SC.out.mono ?_
        rintro e w7 ⟨rfl, hw⟩
        obtain rfl := hw.symm
        clear hw
        go_wp2
        go_ret
        exact ⟨rfl, G6.out.1⟩
    · have IN : Hid (Calls Try.prog 13 #[.slice q N cap] w1 fun e w' => e = .returned (.tuple #[.slice none 0 0, .int .i64 1]) ∧ w1.grownBy w' none) := invert_bad (MR.out.keep G1.out) hgood
      have HG : Hid (¬ (mayB X = true ∧ X.length = (X.getD 0 []).length)) := hgood
      clear hgood
      go_wp2_with fail
      refine IN.out.mono ?_
      rintro e w2 ⟨rfl, g2⟩
      have G2 : Hid (w.grownBy w2 none) := grown_trans G1.out g2
      clear g2 IN
      go_wp2_with fail
      have MA := may_any (MR.out.keep G2.out)
      cases hx : mayB X with
      | false =>
        rw [hx] at MA
        refine MA.mono ?_
        rintro e w3 ⟨rfl, hw⟩
        obtain rfl := hw.symm
        clear hw MA hx
        go_wp2
        go_ret
        exact ⟨rfl, G2.out⟩
      | true =>
        rw [hx] at MA
        have sx := may_spec hx
        obtain ⟨b0, off, rfl, hc⟩ := (MR.out.keep G2.out).row.spot (k := 0) (by have := HN.out; omega)
        obtain ⟨p0, n0, c0, e0, hn0⟩ := ((MR.out.keep G2.out).vec 0 (by have := HN.out; omega)).opened
        rw [e0] at hc
        have hc0 : w2.cell? ⟨b0, off, none⟩ = some (.slice p0 n0 c0) := hc
        have hpos : (0 : Int) < (N : Int) := by have := HN.out; omega
        have hne : ((N : Int) != (n0 : Int)) = true := by
          have : ¬ X.length = (X.getD 0 []).length := fun e => HG.out ⟨hx, e⟩
          have := HN.out
          simp; omega
        refine MA.mono ?_
        rintro e w3 ⟨rfl, hw⟩
        obtain rfl := hw.symm
        clear hw MA hx hc e0 hn0 sx
        go_wp2
        go_ret
        exact ⟨rfl, G2.out⟩

set_option maxRecDepth 100000 in
theorem lifted (os : Os) (started : os.Started) (H : Type) (enc : TypeId × Value → H) :
    ReturnsInHanded {} Try.checked os 5 .any (Rows.matrixInverseSpec.pre6 enc Try.prog Try.f5 Rows.matrixInverseRow.domain false) (Rows.matrixInverseSpec.post enc Try.prog Try.f5 false true false false) := by
  refine returnsInHanded_of_change_sized (C := Try.checked) Try.own started (by kernel_rfl) Try.func5
    (ChangeSpec.witness6 (enc := enc) (C := Try.checked) false ⟨#[], #[.slice none 0 0], []⟩ 8 (by kernel_rfl) (by kernel_rfl) (by kernel_rfl) (by kernel_rfl)) ?_
  intro W base args ds gs before hval0 hW hcnd hsz0 _
  have hsz : (DataW.weightsEach Try.prog (Try.f5.params.toList ++ Rows.matrixInverseSpec.plain.varTypes Try.prog) (ds ++ gs)).all (· ≤ reachBytes) = true := hsz0
  clear hsz0
  have hval : ∀ (j : Nat) t v, Try.f5.params[j]? = some t → args[j]? = some v → Value.okWide Try.prog W .any base t v := hval0
  have hW' := hW
  obtain ⟨p, q, hA0, hV, rfl, hfz, hnd⟩ := hW
  have hA : DataW.TrodAll enc Try.prog W 0 (fun _ => true) true Try.f5.params.toList args.toList ds p := hA0
  rw [Try.params5] at hA hval hsz
  obtain ⟨v0, vs0, d0, ds0, p0, q0, hargs, rfl, rfl, h0, r0⟩ := trodAll_cons hA
  obtain ⟨rfl, rfl, rfl⟩ := trodAll_nil r0
  obtain rfl : args = #[v0] := by cases args; simp_all
  obtain ⟨rfl, rfl⟩ := trodVars_none hV
  have k0 := h0
  have lt0 : ∀ x ∈ p0, x.block < W.heap.size := by obtain ⟨m, hm⟩ := k0; exact DataW.trod_lt m _ _ _ hm
  obtain ⟨y0, x0, w0⟩ := mat_arg (hval 0 22 v0 rfl rfl) h0 (fun n hn => of_decide_eq_true (List.all_eq_true.1 hsz n (DataW.weights_mem_each (j := 0) (t := 22) rfl rfl n hn)))
  clear hA0 hval0
  refine (walk w0).mono fun e W' ⟨he, hg⟩ => ?_
  have bel : Below W.heap.size W W' := grown_below hg (Nat.le_refl _) (by simp)
  subst he
  exact ⟨_, rfl, _, _, _, [], _, [], hW', trodAll_mk1 (shut_bool Try.underlying4 _), (trodAll_cons_mk (Below.trod Try.laidOut (by kernel_rfl) (of_decide_eq_true (by kernel_rfl)) k0 bel lt0) trodAll_mk0), rfl, bel.frame _, fun h => by cases h⟩

theorem over : Rows.matrixInverseRow.holds Try.pinned (OpenSpec.ofChange Rows.matrixInverseSpec) :=
  OpenClaim.holds_of_wide 5 Try.f5 rfl rfl rfl rfl rfl rfl rfl ⟨rfl, rfl, rfl, rfl, rfl⟩ rfl rfl rfl rfl rfl (by kernel_rfl) Try.func5 (by kernel_rfl)
    (of_decide_eq_true (by kernel_rfl)) (by unfold Func.isWrapper; first | (rw [if_pos (by decide +kernel)]; kernel_rfl) | (rw [if_neg (by decide +kernel)]; exact ⟨rfl, rfl⟩))
    (fun os started H enc _ => lifted os started H enc)

theorem proved : Rows.MatrixInverseSaid := over
end Go.Proofs.Ytdgdbjkgecfgeaa.matrixInverse

namespace Go.Proofs.Ytdgdbjkgecfgeaa
theorem matrixInverse_holds : Rows.MatrixInverseSaid := matrixInverse.proved
#print axioms matrixInverse_holds
end Go.Proofs.Ytdgdbjkgecfgeaa
