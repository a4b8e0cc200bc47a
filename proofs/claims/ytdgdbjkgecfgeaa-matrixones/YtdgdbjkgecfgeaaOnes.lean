/- MatrixOnes: for any int n the call hayricklaw03.MatrixOnes(n) returns true.
   Conditions: none beyond the form's own. -/
import Derived.Test.YtdgdbjkgecfgeaaLift
import Derived.Test.YtdgdbjkgecfgeaaRefId
import Derived.Test.YtdgdbjkgecfgeaaWakes
namespace Go.Proofs.Ytdgdbjkgecfgeaa.matrixOnes
open Go.ChangeShapes Go.WideShapes Go.ChangeAt Go.RowKit
set_option linter.unusedVariables false

theorem mat_nil (w : World) : Mat w (.slice none 0 0) [] [] := ⟨⟨by simp, none, 0, rfl, Nat.le_refl _, by decide, fun h => absurd rfl h⟩, rfl, by simp⟩

set_option maxHeartbeats 3200000 in
theorem walk {p : Prop} {w : World} {a : Int} (_ : p) :
    Calls Try.prog 4 #[.int .i64 a] w fun e w' => e = .returned (.bool true) ∧ w.grownBy w' none := by
  by_cases h : 1 ≤ a ∧ a ≤ 255
  · obtain ⟨n, rfl⟩ := Int.eq_ofNat_of_zero_le (show 0 ≤ a by omega)
    have h1 : 1 ≤ n := by omega
    have h2 : n ≤ 255 := by omega
    clear h
    go_enter Try.func4, Try.ntmps4
    go_wp2_with fail
    refine (ident_any n w h1 h2).mono ?_
    rintro e w1 ⟨v, us, rfl, om, _, g1⟩
    obtain ⟨pa, na, ca, rfl, hq⟩ := om.mat.row.opened
    clear hq
    have MA : Hid (Mat w1 (.slice pa na ca) us (idList n)) := om.mat
    have G1 : Hid (w.grownBy w1 none) := g1
    clear om g1
    go_wp2_with fail
    refine (refIdent_any n w1 h1 h2).mono ?_
    rintro e w2 ⟨v, us2, rfl, om, _, g2⟩
    obtain ⟨pb, nb, cb, rfl, hq⟩ := om.mat.row.opened
    clear hq
    have MB : Hid (Mat w2 (.slice pb nb cb) us2 (idList n)) := om.mat
    have MA2 : Hid (Mat w2 (.slice pa na ca) us (idList n)) := MA.out.keep g2
    have G2 : Hid (w.grownBy w2 none) := grown_trans G1.out g2
    clear om g2 MA G1
    go_wp2_with fail
    refine (awake_any w2).mono ?_
    rintro e w3 ⟨rfl, g3⟩
    have MB3 : Hid (Mat w3 (.slice pb nb cb) us2 (idList n)) := MB.out.keep g3
    have MA3 : Hid (Mat w3 (.slice pa na ca) us (idList n)) := MA2.out.keep g3
    have G3 : Hid (w.grownBy w3 none) := grown_trans G2.out g3
    clear g3 MB MA2 G2
    go_wp2_with fail
    refine (refSame_any MA3.out MB3.out).mono ?_
    rw [show decide (idList n = idList n) = true from decide_eq_true rfl]
    rintro e w4 ⟨rfl, g4⟩
    have G4 : Hid (w.grownBy w4 none) := grown_trans G3.out g4
    clear g4 MA3 MB3 G3
    go_wp2
    go_ret
    exact ⟨rfl, G4.out⟩
  · have hb : (decide (1 ≤ a) && decide (a ≤ 255)) = false := by simp; omega
    clear h
    go_enter Try.func4, Try.ntmps4
    go_wp2_with fail
    refine (ident_no a w hb).mono ?_
    rintro e w1 ⟨rfl, hw⟩
    obtain rfl := hw.symm
    clear hw
    go_wp2_with fail
    refine (refIdent_no a _ hb).mono ?_
    rintro e w1 ⟨rfl, hw⟩
    obtain rfl := hw.symm
    clear hw
    go_wp2_with fail
    refine (awake_any _).mono ?_
    rintro e w3 ⟨rfl, g3⟩
    have G3 : Hid (World.grownBy _ w3 none) := g3
    clear g3
    go_wp2_with fail
    refine (refSame_any (mat_nil _) (mat_nil _)).mono ?_
    rintro e w4 ⟨rfl, g4⟩
    have G4 : Hid (World.grownBy _ w4 none) := grown_trans G3.out g4
    clear g4 G3
    go_wp2
    go_ret
    exact ⟨rfl, G4.out⟩

set_option maxRecDepth 100000 in
theorem lifted (os : Os) (started : os.Started) (H : Type) (enc : TypeId × Value → H) :
    ReturnsInHanded {} Try.checked os 4 .any (Rows.matrixOnesSpec.pre6 enc Try.prog Try.f4 Rows.matrixOnesRow.domain false) (Rows.matrixOnesSpec.post enc Try.prog Try.f4 false true false false) := by
  refine returnsInHanded_of_change_sized (C := Try.checked) Try.own started (by kernel_rfl) Try.func4
    (ChangeSpec.witness6 (enc := enc) (C := Try.checked) false ⟨#[], #[.int .i64 0], []⟩ 8 (by kernel_rfl) (by kernel_rfl) (by kernel_rfl) (by kernel_rfl)) ?_
  intro W base args ds gs before hval0 hW hcnd hsz0 _
  have hsz : (DataW.weightsEach Try.prog (Try.f4.params.toList ++ Rows.matrixOnesSpec.plain.varTypes Try.prog) (ds ++ gs)).all (· ≤ reachBytes) = true := hsz0
  clear hsz0
  have hval : ∀ (j : Nat) t v, Try.f4.params[j]? = some t → args[j]? = some v → Value.okWide Try.prog W .any base t v := hval0
  have hW' := hW
  obtain ⟨p, q, hA0, hV, rfl, hfz, hnd⟩ := hW
  have hA : DataW.TrodAll enc Try.prog W 0 (fun _ => true) true Try.f4.params.toList args.toList ds p := hA0
  rw [Try.params4] at hA hval hsz
  obtain ⟨v0, vs0, d0, ds0, p0, q0, hargs, rfl, rfl, h0, r0⟩ := trodAll_cons hA
  obtain ⟨rfl, rfl, rfl⟩ := trodAll_nil r0
  obtain rfl : args = #[v0] := by cases args; simp_all
  obtain ⟨rfl, rfl⟩ := trodVars_none hV
  obtain ⟨a0, rfl, rfl, rfl, w0⟩ := open_int Try.underlying3 (hval 0 3 v0 rfl rfl) h0
  clear hA0 hval0
  refine (walk w0).mono fun e W' ⟨he, hg⟩ => ?_
  have bel : Below W.heap.size W W' := grown_below hg (Nat.le_refl _) (by simp)
  subst he
  exact ⟨_, rfl, _, _, _, [], _, [], hW', trodAll_mk1 (shut_bool Try.underlying4 _), (trodAll_cons_mk (shut_int Try.underlying3 w0) trodAll_mk0), rfl, bel.frame _, fun h => by cases h⟩

theorem over : Rows.matrixOnesRow.holds Try.pinned (OpenSpec.ofChange Rows.matrixOnesSpec) :=
  OpenClaim.holds_of_wide 4 Try.f4 rfl rfl rfl rfl rfl rfl rfl ⟨rfl, rfl, rfl, rfl, rfl⟩ rfl rfl rfl rfl rfl (by kernel_rfl) Try.func4 (by kernel_rfl)
    (of_decide_eq_true (by kernel_rfl)) (by unfold Func.isWrapper; first | (rw [if_pos (by decide +kernel)]; kernel_rfl) | (rw [if_neg (by decide +kernel)]; exact ⟨rfl, rfl⟩))
    (fun os started H enc _ => lifted os started H enc)

theorem proved : Rows.MatrixOnesSaid := over
end Go.Proofs.Ytdgdbjkgecfgeaa.matrixOnes

namespace Go.Proofs.Ytdgdbjkgecfgeaa
theorem matrixOnes_holds : Rows.MatrixOnesSaid := matrixOnes.proved
#print axioms matrixOnes_holds
end Go.Proofs.Ytdgdbjkgecfgeaa
