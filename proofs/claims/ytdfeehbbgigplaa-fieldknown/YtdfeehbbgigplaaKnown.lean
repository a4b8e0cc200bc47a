/- FieldKnown: the call hayricklaw01.FieldKnown() returns true, in whatever memory it is made, and nothing that was in memory turns.
   Conditions: none (the call takes no argument). -/
import Derived.Test.YtdfeehbbgigplaaRows
import Derived.Test.YtdfeehbbgigplaaAwake
import Derived.WalkKit
import Derived.ProofKit
import Derived.OpenShut
namespace Go.Proofs.Ytdfeehbbgigplaa.fieldKnown
open Go.ChangeShapes Go.WideShapes Go.ChangeAt Go.RowKit
set_option linter.unusedVariables false

theorem own : ownKnob Try.prog.godebug = none := by kernel_rfl

set_option maxHeartbeats 4000000 in
set_option maxRecDepth 100000 in
theorem walk (w : World) :
    Calls Try.prog 7 #[] w fun e w' => e = .returned (.bool true) ∧ Grown w w' := by
  have H0 : Hid (Grown w w) := Grown.refl w
  have f1 : M.lg 1 = 0 := M.lg_pw (n := 0) (by decide)
  have f2 : M.inv 1 = 1 := by show M.pw ((255 - M.lg 1) % 255) = 1; rw [f1]; decide
  have f3 : M.mul 255 255 = 226 := by decide
  have f4 : M.pw 254 = 142 := k_pw254
  have f5 : M.lg 3 = 25 := by
    have h : M.pw 25 = 3 := by decide
    rw [← h]; exact M.lg_pw (by decide)
  have f6 : M.pw 230 = 244 := by rw [M.pw_tab 230 (by decide)]; decide +kernel
  have f7 : M.pw 0 = 1 := rfl
  go_enter Try.func7, Try.ntmps7
  go_wp2_with (first
    | (go_at_call 12; refine (awake_any _).mono ?_; rintro e w1 ⟨rfl, hG⟩; have HG : Hid (Grown w w1) := grown_trans (Hid.out (by assumption)) hG; clear hG)
    | (go_at_call 8; refine (inv_all _ _ (by omega) (by omega)).mono ?_; rintro e w1 ⟨rfl, hG⟩; have HG : Hid (Grown w w1) := grown_trans (Hid.out (by assumption)) hG; clear hG)
    | (go_at_call 16; refine (log_all _ _ (by omega) (by omega)).mono ?_; rintro e w1 ⟨rfl, hG⟩; have HG : Hid (Grown w w1) := grown_trans (Hid.out (by assumption)) hG; clear hG)
    | (go_at_call 10; refine (div_all _ _ _ (by omega) (by omega) (by omega) (by omega)).mono ?_; rintro e w1 ⟨rfl, hG⟩; have HG : Hid (Grown w w1) := grown_trans (Hid.out (by assumption)) hG; clear hG)
    | (go_at_call 18; refine (exp_any _ _).mono ?_; rintro e w1 ⟨rfl, hG⟩; have HG : Hid (Grown w w1) := grown_trans (Hid.out (by assumption)) hG; clear hG)
    | (go_at_call 20; refine (pow_all _ _ _ (by omega) (by omega)).mono ?_; rintro e w1 ⟨rfl, hG⟩; have HG : Hid (Grown w w1) := grown_trans (Hid.out (by assumption)) hG; clear hG)
    | (go_at_call 14; refine (mul_any _ _ _ (by omega) (by omega) (by omega) (by omega)).mono ?_; rintro e w1 ⟨rfl, hw⟩; obtain rfl := hw.symm; clear hw))
  go_ret
  exact ⟨rfl, by exact Hid.out (by assumption)⟩

set_option maxRecDepth 100000 in
theorem lifted (os : Os) (started : os.Started) (H : Type) (enc : TypeId × Value → H) :
    ReturnsInHanded {} Try.checked os 7 .any (Rows.fieldKnownSpec.pre6 enc Try.prog Try.f7 Rows.fieldKnownRow.domain false) (Rows.fieldKnownSpec.post enc Try.prog Try.f7 false true false false) := by
  refine returnsInHanded_of_change (C := Try.checked) own started (by kernel_rfl) Try.func7
    (ChangeSpec.witness6 (enc := enc) (C := Try.checked) false ⟨#[], #[], []⟩ 8 (by kernel_rfl) (by kernel_rfl) (by kernel_rfl) (by kernel_rfl)) ?_
  intro W base args ds gs before hval0 hW hcnd _
  have hval : ∀ (j : Nat) t v, Try.f7.params[j]? = some t → args[j]? = some v → Value.okWide Try.prog W .any base t v := hval0
  have hW' := hW
  obtain ⟨p, q, hA0, hV, rfl, hfz, hnd⟩ := hW
  have hA : DataW.TrodAll enc Try.prog W 0 (fun _ => true) true Try.f7.params.toList args.toList ds p := hA0
  rw [Try.params7] at hA hval
  obtain ⟨rfl, rfl, rfl⟩ := trodAll_none hA
  obtain ⟨rfl, rfl⟩ := trodVars_none hV
  clear hA0 hval0
  simp only [List.append_nil] at hW'
  refine (walk  W).mono fun e W' ⟨he, hg⟩ => ?_
  subst he
  exact ⟨_, rfl, post_of_same (pa := []) (pv := []) hW' (fun _ _ _ => (trodAll_cons_mk (shut_bool Try.underlying4 _) trodAll_mk0)) (fun sp _ => rfl) (fun _ _ => rfl) rfl
    (hg.frame _) hg.2.1 (ok_one (by kernel_rfl) rfl (okWide_bool_mk Try.underlying4 _))⟩

theorem over : Rows.fieldKnownRow.holds Try.pinned (OpenSpec.ofChange Rows.fieldKnownSpec) :=
  OpenClaim.holds_of_wide 7 Try.f7 rfl rfl rfl rfl rfl rfl rfl ⟨rfl, rfl, rfl, rfl, rfl⟩ rfl rfl rfl rfl rfl (by kernel_rfl) Try.func7 (by kernel_rfl)
    (of_decide_eq_true (by kernel_rfl)) (by unfold Func.isWrapper; first | (rw [if_pos (by decide +kernel)]; kernel_rfl) | (rw [if_neg (by decide +kernel)]; exact ⟨rfl, rfl⟩))
    (fun os started H enc _ => lifted os started H enc)

theorem proved : Rows.FieldKnownSaid :=
  over
end Go.Proofs.Ytdfeehbbgigplaa.fieldKnown

namespace Go.Proofs.Ytdfeehbbgigplaa
theorem fieldKnown_holds : Rows.FieldKnownSaid := fieldKnown.proved
#print axioms fieldKnown_holds
end Go.Proofs.Ytdfeehbbgigplaa
