/- FieldPowers: for any byte a and any int n the call hayricklaw01.FieldPowers(a, n) returns true, and nothing that was in memory turns.
   Conditions: none. -/
import Derived.Test.YtdfeehbbgigplaaRows
import Derived.Test.YtdfeehbbgigplaaAwake
import Derived.Test.YtdfeehbbgigplaaRef
import Derived.WalkKit
import Derived.ProofKit
import Derived.OpenShut
namespace Go.Proofs.Ytdfeehbbgigplaa.fieldPowers
open Go.ChangeShapes Go.WideShapes Go.ChangeAt Go.RowKit
set_option linter.unusedVariables false

theorem own : ownKnob Try.prog.godebug = none := by kernel_rfl

set_option maxHeartbeats 4000000 in
set_option maxRecDepth 100000 in
theorem powers (a : Nat) (n : Int) (ha : a < 256) (w : World) :
    Calls Try.prog 4 #[.int .u8 (a : Int), .int .i64 n] w fun e w' => e = .returned (.bool true) ∧ Grown w w' := by
  have H0 : Hid (Grown w w) := Grown.refl w
  generalize hl : (if (a : Int) = 0 then (0 : Int) else ((M.lg (a : Int).toNat : Nat) : Int)) = lv
  generalize he : (if (a : Int) = 0 then (1 : Int) else 0) = le
  generalize hp : (if n = 0 then (1 : Int) else if (a : Int) = 0 then 0 else ((M.pw (M.lg (a : Int).toNat * (n % 255).toNat % 255) : Nat) : Int)) = pv
  generalize hx : ((M.pw (n % 255).toNat : Nat) : Int) = xv
  have L1 := fun w => log_all (a : Int) w (by omega) (by omega)
  have L2 := fun w => refLog_all (a : Int) w (by omega) (by omega)
  have P1 := fun w => pow_all (a : Int) n w (by omega) (by omega)
  have P2 := fun w => refPow_all (a : Int) n w (by omega) (by omega)
  have E1 := fun w => exp_any n w
  have E2 := fun w => refExp_any n w
  rw [hl, he] at L1 L2
  rw [hp] at P1 P2
  rw [hx] at E1 E2
  clear hl he hp hx
  go_enter Try.func4, Try.ntmps4
  go_wp2_with (first
    | (go_at_call 12; refine (awake_any _).mono ?_; rintro e w1 ⟨rfl, hG⟩; have HG : Hid (Grown w w1) := grown_trans (Hid.out (by assumption)) hG; clear hG)
    | (go_at_call 16; refine (L1 _).mono ?_; rintro e w1 ⟨rfl, hG⟩; have HG : Hid (Grown w w1) := grown_trans (Hid.out (by assumption)) hG; clear hG)
    | (go_at_call 17; refine (L2 _).mono ?_; rintro e w1 ⟨rfl, hw⟩; obtain rfl := hw.symm; clear hw)
    | (go_at_call 18; refine (E1 _).mono ?_; rintro e w1 ⟨rfl, hG⟩; have HG : Hid (Grown w w1) := grown_trans (Hid.out (by assumption)) hG; clear hG)
    | (go_at_call 19; refine (E2 _).mono ?_; rintro e w1 ⟨rfl, hw⟩; obtain rfl := hw.symm; clear hw)
    | (go_at_call 20; refine (P1 _).mono ?_; rintro e w1 ⟨rfl, hG⟩; have HG : Hid (Grown w w1) := grown_trans (Hid.out (by assumption)) hG; clear hG)
    | (go_at_call 21; refine (P2 _).mono ?_; rintro e w1 ⟨rfl, hw⟩; obtain rfl := hw.symm; clear hw))
  go_ret
  exact ⟨rfl, by exact Hid.out (by assumption)⟩

theorem walk (a0 : Int) (a1 : Int) (w0 : (Lit.int .u8 a0).wf = true) (w1 : (Lit.int .i64 a1).wf = true) (w : World) :
    Calls Try.prog 4 #[.int .u8 a0, .int .i64 a1] w fun e w' => e = .returned (.bool true) ∧ Grown w w' := by
  have b0 := bounds_u8 w0
  obtain ⟨a, rfl⟩ := Int.eq_ofNat_of_zero_le b0.1
  exact powers a a1 (by omega) w

set_option maxRecDepth 100000 in
theorem lifted (os : Os) (started : os.Started) (H : Type) (enc : TypeId × Value → H) :
    ReturnsInHanded {} Try.checked os 4 .any (Rows.fieldPowersSpec.pre6 enc Try.prog Try.f4 Rows.fieldPowersRow.domain false) (Rows.fieldPowersSpec.post enc Try.prog Try.f4 false true false false) := by
  refine returnsInHanded_of_change (C := Try.checked) own started (by kernel_rfl) Try.func4
    (ChangeSpec.witness6 (enc := enc) (C := Try.checked) false ⟨#[], #[.int .u8 0, .int .i64 0], []⟩ 8 (by kernel_rfl) (by kernel_rfl) (by kernel_rfl) (by kernel_rfl)) ?_
  intro W base args ds gs before hval0 hW hcnd _
  have hval : ∀ (j : Nat) t v, Try.f4.params[j]? = some t → args[j]? = some v → Value.okWide Try.prog W .any base t v := hval0
  have hW' := hW
  obtain ⟨p, q, hA0, hV, rfl, hfz, hnd⟩ := hW
  have hA : DataW.TrodAll enc Try.prog W 0 (fun _ => true) true Try.f4.params.toList args.toList ds p := hA0
  rw [Try.params4] at hA hval
  obtain ⟨v0, vs0, d0, ds0, p0, q0, hargs, rfl, rfl, h0, r0⟩ := trodAll_cons hA
  obtain ⟨v1, vs1, d1, ds1, p1, q1, rfl, rfl, rfl, h1, r1⟩ := trodAll_cons r0
  obtain ⟨rfl, rfl, rfl⟩ := trodAll_nil r1
  obtain rfl : args = #[v0, v1] := by cases args; simp_all
  obtain ⟨rfl, rfl⟩ := trodVars_none hV
  obtain ⟨a0, rfl, rfl, rfl, w0⟩ := open_int Try.underlying5 (hval 0 5 v0 rfl rfl) h0
  obtain ⟨a1, rfl, rfl, rfl, w1⟩ := open_int Try.underlying3 (hval 1 3 v1 rfl rfl) h1
  clear hA0 hval0
  simp only [List.append_nil] at hW'
  refine (walk a0 a1 w0 w1 W).mono fun e W' ⟨he, hg⟩ => ?_
  subst he
  exact ⟨_, rfl, post_of_same (pa := []) (pv := []) hW' (fun _ _ _ => (trodAll_cons_mk (shut_bool Try.underlying4 _) trodAll_mk0)) (fun sp _ => (trodAll_cons_mk (shut_int Try.underlying5 w0) (trodAll_cons_mk (shut_int Try.underlying3 w1) trodAll_mk0))) (fun _ _ => rfl) rfl
    (hg.frame _) hg.2.1 (ok_one (by kernel_rfl) rfl (okWide_bool_mk Try.underlying4 _))⟩

theorem over : Rows.fieldPowersRow.holds Try.pinned (OpenSpec.ofChange Rows.fieldPowersSpec) :=
  OpenClaim.holds_of_wide 4 Try.f4 rfl rfl rfl rfl rfl rfl rfl ⟨rfl, rfl, rfl, rfl, rfl⟩ rfl rfl rfl rfl rfl (by kernel_rfl) Try.func4 (by kernel_rfl)
    (of_decide_eq_true (by kernel_rfl)) (by unfold Func.isWrapper; first | (rw [if_pos (by decide +kernel)]; kernel_rfl) | (rw [if_neg (by decide +kernel)]; exact ⟨rfl, rfl⟩))
    (fun os started H enc _ => lifted os started H enc)

theorem proved : Rows.FieldPowersSaid :=
  over
end Go.Proofs.Ytdfeehbbgigplaa.fieldPowers

namespace Go.Proofs.Ytdfeehbbgigplaa
theorem fieldPowers_holds : Rows.FieldPowersSaid := fieldPowers.proved
#print axioms fieldPowers_holds
end Go.Proofs.Ytdfeehbbgigplaa
