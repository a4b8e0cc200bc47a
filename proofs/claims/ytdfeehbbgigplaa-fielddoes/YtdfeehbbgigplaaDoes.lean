/- FieldDoes: for any two bytes a, b the call hayricklaw01.FieldDoes(a, b) returns true, and nothing that was in memory turns.
   Conditions: none. -/
import Derived.Test.YtdfeehbbgigplaaRows
import Derived.Test.YtdfeehbbgigplaaAwake
import Derived.Test.YtdfeehbbgigplaaRef
import Derived.WalkKit
import Derived.ProofKit
import Derived.OpenShut
namespace Go.Proofs.Ytdfeehbbgigplaa.fieldDoes
open Go.ChangeShapes Go.WideShapes Go.ChangeAt Go.RowKit
set_option linter.unusedVariables false

theorem own : ownKnob Try.prog.godebug = none := by kernel_rfl

set_option maxHeartbeats 4000000 in
set_option maxRecDepth 100000 in
theorem does (a b : Nat) (ha : a < 256) (hb : b < 256) (w : World) :
    Calls Try.prog 3 #[.int .u8 (a : Int), .int .u8 (b : Int)] w fun e w' => e = .returned (.bool true) ∧ Grown w w' := by
  have H0 : Hid (Grown w w) := Grown.refl w
  have hx := u8_xor_nat a b ha hb
  generalize hi : (if (a : Int) = 0 then (0 : Int) else ((M.inv (a : Int).toNat : Nat) : Int)) = iv
  generalize he : (if (a : Int) = 0 then (1 : Int) else 0) = ie
  generalize hd : (if (b : Int) = 0 then (0 : Int) else ((M.mul (a : Int).toNat (M.inv (b : Int).toNat) : Nat) : Int)) = dv
  generalize hf : (if (b : Int) = 0 then (1 : Int) else 0) = de
  have I1 := fun w => inv_all (a : Int) w (by omega) (by omega)
  have I2 := fun w => refInv_all (a : Int) w (by omega) (by omega)
  have D1 := fun w => div_all (a : Int) (b : Int) w (by omega) (by omega) (by omega) (by omega)
  have D2 := fun w => refDiv_all (a : Int) (b : Int) w (by omega) (by omega) (by omega) (by omega)
  rw [hi, he] at I1 I2
  rw [hd, hf] at D1 D2
  clear hi he hd hf
  go_enter Try.func3, Try.ntmps3
  go_wp2_with (first
    | (go_at_call 12; refine (awake_any _).mono ?_; rintro e w1 ⟨rfl, hG⟩; have HG : Hid (Grown w w1) := grown_trans (Hid.out (by assumption)) hG; clear hG)
    | (go_at_call 8; refine (I1 _).mono ?_; rintro e w1 ⟨rfl, hG⟩; have HG : Hid (Grown w w1) := grown_trans (Hid.out (by assumption)) hG; clear hG)
    | (go_at_call 9; refine (I2 _).mono ?_; rintro e w1 ⟨rfl, hw⟩; obtain rfl := hw.symm; clear hw)
    | (go_at_call 10; refine (D1 _).mono ?_; rintro e w1 ⟨rfl, hG⟩; have HG : Hid (Grown w w1) := grown_trans (Hid.out (by assumption)) hG; clear hG)
    | (go_at_call 11; refine (D2 _).mono ?_; rintro e w1 ⟨rfl, hw⟩; obtain rfl := hw.symm; clear hw)
    | (go_at_call 13; refine (add_any _ _ _ (by omega) (by omega) (by omega) (by omega)).mono ?_; rintro e w1 ⟨rfl, hw⟩; obtain rfl := hw.symm; clear hw)
    | (go_at_call 14; refine (mul_any _ _ _ (by omega) (by omega) (by omega) (by omega)).mono ?_; rintro e w1 ⟨rfl, hw⟩; obtain rfl := hw.symm; clear hw)
    | (go_at_call 15; refine (refMul_any _ _ _ (by omega) (by omega) (by omega) (by omega)).mono ?_; rintro e w1 ⟨rfl, hw⟩; obtain rfl := hw.symm; clear hw))
  go_ret
  exact ⟨rfl, by exact Hid.out (by assumption)⟩

theorem walk (a0 : Int) (a1 : Int) (w0 : (Lit.int .u8 a0).wf = true) (w1 : (Lit.int .u8 a1).wf = true) (w : World) :
    Calls Try.prog 3 #[.int .u8 a0, .int .u8 a1] w fun e w' => e = .returned (.bool true) ∧ Grown w w' := by
  have b0 := bounds_u8 w0
  have b1 := bounds_u8 w1
  obtain ⟨a, rfl⟩ := Int.eq_ofNat_of_zero_le b0.1
  obtain ⟨b, rfl⟩ := Int.eq_ofNat_of_zero_le b1.1
  exact does a b (by omega) (by omega) w

set_option maxRecDepth 100000 in
theorem lifted (os : Os) (started : os.Started) (H : Type) (enc : TypeId × Value → H) :
    ReturnsInHanded {} Try.checked os 3 .any (Rows.fieldDoesSpec.pre6 enc Try.prog Try.f3 Rows.fieldDoesRow.domain false) (Rows.fieldDoesSpec.post enc Try.prog Try.f3 false true false false) := by
  refine returnsInHanded_of_change (C := Try.checked) own started (by kernel_rfl) Try.func3
    (ChangeSpec.witness6 (enc := enc) (C := Try.checked) false ⟨#[], #[.int .u8 0, .int .u8 0], []⟩ 8 (by kernel_rfl) (by kernel_rfl) (by kernel_rfl) (by kernel_rfl)) ?_
  intro W base args ds gs before hval0 hW hcnd _
  have hval : ∀ (j : Nat) t v, Try.f3.params[j]? = some t → args[j]? = some v → Value.okWide Try.prog W .any base t v := hval0
  have hW' := hW
  obtain ⟨p, q, hA0, hV, rfl, hfz, hnd⟩ := hW
  have hA : DataW.TrodAll enc Try.prog W 0 (fun _ => true) true Try.f3.params.toList args.toList ds p := hA0
  rw [Try.params3] at hA hval
  obtain ⟨v0, vs0, d0, ds0, p0, q0, hargs, rfl, rfl, h0, r0⟩ := trodAll_cons hA
  obtain ⟨v1, vs1, d1, ds1, p1, q1, rfl, rfl, rfl, h1, r1⟩ := trodAll_cons r0
  obtain ⟨rfl, rfl, rfl⟩ := trodAll_nil r1
  obtain rfl : args = #[v0, v1] := by cases args; simp_all
  obtain ⟨rfl, rfl⟩ := trodVars_none hV
  obtain ⟨a0, rfl, rfl, rfl, w0⟩ := open_int Try.underlying5 (hval 0 5 v0 rfl rfl) h0
  obtain ⟨a1, rfl, rfl, rfl, w1⟩ := open_int Try.underlying5 (hval 1 5 v1 rfl rfl) h1
  clear hA0 hval0
  simp only [List.append_nil] at hW'
  refine (walk a0 a1 w0 w1 W).mono fun e W' ⟨he, hg⟩ => ?_
  subst he
  exact ⟨_, rfl, post_of_same (pa := []) (pv := []) hW' (fun _ _ _ => (trodAll_cons_mk (shut_bool Try.underlying4 _) trodAll_mk0)) (fun sp _ => (trodAll_cons_mk (shut_int Try.underlying5 w0) (trodAll_cons_mk (shut_int Try.underlying5 w1) trodAll_mk0))) (fun _ _ => rfl) rfl
    (hg.frame _) hg.2.1 (ok_one (by kernel_rfl) rfl (okWide_bool_mk Try.underlying4 _))⟩

theorem over : Rows.fieldDoesRow.holds Try.pinned (OpenSpec.ofChange Rows.fieldDoesSpec) :=
  OpenClaim.holds_of_wide 3 Try.f3 rfl rfl rfl rfl rfl rfl rfl ⟨rfl, rfl, rfl, rfl, rfl⟩ rfl rfl rfl rfl rfl (by kernel_rfl) Try.func3 (by kernel_rfl)
    (of_decide_eq_true (by kernel_rfl)) (by unfold Func.isWrapper; first | (rw [if_pos (by decide +kernel)]; kernel_rfl) | (rw [if_neg (by decide +kernel)]; exact ⟨rfl, rfl⟩))
    (fun os started H enc _ => lifted os started H enc)

theorem proved : Rows.FieldDoesSaid :=
  over
end Go.Proofs.Ytdfeehbbgigplaa.fieldDoes

namespace Go.Proofs.Ytdfeehbbgigplaa
theorem fieldDoes_holds : Rows.FieldDoesSaid := fieldDoes.proved
#print axioms fieldDoes_holds
end Go.Proofs.Ytdfeehbbgigplaa
