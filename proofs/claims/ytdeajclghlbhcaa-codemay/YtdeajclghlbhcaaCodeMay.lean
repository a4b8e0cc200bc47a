/- CodeMay: for all k and n the call hayricklaw04.CodeMay(k, n) returns true, in whatever memory it is made, and nothing that was in memory turns.
   Conditions: none. -/
import Derived.Test.YtdeajclghlbhcaaRows
import Derived.Test.YtdeajclghlbhcaaLift
import Derived.Test.YtdeajclghlbhcaaWake4
import Derived.Test.YtdeajclghlbhcaaRefGen4
import Derived.WalkKit
import Derived.ProofKit
import Derived.OpenShut
import Derived.ChangeOld
import Derived.Below
import Derived.BigFrame
namespace Go.Proofs.Ytdeajclghlbhcaa.codeMay
open Go.ChangeShapes Go.WideShapes Go.ChangeAt Go.RowKit
set_option linter.unusedVariables false

theorem wrap_mid (n : Int) (h0 : 0 ≤ n) (h1 : n < 1000000) : wrap64 n = n := by unfold wrap64; omega

set_option maxHeartbeats 3200000 in
set_option maxRecDepth 100000 in
theorem walk {p q : Prop} {w : World} {k n : Int} (_ : p) (_ : q) :
    Calls Try.prog 3 #[.int .i64 k, .int .i64 n] w fun e w' => e = .returned (.bool true) ∧ w.grownBy w' none := by
  have AW : Hid (∀ w, Calls Try.prog 9 #[] w fun e w' => e = .returned (.bool true) ∧ w.grownBy w' none) := fun w => awake_any w
  have MM : Hid (∀ w, Calls Try.prog 10 #[.int .i64 k, .int .i64 n] w fun e w' => e = .returned (.bool (mayI k n)) ∧ w' = w) := fun w => codeMay_any k n w
  have RM : Hid (∀ w, Calls Try.prog 11 #[.int .i64 k, .int .i64 n] w fun e w' => e = .returned (.bool (mayI k n)) ∧ w' = w) := fun w => refMay4_any k n w
  rcases hb : mayI k n with _ | _
  · have GG : Hid (∀ w, Calls Try.prog 12 #[.int .i64 k, .int .i64 n] w fun e w' => e = .returned (.tuple #[.slice none 0 0, .int .i64 1]) ∧ w' = w) := fun w => generator_no k n w hb
    have RG : Hid (∀ w, Calls Try.prog 13 #[.int .i64 k, .int .i64 n] w fun e w' => e = .returned (.tuple #[.slice none 0 0, .int .i64 1]) ∧ w' = w) := fun w => refGen_no k n w hb
    have SS : Hid (∀ w, Calls Try.prog 14 #[.slice none 0 0, .slice none 0 0] w fun e w' => e = .returned (.bool true) ∧ w.grownBy w' none) := fun w => refSame_any (mat_nil w) (mat_nil w)
    rw [hb] at MM RM
    clear hb
    go_enter Try.func3, Try.ntmps3
    go_wp2_with (first
      | (go_at_call 9; refine (AW.out _).mono ?_; rintro e w1 ⟨rfl, g1⟩; have G1 : Hid (w.grownBy w1 none) := g1; clear g1)
      | (go_at_call 10; refine (MM.out _).mono ?_; rintro e w2 ⟨rfl, hw⟩; obtain rfl := hw.symm; clear hw)
      | (go_at_call 11; refine (RM.out _).mono ?_; rintro e w2 ⟨rfl, hw⟩; obtain rfl := hw.symm; clear hw)
      | (go_at_call 12; refine (GG.out _).mono ?_; rintro e w2 ⟨rfl, hw⟩; obtain rfl := hw.symm; clear hw)
      | (go_at_call 13; refine (RG.out _).mono ?_; rintro e w2 ⟨rfl, hw⟩; obtain rfl := hw.symm; clear hw)
      | (go_at_call 14; refine (SS.out _).mono ?_; rintro e w3 ⟨rfl, g3⟩; have G3 : Hid (w.grownBy w3 none) := grown_trans G1.out g3; clear g3))
    go_ret
    exact ⟨rfl, G3.out⟩
  · have hm := mayI_iff.1 hb
    rw [hb] at MM RM
    obtain ⟨k, rfl⟩ := Int.eq_ofNat_of_zero_le (show 0 ≤ k by omega)
    obtain ⟨n, rfl⟩ := Int.eq_ofNat_of_zero_le (show 0 ≤ n by omega)
    have hP : k * n ≤ 255 * 255 := Nat.mul_le_mul (by omega) (by omega)
    have hw : wrap64 ((k : Int) * (n : Int)) = ((k * n : Nat) : Int) := by rw [← Int.natCast_mul]; exact wrap_mid _ (by omega) (by omega)
    have GG : Hid (∀ w, Calls Try.prog 12 #[.int .i64 (k : Int), .int .i64 (n : Int)] w (Made w (genList k n) 0)) := fun w => generator_yes k n w (by omega) (by omega) (by omega)
    have RG : Hid (∀ w, Calls Try.prog 13 #[.int .i64 (k : Int), .int .i64 (n : Int)] w (Made w (genList k n) 0)) := fun w => refGen_yes k n w (by omega) (by omega) (by omega)
    unfold Made at GG RG
    generalize k * n = P at *
    clear hb
    by_cases hg : 3000 < P
    · have hg' : (3000 : Int) < (P : Int) := by omega
      go_enter Try.func3, Try.ntmps3
      go_wp2_with (first
        | (go_at_call 9; refine (AW.out _).mono ?_; rintro e w1 ⟨rfl, g1⟩; have G1 : Hid (w.grownBy w1 none) := g1; clear g1)
        | (go_at_call 10; refine (MM.out _).mono ?_; rintro e w2 ⟨rfl, hw⟩; obtain rfl := hw.symm; clear hw)
        | (go_at_call 11; refine (RM.out _).mono ?_; rintro e w2 ⟨rfl, hw⟩; obtain rfl := hw.symm; clear hw))
      go_ret
      exact ⟨rfl, G1.out⟩
    · have hg' : ¬ (3000 : Int) < (P : Int) := by omega
      go_enter Try.func3, Try.ntmps3
      go_wp2_with (first
        | (go_at_call 9; refine (AW.out _).mono ?_; rintro e w1 ⟨rfl, g1⟩; have G1 : Hid (w.grownBy w1 none) := g1; clear g1)
        | (go_at_call 10; refine (MM.out _).mono ?_; rintro e w2 ⟨rfl, hw⟩; obtain rfl := hw.symm; clear hw)
        | (go_at_call 11; refine (RM.out _).mono ?_; rintro e w2 ⟨rfl, hw⟩; obtain rfl := hw.symm; clear hw)
        | (go_at_call 12; refine (GG.out _).mono ?_; rintro e w2 ⟨p2, n2, c2, us2, rfl, om2, sp2, g2⟩; have M2 : Hid (∀ w', w2.grownBy w' none → Mat w' (.slice p2 n2 c2) us2 (genList k n)) := (fun w' g => om2.mat.keep g); have G2 : Hid (w.grownBy w2 none) := grown_trans G1.out g2; clear om2 sp2 g2)
        | (go_at_call 13; refine (RG.out _).mono ?_; rintro e w3 ⟨p3, n3, c3, us3, rfl, om3, sp3, g3⟩; have S3 : Hid (Calls Try.prog 14 #[.slice p2 n2 c2, .slice p3 n3 c3] w3 fun e w' => e = .returned (.bool true) ∧ w3.grownBy w' none) := (by have h := refSame_any (M2.out _ g3) om3.mat; rw [show decide (genList k n = genList k n) = true from decide_eq_true rfl] at h; exact h); have G3 : Hid (w.grownBy w3 none) := grown_trans G2.out g3; clear om3 sp3 g3)
        | (go_at_call 14; refine S3.out.mono ?_; rintro e w4 ⟨rfl, g4⟩; have G4 : Hid (w.grownBy w4 none) := grown_trans G3.out g4; clear g4))
      go_ret
      exact ⟨rfl, G4.out⟩

set_option maxRecDepth 100000 in
theorem lifted (os : Os) (started : os.Started) (H : Type) (enc : TypeId × Value → H) :
    ReturnsInHanded {} Try.checked os 3 .any (Rows.codeMaySpec.pre6 enc Try.prog Try.f3 Rows.codeMayRow.domain false) (Rows.codeMaySpec.post enc Try.prog Try.f3 false true false false) := by
  refine returnsInHanded_of_change_sized (C := Try.checked) Try.own started (by kernel_rfl) Try.func3
    (ChangeSpec.witness6 (enc := enc) (C := Try.checked) false ⟨#[], #[.int .i64 0, .int .i64 0], []⟩ 8 (by kernel_rfl) (by kernel_rfl) (by kernel_rfl) (by kernel_rfl)) ?_
  intro W base args ds gs before hval0 hW hcnd hsz0 _
  have hsz : (DataW.weightsEach Try.prog (Try.f3.params.toList ++ Rows.codeMaySpec.plain.varTypes Try.prog) (ds ++ gs)).all (· ≤ reachBytes) = true := hsz0
  clear hsz0
  have hval : ∀ (j : Nat) t v, Try.f3.params[j]? = some t → args[j]? = some v → Value.okWide Try.prog W .any base t v := hval0
  have hW' := hW
  obtain ⟨p, q, hA0, hV, rfl, hfz, hnd⟩ := hW
  have hA : DataW.TrodAll enc Try.prog W 0 (fun _ => true) true Try.f3.params.toList args.toList ds p := hA0
  rw [Try.params3] at hA hval hsz
  obtain ⟨v0, vs0, d0, ds0, p0, q0, hargs, rfl, rfl, h0, r0⟩ := trodAll_cons hA
  obtain ⟨v1, vs1, d1, ds1, p1, q1, rfl, rfl, rfl, h1, r1⟩ := trodAll_cons r0
  obtain ⟨rfl, rfl, rfl⟩ := trodAll_nil r1
  obtain rfl : args = #[v0, v1] := by cases args; simp_all
  obtain ⟨rfl, rfl⟩ := trodVars_none hV
  obtain ⟨a0, rfl, rfl, rfl, w0⟩ := open_int Try.underlying3 (hval 0 3 v0 rfl rfl) h0
  obtain ⟨a1, rfl, rfl, rfl, w1⟩ := open_int Try.underlying3 (hval 1 3 v1 rfl rfl) h1
  clear hA0 hval0
  refine (walk w0 w1).mono fun e W' ⟨he, hg⟩ => ?_
  have bel : Below W.heap.size W W' := grown_below hg (Nat.le_refl _) (by simp)
  subst he
  exact ⟨_, rfl, _, _, _, [], _, [], hW', trodAll_mk1 (shut_bool Try.underlying4 _), (trodAll_cons_mk (shut_int Try.underlying3 w0) (trodAll_cons_mk (shut_int Try.underlying3 w1) trodAll_mk0)), rfl, bel.frame _, fun h => by cases h⟩

theorem over : Rows.codeMayRow.holds Try.pinned (OpenSpec.ofChange Rows.codeMaySpec) :=
  OpenClaim.holds_of_wide 3 Try.f3 rfl rfl rfl rfl rfl rfl rfl ⟨rfl, rfl, rfl, rfl, rfl⟩ rfl rfl rfl rfl rfl (by kernel_rfl) Try.func3 (by kernel_rfl)
    (of_decide_eq_true (by kernel_rfl)) (by unfold Func.isWrapper; first | (rw [if_pos (by decide +kernel)]; kernel_rfl) | (rw [if_neg (by decide +kernel)]; exact ⟨rfl, rfl⟩))
    (fun os started H enc _ => lifted os started H enc)

theorem proved : Rows.CodeMaySaid := over
end Go.Proofs.Ytdeajclghlbhcaa.codeMay

namespace Go.Proofs.Ytdeajclghlbhcaa
theorem codeMay_holds : Rows.CodeMaySaid := codeMay.proved
#print axioms codeMay_holds
end Go.Proofs.Ytdeajclghlbhcaa
