/- StripeKnown: the call hayricklaw08.StripeKnown() returns true. Conditions: none beyond the form own (a started world). -/
import Derived.Deep.RegionHeld3
import Derived.BigRegion
import Derived.Deep.MidRow
import Derived.Test.YtfjlpifaaknmpaaGreatSk1
import Derived.Test.YtfjlpifaaknmpaaGreatSk2
import Derived.Test.YtfjlpifaaknmpaaGreatSk3
import Derived.Test.YtfjlpifaaknmpaaGreatSk4
import Derived.Test.YtfjlpifaaknmpaaGreatSk5
import Derived.Test.YtfjlpifaaknmpaaGreatSk6
import Derived.Test.YtfjlpifaaknmpaaGreatSk7
import Derived.Test.YtfjlpifaaknmpaaGreatSk8
import Derived.Test.YtfjlpifaaknmpaaGreatSk9
import Derived.Test.YtfjlpifaaknmpaaGreatSk10
import Derived.Test.YtfjlpifaaknmpaaGreatSk11
import Derived.Test.YtfjlpifaaknmpaaGreatSk12
import Derived.Test.YtfjlpifaaknmpaaGreatSk13
import Derived.Test.YtfjlpifaaknmpaaGreatSk14
import Derived.Test.YtfjlpifaaknmpaaGreatSk15
import Derived.Test.YtfjlpifaaknmpaaGreatSk16
import Derived.Test.YtfjlpifaaknmpaaGreatSk17
import Derived.Test.YtfjlpifaaknmpaaGreatSk18
import Derived.Test.YtfjlpifaaknmpaaGreatSk19
import Derived.Test.YtfjlpifaaknmpaaGreatSk20
import Derived.Test.YtfjlpifaaknmpaaGreatSk21
import Derived.Test.YtfjlpifaaknmpaaGreatSk22
import Derived.Test.YtfjlpifaaknmpaaGreatSk23
import Derived.Test.YtfjlpifaaknmpaaGreatSk24
import Derived.Test.YtfjlpifaaknmpaaGreatSk25
import Derived.Test.YtfjlpifaaknmpaaGreatSk26
import Derived.Test.YtfjlpifaaknmpaaGreatSk27
namespace Go.Proofs.YtfjlpifaaknmpaaGreat.stripeKnown
open Go.ChangeShapes Go.WideShapes Go.ChangeAt Go.RowKit
set_option linter.unusedVariables false

set_option maxRecDepth 100000 in
theorem lifted (os : Os) (started : os.Started) (H : Type) (enc : TypeId × Value → H) :
    ReturnsInHanded {} Tryz.checked os 5 .any (Rows.stripeKnownSpec.pre6 enc Tryz.prog Tryz.f5 Rows.stripeKnownRow.domain false) (Rows.stripeKnownSpec.post enc Tryz.prog Tryz.f5 false true false false) := by
  refine returnsInHanded_of_change_sized (C := Tryz.checked) Tryz.own started (by kernel_rfl) Tryz.func5
    (ChangeSpec.witness6 (enc := enc) (C := Tryz.checked) false ⟨#[], #[], []⟩ 8 (by kernel_rfl) (by kernel_rfl) (by kernel_rfl) (by kernel_rfl)) ?_
  intro W base args ds gs before hval0 hW hcnd hsz0 _
  have hsz : (DataW.weightsEach Tryz.prog (Tryz.f5.params.toList ++ Rows.stripeKnownSpec.plain.varTypes Tryz.prog) (ds ++ gs)).all (· ≤ reachBytes) = true := hsz0
  clear hsz0
  have hval : ∀ (j : Nat) t v, Tryz.f5.params[j]? = some t → args[j]? = some v → Value.okWide Tryz.prog W .any base t v := hval0
  have hW' := hW
  obtain ⟨p, q, hA0, hV, rfl, hfz, hnd⟩ := hW
  have hA : DataW.TrodAll enc Tryz.prog W 0 (fun _ => true) true Tryz.f5.params.toList args.toList ds p := hA0
  rw [Tryz.params5] at hA hval hsz
  obtain ⟨hargs, rfl, rfl⟩ := trodAll_nil hA
  obtain rfl : args = #[] := by cases args; simp_all
  obtain ⟨rfl, rfl⟩ := trodVars_none hV
  clear hA0 hval0
  refine (walk ).mono fun e W' ⟨he, hg⟩ => ?_
  have bel : Below W.heap.size W W' := grown_below hg (Nat.le_refl _) (by simp)
  subst he
  exact ⟨_, rfl, _, _, _, [], _, [], hW', trodAll_mk1 (shut_bool Tryz.underlying4 _), trodAll_mk0, rfl, bel.frame _, fun h => by cases h⟩

theorem over : Rows.stripeKnownRow.holds Tryz.pinned (OpenSpec.ofChange Rows.stripeKnownSpec) :=
  OpenClaim.holds_of_wide 5 Tryz.f5 rfl rfl rfl rfl rfl rfl rfl ⟨rfl, rfl, rfl, rfl, rfl⟩ rfl rfl rfl rfl rfl (by kernel_rfl) Tryz.func5 (by kernel_rfl)
    (of_decide_eq_true (by kernel_rfl)) (by unfold Func.isWrapper; first | (rw [if_pos (by decide +kernel)]; kernel_rfl) | (rw [if_neg (by decide +kernel)]; exact ⟨rfl, rfl⟩))
    (fun os started H enc _ => lifted os started H enc)

theorem proved : Rows.StripeKnownSaid := over
end Go.Proofs.YtfjlpifaaknmpaaGreat.stripeKnown

namespace Go.Proofs.YtfjlpifaaknmpaaGreat
theorem stripeKnown_holds : Rows.StripeKnownSaid := stripeKnown.proved
#print axioms stripeKnown_holds
end Go.Proofs.YtfjlpifaaknmpaaGreat
