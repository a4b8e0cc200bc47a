/- StripeTorn: for every sizes, bytes, fuse and picks the call hayricklaw08.StripeTorn(t) returns true, and t reads afterwards as it read before. Conditions: none beyond the form own (the argument is readable as data and within the form reach). -/
import Derived.Deep.RegionHeld3
import Derived.Deep.MidRow
import Derived.BigRegion
import Derived.Test.YtfjlpifaaknmpaaSn1
import Derived.Test.YtfjlpifaaknmpaaSn2
import Derived.Test.YtfjlpifaaknmpaaSn3
import Derived.Test.YtfjlpifaaknmpaaSn4
import Derived.Test.YtfjlpifaaknmpaaSn5
import Derived.Test.YtfjlpifaaknmpaaSn6
import Derived.Test.YtfjlpifaaknmpaaSn7
import Derived.Test.YtfjlpifaaknmpaaSn8
import Derived.Test.YtfjlpifaaknmpaaSn9
import Derived.Test.YtfjlpifaaknmpaaSn10
import Derived.Test.YtfjlpifaaknmpaaSn11
import Derived.Test.YtfjlpifaaknmpaaSn12
import Derived.Test.YtfjlpifaaknmpaaSn13
import Derived.Test.YtfjlpifaaknmpaaSn14
import Derived.Test.YtfjlpifaaknmpaaSn15
import Derived.Test.YtfjlpifaaknmpaaSn16
import Derived.Test.YtfjlpifaaknmpaaSn17
import Derived.Test.YtfjlpifaaknmpaaSn18
import Derived.Test.YtfjlpifaaknmpaaSn19
import Derived.Test.YtfjlpifaaknmpaaSn20
import Derived.Test.YtfjlpifaaknmpaaSn21
import Derived.Test.YtfjlpifaaknmpaaSn22
import Derived.Test.YtfjlpifaaknmpaaSn23
import Derived.Test.YtfjlpifaaknmpaaSn24
import Derived.Test.YtfjlpifaaknmpaaSn25
import Derived.Test.YtfjlpifaaknmpaaSn26
import Derived.Test.YtfjlpifaaknmpaaSn27
import Derived.Test.YtfjlpifaaknmpaaSn28
import Derived.Test.YtfjlpifaaknmpaaSn29
namespace Go.Proofs.Ytfjlpifaaknmpaa.stripeTorn
open Go.ChangeShapes Go.WideShapes Go.ChangeAt Go.RowKit
set_option linter.unusedVariables false

set_option maxRecDepth 100000 in
theorem lifted (os : Os) (started : os.Started) (H : Type) (enc : TypeId × Value → H) :
    ReturnsInHanded {} Try.checked os 4 .any (Rows.stripeTornSpec.pre6 enc Try.prog Try.f4 Rows.stripeTornRow.domain false) (Rows.stripeTornSpec.post enc Try.prog Try.f4 false true false false) := by
  refine returnsInHanded_of_change_sized (C := Try.checked) Try.own started (by kernel_rfl) Try.func4
    (ChangeSpec.witness6 (enc := enc) (C := Try.checked) false ⟨#[], #[.agg #[.int .i64 0, .int .i64 0, .int .u8 0, .int .u8 0, .int .u8 0, .bool false, .slice none 0 0]], []⟩ 8 (by kernel_rfl) (by kernel_rfl) (by kernel_rfl) (by kernel_rfl)) ?_
  intro W base args ds gs before hval0 hW hcnd hsz0 _
  have hsz : (DataW.weightsEach Try.prog (Try.f4.params.toList ++ Rows.stripeTornSpec.plain.varTypes Try.prog) (ds ++ gs)).all (· ≤ reachBytes) = true := hsz0
  clear hsz0
  have hval : ∀ (j : Nat) t v, Try.f4.params[j]? = some t → args[j]? = some v → Value.okWide Try.prog W .any base t v := hval0
  have hW' := hW
  obtain ⟨p, q, hA0, hV, rfl, hfz, hnd⟩ := hW
  have hA : DataW.TrodAll enc Try.prog W 0 (fun _ => true) true Try.f4.params.toList args.toList ds p := hA0
  rw [Try.params4] at hA hval hsz
  obtain ⟨v0, vs0, d0, ds0, p0, q0, hargs, rfl, rfl, h0, r0⟩ := trodAll_cons hA
  obtain ⟨rfl, rfl, rfl⟩ := trodAll_nil r0
  obtain rfl : args = #[v0] := by cases args; simp_all
  obtain ⟨rfl, rfl⟩ := trodVars_none hV
  have k0 := h0
  have lt0 : ∀ x ∈ p0, x.block < W.heap.size := by obtain ⟨m, hm⟩ := k0; exact DataW.trod_lt m _ _ _ hm
  obtain ⟨xK, xM, xX, xY, xF, xS, xv, xps, rfl, w0, w1, w2, w3⟩ := torn_arg (hval 0 46 v0 rfl rfl) h0 (fun n hn => of_decide_eq_true (List.all_eq_true.1 hsz n (DataW.weights_mem_each (j := 0) (t := 46) rfl rfl n hn)))
  clear hA0 hval0
  refine (walk w0 w1 w2 w3).mono fun e W' ⟨he, hg⟩ => ?_
  have bel : Below W.heap.size W W' := grown_below hg (Nat.le_refl _) (by simp)
  subst he
  exact ⟨_, rfl, _, _, _, [], _, [], hW', trodAll_mk1 (shut_bool Try.underlying4 _), (trodAll_cons_mk (Below.trod Try.laidOut (by kernel_rfl) (of_decide_eq_true (by kernel_rfl)) k0 bel lt0) trodAll_mk0), rfl, bel.frame _, fun h => by cases h⟩

theorem over : Rows.stripeTornRow.holds Try.pinned (OpenSpec.ofChange Rows.stripeTornSpec) :=
  OpenClaim.holds_of_wide 4 Try.f4 rfl rfl rfl rfl rfl rfl rfl ⟨rfl, rfl, rfl, rfl, rfl⟩ rfl rfl rfl rfl rfl (by kernel_rfl) Try.func4 (by kernel_rfl)
    (of_decide_eq_true (by kernel_rfl)) (by unfold Func.isWrapper; first | (rw [if_pos (by decide +kernel)]; kernel_rfl) | (rw [if_neg (by decide +kernel)]; exact ⟨rfl, rfl⟩))
    (fun os started H enc _ => lifted os started H enc)

theorem proved : Rows.StripeTornSaid := over
end Go.Proofs.Ytfjlpifaaknmpaa.stripeTorn

namespace Go.Proofs.Ytfjlpifaaknmpaa
theorem stripeTorn_holds : Rows.StripeTornSaid := stripeTorn.proved
#print axioms stripeTorn_holds
end Go.Proofs.Ytfjlpifaaknmpaa
