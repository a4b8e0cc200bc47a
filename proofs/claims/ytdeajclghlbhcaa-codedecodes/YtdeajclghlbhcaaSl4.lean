/- Slices of slices of ints, as run equations. -/
import Derived.Test.YtdeajclghlbhcaaIntA4
import Derived.Test.YtdeajclghlbhcaaWake4
set_option linter.unusedVariables false
namespace Go.Proofs.Ytdeajclghlbhcaa
open Go.RowKit

theorem Try.sizeI : (Try.prog.info? 3).map (·.size) = some 1 := by kernel_rfl
theorem sliceAt_I (x : Value) (lo hi mx : Option Value) (W : World) : (Instr.sliceAt 45 x lo hi mx).run Try.prog W = (Instr.slice 45 x lo hi mx).run Try.prog W := by
  simp [Instr.sliceAt, run_underlying Try.underlying45]
/-- l[:p:p]. -/
theorem slice_hm {b off n c p : Nat} (h : p ≤ c) (W : World) : (Instr.slice 45 (.slice (some ⟨b, off, none⟩) n c) none (some (.int .i64 (p : Int))) (some (.int .i64 (p : Int)))).run Try.prog W = .ok (.slice (some ⟨b, off, none⟩) p p) W := by
  obtain ⟨i0, hi, hz0, hz1, hz2⟩ := info_parts Try.infoI
  have h1 : (Instr.sliceBound (.int .i64 (p : Int)) c .slice3Acap).run Try.prog W = .ok p W := by
    have := run_sliceBound (P := Try.prog) W .i64 (p : Int) c .slice3Acap (by omega) (by omega)
    simpa using this
  have h2 : (Instr.sliceBound (.int .i64 (p : Int)) p .slice3B).run Try.prog W = .ok p W := by
    have := run_sliceBound (P := Try.prog) W .i64 (p : Int) p .slice3B (by omega) (by omega)
    simpa using this
  simp [Instr.slice, run_underlying Try.underlying45, Instr.sliceBounds, h1, h2, sizeOf, typeInfo, hi, add_off]
theorem ivec_n {w : World} {p : Option Addr} {n c : Nat} {ls : List Int} (h : IVec w (.slice p n c) ls) : ls.length = n := by
  obtain ⟨p', n', c', e', h'⟩ := h.opened
  injection e' with e1 e2 e3
  omega
/-- l[p:]. -/
theorem slice_l {b off n c p : Nat} (h : p ≤ n) (hc : n ≤ c) : ∃ q, (∀ W : World, (Instr.slice 45 (.slice (some ⟨b, off, none⟩) n c) (some (.int .i64 (p : Int))) none none).run Try.prog W = .ok (.slice q (n - p) (c - p)) W) ∧
    ∀ (w : World) (ls : List Int), IVec w (.slice (some ⟨b, off, none⟩) n c) ls → IVec w (.slice q (n - p) (c - p)) (ls.drop p) := by
  obtain ⟨i0, hi, hz0, hz1, hz2⟩ := info_parts Try.infoI
  have h1 : ∀ W : World, (Instr.sliceBound (.int .i64 (p : Int)) n .sliceB).run Try.prog W = .ok p W := fun W => by
    have := run_sliceBound (P := Try.prog) W .i64 (p : Int) n .sliceB (by omega) (by omega)
    simpa using this
  by_cases e : c = p
  · subst e
    refine ⟨some ⟨b, off, none⟩, fun W => ?_, fun w ls hv => ?_⟩
    · simp [Instr.slice, run_underlying Try.underlying45, Instr.sliceBounds, h1, sizeOf, typeInfo, hi]
    · have hl := ivec_n hv
      rw [List.drop_eq_nil_of_le (by omega), show n - c = 0 by omega]
      exact IVec.none _ _ (by simp)
  · refine ⟨some ⟨b, off + p, none⟩, fun W => ?_, fun w ls hv => ?_⟩
    · simp [Instr.slice, run_underlying Try.underlying45, Instr.sliceBounds, h1, sizeOf, typeInfo, hi, hz1, e, add_off]
    · have hl := ivec_n hv
      exact hv.tail (by omega)
theorem mat_n {w : World} {p : Option Addr} {n c : Nat} {us : List Value} {X : List (List Nat)} (h : Mat w (.slice p n c) us X) : us.length = n ∧ X.length = n := by
  have hs := h.same
  obtain ⟨p', n', c', e', h'⟩ := h.row.opened
  injection e' with e1 e2 e3
  omega
/-- The same of slices of slices. -/
theorem slice_lm {b off n c p : Nat} (h : p ≤ n) (hc : n ≤ c) : ∃ q, (∀ W : World, (Instr.slice 24 (.slice (some ⟨b, off, none⟩) n c) (some (.int .i64 (p : Int))) none none).run Try.prog W = .ok (.slice q (n - p) (c - p)) W) ∧
    ∀ (w : World) (us : List Value) (X : List (List Nat)), Mat w (.slice (some ⟨b, off, none⟩) n c) us X → Mat w (.slice q (n - p) (c - p)) (us.drop p) (X.drop p) := by
  obtain ⟨i0, hi, hz0, hz1, hz2⟩ := info_parts Try.info22
  have h1 : ∀ W : World, (Instr.sliceBound (.int .i64 (p : Int)) n .sliceB).run Try.prog W = .ok p W := fun W => by
    have := run_sliceBound (P := Try.prog) W .i64 (p : Int) n .sliceB (by omega) (by omega)
    simpa using this
  by_cases e : c = p
  · subst e
    refine ⟨some ⟨b, off, none⟩, fun W => ?_, fun w us X hv => ?_⟩
    · simp [Instr.slice, run_underlying Try.underlying24, Instr.sliceBounds, h1, sizeOf, typeInfo, hi]
    · have hl := mat_n hv
      rw [List.drop_eq_nil_of_le (by omega), List.drop_eq_nil_of_le (by omega), show n - c = 0 by omega]
      exact ⟨⟨by simp, _, _, rfl, by simp, by simp, fun h => absurd rfl h⟩, rfl, by simp⟩
  · refine ⟨some ⟨b, off + p, none⟩, fun W => ?_, fun w us X hv => hv.tail h⟩
    simp [Instr.slice, run_underlying Try.underlying24, Instr.sliceBounds, h1, sizeOf, typeInfo, hi, hz1, e, add_off]
end Go.Proofs.Ytdeajclghlbhcaa
