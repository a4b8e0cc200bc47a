/- The contract of matrix.Rows; slices of ints. -/
import Derived.Test.YtdeajclghlbhcaaMulM
namespace Go.Proofs.Ytdeajclghlbhcaa
open Go.RowKit

/-- The slice v has the ints ls in the world w. -/
structure IVec (w : World) (v : Value) (ls : List Int) : Prop where
  len : ls.length ≤ 140737488351232
  form : ∃ p cap, v = .slice p ls.length cap ∧ ls.length ≤ cap ∧ cap ≤ maxLen ∧
    (ls ≠ [] → ∃ b off, p = some ⟨b, off, none⟩ ∧ ∀ j, j < ls.length → w.cell? ⟨b, off + j, none⟩ = some (.int .i64 (ls.getD j 0)))

theorem IVec.opened {w : World} {v : Value} {ls : List Int} (h : IVec w v ls) : ∃ p n cap, v = .slice p n cap ∧ n = ls.length := by
  obtain ⟨p, cap, e, _⟩ := h.form
  exact ⟨p, _, cap, e, rfl⟩
theorem IVec.spot {w : World} {p : Option Addr} {n cap : Nat} {ls : List Int} (h : IVec w (.slice p n cap) ls) {k : Nat} (hk : k < ls.length) :
    ∃ b off, p = some ⟨b, off, none⟩ ∧ w.cell? ⟨b, off + k, none⟩ = some (.int .i64 (ls.getD k 0)) := by
  obtain ⟨p', c', e, _, _, h5⟩ := h.form
  injection e with e1 e2 e3
  subst e1
  obtain ⟨b, off, rfl, hc⟩ := h5 (fun e => by subst e; simp at hk)
  exact ⟨b, off, rfl, hc k hk⟩
theorem IVec.keep {w w' : World} {v : Value} {ls : List Int} (h : IVec w v ls) (g : w.grownBy w' none) : IVec w' v ls := by
  obtain ⟨h2, p, cap, rfl, h3, h4, h5⟩ := h
  refine ⟨h2, p, cap, rfl, h3, h4, fun hx => ?_⟩
  obtain ⟨b, off, rfl, hc⟩ := h5 hx
  exact ⟨b, off, rfl, fun j hj => g.cell (hc j hj) (by simp)⟩

/-- All of them are rows' numbers. -/
def rowsOK (X : List (List Nat)) (ls : List Int) : Prop := mayB X = true ∧ 1 ≤ ls.length ∧ ls.length ≤ 255 ∧ ∀ j, j < ls.length → 0 ≤ ls.getD j 0 ∧ ls.getD j 0 < X.length
def rowsList (X : List (List Nat)) (ls : List Int) : List (List Nat) := ls.map fun i => X.getD i.toNat []
def rowsTo (X : List (List Nat)) (ls : List Int) (k : Nat) : List (List Nat) := (List.range ls.length).map fun j => if j < k then X.getD (ls.getD j 0).toNat [] else []

theorem rowsTo_len (X : List (List Nat)) (ls : List Int) (k : Nat) : (rowsTo X ls k).length = ls.length := by simp [rowsTo]
theorem rowsTo_zero (X : List (List Nat)) (ls : List Int) : rowsTo X ls 0 = List.replicate ls.length [] := by
  apply List.ext_getElem
  · simp [rowsTo]
  · intro i h1 h2
    simp [rowsTo]
theorem rowsTo_set (X : List (List Nat)) (ls : List Int) (k : Nat) : (rowsTo X ls k).set k (X.getD (ls.getD k 0).toNat []) = rowsTo X ls (k + 1) := by
  apply List.ext_getElem
  · simp [rowsTo]
  · intro i h1 h2
    by_cases e : k = i
    · subst e; simp [rowsTo]
    · by_cases l : i < k
      · simp [rowsTo, e, l, show i < k + 1 from by omega]
      · simp [rowsTo, e, l, show ¬ i < k + 1 from by omega]
theorem rowsTo_all (X : List (List Nat)) (ls : List Int) : rowsTo X ls ls.length = rowsList X ls := by
  apply List.ext_getElem
  · simp [rowsTo, rowsList]
  · intro i h1 h2
    have hi : i < ls.length := by simpa [rowsTo] using h1
    simp [rowsTo, rowsList, hi]

def RowsEnd (X : List (List Nat)) (ls : List Int) (w : World) (e : Ending) (w' : World) : Prop :=
  w.grownBy w' none ∧ ((rowsOK X ls ∧ ∃ p n c us, e = .returned (.tuple #[.slice p n c, .int .i64 0]) ∧ OwnMat w.heap.size w' (.slice p n c) us (rowsList X ls)) ∨ (¬ rowsOK X ls ∧ e = .returned (.tuple #[.slice none 0 0, .int .i64 1])))

end Go.Proofs.Ytdeajclghlbhcaa
