/- The contract of matrix.Mul. -/
import Derived.Test.YtdeajclghlbhcaaIdent
import Derived.Test.YtdeajclghlbhcaaAddT
namespace Go.Proofs.Ytdeajclghlbhcaa
open Go.RowKit

/-- The number in row i at j. -/
def at2 (X : List (List Nat)) (i j : Nat) : Nat := (X.getD i []).getD j 0
structure Shape (X : List (List Nat)) (n m : Nat) : Prop where
  len : X.length = n
  row : ∀ j, j < n → (X.getD j []).length = m

theorem may_spec {X : List (List Nat)} (h : mayB X = true) : 1 ≤ X.length ∧ X.length ≤ 255 ∧ 1 ≤ (X.getD 0 []).length ∧ (X.getD 0 []).length ≤ 255 ∧ Shape X X.length (X.getD 0 []).length := by
  unfold mayB mayTo at h
  simp only [Bool.and_eq_true, decide_eq_true_eq, List.all_eq_true, List.mem_range, beq_iff_eq] at h
  exact ⟨h.1, h.2.1, h.2.2.1, h.2.2.2.1, rfl, h.2.2.2.2⟩
theorem may_of {X : List (List Nat)} {n m : Nat} (h : Shape X n m) (n1 : 1 ≤ n) (n2 : n ≤ 255) (m1 : 1 ≤ m) (m2 : m ≤ 255) : mayB X = true := by
  have h0 := h.row 0 (by omega)
  unfold mayB mayTo
  simp only [Bool.and_eq_true, decide_eq_true_eq, List.all_eq_true, List.mem_range, beq_iff_eq]
  rw [h.len, h0]
  exact ⟨n1, n2, m1, m2, h.row⟩

def mulRow (X Y : List (List Nat)) (m t i : Nat) : List Nat := (List.range m).map fun j => MX.xs (fun s => M.mul (at2 X i s) (at2 Y s j)) t
/-- Behind k rows and t numbers more. -/
def mulTo (X Y : List (List Nat)) (n m l k t : Nat) : List (List Nat) := (List.range n).map fun i => if i < k then mulRow X Y m l i else if i = k then mulRow X Y m t i else List.replicate m 0
def mulList (X Y : List (List Nat)) : List (List Nat) := (List.range X.length).map fun i => mulRow X Y (Y.getD 0 []).length Y.length i

theorem mulTo_len (X Y : List (List Nat)) (n m l k t : Nat) : (mulTo X Y n m l k t).length = n := by simp [mulTo]
theorem mulRow_zero (X Y : List (List Nat)) (m i : Nat) : mulRow X Y m 0 i = List.replicate m 0 := by
  apply List.ext_getElem
  · simp [mulRow]
  · intro j h1 h2
    simp [mulRow, MX.xs]
theorem mulTo_zero (X Y : List (List Nat)) (n m l : Nat) : mulTo X Y n m l 0 0 = List.replicate n (List.replicate m 0) := by
  apply List.ext_getElem
  · simp [mulTo]
  · intro j h1 h2
    by_cases e : j = 0
    · simp [mulTo, mulRow_zero]
    · simp [mulTo, e]
theorem mulTo_next (X Y : List (List Nat)) (n m l k : Nat) : mulTo X Y n m l k l = mulTo X Y n m l (k + 1) 0 := by
  apply List.map_congr_left
  intro i hi
  by_cases h1 : i < k
  · simp [h1, show i < k + 1 from by omega]
  · by_cases h2 : i = k
    · simp [h2]
    · simp only [h1, h2, if_false, show ¬ i < k + 1 from by omega]
      split
      · rw [mulRow_zero]
      · rfl
theorem mulTo_all (X Y : List (List Nat)) (n m l : Nat) (t : Nat) : mulTo X Y n m l n t = (List.range n).map fun i => mulRow X Y m l i := by
  apply List.map_congr_left
  intro i hi
  simp [List.mem_range.1 hi]
theorem mulTo_get (X Y : List (List Nat)) (n m l k t : Nat) (h : k < n) : (mulTo X Y n m l k t).getD k [] = mulRow X Y m t k := by simp [mulTo, List.getD, h]
theorem mulTo_set (X Y : List (List Nat)) (n m l k t : Nat) : (mulTo X Y n m l k t).set k (mulRow X Y m (t + 1) k) = mulTo X Y n m l k (t + 1) := by
  apply List.ext_getElem
  · simp [mulTo]
  · intro i h1 h2
    by_cases e : k = i
    · subst e; simp [mulTo]
    · have e' : ¬ i = k := fun x => e x.symm
      by_cases l' : i < k
      · simp [mulTo, e, l']
      · simp [mulTo, e, e', l']
theorem mulRow_len (X Y : List (List Nat)) (m t i : Nat) : (mulRow X Y m t i).length = m := by simp [mulRow]
theorem mulRow_add (X Y : List (List Nat)) (m t i : Nat) : addAt (mulRow X Y m t i) (Y.getD t []) 0 (at2 X i t) = mulRow X Y m (t + 1) i := by
  apply List.ext_getElem
  · simp [addAt, mulRow]
  · intro j h1 h2
    have hj : j < m := by simpa [mulRow] using h2
    simp [addAt, mulRow, List.getD, hj, MX.xs, at2]

theorem Vec.hi {w : World} {v : Value} {xs : List Nat} (h : Vec w v xs) (hx : 0 < xs.length) : Hi w.heap.size v := by
  obtain ⟨b, off, cap, rfl, hc, _⟩ := h.at hx
  intro k hk
  have := World.block_lt_of_cell? w _ hc
  simp only [Value.ownBlock, Option.some.injEq] at hk
  subst hk
  exact this

theorem Mat.small {w : World} {v : Value} {us : List Value} {X : List (List Nat)} (h : Mat w v us X) (i j : Nat) : at2 X i j < 256 := by
  unfold at2
  by_cases hi : i < X.length
  · exact getD_small (h.vec i hi).small j
  · simp [List.getD, hi]

end Go.Proofs.Ytdeajclghlbhcaa
