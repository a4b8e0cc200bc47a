/- The contract of matrix.Identity. -/
import Derived.Test.YtdeajclghlbhcaaBlank
namespace Go.Proofs.Ytdeajclghlbhcaa
open Go.RowKit

def idRow (n i : Nat) : List Nat := (List.range n).map fun j => if i = j then 1 else 0
def idTo (n k : Nat) : List (List Nat) := (List.range n).map fun i => if i < k then idRow n i else List.replicate n 0
def idList (n : Nat) : List (List Nat) := (List.range n).map fun i => idRow n i

theorem idTo_len (n k : Nat) : (idTo n k).length = n := by simp [idTo]
theorem idTo_zero (n : Nat) : idTo n 0 = List.replicate n (List.replicate n 0) := by
  apply List.ext_getElem
  · simp [idTo]
  · intro i h1 h2
    simp [idTo]
theorem idTo_all (n : Nat) : idTo n n = idList n := by
  apply List.ext_getElem
  · simp [idTo, idList]
  · intro i h1 h2
    have : i < n := by simpa [idTo] using h1
    simp [idTo, idList, this]
theorem idTo_get (n k : Nat) (h : k < n) : (idTo n k).getD k [] = List.replicate n 0 := by simp [idTo, List.getD, h]
theorem idRow_set (n k : Nat) : (List.replicate n 0).set k 1 = idRow n k := by
  apply List.ext_getElem
  · simp [idRow]
  · intro i h1 h2
    by_cases e : k = i
    · subst e; simp [idRow]
    · simp [idRow, e]
theorem idTo_set (n k : Nat) : (idTo n k).set k (idRow n k) = idTo n (k + 1) := by
  apply List.ext_getElem
  · simp [idTo]
  · intro i h1 h2
    by_cases e : k = i
    · subst e; simp [idTo]
    · by_cases l : i < k
      · simp [idTo, e, l, show i < k + 1 from by omega]
      · simp [idTo, e, l, show ¬ i < k + 1 from by omega]

end Go.Proofs.Ytdeajclghlbhcaa
