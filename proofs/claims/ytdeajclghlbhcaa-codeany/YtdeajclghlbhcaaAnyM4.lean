/- Plain facts for CodeAny: numbers that are picked, one by one; what the picked chunks tell. -/
import Derived.Test.YtdeajclghlbhcaaIntA4
import Derived.Test.YtdeajclghlbhcaaSumM4
set_option linter.unusedVariables false
namespace Go.Proofs.Ytdeajclghlbhcaa
open Go.RowKit

/-- The numbers from 0 to n - 1. -/
def iota (n : Nat) : List Int := (List.range n).map fun (i : Nat) => (i : Int)
theorem iota_len (n : Nat) : (iota n).length = n := by simp [iota]
theorem iota_more (n : Nat) : iota n ++ [(n : Int)] = iota (n + 1) := by simp [iota, List.range_succ]

/-- ls have been picked out of 0 .. n - 1, ms are left. -/
structure Pick (n : Nat) (ls ms : List Int) : Prop where
  mem : ∀ x ∈ ls ++ ms, 0 ≤ x ∧ x < n
  nodup : (ls ++ ms).Nodup
  len : ls.length + ms.length = n
theorem Pick.start (n : Nat) : Pick n [] (iota n) := by
  refine ⟨fun x hx => ?_, ?_, by simp [iota]⟩
  · simp only [iota, List.nil_append, List.mem_map, List.mem_range] at hx
    obtain ⟨i, hi, rfl⟩ := hx
    omega
  · simp only [iota, List.nil_append]
    rw [List.nodup_iff_pairwise_ne, List.pairwise_map]
    exact List.nodup_range.imp fun h => by omega
theorem split_at (ms : List Int) {p : Nat} (h : p < ms.length) : ms = ms.take p ++ ms.getD p 0 :: ms.drop (p + 1) := by
  have e : ms.getD p 0 = ms[p] := by simp [List.getD, h]
  rw [e, ← List.drop_eq_getElem_cons h, List.take_append_drop]
theorem Pick.step {n : Nat} {ls ms : List Int} (h : Pick n ls ms) {p : Nat} (hp : p < ms.length) : Pick n (ls ++ [ms.getD p 0]) (ms.take p ++ ms.drop (p + 1)) := by
  have hs := split_at ms hp
  have hperm : ((ls ++ [ms.getD p 0]) ++ (ms.take p ++ ms.drop (p + 1))).Perm (ls ++ ms) := by
    rw [List.append_assoc]
    refine List.Perm.append_left ls ?_
    rw [List.singleton_append]
    have h2 := (List.perm_middle (a := ms.getD p 0) (l₁ := ms.take p) (l₂ := ms.drop (p + 1))).symm
    rw [← hs] at h2
    exact h2
  refine ⟨fun x hx => h.mem x (hperm.mem_iff.1 hx), hperm.nodup_iff.2 h.nodup, ?_⟩
  have := hperm.length_eq
  have h3 := h.len
  simp only [List.length_append] at this h3 ⊢
  omega
theorem Pick.at {n : Nat} {ls ms : List Int} (h : Pick n ls ms) {p : Nat} (hp : p < ms.length) : 0 ≤ ms.getD p 0 ∧ ms.getD p 0 < n := by
  refine h.mem _ (List.mem_append_right _ ?_)
  have e : ms.getD p 0 = ms[p] := by simp [List.getD, hp]
  rw [e]; exact List.getElem_mem _
theorem good_of {n : Nat} {ls : List Int} (hm : ∀ x ∈ ls, 0 ≤ x ∧ x < n) (hn : ls.Nodup) : goodAt n ls ls.length := by
  intro i hi
  have e : ls.getD i 0 = ls[i] := by simp [List.getD, hi]
  have h1 := hm ls[i] (List.getElem_mem _)
  refine ⟨by rw [e]; exact h1.1, by rw [e]; exact h1.2, fun i' hi' => ?_⟩
  have hi2 : i' < ls.length := by omega
  have e' : ls.getD i' 0 = ls[i'] := by simp [List.getD, hi2]
  rw [e, e']
  exact (List.pairwise_iff_getElem.1 (List.nodup_iff_pairwise_ne.1 hn)) i' i hi2 hi hi'
theorem Pick.good {n : Nat} {ls ms : List Int} (h : Pick n ls ms) : goodAt n ls ls.length :=
  good_of (fun x hx => h.mem x (List.mem_append_left _ hx)) (List.nodup_append.1 h.nodup).1
theorem Pick.goodTail {n : Nat} {ls ms : List Int} (h : Pick n ls ms) : goodAt n (ls.drop 1) (ls.drop 1).length :=
  good_of (fun x hx => h.mem x (List.mem_append_left _ (List.mem_of_mem_drop hx))) ((List.drop_sublist 1 ls).nodup (List.nodup_append.1 h.nodup).1)

/-- The slices that are picked, and what they read as. -/
def usAt (ua : List Value) (ls : List Int) : List Value := ls.map fun x => ua.getD x.toNat undef
def rowsAt (A : List (List Nat)) (k L : Nat) (ls : List Int) : List (List Nat) := ls.map fun x => codeRow A k L x.toNat
theorem usAt_more (ua : List Value) (ls : List Int) (x : Int) : usAt ua ls ++ [ua.getD x.toNat undef] = usAt ua (ls ++ [x]) := by simp [usAt]
theorem rowsAt_get {A : List (List Nat)} {k L : Nat} {ls : List Int} {i : Nat} (h : i < ls.length) : (rowsAt A k L ls).getD i [] = codeRow A k L (ls.getD i 0).toNat := by
  simp [rowsAt, List.getD, h]
theorem rowsAt_len (A : List (List Nat)) (k L : Nat) (ls : List Int) : (rowsAt A k L ls).length = ls.length := by simp [rowsAt]
theorem picked {B : Nat} {w : World} {v x : Value} {ua : List Value} {A : List (List Nat)} {k n L : Nat} {ls : List Int} (o : Out B w v (usAt ua ls)) (m : Mat w x ua (codeList A k n L)) (hm : ∀ y ∈ ls, 0 ≤ y ∧ y < n) : Mat w v (usAt ua ls) (rowsAt A k L ls) := by
  refine ⟨o.cells, by simp [usAt, rowsAt], fun j hj => ?_⟩
  rw [rowsAt_len] at hj
  have e1 : (usAt ua ls).getD j undef = ua.getD (ls.getD j 0).toNat undef := by simp [usAt, List.getD, hj]
  have e2 : ls.getD j 0 = ls[j] := by simp [List.getD, hj]
  have hb := hm ls[j] (List.getElem_mem _)
  have h := m.vec (ls.getD j 0).toNat (by rw [codeList_len, e2]; omega)
  rw [codeList_get (by rw [e2]; omega)] at h
  rw [e1, rowsAt_get hj]
  exact h
theorem even_rowsAt (A : List (List Nat)) (k L : Nat) (ls : List Int) : evenB (rowsAt A k L ls) = true := by
  refine evenB_iff.2 fun j hj => ?_
  rw [rowsAt_len] at hj
  rw [rowsAt_get hj, rowsAt_get (by omega), codeRow_len, codeRow_len]
theorem told_picked {A D : List (List Nat)} {k L : Nat} {ls : List Int} (hA : Shape A k L) (sm : ∀ i j, at2 A i j < 256) (hl : k ≤ ls.length) (h : Tells ls k L (rowsAt A k L ls) D) : A = D := by
  refine h A hA sm fun i t hi ht => ?_
  show _ = ((rowsAt A k L ls).getD i []).getD t 0
  rw [rowsAt_get (by omega), codeRow_get ht]
theorem rowsAt_drop (A : List (List Nat)) (k L : Nat) (ls : List Int) : (rowsAt A k L ls).drop 1 = rowsAt A k L (ls.drop 1) := by simp [rowsAt]
theorem usAt_drop (ua : List Value) (ls : List Int) : (usAt ua ls).drop 1 = usAt ua (ls.drop 1) := by simp [usAt]

end Go.Proofs.Ytdeajclghlbhcaa
