/- Plain facts for CodeSums: a matrix whose places are sums; the code of a sum; a code's beginning. -/
import Derived.Test.YtdeajclghlbhcaaData4
import Derived.Test.YtdeajclghlbhcaaWake4
set_option linter.unusedVariables false
namespace Go.Proofs.Ytdeajclghlbhcaa
open Go.RowKit

theorem at2_spot {Y : List (List Nat)} {i j z : Nat} (hi : i < Y.length) (hj : j < (Y.getD i []).length) (r t : Nat) : at2 (Y.set i ((Y.getD i []).set j z)) r t = if r = i ∧ t = j then z else at2 Y r t := by
  unfold at2
  by_cases e : i = r
  · subst e
    rw [getD_set_self _ _ _ _ hi]
    by_cases f : j = t
    · subst f
      rw [getD_set_self _ _ _ _ hj, if_pos ⟨rfl, rfl⟩]
    · rw [getD_set_ne _ _ _ f, if_neg (fun c => f c.2.symm)]
  · rw [getD_set_ne _ _ _ e, if_neg (fun c => e c.1.symm)]
theorem shape_set {Y : List (List Nat)} {k L i j z : Nat} (h : Shape Y k L) (hi : i < k) : Shape (Y.set i ((Y.getD i []).set j z)) k L := by
  refine ⟨by rw [List.length_set]; exact h.len, fun r hr => ?_⟩
  by_cases e : i = r
  · subst e
    rw [getD_set_self _ _ _ _ (by rw [h.len]; exact hr), List.length_set]; exact h.row _ hr
  · rw [getD_set_ne _ _ _ e]; exact h.row _ hr

/-- The code of a sum is the sum of the codes. -/
theorem code_sum {A B Y : List (List Nat)} {k i t : Nat} (ha : ∀ r t, at2 A r t < 256) (hb : ∀ r t, at2 B r t < 256) (h : ∀ r, r < k → at2 Y r t = at2 A r t ^^^ at2 B r t) (hi : i < 256) (hk : k ≤ 255) : codeAt Y k i t = codeAt A k i t ^^^ codeAt B k i t := by
  unfold codeAt
  rw [MX.xs_xor]
  refine MX.xs_congr fun j hj => ?_
  rw [h j hj, MX.mul_xor_right (MX.gen_lt k i j) (ha j t) (hb j t)]
theorem codeList_get {X : List (List Nat)} {k n L i : Nat} (h : i < n) : (codeList X k n L).getD i [] = codeRow X k L i := by simp [codeList, List.getD, h]
theorem codeRow_get {X : List (List Nat)} {k L i t : Nat} (h : t < L) : (codeRow X k L i).getD t 0 = codeAt X k i t := by simp [codeRow, List.getD, h]
theorem codeRow_len (X : List (List Nat)) (k L i : Nat) : (codeRow X k L i).length = L := by simp [codeRow]
theorem codeList_len (X : List (List Nat)) (k n L : Nat) : (codeList X k n L).length = n := by simp [codeList]
theorem code_take {A : List (List Nat)} {k n L : Nat} (hA : Shape A k L) (hs : ∀ i j, at2 A i j < 256) (hkn : k ≤ n) : (codeList A k n L).take k = A := by
  refine list_ext (by rw [List.length_take, codeList_len, hA.len]; omega) fun j hj => ?_
  have hj' : j < k := by rw [List.length_take, codeList_len] at hj; omega
  have e : ((codeList A k n L).take k).getD j [] = (codeList A k n L).getD j [] := by simp [List.getD, hj']
  rw [e, codeList_get (by omega), code_low hA hs hj']

/-- The beginning of a slice of slices. -/
theorem Mat.cut {w : World} {p : Option Addr} {len cap : Nat} {us : List Value} {X : List (List Nat)} (h : Mat w (.slice p len cap) us X) {k : Nat} (hk : k ≤ X.length) : Mat w (.slice p k cap) (us.take k) (X.take k) := by
  have hs := h.same
  obtain ⟨h2, p', cap', e, h3, h4, h5⟩ := h.row
  injection e with e1 e2 e3
  subst e1
  subst e3
  have hl : (us.take k).length = k := by simp; omega
  refine ⟨⟨by omega, p, cap, by rw [hl], by omega, h4, fun hne => ?_⟩, by simp; omega, fun j hj => ?_⟩
  · obtain ⟨b, off, e, hc⟩ := h5 (fun e => hne (by rw [e]; simp))
    refine ⟨b, off, e, fun j hj => ?_⟩
    rw [hl] at hj
    rw [hc j (by omega)]
    simp [List.getD, hj]
  · have hj' : j < k := by simp at hj; omega
    have e1 : (us.take k).getD j undef = us.getD j undef := by simp [List.getD, hj']
    have e2 : (X.take k).getD j [] = X.getD j [] := by simp [List.getD, hj']
    rw [e1, e2]
    exact h.vec j (by omega)
end Go.Proofs.Ytdeajclghlbhcaa
