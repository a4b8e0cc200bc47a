/- Plain facts on sums, multiples and products of lists of bytes. -/
import Derived.Test.YtlodpffdmlnemaaComb
import Derived.Test.YtlodpffdmlnemaaRefMath
namespace Go.Proofs.Ytlodpffdmlnemaa

theorem getD_range (f : Nat → Nat) (n k : Nat) (h : k < n) : ((List.range n).map f).getD k 0 = f k := by simp [List.getD, h]

theorem range_getD (xs : List Nat) : (List.range xs.length).map (fun k => xs.getD k 0) = xs := by
  apply List.ext_getElem
  · simp
  · intro i h1 h2
    simp [List.getD, h2]

theorem range_eq {xs : List Nat} {n : Nat} {f : Nat → Nat} (hn : n = xs.length) (h : ∀ k, k < n → f k = xs.getD k 0) : (List.range n).map f = xs := by
  subst hn
  refine Eq.trans (List.map_congr_left fun k hk => ?_) (range_getD xs)
  exact h k (List.mem_range.1 hk)

theorem vadd_len (xs ys : List Nat) : (vadd xs ys).length = xs.length := by simp [vadd]
theorem vmad_len (xs ys : List Nat) (c : Nat) : (vmad xs ys c).length = xs.length := by simp [vmad]
theorem vscale_len (c : Nat) (xs : List Nat) : (vscale c xs).length = xs.length := by simp [vscale]

theorem vadd_undo (xs ys : List Nat) : vadd (vadd xs ys) ys = xs := by
  refine range_eq (vadd_len xs ys) fun k hk => ?_
  rw [vadd_len] at hk
  unfold vadd
  rw [getD_range _ _ _ hk, Nat.xor_assoc, Nat.xor_self, Nat.xor_zero]

theorem vmad_undo (xs ys : List Nat) (c : Nat) : vmad (vmad xs ys c) ys c = xs := by
  refine range_eq (vmad_len xs ys c) fun k hk => ?_
  rw [vmad_len] at hk
  unfold vmad
  rw [getD_range _ _ _ hk, Nat.xor_assoc, Nat.xor_self, Nat.xor_zero]

/-- k times multiplied. -/
def vscaleN (c : Nat) : Nat → List Nat → List Nat
  | 0, xs => xs
  | k + 1, xs => vscale c (vscaleN c k xs)

theorem vscaleN_len (c : Nat) : ∀ k xs, (vscaleN c k xs).length = xs.length
  | 0, _ => rfl
  | k + 1, xs => by unfold vscaleN; rw [vscale_len, vscaleN_len c k xs]

theorem vscaleN_getD {c : Nat} (hc : c < 256) {xs : List Nat} (hx : ∀ x ∈ xs, x < 256) : ∀ k j, j < xs.length → (vscaleN c k xs).getD j 0 = M.mul (M.times c k) (xs.getD j 0)
  | 0, j, hj => by
    show xs.getD j 0 = M.mul 1 _
    rw [M.one_mul (getD_small hx j)]
  | k + 1, j, hj => by
    have hl := vscaleN_len c k xs
    show (vscale c (vscaleN c k xs)).getD j 0 = M.mul (M.mul (M.times c k) c) _
    unfold vscale
    rw [getD_range _ _ _ (by omega), vscaleN_getD hc hx k j hj, ← M.mul_assoc hc (M.times_lt k) (getD_small hx j), M.mul_comm hc (M.times_lt k)]

theorem vscaleN_one {c : Nat} (hc : c < 256) (h0 : 0 < c) {xs : List Nat} (hx : ∀ x ∈ xs, x < 256) : vscaleN c 255 xs = xs := by
  rw [← range_getD (vscaleN c 255 xs)]
  refine range_eq (vscaleN_len c 255 xs) fun k hk => ?_
  rw [vscaleN_len] at hk
  rw [vscaleN_getD hc hx 255 k hk, M.times_lg hc h0, Nat.mul_mod_left]
  exact M.one_mul (getD_small hx k)

theorem vscaleN_zero (xs : List Nat) (j : Nat) : (vscaleN 0 255 xs).getD j 0 = 0 := by
  show (vscale 0 (vscaleN 0 254 xs)).getD j 0 = 0
  unfold vscale
  by_cases hj : j < (vscaleN 0 254 xs).length
  · rw [getD_range _ _ _ hj, M.zero_mul]
  · simp [List.getD, hj]

theorem take_small {xs : List Nat} (h : ∀ x ∈ xs, x < 256) (n : Nat) : ∀ x ∈ xs.take n, x < 256 := fun x hx => h x (List.mem_of_mem_take hx)

/-- A vector's beginning. -/
theorem Vec.cut {w : World} {p : Option Addr} {len cap : Nat} {xs : List Nat} (h : Vec w (.slice p len cap) xs) {n : Nat} (hn : n ≤ xs.length) : Vec w (.slice p n cap) (xs.take n) := by
  obtain ⟨h1, h2, p', cap', e, h3, h4, h5⟩ := h
  injection e with e1 e2 e3
  subst e1
  subst e3
  have hl : (xs.take n).length = n := by simp; omega
  refine ⟨take_small h1 n, by omega, p, cap, by rw [hl], by omega, h4, fun hne => ?_⟩
  obtain ⟨b, off, e, hc⟩ := h5 (fun e => hne (by rw [e]; simp))
  refine ⟨b, off, e, fun j hj => ?_⟩
  rw [hl] at hj
  rw [hc j (by omega)]
  simp [List.getD, hj, show j < xs.length from by omega]
end Go.Proofs.Ytlodpffdmlnemaa
