/- The contract of hayricklaw01.awake: it returns true; contracts of field.Inv, Log, Div and Pow for all numbers. -/
import Derived.Test.YtdfeehbbgigplaaOps
namespace Go.Proofs.Ytdfeehbbgigplaa
open Go.RowKit

theorem k_lg2 : M.lg 2 = 1 := M.lg_pw (n := 1) (by decide)
theorem k_pw254 : M.pw 254 = 142 := by rw [M.pw_tab 254 (by decide)]; decide +kernel
theorem k_inv2 : M.inv 2 = 142 := by
  show M.pw ((255 - M.lg 2) % 255) = 142
  rw [k_lg2]; exact k_pw254
theorem k_lg29 : M.lg 29 = 8 := M.lg_pw (n := 8) (by decide)

set_option maxHeartbeats 1600000 in
set_option maxRecDepth 100000 in
theorem awake_any (w : World) : Calls Try.prog 12 #[] w fun e w' => e = .returned (.bool true) ∧ Grown w w' := by
  have i2 : ∀ w, Calls Try.prog 8 #[.int .u8 2] w fun e w' => e = .returned (.tuple #[.int .u8 142, .int .i64 0]) ∧ Grown w w' := fun w =>
    (inv_any 2 w (by decide) (by decide)).mono fun e w' ⟨h, k⟩ => ⟨by rw [h]; simp [k_inv2], k⟩
  have l29 : ∀ w, Calls Try.prog 16 #[.int .u8 29] w fun e w' => e = .returned (.tuple #[.int .i64 8, .int .i64 0]) ∧ Grown w w' := fun w =>
    (log_any 29 w (by decide) (by decide)).mono fun e w' ⟨h, k⟩ => ⟨by rw [h]; simp [k_lg29], k⟩
  have e255 : ∀ w, Calls Try.prog 18 #[.int .i64 255] w fun e w' => e = .returned (.int .u8 1) ∧ Grown w w' := fun w =>
    (exp_any 255 w).mono fun e w' ⟨h, k⟩ => ⟨by rw [h]; rfl, k⟩
  have p28 : ∀ w, Calls Try.prog 20 #[.int .u8 2, .int .i64 8] w fun e w' => e = .returned (.int .u8 29) ∧ Grown w w' := fun w =>
    (pow_any 2 8 w (by decide) (by decide) (by decide)).mono fun e w' ⟨h, k⟩ => ⟨by rw [h]; exact ret_int (by simp [k_lg2]; decide), k⟩
  have m1 : M.mul 2 128 = 29 := by decide
  have m2 : M.mul 3 7 = 9 := by decide
  go_enter Try.func12, Try.ntmps12
  go_wp2_with (first
    | (go_at_call 8; refine (i2 _).mono ?_; rintro e w1 ⟨rfl, hG1⟩; have HG1 : Hid (Grown w w1) := hG1; clear hG1)
    | (go_at_call 16; refine (l29 _).mono ?_; rintro e w2 ⟨rfl, hG2⟩; have HG2 : Hid (Grown w w2) := grown_trans HG1.out hG2; clear hG2)
    | (go_at_call 13; refine (add_any _ _ _ (by decide) (by decide) (by decide) (by decide)).mono ?_; rintro e w3 ⟨rfl, rfl⟩)
    | (go_at_call 14; refine (mul_any _ _ _ (by decide) (by decide) (by decide) (by decide)).mono ?_; rintro e w3 ⟨rfl, rfl⟩)
    | (go_at_call 18; refine (e255 _).mono ?_; rintro e w4 ⟨rfl, hG4⟩; have HG4 : Hid (Grown w w4) := grown_trans HG2.out hG4; clear hG4)
    | (go_at_call 20; refine (p28 _).mono ?_; rintro e w5 ⟨rfl, hG5⟩; have HG5 : Hid (Grown w w5) := grown_trans HG4.out hG5; clear hG5))
  go_ret
  exact ⟨rfl, HG5.out⟩
theorem grown_same {w w' : World} (h : w' = w) : Grown w w' := h ▸ Grown.refl w

/-- Inv of whatever number. -/
theorem inv_all (x : Int) (w : World) (h0 : 0 ≤ x) (h1 : x < 256) :
    Calls Try.prog 8 #[.int .u8 x] w fun e w' => e = .returned (.tuple #[.int .u8 (if x = 0 then 0 else ((M.inv x.toNat : Nat) : Int)), .int .i64 (if x = 0 then 1 else 0)]) ∧ Grown w w' := by
  by_cases h : x = 0
  · subst h
    exact (inv_zero w).mono fun e w' ⟨h, k⟩ => ⟨h, grown_same k⟩
  · rw [if_neg h, if_neg h]
    exact inv_any x w (by omega) h1

/-- Log of whatever number. -/
theorem log_all (x : Int) (w : World) (h0 : 0 ≤ x) (h1 : x < 256) :
    Calls Try.prog 16 #[.int .u8 x] w fun e w' => e = .returned (.tuple #[.int .i64 (if x = 0 then 0 else ((M.lg x.toNat : Nat) : Int)), .int .i64 (if x = 0 then 1 else 0)]) ∧ Grown w w' := by
  by_cases h : x = 0
  · subst h
    exact (log_zero w).mono fun e w' ⟨h, k⟩ => ⟨h, grown_same k⟩
  · rw [if_neg h, if_neg h]
    exact log_any x w (by omega) h1

/-- Div of whatever numbers. -/
theorem div_all (x y : Int) (w : World) (h0 : 0 ≤ x) (h1 : x < 256) (h2 : 0 ≤ y) (h3 : y < 256) :
    Calls Try.prog 10 #[.int .u8 x, .int .u8 y] w fun e w' => e = .returned (.tuple #[.int .u8 (if y = 0 then 0 else ((M.mul x.toNat (M.inv y.toNat) : Nat) : Int)), .int .i64 (if y = 0 then 1 else 0)]) ∧ Grown w w' := by
  by_cases h : y = 0
  · subst h
    exact (div_zero x w).mono fun e w' ⟨h, k⟩ => ⟨h, grown_same k⟩
  · rw [if_neg h, if_neg h]
    exact div_any x y w h0 h1 (by omega) h3

/-- Pow of whatever numbers. -/
theorem pow_all (x n : Int) (w : World) (h0 : 0 ≤ x) (h1 : x < 256) :
    Calls Try.prog 20 #[.int .u8 x, .int .i64 n] w fun e w' => e = .returned (.int .u8 (if n = 0 then 1 else if x = 0 then 0 else ((M.pw (M.lg x.toNat * (n % 255).toNat % 255) : Nat) : Int))) ∧ Grown w w' := by
  by_cases h : n = 0
  · subst h
    exact (pow_n0 x w).mono fun e w' ⟨h, k⟩ => ⟨h, grown_same k⟩
  · rw [if_neg h]
    by_cases hx : x = 0
    · subst hx
      exact (pow_a0 n w (by simpa using h)).mono fun e w' ⟨h, k⟩ => ⟨h, grown_same k⟩
    · rw [if_neg hx]
      exact pow_any x n w (by omega) h1 (by simpa using h)

end Go.Proofs.Ytdfeehbbgigplaa
