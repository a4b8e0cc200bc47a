/- Contracts of the small functions of package field (mask, double, Add, round, Mul): what each returns; no memory turns. -/
import Derived.Test.YtdeajclghlbhcaaChecked
import Derived.Test.YtdeajclghlbhcaaMath
import Derived.WalkKit
import Derived.WalkSpells
import Derived.WalkLawsBesides
namespace Go.Proofs.Ytdeajclghlbhcaa
open Go.RowKit

theorem ret_int {k : IntKind} {a b : Int} (h : a = b) : Ending.returned (.int k a) = .returned (.int k b) := by rw [h]

theorem mask_any (x : Int) (w : World) :
    Calls Try.prog 40 #[.int .u8 x] w fun e w' => e = .returned (.int .u8 (-x % 256)) ∧ w' = w := by
  go_enter Try.func40, Try.ntmps40
  go_wp2
  go_ret
  exact ⟨rfl, rfl⟩

theorem dbl_bits (x : Nat) (h : x < 256) : bits .xor .u8 ((x : Int) * 2 % 256) (bits .and .u8 29 (-((x : Int) / 128) % 256)) = ((M.dbl x : Nat) : Int) := by
  have e : (x : Int) * 2 % 256 = ((2 * x % 256 : Nat) : Int) := by omega
  rw [e]
  by_cases hx : 128 ≤ x
  · have : -((x : Int) / 128) % 256 = ((255 : Nat) : Int) := by omega
    rw [this, show (29 : Int) = ((29 : Nat) : Int) from rfl, u8_and_nat 29 255 (by omega) (by omega), u8_xor_nat _ _ (by omega) (by decide)]
    simp [M.dbl, hx]
  · have : -((x : Int) / 128) % 256 = ((0 : Nat) : Int) := by omega
    rw [this, show (29 : Int) = ((29 : Nat) : Int) from rfl, u8_and_nat 29 0 (by omega) (by omega), u8_xor_nat _ _ (by omega) (by decide)]
    simp [M.dbl, hx]

theorem double_any (x : Int) (w : World) (h0 : 0 ≤ x) (h1 : x < 256) :
    Calls Try.prog 41 #[.int .u8 x] w fun e w' => e = .returned (.int .u8 ((M.dbl x.toNat : Nat) : Int)) ∧ w' = w := by
  go_enter Try.func41, Try.ntmps41
  go_wp2_with (go_at_call 40; refine (mask_any _ _).mono ?_; rintro e w' ⟨rfl, rfl⟩)
  go_ret
  obtain ⟨n, rfl⟩ := Int.eq_ofNat_of_zero_le h0
  exact ⟨ret_int (dbl_bits n (by omega)), rfl⟩

theorem add_any (x y : Int) (w : World) (h0 : 0 ≤ x) (h1 : x < 256) (h2 : 0 ≤ y) (h3 : y < 256) :
    Calls Try.prog 43 #[.int .u8 x, .int .u8 y] w fun e w' => e = .returned (.int .u8 ((x.toNat ^^^ y.toNat : Nat) : Int)) ∧ w' = w := by
  go_enter Try.func43, Try.ntmps43
  go_wp2
  go_ret
  exact ⟨ret_int (u8_xor _ _ h0 h1 h2 h3), rfl⟩

theorem round_any (x : Int) (w : World) :
    Calls Try.prog 52 #[.int .i64 x] w fun e w' => e = .returned (.int .i64 (x % 255)) ∧ w' = w := by
  go_enter Try.func52, Try.ntmps52
  have hb : -255 < x.tmod 255 ∧ x.tmod 255 < 255 := by
    have := Int.tmod_lt_of_pos x (b := 255) (by decide)
    have := Int.lt_tmod_of_pos x (b := 255) (by decide)
    omega
  have he : x.tmod 255 = x % 255 - (if 0 ≤ x ∨ (255 : Int) ∣ x then 0 else 255) := by
    rw [Int.tmod_eq_emod]; split <;> simp
  have HB : Hid (-255 < x.tmod 255 ∧ x.tmod 255 < 255) := hb
  have HE : Hid (x.tmod 255 = x % 255 - (if 0 ≤ x ∨ (255 : Int) ∣ x then 0 else 255)) := he
  clear hb he
  go_wp2
  all_goals
    go_ret
    refine ⟨ret_int ?_, rfl⟩
  · rw [show wrap64 (x.tmod 255 + 255) = x.tmod 255 + 255 from by have := HB.out; unfold wrap64; omega]
    have h := HE.out
    rename_i h1
    split at h <;> omega
  · have h := HE.out
    rename_i h1
    split at h <;> omega

theorem and_one (b : Nat) (h : b < 256) : bits .and .u8 (b : Int) 1 = ((b % 2 : Nat) : Int) := by
  rw [show (1 : Int) = ((1 : Nat) : Int) from rfl, u8_and_nat b 1 h (by omega), Nat.and_one_is_mod]

theorem mul_step (s a b : Nat) (hs : s < 256) (ha : a < 256) :
    bits .xor .u8 (s : Int) (bits .and .u8 (a : Int) (-((b % 2 : Nat) : Int) % 256)) = ((s ^^^ (if b % 2 = 1 then a else 0) : Nat) : Int) := by
  rcases Nat.mod_two_eq_zero_or_one b with h | h
  · rw [h, show -((0 : Nat) : Int) % 256 = ((0 : Nat) : Int) from rfl, u8_and_nat a 0 ha (by omega), u8_xor_nat _ _ hs (by simp)]
    simp
  · rw [h, show -((1 : Nat) : Int) % 256 = ((255 : Nat) : Int) from rfl, u8_and_nat a 255 ha (by omega)]
    have : a &&& 255 = a := by
      have := Nat.and_two_pow_sub_one_eq_mod a 8
      simpa [Nat.mod_eq_of_lt ha] using this
    rw [this, u8_xor_nat _ _ hs ha]
    simp

set_option maxHeartbeats 800000 in
theorem mul_any (x y : Int) (w : World) (h0 : 0 ≤ x) (h1 : x < 256) (h2 : 0 ≤ y) (h3 : y < 256) :
    Calls Try.prog 25 #[.int .u8 x, .int .u8 y] w fun e w' => e = .returned (.int .u8 ((M.mul x.toNat y.toNat : Nat) : Int)) ∧ w' = w := by
  go_enter Try.func25, Try.ntmps25
  go_wp2
  go_loop [0, 1, 5, 6] (fun ta tb ts ti => ∃ k s a b : Nat, k ≤ 8 ∧ s < 256 ∧ a < 256 ∧ b < 256 ∧ Hid (M.mulGo (8 - k) s a b = M.mul x.toNat y.toNat) ∧ ta = .int .u8 a ∧ tb = .int .u8 b ∧ ts = .int .u8 s ∧ ti = .int .i64 k) (fun _ _ _ ti => 8 - (intOf ti).toNat)
  case atStart =>
    obtain ⟨m, rfl⟩ := Int.eq_ofNat_of_zero_le h0
    obtain ⟨n, rfl⟩ := Int.eq_ofNat_of_zero_le h2
    exact ⟨0, 0, m, n, by omega, by omega, by omega, by omega, rfl, rfl, rfl, rfl, rfl⟩
  case round =>
    obtain ⟨k, s, a, b, hk, hs, ha, hb, HM, rfl, rfl, rfl, rfl⟩ := hrel
    by_cases hlt : k < 8
    · have hb1 := and_one b hb
      go_wp2_with (first | (go_at_call 40; refine (mask_any _ _).mono ?_; rintro e w' ⟨rfl, rfl⟩) | (go_at_call 41; refine (double_any _ _ (by omega) (by omega)).mono ?_; rintro e w' ⟨rfl, rfl⟩))
      go_round
      case rel =>
        refine ⟨k + 1, s ^^^ (if b % 2 = 1 then a else 0), M.dbl a, b / 2, by omega, ?_, M.dbl_lt a, by omega, ?_, rfl, by go_num, ?_, by go_num⟩
        · exact Nat.xor_lt_two_pow (n := 8) (by omega) (by split <;> omega)
        · have h := HM.out
          rw [show 8 - k = (8 - (k + 1)) + 1 from by omega] at h
          exact h
        · have h := mul_step s a b hs ha
          rw [show (((b % 2 : Nat) : Int)) = (b : Int) % 2 from by omega] at h
          rw [h]
      case measure => simp [intOf]; omega
    · go_wp2
      go_ret
      have h := HM.out
      rw [show 8 - k = 0 from by omega] at h
      exact ⟨ret_int (by rw [← h]; rfl), rfl⟩
end Go.Proofs.Ytdeajclghlbhcaa
