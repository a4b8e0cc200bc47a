/- Contracts of package hayrickref01: the document's own answers, as plain functions. -/
import Derived.Test.YtdeajclghlbhcaaLeaf
import Derived.Test.YtdeajclghlbhcaaRefMath
namespace Go.Proofs.Ytdeajclghlbhcaa
open Go.RowKit

theorem ofInt_i64 (a : Nat) (ha : a < 4611686018427387904) : (BitVec.ofInt 64 (a : Int)).toNat = a := by
  rw [BitVec.ofInt_natCast, BitVec.toNat_ofNat]; exact Nat.mod_eq_of_lt (by omega)
theorem i64_xor_nat (a b : Nat) (ha : a < 4611686018427387904) (hb : b < 4611686018427387904) : bits .xor .i64 (a : Int) (b : Int) = ((a ^^^ b : Nat) : Int) := by
  have hx : a ^^^ b < 2 ^ 62 := Nat.xor_lt_two_pow (by omega) (by omega)
  show IntKind.i64.wrap ((BitVec.ofInt 64 (a : Int) ^^^ BitVec.ofInt 64 (b : Int)).toNat : Int) = _
  rw [BitVec.toNat_xor, ofInt_i64 a ha, ofInt_i64 b hb, IntWalk.i64_in _ (by omega)]
theorem i64_and_nat (a b : Nat) (ha : a < 4611686018427387904) (hb : b < 4611686018427387904) : bits .and .i64 (a : Int) (b : Int) = ((a &&& b : Nat) : Int) := by
  have hx : a &&& b < 2 ^ 62 := Nat.and_lt_two_pow _ (by omega)
  show IntKind.i64.wrap ((BitVec.ofInt 64 (a : Int) &&& BitVec.ofInt 64 (b : Int)).toNat : Int) = _
  rw [BitVec.toNat_and, ofInt_i64 a ha, ofInt_i64 b hb, IntWalk.i64_in _ (by omega)]
theorem i64_and_one (a : Nat) (ha : a < 4611686018427387904) : bits .and .i64 (a : Int) 1 = ((a % 2 : Nat) : Int) := by
  rw [show (1 : Int) = ((1 : Nat) : Int) from rfl, i64_and_nat a 1 ha (by omega), Nat.and_one_is_mod]

theorem wrap_small (n : Int) (h0 : 0 ≤ n) (h1 : n < 32768) : wrap64 n = n := by unfold wrap64; omega

/-- The test of one bit. -/
theorem bit_test (b k : Nat) (hb : b < 32768) : bits .and .i64 ((b : Int) / 2 ^ k) 1 = ((b / 2 ^ k % 2 : Nat) : Int) := by
  have e : (b : Int) / 2 ^ k = ((b / 2 ^ k : Nat) : Int) := by
    rw [Int.natCast_ediv, Int.natCast_pow]; rfl
  have : b / 2 ^ k ≤ b := Nat.div_le_self ..
  rw [e, i64_and_one _ (by omega)]

theorem xor_shift (p a k : Nat) (hp : p < 32768) (h : a * 2 ^ k < 32768) : bits .xor .i64 (p : Int) (wrap64 ((a : Int) * 2 ^ k)) = ((p ^^^ (a * 2 ^ k) : Nat) : Int) := by
  have e : (a : Int) * 2 ^ k = ((a * 2 ^ k : Nat) : Int) := by
    rw [Int.natCast_mul, Int.natCast_pow]; rfl
  rw [e, wrap_small _ (by omega) (by omega), i64_xor_nat _ _ (by omega) (by omega)]

set_option maxHeartbeats 800000 in
theorem refMul_nat (a b : Nat) (w : World) (ha : a < 256) (hb : b < 256) :
    Calls Try.prog 32 #[.int .u8 (a : Int), .int .u8 (b : Int)] w fun e w' => e = .returned (.int .u8 ((M.mul a b : Nat) : Int)) ∧ w' = w := by
  go_enter Try.func32, Try.ntmps32
  go_wp2
  go_loop [5, 6] (fun tp ti => ∃ k p : Nat, k ≤ 8 ∧ Hid (p = M.cl k a b) ∧ tp = .int .i64 p ∧ ti = .int .i64 k) (fun _ ti => 8 - (intOf ti).toNat)
  case atStart => exact ⟨0, 0, by omega, rfl, rfl, rfl⟩
  case round =>
    obtain ⟨k, p, hk, HP, rfl, rfl⟩ := hrel
    have hp : p < 32768 := by have h := M.cl_lt b ha k hk; rw [← HP.out] at h; exact h
    by_cases hlt : k < 8
    · have ht := bit_test b k (by omega)
      have hx := xor_shift p a k hp (M.shift_lt k hlt a ha)
      have HX : Hid (bits .xor .i64 (p : Int) (wrap64 ((a : Int) * 2 ^ k)) = ((p ^^^ (a * 2 ^ k) : Nat) : Int)) := hx
      have HT : Hid (bits .and .i64 ((b : Int) / 2 ^ k) 1 = ((b / 2 ^ k % 2 : Nat) : Int)) := ht
      clear hx ht
      go_wp2
      · rename_i hbit
        rw [HT.out] at hbit
        have hb1 : b / 2 ^ k % 2 = 1 := by have := eq_of_beq hbit; omega
        go_round
        case rel => exact ⟨k + 1, p ^^^ (a * 2 ^ k), by omega, by show _ = M.cl k a b ^^^ _; rw [if_pos hb1, HP.out], by rw [HX.out], by go_num⟩
        case measure => simp [intOf]; omega
      · rename_i hbit
        rw [HT.out] at hbit
        have hb1 : ¬ b / 2 ^ k % 2 = 1 := fun e => by rw [e] at hbit; exact absurd hbit (by decide)
        go_round
        case rel => exact ⟨k + 1, p, by omega, by show _ = M.cl k a b ^^^ _; rw [if_neg hb1, HP.out, Nat.xor_zero], rfl, by go_num⟩
        case measure => simp [intOf]; omega
    · go_wp2
      go_loop [5, 7] (fun tp ti => ∃ i q : Nat, 7 ≤ i ∧ i ≤ 14 ∧ q < 32768 ∧ Hid (M.red (i - 7) q = M.red 7 (M.cl 8 a b)) ∧ tp = .int .i64 q ∧ ti = .int .i64 i) (fun _ ti => (intOf ti).toNat)
      case atStart =>
        refine ⟨14, p, by omega, by omega, hp, ?_, rfl, rfl⟩
        have h : k = 8 := by omega
        show M.red 7 p = _
        rw [HP.out, h]
      case round =>
        obtain ⟨i, q, hi, hi', hq, HR, rfl, rfl⟩ := hrel
        by_cases hle : 8 ≤ i
        · have HX : Hid (bits .xor .i64 (q : Int) (wrap64 (285 * 2 ^ (i - 8))) = ((q ^^^ (285 * 2 ^ (i - 8)) : Nat) : Int)) := xor_shift q 285 (i - 8) hq (M.poly_lt i hi')
          have HT : Hid (bits .and .i64 ((q : Int) / 2 ^ i) 1 = ((q / 2 ^ i % 2 : Nat) : Int)) := bit_test q i hq
          have hs : M.red (i - 1 - 7) (M.rs i q) = M.red 7 (M.cl 8 a b) := by
            rw [← HR.out, show i - 7 = (i - 1 - 7) + 1 from by omega]
            show _ = M.red _ (M.rs (i - 1 - 7 + 8) q)
            rw [show i - 1 - 7 + 8 = i from by omega]
          have HS : Hid (M.red (i - 1 - 7) (M.rs i q) = M.red 7 (M.cl 8 a b)) := hs
          clear hs
          go_wp2
          · rename_i hbit
            rw [HT.out] at hbit
            have hb1 : q / 2 ^ i % 2 = 1 := by have := eq_of_beq hbit; omega
            have e : M.rs i q = q ^^^ (285 * 2 ^ (i - 8)) := by unfold M.rs; rw [if_pos hb1]
            go_round
            case rel => exact ⟨i - 1, M.rs i q, by omega, by omega, M.rs_lt hi' hq, HS, by rw [HX.out, e], by go_num⟩
            case measure => simp [intOf]; omega
          · rename_i hbit
            rw [HT.out] at hbit
            have hb1 : ¬ q / 2 ^ i % 2 = 1 := fun e => by rw [e] at hbit; exact absurd hbit (by decide)
            have e : M.rs i q = q := by unfold M.rs; rw [if_neg hb1, Nat.xor_zero]
            go_round
            case rel => exact ⟨i - 1, M.rs i q, by omega, by omega, M.rs_lt hi' hq, HS, by rw [e], by go_num⟩
            case measure => simp [intOf]; omega
        · go_wp2
          go_ret
          have h : i = 7 := by omega
          subst h
          have h2 : q % 256 = M.mul a b := by rw [← M.ref_mul b ha, ← HR.out]; rfl
          exact ⟨ret_int (by rw [← h2]; omega), rfl⟩

theorem refMul_any (x y : Int) (w : World) (h0 : 0 ≤ x) (h1 : x < 256) (h2 : 0 ≤ y) (h3 : y < 256) :
    Calls Try.prog 32 #[.int .u8 x, .int .u8 y] w fun e w' => e = .returned (.int .u8 ((M.mul x.toNat y.toNat : Nat) : Int)) ∧ w' = w := by
  obtain ⟨a, rfl⟩ := Int.eq_ofNat_of_zero_le h0
  obtain ⟨b, rfl⟩ := Int.eq_ofNat_of_zero_le h2
  exact refMul_nat a b w (by omega) (by omega)

set_option maxHeartbeats 800000 in
set_option maxRecDepth 100000 in
theorem refInv_any (a : Nat) (w : World) (h0 : 0 < a) (h1 : a < 256) :
    Calls Try.prog 28 #[.int .u8 (a : Int)] w fun e w' => e = .returned (.tuple #[.int .u8 ((M.inv a : Nat) : Int), .int .i64 0]) ∧ w' = w := by
  have hl := M.inv_lt a
  have hpos : 1 ≤ M.inv a := M.pw_pos _
  go_enter Try.func28, Try.ntmps28
  go_wp2
  go_loop [4] (fun ti => ∃ k : Nat, 1 ≤ k ∧ k ≤ M.inv a ∧ ti = .int .i64 k) (fun ti => 255 - (intOf ti).toNat)
  case atStart => exact ⟨1, by omega, by omega, rfl⟩
  case round =>
    obtain ⟨k, hk1, hk, rfl⟩ := hrel
    have hk2 : (k : Int) % 256 = k := by omega
    by_cases hlt : k < M.inv a
    · have hne : (((M.mul a k : Nat) : Int) == 1) = false := by
        have : M.mul a k ≠ 1 := fun e => by
          have := M.inv_unique h1 (by omega) h0 e
          omega
        simp; omega
      go_wp2_with (go_at_call 32; refine (refMul_any _ _ _ (by omega) (by omega) (by omega) (by omega)).mono ?_; rintro e w1 ⟨rfl, hw⟩; obtain rfl := hw.symm; clear hw)
      go_round
      case rel => exact ⟨k + 1, by omega, by omega, by go_num⟩
      case measure => simp [intOf]; omega
    · have he : k = M.inv a := by omega
      have heq : (((M.mul a k : Nat) : Int) == 1) = true := by rw [he, M.mul_inv h1 h0]; rfl
      have HE : Hid (k = M.inv a) := he
      clear he
      go_wp2_with (go_at_call 32; refine (refMul_any _ _ _ (by omega) (by omega) (by omega) (by omega)).mono ?_; rintro e w1 ⟨rfl, hw⟩; obtain rfl := hw.symm; clear hw)
      go_ret2
      exact ⟨by rw [← HE.out]; rfl, rfl⟩

set_option maxHeartbeats 800000 in
set_option maxRecDepth 100000 in
theorem refInv_zero (w : World) :
    Calls Try.prog 28 #[.int .u8 0] w fun e w' => e = .returned (.tuple #[.int .u8 0, .int .i64 1]) ∧ w' = w := by
  go_enter Try.func28, Try.ntmps28
  go_wp2
  go_loop [4] (fun ti => ∃ k : Nat, 1 ≤ k ∧ k ≤ 256 ∧ ti = .int .i64 k) (fun ti => 256 - (intOf ti).toNat)
  case atStart => exact ⟨1, by omega, by omega, rfl⟩
  case round =>
    obtain ⟨k, hk1, hk, rfl⟩ := hrel
    by_cases hlt : k < 256
    · have hk2 : (k : Int) % 256 = k := by omega
      have hz := M.zero_mul k
      go_wp2_with (go_at_call 32; refine (refMul_any _ _ _ (by omega) (by omega) (by omega) (by omega)).mono ?_; rintro e w1 ⟨rfl, hw⟩; obtain rfl := hw.symm; clear hw)
      go_round
      case rel => exact ⟨k + 1, by omega, by omega, by go_num⟩
      case measure => simp [intOf]; omega
    · go_wp2
      go_ret2
      exact ⟨rfl, rfl⟩

/-- The document's Inv of whatever number. -/
theorem refInv_all (x : Int) (w : World) (h0 : 0 ≤ x) (h1 : x < 256) :
    Calls Try.prog 28 #[.int .u8 x] w fun e w' => e = .returned (.tuple #[.int .u8 (if x = 0 then 0 else ((M.inv x.toNat : Nat) : Int)), .int .i64 (if x = 0 then 1 else 0)]) ∧ w' = w := by
  by_cases h : x = 0
  · subst h
    exact refInv_zero w
  · rw [if_neg h, if_neg h]
    obtain ⟨a, rfl⟩ := Int.eq_ofNat_of_zero_le h0
    exact refInv_any a w (by omega) (by omega)

end Go.Proofs.Ytdeajclghlbhcaa
