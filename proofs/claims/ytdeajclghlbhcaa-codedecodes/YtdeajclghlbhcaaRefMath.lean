/- Plain mathematics: the product of polynomials and its rest, as the document's own answer reckons it, is the product of the field. -/
import Derived.Test.YtdeajclghlbhcaaMath
namespace Go.Proofs.Ytdeajclghlbhcaa.M

/-- The product of two polynomials, behind k rounds. -/
def cl : Nat → Nat → Nat → Nat
  | 0, _, _ => 0
  | k + 1, a, b => cl k a b ^^^ (if b / 2 ^ k % 2 = 1 then a * 2 ^ k else 0)

/-- One step of the rest by 11d. -/
def rs (i p : Nat) : Nat := p ^^^ (if p / 2 ^ i % 2 = 1 then 285 * 2 ^ (i - 8) else 0)

/-- The steps of the rest from x^(n + 7) down. -/
def red : Nat → Nat → Nat
  | 0, p => p
  | n + 1, p => red n (rs (n + 8) p)

def dblN : Nat → Nat → Nat
  | 0, a => a
  | k + 1, a => dbl (dblN k a)

/-- The field's product, behind k rounds. -/
def ms : Nat → Nat → Nat → Nat
  | 0, _, _ => 0
  | k + 1, a, b => ms k a b ^^^ (if b / 2 ^ k % 2 = 1 then dblN k a else 0)

theorem mulGo_ms : ∀ n k a b, mulGo n (ms k a b) (dblN k a) (b / 2 ^ k) = ms (k + n) a b
  | 0, _, _, _ => rfl
  | n + 1, k, a, b => by
    have h := mulGo_ms n (k + 1) a b
    rw [show k + 1 + n = k + (n + 1) from by omega] at h
    rw [← h]
    show mulGo n _ _ (b / 2 ^ k / 2) = _
    rw [Nat.div_div_eq_div_mul, ← Nat.pow_succ]
    rfl

theorem mul_ms (a b : Nat) : mul a b = ms 8 a b := by
  have h := mulGo_ms 8 0 a b
  rw [Nat.pow_zero, Nat.div_one, Nat.zero_add] at h
  exact h

theorem rs_xor (i p q : Nat) : rs i (p ^^^ q) = rs i p ^^^ rs i q := by
  have t : (p ^^^ q).testBit i = (p.testBit i ^^ q.testBit i) := Nat.testBit_xor ..
  rw [Nat.testBit_eq_decide_div_mod_eq, Nat.testBit_eq_decide_div_mod_eq, Nat.testBit_eq_decide_div_mod_eq] at t
  unfold rs
  generalize 285 * 2 ^ (i - 8) = c
  by_cases h1 : p / 2 ^ i % 2 = 1 <;> by_cases h2 : q / 2 ^ i % 2 = 1 <;> simp only [h1, h2, decide_true, decide_false, Bool.bne_true, Bool.bne_false, Bool.not_true, Bool.not_false, decide_eq_true_eq, decide_eq_false_iff_not] at t <;> simp only [h1, h2, t, if_true, if_false]
  · rw [Nat.xor_zero, Nat.xor_assoc p c, ← Nat.xor_assoc c q c, Nat.xor_comm c q, Nat.xor_assoc q c c, Nat.xor_self, Nat.xor_zero]
  · rw [Nat.xor_zero, Nat.xor_assoc, Nat.xor_assoc, Nat.xor_comm c]
  · rw [Nat.xor_zero, Nat.xor_assoc]
  · simp

theorem red_xor : ∀ n p q, red n (p ^^^ q) = red n p ^^^ red n q
  | 0, _, _ => rfl
  | n + 1, p, q => by
    show red n (rs _ _) = _
    rw [rs_xor, red_xor n]
    rfl

theorem red_zero : ∀ n, red n 0 = 0
  | 0 => rfl
  | n + 1 => by
    show red n (rs _ 0) = 0
    have : rs (n + 8) 0 = 0 := by simp [rs]
    rw [this, red_zero n]

theorem red_shift : ∀ k, k < 8 → ∀ a, a < 256 → red 7 (a * 2 ^ k) % 256 = dblN k a := by decide +kernel

theorem red_cl {a : Nat} (b : Nat) (ha : a < 256) : ∀ k, k ≤ 8 → red 7 (cl k a b) % 256 = ms k a b
  | 0, _ => by rw [show cl 0 a b = 0 from rfl, red_zero]; rfl
  | k + 1, h => by
    show red 7 (cl k a b ^^^ _) % 256 = ms k a b ^^^ _
    rw [red_xor, show (256 : Nat) = 2 ^ 8 from rfl, Nat.xor_mod_two_pow, show (2 ^ 8 : Nat) = 256 from rfl, red_cl b ha k (by omega)]
    congr 1
    split
    · exact red_shift k (by omega) a ha
    · rw [red_zero]

theorem ref_mul {a : Nat} (b : Nat) (ha : a < 256) : red 7 (cl 8 a b) % 256 = mul a b := by rw [mul_ms]; exact red_cl b ha 8 (Nat.le_refl 8)

theorem shift_lt : ∀ k, k < 8 → ∀ a, a < 256 → a * 2 ^ k < 32768 := by
  intro k hk a ha
  have h2 : 2 ^ k ≤ 2 ^ 7 := Nat.pow_le_pow_right (by decide) (by omega)
  have : a * 2 ^ k ≤ 255 * 2 ^ 7 := Nat.mul_le_mul (by omega) h2
  omega

theorem poly_lt : ∀ i, i ≤ 14 → 285 * 2 ^ (i - 8) < 32768 := by
  intro i hi
  have h2 : 2 ^ (i - 8) ≤ 2 ^ 6 := Nat.pow_le_pow_right (by decide) (by omega)
  omega

theorem xor_lt15 {a b : Nat} (ha : a < 32768) (hb : b < 32768) : a ^^^ b < 32768 := Nat.xor_lt_two_pow (n := 15) ha hb

theorem cl_lt {a : Nat} (b : Nat) (ha : a < 256) : ∀ k, k ≤ 8 → cl k a b < 32768
  | 0, _ => Nat.zero_lt_succ _
  | k + 1, h => xor_lt15 (cl_lt b ha k (by omega)) (by split <;> first | exact shift_lt k (by omega) a ha | omega)

theorem rs_lt {i p : Nat} (hi : i ≤ 14) (hp : p < 32768) : rs i p < 32768 :=
  xor_lt15 hp (by split <;> first | exact poly_lt i hi | omega)

/-! ## a number multiplied so many times -/

def times : Nat → Nat → Nat
  | _, 0 => 1
  | a, n + 1 => mul (times a n) a

theorem times_lt {a : Nat} : ∀ n, times a n < 256
  | 0 => by show 1 < 256; decide
  | n + 1 => mul_lt a (times_lt n)

theorem times_pw {m : Nat} : ∀ n, times (pw m) n = pw (m * n)
  | 0 => rfl
  | n + 1 => by
    show mul (times (pw m) n) (pw m) = _
    rw [times_pw n, mul_pw, Nat.mul_succ]

theorem times_lg {a : Nat} (ha : a < 256) (ha0 : 0 < a) (n : Nat) : times a n = pw (lg a * n % 255) := by
  obtain ⟨m, hm, e, rfl⟩ := exists_pw ha0 ha
  rw [e, times_pw, pw_mod]

theorem times_two (n : Nat) : times 2 n = pw n := by
  have h := times_pw (m := 1) n
  rw [Nat.one_mul] at h
  exact h

end Go.Proofs.Ytdeajclghlbhcaa.M
