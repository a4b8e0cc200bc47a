/- Plain mathematics of the field of 256 numbers: no text of the program is named here. -/
import Derived.WalkKit
namespace Go.Proofs.Ytdeajclghlbhcaa.M

/-- Twice a number: x times the polynomial, its rest by 11d. -/
def dbl (x : Nat) : Nat := (2 * x % 256) ^^^ (if 128 ≤ x then 29 else 0)

/-- k rounds of the product: what has been gathered, the shifted factor, what is left of the other one. -/
def mulGo : Nat → Nat → Nat → Nat → Nat
  | 0, s, _, _ => s
  | k + 1, s, a, b => mulGo k (s ^^^ (if b % 2 = 1 then a else 0)) (dbl a) (b / 2)

def mul (a b : Nat) : Nat := mulGo 8 0 a b

/-- The k-th power of 2. -/
def pw : Nat → Nat
  | 0 => 1
  | k + 1 => dbl (pw k)

/-- The logarithm: looked for among the first n powers (the last one that fits counts). -/
def lgTo : Nat → Nat → Nat
  | 0, _ => 0
  | n + 1, a => if pw n = a then n else lgTo n a

def lg (a : Nat) : Nat := lgTo 255 a

def inv (a : Nat) : Nat := pw ((255 - lg a) % 255)

theorem xor_lt {a b : Nat} (ha : a < 256) (hb : b < 256) : a ^^^ b < 256 := Nat.xor_lt_two_pow (n := 8) ha hb

theorem dbl_lt (x : Nat) : dbl x < 256 := by
  unfold dbl
  exact xor_lt (by omega) (by split <;> omega)

theorem pw_lt : ∀ k, pw k < 256
  | 0 => by decide
  | k + 1 => dbl_lt (pw k)

theorem inv_lt (a : Nat) : inv a < 256 := pw_lt _

theorem lgTo_lt : ∀ k a, k ≠ 0 → lgTo k a < k
  | k + 1, a, _ => by
    unfold lgTo
    split
    · omega
    · by_cases h : k = 0
      · subst h; simp [lgTo]
      · have := lgTo_lt k a h; omega

theorem lg_lt (a : Nat) : lg a < 255 := lgTo_lt 255 a (by decide)

/-! ## The double goes through sums -/

theorem bit7 {x : Nat} (h : x < 256) : x.testBit 7 = decide (128 ≤ x) := by
  rw [Nat.testBit_eq_decide_div_mod_eq]
  apply decide_eq_decide.2
  omega

theorem dbl_xor {x y : Nat} (hx : x < 256) (hy : y < 256) : dbl (x ^^^ y) = dbl x ^^^ dbl y := by
  have e : 2 * (x ^^^ y) % 256 = (2 * x % 256) ^^^ (2 * y % 256) := by
    have h1 : ∀ z, 2 * z = z <<< 1 := fun z => by rw [Nat.shiftLeft_eq]; omega
    rw [h1, h1, h1, Nat.shiftLeft_xor_distrib, show (256 : Nat) = 2 ^ 8 from rfl, Nat.xor_mod_two_pow]
  have t : (x ^^^ y).testBit 7 = (x.testBit 7 ^^ y.testBit 7) := Nat.testBit_xor ..
  rw [bit7 hx, bit7 hy, bit7 (xor_lt hx hy)] at t
  unfold dbl
  rw [e]
  generalize 2 * x % 256 = u
  generalize 2 * y % 256 = v
  by_cases h1 : 128 ≤ x <;> by_cases h2 : 128 ≤ y <;> simp only [h1, h2, decide_true, decide_false, Bool.bne_true, Bool.bne_false, Bool.not_true, Bool.not_false, decide_eq_true_eq, decide_eq_false_iff_not] at t <;> simp only [h1, h2, t, if_true, if_false]
  · rw [Nat.xor_zero, Nat.xor_assoc u 29, ← Nat.xor_assoc 29 v 29, Nat.xor_comm 29 v, Nat.xor_assoc v 29 29, Nat.xor_self, Nat.xor_zero]
  · rw [Nat.xor_assoc u, Nat.xor_assoc u, Nat.xor_comm 29]; simp
  · rw [Nat.xor_assoc, Nat.xor_zero]
  · simp

/-! ## The product's rounds -/

theorem mulGo_sum : ∀ k s a b, mulGo k s a b = s ^^^ mulGo k 0 a b
  | 0, s, a, b => by simp [mulGo]
  | k + 1, s, a, b => by
    unfold mulGo
    rw [mulGo_sum k (s ^^^ _), mulGo_sum k (0 ^^^ _), Nat.zero_xor, Nat.xor_assoc]

theorem mulGo_succ (k a b : Nat) : mulGo (k + 1) 0 a b = (if b % 2 = 1 then a else 0) ^^^ mulGo k 0 (dbl a) (b / 2) := by
  show mulGo k (0 ^^^ _) _ _ = _
  rw [mulGo_sum, Nat.zero_xor]

theorem mulGo_lt : ∀ k a b, a < 256 → mulGo k 0 a b < 256
  | 0, _, _, _ => by simp [mulGo]
  | k + 1, a, b, h => by
    rw [mulGo_succ]
    exact xor_lt (by split <;> omega) (mulGo_lt k _ _ (dbl_lt a))

theorem mul_lt {a : Nat} (b : Nat) (h : a < 256) : mul a b < 256 := mulGo_lt 8 a b h

theorem mulGo_xor : ∀ k a c b, a < 256 → c < 256 → mulGo k 0 (a ^^^ c) b = mulGo k 0 a b ^^^ mulGo k 0 c b
  | 0, _, _, _, _, _ => by simp [mulGo]
  | k + 1, a, c, b, ha, hc => by
    rw [mulGo_succ, mulGo_succ, mulGo_succ, dbl_xor ha hc, mulGo_xor k _ _ _ (dbl_lt a) (dbl_lt c)]
    generalize mulGo k 0 (dbl a) (b / 2) = u
    generalize mulGo k 0 (dbl c) (b / 2) = v
    split
    · rw [Nat.xor_assoc, Nat.xor_assoc, ← Nat.xor_assoc c, Nat.xor_comm c u, Nat.xor_assoc u]
    · simp

theorem mul_xor {a c : Nat} (b : Nat) (ha : a < 256) (hc : c < 256) : mul (a ^^^ c) b = mul a b ^^^ mul c b := mulGo_xor 8 a c b ha hc

theorem dbl_zero : dbl 0 = 0 := by decide

theorem mulGo_dbl : ∀ k a b, a < 256 → mulGo k 0 (dbl a) b = dbl (mulGo k 0 a b)
  | 0, _, _, _ => by simp [mulGo, dbl_zero]
  | k + 1, a, b, h => by
    rw [mulGo_succ, mulGo_succ, mulGo_dbl k _ _ (dbl_lt a), dbl_xor (by split <;> omega) (mulGo_lt k _ _ (dbl_lt a))]
    split
    · rfl
    · rw [dbl_zero]

theorem mul_dbl {a : Nat} (b : Nat) (h : a < 256) : mul (dbl a) b = dbl (mul a b) := mulGo_dbl 8 a b h

theorem mulGo_zero_left : ∀ k b, mulGo k 0 0 b = 0
  | 0, _ => rfl
  | k + 1, b => by rw [mulGo_succ, dbl_zero, mulGo_zero_left k]; simp

theorem mulGo_zero_right : ∀ k a, mulGo k 0 a 0 = 0
  | 0, _ => rfl
  | k + 1, a => by rw [mulGo_succ, Nat.zero_div, mulGo_zero_right k]; simp

theorem zero_mul (b : Nat) : mul 0 b = 0 := mulGo_zero_left 8 b
theorem mul_zero (a : Nat) : mul a 0 = 0 := mulGo_zero_right 8 a

theorem one_mul {b : Nat} (h : b < 256) : mul 1 b = b := by
  have key : ∀ b, b < 256 → mul 1 b = b := by decide +kernel
  exact key b h

/-! ## Powers and logarithms: two tables, each a row of bytes in one number -/

def tab (t k : Nat) : Nat := (t >>> (8 * k)) % 256

/-- The powers of 2. -/
def pt : Nat := 70160881166704368827218703435136616750530459438269794890424969378298545675077208731798828898087927652446353395360628748027273188182808436399538186061104243134188885576122562338679313492324190829158544377810568631194580132524405266702234305646236648896994794467054525044798919765581988418950285252905306116225263236585714808161311289784028762024137133735135393922581566890382566480334369299400480864790538739986285574563168380416343369614948461817839620668187777978661530364712890858126432457562886306102556561631759900551331094983229723298224611133722330829711659991602983068895685602467964643306841827719562658305
/-- The logarithms. -/
def lt : Nat := 22135253156888987530748098150270024343632497605293634117281264061560962248099620766229961468867162294233796152347975563017024165690400661622462404646302566225833645086064538892198543335321514950294300187779610338557442029018619797274438901674641748676613670242915365385819254959901651105240253464034662486586186382979728982817772067067513442677601938078891989292316012868233806586592927239821351197800766822366321181463280924672822998103315976779850880337712374790938628529953751181886374687897611504386983350015558142994211516619836411558782076806704747441947939324473761869443721989389604670425385080942269787340800

theorem tab_step : ∀ k, k < 254 → dbl (tab pt k) = tab pt (k + 1) := by decide +kernel
theorem tab_back : ∀ k, k < 255 → tab lt (tab pt k) = k := by decide +kernel
theorem tab_there : ∀ a, a < 256 → a = 0 ∨ tab pt (tab lt a) = a ∧ tab lt a < 255 := by decide +kernel

theorem pw_tab : ∀ k, k < 255 → pw k = tab pt k
  | 0, _ => by decide +kernel
  | k + 1, h => by
    show dbl (pw k) = _
    rw [pw_tab k (by omega), tab_step k (by omega)]

theorem pw_255 : pw 255 = 1 := by
  show dbl (pw 254) = 1
  rw [pw_tab 254 (by omega)]
  decide +kernel

theorem pw_add_255 : ∀ n, pw (n + 255) = pw n
  | 0 => by rw [Nat.zero_add]; exact pw_255
  | n + 1 => by
    show dbl (pw (n + 255)) = dbl (pw n)
    rw [pw_add_255 n]

theorem pw_mul_255 : ∀ k n, pw (n + 255 * k) = pw n
  | 0, n => rfl
  | k + 1, n => by rw [show n + 255 * (k + 1) = (n + 255 * k) + 255 from by omega, pw_add_255, pw_mul_255 k]

theorem pw_mod (n : Nat) : pw (n % 255) = pw n := by
  have h := pw_mul_255 (n / 255) (n % 255)
  rw [show n % 255 + 255 * (n / 255) = n from by omega] at h
  exact h.symm

theorem pw_inj {m n : Nat} (hm : m < 255) (hn : n < 255) (h : pw m = pw n) : m = n := by
  rw [pw_tab m hm, pw_tab n hn] at h
  have := congrArg (tab lt) h
  rwa [tab_back m hm, tab_back n hn] at this

theorem lgTo_of : ∀ k a n, n < k → pw n = a → (∀ m, m < k → pw m = a → m = n) → lgTo k a = n
  | k + 1, a, n, hn, hp, hu => by
    unfold lgTo
    split
    · rename_i h; exact hu k (by omega) h
    · rename_i h
      have : n ≠ k := fun e => h (e ▸ hp)
      exact lgTo_of k a n (by omega) hp (fun m hm => hu m (by omega))

theorem lg_pw {n : Nat} (h : n < 255) : lg (pw n) = n := lgTo_of 255 _ n h rfl (fun _ hm e => pw_inj hm h e)

theorem pw_lg {a : Nat} (h0 : 0 < a) (h : a < 256) : pw (lg a) = a := by
  obtain ⟨n, hn, rfl⟩ : ∃ n, n < 255 ∧ pw n = a := by
    rcases tab_there a h with h1 | ⟨h1, h2⟩
    · omega
    · exact ⟨tab lt a, h2, by rw [pw_tab _ h2]; exact h1⟩
  rw [lg_pw hn]

theorem pw_pos (n : Nat) : 0 < pw n := by
  have key : ∀ k, k < 255 → 0 < tab pt k := by decide +kernel
  rw [← pw_mod, pw_tab _ (by omega)]
  exact key _ (by omega)

theorem mul_pw (x : Nat) : ∀ m, mul (pw m) (pw x) = pw (m + x)
  | 0 => by rw [Nat.zero_add]; exact one_mul (pw_lt x)
  | m + 1 => by
    rw [show m + 1 + x = (m + x) + 1 from by omega]
    show mul (dbl (pw m)) (pw x) = dbl (pw (m + x))
    rw [mul_dbl _ (pw_lt m), mul_pw x m]

/-! ## It is a field -/

theorem exists_pw {a : Nat} (h0 : 0 < a) (h : a < 256) : ∃ m, m < 255 ∧ lg a = m ∧ a = pw m := ⟨lg a, lg_lt a, rfl, (pw_lg h0 h).symm⟩

theorem mul_comm {a b : Nat} (ha : a < 256) (hb : b < 256) : mul a b = mul b a := by
  rcases Nat.eq_zero_or_pos a with rfl | ha0
  · rw [zero_mul, mul_zero]
  rcases Nat.eq_zero_or_pos b with rfl | hb0
  · rw [zero_mul, mul_zero]
  obtain ⟨m, _, _, rfl⟩ := exists_pw ha0 ha
  obtain ⟨n, _, _, rfl⟩ := exists_pw hb0 hb
  rw [mul_pw, mul_pw, Nat.add_comm]

theorem mul_assoc {a b c : Nat} (ha : a < 256) (hb : b < 256) (hc : c < 256) : mul (mul a b) c = mul a (mul b c) := by
  rcases Nat.eq_zero_or_pos a with rfl | ha0
  · rw [zero_mul, zero_mul, zero_mul]
  rcases Nat.eq_zero_or_pos b with rfl | hb0
  · rw [zero_mul, mul_zero, zero_mul]
  rcases Nat.eq_zero_or_pos c with rfl | hc0
  · rw [mul_zero, mul_zero, mul_zero]
  obtain ⟨m, _, _, rfl⟩ := exists_pw ha0 ha
  obtain ⟨n, _, _, rfl⟩ := exists_pw hb0 hb
  obtain ⟨k, _, _, rfl⟩ := exists_pw hc0 hc
  rw [mul_pw, mul_pw, mul_pw, mul_pw, Nat.add_assoc]

theorem mul_one {a : Nat} (ha : a < 256) : mul a 1 = a := by rw [mul_comm ha (by decide), one_mul ha]

theorem mul_pos {a b : Nat} (ha : a < 256) (hb : b < 256) (ha0 : 0 < a) (hb0 : 0 < b) : 0 < mul a b := by
  obtain ⟨m, _, _, rfl⟩ := exists_pw ha0 ha
  obtain ⟨n, _, _, rfl⟩ := exists_pw hb0 hb
  rw [mul_pw]
  exact pw_pos _

theorem inv_pw {m : Nat} (h : m < 255) : inv (pw m) = pw ((255 - m) % 255) := by unfold inv; rw [lg_pw h]

theorem mul_inv {a : Nat} (ha : a < 256) (ha0 : 0 < a) : mul a (inv a) = 1 := by
  obtain ⟨m, hm, _, rfl⟩ := exists_pw ha0 ha
  rw [inv_pw hm, pw_mod, mul_pw, show m + (255 - m) = 255 from by omega]
  exact pw_255

theorem inv_mul {a : Nat} (ha : a < 256) (ha0 : 0 < a) : mul (inv a) a = 1 := by rw [mul_comm (inv_lt a) ha]; exact mul_inv ha ha0

/-- What is divided and multiplied again is what it was. -/
theorem div_mul {a b : Nat} (ha : a < 256) (hb : b < 256) (hb0 : 0 < b) : mul (mul a (inv b)) b = a := by
  rw [mul_assoc ha (inv_lt b) hb, inv_mul hb hb0, mul_one ha]

theorem inv_unique {a b : Nat} (ha : a < 256) (hb : b < 256) (ha0 : 0 < a) (h : mul a b = 1) : b = inv a := by
  have h1 : mul (inv a) (mul a b) = b := by rw [← mul_assoc (inv_lt a) ha hb, inv_mul ha ha0, one_mul hb]
  rw [h, mul_one (inv_lt a)] at h1
  exact h1.symm

theorem lg_mul {a b : Nat} (ha : a < 256) (hb : b < 256) (ha0 : 0 < a) (hb0 : 0 < b) : lg (mul a b) = (lg a + lg b) % 255 := by
  obtain ⟨m, hm, em, rfl⟩ := exists_pw ha0 ha
  obtain ⟨n, hn, en, rfl⟩ := exists_pw hb0 hb
  rw [mul_pw, ← pw_mod, lg_pw (by omega), lg_pw hm, lg_pw hn]

theorem lg_inj {a b : Nat} (ha : a < 256) (hb : b < 256) (ha0 : 0 < a) (hb0 : 0 < b) (h : lg a = lg b) : a = b := by
  rw [← pw_lg ha0 ha, ← pw_lg hb0 hb, h]

end Go.Proofs.Ytdeajclghlbhcaa.M
