/- Packed: Math, Leaf, RefMath, RefMul, MatMath, RefMat. -/
import Derived.WalkKit
import Derived.Test.YtfjlpifaaknmpaaGreatChecked
import Derived.WalkSpells
import Derived.WalkLawsBesides
import Derived.Deep.RegionHeld3
import Derived.Test.YtfjlpifaaknmpaaGreatSy1
/- Plain mathematics of the field of 256 numbers: no text of the program is named here. -/
set_option maxRecDepth 100000
namespace Go.Proofs.YtfjlpifaaknmpaaGreat.M

/-- Twice a number: x times the polynomial, its rest by 11d. -/
def dbl (x : Nat) : Nat := (2 * x % 256) ^^^ (if 128 ≤ x then 29 else 0)

/-- k rounds of the product: what has been gathered, the shifted factor, what is left of the other one. -/
def mulGo : Nat → Nat → Nat → Nat → Nat
  | 0, s, _, _ => s
  | k + 1, s, a, b => mulGo k (s ^^^ (if b % 2 = 1 then a else 0)) (dbl a) (b / 2)

def mul (a b : Nat) : Nat := mulGo 8 0 a b

/-- The k-th power of 2. -/
def pw : Nat → Nat
  | 0 => 1
  | k + 1 => dbl (pw k)

/-- The logarithm: looked for among the first n powers (the last one that fits counts). -/
def lgTo : Nat → Nat → Nat
  | 0, _ => 0
  | n + 1, a => if pw n = a then n else lgTo n a

def lg (a : Nat) : Nat := lgTo 255 a

def inv (a : Nat) : Nat := pw ((255 - lg a) % 255)

theorem xor_lt {a b : Nat} (ha : a < 256) (hb : b < 256) : a ^^^ b < 256 := Nat.xor_lt_two_pow (n := 8) ha hb

theorem dbl_lt (x : Nat) : dbl x < 256 := by
  unfold dbl
  exact xor_lt (by omega) (by split <;> omega)

theorem pw_lt : ∀ k, pw k < 256
  | 0 => by decide
  | k + 1 => dbl_lt (pw k)

theorem inv_lt (a : Nat) : inv a < 256 := pw_lt _

theorem lgTo_lt : ∀ k a, k ≠ 0 → lgTo k a < k
  | k + 1, a, _ => by
    unfold lgTo
    split
    · omega
    · by_cases h : k = 0
      · subst h; simp [lgTo]
      · have := lgTo_lt k a h; omega

theorem lg_lt (a : Nat) : lg a < 255 := lgTo_lt 255 a (by decide)

/-! ## The double goes through sums -/

theorem bit7 {x : Nat} (h : x < 256) : x.testBit 7 = decide (128 ≤ x) := by
  rw [Nat.testBit_eq_decide_div_mod_eq]
  apply decide_eq_decide.2
  omega

theorem dbl_xor {x y : Nat} (hx : x < 256) (hy : y < 256) : dbl (x ^^^ y) = dbl x ^^^ dbl y := by
  have e : 2 * (x ^^^ y) % 256 = (2 * x % 256) ^^^ (2 * y % 256) := by
    have h1 : ∀ z, 2 * z = z <<< 1 := fun z => by rw [Nat.shiftLeft_eq]; omega
    rw [h1, h1, h1, Nat.shiftLeft_xor_distrib, show (256 : Nat) = 2 ^ 8 from rfl, Nat.xor_mod_two_pow]
  have t : (x ^^^ y).testBit 7 = (x.testBit 7 ^^ y.testBit 7) := Nat.testBit_xor ..
  rw [bit7 hx, bit7 hy, bit7 (xor_lt hx hy)] at t
  unfold dbl
  rw [e]
  generalize 2 * x % 256 = u
  generalize 2 * y % 256 = v
  by_cases h1 : 128 ≤ x <;> by_cases h2 : 128 ≤ y <;> simp only [h1, h2, decide_true, decide_false, Bool.bne_true, Bool.bne_false, Bool.not_true, Bool.not_false, decide_eq_true_eq, decide_eq_false_iff_not] at t <;> simp only [h1, h2, t, if_true, if_false]
  · rw [Nat.xor_zero, Nat.xor_assoc u 29, ← Nat.xor_assoc 29 v 29, Nat.xor_comm 29 v, Nat.xor_assoc v 29 29, Nat.xor_self, Nat.xor_zero]
  · rw [Nat.xor_assoc u, Nat.xor_assoc u, Nat.xor_comm 29]; simp
  · rw [Nat.xor_assoc, Nat.xor_zero]
  · simp

/-! ## The product's rounds -/

theorem mulGo_sum : ∀ k s a b, mulGo k s a b = s ^^^ mulGo k 0 a b
  | 0, s, a, b => by simp [mulGo]
  | k + 1, s, a, b => by
    unfold mulGo
    rw [mulGo_sum k (s ^^^ _), mulGo_sum k (0 ^^^ _), Nat.zero_xor, Nat.xor_assoc]

theorem mulGo_succ (k a b : Nat) : mulGo (k + 1) 0 a b = (if b % 2 = 1 then a else 0) ^^^ mulGo k 0 (dbl a) (b / 2) := by
  show mulGo k (0 ^^^ _) _ _ = _
  rw [mulGo_sum, Nat.zero_xor]

theorem mulGo_lt : ∀ k a b, a < 256 → mulGo k 0 a b < 256
  | 0, _, _, _ => by simp [mulGo]
  | k + 1, a, b, h => by
    rw [mulGo_succ]
    exact xor_lt (by split <;> omega) (mulGo_lt k _ _ (dbl_lt a))

theorem mul_lt {a : Nat} (b : Nat) (h : a < 256) : mul a b < 256 := mulGo_lt 8 a b h

theorem mulGo_xor : ∀ k a c b, a < 256 → c < 256 → mulGo k 0 (a ^^^ c) b = mulGo k 0 a b ^^^ mulGo k 0 c b
  | 0, _, _, _, _, _ => by simp [mulGo]
  | k + 1, a, c, b, ha, hc => by
    rw [mulGo_succ, mulGo_succ, mulGo_succ, dbl_xor ha hc, mulGo_xor k _ _ _ (dbl_lt a) (dbl_lt c)]
    generalize mulGo k 0 (dbl a) (b / 2) = u
    generalize mulGo k 0 (dbl c) (b / 2) = v
    split
    · rw [Nat.xor_assoc, Nat.xor_assoc, ← Nat.xor_assoc c, Nat.xor_comm c u, Nat.xor_assoc u]
    · simp

theorem mul_xor {a c : Nat} (b : Nat) (ha : a < 256) (hc : c < 256) : mul (a ^^^ c) b = mul a b ^^^ mul c b := mulGo_xor 8 a c b ha hc

theorem dbl_zero : dbl 0 = 0 := by decide

theorem mulGo_dbl : ∀ k a b, a < 256 → mulGo k 0 (dbl a) b = dbl (mulGo k 0 a b)
  | 0, _, _, _ => by simp [mulGo, dbl_zero]
  | k + 1, a, b, h => by
    rw [mulGo_succ, mulGo_succ, mulGo_dbl k _ _ (dbl_lt a), dbl_xor (by split <;> omega) (mulGo_lt k _ _ (dbl_lt a))]
    split
    · rfl
    · rw [dbl_zero]

theorem mul_dbl {a : Nat} (b : Nat) (h : a < 256) : mul (dbl a) b = dbl (mul a b) := mulGo_dbl 8 a b h

theorem mulGo_zero_left : ∀ k b, mulGo k 0 0 b = 0
  | 0, _ => rfl
  | k + 1, b => by rw [mulGo_succ, dbl_zero, mulGo_zero_left k]; simp

theorem mulGo_zero_right : ∀ k a, mulGo k 0 a 0 = 0
  | 0, _ => rfl
  | k + 1, a => by rw [mulGo_succ, Nat.zero_div, mulGo_zero_right k]; simp

theorem zero_mul (b : Nat) : mul 0 b = 0 := mulGo_zero_left 8 b
theorem mul_zero (a : Nat) : mul a 0 = 0 := mulGo_zero_right 8 a

theorem one_mul {b : Nat} (h : b < 256) : mul 1 b = b := by
  have key : ∀ b, b < 256 → mul 1 b = b := by decide +kernel
  exact key b h

/-! ## Powers and logarithms: two tables, each a row of bytes in one number -/

def tab (t k : Nat) : Nat := (t >>> (8 * k)) % 256

/-- The powers of 2. -/
def pt : Nat := 70160881166704368827218703435136616750530459438269794890424969378298545675077208731798828898087927652446353395360628748027273188182808436399538186061104243134188885576122562338679313492324190829158544377810568631194580132524405266702234305646236648896994794467054525044798919765581988418950285252905306116225263236585714808161311289784028762024137133735135393922581566890382566480334369299400480864790538739986285574563168380416343369614948461817839620668187777978661530364712890858126432457562886306102556561631759900551331094983229723298224611133722330829711659991602983068895685602467964643306841827719562658305
/-- The logarithms. -/
def lt : Nat := 22135253156888987530748098150270024343632497605293634117281264061560962248099620766229961468867162294233796152347975563017024165690400661622462404646302566225833645086064538892198543335321514950294300187779610338557442029018619797274438901674641748676613670242915365385819254959901651105240253464034662486586186382979728982817772067067513442677601938078891989292316012868233806586592927239821351197800766822366321181463280924672822998103315976779850880337712374790938628529953751181886374687897611504386983350015558142994211516619836411558782076806704747441947939324473761869443721989389604670425385080942269787340800

theorem tab_step : ∀ k, k < 254 → dbl (tab pt k) = tab pt (k + 1) := by decide +kernel
theorem tab_back : ∀ k, k < 255 → tab lt (tab pt k) = k := by decide +kernel
theorem tab_there : ∀ a, a < 256 → a = 0 ∨ tab pt (tab lt a) = a ∧ tab lt a < 255 := by decide +kernel

theorem pw_tab : ∀ k, k < 255 → pw k = tab pt k
  | 0, _ => by decide +kernel
  | k + 1, h => by
    show dbl (pw k) = _
    rw [pw_tab k (by omega), tab_step k (by omega)]

theorem pw_255 : pw 255 = 1 := by
  show dbl (pw 254) = 1
  rw [pw_tab 254 (by omega)]
  decide +kernel

theorem pw_add_255 : ∀ n, pw (n + 255) = pw n
  | 0 => by rw [Nat.zero_add]; exact pw_255
  | n + 1 => by
    show dbl (pw (n + 255)) = dbl (pw n)
    rw [pw_add_255 n]

theorem pw_mul_255 : ∀ k n, pw (n + 255 * k) = pw n
  | 0, n => rfl
  | k + 1, n => by rw [show n + 255 * (k + 1) = (n + 255 * k) + 255 from by omega, pw_add_255, pw_mul_255 k]

theorem pw_mod (n : Nat) : pw (n % 255) = pw n := by
  have h := pw_mul_255 (n / 255) (n % 255)
  rw [show n % 255 + 255 * (n / 255) = n from by omega] at h
  exact h.symm

theorem pw_inj {m n : Nat} (hm : m < 255) (hn : n < 255) (h : pw m = pw n) : m = n := by
  rw [pw_tab m hm, pw_tab n hn] at h
  have := congrArg (tab lt) h
  rwa [tab_back m hm, tab_back n hn] at this

theorem lgTo_of : ∀ k a n, n < k → pw n = a → (∀ m, m < k → pw m = a → m = n) → lgTo k a = n
  | k + 1, a, n, hn, hp, hu => by
    unfold lgTo
    split
    · rename_i h; exact hu k (by omega) h
    · rename_i h
      have : n ≠ k := fun e => h (e ▸ hp)
      exact lgTo_of k a n (by omega) hp (fun m hm => hu m (by omega))

theorem lg_pw {n : Nat} (h : n < 255) : lg (pw n) = n := lgTo_of 255 _ n h rfl (fun _ hm e => pw_inj hm h e)

theorem pw_lg {a : Nat} (h0 : 0 < a) (h : a < 256) : pw (lg a) = a := by
  obtain ⟨n, hn, rfl⟩ : ∃ n, n < 255 ∧ pw n = a := by
    rcases tab_there a h with h1 | ⟨h1, h2⟩
    · omega
    · exact ⟨tab lt a, h2, by rw [pw_tab _ h2]; exact h1⟩
  rw [lg_pw hn]

theorem pw_pos (n : Nat) : 0 < pw n := by
  have key : ∀ k, k < 255 → 0 < tab pt k := by decide +kernel
  rw [← pw_mod, pw_tab _ (by omega)]
  exact key _ (by omega)

theorem mul_pw (x : Nat) : ∀ m, mul (pw m) (pw x) = pw (m + x)
  | 0 => by rw [Nat.zero_add]; exact one_mul (pw_lt x)
  | m + 1 => by
    rw [show m + 1 + x = (m + x) + 1 from by omega]
    show mul (dbl (pw m)) (pw x) = dbl (pw (m + x))
    rw [mul_dbl _ (pw_lt m), mul_pw x m]

/-! ## It is a field -/

theorem exists_pw {a : Nat} (h0 : 0 < a) (h : a < 256) : ∃ m, m < 255 ∧ lg a = m ∧ a = pw m := ⟨lg a, lg_lt a, rfl, (pw_lg h0 h).symm⟩

theorem mul_comm {a b : Nat} (ha : a < 256) (hb : b < 256) : mul a b = mul b a := by
  rcases Nat.eq_zero_or_pos a with rfl | ha0
  · rw [zero_mul, mul_zero]
  rcases Nat.eq_zero_or_pos b with rfl | hb0
  · rw [zero_mul, mul_zero]
  obtain ⟨m, _, _, rfl⟩ := exists_pw ha0 ha
  obtain ⟨n, _, _, rfl⟩ := exists_pw hb0 hb
  rw [mul_pw, mul_pw, Nat.add_comm]

theorem mul_assoc {a b c : Nat} (ha : a < 256) (hb : b < 256) (hc : c < 256) : mul (mul a b) c = mul a (mul b c) := by
  rcases Nat.eq_zero_or_pos a with rfl | ha0
  · rw [zero_mul, zero_mul, zero_mul]
  rcases Nat.eq_zero_or_pos b with rfl | hb0
  · rw [zero_mul, mul_zero, zero_mul]
  rcases Nat.eq_zero_or_pos c with rfl | hc0
  · rw [mul_zero, mul_zero, mul_zero]
  obtain ⟨m, _, _, rfl⟩ := exists_pw ha0 ha
  obtain ⟨n, _, _, rfl⟩ := exists_pw hb0 hb
  obtain ⟨k, _, _, rfl⟩ := exists_pw hc0 hc
  rw [mul_pw, mul_pw, mul_pw, mul_pw, Nat.add_assoc]

theorem mul_one {a : Nat} (ha : a < 256) : mul a 1 = a := by rw [mul_comm ha (by decide), one_mul ha]

theorem mul_pos {a b : Nat} (ha : a < 256) (hb : b < 256) (ha0 : 0 < a) (hb0 : 0 < b) : 0 < mul a b := by
  obtain ⟨m, _, _, rfl⟩ := exists_pw ha0 ha
  obtain ⟨n, _, _, rfl⟩ := exists_pw hb0 hb
  rw [mul_pw]
  exact pw_pos _

theorem inv_pw {m : Nat} (h : m < 255) : inv (pw m) = pw ((255 - m) % 255) := by unfold inv; rw [lg_pw h]

theorem mul_inv {a : Nat} (ha : a < 256) (ha0 : 0 < a) : mul a (inv a) = 1 := by
  obtain ⟨m, hm, _, rfl⟩ := exists_pw ha0 ha
  rw [inv_pw hm, pw_mod, mul_pw, show m + (255 - m) = 255 from by omega]
  exact pw_255

theorem inv_mul {a : Nat} (ha : a < 256) (ha0 : 0 < a) : mul (inv a) a = 1 := by rw [mul_comm (inv_lt a) ha]; exact mul_inv ha ha0

end Go.Proofs.YtfjlpifaaknmpaaGreat.M

/- Contracts of the small functions of package field (mask, double, Add, round, Mul): what each returns; no memory turns. -/
set_option maxRecDepth 100000
namespace Go.Proofs.YtfjlpifaaknmpaaGreat
open Go.RowKit

theorem ret_int {k : IntKind} {a b : Int} (h : a = b) : Ending.returned (.int k a) = .returned (.int k b) := by rw [h]

theorem mask_any (x : Int) (w : World) :
    Calls Tryz.prog 170 #[.int .u8 x] w fun e w' => e = .returned (.int .u8 (-x % 256)) ∧ w' = w := by
  go_enter Tryz.func170, Tryz.ntmps170
  go_wp2
  go_ret
  exact ⟨rfl, rfl⟩

theorem dbl_bits (x : Nat) (h : x < 256) : bits .xor .u8 ((x : Int) * 2 % 256) (bits .and .u8 29 (-((x : Int) / 128) % 256)) = ((M.dbl x : Nat) : Int) := by
  have e : (x : Int) * 2 % 256 = ((2 * x % 256 : Nat) : Int) := by omega
  rw [e]
  by_cases hx : 128 ≤ x
  · have : -((x : Int) / 128) % 256 = ((255 : Nat) : Int) := by omega
    rw [this, show (29 : Int) = ((29 : Nat) : Int) from rfl, u8_and_nat 29 255 (by omega) (by omega), u8_xor_nat _ _ (by omega) (by decide)]
    simp [M.dbl, hx]
  · have : -((x : Int) / 128) % 256 = ((0 : Nat) : Int) := by omega
    rw [this, show (29 : Int) = ((29 : Nat) : Int) from rfl, u8_and_nat 29 0 (by omega) (by omega), u8_xor_nat _ _ (by omega) (by decide)]
    simp [M.dbl, hx]

theorem double_any (x : Int) (w : World) (h0 : 0 ≤ x) (h1 : x < 256) :
    Calls Tryz.prog 171 #[.int .u8 x] w fun e w' => e = .returned (.int .u8 ((M.dbl x.toNat : Nat) : Int)) ∧ w' = w := by
  go_enter Tryz.func171, Tryz.ntmps171
  go_wp2_with (go_at_call 170; refine (mask_any _ _).mono ?_; rintro e w' ⟨rfl, rfl⟩)
  go_ret
  obtain ⟨n, rfl⟩ := Int.eq_ofNat_of_zero_le h0
  exact ⟨ret_int (dbl_bits n (by omega)), rfl⟩

theorem add_any (x y : Int) (w : World) (h0 : 0 ≤ x) (h1 : x < 256) (h2 : 0 ≤ y) (h3 : y < 256) :
    Calls Tryz.prog 138 #[.int .u8 x, .int .u8 y] w fun e w' => e = .returned (.int .u8 ((x.toNat ^^^ y.toNat : Nat) : Int)) ∧ w' = w := by
  go_enter Tryz.func138, Tryz.ntmps138
  go_wp2
  go_ret
  exact ⟨ret_int (u8_xor _ _ h0 h1 h2 h3), rfl⟩

theorem round_any (x : Int) (w : World) :
    Calls Tryz.prog 157 #[.int .i64 x] w fun e w' => e = .returned (.int .i64 (x % 255)) ∧ w' = w := by
  go_enter Tryz.func157, Tryz.ntmps157
  have hb : -255 < x.tmod 255 ∧ x.tmod 255 < 255 := by
    have := Int.tmod_lt_of_pos x (b := 255) (by decide)
    have := Int.lt_tmod_of_pos x (b := 255) (by decide)
    omega
  have he : x.tmod 255 = x % 255 - (if 0 ≤ x ∨ (255 : Int) ∣ x then 0 else 255) := by
    rw [Int.tmod_eq_emod]; split <;> simp
  have HB : Hid (-255 < x.tmod 255 ∧ x.tmod 255 < 255) := hb
  have HE : Hid (x.tmod 255 = x % 255 - (if 0 ≤ x ∨ (255 : Int) ∣ x then 0 else 255)) := he
  clear hb he
  go_wp2
  all_goals
    go_ret
    refine ⟨ret_int ?_, rfl⟩
  · rw [show wrap64 (x.tmod 255 + 255) = x.tmod 255 + 255 from by have := HB.out; unfold wrap64; omega]
    have h := HE.out
    rename_i h1
    split at h <;> omega
  · have h := HE.out
    rename_i h1
    split at h <;> omega

theorem and_one (b : Nat) (h : b < 256) : bits .and .u8 (b : Int) 1 = ((b % 2 : Nat) : Int) := by
  rw [show (1 : Int) = ((1 : Nat) : Int) from rfl, u8_and_nat b 1 h (by omega), Nat.and_one_is_mod]

theorem mul_step (s a b : Nat) (hs : s < 256) (ha : a < 256) :
    bits .xor .u8 (s : Int) (bits .and .u8 (a : Int) (-((b % 2 : Nat) : Int) % 256)) = ((s ^^^ (if b % 2 = 1 then a else 0) : Nat) : Int) := by
  rcases Nat.mod_two_eq_zero_or_one b with h | h
  · rw [h, show -((0 : Nat) : Int) % 256 = ((0 : Nat) : Int) from rfl, u8_and_nat a 0 ha (by omega), u8_xor_nat _ _ hs (by simp)]
    simp
  · rw [h, show -((1 : Nat) : Int) % 256 = ((255 : Nat) : Int) from rfl, u8_and_nat a 255 ha (by omega)]
    have : a &&& 255 = a := by
      have := Nat.and_two_pow_sub_one_eq_mod a 8
      simpa [Nat.mod_eq_of_lt ha] using this
    rw [this, u8_xor_nat _ _ hs ha]
    simp

set_option maxHeartbeats 800000 in
theorem mul_any (x y : Int) (w : World) (h0 : 0 ≤ x) (h1 : x < 256) (h2 : 0 ≤ y) (h3 : y < 256) :
    Calls Tryz.prog 155 #[.int .u8 x, .int .u8 y] w fun e w' => e = .returned (.int .u8 ((M.mul x.toNat y.toNat : Nat) : Int)) ∧ w' = w := by
  go_enter Tryz.func155, Tryz.ntmps155
  go_wp2
  go_loop [0, 1, 5, 6] (fun ta tb ts ti => ∃ k s a b : Nat, k ≤ 8 ∧ s < 256 ∧ a < 256 ∧ b < 256 ∧ Hid (M.mulGo (8 - k) s a b = M.mul x.toNat y.toNat) ∧ ta = .int .u8 a ∧ tb = .int .u8 b ∧ ts = .int .u8 s ∧ ti = .int .i64 k) (fun _ _ _ ti => 8 - (intOf ti).toNat)
  case atStart =>
    obtain ⟨m, rfl⟩ := Int.eq_ofNat_of_zero_le h0
    obtain ⟨n, rfl⟩ := Int.eq_ofNat_of_zero_le h2
    exact ⟨0, 0, m, n, by omega, by omega, by omega, by omega, rfl, rfl, rfl, rfl, rfl⟩
  case round =>
    obtain ⟨k, s, a, b, hk, hs, ha, hb, HM, rfl, rfl, rfl, rfl⟩ := hrel
    by_cases hlt : k < 8
    · have hb1 := and_one b hb
      go_wp2_with (first | (go_at_call 170; refine (mask_any _ _).mono ?_; rintro e w' ⟨rfl, rfl⟩) | (go_at_call 171; refine (double_any _ _ (by omega) (by omega)).mono ?_; rintro e w' ⟨rfl, rfl⟩))
      go_round
      case rel =>
        refine ⟨k + 1, s ^^^ (if b % 2 = 1 then a else 0), M.dbl a, b / 2, by omega, ?_, M.dbl_lt a, by omega, ?_, rfl, by go_num, ?_, by go_num⟩
        · exact Nat.xor_lt_two_pow (n := 8) (by omega) (by split <;> omega)
        · have h := HM.out
          rw [show 8 - k = (8 - (k + 1)) + 1 from by omega] at h
          exact h
        · have h := mul_step s a b hs ha
          rw [show (((b % 2 : Nat) : Int)) = (b : Int) % 2 from by omega] at h
          rw [h]
      case measure => simp [intOf]; omega
    · go_wp2
      go_ret
      have h := HM.out
      rw [show 8 - k = 0 from by omega] at h
      exact ⟨ret_int (by rw [← h]; rfl), rfl⟩
end Go.Proofs.YtfjlpifaaknmpaaGreat

/- Plain mathematics: the product of polynomials and its rest, as the document's own answer reckons it, is the product of the field. -/
set_option maxRecDepth 100000
namespace Go.Proofs.YtfjlpifaaknmpaaGreat.M

/-- The product of two polynomials, behind k rounds. -/
def cl : Nat → Nat → Nat → Nat
  | 0, _, _ => 0
  | k + 1, a, b => cl k a b ^^^ (if b / 2 ^ k % 2 = 1 then a * 2 ^ k else 0)

/-- One step of the rest by 11d. -/
def rs (i p : Nat) : Nat := p ^^^ (if p / 2 ^ i % 2 = 1 then 285 * 2 ^ (i - 8) else 0)

def dblN : Nat → Nat → Nat
  | 0, a => a
  | k + 1, a => dbl (dblN k a)

/-- The field's product, behind k rounds. -/
def ms : Nat → Nat → Nat → Nat
  | 0, _, _ => 0
  | k + 1, a, b => ms k a b ^^^ (if b / 2 ^ k % 2 = 1 then dblN k a else 0)

theorem shift_lt : ∀ k, k < 8 → ∀ a, a < 256 → a * 2 ^ k < 32768 := by
  intro k hk a ha
  have h2 : 2 ^ k ≤ 2 ^ 7 := Nat.pow_le_pow_right (by decide) (by omega)
  have : a * 2 ^ k ≤ 255 * 2 ^ 7 := Nat.mul_le_mul (by omega) h2
  omega

theorem xor_lt15 {a b : Nat} (ha : a < 32768) (hb : b < 32768) : a ^^^ b < 32768 := Nat.xor_lt_two_pow (n := 15) ha hb

theorem cl_lt {a : Nat} (b : Nat) (ha : a < 256) : ∀ k, k ≤ 8 → cl k a b < 32768
  | 0, _ => Nat.zero_lt_succ _
  | k + 1, h => xor_lt15 (cl_lt b ha k (by omega)) (by split <;> first | exact shift_lt k (by omega) a ha | omega)

end Go.Proofs.YtfjlpifaaknmpaaGreat.M

/- Contracts of package hayrickref01: the document's own answers, as plain functions. -/
set_option maxRecDepth 100000
namespace Go.Proofs.YtfjlpifaaknmpaaGreat
open Go.RowKit

theorem wrap_small (n : Int) (h0 : 0 ≤ n) (h1 : n < 32768) : wrap64 n = n := by unfold wrap64; omega

end Go.Proofs.YtfjlpifaaknmpaaGreat

/- Plain mathematics of square matrices over the field of 256 numbers: products, row operations, inverses. No text of the program is named here. -/
set_option maxRecDepth 100000
namespace Go.Proofs.YtfjlpifaaknmpaaGreat.MX
open Go.Proofs.YtfjlpifaaknmpaaGreat

/-- The sum of the first n of f's numbers. -/
def xs (f : Nat → Nat) : Nat → Nat
  | 0 => 0
  | k + 1 => xs f k ^^^ f k

theorem xs_lt {f : Nat → Nat} : ∀ {n : Nat}, (∀ j, j < n → f j < 256) → xs f n < 256
  | 0, _ => by simp [xs]
  | n + 1, h => M.xor_lt (xs_lt fun j hj => h j (by omega)) (h n (by omega))

theorem xs_congr {f g : Nat → Nat} : ∀ {n : Nat}, (∀ j, j < n → f j = g j) → xs f n = xs g n
  | 0, _ => rfl
  | n + 1, h => by
    show xs f n ^^^ f n = xs g n ^^^ g n
    rw [xs_congr (fun j hj => h j (by omega)), h n (by omega)]

theorem xor4 (a b c d : Nat) : (a ^^^ b) ^^^ (c ^^^ d) = (a ^^^ c) ^^^ (b ^^^ d) := by
  rw [Nat.xor_assoc, Nat.xor_assoc, ← Nat.xor_assoc b c d, Nat.xor_comm b c, Nat.xor_assoc c b d]

theorem xs_xor (f g : Nat → Nat) : ∀ n, xs f n ^^^ xs g n = xs (fun j => f j ^^^ g j) n
  | 0 => Nat.xor_self 0
  | n + 1 => by
    show (xs f n ^^^ f n) ^^^ (xs g n ^^^ g n) = xs (fun j => f j ^^^ g j) n ^^^ (f n ^^^ g n)
    rw [xor4, xs_xor f g n]

theorem xs_zero : ∀ n, xs (fun _ => 0) n = 0
  | 0 => rfl
  | n + 1 => by show xs (fun _ => 0) n ^^^ 0 = 0; rw [xs_zero n, Nat.xor_self]

theorem xs_swap (F : Nat → Nat → Nat) (m : Nat) : ∀ n, xs (fun p => xs (fun j => F p j) m) n = xs (fun j => xs (fun p => F p j) n) m
  | 0 => by
    show 0 = xs (fun _ => 0) m
    rw [xs_zero]
  | n + 1 => by
    show xs (fun p => xs (fun j => F p j) m) n ^^^ xs (fun j => F n j) m = _
    rw [xs_swap F m n, xs_xor]
    rfl

theorem xs_mul {f : Nat → Nat} (b : Nat) : ∀ {n : Nat}, (∀ j, j < n → f j < 256) → M.mul (xs f n) b = xs (fun j => M.mul (f j) b) n
  | 0, _ => M.zero_mul b
  | n + 1, h => by
    show M.mul (xs f n ^^^ f n) b = xs (fun j => M.mul (f j) b) n ^^^ M.mul (f n) b
    rw [M.mul_xor b (xs_lt fun j hj => h j (by omega)) (h n (by omega)), xs_mul b (fun j hj => h j (by omega))]

theorem mul_xor_right {a b c : Nat} (ha : a < 256) (hb : b < 256) (hc : c < 256) : M.mul a (b ^^^ c) = M.mul a b ^^^ M.mul a c := by
  rw [M.mul_comm ha (M.xor_lt hb hc), M.mul_xor a hb hc, M.mul_comm hb ha, M.mul_comm hc ha]

theorem mul_xs {f : Nat → Nat} {a : Nat} (ha : a < 256) {n : Nat} (h : ∀ j, j < n → f j < 256) : M.mul a (xs f n) = xs (fun j => M.mul a (f j)) n := by
  rw [M.mul_comm ha (xs_lt h), xs_mul a h]
  exact xs_congr fun j hj => M.mul_comm (h j hj) ha

/-- A sum with one number that counts. -/
theorem xs_one {f : Nat → Nat} {p : Nat} : ∀ {n : Nat}, p < n → (∀ j, j < n → j ≠ p → f j = 0) → xs f n = f p
  | n + 1, hp, h => by
    show xs f n ^^^ f n = f p
    by_cases e : p = n
    · subst e
      have : xs f p = xs (fun _ => 0) p := xs_congr fun j hj => h j (by omega) (by omega)
      rw [this, xs_zero, Nat.zero_xor]
    · rw [xs_one (by omega) (fun j hj hne => h j (by omega) hne), h n (by omega) (fun e' => e e'.symm), Nat.xor_zero]

/-! ## Matrices as functions -/

def Small (n m : Nat) (a : Nat → Nat → Nat) : Prop := ∀ i j, i < n → j < m → a i j < 256
def Eq2 (n m : Nat) (a b : Nat → Nat → Nat) : Prop := ∀ i j, i < n → j < m → a i j = b i j
def mm (k : Nat) (a b : Nat → Nat → Nat) : Nat → Nat → Nat := fun i j => xs (fun t => M.mul (a i t) (b t j)) k
def one : Nat → Nat → Nat := fun i j => if i = j then 1 else 0

theorem Eq2.refl (n m : Nat) (a : Nat → Nat → Nat) : Eq2 n m a a := fun _ _ _ _ => rfl
theorem Eq2.symm {n m : Nat} {a b : Nat → Nat → Nat} (h : Eq2 n m a b) : Eq2 n m b a := fun i j hi hj => (h i j hi hj).symm
theorem Eq2.trans {n m : Nat} {a b c : Nat → Nat → Nat} (h : Eq2 n m a b) (k : Eq2 n m b c) : Eq2 n m a c := fun i j hi hj => (h i j hi hj).trans (k i j hi hj)

theorem one_small (n m : Nat) : Small n m one := fun i j _ _ => by unfold one; split <;> decide
theorem mm_small {n k m : Nat} {a : Nat → Nat → Nat} (b : Nat → Nat → Nat) (ha : Small n k a) : Small n m (mm k a b) := fun i _ hi _ => xs_lt fun t ht => M.mul_lt _ (ha i t hi ht)
theorem mm_congr {n k m : Nat} {a a' b b' : Nat → Nat → Nat} (ha : Eq2 n k a a') (hb : Eq2 k m b b') : Eq2 n m (mm k a b) (mm k a' b') := fun i j hi hj =>
  xs_congr fun t ht => by rw [ha i t hi ht, hb t j ht hj]

/-- A product does not hang on brackets. -/
theorem mm_assoc {n k l m : Nat} {a b c : Nat → Nat → Nat} (ha : Small n k a) (hb : Small k l b) (hc : Small l m c) : Eq2 n m (mm l (mm k a b) c) (mm k a (mm l b c)) := fun i j hi hj => by
  show xs (fun t => M.mul (xs (fun s => M.mul (a i s) (b s t)) k) (c t j)) l = xs (fun s => M.mul (a i s) (xs (fun t => M.mul (b s t) (c t j)) l)) k
  have e1 : xs (fun t => M.mul (xs (fun s => M.mul (a i s) (b s t)) k) (c t j)) l = xs (fun t => xs (fun s => M.mul (M.mul (a i s) (b s t)) (c t j)) k) l :=
    xs_congr fun t ht => xs_mul _ fun s hs => M.mul_lt _ (ha i s hi hs)
  rw [e1, xs_swap]
  refine xs_congr fun s hs => ?_
  rw [mul_xs (ha i s hi hs) fun t ht => M.mul_lt _ (hb s t hs ht)]
  exact xs_congr fun t ht => M.mul_assoc (ha i s hi hs) (hb s t hs ht) (hc t j ht hj)

theorem mm_one {n k : Nat} {a : Nat → Nat → Nat} (ha : Small n k a) : Eq2 n k (mm k a one) a := fun i j hi hj => by
  show xs (fun t => M.mul (a i t) (one t j)) k = a i j
  rw [xs_one hj fun t _ hne => by unfold one; rw [if_neg hne, M.mul_zero]]
  unfold one
  rw [if_pos rfl, M.mul_one (ha i j hi hj)]

theorem one_mm {n k : Nat} {a : Nat → Nat → Nat} (ha : Small n k a) : Eq2 n k (mm n one a) a := fun i j hi hj => by
  show xs (fun t => M.mul (one i t) (a t j)) n = a i j
  rw [xs_one hi fun t _ hne => by unfold one; rw [if_neg (fun e => hne e.symm), M.zero_mul]]
  unfold one
  rw [if_pos rfl, M.one_mul (ha i j hi hj)]

/-! ## Inverses -/

/-- b undoes a, from both sides. -/
structure Inv (n : Nat) (a b : Nat → Nat → Nat) : Prop where
  sa : Small n n a
  sb : Small n n b
  l : Eq2 n n (mm n b a) one
  r : Eq2 n n (mm n a b) one

theorem Inv.symm {n : Nat} {a b : Nat → Nat → Nat} (h : Inv n a b) : Inv n b a := ⟨h.sb, h.sa, h.r, h.l⟩
theorem Inv.one (n : Nat) : Inv n MX.one MX.one := ⟨one_small n n, one_small n n, mm_one (one_small n n), mm_one (one_small n n)⟩

theorem Inv.mul {n : Nat} {a b c d : Nat → Nat → Nat} (h : Inv n a b) (k : Inv n c d) : Inv n (mm n a c) (mm n d b) := by
  have key : ∀ {a b c d : Nat → Nat → Nat}, Inv n a b → Inv n c d → Eq2 n n (mm n (mm n d b) (mm n a c)) MX.one := fun {a b c d} h k => by
    refine (mm_assoc k.sb h.sb (mm_small c h.sa)).trans ?_
    have e1 : Eq2 n n (mm n b (mm n a c)) c := ((mm_assoc h.sb h.sa k.sa).symm.trans (mm_congr h.l (Eq2.refl n n c))).trans (one_mm k.sa)
    exact (mm_congr (Eq2.refl n n d) e1).trans k.l
  exact ⟨mm_small c h.sa, mm_small b k.sb, key h k, key k.symm h.symm⟩

/-- What stands while rows are struck by rows: b m = a, and b can be undone. -/
structure Struck (n : Nat) (m a b : Nat → Nat → Nat) : Prop where
  sm : Small n n m
  sa : Small n n a
  eq : Eq2 n n (mm n b m) a
  inv : ∃ c, Inv n b c

theorem Struck.start {n : Nat} {m : Nat → Nat → Nat} (h : Small n n m) : Struck n m m MX.one := ⟨h, h, one_mm h, MX.one, Inv.one n⟩

/-- One step: both are multiplied from the left by something that can be undone. -/
theorem Struck.step {n : Nat} {m a b a' b' e f : Nat → Nat → Nat} (h : Struck n m a b) (he : Inv n e f) (ha : Eq2 n n a' (mm n e a)) (hb : Eq2 n n b' (mm n e b)) : Struck n m a' b' := by
  obtain ⟨sm, sa, eq, c, hi⟩ := h
  have sb' : Small n n b' := fun i j hi' hj => by rw [hb i j hi' hj]; exact mm_small b he.sa i j hi' hj
  have hi' := he.mul hi
  refine ⟨sm, fun i j hi' hj => by rw [ha i j hi' hj]; exact mm_small a he.sa i j hi' hj, ?_, mm n c f, ⟨sb', hi'.sb, ?_, ?_⟩⟩
  · exact (((mm_congr hb (Eq2.refl n n m)).trans (mm_assoc he.sa hi.sa sm)).trans (mm_congr (Eq2.refl n n e) eq)).trans ha.symm
  · exact (mm_congr (Eq2.refl n n _) hb).trans hi'.l
  · exact (mm_congr hb (Eq2.refl n n _)).trans hi'.r

/-- When nothing is left to strike b is the inverse. -/
theorem Struck.done {n : Nat} {m a b : Nat → Nat → Nat} (h : Struck n m a b) (ha : Eq2 n n a MX.one) : Inv n m b := by
  obtain ⟨sm, sa, eq, c, hi⟩ := h
  have l : Eq2 n n (mm n b m) MX.one := eq.trans ha
  have e : Eq2 n n m c := by
    have e1 : Eq2 n n (mm n (mm n c b) m) m := (mm_congr hi.l (Eq2.refl n n m)).trans (one_mm sm)
    have e2 : Eq2 n n (mm n c (mm n b m)) c := (mm_congr (Eq2.refl n n c) l).trans (mm_one hi.sb)
    exact (e1.symm.trans (mm_assoc hi.sb hi.sa sm)).trans e2
  exact ⟨sm, hi.sa, l, (mm_congr e (Eq2.refl n n b)).trans hi.l⟩

/-- A column that hangs on those before it: then there is no inverse. -/
theorem Struck.none {n : Nat} {m a b : Nat → Nat → Nat} (h : Struck n m a b) {i : Nat} (hi : i < n) (low : ∀ k j, k < n → j < i → a k j = MX.one k j) (nought : ∀ k, i ≤ k → k < n → a k i = 0) :
    ¬ ∃ c, Small n n c ∧ Eq2 n n (mm n c m) MX.one := by
  rintro ⟨c, sc, hc⟩
  obtain ⟨sm, sa, eq, d, hb⟩ := h
  -- a x = 0 for x = (a 0 i, .., a (i-1) i, 1, 0, ..)
  let x : Nat → Nat → Nat := fun j _ => if j < i then a j i else if j = i then 1 else 0
  have sx : Small n 1 x := fun j _ hj _ => by
    show (if j < i then a j i else if j = i then 1 else 0) < 256
    split
    · exact sa j i hj hi
    · split <;> decide
  have ax : Eq2 n 1 (mm n a x) (fun _ _ => 0) := fun k j hk hj => by
    show xs (fun t => M.mul (a k t) (x t j)) n = 0
    have split1 : xs (fun t => M.mul (a k t) (x t j)) n = xs (fun t => (if t < i then M.mul (MX.one k t) (a t i) else 0) ^^^ (if t = i then a k i else 0)) n := xs_congr fun t ht => by
      show M.mul (a k t) (if t < i then a t i else if t = i then 1 else 0) = _
      by_cases h1 : t < i
      · have h2 : ¬ t = i := by omega
        simp only [if_pos h1, if_neg h2, Nat.xor_zero]
        rw [low k t hk h1]
      · by_cases h2 : t = i
        · subst h2
          simp only [if_neg h1, if_true, Nat.zero_xor]
          exact M.mul_one (sa k t hk ht)
        · simp only [if_neg h1, if_neg h2, Nat.xor_zero]
          exact M.mul_zero _
    rw [split1, ← xs_xor (fun t => if t < i then M.mul (MX.one k t) (a t i) else 0) (fun t => if t = i then a k i else 0)]
    have e2 : xs (fun t => if t = i then a k i else 0) n = a k i := by
      rw [xs_one hi fun t _ hne => if_neg hne, if_pos rfl]
    rw [e2]
    by_cases hki : k < i
    · have e1 : xs (fun t => if t < i then M.mul (MX.one k t) (a t i) else 0) n = a k i := by
        rw [xs_one hk fun t _ hne => by
          by_cases h1 : t < i
          · rw [if_pos h1]; unfold MX.one; rw [if_neg (fun e => hne e.symm), M.zero_mul]
          · exact if_neg h1]
        rw [if_pos hki]
        unfold MX.one
        rw [if_pos rfl, M.one_mul (sa k i hk hi)]
      rw [e1, Nat.xor_self]
    · have e1 : xs (fun t => if t < i then M.mul (MX.one k t) (a t i) else 0) n = xs (fun _ => 0) n := xs_congr fun t _ => by
        by_cases h1 : t < i
        · rw [if_pos h1]; unfold MX.one; rw [if_neg (by omega), M.zero_mul]
        · exact if_neg h1
      rw [e1, xs_zero, nought k (by omega) hk, Nat.xor_self]
  -- so m x = 0, so x = c m x = 0
  have mx : Eq2 n 1 (mm n m x) (fun _ _ => 0) := by
    have e1 : Eq2 n n (mm n d a) m := ((mm_congr (Eq2.refl n n d) eq.symm).trans (mm_assoc hb.sb hb.sa sm).symm).trans ((mm_congr hb.l (Eq2.refl n n m)).trans (one_mm sm))
    have e2 : Eq2 n 1 (mm n m x) (mm n d (mm n a x)) := (mm_congr e1.symm (Eq2.refl n 1 x)).trans (mm_assoc hb.sb sa sx)
    refine e2.trans ((mm_congr (Eq2.refl n n d) ax).trans fun k j hk hj => ?_)
    show xs (fun t => M.mul (d k t) 0) n = 0
    rw [xs_congr (g := fun _ => 0) fun t _ => M.mul_zero _, xs_zero]
  have cx : Eq2 n 1 x (fun _ _ => 0) := by
    have e1 : Eq2 n 1 (mm n (mm n c m) x) x := (mm_congr hc (Eq2.refl n 1 x)).trans (one_mm sx)
    refine (e1.symm.trans (mm_assoc sc sm sx)).trans ((mm_congr (Eq2.refl n n c) mx).trans fun k j hk hj => ?_)
    show xs (fun t => M.mul (c k t) 0) n = 0
    rw [xs_congr (g := fun _ => 0) fun t _ => M.mul_zero _, xs_zero]
  have := cx i 0 hi (by decide)
  simp [x] at this

/-! ## Row operations -/

/-- Row k, and y times row s. -/
def strikeE (k s y : Nat) : Nat → Nat → Nat := fun i j => if i = j then 1 else if i = k ∧ j = s then y else 0
theorem strike_mm {n k s y : Nat} {a : Nat → Nat → Nat} {m : Nat} (ha : Small n m a) (hk : k < n) (hs : s < n) (hks : k ≠ s) :
    Eq2 n m (mm n (strikeE k s y) a) (fun i j => if i = k then a k j ^^^ M.mul y (a s j) else a i j) := fun i j hi hj => by
  show xs (fun t => M.mul (strikeE k s y i t) (a t j)) n = _
  by_cases e : i = k
  · subst e
    simp only [if_true]
    have e1 : xs (fun t => M.mul (strikeE i s y i t) (a t j)) n = xs (fun t => (if t = i then a i j else 0) ^^^ (if t = s then M.mul y (a s j) else 0)) n := xs_congr fun t ht => by
      unfold strikeE
      by_cases h1 : t = i
      · subst h1
        simp only [if_true, if_neg hks, Nat.xor_zero]
        exact M.one_mul (ha t j ht hj)
      · have h1' : ¬ i = t := fun e => h1 e.symm
        by_cases h2 : t = s
        · subst h2
          simp only [if_neg h1, if_neg h1', true_and, if_true, Nat.zero_xor]
        · simp only [if_neg h1, if_neg h1', h2, and_false, if_false, Nat.xor_zero]
          exact M.zero_mul _
    rw [e1, ← xs_xor (fun t => if t = i then a i j else 0) (fun t => if t = s then M.mul y (a s j) else 0), xs_one hi fun t _ hne => if_neg hne, xs_one hs fun t _ hne => if_neg hne, if_pos rfl, if_pos rfl]
  · simp only [if_neg e]
    rw [xs_one hi fun t _ hne => by unfold strikeE; rw [if_neg (fun e' => hne e'.symm), if_neg (fun h => e h.1), M.zero_mul]]
    unfold strikeE
    rw [if_pos rfl, M.one_mul (ha i j hi hj)]
theorem strike_small {n k s y : Nat} (hy : y < 256) : Small n n (strikeE k s y) := fun i j _ _ => by
  unfold strikeE
  split
  · decide
  · split
    · exact hy
    · decide
theorem strike_inv {n k s y : Nat} (hy : y < 256) (hk : k < n) (hs : s < n) (hks : k ≠ s) : Inv n (strikeE k s y) (strikeE k s y) := by
  have h : Eq2 n n (mm n (strikeE k s y) (strikeE k s y)) MX.one := (strike_mm (strike_small hy) hk hs hks).trans fun i j hi hj => by
    by_cases e : i = k
    · subst e
      simp only [if_true]
      unfold strikeE MX.one
      by_cases h1 : i = j
      · subst h1
        have h2 : ¬ s = i := fun e => hks e.symm
        simp only [if_true, if_neg h2]
        rw [if_neg (fun h => h2 h.1), M.mul_zero, Nat.xor_zero]
      · by_cases h2 : s = j
        · subst h2
          have h3 : ¬ s = i := fun e => hks e.symm
          simp only [if_neg h1, and_true, if_true]
          rw [M.mul_one hy, Nat.xor_self]
        · have h3 : ¬ j = s := fun e => h2 e.symm
          have h4 : ¬ s = i := fun e => hks e.symm
          simp only [if_neg h1, if_neg h2, h3, h4, and_false, if_false, Nat.zero_xor]
          exact M.mul_zero y
    · simp only [if_neg e]
      unfold strikeE MX.one
      by_cases h1 : i = j
      · simp only [if_pos h1]
      · simp only [if_neg h1, e, false_and, if_false]
  exact ⟨strike_small hy, strike_small hy, h, h⟩

/-- Row k times x. -/
def scaleE (k x : Nat) : Nat → Nat → Nat := fun i j => if i = j then (if i = k then x else 1) else 0
theorem scale_mm {n k x : Nat} {a : Nat → Nat → Nat} {m : Nat} (ha : Small n m a) : Eq2 n m (mm n (scaleE k x) a) (fun i j => if i = k then M.mul x (a k j) else a i j) := fun i j hi hj => by
  show xs (fun t => M.mul (scaleE k x i t) (a t j)) n = _
  rw [xs_one hi fun t _ hne => by unfold scaleE; rw [if_neg (fun e' => hne e'.symm), M.zero_mul]]
  unfold scaleE
  rw [if_pos rfl]
  by_cases e : i = k
  · subst e; simp only [if_true]
  · simp only [if_neg e]
    exact M.one_mul (ha i j hi hj)
theorem scale_small {n k x : Nat} (hx : x < 256) : Small n n (scaleE k x) := fun i j _ _ => by
  unfold scaleE
  split
  · split
    · exact hx
    · decide
  · decide
theorem scale_inv {n k x y : Nat} (hx : x < 256) (hy : y < 256) (h : M.mul x y = 1) : Inv n (scaleE k x) (scaleE k y) := by
  have key : ∀ {x y : Nat}, x < 256 → y < 256 → M.mul x y = 1 → Eq2 n n (mm n (scaleE k x) (scaleE k y)) MX.one := fun {x y} hx hy h => (scale_mm (scale_small hy)).trans fun i j hi hj => by
    unfold scaleE MX.one
    by_cases e : i = k
    · subst e
      by_cases h1 : i = j
      · subst h1; simp only [if_true]; exact h
      · simp only [if_true, if_neg h1]; exact M.mul_zero x
    · by_cases h1 : i = j
      · simp only [if_neg e, if_pos h1]
      · simp only [if_neg e, if_neg h1]
  exact ⟨scale_small hx, scale_small hy, key hy hx (by rw [M.mul_comm hy hx]; exact h), key hx hy h⟩

/-- Rows k and s change places. -/
def swapE (k s : Nat) : Nat → Nat → Nat := fun i j => if j = (if i = k then s else if i = s then k else i) then 1 else 0
theorem swap_mm {n k s : Nat} {a : Nat → Nat → Nat} {m : Nat} (ha : Small n m a) (hk : k < n) (hs : s < n) :
    Eq2 n m (mm n (swapE k s) a) (fun i j => a (if i = k then s else if i = s then k else i) j) := fun i j hi hj => by
  have hp : (if i = k then s else if i = s then k else i) < n := by
    split
    · exact hs
    · split
      · exact hk
      · exact hi
  show xs (fun t => M.mul (swapE k s i t) (a t j)) n = _
  rw [xs_one hp fun t _ hne => by unfold swapE; rw [if_neg hne, M.zero_mul]]
  unfold swapE
  rw [if_pos rfl, M.one_mul (ha _ j hp hj)]
theorem swap_small {n k s : Nat} : Small n n (swapE k s) := fun i j _ _ => by
  unfold swapE
  by_cases h : j = (if i = k then s else if i = s then k else i)
  · rw [if_pos h]; decide
  · rw [if_neg h]; decide
theorem swap_inv {n k s : Nat} (hk : k < n) (hs : s < n) : Inv n (swapE k s) (swapE k s) := by
  have h : Eq2 n n (mm n (swapE k s) (swapE k s)) MX.one := (swap_mm swap_small hk hs).trans fun i j hi hj => by
    unfold swapE MX.one
    by_cases h1 : i = k
    · by_cases h2 : s = k
      · subst h2; subst h1; simp [eq_comm]
      · subst h1; simp [h2, eq_comm]
    · by_cases h2 : i = s
      · subst h2; simp [h1, eq_comm]
      · simp [h1, h2, eq_comm]
  exact ⟨swap_small, swap_small, h, h⟩

/-! ## The first i columns are the identity's -/

def Low (n i : Nat) (a : Nat → Nat → Nat) : Prop := ∀ k j, k < n → j < i → a k j = MX.one k j

theorem Low.zero (n : Nat) (a : Nat → Nat → Nat) : Low n 0 a := fun _ _ _ h => by omega
theorem Low.nought {n i s j : Nat} {a : Nat → Nat → Nat} (h : Low n i a) (hs : s < n) (his : i ≤ s) (hj : j < i) : a s j = 0 := by
  rw [h s j hs hj]
  unfold MX.one
  rw [if_neg (by omega)]
theorem Low.strike {n i k s y : Nat} {a : Nat → Nat → Nat} (h : Low n i a) (hs : s < n) (his : i ≤ s) : Low n i (fun r j => if r = k then a k j ^^^ M.mul y (a s j) else a r j) := fun r j hr hj => by
  by_cases e : r = k
  · subst e
    simp only [if_true]
    rw [h.nought hs his hj, M.mul_zero, Nat.xor_zero]
    exact h r j hr hj
  · simp only [if_neg e]
    exact h r j hr hj
theorem Low.scale {n i k x : Nat} {a : Nat → Nat → Nat} (h : Low n i a) (hik : i ≤ k) : Low n i (fun r j => if r = k then M.mul x (a k j) else a r j) := fun r j hr hj => by
  by_cases e : r = k
  · subst e
    simp only [if_true]
    rw [h.nought hr hik hj, M.mul_zero]
    unfold MX.one
    rw [if_neg (by omega)]
  · simp only [if_neg e]
    exact h r j hr hj
theorem Low.swap {n i k s : Nat} {a : Nat → Nat → Nat} (h : Low n i a) (hk : k < n) (hs : s < n) (hik : i ≤ k) (his : i ≤ s) : Low n i (fun r j => a (if r = k then s else if r = s then k else r) j) := fun r j hr hj => by
  have one0 : ∀ t, i ≤ t → MX.one t j = 0 := fun t ht => by unfold MX.one; rw [if_neg (by omega)]
  by_cases e : r = k
  · subst e
    simp only [if_true]
    rw [h.nought hs his hj, one0 r hik]
  · by_cases e2 : r = s
    · subst e2
      simp only [if_neg e, if_true]
      rw [h.nought hk hik hj, one0 r his]
    · simp only [if_neg e, if_neg e2]
      exact h r j hr hj
theorem Low.next {n i : Nat} {a : Nat → Nat → Nat} (h : Low n i a) (hc : ∀ k, k < n → a k i = MX.one k i) : Low n (i + 1) a := fun k j hk hj => by
  by_cases e : j = i
  · subst e; exact hc k hk
  · exact h k j hk (by omega)
theorem Low.all {n : Nat} {a : Nat → Nat → Nat} (h : Low n n a) : Eq2 n n a MX.one := fun i j hi hj => h i j hi hj

/-- A row struck by another one, in both matrices. -/
theorem Struck.strike {n k s y : Nat} {m a b : Nat → Nat → Nat} (h : Struck n m a b) (hy : y < 256) (hk : k < n) (hs : s < n) (hks : k ≠ s) :
    Struck n m (fun i j => if i = k then a k j ^^^ M.mul y (a s j) else a i j) (fun i j => if i = k then b k j ^^^ M.mul y (b s j) else b i j) :=
  h.step (strike_inv hy hk hs hks) (strike_mm h.sa hk hs hks).symm (strike_mm (by obtain ⟨c, hc⟩ := h.inv; exact hc.sa) hk hs hks).symm
theorem Struck.scale {n k x y : Nat} {m a b : Nat → Nat → Nat} (h : Struck n m a b) (hx : x < 256) (hy : y < 256) (hxy : M.mul x y = 1) :
    Struck n m (fun i j => if i = k then M.mul x (a k j) else a i j) (fun i j => if i = k then M.mul x (b k j) else b i j) :=
  h.step (scale_inv hx hy hxy) (scale_mm h.sa).symm (scale_mm (by obtain ⟨c, hc⟩ := h.inv; exact hc.sa)).symm
theorem Struck.swap {n k s : Nat} {m a b : Nat → Nat → Nat} (h : Struck n m a b) (hk : k < n) (hs : s < n) :
    Struck n m (fun i j => a (if i = k then s else if i = s then k else i) j) (fun i j => b (if i = k then s else if i = s then k else i) j) :=
  h.step (swap_inv hk hs) (swap_mm h.sa hk hs).symm (swap_mm (by obtain ⟨c, hc⟩ := h.inv; exact hc.sa) hk hs).symm

end Go.Proofs.YtfjlpifaaknmpaaGreat.MX

/- Contracts of package hayrickref03: the document's own answers on matrices. -/
set_option maxRecDepth 100000
namespace Go.Proofs.YtfjlpifaaknmpaaGreat
open Go.RowKit

/-- The first k rows have n numbers each, and n may be. -/
def mayTo (X : List (List Nat)) (n k : Nat) : Bool := decide (1 ≤ n) && (decide (n ≤ 255) && (List.range k).all fun j => (X.getD j []).length == n)
def mayB (X : List (List Nat)) : Bool := decide (1 ≤ X.length) && (decide (X.length ≤ 255) && mayTo X (X.getD 0 []).length X.length)

theorem list_ext {X Y : List (List Nat)} (hl : X.length = Y.length) (h : ∀ j, j < X.length → X.getD j [] = Y.getD j []) : X = Y := by
  apply List.ext_getElem hl
  intro i h1 h2
  have := h i h1
  simpa [List.getD, h1, h2] using this

/-- The first k places told by f, the others as they were. -/
def mix (f : Nat → Nat) (xs : List Nat) (k : Nat) : List Nat := (List.range xs.length).map fun j => if j < k then f j else xs.getD j 0
theorem mix_len (f : Nat → Nat) (xs : List Nat) (k : Nat) : (mix f xs k).length = xs.length := by simp [mix]
theorem mix_get (f : Nat → Nat) (xs : List Nat) (k : Nat) (h : k < xs.length) : (mix f xs k).getD k 0 = xs.getD k 0 := by simp [mix, List.getD, h]
theorem mix_zero (f : Nat → Nat) (xs : List Nat) : mix f xs 0 = xs := by
  apply List.ext_getElem
  · simp [mix]
  · intro i h1 h2
    simp [mix, List.getD, h2]
theorem mix_set (f : Nat → Nat) (xs : List Nat) (k : Nat) : (mix f xs k).set k (f k) = mix f xs (k + 1) := by
  apply List.ext_getElem
  · simp [mix]
  · intro i h1 h2
    have hi : i < xs.length := by simpa [mix] using h2
    by_cases e : k = i
    · subst e; simp [mix]
    · by_cases l : i < k
      · simp [mix, e, l, show i < k + 1 from by omega]
      · simp [mix, e, l, show ¬ i < k + 1 from by omega]
theorem mix_all (f : Nat → Nat) (xs : List Nat) : mix f xs xs.length = (List.range xs.length).map f :=
  List.map_congr_left fun j hj => by simp [List.mem_range.1 hj]

end Go.Proofs.YtfjlpifaaknmpaaGreat

