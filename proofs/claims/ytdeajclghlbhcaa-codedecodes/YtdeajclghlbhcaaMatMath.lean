/- Plain mathematics of square matrices over the field of 256 numbers: products, row operations, inverses. No text of the program is named here. -/
import Derived.Test.YtdeajclghlbhcaaMath
namespace Go.Proofs.Ytdeajclghlbhcaa.MX
open Go.Proofs.Ytdeajclghlbhcaa

/-- The sum of the first n of f's numbers. -/
def xs (f : Nat → Nat) : Nat → Nat
  | 0 => 0
  | k + 1 => xs f k ^^^ f k

theorem xs_lt {f : Nat → Nat} : ∀ {n : Nat}, (∀ j, j < n → f j < 256) → xs f n < 256
  | 0, _ => by simp [xs]
  | n + 1, h => M.xor_lt (xs_lt fun j hj => h j (by omega)) (h n (by omega))

theorem xs_congr {f g : Nat → Nat} : ∀ {n : Nat}, (∀ j, j < n → f j = g j) → xs f n = xs g n
  | 0, _ => rfl
  | n + 1, h => by
    show xs f n ^^^ f n = xs g n ^^^ g n
    rw [xs_congr (fun j hj => h j (by omega)), h n (by omega)]

theorem xor4 (a b c d : Nat) : (a ^^^ b) ^^^ (c ^^^ d) = (a ^^^ c) ^^^ (b ^^^ d) := by
  rw [Nat.xor_assoc, Nat.xor_assoc, ← Nat.xor_assoc b c d, Nat.xor_comm b c, Nat.xor_assoc c b d]

theorem xs_xor (f g : Nat → Nat) : ∀ n, xs f n ^^^ xs g n = xs (fun j => f j ^^^ g j) n
  | 0 => Nat.xor_self 0
  | n + 1 => by
    show (xs f n ^^^ f n) ^^^ (xs g n ^^^ g n) = xs (fun j => f j ^^^ g j) n ^^^ (f n ^^^ g n)
    rw [xor4, xs_xor f g n]

theorem xs_zero : ∀ n, xs (fun _ => 0) n = 0
  | 0 => rfl
  | n + 1 => by show xs (fun _ => 0) n ^^^ 0 = 0; rw [xs_zero n, Nat.xor_self]

theorem xs_swap (F : Nat → Nat → Nat) (m : Nat) : ∀ n, xs (fun p => xs (fun j => F p j) m) n = xs (fun j => xs (fun p => F p j) n) m
  | 0 => by
    show 0 = xs (fun _ => 0) m
    rw [xs_zero]
  | n + 1 => by
    show xs (fun p => xs (fun j => F p j) m) n ^^^ xs (fun j => F n j) m = _
    rw [xs_swap F m n, xs_xor]
    rfl

theorem xs_mul {f : Nat → Nat} (b : Nat) : ∀ {n : Nat}, (∀ j, j < n → f j < 256) → M.mul (xs f n) b = xs (fun j => M.mul (f j) b) n
  | 0, _ => M.zero_mul b
  | n + 1, h => by
    show M.mul (xs f n ^^^ f n) b = xs (fun j => M.mul (f j) b) n ^^^ M.mul (f n) b
    rw [M.mul_xor b (xs_lt fun j hj => h j (by omega)) (h n (by omega)), xs_mul b (fun j hj => h j (by omega))]

theorem mul_xor_right {a b c : Nat} (ha : a < 256) (hb : b < 256) (hc : c < 256) : M.mul a (b ^^^ c) = M.mul a b ^^^ M.mul a c := by
  rw [M.mul_comm ha (M.xor_lt hb hc), M.mul_xor a hb hc, M.mul_comm hb ha, M.mul_comm hc ha]

theorem mul_xs {f : Nat → Nat} {a : Nat} (ha : a < 256) {n : Nat} (h : ∀ j, j < n → f j < 256) : M.mul a (xs f n) = xs (fun j => M.mul a (f j)) n := by
  rw [M.mul_comm ha (xs_lt h), xs_mul a h]
  exact xs_congr fun j hj => M.mul_comm (h j hj) ha

/-- A sum with one number that counts. -/
theorem xs_one {f : Nat → Nat} {p : Nat} : ∀ {n : Nat}, p < n → (∀ j, j < n → j ≠ p → f j = 0) → xs f n = f p
  | n + 1, hp, h => by
    show xs f n ^^^ f n = f p
    by_cases e : p = n
    · subst e
      have : xs f p = xs (fun _ => 0) p := xs_congr fun j hj => h j (by omega) (by omega)
      rw [this, xs_zero, Nat.zero_xor]
    · rw [xs_one (by omega) (fun j hj hne => h j (by omega) hne), h n (by omega) (fun e' => e e'.symm), Nat.xor_zero]

/-! ## Matrices as functions -/

def Small (n m : Nat) (a : Nat → Nat → Nat) : Prop := ∀ i j, i < n → j < m → a i j < 256
def Eq2 (n m : Nat) (a b : Nat → Nat → Nat) : Prop := ∀ i j, i < n → j < m → a i j = b i j
def mm (k : Nat) (a b : Nat → Nat → Nat) : Nat → Nat → Nat := fun i j => xs (fun t => M.mul (a i t) (b t j)) k
def one : Nat → Nat → Nat := fun i j => if i = j then 1 else 0

theorem Eq2.refl (n m : Nat) (a : Nat → Nat → Nat) : Eq2 n m a a := fun _ _ _ _ => rfl
theorem Eq2.symm {n m : Nat} {a b : Nat → Nat → Nat} (h : Eq2 n m a b) : Eq2 n m b a := fun i j hi hj => (h i j hi hj).symm
theorem Eq2.trans {n m : Nat} {a b c : Nat → Nat → Nat} (h : Eq2 n m a b) (k : Eq2 n m b c) : Eq2 n m a c := fun i j hi hj => (h i j hi hj).trans (k i j hi hj)

theorem one_small (n m : Nat) : Small n m one := fun i j _ _ => by unfold one; split <;> decide
theorem mm_small {n k m : Nat} {a : Nat → Nat → Nat} (b : Nat → Nat → Nat) (ha : Small n k a) : Small n m (mm k a b) := fun i _ hi _ => xs_lt fun t ht => M.mul_lt _ (ha i t hi ht)
theorem mm_congr {n k m : Nat} {a a' b b' : Nat → Nat → Nat} (ha : Eq2 n k a a') (hb : Eq2 k m b b') : Eq2 n m (mm k a b) (mm k a' b') := fun i j hi hj =>
  xs_congr fun t ht => by rw [ha i t hi ht, hb t j ht hj]

/-- A product does not hang on brackets. -/
theorem mm_assoc {n k l m : Nat} {a b c : Nat → Nat → Nat} (ha : Small n k a) (hb : Small k l b) (hc : Small l m c) : Eq2 n m (mm l (mm k a b) c) (mm k a (mm l b c)) := fun i j hi hj => by
  show xs (fun t => M.mul (xs (fun s => M.mul (a i s) (b s t)) k) (c t j)) l = xs (fun s => M.mul (a i s) (xs (fun t => M.mul (b s t) (c t j)) l)) k
  have e1 : xs (fun t => M.mul (xs (fun s => M.mul (a i s) (b s t)) k) (c t j)) l = xs (fun t => xs (fun s => M.mul (M.mul (a i s) (b s t)) (c t j)) k) l :=
    xs_congr fun t ht => xs_mul _ fun s hs => M.mul_lt _ (ha i s hi hs)
  rw [e1, xs_swap]
  refine xs_congr fun s hs => ?_
  rw [mul_xs (ha i s hi hs) fun t ht => M.mul_lt _ (hb s t hs ht)]
  exact xs_congr fun t ht => M.mul_assoc (ha i s hi hs) (hb s t hs ht) (hc t j ht hj)

theorem mm_one {n k : Nat} {a : Nat → Nat → Nat} (ha : Small n k a) : Eq2 n k (mm k a one) a := fun i j hi hj => by
  show xs (fun t => M.mul (a i t) (one t j)) k = a i j
  rw [xs_one hj fun t _ hne => by unfold one; rw [if_neg hne, M.mul_zero]]
  unfold one
  rw [if_pos rfl, M.mul_one (ha i j hi hj)]

theorem one_mm {n k : Nat} {a : Nat → Nat → Nat} (ha : Small n k a) : Eq2 n k (mm n one a) a := fun i j hi hj => by
  show xs (fun t => M.mul (one i t) (a t j)) n = a i j
  rw [xs_one hi fun t _ hne => by unfold one; rw [if_neg (fun e => hne e.symm), M.zero_mul]]
  unfold one
  rw [if_pos rfl, M.one_mul (ha i j hi hj)]

/-! ## Inverses -/

/-- b undoes a, from both sides. -/
structure Inv (n : Nat) (a b : Nat → Nat → Nat) : Prop where
  sa : Small n n a
  sb : Small n n b
  l : Eq2 n n (mm n b a) one
  r : Eq2 n n (mm n a b) one

theorem Inv.symm {n : Nat} {a b : Nat → Nat → Nat} (h : Inv n a b) : Inv n b a := ⟨h.sb, h.sa, h.r, h.l⟩
theorem Inv.one (n : Nat) : Inv n MX.one MX.one := ⟨one_small n n, one_small n n, mm_one (one_small n n), mm_one (one_small n n)⟩

theorem Inv.mul {n : Nat} {a b c d : Nat → Nat → Nat} (h : Inv n a b) (k : Inv n c d) : Inv n (mm n a c) (mm n d b) := by
  have key : ∀ {a b c d : Nat → Nat → Nat}, Inv n a b → Inv n c d → Eq2 n n (mm n (mm n d b) (mm n a c)) MX.one := fun {a b c d} h k => by
    refine (mm_assoc k.sb h.sb (mm_small c h.sa)).trans ?_
    have e1 : Eq2 n n (mm n b (mm n a c)) c := ((mm_assoc h.sb h.sa k.sa).symm.trans (mm_congr h.l (Eq2.refl n n c))).trans (one_mm k.sa)
    exact (mm_congr (Eq2.refl n n d) e1).trans k.l
  exact ⟨mm_small c h.sa, mm_small b k.sb, key h k, key k.symm h.symm⟩

/-- There is one inverse at most. -/
theorem Inv.unique {n : Nat} {a b c : Nat → Nat → Nat} (hb : Inv n a b) (hc : Small n n c) (h : Eq2 n n (mm n c a) MX.one) : Eq2 n n c b := by
  have e1 : Eq2 n n (mm n c (mm n a b)) c := (mm_congr (Eq2.refl n n c) hb.r).trans (mm_one hc)
  have e2 : Eq2 n n (mm n (mm n c a) b) b := (mm_congr h (Eq2.refl n n b)).trans (one_mm hb.sb)
  exact (e1.symm.trans (mm_assoc hc hb.sa hb.sb).symm).trans e2

/-- What stands while rows are struck by rows: b m = a, and b can be undone. -/
structure Struck (n : Nat) (m a b : Nat → Nat → Nat) : Prop where
  sm : Small n n m
  sa : Small n n a
  eq : Eq2 n n (mm n b m) a
  inv : ∃ c, Inv n b c

theorem Struck.start {n : Nat} {m : Nat → Nat → Nat} (h : Small n n m) : Struck n m m MX.one := ⟨h, h, one_mm h, MX.one, Inv.one n⟩

/-- One step: both are multiplied from the left by something that can be undone. -/
theorem Struck.step {n : Nat} {m a b a' b' e f : Nat → Nat → Nat} (h : Struck n m a b) (he : Inv n e f) (ha : Eq2 n n a' (mm n e a)) (hb : Eq2 n n b' (mm n e b)) : Struck n m a' b' := by
  obtain ⟨sm, sa, eq, c, hi⟩ := h
  have sb' : Small n n b' := fun i j hi' hj => by rw [hb i j hi' hj]; exact mm_small b he.sa i j hi' hj
  have hi' := he.mul hi
  refine ⟨sm, fun i j hi' hj => by rw [ha i j hi' hj]; exact mm_small a he.sa i j hi' hj, ?_, mm n c f, ⟨sb', hi'.sb, ?_, ?_⟩⟩
  · exact (((mm_congr hb (Eq2.refl n n m)).trans (mm_assoc he.sa hi.sa sm)).trans (mm_congr (Eq2.refl n n e) eq)).trans ha.symm
  · exact (mm_congr (Eq2.refl n n _) hb).trans hi'.l
  · exact (mm_congr hb (Eq2.refl n n _)).trans hi'.r

/-- When nothing is left to strike b is the inverse. -/
theorem Struck.done {n : Nat} {m a b : Nat → Nat → Nat} (h : Struck n m a b) (ha : Eq2 n n a MX.one) : Inv n m b := by
  obtain ⟨sm, sa, eq, c, hi⟩ := h
  have l : Eq2 n n (mm n b m) MX.one := eq.trans ha
  have e : Eq2 n n m c := by
    have e1 : Eq2 n n (mm n (mm n c b) m) m := (mm_congr hi.l (Eq2.refl n n m)).trans (one_mm sm)
    have e2 : Eq2 n n (mm n c (mm n b m)) c := (mm_congr (Eq2.refl n n c) l).trans (mm_one hi.sb)
    exact (e1.symm.trans (mm_assoc hi.sb hi.sa sm)).trans e2
  exact ⟨sm, hi.sa, l, (mm_congr e (Eq2.refl n n b)).trans hi.l⟩

/-- A column that hangs on those before it: then there is no inverse. -/
theorem Struck.none {n : Nat} {m a b : Nat → Nat → Nat} (h : Struck n m a b) {i : Nat} (hi : i < n) (low : ∀ k j, k < n → j < i → a k j = MX.one k j) (nought : ∀ k, i ≤ k → k < n → a k i = 0) :
    ¬ ∃ c, Small n n c ∧ Eq2 n n (mm n c m) MX.one := by
  rintro ⟨c, sc, hc⟩
  obtain ⟨sm, sa, eq, d, hb⟩ := h
  -- a x = 0 for x = (a 0 i, .., a (i-1) i, 1, 0, ..)
  let x : Nat → Nat → Nat := fun j _ => if j < i then a j i else if j = i then 1 else 0
  have sx : Small n 1 x := fun j _ hj _ => by
    show (if j < i then a j i else if j = i then 1 else 0) < 256
    split
    · exact sa j i hj hi
    · split <;> decide
  have ax : Eq2 n 1 (mm n a x) (fun _ _ => 0) := fun k j hk hj => by
    show xs (fun t => M.mul (a k t) (x t j)) n = 0
    have split1 : xs (fun t => M.mul (a k t) (x t j)) n = xs (fun t => (if t < i then M.mul (MX.one k t) (a t i) else 0) ^^^ (if t = i then a k i else 0)) n := xs_congr fun t ht => by
      show M.mul (a k t) (if t < i then a t i else if t = i then 1 else 0) = _
      by_cases h1 : t < i
      · have h2 : ¬ t = i := by omega
        simp only [if_pos h1, if_neg h2, Nat.xor_zero]
        rw [low k t hk h1]
      · by_cases h2 : t = i
        · subst h2
          simp only [if_neg h1, if_true, Nat.zero_xor]
          exact M.mul_one (sa k t hk ht)
        · simp only [if_neg h1, if_neg h2, Nat.xor_zero]
          exact M.mul_zero _
    rw [split1, ← xs_xor (fun t => if t < i then M.mul (MX.one k t) (a t i) else 0) (fun t => if t = i then a k i else 0)]
    have e2 : xs (fun t => if t = i then a k i else 0) n = a k i := by
      rw [xs_one hi fun t _ hne => if_neg hne, if_pos rfl]
    rw [e2]
    by_cases hki : k < i
    · have e1 : xs (fun t => if t < i then M.mul (MX.one k t) (a t i) else 0) n = a k i := by
        rw [xs_one hk fun t _ hne => by
          by_cases h1 : t < i
          · rw [if_pos h1]; unfold MX.one; rw [if_neg (fun e => hne e.symm), M.zero_mul]
          · exact if_neg h1]
        rw [if_pos hki]
        unfold MX.one
        rw [if_pos rfl, M.one_mul (sa k i hk hi)]
      rw [e1, Nat.xor_self]
    · have e1 : xs (fun t => if t < i then M.mul (MX.one k t) (a t i) else 0) n = xs (fun _ => 0) n := xs_congr fun t _ => by
        by_cases h1 : t < i
        · rw [if_pos h1]; unfold MX.one; rw [if_neg (by omega), M.zero_mul]
        · exact if_neg h1
      rw [e1, xs_zero, nought k (by omega) hk, Nat.xor_self]
  -- so m x = 0, so x = c m x = 0
  have mx : Eq2 n 1 (mm n m x) (fun _ _ => 0) := by
    have e1 : Eq2 n n (mm n d a) m := ((mm_congr (Eq2.refl n n d) eq.symm).trans (mm_assoc hb.sb hb.sa sm).symm).trans ((mm_congr hb.l (Eq2.refl n n m)).trans (one_mm sm))
    have e2 : Eq2 n 1 (mm n m x) (mm n d (mm n a x)) := (mm_congr e1.symm (Eq2.refl n 1 x)).trans (mm_assoc hb.sb sa sx)
    refine e2.trans ((mm_congr (Eq2.refl n n d) ax).trans fun k j hk hj => ?_)
    show xs (fun t => M.mul (d k t) 0) n = 0
    rw [xs_congr (g := fun _ => 0) fun t _ => M.mul_zero _, xs_zero]
  have cx : Eq2 n 1 x (fun _ _ => 0) := by
    have e1 : Eq2 n 1 (mm n (mm n c m) x) x := (mm_congr hc (Eq2.refl n 1 x)).trans (one_mm sx)
    refine (e1.symm.trans (mm_assoc sc sm sx)).trans ((mm_congr (Eq2.refl n n c) mx).trans fun k j hk hj => ?_)
    show xs (fun t => M.mul (c k t) 0) n = 0
    rw [xs_congr (g := fun _ => 0) fun t _ => M.mul_zero _, xs_zero]
  have := cx i 0 hi (by decide)
  simp [x] at this

/-! ## Row operations -/

/-- Row k, and y times row s. -/
def strikeE (k s y : Nat) : Nat → Nat → Nat := fun i j => if i = j then 1 else if i = k ∧ j = s then y else 0
theorem strike_mm {n k s y : Nat} {a : Nat → Nat → Nat} {m : Nat} (ha : Small n m a) (hk : k < n) (hs : s < n) (hks : k ≠ s) :
    Eq2 n m (mm n (strikeE k s y) a) (fun i j => if i = k then a k j ^^^ M.mul y (a s j) else a i j) := fun i j hi hj => by
  show xs (fun t => M.mul (strikeE k s y i t) (a t j)) n = _
  by_cases e : i = k
  · subst e
    simp only [if_true]
    have e1 : xs (fun t => M.mul (strikeE i s y i t) (a t j)) n = xs (fun t => (if t = i then a i j else 0) ^^^ (if t = s then M.mul y (a s j) else 0)) n := xs_congr fun t ht => by
      unfold strikeE
      by_cases h1 : t = i
      · subst h1
        simp only [if_true, if_neg hks, Nat.xor_zero]
        exact M.one_mul (ha t j ht hj)
      · have h1' : ¬ i = t := fun e => h1 e.symm
        by_cases h2 : t = s
        · subst h2
          simp only [if_neg h1, if_neg h1', true_and, if_true, Nat.zero_xor]
        · simp only [if_neg h1, if_neg h1', h2, and_false, if_false, Nat.xor_zero]
          exact M.zero_mul _
    rw [e1, ← xs_xor (fun t => if t = i then a i j else 0) (fun t => if t = s then M.mul y (a s j) else 0), xs_one hi fun t _ hne => if_neg hne, xs_one hs fun t _ hne => if_neg hne, if_pos rfl, if_pos rfl]
  · simp only [if_neg e]
    rw [xs_one hi fun t _ hne => by unfold strikeE; rw [if_neg (fun e' => hne e'.symm), if_neg (fun h => e h.1), M.zero_mul]]
    unfold strikeE
    rw [if_pos rfl, M.one_mul (ha i j hi hj)]
theorem strike_small {n k s y : Nat} (hy : y < 256) : Small n n (strikeE k s y) := fun i j _ _ => by
  unfold strikeE
  split
  · decide
  · split
    · exact hy
    · decide
theorem strike_inv {n k s y : Nat} (hy : y < 256) (hk : k < n) (hs : s < n) (hks : k ≠ s) : Inv n (strikeE k s y) (strikeE k s y) := by
  have h : Eq2 n n (mm n (strikeE k s y) (strikeE k s y)) MX.one := (strike_mm (strike_small hy) hk hs hks).trans fun i j hi hj => by
    by_cases e : i = k
    · subst e
      simp only [if_true]
      unfold strikeE MX.one
      by_cases h1 : i = j
      · subst h1
        have h2 : ¬ s = i := fun e => hks e.symm
        simp only [if_true, if_neg h2]
        rw [if_neg (fun h => h2 h.1), M.mul_zero, Nat.xor_zero]
      · by_cases h2 : s = j
        · subst h2
          have h3 : ¬ s = i := fun e => hks e.symm
          simp only [if_neg h1, and_true, if_true]
          rw [M.mul_one hy, Nat.xor_self]
        · have h3 : ¬ j = s := fun e => h2 e.symm
          have h4 : ¬ s = i := fun e => hks e.symm
          simp only [if_neg h1, if_neg h2, h3, h4, and_false, if_false, Nat.zero_xor]
          exact M.mul_zero y
    · simp only [if_neg e]
      unfold strikeE MX.one
      by_cases h1 : i = j
      · simp only [if_pos h1]
      · simp only [if_neg h1, e, false_and, if_false]
  exact ⟨strike_small hy, strike_small hy, h, h⟩

/-- Row k times x. -/
def scaleE (k x : Nat) : Nat → Nat → Nat := fun i j => if i = j then (if i = k then x else 1) else 0
theorem scale_mm {n k x : Nat} {a : Nat → Nat → Nat} {m : Nat} (ha : Small n m a) : Eq2 n m (mm n (scaleE k x) a) (fun i j => if i = k then M.mul x (a k j) else a i j) := fun i j hi hj => by
  show xs (fun t => M.mul (scaleE k x i t) (a t j)) n = _
  rw [xs_one hi fun t _ hne => by unfold scaleE; rw [if_neg (fun e' => hne e'.symm), M.zero_mul]]
  unfold scaleE
  rw [if_pos rfl]
  by_cases e : i = k
  · subst e; simp only [if_true]
  · simp only [if_neg e]
    exact M.one_mul (ha i j hi hj)
theorem scale_small {n k x : Nat} (hx : x < 256) : Small n n (scaleE k x) := fun i j _ _ => by
  unfold scaleE
  split
  · split
    · exact hx
    · decide
  · decide
theorem scale_inv {n k x y : Nat} (hx : x < 256) (hy : y < 256) (h : M.mul x y = 1) : Inv n (scaleE k x) (scaleE k y) := by
  have key : ∀ {x y : Nat}, x < 256 → y < 256 → M.mul x y = 1 → Eq2 n n (mm n (scaleE k x) (scaleE k y)) MX.one := fun {x y} hx hy h => (scale_mm (scale_small hy)).trans fun i j hi hj => by
    unfold scaleE MX.one
    by_cases e : i = k
    · subst e
      by_cases h1 : i = j
      · subst h1; simp only [if_true]; exact h
      · simp only [if_true, if_neg h1]; exact M.mul_zero x
    · by_cases h1 : i = j
      · simp only [if_neg e, if_pos h1]
      · simp only [if_neg e, if_neg h1]
  exact ⟨scale_small hx, scale_small hy, key hy hx (by rw [M.mul_comm hy hx]; exact h), key hx hy h⟩

/-- Rows k and s change places. -/
def swapE (k s : Nat) : Nat → Nat → Nat := fun i j => if j = (if i = k then s else if i = s then k else i) then 1 else 0
theorem swap_mm {n k s : Nat} {a : Nat → Nat → Nat} {m : Nat} (ha : Small n m a) (hk : k < n) (hs : s < n) :
    Eq2 n m (mm n (swapE k s) a) (fun i j => a (if i = k then s else if i = s then k else i) j) := fun i j hi hj => by
  have hp : (if i = k then s else if i = s then k else i) < n := by
    split
    · exact hs
    · split
      · exact hk
      · exact hi
  show xs (fun t => M.mul (swapE k s i t) (a t j)) n = _
  rw [xs_one hp fun t _ hne => by unfold swapE; rw [if_neg hne, M.zero_mul]]
  unfold swapE
  rw [if_pos rfl, M.one_mul (ha _ j hp hj)]
theorem swap_small {n k s : Nat} : Small n n (swapE k s) := fun i j _ _ => by
  unfold swapE
  by_cases h : j = (if i = k then s else if i = s then k else i)
  · rw [if_pos h]; decide
  · rw [if_neg h]; decide
theorem swap_inv {n k s : Nat} (hk : k < n) (hs : s < n) : Inv n (swapE k s) (swapE k s) := by
  have h : Eq2 n n (mm n (swapE k s) (swapE k s)) MX.one := (swap_mm swap_small hk hs).trans fun i j hi hj => by
    unfold swapE MX.one
    by_cases h1 : i = k
    · by_cases h2 : s = k
      · subst h2; subst h1; simp [eq_comm]
      · subst h1; simp [h2, eq_comm]
    · by_cases h2 : i = s
      · subst h2; simp [h1, eq_comm]
      · simp [h1, h2, eq_comm]
  exact ⟨swap_small, swap_small, h, h⟩

/-! ## The first i columns are the identity's -/

def Low (n i : Nat) (a : Nat → Nat → Nat) : Prop := ∀ k j, k < n → j < i → a k j = MX.one k j

theorem Low.zero (n : Nat) (a : Nat → Nat → Nat) : Low n 0 a := fun _ _ _ h => by omega
theorem Low.nought {n i s j : Nat} {a : Nat → Nat → Nat} (h : Low n i a) (hs : s < n) (his : i ≤ s) (hj : j < i) : a s j = 0 := by
  rw [h s j hs hj]
  unfold MX.one
  rw [if_neg (by omega)]
theorem Low.strike {n i k s y : Nat} {a : Nat → Nat → Nat} (h : Low n i a) (hs : s < n) (his : i ≤ s) : Low n i (fun r j => if r = k then a k j ^^^ M.mul y (a s j) else a r j) := fun r j hr hj => by
  by_cases e : r = k
  · subst e
    simp only [if_true]
    rw [h.nought hs his hj, M.mul_zero, Nat.xor_zero]
    exact h r j hr hj
  · simp only [if_neg e]
    exact h r j hr hj
theorem Low.scale {n i k x : Nat} {a : Nat → Nat → Nat} (h : Low n i a) (hik : i ≤ k) : Low n i (fun r j => if r = k then M.mul x (a k j) else a r j) := fun r j hr hj => by
  by_cases e : r = k
  · subst e
    simp only [if_true]
    rw [h.nought hr hik hj, M.mul_zero]
    unfold MX.one
    rw [if_neg (by omega)]
  · simp only [if_neg e]
    exact h r j hr hj
theorem Low.swap {n i k s : Nat} {a : Nat → Nat → Nat} (h : Low n i a) (hk : k < n) (hs : s < n) (hik : i ≤ k) (his : i ≤ s) : Low n i (fun r j => a (if r = k then s else if r = s then k else r) j) := fun r j hr hj => by
  have one0 : ∀ t, i ≤ t → MX.one t j = 0 := fun t ht => by unfold MX.one; rw [if_neg (by omega)]
  by_cases e : r = k
  · subst e
    simp only [if_true]
    rw [h.nought hs his hj, one0 r hik]
  · by_cases e2 : r = s
    · subst e2
      simp only [if_neg e, if_true]
      rw [h.nought hk hik hj, one0 r his]
    · simp only [if_neg e, if_neg e2]
      exact h r j hr hj
theorem Low.next {n i : Nat} {a : Nat → Nat → Nat} (h : Low n i a) (hc : ∀ k, k < n → a k i = MX.one k i) : Low n (i + 1) a := fun k j hk hj => by
  by_cases e : j = i
  · subst e; exact hc k hk
  · exact h k j hk (by omega)
theorem Low.all {n : Nat} {a : Nat → Nat → Nat} (h : Low n n a) : Eq2 n n a MX.one := fun i j hi hj => h i j hi hj

/-- A row struck by another one, in both matrices. -/
theorem Struck.strike {n k s y : Nat} {m a b : Nat → Nat → Nat} (h : Struck n m a b) (hy : y < 256) (hk : k < n) (hs : s < n) (hks : k ≠ s) :
    Struck n m (fun i j => if i = k then a k j ^^^ M.mul y (a s j) else a i j) (fun i j => if i = k then b k j ^^^ M.mul y (b s j) else b i j) :=
  h.step (strike_inv hy hk hs hks) (strike_mm h.sa hk hs hks).symm (strike_mm (by obtain ⟨c, hc⟩ := h.inv; exact hc.sa) hk hs hks).symm
theorem Struck.scale {n k x y : Nat} {m a b : Nat → Nat → Nat} (h : Struck n m a b) (hx : x < 256) (hy : y < 256) (hxy : M.mul x y = 1) :
    Struck n m (fun i j => if i = k then M.mul x (a k j) else a i j) (fun i j => if i = k then M.mul x (b k j) else b i j) :=
  h.step (scale_inv hx hy hxy) (scale_mm h.sa).symm (scale_mm (by obtain ⟨c, hc⟩ := h.inv; exact hc.sa)).symm
theorem Struck.swap {n k s : Nat} {m a b : Nat → Nat → Nat} (h : Struck n m a b) (hk : k < n) (hs : s < n) :
    Struck n m (fun i j => a (if i = k then s else if i = s then k else i) j) (fun i j => b (if i = k then s else if i = s then k else i) j) :=
  h.step (swap_inv hk hs) (swap_mm h.sa hk hs).symm (swap_mm (by obtain ⟨c, hc⟩ := h.inv; exact hc.sa) hk hs).symm

end Go.Proofs.Ytdeajclghlbhcaa.MX
