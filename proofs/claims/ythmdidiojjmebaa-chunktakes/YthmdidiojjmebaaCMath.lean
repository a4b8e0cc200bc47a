/- Chunks as plain data: loads of 56 bytes, sectors, what Take tells. No text of the program is named here. -/
import Derived.Test.YthmdidiojjmebaaSMath
namespace Go.Proofs.Ythmdidiojjmebaa
namespace CM

/-- The load at a place. -/
def ld (xs : List Nat) (i : Nat) : List Nat := (xs.drop (56 * i)).take 56
/-- A chunk's sectors. -/
def secs (n : Nat) (xs : List Nat) (m : Nat) : List (List Nat) := (List.range m).map fun i => SM.sec n (ld xs i)
/-- May data be a chunk's? -/
def fit (n : Nat) (xs : List Nat) : Bool := decide (n ≠ 0) && (decide (0 < xs.length) && (decide (xs.length % 56 = 0) && decide (xs.length ≤ 3584)))
def putS (n : Nat) (xs : List Nat) : List (List Nat) := if fit n xs then secs n xs (xs.length / 56) else []
def putE (n : Nat) (xs : List Nat) : Int := if n = 0 then 1 else if xs.length = 0 ∨ xs.length % 56 ≠ 0 then 4 else if 3584 < xs.length then 3 else 0

/-- The first k sectors are one chunk's. -/
def okTo (X : List (List Nat)) (k : Nat) : Prop := ∀ j, j < k → (X.getD j []).length = 64 ∧ SM.val (X.getD j []) 8 = SM.val (X.getD 0 []) 8 ∧ SM.val (X.getD j []) 8 ≠ 0
def okB (X : List (List Nat)) (k : Nat) : Bool := (List.range k).all fun j => ((X.getD j []).length == 64) && ((SM.val (X.getD j []) 8 == SM.val (X.getD 0 []) 8) && (SM.val (X.getD j []) 8 != 0))
theorem okB_iff (X : List (List Nat)) (k : Nat) : okB X k = true ↔ okTo X k := by
  simp only [okB, okTo, List.all_eq_true, List.mem_range, Bool.and_eq_true, beq_iff_eq, bne_iff_ne]
def yes (X : List (List Nat)) : Bool := decide (1 ≤ X.length) && (decide (X.length ≤ 64) && okB X X.length)
def tN (X : List (List Nat)) : Nat := if yes X then SM.val (X.getD 0 []) 8 else 0
/-- The loads of the first k sectors. -/
def loads (X : List (List Nat)) (k : Nat) : List Nat := ((X.take k).map fun x => x.drop 8).flatten
def tL (X : List (List Nat)) : List Nat := if yes X then loads X X.length else []

theorem ld_len {xs : List Nat} {i : Nat} (h : 56 * i + 56 ≤ xs.length) : (ld xs i).length = 56 := by simp [ld]; omega
theorem ld_small {xs : List Nat} (h : ∀ x ∈ xs, x < 256) (i : Nat) : ∀ x ∈ ld xs i, x < 256 := fun x hx => h x (List.mem_of_mem_drop (List.mem_of_mem_take hx))
theorem secs_len (n : Nat) (xs : List Nat) (m : Nat) : (secs n xs m).length = m := by simp [secs]
theorem secs_get (n : Nat) (xs : List Nat) {m j : Nat} (h : j < m) : (secs n xs m).getD j [] = SM.sec n (ld xs j) := by simp [secs, List.getD, h]

theorem fit_iff {n : Nat} {xs : List Nat} : fit n xs = true ↔ n ≠ 0 ∧ 0 < xs.length ∧ xs.length % 56 = 0 ∧ xs.length ≤ 3584 := by simp [fit]
theorem putE_fit (n : Nat) (xs : List Nat) : putE n xs = 0 ↔ fit n xs = true := by
  rw [fit_iff]
  unfold putE
  by_cases h1 : n = 0
  · simp [h1]
  · rw [if_neg h1]
    by_cases h2 : xs.length = 0 ∨ xs.length % 56 ≠ 0
    · rw [if_pos h2]; simp only [Int.reduceEq, false_iff]; omega
    · rw [if_neg h2]
      by_cases h3 : 3584 < xs.length
      · rw [if_pos h3]; simp only [Int.reduceEq, false_iff]; omega
      · rw [if_neg h3]; simp only [true_iff]; omega

theorem yes_iff {X : List (List Nat)} : yes X = true ↔ 1 ≤ X.length ∧ X.length ≤ 64 ∧ okTo X X.length := by
  rw [← okB_iff]; simp [yes]

theorem loads_zero (X : List (List Nat)) : loads X 0 = [] := by simp [loads]
theorem loads_succ (X : List (List Nat)) {k : Nat} (h : k < X.length) : loads X (k + 1) = loads X k ++ (X.getD k []).drop 8 := by
  have e : X[k] = X.getD k [] := by simp [List.getD, h]
  simp [loads, List.take_succ_eq_append_getElem h, e]
theorem loads_len {X : List (List Nat)} : ∀ {k : Nat}, k ≤ X.length → (∀ j, j < k → (X.getD j []).length = 64) → (loads X k).length = 56 * k
  | 0, _, _ => by simp [loads]
  | k + 1, h, h2 => by
    rw [loads_succ X (by omega), List.length_append, loads_len (by omega) (fun j hj => h2 j (by omega)), List.length_drop, h2 k (by omega)]
    omega
theorem loads_small {X : List (List Nat)} (h : ∀ j, j < X.length → ∀ x ∈ X.getD j [], x < 256) : ∀ {k : Nat}, k ≤ X.length → ∀ x ∈ loads X k, x < 256
  | 0, _, x, hx => by simp [loads] at hx
  | k + 1, hk, x, hx => by
    rw [loads_succ X (by omega)] at hx
    rcases List.mem_append.1 hx with h1 | h1
    · exact loads_small h (by omega) x h1
    · exact h k (by omega) x (List.mem_of_mem_drop h1)

/-- The loads of a chunk's sectors are its data. -/
theorem loads_secs (n : Nat) (xs : List Nat) (m : Nat) (h : 56 * m ≤ xs.length) : ∀ k, k ≤ m → loads (secs n xs m) k = xs.take (56 * k)
  | 0, _ => by simp [loads]
  | k + 1, hk => by
    rw [loads_succ _ (by rw [secs_len]; omega), loads_secs n xs m h k (by omega), secs_get n xs (by omega)]
    have e1 : (SM.sec n (ld xs k)).drop 8 = ld xs k := by
      unfold SM.sec
      rw [ld_len (by omega)]
      simp [SM.mk_len, SM.z]
    rw [e1]
    unfold ld
    have e2 : 56 * (k + 1) = 56 * k + 56 := by omega
    rw [e2, List.take_add]

/-- What Put makes, Take tells. -/
theorem okTo_secs {n : Nat} (h0 : n ≠ 0) (hn : n < 256 ^ 8) (xs : List Nat) (m : Nat) (h : 56 * m ≤ xs.length) : okTo (secs n xs m) m := fun j hj => by
  rw [secs_get n xs hj, secs_get n xs (j := 0) (by omega)]
  exact ⟨SM.sec_len (by rw [ld_len (by omega)]; exact Nat.le_refl _), by rw [SM.val_sec hn, SM.val_sec hn], by rw [SM.val_sec hn]; exact h0⟩

theorem put_take {n : Nat} {xs : List Nat} (hn : n < 256 ^ 8) (h : fit n xs = true) : yes (putS n xs) = true ∧ tN (putS n xs) = n ∧ tL (putS n xs) = xs := by
  obtain ⟨h0, h1, h2, h3⟩ := fit_iff.1 h
  have e : putS n xs = secs n xs (xs.length / 56) := by simp [putS, h]
  rw [e]
  have hl : 56 * (xs.length / 56) = xs.length := by omega
  have hy : yes (secs n xs (xs.length / 56)) = true := by
    rw [yes_iff, secs_len]
    exact ⟨by omega, by omega, okTo_secs h0 hn xs _ (by omega)⟩
  refine ⟨hy, ?_, ?_⟩
  · unfold tN
    rw [if_pos hy, secs_get n xs (by omega), SM.val_sec hn]
  · unfold tL
    rw [if_pos hy, loads_secs n xs _ (by omega) _ (by rw [secs_len]; exact Nat.le_refl _), secs_len, hl, List.take_of_length_le (Nat.le_refl _)]

theorem ld_loads {X : List (List Nat)} (h : ∀ j, j < X.length → (X.getD j []).length = 64) : ∀ k, k ≤ X.length → ∀ i, i < k → ld (loads X k) i = (X.getD i []).drop 8
  | 0, _, i, hi => by omega
  | k + 1, hk, i, hi => by
    have hll := loads_len (X := X) (k := k) (by omega) (fun j hj => h j (by omega))
    rw [loads_succ X (by omega)]
    by_cases e : i < k
    · rw [← ld_loads h k (by omega) i e]
      unfold ld
      rw [List.drop_append_of_le_length (by omega), List.take_append_of_le_length (by simp; omega)]
    · have e : i = k := by omega
      subst e
      unfold ld
      rw [List.drop_append, List.drop_eq_nil_of_le (by omega)]
      have h64 := h i (by omega)
      rw [hll, List.nil_append, Nat.sub_self, List.drop_zero]
      exact List.take_of_length_le (by rw [List.length_drop, h64]; decide)

/-- Sectors that are a chunk are what Put makes of what Take tells. -/
theorem take_put {X : List (List Nat)} (hs : ∀ j, j < X.length → ∀ x ∈ X.getD j [], x < 256) (h : yes X = true) : fit (tN X) (tL X) = true ∧ putS (tN X) (tL X) = X := by
  obtain ⟨h1, h2, h3⟩ := yes_iff.1 h
  have h64 : ∀ j, j < X.length → (X.getD j []).length = 64 := fun j hj => (h3 j hj).1
  have hl : (tL X).length = 56 * X.length := by unfold tL; rw [if_pos h]; exact loads_len (Nat.le_refl _) h64
  have hN : tN X = SM.val (X.getD 0 []) 8 := by unfold tN; rw [if_pos h]
  have hf : fit (tN X) (tL X) = true := by
    rw [fit_iff, hl, hN]
    exact ⟨(h3 0 (by omega)).2.2, by omega, by omega, by omega⟩
  refine ⟨hf, ?_⟩
  unfold putS
  rw [if_pos hf, hl]
  have hm : 56 * X.length / 56 = X.length := by omega
  rw [hm]
  apply List.ext_getElem
  · rw [secs_len]
  · intro i hi1 hi2
    have e1 : (secs (tN X) (tL X) X.length)[i] = (secs (tN X) (tL X) X.length).getD i [] := by simp [List.getD, hi1]
    have e2 : X[i] = X.getD i [] := by simp [List.getD, hi2]
    rw [e1, e2, secs_get _ _ hi2]
    have e3 : tL X = loads X X.length := by unfold tL; rw [if_pos h]
    rw [e3, ld_loads h64 _ (Nat.le_refl _) i hi2, hN, ← (h3 i hi2).2.1]
    exact SM.sec_back (hs i hi2) (h64 i hi2)

/-- What Take tells is a stamp, and bytes. -/
theorem tN_lt {X : List (List Nat)} (hs : ∀ j, j < X.length → ∀ x ∈ X.getD j [], x < 256) : tN X < 256 ^ 8 := by
  unfold tN
  split
  · refine SM.val_lt ?_ 8
    by_cases h : 0 < X.length
    · exact hs 0 h
    · have : X = [] := List.eq_nil_of_length_eq_zero (by omega)
      subst this; simp
  · decide
theorem tL_small {X : List (List Nat)} (hs : ∀ j, j < X.length → ∀ x ∈ X.getD j [], x < 256) : ∀ x ∈ tL X, x < 256 := by
  unfold tL
  split
  · exact loads_small hs (Nat.le_refl _)
  · simp

/-- A chunk, some sectors of which are another one's. -/
def mix (c : List Bool) (x y : List (List Nat)) (k : Nat) : List (List Nat) := (List.range k).map fun i => if c.getD i false = true then y.getD i [] else x.getD i []
/-- How many are the other one's. -/
def cnt (c : List Bool) (k : Nat) : Nat := ((List.range k).filter fun i => c.getD i false).length
theorem mix_len (c : List Bool) (x y : List (List Nat)) (k : Nat) : (mix c x y k).length = k := by simp [mix]
theorem mix_succ (c : List Bool) (x y : List (List Nat)) (k : Nat) : mix c x y (k + 1) = mix c x y k ++ [if c.getD k false = true then y.getD k [] else x.getD k []] := by simp [mix, List.range_succ]
theorem mix_get (c : List Bool) (x y : List (List Nat)) {k j : Nat} (h : j < k) : (mix c x y k).getD j [] = if c.getD j false = true then y.getD j [] else x.getD j [] := by simp [mix, List.getD, h]; rfl
theorem cnt_succ (c : List Bool) (k : Nat) : cnt c (k + 1) = cnt c k + if c.getD k false = true then 1 else 0 := by
  simp only [cnt, List.range_succ, List.filter_append, List.length_append]
  split <;> simp_all
theorem cnt_le (c : List Bool) : ∀ k, cnt c k ≤ k
  | 0 => by simp [cnt]
  | k + 1 => by have := cnt_le c k; rw [cnt_succ]; split <;> omega
theorem cnt_none (c : List Bool) : ∀ {k : Nat}, cnt c k = 0 → ∀ j, j < k → c.getD j false = false
  | 0, _, j, hj => by omega
  | k + 1, h, j, hj => by
    rw [cnt_succ] at h
    by_cases e : j = k
    · subst e
      cases hc : c.getD j false with
      | false => rfl
      | true => rw [hc] at h; simp at h
    · exact cnt_none c (k := k) (by omega) j (by omega)
theorem cnt_all (c : List Bool) : ∀ {k : Nat}, cnt c k = k → ∀ j, j < k → c.getD j false = true
  | 0, _, j, hj => by omega
  | k + 1, h, j, hj => by
    rw [cnt_succ] at h
    have h2 := cnt_le c k
    by_cases e : j = k
    · subst e
      cases hc : c.getD j false with
      | true => rfl
      | false => rw [hc] at h; simp at h; omega
    · refine cnt_all c (k := k) ?_ j (by omega)
      split at h <;> omega

theorem mix_none {c : List Bool} {x y : List (List Nat)} {k : Nat} (h : cnt c k = 0) (hx : x.length = k) : mix c x y k = x := by
  apply List.ext_getElem
  · rw [mix_len, hx]
  · intro i h1 h2
    have e1 : (mix c x y k)[i] = (mix c x y k).getD i [] := by simp [List.getD, h1]
    have e2 : x[i] = x.getD i [] := by simp [List.getD, h2]
    rw [e1, e2, mix_get c x y (by omega), cnt_none c h i (by omega)]
    simp
theorem mix_all {c : List Bool} {x y : List (List Nat)} {k : Nat} (h : cnt c k = k) (hy : y.length = k) : mix c x y k = y := by
  apply List.ext_getElem
  · rw [mix_len, hy]
  · intro i h1 h2
    have e1 : (mix c x y k)[i] = (mix c x y k).getD i [] := by simp [List.getD, h1]
    have e2 : y[i] = y.getD i [] := by simp [List.getD, h2]
    rw [e1, e2, mix_get c x y (by omega), cnt_all c h i (by omega)]
    simp

theorem some_of {c : List Bool} {k : Nat} (h0 : cnt c k ≠ 0) (hk : cnt c k ≠ k) : (∃ i, i < k ∧ c.getD i false = true) ∧ ∃ j, j < k ∧ c.getD j false = false := by
  constructor
  · refine Classical.byContradiction fun hn => h0 ?_
    have : ∀ i, i < k → c.getD i false = false := fun i hi => by
      cases e : c.getD i false with
      | false => rfl
      | true => exact absurd ⟨i, hi, e⟩ hn
    clear hn h0 hk
    induction k with
    | zero => simp [cnt]
    | succ k ih => rw [cnt_succ, ih (fun i hi => this i (by omega)), this k (by omega)]; simp
  · refine Classical.byContradiction fun hn => hk ?_
    have : ∀ i, i < k → c.getD i false = true := fun i hi => by
      cases e : c.getD i false with
      | true => rfl
      | false => exact absurd ⟨i, hi, e⟩ hn
    clear hn h0 hk
    induction k with
    | zero => simp [cnt]
    | succ k ih => rw [cnt_succ, ih (fun i hi => this i (by omega)), this k (by omega)]; simp

/-- A mix of two chunks is a chunk just where the stamps are one. -/
theorem mix_yes {c : List Bool} {n m k : Nat} {as bs : List Nat} (hn : n < 256 ^ 8) (hm : m < 256 ^ 8) (m0 : m ≠ 0) (h1 : 1 ≤ k) (h64 : k ≤ 64) (ha : 56 * k ≤ as.length) (hb : 56 * k ≤ bs.length) (h0 : cnt c k ≠ 0) (hk : cnt c k ≠ k) :
    yes (mix c (secs n as k) (secs m bs k) k) = decide (n = m) := by
  have hv : ∀ j, j < k → SM.val ((mix c (secs n as k) (secs m bs k) k).getD j []) 8 = if c.getD j false = true then m else n := fun j hj => by
    rw [mix_get c _ _ hj]
    split
    · rw [secs_get m bs hj, SM.val_sec hm]
    · rw [secs_get n as hj, SM.val_sec hn]
  have hl : ∀ j, j < k → ((mix c (secs n as k) (secs m bs k) k).getD j []).length = 64 := fun j hj => by
    rw [mix_get c _ _ hj]
    split
    · rw [secs_get m bs hj, SM.sec_len (by rw [ld_len (by omega)]; exact Nat.le_refl _)]
    · rw [secs_get n as hj, SM.sec_len (by rw [ld_len (by omega)]; exact Nat.le_refl _)]
  rw [Bool.eq_iff_iff, decide_eq_true_eq, yes_iff, mix_len]
  constructor
  · rintro ⟨_, _, ok⟩
    obtain ⟨⟨i, hi, ei⟩, j, hj, ej⟩ := some_of h0 hk
    have h2 := (ok i hi).2.1
    have h3 := (ok j hj).2.1
    rw [hv i hi, ei] at h2
    rw [hv j hj, ej] at h3
    simp at h2 h3
    exact h3.trans h2.symm
  · rintro rfl
    refine ⟨h1, h64, fun j hj => ⟨hl j hj, ?_, ?_⟩⟩
    · rw [hv j hj, hv 0 (by omega)]; split <;> split <;> rfl
    · rw [hv j hj]; split <;> assumption
end CM
end Go.Proofs.Ythmdidiojjmebaa
