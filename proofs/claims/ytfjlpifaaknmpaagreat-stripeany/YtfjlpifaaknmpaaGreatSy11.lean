/- Packed: SMath, KMath, PM8, Rep8, Ask, RefId. -/
import GoSem.Op.String
import Derived.Test.YtfjlpifaaknmpaaGreatSy6
import Derived.Laws.Rows
import Derived.Test.YtfjlpifaaknmpaaGreatSy1
import Derived.Test.YtfjlpifaaknmpaaGreatSy2
import Derived.Test.YtfjlpifaaknmpaaGreatSy3
import Derived.Test.YtfjlpifaaknmpaaGreatSy4
import Derived.Test.YtfjlpifaaknmpaaGreatSy5
import Derived.Test.YtfjlpifaaknmpaaGreatSy7
import Derived.Test.YtfjlpifaaknmpaaGreatSy8
import Derived.Test.YtfjlpifaaknmpaaGreatSy9
import Derived.Test.YtfjlpifaaknmpaaGreatSy10
/- Plain facts on stamps: eight bytes, the highest first; the order of texts that begin with them. No text of the program is named here. -/
set_option maxRecDepth 100000
namespace Go.Proofs.YtfjlpifaaknmpaaGreat
namespace SM

/-- Noughts. -/
def z (n : Nat) : List Nat := List.replicate n 0
theorem z_len (n : Nat) : (z n).length = n := by simp [z]
theorem z_small (n : Nat) : ∀ x ∈ z n, x < 256 := fun x hx => by rw [(List.mem_replicate.1 hx).2]; decide
theorem z_drop (n k : Nat) : (z n).drop k = z (n - k) := by simp [z]
/-- A stamp's eight bytes. -/
def mk (n : Nat) : List Nat := (List.range 8).map fun i => n / 256 ^ (7 - i) % 256
/-- The number of the first k bytes. -/
def val (xs : List Nat) : Nat → Nat
  | 0 => 0
  | k + 1 => 256 * val xs k + xs.getD k 0
/-- A sector. -/
def sec (n : Nat) (ld : List Nat) : List Nat := mk n ++ (ld ++ z (56 - ld.length))

theorem mk_len (n : Nat) : (mk n).length = 8 := by simp [mk]
theorem mk_small (n : Nat) : ∀ x ∈ mk n, x < 256 := fun x hx => by
  obtain ⟨i, _, rfl⟩ := List.mem_map.1 hx
  exact Nat.mod_lt _ (by decide)
theorem mk_get (n : Nat) {i : Nat} (h : i < 8) : (mk n).getD i 0 = n / 256 ^ (7 - i) % 256 := by simp [mk, List.getD, h]
theorem sec_len {n : Nat} {ld : List Nat} (h : ld.length ≤ 56) : (sec n ld).length = 64 := by simp [sec, mk_len, z_len]; omega
theorem sec_small {n : Nat} {ld : List Nat} (h : ∀ x ∈ ld, x < 256) : ∀ x ∈ sec n ld, x < 256 := fun x hx => by
  rcases List.mem_append.1 hx with h1 | h1
  · exact mk_small n x h1
  · rcases List.mem_append.1 h1 with h2 | h2
    · exact h x h2
    · exact z_small _ x h2

theorem getD_lt {xs : List Nat} (h : ∀ x ∈ xs, x < 256) (k : Nat) : xs.getD k 0 < 256 := by
  by_cases hk : k < xs.length
  · exact h _ (by simp [List.getD, hk])
  · simp [List.getD, hk]

theorem ext_getD {xs ys : List Nat} (hl : xs.length = ys.length) (h : ∀ i, i < xs.length → xs.getD i 0 = ys.getD i 0) : xs = ys := by
  apply List.ext_getElem hl
  intro i h1 h2
  have := h i h1
  simpa [List.getD, h1, h2] using this

theorem val_lt {xs : List Nat} (h : ∀ x ∈ xs, x < 256) : ∀ k, val xs k < 256 ^ k
  | 0 => by simp [val]
  | k + 1 => by
    have h1 := val_lt h k
    have h2 := getD_lt h k
    show 256 * val xs k + xs.getD k 0 < _
    rw [Nat.pow_succ]
    omega

theorem val_app (xs ys : List Nat) : ∀ k, k ≤ xs.length → val (xs ++ ys) k = val xs k
  | 0, _ => rfl
  | k + 1, h => by
    show 256 * val (xs ++ ys) k + (xs ++ ys).getD k 0 = 256 * val xs k + xs.getD k 0
    rw [val_app xs ys k (by omega)]
    have : (xs ++ ys).getD k 0 = xs.getD k 0 := by
      have hk : k < xs.length := by omega
      simp only [List.getD]
      rw [List.getElem?_append_left hk]
    rw [this]

theorem val_mkTo {n : Nat} (h : n < 256 ^ 8) : ∀ k, k ≤ 8 → val (mk n) k = n / 256 ^ (8 - k)
  | 0, _ => by
    show 0 = n / 256 ^ 8
    exact (Nat.div_eq_of_lt h).symm
  | k + 1, hk => by
    show 256 * val (mk n) k + (mk n).getD k 0 = _
    rw [val_mkTo h k (by omega), mk_get n (by omega)]
    have e1 : 8 - k = (7 - k) + 1 := by omega
    have e2 : 8 - (k + 1) = 7 - k := by omega
    rw [e1, e2, Nat.pow_succ, ← Nat.div_div_eq_div_mul]
    omega

theorem val_mk {n : Nat} (h : n < 256 ^ 8) : val (mk n) 8 = n := by
  rw [val_mkTo h 8 (Nat.le_refl _)]; simp
theorem val_sec {n : Nat} (h : n < 256 ^ 8) (ld : List Nat) : val (sec n ld) 8 = n := by
  unfold sec
  rw [val_app _ _ 8 (by rw [mk_len]; exact Nat.le_refl _), val_mk h]

/-- The number of bytes, the highest first. -/
def hv : List Nat → Nat
  | [] => 0
  | a :: r => a * 256 ^ r.length + hv r
end SM
end Go.Proofs.YtfjlpifaaknmpaaGreat

/- Chunks as plain data: loads of 56 bytes, sectors, what Take tells. No text of the program is named here. -/
set_option maxRecDepth 100000
namespace Go.Proofs.YtfjlpifaaknmpaaGreat
namespace CM

/-- The load at a place. -/
def ld (xs : List Nat) (i : Nat) : List Nat := (xs.drop (56 * i)).take 56
/-- A chunk's sectors. -/
def secs (n : Nat) (xs : List Nat) (m : Nat) : List (List Nat) := (List.range m).map fun i => SM.sec n (ld xs i)
/-- May data be a chunk's? -/
def fit (n : Nat) (xs : List Nat) : Bool := decide (n ≠ 0) && (decide (0 < xs.length) && (decide (xs.length % 56 = 0) && decide (xs.length ≤ 3584)))
def putS (n : Nat) (xs : List Nat) : List (List Nat) := if fit n xs then secs n xs (xs.length / 56) else []
def putE (n : Nat) (xs : List Nat) : Int := if n = 0 then 1 else if xs.length = 0 ∨ xs.length % 56 ≠ 0 then 4 else if 3584 < xs.length then 3 else 0

/-- The first k sectors are one chunk's. -/
def okTo (X : List (List Nat)) (k : Nat) : Prop := ∀ j, j < k → (X.getD j []).length = 64 ∧ SM.val (X.getD j []) 8 = SM.val (X.getD 0 []) 8 ∧ SM.val (X.getD j []) 8 ≠ 0
def okB (X : List (List Nat)) (k : Nat) : Bool := (List.range k).all fun j => ((X.getD j []).length == 64) && ((SM.val (X.getD j []) 8 == SM.val (X.getD 0 []) 8) && (SM.val (X.getD j []) 8 != 0))
theorem okB_iff (X : List (List Nat)) (k : Nat) : okB X k = true ↔ okTo X k := by
  simp only [okB, okTo, List.all_eq_true, List.mem_range, Bool.and_eq_true, beq_iff_eq, bne_iff_ne]
def yes (X : List (List Nat)) : Bool := decide (1 ≤ X.length) && (decide (X.length ≤ 64) && okB X X.length)
def tN (X : List (List Nat)) : Nat := if yes X then SM.val (X.getD 0 []) 8 else 0
/-- The loads of the first k sectors. -/
def loads (X : List (List Nat)) (k : Nat) : List Nat := ((X.take k).map fun x => x.drop 8).flatten
def tL (X : List (List Nat)) : List Nat := if yes X then loads X X.length else []

theorem ld_len {xs : List Nat} {i : Nat} (h : 56 * i + 56 ≤ xs.length) : (ld xs i).length = 56 := by simp [ld]; omega
theorem ld_small {xs : List Nat} (h : ∀ x ∈ xs, x < 256) (i : Nat) : ∀ x ∈ ld xs i, x < 256 := fun x hx => h x (List.mem_of_mem_drop (List.mem_of_mem_take hx))
theorem secs_len (n : Nat) (xs : List Nat) (m : Nat) : (secs n xs m).length = m := by simp [secs]
theorem secs_get (n : Nat) (xs : List Nat) {m j : Nat} (h : j < m) : (secs n xs m).getD j [] = SM.sec n (ld xs j) := by simp [secs, List.getD, h]

theorem fit_iff {n : Nat} {xs : List Nat} : fit n xs = true ↔ n ≠ 0 ∧ 0 < xs.length ∧ xs.length % 56 = 0 ∧ xs.length ≤ 3584 := by simp [fit]
theorem putE_fit (n : Nat) (xs : List Nat) : putE n xs = 0 ↔ fit n xs = true := by
  rw [fit_iff]
  unfold putE
  by_cases h1 : n = 0
  · simp [h1]
  · rw [if_neg h1]
    by_cases h2 : xs.length = 0 ∨ xs.length % 56 ≠ 0
    · rw [if_pos h2]; simp only [Int.reduceEq, false_iff]; omega
    · rw [if_neg h2]
      by_cases h3 : 3584 < xs.length
      · rw [if_pos h3]; simp only [Int.reduceEq, false_iff]; omega
      · rw [if_neg h3]; simp only [true_iff]; omega

theorem yes_iff {X : List (List Nat)} : yes X = true ↔ 1 ≤ X.length ∧ X.length ≤ 64 ∧ okTo X X.length := by
  rw [← okB_iff]; simp [yes]

theorem loads_zero (X : List (List Nat)) : loads X 0 = [] := by simp [loads]
theorem loads_succ (X : List (List Nat)) {k : Nat} (h : k < X.length) : loads X (k + 1) = loads X k ++ (X.getD k []).drop 8 := by
  have e : X[k] = X.getD k [] := by simp [List.getD, h]
  simp [loads, List.take_succ_eq_append_getElem h, e]
theorem loads_len {X : List (List Nat)} : ∀ {k : Nat}, k ≤ X.length → (∀ j, j < k → (X.getD j []).length = 64) → (loads X k).length = 56 * k
  | 0, _, _ => by simp [loads]
  | k + 1, h, h2 => by
    rw [loads_succ X (by omega), List.length_append, loads_len (by omega) (fun j hj => h2 j (by omega)), List.length_drop, h2 k (by omega)]
    omega
/-- The loads of a chunk's sectors are its data. -/
theorem loads_secs (n : Nat) (xs : List Nat) (m : Nat) (h : 56 * m ≤ xs.length) : ∀ k, k ≤ m → loads (secs n xs m) k = xs.take (56 * k)
  | 0, _ => by simp [loads]
  | k + 1, hk => by
    rw [loads_succ _ (by rw [secs_len]; omega), loads_secs n xs m h k (by omega), secs_get n xs (by omega)]
    have e1 : (SM.sec n (ld xs k)).drop 8 = ld xs k := by
      unfold SM.sec
      rw [ld_len (by omega)]
      simp [SM.mk_len, SM.z]
    rw [e1]
    unfold ld
    have e2 : 56 * (k + 1) = 56 * k + 56 := by omega
    rw [e2, List.take_add]

/-- What Put makes, Take tells. -/
theorem okTo_secs {n : Nat} (h0 : n ≠ 0) (hn : n < 256 ^ 8) (xs : List Nat) (m : Nat) (h : 56 * m ≤ xs.length) : okTo (secs n xs m) m := fun j hj => by
  rw [secs_get n xs hj, secs_get n xs (j := 0) (by omega)]
  exact ⟨SM.sec_len (by rw [ld_len (by omega)]; exact Nat.le_refl _), by rw [SM.val_sec hn, SM.val_sec hn], by rw [SM.val_sec hn]; exact h0⟩

theorem put_take {n : Nat} {xs : List Nat} (hn : n < 256 ^ 8) (h : fit n xs = true) : yes (putS n xs) = true ∧ tN (putS n xs) = n ∧ tL (putS n xs) = xs := by
  obtain ⟨h0, h1, h2, h3⟩ := fit_iff.1 h
  have e : putS n xs = secs n xs (xs.length / 56) := by simp [putS, h]
  rw [e]
  have hl : 56 * (xs.length / 56) = xs.length := by omega
  have hy : yes (secs n xs (xs.length / 56)) = true := by
    rw [yes_iff, secs_len]
    exact ⟨by omega, by omega, okTo_secs h0 hn xs _ (by omega)⟩
  refine ⟨hy, ?_, ?_⟩
  · unfold tN
    rw [if_pos hy, secs_get n xs (by omega), SM.val_sec hn]
  · unfold tL
    rw [if_pos hy, loads_secs n xs _ (by omega) _ (by rw [secs_len]; exact Nat.le_refl _), secs_len, hl, List.take_of_length_le (Nat.le_refl _)]

/-- A chunk, some sectors of which are another one's. -/
def mix (c : List Bool) (x y : List (List Nat)) (k : Nat) : List (List Nat) := (List.range k).map fun i => if c.getD i false = true then y.getD i [] else x.getD i []
/-- How many are the other one's. -/
def cnt (c : List Bool) (k : Nat) : Nat := ((List.range k).filter fun i => c.getD i false).length
theorem mix_len (c : List Bool) (x y : List (List Nat)) (k : Nat) : (mix c x y k).length = k := by simp [mix]
theorem mix_get (c : List Bool) (x y : List (List Nat)) {k j : Nat} (h : j < k) : (mix c x y k).getD j [] = if c.getD j false = true then y.getD j [] else x.getD j [] := by simp [mix, List.getD, h]; rfl
theorem cnt_succ (c : List Bool) (k : Nat) : cnt c (k + 1) = cnt c k + if c.getD k false = true then 1 else 0 := by
  simp only [cnt, List.range_succ, List.filter_append, List.length_append]
  split <;> simp_all
theorem cnt_le (c : List Bool) : ∀ k, cnt c k ≤ k
  | 0 => by simp [cnt]
  | k + 1 => by have := cnt_le c k; rw [cnt_succ]; split <;> omega
theorem cnt_none (c : List Bool) : ∀ {k : Nat}, cnt c k = 0 → ∀ j, j < k → c.getD j false = false
  | 0, _, j, hj => by omega
  | k + 1, h, j, hj => by
    rw [cnt_succ] at h
    by_cases e : j = k
    · subst e
      cases hc : c.getD j false with
      | false => rfl
      | true => rw [hc] at h; simp at h
    · exact cnt_none c (k := k) (by omega) j (by omega)
theorem cnt_all (c : List Bool) : ∀ {k : Nat}, cnt c k = k → ∀ j, j < k → c.getD j false = true
  | 0, _, j, hj => by omega
  | k + 1, h, j, hj => by
    rw [cnt_succ] at h
    have h2 := cnt_le c k
    by_cases e : j = k
    · subst e
      cases hc : c.getD j false with
      | true => rfl
      | false => rw [hc] at h; simp at h; omega
    · refine cnt_all c (k := k) ?_ j (by omega)
      split at h <;> omega

theorem mix_none {c : List Bool} {x y : List (List Nat)} {k : Nat} (h : cnt c k = 0) (hx : x.length = k) : mix c x y k = x := by
  apply List.ext_getElem
  · rw [mix_len, hx]
  · intro i h1 h2
    have e1 : (mix c x y k)[i] = (mix c x y k).getD i [] := by simp [List.getD, h1]
    have e2 : x[i] = x.getD i [] := by simp [List.getD, h2]
    rw [e1, e2, mix_get c x y (by omega), cnt_none c h i (by omega)]
    simp
theorem mix_all {c : List Bool} {x y : List (List Nat)} {k : Nat} (h : cnt c k = k) (hy : y.length = k) : mix c x y k = y := by
  apply List.ext_getElem
  · rw [mix_len, hy]
  · intro i h1 h2
    have e1 : (mix c x y k)[i] = (mix c x y k).getD i [] := by simp [List.getD, h1]
    have e2 : y[i] = y.getD i [] := by simp [List.getD, h2]
    rw [e1, e2, mix_get c x y (by omega), cnt_all c h i (by omega)]
    simp

theorem some_of {c : List Bool} {k : Nat} (h0 : cnt c k ≠ 0) (hk : cnt c k ≠ k) : (∃ i, i < k ∧ c.getD i false = true) ∧ ∃ j, j < k ∧ c.getD j false = false := by
  constructor
  · refine Classical.byContradiction fun hn => h0 ?_
    have : ∀ i, i < k → c.getD i false = false := fun i hi => by
      cases e : c.getD i false with
      | false => rfl
      | true => exact absurd ⟨i, hi, e⟩ hn
    clear hn h0 hk
    induction k with
    | zero => simp [cnt]
    | succ k ih => rw [cnt_succ, ih (fun i hi => this i (by omega)), this k (by omega)]; simp
  · refine Classical.byContradiction fun hn => hk ?_
    have : ∀ i, i < k → c.getD i false = true := fun i hi => by
      cases e : c.getD i false with
      | true => rfl
      | false => exact absurd ⟨i, hi, e⟩ hn
    clear hn h0 hk
    induction k with
    | zero => simp [cnt]
    | succ k ih => rw [cnt_succ, ih (fun i hi => this i (by omega)), this k (by omega)]; simp

/-- A mix of two chunks is a chunk just where the stamps are one. -/
theorem mix_yes {c : List Bool} {n m k : Nat} {xa xb : List Nat} (hn : n < 256 ^ 8) (hm : m < 256 ^ 8) (m0 : m ≠ 0) (h1 : 1 ≤ k) (h64 : k ≤ 64) (ha : 56 * k ≤ xa.length) (hb : 56 * k ≤ xb.length) (h0 : cnt c k ≠ 0) (hk : cnt c k ≠ k) :
    yes (mix c (secs n xa k) (secs m xb k) k) = decide (n = m) := by
  have hv : ∀ j, j < k → SM.val ((mix c (secs n xa k) (secs m xb k) k).getD j []) 8 = if c.getD j false = true then m else n := fun j hj => by
    rw [mix_get c _ _ hj]
    split
    · rw [secs_get m xb hj, SM.val_sec hm]
    · rw [secs_get n xa hj, SM.val_sec hn]
  have hl : ∀ j, j < k → ((mix c (secs n xa k) (secs m xb k) k).getD j []).length = 64 := fun j hj => by
    rw [mix_get c _ _ hj]
    split
    · rw [secs_get m xb hj, SM.sec_len (by rw [ld_len (by omega)]; exact Nat.le_refl _)]
    · rw [secs_get n xa hj, SM.sec_len (by rw [ld_len (by omega)]; exact Nat.le_refl _)]
  rw [Bool.eq_iff_iff, decide_eq_true_eq, yes_iff, mix_len]
  constructor
  · rintro ⟨_, _, ok⟩
    obtain ⟨⟨i, hi, ei⟩, j, hj, ej⟩ := some_of h0 hk
    have h2 := (ok i hi).2.1
    have h3 := (ok j hj).2.1
    rw [hv i hi, ei] at h2
    rw [hv j hj, ej] at h3
    simp at h2 h3
    exact h3.trans h2.symm
  · rintro rfl
    refine ⟨h1, h64, fun j hj => ⟨hl j hj, ?_, ?_⟩⟩
    · rw [hv j hj, hv 0 (by omega)]; split <;> split <;> rfl
    · rw [hv j hj]; split <;> assumption
end CM
end Go.Proofs.YtfjlpifaaknmpaaGreat

/- Segments over an array of disks as plain data: which chunks count, what is written, the highest stamp. No text of the program is named. -/
set_option linter.unusedSimpArgs false
set_option linter.unusedVariables false
set_option maxRecDepth 100000
namespace Go.Proofs.YtfjlpifaaknmpaaGreat
namespace SP

/-- K, N, Segs, and the first sector. -/
structure Geo where
  k : Nat
  n : Nat
  s : Nat
  f : Nat
structure Geo.Ok (g : Geo) (R : AM.Raw) : Prop where
  k1 : 1 ≤ g.k
  kn : g.k < g.n
  n255 : g.n ≤ 255
  s1 : 1 ≤ g.s
  s2 : g.s ≤ 128
  room : g.f + 8 * g.s ≤ R.n
  len : R.C.length = g.n

def why (R : AM.Raw) (g : Geo) (slot : Int) : Nat := if R.off then 8 else if 0 ≤ slot ∧ slot < g.s then 0 else 6
def whyD (R : AM.Raw) (g : Geo) (d slot : Int) : Nat := if why R g slot ≠ 0 then why R g slot else if 0 ≤ d ∧ d < g.n then 0 else 6
theorem why_zero {R : AM.Raw} {g : Geo} {slot : Int} (h : why R g slot = 0) : R.off = false ∧ 0 ≤ slot ∧ slot < g.s := by
  unfold why at h
  split at h
  · omega
  · split at h
    · rename_i h1 h2
      exact ⟨by simpa using h1, h2⟩
    · omega
/-- The sectors of a disk in a slot; of a lost one none. -/
def sects (R : AM.Raw) (g : Geo) (slot d : Nat) : List (List Nat) := if R.on (d : Int) then (List.range 8).map (fun i => AM.look R.C d (g.f + 8 * slot + i)) else []
/-- The first i of them. -/
def sectTo (R : AM.Raw) (g : Geo) (slot d i : Nat) : List (List Nat) := (List.range i).map (fun i => AM.look R.C d (g.f + 8 * slot + i))
theorem sectTo_len (R : AM.Raw) (g : Geo) (slot d i : Nat) : (sectTo R g slot d i).length = i := by simp [sectTo]
theorem sectTo_succ (R : AM.Raw) (g : Geo) (slot d i : Nat) : sectTo R g slot d (i + 1) = sectTo R g slot d i ++ [AM.look R.C d (g.f + 8 * slot + i)] := by simp [sectTo, List.range_succ]
theorem sects_on {R : AM.Raw} {d : Nat} (h : R.on (d : Int) = true) (g : Geo) (slot : Nat) : sects R g slot d = sectTo R g slot d 8 := by simp [sects, sectTo, h]
theorem sects_off {R : AM.Raw} {d : Nat} (h : R.on (d : Int) = false) (g : Geo) (slot : Nat) : sects R g slot d = [] := by simp [sects, h]

theorem on_spot {R : AM.Raw} {d : Nat} (h : R.on (d : Int) = true) : ∃ xs, R.C[d]? = some (some xs) := by
  obtain ⟨_, _, xs, h⟩ := AM.on_iff h
  exact ⟨xs, by simpa using h⟩
theorem on_iff_C {R : AM.Raw} {d : Nat} : R.on (d : Int) = (R.C.getD d none).isSome := by
  by_cases hl : d < R.C.length
  · simp [AM.Raw.on, hl]
  · simp [AM.Raw.on, hl, List.getD]
theorem fitG {g : Geo} {R : AM.Raw} (h : g.Ok R) {slot i : Nat} (hs : slot < g.s) (hi : i < 8) : g.f + 8 * slot + i < R.n := by
  have := h.room
  omega
theorem reach_on {g : Geo} {R : AM.Raw} (h : g.Ok R) (h0 : R.off = false) {slot d i : Nat} (hs : slot < g.s) (hi : i < 8) (hd : d < g.n) : R.reach (d : Int) ((g.f + 8 * slot + i : Nat) : Int) = if R.on (d : Int) then 0 else 9 := by
  have h1 := fitG h hs hi
  have h2 := h.len
  unfold AM.Raw.reach
  rw [h0]
  simp only [Bool.false_eq_true, if_false]
  rw [if_pos ⟨by omega, by omega, by omega, by omega⟩]
theorem sect_ok {g : Geo} {R : AM.Raw} (ok : R.Ok) (h : g.Ok R) {slot d i : Nat} (hs : slot < g.s) (hi : i < 8) (hd : R.on (d : Int) = true) : (AM.look R.C d (g.f + 8 * slot + i)).length = 64 ∧ ∀ x ∈ AM.look R.C d (g.f + 8 * slot + i), x < 256 :=
  AM.look_ok ok.C (on_spot hd) (fitG h hs hi)
def yesD (R : AM.Raw) (g : Geo) (slot d : Nat) : Bool := CM.yes (sects R g slot d)
def numD (R : AM.Raw) (g : Geo) (slot d : Nat) : Nat := CM.tN (sects R g slot d)
def datD (R : AM.Raw) (g : Geo) (slot d : Nat) : List Nat := CM.tL (sects R g slot d)
theorem yes_on {R : AM.Raw} {g : Geo} {slot d : Nat} (h : yesD R g slot d = true) : R.on (d : Int) = true := by
  cases c : R.on (d : Int)
  · unfold yesD at h
    rw [sects_off c] at h
    simp [CM.yes] at h
  · rfl
theorem dat_len {R : AM.Raw} {g : Geo} {slot d : Nat} (h : yesD R g slot d = true) : (datD R g slot d).length = 448 := by
  have hon := yes_on h
  unfold yesD at h
  have h' := (CM.yes_iff.1 h)
  unfold datD CM.tL
  rw [if_pos h]
  rw [sects_on hon] at h' ⊢
  rw [sectTo_len] at h' ⊢
  rw [CM.loads_len (by rw [sectTo_len]; omega) (fun j hj => (h'.2.2 j hj).1)]
/-- A chunk counts for a stamp. -/
def has (R : AM.Raw) (g : Geo) (slot m d : Nat) : Bool := yesD R g slot d && (numD R g slot d == m)
def hits (R : AM.Raw) (g : Geo) (slot m j : Nat) : List Nat := (List.range j).filter (has R g slot m)
theorem hits_zero (R : AM.Raw) (g : Geo) (slot m : Nat) : hits R g slot m 0 = [] := rfl
theorem hits_succ (R : AM.Raw) (g : Geo) (slot m j : Nat) : hits R g slot m (j + 1) = hits R g slot m j ++ (if has R g slot m j then [j] else []) := by
  unfold hits
  rw [List.range_succ, List.filter_append]
  congr 1
  cases h : has R g slot m j <;> simp [h]
theorem hits_mem {R : AM.Raw} {g : Geo} {slot m j x : Nat} (h : x ∈ hits R g slot m j) : x < j ∧ has R g slot m x = true := by
  unfold hits at h
  obtain ⟨h1, h2⟩ := List.mem_filter.1 h
  exact ⟨List.mem_range.1 h1, h2⟩
theorem hits_len_le (R : AM.Raw) (g : Geo) (slot m j : Nat) : (hits R g slot m j).length ≤ j := by
  have := List.length_filter_le (has R g slot m) (List.range j)
  simpa [hits] using this
theorem hits_pre {R : AM.Raw} {g : Geo} {slot m j i : Nat} (h : j ≤ i) : ∃ l, hits R g slot m i = hits R g slot m j ++ l := by
  induction i with
  | zero => obtain rfl : j = 0 := by omega
            exact ⟨[], by simp⟩
  | succ i ih =>
    by_cases c : j = i + 1
    · subst c; exact ⟨[], by simp⟩
    · obtain ⟨l, hl⟩ := ih (by omega)
      rw [hits_succ, hl]
      exact ⟨_, List.append_assoc _ _ _⟩
/-- The first k of them stand once they are k. -/
theorem hits_take {R : AM.Raw} {g : Geo} {slot m j : Nat} (hj : j ≤ g.n) (h : (hits R g slot m j).length = g.k) : hits R g slot m j = (hits R g slot m g.n).take g.k := by
  obtain ⟨l, hl⟩ := hits_pre (R := R) (g := g) (slot := slot) (m := m) hj
  rw [hl, ← h, List.take_left]
theorem hits_pair (R : AM.Raw) (g : Geo) (slot m j : Nat) : (hits R g slot m j).Pairwise (· < ·) := by
  unfold hits
  exact List.Pairwise.filter _ (List.pairwise_lt_range)

/-- What a Read finds. -/
def found (R : AM.Raw) (g : Geo) (slot m : Nat) : List Nat := (hits R g slot m g.n).take g.k
def told (R : AM.Raw) (g : Geo) (slot : Nat) (l : List Nat) : List (List Nat) := l.map (datD R g slot)

/-- One chunk's sectors are written, the first j; till an error. -/
def layTo (R : AM.Raw) (g : Geo) (slot d : Nat) (S : List (List Nat)) : Nat → Nat × AM.Raw
  | 0 => (0, R)
  | j + 1 => if (layTo R g slot d S j).1 = 0 then (layTo R g slot d S j).2.writes (d : Int) ((g.f + 8 * slot + j : Nat) : Int) (S.getD j []) else layTo R g slot d S j
def lays (R : AM.Raw) (g : Geo) (slot d m : Nat) (part : List Nat) : Nat × AM.Raw := layTo R g slot d (CM.secs m part 8) 8
theorem layTo_succ {R : AM.Raw} {g : Geo} {slot d : Nat} {S : List (List Nat)} {j : Nat} (h : (layTo R g slot d S j).1 = 0) : layTo R g slot d S (j + 1) = (layTo R g slot d S j).2.writes (d : Int) ((g.f + 8 * slot + j : Nat) : Int) (S.getD j []) := by
  simp [layTo, h]
theorem layTo_stop {R : AM.Raw} {g : Geo} {slot d : Nat} {S : List (List Nat)} {j : Nat} (h : (layTo R g slot d S j).1 ≠ 0) : ∀ i, j ≤ i → layTo R g slot d S i = layTo R g slot d S j := fun i hi => by
  induction i with
  | zero => obtain rfl : j = 0 := by omega
            rfl
  | succ i ih =>
    by_cases c : j = i + 1
    · subst c; rfl
    · have := ih (by omega)
      simp [layTo, this, h]

/-- What a write leaves as it was. -/
structure Kept (R R' : AM.Raw) : Prop where
  len : R'.C.length = R.C.length
  n : R'.n = R.n
  on : ∀ d : Int, R'.on d = R.on d
theorem Kept.refl (R : AM.Raw) : Kept R R := ⟨rfl, rfl, fun _ => rfl⟩
theorem Kept.trans {R R' R'' : AM.Raw} (h : Kept R R') (k : Kept R' R'') : Kept R R'' := ⟨k.len.trans h.len, k.n.trans h.n, fun d => (k.on d).trans (h.on d)⟩
theorem burnt_kept (R : AM.Raw) : Kept R R.burnt := by
  unfold AM.Raw.burnt
  split
  · exact Kept.refl R
  · exact ⟨rfl, rfl, fun _ => rfl⟩
theorem fly_kept (R : AM.Raw) (d k : Nat) (b : List Nat) : Kept R (R.fly d k b) := by
  refine ⟨by simp [AM.Raw.fly, AM.lay_len], rfl, fun e => ?_⟩
  unfold AM.Raw.on AM.Raw.fly
  simp only [AM.lay_len, AM.lay_on]
theorem writes_kept (R : AM.Raw) (d k : Int) (b : List Nat) : Kept R (R.writes d k b).2 := by
  unfold AM.Raw.writes
  split
  · exact Kept.refl R
  · split
    · exact Kept.refl R
    · split
      · exact burnt_kept R
      · exact (burnt_kept R).trans (fly_kept _ _ _ _)
theorem layTo_kept (R : AM.Raw) (g : Geo) (slot d : Nat) (S : List (List Nat)) : ∀ j, Kept R (layTo R g slot d S j).2
  | 0 => Kept.refl R
  | j + 1 => by
    unfold layTo
    split
    · exact (layTo_kept R g slot d S j).trans (writes_kept _ _ _ _)
    · exact layTo_kept R g slot d S j
theorem Geo.Ok.kept {g : Geo} {R R' : AM.Raw} (h : g.Ok R) (k : Kept R R') : g.Ok R' := ⟨h.k1, h.kn, h.n255, h.s1, h.s2, by rw [k.n]; exact h.room, by rw [k.len]; exact h.len⟩

/-- A segment's chunks, disk by disk. -/
def wrTo (R : AM.Raw) (g : Geo) (slot m : Nat) (E : List (List Nat)) : Nat → Nat × AM.Raw
  | 0 => (0, R)
  | d + 1 => if (wrTo R g slot m E d).1 = 0 ∧ R.on (d : Int) = true then lays (wrTo R g slot m E d).2 g slot d m (E.getD d []) else wrTo R g slot m E d
theorem wrTo_on {R : AM.Raw} {g : Geo} {slot m : Nat} {E : List (List Nat)} {d : Nat} (h : (wrTo R g slot m E d).1 = 0) (ho : R.on (d : Int) = true) : wrTo R g slot m E (d + 1) = lays (wrTo R g slot m E d).2 g slot d m (E.getD d []) := by
  simp [wrTo, h, ho]
theorem wrTo_off {R : AM.Raw} {g : Geo} {slot m : Nat} {E : List (List Nat)} {d : Nat} (ho : R.on (d : Int) = false) : wrTo R g slot m E (d + 1) = wrTo R g slot m E d := by
  simp [wrTo, ho]
theorem wrTo_stop {R : AM.Raw} {g : Geo} {slot m : Nat} {E : List (List Nat)} {j : Nat} (h : (wrTo R g slot m E j).1 ≠ 0) : ∀ i, j ≤ i → wrTo R g slot m E i = wrTo R g slot m E j := fun i hi => by
  induction i with
  | zero => obtain rfl : j = 0 := by omega
            rfl
  | succ i ih =>
    by_cases c : j = i + 1
    · subst c; rfl
    · have := ih (by omega)
      simp [wrTo, this, h]
theorem wrTo_kept (R : AM.Raw) (g : Geo) (slot m : Nat) (E : List (List Nat)) : ∀ d, Kept R (wrTo R g slot m E d).2
  | 0 => Kept.refl R
  | d + 1 => by
    unfold wrTo
    split
    · exact (wrTo_kept R g slot m E d).trans (layTo_kept _ _ _ _ _ _)
    · exact wrTo_kept R g slot m E d

/-- The greatest of numbers; 0 of none. -/
def top (l : List Nat) : Nat := l.foldl max 0
theorem top_app (l : List Nat) (x : Nat) : top (l ++ [x]) = max (top l) x := by simp [top]
theorem foldl_max (l : List Nat) : ∀ a, l.foldl max a = max a (top l) := by
  induction l with
  | nil => intro a; simp [top]
  | cons x l ih =>
    intro a
    unfold top
    simp only [List.foldl_cons]
    rw [ih (max a x), ih (max 0 x)]
    omega
theorem top_cons (x : Nat) (l : List Nat) : top (x :: l) = max x (top l) := by
  unfold top
  simp only [List.foldl_cons]
  rw [foldl_max]
  simp [top]
theorem top_le {l : List Nat} {b : Nat} (h : ∀ x ∈ l, x ≤ b) : top l ≤ b := by
  induction l with
  | nil => simp [top]
  | cons x l ih =>
    rw [top_cons]
    have h1 := h x (by simp)
    have h2 := ih (fun y hy => h y (by simp [hy]))
    omega
theorem le_top {l : List Nat} {x : Nat} (h : x ∈ l) : x ≤ top l := by
  induction l with
  | nil => simp at h
  | cons y l ih =>
    rw [top_cons]
    rcases List.mem_cons.1 h with rfl | h
    · omega
    · have := ih h; omega
theorem top_mem {l : List Nat} (h : l ≠ []) : top l ∈ l := by
  induction l with
  | nil => exact absurd rfl h
  | cons y l ih =>
    rw [top_cons]
    by_cases c : l = []
    · subst c
      simp [top]
    · by_cases d : top l ≤ y
      · rw [Nat.max_eq_left d]; simp
      · rw [Nat.max_eq_right (by omega)]
        simp [ih c]

/-- The stamps ahead in a disk's sectors. -/
def marks (R : AM.Raw) (g : Geo) (slot d : Nat) : List Nat := (sects R g slot d).map (fun b => SM.val b 8)
def markTo (R : AM.Raw) (g : Geo) (slot d : Nat) : List Nat := (List.range d).flatMap (marks R g slot)
theorem markTo_succ (R : AM.Raw) (g : Geo) (slot d : Nat) : markTo R g slot (d + 1) = markTo R g slot d ++ marks R g slot d := by simp [markTo, List.range_succ]
def high (R : AM.Raw) (g : Geo) (slot : Nat) : Nat := top (markTo R g slot g.n)

/-- The stamps of what chunks there are. -/
def stampTo (R : AM.Raw) (g : Geo) (slot d : Nat) : List Nat := ((List.range d).filter (yesD R g slot)).map (numD R g slot)
theorem stampTo_succ (R : AM.Raw) (g : Geo) (slot d : Nat) : stampTo R g slot (d + 1) = stampTo R g slot d ++ (if yesD R g slot d then [numD R g slot d] else []) := by
  unfold stampTo
  rw [List.range_succ, List.filter_append, List.map_append]
  congr 1
  cases h : yesD R g slot d <;> simp [h]
theorem stampTo_le (R : AM.Raw) (g : Geo) (slot d : Nat) : (stampTo R g slot d).length ≤ d := by
  have := List.length_filter_le (yesD R g slot) (List.range d)
  simpa [stampTo] using this
/-- The greatest that stands at least k times. -/
def often (S : List Nat) (k : Nat) : Nat := top (S.filter (fun m => decide (k ≤ S.count m)))
def whole (R : AM.Raw) (g : Geo) (slot : Nat) : Nat := often (stampTo R g slot g.n) g.k
theorem often_perm {S T : List Nat} (h : S.Perm T) (k : Nat) : often S k = often T k := by
  unfold often
  have e : (fun m => decide (k ≤ S.count m)) = fun m => decide (k ≤ T.count m) := by
    funext m
    rw [h.count_eq]
  rw [e]
  have hp := h.filter (fun m => decide (k ≤ T.count m))
  apply Nat.le_antisymm
  · exact top_le fun x hx => le_top (hp.mem_iff.1 hx)
  · exact top_le fun x hx => le_top (hp.mem_iff.2 hx)
end SP
end Go.Proofs.YtfjlpifaaknmpaaGreat

/- Stripes in memory (SI); contracts of the calls of package stripe that only look. -/
set_option linter.unusedSimpArgs false
set_option linter.unusedVariables false
set_option maxRecDepth 100000
namespace Go.Proofs.YtfjlpifaaknmpaaGreat
open Go.RowKit

abbrev geoV (g : SP.Geo) : Value := .agg #[.int .i64 (g.k : Int), .int .i64 (g.n : Int), .int .i64 (g.s : Int)]

/-- Stripes at block s over the array at block a. -/
structure SI (F : Nat → Prop) (w : World) (s a : Nat) (g : SP.Geo) (R : AM.Raw) : Prop where
  i : Is F w a R
  top : w.heap[s]? = some (.cells #[ptr a, .int .i64 (g.k : Int), .int .i64 (g.n : Int), .int .i64 (g.s : Int), .int .i64 (g.f : Int)] 86 (0, 0))
  nf : ¬ F s
  ok : g.Ok R

section
variable {F F' : Nat → Prop} {w w' : World} {s a : Nat} {g : SP.Geo} {R R' : AM.Raw}
theorem SI.lt (h : SI F w s a g R) : s < w.heap.size := (Array.getElem?_eq_some_iff.1 h.top).1
theorem SI.step (h : SI F w s a g R) (hi : Is F' w' a R') (st : Step F w F' w') (ok : g.Ok R') : SI F' w' s a g R' :=
  ⟨hi, by rw [st.upd.block s h.lt h.nf]; exact h.top, fun hf => by
    rcases st.sub s hf with h1 | h1
    · exact h.nf h1
    · have := h.lt; omega, ok⟩
theorem SI.keep (h : SI F w s a g R) (gr : w.grownBy w' none) : SI F w' s a g R := h.step (h.i.keep gr) (Step.new gr) h.ok
theorem SI.at1 (h : SI F w s a g R) : w.cell? ⟨s, 0, none⟩ = some (ptr a) := topCell (j := 0) h.top rfl
theorem SI.at2 (h : SI F w s a g R) : w.cell? ⟨s, 1, none⟩ = some (.int .i64 (g.k : Int)) := topCell (j := 1) h.top rfl
theorem SI.at3 (h : SI F w s a g R) : w.cell? ⟨s, 2, none⟩ = some (.int .i64 (g.n : Int)) := topCell (j := 2) h.top rfl
theorem SI.at4 (h : SI F w s a g R) : w.cell? ⟨s, 3, none⟩ = some (.int .i64 (g.s : Int)) := topCell (j := 3) h.top rfl
theorem SI.at5 (h : SI F w s a g R) : w.cell? ⟨s, 4, none⟩ = some (.int .i64 (g.f : Int)) := topCell (j := 4) h.top rfl

theorem smade_yes (h : SI F w s a g R) : Calls Tryz.prog 44 #[ptr s] w fun e w' => e = .returned (.bool true) ∧ w' = w := by
  have c0 := h.at1
  clear h
  go_enter Tryz.func44, Tryz.ntmps44
  go_wp2
  go_ret
  exact ⟨rfl, rfl⟩
theorem sarray_yes (h : SI F w s a g R) : Calls Tryz.prog 9 #[ptr s] w fun e w' => e = .returned (ptr a) ∧ w' = w := by
  have c0 := h.at1
  have H : Hid (SI F w s a g R) := h
  clear h
  go_enter Tryz.func9, Tryz.ntmps9
  go_wp2_with (go_at_call 44; refine (smade_yes H.out).mono ?_; rintro e w1 ⟨rfl, hw⟩; obtain rfl := hw.symm; clear hw)
  go_ret
  exact ⟨rfl, rfl⟩
theorem sreach_yes (h : SI F w s a g R) (slot : Int) : Calls Tryz.prog 45 #[ptr s, .int .i64 slot] w fun e w' => e = .returned (.int .i64 (SP.why R g slot : Int)) ∧ w' = w := by
  have c0 := h.at1
  have c3 := h.at4
  have H : Hid (SI F w s a g R) := h
  clear h
  obtain ⟨b, hb⟩ : ∃ b, b = R.off := ⟨_, rfl⟩
  have HB : Hid (b = R.off) := hb
  have HO : Hid (Calls Tryz.prog 86 #[ptr a] w fun e w' => e = .returned (.bool b) ∧ w' = w) := by rw [hb]; exact off_yes H.out.i
  obtain ⟨y, hy⟩ : ∃ y, y = SP.why R g slot := ⟨_, rfl⟩
  rw [← hy]
  unfold SP.why at hy
  rw [← hb] at hy
  clear hb
  cases b
  · simp only [Bool.false_eq_true, if_false] at hy
    by_cases h1 : slot < 0
    · rw [if_neg (by omega)] at hy
      subst hy
      go_enter Tryz.func45, Tryz.ntmps45
      go_wp2_with (first
        | (go_at_call 44; refine (smade_yes H.out).mono ?_; rintro e w1 ⟨rfl, hw⟩; obtain rfl := hw.symm; clear hw)
        | (go_at_call 86; refine HO.out.mono ?_; rintro e w1 ⟨rfl, hw⟩; obtain rfl := hw.symm; clear hw))
      go_ret
      exact ⟨rfl, rfl⟩
    · by_cases h2 : slot < (g.s : Int)
      · have h3 : ¬ (g.s : Int) ≤ slot := by omega
        rw [if_pos ⟨by omega, h2⟩] at hy
        subst hy
        go_enter Tryz.func45, Tryz.ntmps45
        go_wp2_with (first
          | (go_at_call 44; refine (smade_yes H.out).mono ?_; rintro e w1 ⟨rfl, hw⟩; obtain rfl := hw.symm; clear hw)
          | (go_at_call 86; refine HO.out.mono ?_; rintro e w1 ⟨rfl, hw⟩; obtain rfl := hw.symm; clear hw))
        go_ret
        exact ⟨rfl, rfl⟩
      · have h3 : (g.s : Int) ≤ slot := by omega
        rw [if_neg (by omega)] at hy
        subst hy
        go_enter Tryz.func45, Tryz.ntmps45
        go_wp2_with (first
          | (go_at_call 44; refine (smade_yes H.out).mono ?_; rintro e w1 ⟨rfl, hw⟩; obtain rfl := hw.symm; clear hw)
          | (go_at_call 86; refine HO.out.mono ?_; rintro e w1 ⟨rfl, hw⟩; obtain rfl := hw.symm; clear hw))
        go_ret
        exact ⟨rfl, rfl⟩
  · simp only [if_true] at hy
    subst hy
    go_enter Tryz.func45, Tryz.ntmps45
    go_wp2_with (first
      | (go_at_call 44; refine (smade_yes H.out).mono ?_; rintro e w1 ⟨rfl, hw⟩; obtain rfl := hw.symm; clear hw)
      | (go_at_call 86; refine HO.out.mono ?_; rintro e w1 ⟨rfl, hw⟩; obtain rfl := hw.symm; clear hw))
    go_ret
    exact ⟨rfl, rfl⟩
theorem sreach_at (h : SI F w s a g R) {slot c : Int} (hc : (SP.why R g slot : Int) = c) : Calls Tryz.prog 45 #[ptr s, .int .i64 slot] w fun e w' => e = .returned (.int .i64 c) ∧ w' = w := by
  subst hc
  exact sreach_yes h slot
theorem sbegin_yes (h : SI F w s a g R) {slot : Nat} (hs : slot < g.s) : Calls Tryz.prog 98 #[ptr s, .int .i64 (slot : Int)] w fun e w' => e = .returned (.int .i64 ((g.f + 8 * slot : Nat) : Int)) ∧ w' = w := by
  have c4 := h.at5
  have h1 := h.ok.room
  have h2 := h.i.ok.n2
  have i1 : IntKind.i64.wrap (8 * (slot : Int)) = 8 * (slot : Int) := IntWalk.i64_in _ (by omega)
  have i2 : IntKind.i64.wrap ((g.f : Int) + 8 * (slot : Int)) = ((g.f + 8 * slot : Nat) : Int) := by
    have e : (g.f : Int) + 8 * (slot : Int) = ((g.f + 8 * slot : Nat) : Int) := by omega
    rw [e]
    exact IntWalk.i64_in _ (by omega)
  clear h h1 h2
  go_enter Tryz.func98, Tryz.ntmps98
  go_wp2
  go_ret
  exact ⟨by first | rfl | (congr 2; omega), rfl⟩
end
end Go.Proofs.YtfjlpifaaknmpaaGreat

/- Contracts of code.May, asLong, fits and of the document's May and Even. -/
set_option maxRecDepth 100000
namespace Go.Proofs.YtfjlpifaaknmpaaGreat
open Go.RowKit

/-- Whether a shape may be. -/
def mayI (k n : Int) : Bool := decide (1 ≤ k) && (decide (k < n) && decide (n ≤ 255))
theorem mayI_iff {k n : Int} : mayI k n = true ↔ 1 ≤ k ∧ k < n ∧ n ≤ 255 := by unfold mayI; simp
theorem mayI_not {k n : Int} (h : ¬ (1 ≤ k ∧ k < n ∧ n ≤ 255)) : mayI k n = false := by
  rw [Bool.eq_false_iff]
  exact fun e => h (mayI_iff.1 e)

theorem codeMay_any (k n : Int) (w : World) : Calls Tryz.prog 91 #[.int .i64 k, .int .i64 n] w fun e w' => e = .returned (.bool (mayI k n)) ∧ w' = w := by
  by_cases h1 : 1 ≤ k
  · by_cases h2 : k < n
    · by_cases h3 : n ≤ 255
      · have HE : Hid (mayI k n = true) := mayI_iff.2 ⟨by omega, h2, by omega⟩
        go_enter Tryz.func91, Tryz.ntmps91
        go_wp2
        go_ret
        exact ⟨by rw [HE.out]; first | rfl | (rw [decide_eq_true h3]), rfl⟩
      · have HE : Hid (mayI k n = false) := mayI_not (by omega)
        go_enter Tryz.func91, Tryz.ntmps91
        go_wp2
        go_ret
        exact ⟨by rw [HE.out]; first | rfl | (rw [decide_eq_false h3]), rfl⟩
    · have HE : Hid (mayI k n = false) := mayI_not (by omega)
      go_enter Tryz.func91, Tryz.ntmps91
      go_wp2
      go_ret
      exact ⟨by rw [HE.out]; rfl, rfl⟩
  · have HE : Hid (mayI k n = false) := mayI_not (by omega)
    go_enter Tryz.func91, Tryz.ntmps91
    go_wp2
    go_ret
    exact ⟨by rw [HE.out]; rfl, rfl⟩

theorem refMay4_any (k n : Int) (w : World) : Calls Tryz.prog 93 #[.int .i64 k, .int .i64 n] w fun e w' => e = .returned (.bool (mayI k n)) ∧ w' = w := by
  by_cases h1 : 0 < k
  · by_cases h2 : k < n
    · by_cases h3 : n < 256
      · have HE : Hid (mayI k n = true) := mayI_iff.2 ⟨by omega, h2, by omega⟩
        go_enter Tryz.func93, Tryz.ntmps93
        go_wp2
        go_ret
        exact ⟨by rw [HE.out]; first | rfl | (rw [decide_eq_true h3]), rfl⟩
      · have HE : Hid (mayI k n = false) := mayI_not (by omega)
        go_enter Tryz.func93, Tryz.ntmps93
        go_wp2
        go_ret
        exact ⟨by rw [HE.out]; first | rfl | (rw [decide_eq_false h3]), rfl⟩
    · have HE : Hid (mayI k n = false) := mayI_not (by omega)
      go_enter Tryz.func93, Tryz.ntmps93
      go_wp2
      go_ret
      exact ⟨by rw [HE.out]; rfl, rfl⟩
  · have HE : Hid (mayI k n = false) := mayI_not (by omega)
    go_enter Tryz.func93, Tryz.ntmps93
    go_wp2
    go_ret
    exact ⟨by rw [HE.out]; rfl, rfl⟩

/-- Whether chunks are all as long. -/
def evenB (X : List (List Nat)) : Bool := (List.range X.length).all fun j => (X.getD j []).length == (X.getD 0 []).length
theorem evenB_iff {X : List (List Nat)} : evenB X = true ↔ ∀ j, j < X.length → (X.getD j []).length = (X.getD 0 []).length := by
  unfold evenB
  simp only [List.all_eq_true, List.mem_range, beq_iff_eq]
theorem evenB_not {X : List (List Nat)} {j : Nat} (hj : j < X.length) (h : (X.getD j []).length ≠ (X.getD 0 []).length) : evenB X = false := by
  rw [Bool.eq_false_iff]
  exact fun e => h (evenB_iff.1 e j hj)
theorem even_shape {X : List (List Nat)} (h : evenB X = true) : Shape X X.length (X.getD 0 []).length := ⟨rfl, evenB_iff.1 h⟩

set_option maxHeartbeats 1600000 in
theorem asLong_any {w : World} {r : Value} {vs : List Value} {X : List (List Nat)} (mr : Mat w r vs X) :
    Calls Tryz.prog 104 #[r] w fun e w' => e = .returned (.bool (evenB X)) ∧ w' = w := by
  obtain ⟨q, N, cap, rfl, hN⟩ := mr.row.opened
  have hs := mr.same
  have hNl : N ≤ 140737488351232 := by have := mr.row.len; omega
  by_cases h0 : N = 0
  · subst h0
    have HE : Hid (evenB X = true) := evenB_iff.2 fun j hj => by omega
    clear hN hs mr
    go_enter Tryz.func104, Tryz.ntmps104
    go_wp2_with fail
    go_loop [7] (fun ti => ti = .int .i64 0) (fun _ => 0)
    case atStart => exact rfl
    case round =>
      obtain rfl := hrel
      go_wp2
      go_ret
      exact ⟨by rw [HE.out]; rfl, rfl⟩
  · obtain ⟨b, off, rfl, hc⟩ := mr.row.spot (k := 0) (by omega)
    obtain ⟨p0, n0, c0, e0, hn0⟩ := (mr.vec 0 (by omega)).opened
    rw [e0, Nat.add_zero] at hc
    have HN : Hid (N = X.length ∧ n0 = (X.getD 0 []).length) := ⟨by omega, hn0⟩
    have MR : Hid (Mat w (.slice (some ⟨b, off, none⟩) N cap) vs X) := mr
    have hN0 : (0 : Int) < (N : Int) := by omega
    clear e0 hn0 hN hs mr
    go_enter Tryz.func104, Tryz.ntmps104
    go_wp2_with fail
    go_loop [7] (fun ti => ∃ k : Nat, k ≤ N ∧ ti = .int .i64 k ∧ Hid (∀ j, j < k → (X.getD j []).length = n0)) (fun ti => N - (intOf ti).toNat)
    case atStart => exact ⟨0, by omega, rfl, fun j hj => by omega⟩
    case round =>
      obtain ⟨k, hk, rfl, HA⟩ := hrel
      by_cases hlt : k < N
      · obtain ⟨b1, o1, e1, hr⟩ := MR.out.row.spot (k := k) (by have := HN.out; have := MR.out.same; omega)
        obtain ⟨rfl, rfl⟩ : b = b1 ∧ off = o1 := by
          injection e1 with e1
          injection e1 with e2 e3
          exact ⟨e2, e3⟩
        obtain ⟨pk, nk, ck, ek, hnk⟩ := (MR.out.vec k (by have := HN.out; omega)).opened
        rw [ek] at hr
        clear e1 ek
        have i2 : (k : Int) < (N : Int) := by omega
        have i3 : (0 : Int) ≤ (k : Int) := by omega
        by_cases he : nk = n0
        · have hne : ((nk : Int) != (n0 : Int)) = false := by simp [he]
          have HA' : Hid (∀ j, j < k + 1 → (X.getD j []).length = n0) := fun j hj => by
            by_cases e : j = k
            · subst e; omega
            · exact HA.out j (by omega)
          clear he hnk
          go_wp2
          go_round
          case rel => exact ⟨k + 1, by omega, by go_num, HA'⟩
          case measure => simp [intOf]; omega
        · have hne : ((nk : Int) != (n0 : Int)) = true := by simp; omega
          have HM : Hid (evenB X = false) := evenB_not (j := k) (by have := HN.out; omega) (by have := HN.out; omega)
          clear he hnk
          go_wp2
          go_ret
          exact ⟨by rw [HM.out]; rfl, rfl⟩
      · have HM : Hid (evenB X = true) := evenB_iff.2 fun j hj => by rw [HA.out j (by have := HN.out; omega)]; exact HN.out.2
        go_wp2
        go_ret
        exact ⟨by rw [HM.out]; rfl, rfl⟩

/-- Whether data are of a shape that may be. -/
def fitsB (k n : Int) (X : List (List Nat)) : Bool := mayI k n && (decide ((X.length : Int) = k) && evenB X)
theorem fitsB_iff {k n : Int} {X : List (List Nat)} : fitsB k n X = true ↔ (1 ≤ k ∧ k < n ∧ n ≤ 255) ∧ (X.length : Int) = k ∧ evenB X = true := by
  unfold fitsB
  rw [Bool.and_eq_true, Bool.and_eq_true, mayI_iff, decide_eq_true_iff]

theorem fits_any {k n : Int} {w : World} {r : Value} {vs : List Value} {X : List (List Nat)} (mr : Mat w r vs X) :
    Calls Tryz.prog 94 #[.int .i64 k, .int .i64 n, r] w fun e w' => e = .returned (.bool (fitsB k n X)) ∧ w' = w := by
  obtain ⟨q, N, cap, rfl, hN⟩ := mr.row.opened
  have hs := mr.same
  have hNl : N ≤ 140737488351232 := by have := mr.row.len; omega
  have HN : Hid (N = X.length) := by show _ = _; omega
  have HF : Hid (fitsB k n X = (mayI k n && (decide ((N : Int) = k) && evenB X))) := by show _ = _; unfold fitsB; rw [HN.out]
  have MM : Hid (∀ w, Calls Tryz.prog 91 #[.int .i64 k, .int .i64 n] w fun e w' => e = .returned (.bool (mayI k n)) ∧ w' = w) := fun w => codeMay_any k n w
  have AA : Hid (Calls Tryz.prog 104 #[.slice q N cap] w fun e w' => e = .returned (.bool (evenB X)) ∧ w' = w) := asLong_any mr
  clear hN hs mr
  generalize evenB X = be at *
  generalize mayI k n = bm at *
  by_cases hk : (N : Int) = k
  all_goals
    cases bm
    all_goals
      go_enter Tryz.func94, Tryz.ntmps94
      go_wp2_with (first
        | (go_at_call 91; refine (MM.out _).mono ?_; rintro e w1 ⟨rfl, hw⟩; obtain rfl := hw.symm; clear hw)
        | (go_at_call 104; refine AA.out.mono ?_; rintro e w1 ⟨rfl, hw⟩; obtain rfl := hw.symm; clear hw))
      go_ret
      exact ⟨by rw [HF.out]; first | rfl | (rw [decide_eq_true hk]; rfl) | (rw [decide_eq_false hk]; rfl) | (rw [decide_eq_true hk]; simp), rfl⟩
end Go.Proofs.YtfjlpifaaknmpaaGreat

/- The contract of hayrickref03.Identity. -/
set_option maxRecDepth 100000
namespace Go.Proofs.YtfjlpifaaknmpaaGreat
open Go.RowKit

theorem Sep.more {H : Nat} {us : List Value} (h : Sep us) (hh : ∀ j, j < us.length → Hi H (us.getD j undef)) {u : Value} (hu : Lo H u) : Sep (us ++ [u]) := by
  have e1 : ∀ j, j < us.length → (us ++ [u]).getD j undef = us.getD j undef := fun j hj => by simp [List.getD, List.getElem?_append, hj]
  have e2 : (us ++ [u]).getD us.length undef = u := by simp [List.getD]
  intro i j hi hj hne
  simp only [List.length_append, List.length_cons, List.length_nil] at hi hj
  by_cases h1 : i < us.length
  · by_cases h2 : j < us.length
    · rw [e1 i h1, e1 j h2]; exact h i j h1 h2 hne
    · obtain rfl : j = us.length := by omega
      rw [e1 i h1, e2]; exact ap_of (hh i h1) hu
  · obtain rfl : i = us.length := by omega
    rw [e2, e1 j (by omega)]; exact (ap_of (hh j (by omega)) hu).symm

theorem cell_new1 {W : World} {g : Nat} (x : Value) (t : TypeId) (h : g = W.heap.size) : (W.alloc (.cells #[x] t)).cell? ⟨g, 0, none⟩ = some x := by
  subst h
  have h := heap_alloc_new W (.cells #[x] t)
  unfold World.cell?
  rw [h]; rfl

end Go.Proofs.YtfjlpifaaknmpaaGreat

