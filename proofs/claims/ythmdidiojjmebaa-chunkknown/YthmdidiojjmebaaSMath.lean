/- Plain facts on stamps: eight bytes, the highest first; the order of texts that begin with them. No text of the program is named here. -/
import GoSem.Op.String
namespace Go.Proofs.Ythmdidiojjmebaa
namespace SM

/-- Noughts. -/
def z (n : Nat) : List Nat := List.replicate n 0
theorem z_len (n : Nat) : (z n).length = n := by simp [z]
theorem z_small (n : Nat) : ∀ x ∈ z n, x < 256 := fun x hx => by rw [(List.mem_replicate.1 hx).2]; decide
theorem z_drop (n k : Nat) : (z n).drop k = z (n - k) := by simp [z]
theorem z_take (n k : Nat) (h : k ≤ n) : (z n).take k = z k := by simp [z, Nat.min_eq_left h]
theorem z_get (n k : Nat) : (z n).getD k 0 = 0 := by
  by_cases h : k < n
  · simp [z, List.getD, h]
  · simp [z, List.getD, h]

/-- A stamp's eight bytes. -/
def mk (n : Nat) : List Nat := (List.range 8).map fun i => n / 256 ^ (7 - i) % 256
/-- The number of the first k bytes. -/
def val (xs : List Nat) : Nat → Nat
  | 0 => 0
  | k + 1 => 256 * val xs k + xs.getD k 0
/-- A sector. -/
def sec (n : Nat) (ld : List Nat) : List Nat := mk n ++ (ld ++ z (56 - ld.length))

theorem mk_len (n : Nat) : (mk n).length = 8 := by simp [mk]
theorem mk_small (n : Nat) : ∀ x ∈ mk n, x < 256 := fun x hx => by
  obtain ⟨i, _, rfl⟩ := List.mem_map.1 hx
  exact Nat.mod_lt _ (by decide)
theorem mk_get (n : Nat) {i : Nat} (h : i < 8) : (mk n).getD i 0 = n / 256 ^ (7 - i) % 256 := by simp [mk, List.getD, h]
theorem sec_len {n : Nat} {ld : List Nat} (h : ld.length ≤ 56) : (sec n ld).length = 64 := by simp [sec, mk_len, z_len]; omega
theorem sec_small {n : Nat} {ld : List Nat} (h : ∀ x ∈ ld, x < 256) : ∀ x ∈ sec n ld, x < 256 := fun x hx => by
  rcases List.mem_append.1 hx with h1 | h1
  · exact mk_small n x h1
  · rcases List.mem_append.1 h1 with h2 | h2
    · exact h x h2
    · exact z_small _ x h2

theorem getD_lt {xs : List Nat} (h : ∀ x ∈ xs, x < 256) (k : Nat) : xs.getD k 0 < 256 := by
  by_cases hk : k < xs.length
  · exact h _ (by simp [List.getD, hk])
  · simp [List.getD, hk]

theorem ext_getD {xs ys : List Nat} (hl : xs.length = ys.length) (h : ∀ i, i < xs.length → xs.getD i 0 = ys.getD i 0) : xs = ys := by
  apply List.ext_getElem hl
  intro i h1 h2
  have := h i h1
  simpa [List.getD, h1, h2] using this

theorem val_lt {xs : List Nat} (h : ∀ x ∈ xs, x < 256) : ∀ k, val xs k < 256 ^ k
  | 0 => by simp [val]
  | k + 1 => by
    have h1 := val_lt h k
    have h2 := getD_lt h k
    show 256 * val xs k + xs.getD k 0 < _
    rw [Nat.pow_succ]
    omega

theorem val_app (xs ys : List Nat) : ∀ k, k ≤ xs.length → val (xs ++ ys) k = val xs k
  | 0, _ => rfl
  | k + 1, h => by
    show 256 * val (xs ++ ys) k + (xs ++ ys).getD k 0 = 256 * val xs k + xs.getD k 0
    rw [val_app xs ys k (by omega)]
    have : (xs ++ ys).getD k 0 = xs.getD k 0 := by
      have hk : k < xs.length := by omega
      simp only [List.getD]
      rw [List.getElem?_append_left hk]
    rw [this]

theorem val_take (xs : List Nat) (n : Nat) : ∀ k, k ≤ n → val (xs.take n) k = val xs k
  | 0, _ => rfl
  | k + 1, h => by
    show 256 * val (xs.take n) k + (xs.take n).getD k 0 = 256 * val xs k + xs.getD k 0
    rw [val_take xs n k (by omega)]
    have : (xs.take n).getD k 0 = xs.getD k 0 := by
      have hk : k < n := by omega
      simp [List.getD, hk]
    rw [this]

theorem val_mkTo {n : Nat} (h : n < 256 ^ 8) : ∀ k, k ≤ 8 → val (mk n) k = n / 256 ^ (8 - k)
  | 0, _ => by
    show 0 = n / 256 ^ 8
    exact (Nat.div_eq_of_lt h).symm
  | k + 1, hk => by
    show 256 * val (mk n) k + (mk n).getD k 0 = _
    rw [val_mkTo h k (by omega), mk_get n (by omega)]
    have e1 : 8 - k = (7 - k) + 1 := by omega
    have e2 : 8 - (k + 1) = 7 - k := by omega
    rw [e1, e2, Nat.pow_succ, ← Nat.div_div_eq_div_mul]
    omega

theorem val_mk {n : Nat} (h : n < 256 ^ 8) : val (mk n) 8 = n := by
  rw [val_mkTo h 8 (Nat.le_refl _)]; simp
theorem val_sec {n : Nat} (h : n < 256 ^ 8) (ld : List Nat) : val (sec n ld) 8 = n := by
  unfold sec
  rw [val_app _ _ 8 (by rw [mk_len]; exact Nat.le_refl _), val_mk h]

theorem val_div {xs : List Nat} (h : ∀ x ∈ xs, x < 256) (k : Nat) : ∀ d, val xs (k + d) / 256 ^ d = val xs k
  | 0 => by simp
  | d + 1 => by
    have h2 := getD_lt h (k + d)
    have : val xs (k + (d + 1)) / 256 = val xs (k + d) := by
      show (256 * val xs (k + d) + xs.getD (k + d) 0) / 256 = _
      omega
    rw [Nat.pow_succ, Nat.mul_comm, ← Nat.div_div_eq_div_mul, this]
    exact val_div h k d

theorem mk_val {xs : List Nat} (h : ∀ x ∈ xs, x < 256) (hl : 8 ≤ xs.length) : mk (val xs 8) = xs.take 8 := by
  refine ext_getD (by simp [mk_len]; omega) fun i h1 => ?_
  have hi : i < 8 := by simpa [mk_len] using h1
  rw [mk_get (val xs 8) hi]
  have hd := val_div h (i + 1) (7 - i)
  rw [show i + 1 + (7 - i) = 8 by omega] at hd
  rw [hd]
  have h2 := getD_lt h i
  have : val xs (i + 1) % 256 = xs.getD i 0 := by
    show (256 * val xs i + xs.getD i 0) % 256 = _
    omega
  rw [this]
  simp [List.getD, hi]

/-- A sector is its stamp's and its load's. -/
theorem sec_back {xs : List Nat} (h : ∀ x ∈ xs, x < 256) (hl : xs.length = 64) : sec (val xs 8) (xs.drop 8) = xs := by
  unfold sec
  rw [mk_val h (by omega)]
  have : (xs.drop 8).length = 56 := by simp; omega
  rw [this]
  simp [z]

/-- The number of bytes, the highest first. -/
def hv : List Nat → Nat
  | [] => 0
  | a :: r => a * 256 ^ r.length + hv r
theorem hv_lt : ∀ {xs : List Nat}, (∀ x ∈ xs, x < 256) → hv xs < 256 ^ xs.length
  | [], _ => by simp [hv]
  | a :: r, h => by
    have h1 := hv_lt (xs := r) fun x hx => h x (List.mem_cons_of_mem _ hx)
    have h2 := h a List.mem_cons_self
    show a * 256 ^ r.length + hv r < 256 ^ (r.length + 1)
    rw [Nat.pow_succ]
    have h3 : (a + 1) * 256 ^ r.length ≤ 256 * 256 ^ r.length := Nat.mul_le_mul_right _ (by omega)
    rw [Nat.add_mul] at h3
    omega
theorem hv_mk {n : Nat} (h : n < 256 ^ 8) : hv (mk n) = n := by
  simp [mk, List.range, List.range.loop, hv]
  simp at h
  omega

theorem less_self : ∀ t : List UInt8, Op.bytesLess t t = false
  | [] => rfl
  | a :: r => by simp [Op.bytesLess, less_self r]

theorem ofNat_lt {a b : Nat} (ha : a < 256) (hb : b < 256) : (UInt8.ofNat a < UInt8.ofNat b) = (a < b) := by
  apply propext
  simp [UInt8.lt_iff_toNat_lt]
  omega
theorem ofNat_eq {a b : Nat} (ha : a < 256) (hb : b < 256) : (UInt8.ofNat a = UInt8.ofNat b) = (a = b) := by
  apply propext
  rw [← UInt8.toNat_inj]
  simp
  omega

theorem less_hv (t : List UInt8) : ∀ {xs ys : List Nat}, xs.length = ys.length → (∀ x ∈ xs, x < 256) → (∀ x ∈ ys, x < 256) → Op.bytesLess (xs.map UInt8.ofNat ++ t) (ys.map UInt8.ofNat ++ t) = decide (hv xs < hv ys)
  | [], [], _, _, _ => by simp [less_self, hv]
  | [], _ :: _, h, _, _ => by simp at h
  | _ :: _, [], h, _, _ => by simp at h
  | a :: xs, b :: ys, hl, hx, hy => by
    have hl' : xs.length = ys.length := by simpa using hl
    have ih := less_hv t hl' (fun x h => hx x (List.mem_cons_of_mem _ h)) (fun x h => hy x (List.mem_cons_of_mem _ h))
    have ha := hx a List.mem_cons_self
    have hb := hy b List.mem_cons_self
    have l1 := hv_lt (xs := xs) fun x h => hx x (List.mem_cons_of_mem _ h)
    have l2 := hv_lt (xs := ys) fun x h => hy x (List.mem_cons_of_mem _ h)
    show (decide (UInt8.ofNat a < UInt8.ofNat b) || ((UInt8.ofNat a == UInt8.ofNat b) && Op.bytesLess (xs.map UInt8.ofNat ++ t) (ys.map UInt8.ofNat ++ t))) = decide (a * 256 ^ xs.length + hv xs < b * 256 ^ ys.length + hv ys)
    rw [ih, hl']
    rw [hl'] at l1
    generalize 256 ^ ys.length = P at *
    have e1 : decide (UInt8.ofNat a < UInt8.ofNat b) = decide (a < b) := by simp only [ofNat_lt ha hb]
    have e2 : (UInt8.ofNat a == UInt8.ofNat b) = decide (a = b) := by
      rw [Bool.eq_iff_iff]; simp only [beq_iff_eq, decide_eq_true_eq, ofNat_eq ha hb]
    rw [e1, e2]
    rcases Nat.lt_trichotomy a b with h | h | h
    · have h3 : (a + 1) * P ≤ b * P := Nat.mul_le_mul_right _ (by omega)
      rw [Nat.add_mul] at h3
      have : a * P + hv xs < b * P + hv ys := by omega
      simp [h, this]
    · subst h
      simp
    · have h3 : (b + 1) * P ≤ a * P := Nat.mul_le_mul_right _ (by omega)
      rw [Nat.add_mul] at h3
      have n1 : ¬ a * P + hv xs < b * P + hv ys := by omega
      have n2 : ¬ a < b := by omega
      have n3 : ¬ a = b := by omega
      simp [n1, n2, n3]

/-- Of two sectors with one load the one with the lesser stamp is the lesser one. -/
theorem less_sec {n m : Nat} (hn : n < 256 ^ 8) (hm : m < 256 ^ 8) (ld : List Nat) : Op.bytesLess ((sec n ld).map UInt8.ofNat) ((sec m ld).map UInt8.ofNat) = decide (n < m) := by
  unfold sec
  rw [List.map_append, List.map_append (l₁ := mk m), less_hv _ (by rw [mk_len, mk_len]) (mk_small n) (mk_small m), hv_mk hn, hv_mk hm]
theorem sec_inj {n m : Nat} (hn : n < 256 ^ 8) (hm : m < 256 ^ 8) {ld : List Nat} (h : sec n ld = sec m ld) : n = m := by
  rw [← val_sec hn ld, h, val_sec hm ld]
end SM
end Go.Proofs.Ythmdidiojjmebaa
