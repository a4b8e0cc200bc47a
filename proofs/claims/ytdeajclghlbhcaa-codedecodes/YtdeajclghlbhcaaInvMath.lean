/- Plain mathematics of solve's rounds: rows of lists as matrices, a row raised, rows struck, the inverse at the end. -/
import Derived.Test.YtdeajclghlbhcaaMulM
namespace Go.Proofs.Ytdeajclghlbhcaa
open Go.RowKit

theorem MX.Struck.congr {n : Nat} {m a b a' b' : Nat → Nat → Nat} (h : MX.Struck n m a b) (ha : MX.Eq2 n n a a') (hb : MX.Eq2 n n b b') : MX.Struck n m a' b' :=
  h.step (MX.Inv.one n) (ha.symm.trans (MX.one_mm h.sa).symm) (hb.symm.trans (MX.one_mm (by obtain ⟨c, hc⟩ := h.inv; exact hc.sa)).symm)
theorem MX.Low.congr {n i : Nat} {a a' : Nat → Nat → Nat} (h : MX.Low n i a) (hi : i ≤ n) (e : MX.Eq2 n n a a') : MX.Low n i a' := fun k j hk hj => by rw [← e k j hk (by omega)]; exact h k j hk hj

theorem at2_set {X : List (List Nat)} {k : Nat} (hk : k < X.length) (ys : List Nat) (r j : Nat) : at2 (X.set k ys) r j = if r = k then ys.getD j 0 else at2 X r j := by
  unfold at2
  by_cases e : k = r
  · subst e; rw [getD_set_self _ _ _ _ hk]; simp
  · rw [getD_set_ne _ _ _ e, if_neg (fun x => e x.symm)]
theorem Shape.set {X : List (List Nat)} {n m k : Nat} (h : Shape X n m) {ys : List Nat} (hy : ys.length = m) : Shape (X.set k ys) n m := ⟨by simpa using h.len, fun j hj => by
  by_cases e : k = j
  · subst e; rw [getD_set_self _ _ _ _ (by rw [h.len]; exact hj)]; exact hy
  · rw [getD_set_ne _ _ _ e]; exact h.row j hj⟩
theorem gd_out (xs : List Nat) {j : Nat} (h : xs.length ≤ j) : xs.getD j 0 = 0 := by simp [List.getD, List.getElem?_eq_none h]
theorem gd_map {m j : Nat} (f : Nat → Nat) (h : j < m) : ((List.range m).map f).getD j 0 = f j := by simp [List.getD, h]
theorem gd_left (xs ys : List Nat) {j : Nat} (h : j < xs.length) : (xs ++ ys).getD j 0 = xs.getD j 0 := by simp [List.getD, List.getElem?_append_left h]
theorem gd_right (xs ys : List Nat) {j : Nat} (h : xs.length ≤ j) : (xs ++ ys).getD j 0 = ys.getD (j - xs.length) 0 := by simp [List.getD, List.getElem?_append_right h]
theorem at2_out {X : List (List Nat)} {n m : Nat} (h : Shape X n m) {i j : Nat} (hi : i < n) (hj : m ≤ j) : at2 X i j = 0 := by
  unfold at2
  exact gd_out _ (by rw [h.row i hi]; exact hj)

theorem addAt_get (xs ys : List Nat) (o c j : Nat) (h : j < xs.length) : (addAt xs ys o c).getD j 0 = if o ≤ j then xs.getD j 0 ^^^ M.mul c (ys.getD (j - o) 0) else xs.getD j 0 := by
  simp [addAt, List.getD, h]
theorem addAt_len (xs ys : List Nat) (o c : Nat) : (addAt xs ys o c).length = xs.length := by simp [addAt]
theorem drop_getD (xs : List Nat) (o j : Nat) : (xs.drop o).getD j 0 = xs.getD (o + j) 0 := by simp [List.getD]

/-- Where the rounds stand: k columns are done. -/
structure Work (n : Nat) (m : Nat → Nat → Nat) (k : Nat) (X : List (List Nat)) : Prop where
  shape : Shape X n (2 * n)
  st : MX.Struck n m (at2 X) (fun i j => at2 X i (n + j))
  low : MX.Low n k (at2 X)
  kn : k ≤ n
/-- Within round k: the row k is raised, and of the other rows the first t are struck. -/
structure Mid (n : Nat) (m : Nat → Nat → Nat) (k t : Nat) (X : List (List Nat)) : Prop where
  shape : Shape X n (2 * n)
  st : MX.Struck n m (at2 X) (fun i j => at2 X i (n + j))
  low : MX.Low n k (at2 X)
  kn : k < n
  one : at2 X k k = 1
  nought : ∀ r, r < t → r < n → r ≠ k → at2 X r k = 0

theorem Mid.work {n : Nat} {m : Nat → Nat → Nat} {k : Nat} {X : List (List Nat)} (h : Mid n m k n X) : Work n m (k + 1) X :=
  ⟨h.shape, h.st, h.low.next fun r hr => by
    unfold MX.one
    by_cases e : r = k
    · subst e; rw [if_pos rfl]; exact h.one
    · rw [if_neg e]; exact h.nought r hr hr e, h.kn⟩

theorem Mid.skip {n : Nat} {m : Nat → Nat → Nat} {k : Nat} {X : List (List Nat)} (h : Mid n m k k X) : Mid n m k (k + 1) X :=
  ⟨h.shape, h.st, h.low, h.kn, h.one, fun r hr hn hne => h.nought r (by omega) hn hne⟩

theorem Work.small {n : Nat} {m : Nat → Nat → Nat} {k : Nat} {X : List (List Nat)} (h : Work n m k X) {i j : Nat} (hi : i < n) : at2 X i j < 256 := by
  by_cases h1 : j < n
  · exact h.st.sa i j hi h1
  · by_cases h2 : j < 2 * n
    · obtain ⟨c, hc⟩ := h.st.inv
      have := hc.sa i (j - n) hi (by omega)
      simp only [show n + (j - n) = j from by omega] at this
      exact this
    · rw [at2_out h.shape hi (by omega)]; decide
theorem Mid.small {n : Nat} {m : Nat → Nat → Nat} {k t : Nat} {X : List (List Nat)} (h : Mid n m k t X) {i j : Nat} (hi : i < n) : at2 X i j < 256 :=
  Work.small ⟨h.shape, h.st, h.low, Nat.le_of_lt h.kn⟩ hi

/-- The row t, struck by the row k from place k on. -/
def struck (X : List (List Nat)) (t k : Nat) : List (List Nat) := X.set t (addAt (X.getD t []) ((X.getD k []).drop k) k (at2 X t k))

theorem struck_at {n : Nat} {X : List (List Nat)} (h : Shape X n (2 * n)) {t k : Nat} (ht : t < n) (hz : ∀ j, j < k → at2 X k j = 0) {r j : Nat} (hj : j < 2 * n) :
    at2 (struck X t k) r j = if r = t then at2 X t j ^^^ M.mul (at2 X t k) (at2 X k j) else at2 X r j := by
  unfold struck
  rw [at2_set (by rw [h.len]; exact ht)]
  by_cases e : r = t
  · subst e
    simp only [if_true]
    rw [addAt_get _ _ _ _ _ (by rw [h.row r ht]; exact hj)]
    by_cases l : k ≤ j
    · rw [if_pos l, drop_getD, show k + (j - k) = j from by omega]; rfl
    · rw [if_neg l, hz j (by omega), M.mul_zero, Nat.xor_zero]; rfl
  · rw [if_neg e, if_neg e]

theorem Mid.strike {n : Nat} {m : Nat → Nat → Nat} {k t : Nat} {X : List (List Nat)} (h : Mid n m k t X) (ht : t < n) (hne : t ≠ k) : Mid n m k (t + 1) (struck X t k) := by
  have hz : ∀ j, j < k → at2 X k j = 0 := fun j hj => h.low.nought h.kn (Nat.le_refl _) hj
  have key : ∀ r j, j < 2 * n → at2 (struck X t k) r j = if r = t then at2 X t j ^^^ M.mul (at2 X t k) (at2 X k j) else at2 X r j := fun r j hj => struck_at h.shape ht hz hj
  have hs : at2 X t k < 256 := h.small ht
  refine ⟨h.shape.set (by rw [addAt_len]; exact h.shape.row t ht), ?_, ?_, h.kn, ?_, ?_⟩
  · refine (h.st.strike hs ht h.kn hne).congr (fun i j hi hj => ?_) (fun i j hi hj => ?_)
    · rw [key i j (by omega)]
    · show _ = at2 (struck X t k) i (n + j)
      rw [key i (n + j) (by omega)]
  · refine (h.low.strike (k := t) (y := at2 X t k) h.kn (Nat.le_refl _)).congr (Nat.le_of_lt h.kn) (fun i j hi hj => ?_)
    rw [key i j (by omega)]
  · rw [key k k (by have := h.kn; omega), if_neg (fun e => hne e.symm)]; exact h.one
  · intro r hr hn hrk
    rw [key r k (by have := h.kn; omega)]
    by_cases e : r = t
    · subst e
      simp only [if_true]
      rw [h.one, M.mul_one hs, Nat.xor_self]
    · rw [if_neg e]; exact h.nought r (by omega) hn hrk

/-- Rows k and i change places, and the row k is divided. -/
def raised (X : List (List Nat)) (k i : Nat) : List (List Nat) :=
  ((X.set k (X.getD i [])).set i (X.getD k [])).set k ((List.range (X.getD i []).length).map fun j => M.mul (M.inv (at2 X i k)) ((X.getD i []).getD j 0))

structure Pivot (n : Nat) (X : List (List Nat)) (k i : Nat) : Prop where
  ki : k ≤ i
  i_n : i < n
  ne : at2 X i k ≠ 0
  first : ∀ j, k ≤ j → j < i → at2 X j k = 0

theorem pivot_or (n : Nat) (X : List (List Nat)) (k : Nat) : (∃ i, Pivot n X k i) ∨ ∀ j, k ≤ j → j < n → at2 X j k = 0 := by
  have key : ∀ d, k + d ≤ n → (∃ i, Pivot n X k i) ∨ ∀ j, k ≤ j → j < k + d → at2 X j k = 0 := by
    intro d
    induction d with
    | zero => exact fun _ => .inr fun j h1 h2 => by omega
    | succ d ih =>
      intro hd
      rcases ih (by omega) with h | h
      · exact .inl h
      · by_cases e : at2 X (k + d) k = 0
        · exact .inr fun j h1 h2 => by
            by_cases e2 : j = k + d
            · rw [e2]; exact e
            · exact h j h1 (by omega)
        · exact .inl ⟨k + d, by omega, by omega, e, fun j h1 h2 => h j h1 h2⟩
  by_cases h : k ≤ n
  · have := key (n - k) (by omega)
    rw [show k + (n - k) = n from by omega] at this
    exact this
  · exact .inr fun j h1 h2 => by omega

theorem raised_at {n : Nat} {X : List (List Nat)} (h : Shape X n (2 * n)) {k i : Nat} (hk : k < n) (hi : i < n) {r j : Nat} (hj : j < 2 * n) :
    at2 (raised X k i) r j = if r = k then M.mul (M.inv (at2 X i k)) (at2 X i j) else at2 X (if r = i then k else r) j := by
  unfold raised
  rw [at2_set (by simp [h.len]; exact hk)]
  by_cases e : r = k
  · subst e
    simp only [if_true]
    rw [gd_map _ (by rw [h.row i hi]; exact hj)]; rfl
  · rw [if_neg e, if_neg e, at2_set (by simp [h.len]; exact hi)]
    by_cases e2 : r = i
    · subst e2; simp only [if_true]; rfl
    · rw [if_neg e2, if_neg e2, at2_set (by rw [h.len]; exact hk), if_neg e]

theorem Work.raise {n : Nat} {m : Nat → Nat → Nat} {k i : Nat} {X : List (List Nat)} (h : Work n m k X) (hk : k < n) (p : Pivot n X k i) : Mid n m k 0 (raised X k i) := by
  have key : ∀ r j, j < 2 * n → at2 (raised X k i) r j = if r = k then M.mul (M.inv (at2 X i k)) (at2 X i j) else at2 X (if r = i then k else r) j := fun r j hj => raised_at h.shape hk p.i_n hj
  have hs : at2 X i k < 256 := h.small p.i_n
  have hp : 0 < at2 X i k := Nat.pos_of_ne_zero p.ne
  have hiv := M.inv_lt (at2 X i k)
  have hm : M.mul (M.inv (at2 X i k)) (at2 X i k) = 1 := by rw [M.mul_comm hiv hs]; exact M.mul_inv hs hp
  have e1 : ∀ r j, (if r = k then M.mul (M.inv (at2 X i k)) (at2 X (if k = k then i else if k = i then k else k) j) else at2 X (if r = k then i else if r = i then k else r) j) = if r = k then M.mul (M.inv (at2 X i k)) (at2 X i j) else at2 X (if r = i then k else r) j := by
    intro r j
    by_cases e : r = k
    · simp [e]
    · simp [e]
  refine ⟨?_, ?_, ?_, hk, ?_, fun r hr => by omega⟩
  · refine ((h.shape.set (h.shape.row i p.i_n)).set (h.shape.row k hk)).set ?_
    rw [List.length_map, List.length_range]; exact h.shape.row i p.i_n
  · refine ((h.st.swap (k := k) (s := i) hk p.i_n).scale (k := k) hiv hs hm).congr (fun r j hr hj => ?_) (fun r j hr hj => ?_)
    · rw [key r j (by omega)]; exact e1 r j
    · show _ = at2 (raised X k i) r (n + j)
      rw [key r (n + j) (by omega)]; exact e1 r (n + j)
  · refine ((h.low.swap (k := k) (s := i) hk p.i_n (Nat.le_refl _) p.ki).scale (k := k) (x := M.inv (at2 X i k)) (Nat.le_refl _)).congr (Nat.le_of_lt hk) (fun r j hr hj => ?_)
    rw [key r j (by omega)]; exact e1 r j
  · rw [key k k (by omega), if_pos rfl]; exact hm

/-- No inverse. -/
def NoInv (n : Nat) (m : Nat → Nat → Nat) : Prop := ¬ ∃ c, MX.Small n n c ∧ MX.Eq2 n n (MX.mm n c m) MX.one

theorem Work.none {n : Nat} {m : Nat → Nat → Nat} {k : Nat} {X : List (List Nat)} (h : Work n m k X) (hk : k < n) (z : ∀ j, k ≤ j → j < n → at2 X j k = 0) : NoInv n m :=
  h.st.none hk h.low z

def besList (X : List (List Nat)) (n : Nat) : List (List Nat) := (List.range n).map fun i => X.getD i [] ++ idRow n i
def halfList (X : List (List Nat)) (n : Nat) : List (List Nat) := (List.range n).map fun i => (X.getD i []).drop n

theorem idRow_get (n i j : Nat) (hj : j < n) : (idRow n i).getD j 0 = MX.one i j := by simp [idRow, List.getD, hj, MX.one]
theorem idRow_len (n i : Nat) : (idRow n i).length = n := by simp [idRow]

theorem Work.start {X : List (List Nat)} {n : Nat} (h : Shape X n n) (hs : ∀ i j, at2 X i j < 256) : Work n (at2 X) 0 (besList X n) := by
  have sm : MX.Small n n (at2 X) := fun i j _ _ => hs i j
  have row : ∀ i, i < n → (besList X n).getD i [] = X.getD i [] ++ idRow n i := fun i hi => by simp [besList, List.getD, hi]
  refine ⟨⟨by simp [besList], fun j hj => by rw [row j hj, List.length_append, h.row j hj, idRow_len]; omega⟩, ?_, MX.Low.zero _ _, Nat.zero_le _⟩
  refine (MX.Struck.start sm).congr (fun i j hi hj => ?_) (fun i j hi hj => ?_)
  · unfold at2
    rw [row i hi, gd_left _ _ (by rw [h.row i hi]; exact hj)]
  · show _ = at2 (besList X n) i (n + j)
    unfold at2
    rw [row i hi, gd_right _ _ (by rw [h.row i hi]; omega), h.row i hi, show n + j - n = j from by omega, idRow_get n i j hj]

theorem half_at (X : List (List Nat)) (n i j : Nat) (hi : i < n) : at2 (halfList X n) i j = at2 X i (n + j) := by
  unfold at2 halfList
  rw [show ((List.range n).map fun i => (X.getD i []).drop n).getD i [] = (X.getD i []).drop n from by simp [List.getD, hi], drop_getD]
theorem half_shape {X : List (List Nat)} {n : Nat} (h : Shape X n (2 * n)) : Shape (halfList X n) n n := ⟨by simp [halfList], fun j hj => by
  rw [show (halfList X n).getD j [] = (X.getD j []).drop n from by simp [halfList, List.getD, hj], List.length_drop, h.row j hj]; omega⟩

theorem Work.done {X : List (List Nat)} {n : Nat} {m : Nat → Nat → Nat} (h : Work n m n X) : MX.Inv n m (at2 (halfList X n)) := by
  have h1 := h.st.done h.low.all
  have e : MX.Eq2 n n (at2 (halfList X n)) (fun i j => at2 X i (n + j)) := fun i j hi _ => half_at X n i j hi
  exact ⟨h1.sa, fun i j hi hj => by rw [e i j hi hj]; exact h1.sb i j hi hj, (MX.mm_congr e (MX.Eq2.refl n n m)).trans h1.l, (MX.mm_congr (MX.Eq2.refl n n m) e).trans h1.r⟩
end Go.Proofs.Ytdeajclghlbhcaa
