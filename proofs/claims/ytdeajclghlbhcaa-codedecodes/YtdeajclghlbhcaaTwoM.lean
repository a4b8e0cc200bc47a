/- Plain mathematics of the document's own inverse: two matrices side by side; and two matrices in memory, each in blocks of its own. -/
import Derived.Test.YtdeajclghlbhcaaInver
import Derived.Test.YtdeajclghlbhcaaRefRows
namespace Go.Proofs.Ytdeajclghlbhcaa
open Go.RowKit

def strike2 (A : List (List Nat)) (k s y : Nat) : List (List Nat) := A.set k ((List.range (A.getD k []).length).map fun j => (A.getD k []).getD j 0 ^^^ M.mul ((A.getD s []).getD j 0) y)
def scale2 (A : List (List Nat)) (k x : Nat) : List (List Nat) := A.set k ((List.range (A.getD k []).length).map fun j => M.mul ((A.getD k []).getD j 0) x)

theorem strike2_at {A : List (List Nat)} {n k s y : Nat} (h : Shape A n n) (hk : k < n) (_ : s < n) (hy : y < 256) (sm : ∀ j, j < n → at2 A s j < 256) {r j : Nat} (hj : j < n) :
    at2 (strike2 A k s y) r j = if r = k then at2 A k j ^^^ M.mul y (at2 A s j) else at2 A r j := by
  unfold strike2
  rw [at2_set (by rw [h.len]; exact hk)]
  by_cases e : r = k
  · subst e
    simp only [if_true]
    rw [gd_map _ (by rw [h.row r hk]; exact hj)]
    show at2 A r j ^^^ M.mul (at2 A s j) y = _
    rw [M.mul_comm (sm j hj) hy]
  · rw [if_neg e, if_neg e]
theorem strike2_shape {A : List (List Nat)} {n k s y : Nat} (h : Shape A n n) (hk : k < n) : Shape (strike2 A k s y) n n := h.set (by rw [List.length_map, List.length_range]; exact h.row k hk)
theorem scale2_at {A : List (List Nat)} {n k x : Nat} (h : Shape A n n) (hk : k < n) (hx : x < 256) (sm : ∀ j, j < n → at2 A k j < 256) {r j : Nat} (hj : j < n) :
    at2 (scale2 A k x) r j = if r = k then M.mul x (at2 A k j) else at2 A r j := by
  unfold scale2
  rw [at2_set (by rw [h.len]; exact hk)]
  by_cases e : r = k
  · subst e
    simp only [if_true]
    rw [gd_map _ (by rw [h.row r hk]; exact hj)]
    show M.mul (at2 A r j) x = _
    rw [M.mul_comm (sm j hj) hx]
  · rw [if_neg e, if_neg e]
theorem scale2_shape {A : List (List Nat)} {n k x : Nat} (h : Shape A n n) (hk : k < n) : Shape (scale2 A k x) n n := h.set (by rw [List.length_map, List.length_range]; exact h.row k hk)

/-- Where the document's rounds stand: k columns are done. -/
structure Work2 (n : Nat) (m : Nat → Nat → Nat) (k : Nat) (A B : List (List Nat)) : Prop where
  sA : Shape A n n
  sB : Shape B n n
  st : MX.Struck n m (at2 A) (at2 B)
  low : MX.Low n k (at2 A)

theorem Work2.smallA {n : Nat} {m : Nat → Nat → Nat} {k : Nat} {A B : List (List Nat)} (h : Work2 n m k A B) {i : Nat} (hi : i < n) : ∀ j, j < n → at2 A i j < 256 := fun j hj => h.st.sa i j hi hj
theorem Work2.smallB {n : Nat} {m : Nat → Nat → Nat} {k : Nat} {A B : List (List Nat)} (h : Work2 n m k A B) {i : Nat} (hi : i < n) : ∀ j, j < n → at2 B i j < 256 := fun j hj => by
  obtain ⟨c, hc⟩ := h.st.inv
  exact hc.sa i j hi hj

theorem Work2.start {X : List (List Nat)} {n : Nat} (h : Shape X n n) (hs : ∀ i j, at2 X i j < 256) : Work2 n (at2 X) 0 X (idList n) := by
  have ids : Shape (idList n) n n := ⟨by simp [idList], fun j hj => by simp [idList, List.getD, hj, idRow]⟩
  have ida : MX.Eq2 n n MX.one (at2 (idList n)) := fun i j hi hj => by
    show _ = ((idList n).getD i []).getD j 0
    rw [show (idList n).getD i [] = idRow n i from by simp [idList, List.getD, hi], idRow_get n i j hj]
  exact ⟨h, ids, (MX.Struck.start (fun i j _ _ => hs i j)).congr (MX.Eq2.refl _ _ _) ida, MX.Low.zero _ _⟩

theorem Work2.strike {n : Nat} {m : Nat → Nat → Nat} {i : Nat} {A B : List (List Nat)} (h : Work2 n m i A B) {k s y : Nat} (hk : k < n) (hs : s < n) (hks : k ≠ s) (his : i ≤ s) (hin : i ≤ n) (hy : y < 256) :
    Work2 n m i (strike2 A k s y) (strike2 B k s y) :=
  ⟨strike2_shape h.sA hk, strike2_shape h.sB hk, (h.st.strike hy hk hs hks).congr (fun r j _ hj => by rw [strike2_at h.sA hk hs hy (h.smallA hs) hj]) (fun r j _ hj => by rw [strike2_at h.sB hk hs hy (h.smallB hs) hj]),
    (h.low.strike (k := k) (y := y) hs his).congr hin (fun r j _ hj => by rw [strike2_at h.sA hk hs hy (h.smallA hs) hj])⟩
theorem Work2.scale {n : Nat} {m : Nat → Nat → Nat} {i : Nat} {A B : List (List Nat)} (h : Work2 n m i A B) {k x y : Nat} (hk : k < n) (hik : i ≤ k) (hin : i ≤ n) (hx : x < 256) (hy : y < 256) (hxy : M.mul x y = 1) :
    Work2 n m i (scale2 A k x) (scale2 B k x) :=
  ⟨scale2_shape h.sA hk, scale2_shape h.sB hk, (h.st.scale (k := k) hx hy hxy).congr (fun r j _ hj => by rw [scale2_at h.sA hk hx (h.smallA hk) hj]) (fun r j _ hj => by rw [scale2_at h.sB hk hx (h.smallB hk) hj]),
    (h.low.scale (k := k) (x := x) hik).congr hin (fun r j _ hj => by rw [scale2_at h.sA hk hx (h.smallA hk) hj])⟩

/-- Within round i: the row i is raised, and of the other rows the first t are struck. -/
structure Mid2 (n : Nat) (m : Nat → Nat → Nat) (i t : Nat) (A B : List (List Nat)) : Prop where
  wk : Work2 n m i A B
  one : at2 A i i = 1
  nought : ∀ r, r < t → r < n → r ≠ i → at2 A r i = 0

theorem Mid2.work {n : Nat} {m : Nat → Nat → Nat} {i : Nat} {A B : List (List Nat)} (h : Mid2 n m i n A B) : Work2 n m (i + 1) A B :=
  ⟨h.wk.sA, h.wk.sB, h.wk.st, h.wk.low.next fun r hr => by
    unfold MX.one
    by_cases e : r = i
    · subst e; rw [if_pos rfl]; exact h.one
    · rw [if_neg e]; exact h.nought r hr hr e⟩
theorem Mid2.skip {n : Nat} {m : Nat → Nat → Nat} {i t : Nat} {A B : List (List Nat)} (h : Mid2 n m i t A B) (hz : t = i ∨ at2 A t i = 0) : Mid2 n m i (t + 1) A B :=
  ⟨h.wk, h.one, fun r hr hn hne => by
    by_cases e : r = t
    · subst e
      rcases hz with hz | hz
      · exact absurd hz hne
      · exact hz
    · exact h.nought r (by omega) hn hne⟩
theorem Mid2.strike {n : Nat} {m : Nat → Nat → Nat} {i t : Nat} {A B : List (List Nat)} (h : Mid2 n m i t A B) (hi : i < n) (ht : t < n) (hne : t ≠ i) : Mid2 n m i (t + 1) (strike2 A t i (at2 A t i)) (strike2 B t i (at2 A t i)) := by
  have hy := h.wk.smallA ht i hi
  refine ⟨h.wk.strike ht hi hne (Nat.le_refl _) (Nat.le_of_lt hi) hy, ?_, fun r hr hn hri => ?_⟩
  · rw [strike2_at h.wk.sA ht hi hy (h.wk.smallA hi) hi, if_neg (fun e => hne e.symm)]; exact h.one
  · rw [strike2_at h.wk.sA ht hi hy (h.wk.smallA hi) hi]
    by_cases e : r = t
    · subst e
      simp only [if_true]
      rw [h.one, M.mul_one hy, Nat.xor_self]
    · rw [if_neg e]; exact h.nought r (by omega) hn hri

theorem Work2.raise {n : Nat} {m : Nat → Nat → Nat} {i : Nat} {A B : List (List Nat)} (h : Work2 n m i A B) (hi : i < n) (hne : at2 A i i ≠ 0) : Mid2 n m i 0 (scale2 A i (M.inv (at2 A i i))) (scale2 B i (M.inv (at2 A i i))) := by
  have hs := h.smallA hi i hi
  have hiv := M.inv_lt (at2 A i i)
  have hm : M.mul (M.inv (at2 A i i)) (at2 A i i) = 1 := by rw [M.mul_comm hiv hs]; exact M.mul_inv hs (Nat.pos_of_ne_zero hne)
  refine ⟨h.scale hi (Nat.le_refl _) (Nat.le_of_lt hi) hiv hs hm, ?_, fun r hr => by omega⟩
  rw [scale2_at h.sA hi hiv (h.smallA hi) hi, if_pos rfl]; exact hm

/-- A row below is added, so that the number is not nought. -/
theorem Work2.lift {n : Nat} {m : Nat → Nat → Nat} {i p : Nat} {A B : List (List Nat)} (h : Work2 n m i A B) (hi : i < n) (hp : p < n) (hip : i < p) (hz : at2 A i i = 0) (hne : at2 A p i ≠ 0) :
    Work2 n m i (strike2 A i p 1) (strike2 B i p 1) ∧ at2 (strike2 A i p 1) i i ≠ 0 := by
  refine ⟨h.strike hi hp (by omega) (by omega) (Nat.le_of_lt hi) (by decide), ?_⟩
  rw [strike2_at h.sA hi hp (by decide) (h.smallA hp) hi, if_pos rfl, hz, M.one_mul (h.smallA hp i hi), Nat.zero_xor]
  exact hne

theorem Work2.done {n : Nat} {m : Nat → Nat → Nat} {A B : List (List Nat)} (h : Work2 n m n A B) : MX.Inv n m (at2 B) := h.st.done h.low.all
theorem Work2.none {n : Nat} {m : Nat → Nat → Nat} {k : Nat} {A B : List (List Nat)} (h : Work2 n m k A B) (hk : k < n) (z : ∀ j, k ≤ j → j < n → at2 A j k = 0) : NoInv n m := h.st.none hk h.low z

theorem OwnMat.keptHigh {B H1 r : Nat} {w w' : World} {v : Value} {us : List Value} {X : List (List Nat)} (h : OwnMat B w v us X) (hv : Hi H1 v) (hu : ∀ j, j < us.length → Hi H1 (us.getD j undef)) (hr : H1 ≤ r) (g : w.grownBy w' (some r)) : OwnMat B w' v us X := by
  have ap : ∀ u : Value, Hi H1 u → u.ownBlock = none ∨ u.ownBlock ≠ some r := fun u hu => by
    cases hk : u.ownBlock with
    | none => exact .inl rfl
    | some k => exact .inr fun e => by have := hu k hk; have := Option.some.inj e; omega
  exact ⟨h.len, h.row.kept g (ap _ hv), h.same, fun j hj => (h.vec j hj).kept g (ap _ (hu j (by have := h.same; omega)))⟩

/-- Two matrices of the call's own: a below the block H1, b from it on. -/
structure Two (w0 : World) (H1 : Nat) (w : World) (va : Value) (ua : List Value) (A : List (List Nat)) (vb : Value) (ub : List Value) (B : List (List Nat)) : Prop where
  oa : OwnMat w0.heap.size w va ua A
  ob : OwnMat H1 w vb ub B
  sa : Sep ua
  sb : Sep ub
  hv : Hi H1 va
  hu : ∀ j, j < ua.length → Hi H1 (ua.getD j undef)
  lt : w0.heap.size ≤ H1
  gr : w0.grownBy w none

theorem Two.keep {w0 w w' : World} {H1 : Nat} {va vb : Value} {ua ub : List Value} {A B : List (List Nat)} (h : Two w0 H1 w va ua A vb ub B) (g : w.grownBy w' none) : Two w0 H1 w' va ua A vb ub B :=
  ⟨h.oa.keep g, h.ob.keep g, h.sa, h.sb, h.hv, h.hu, h.lt, grown_trans h.gr g⟩
theorem Two.setA {w0 w w' : World} {H1 : Nat} {va vb : Value} {ua ub : List Value} {A B : List (List Nat)} (h : Two w0 H1 w va ua A vb ub B) {k : Nat} {ys : List Nat} (hk : k < A.length) {g : Nat} (hg : (ua.getD k undef).ownBlock = some g)
    (o : Own w0.heap.size w' (ua.getD k undef) ys) (gr : w.grownBy w' (some g)) : Two w0 H1 w' va ua (A.set k ys) vb ub B := by
  have hl := h.hu k (by have := h.oa.same; omega) g hg
  have hlo := (h.oa.vec k hk).lo g hg
  exact ⟨h.oa.rowSet h.sa hk o (by rw [hg]; exact gr), h.ob.keptLow hl gr, h.sa, h.sb, h.hv, h.hu, h.lt, grown_new h.gr gr (fun i e => by have := Option.some.inj e; omega)⟩
theorem Two.setB {w0 w w' : World} {H1 : Nat} {va vb : Value} {ua ub : List Value} {A B : List (List Nat)} (h : Two w0 H1 w va ua A vb ub B) {k : Nat} {ys : List Nat} (hk : k < B.length) {g : Nat} (hg : (ub.getD k undef).ownBlock = some g)
    (o : Own H1 w' (ub.getD k undef) ys) (gr : w.grownBy w' (some g)) : Two w0 H1 w' va ua A vb ub (B.set k ys) := by
  have hlo := (h.ob.vec k hk).lo g hg
  have hlt := h.lt
  exact ⟨h.oa.keptHigh h.hv h.hu hlo gr, h.ob.rowSet h.sb hk o (by rw [hg]; exact gr), h.sa, h.sb, h.hv, h.hu, h.lt, grown_new h.gr gr (fun i e => by have := Option.some.inj e; omega)⟩

/-- Rows of a matrix as the walk finds them: the cell in the slice of slices, the row's own address, a place in it. -/
theorem OwnMat.at2 {B : Nat} {w : World} {g n cap : Nat} {us : List Value} {X : List (List Nat)} (h : OwnMat B w (.slice (some ⟨g, 0, none⟩) n cap) us X) {k : Nat} (hk : k < X.length) (h0 : 0 < (X.getD k []).length) :
    ∃ gk nk ck, us.getD k undef = .slice (some ⟨gk, 0, none⟩) nk ck ∧ nk = (X.getD k []).length ∧ w.cell? ⟨g, k, none⟩ = some (.slice (some ⟨gk, 0, none⟩) nk ck) ∧ Own B w (.slice (some ⟨gk, 0, none⟩) nk ck) (X.getD k []) ∧ ∀ j, j < (X.getD k []).length → w.cell? ⟨gk, j, none⟩ = some (.int .u8 ((at2 X k j : Nat) : Int)) := by
  obtain ⟨g1, e1, _, hc, _, _, _, _⟩ := h.place (k := k) hk
  obtain rfl : g = g1 := (by injection e1 with e1; injection e1 with e1)
  have ov := h.vec k hk
  obtain ⟨p, nk, ck, ek, hnk⟩ := ov.vec.opened
  rw [ek] at hc ov
  obtain ⟨gk, rfl, _, _, _, _, _, _⟩ := ov.spot (k := 0) h0
  refine ⟨gk, nk, ck, ek, hnk, hc, ov, fun j hj => ?_⟩
  obtain ⟨g2, e2, _, hcx, _, _, _, _⟩ := ov.spot (k := j) hj
  obtain rfl : gk = g2 := (by injection e2 with e2; injection e2 with e2)
  exact hcx
end Go.Proofs.Ytdeajclghlbhcaa
