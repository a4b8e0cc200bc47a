/- Matrices that the call itself makes: rows that lie apart (Sep), a row changed (rowSet), a row put in its place (place), make. -/
import Derived.Test.YtdeajclghlbhcaaRowsets
import Derived.Laws.CopyOwn
import Derived.Deep.DrawnRows
namespace Go.Proofs.Ytdeajclghlbhcaa
open Go.RowKit

theorem ap_nil (n c : Nat) (u : Value) : Ap (.slice none n c) u := .inl rfl

/-- The rows lie in blocks of their own, each in another one. -/
def Sep (us : List Value) : Prop := ∀ i j, i < us.length → j < us.length → i ≠ j → Ap (us.getD i undef) (us.getD j undef)

theorem getD_set_self {α : Type} (us : List α) (k : Nat) (u d : α) (h : k < us.length) : (us.set k u).getD k d = u := by simp [List.getD, h]
theorem getD_set_ne {α : Type} (us : List α) {k j : Nat} (u d : α) (h : k ≠ j) : (us.set k u).getD j d = us.getD j d := by simp [List.getD, h]
theorem getD_replicate {α : Type} (n j : Nat) (a d : α) (h : j < n) : (List.replicate n a).getD j d = a := by simp [List.getD, h]

theorem Sep.nils (n : Nat) : Sep (List.replicate n (.slice none 0 0)) := fun i j hi _ _ => by
  rw [getD_replicate _ _ _ _ (by simpa using hi)]; exact ap_nil _ _ _

theorem ap_of {H : Nat} {v u : Value} (hv : Hi H v) (hu : Lo H u) : Ap v u := apart_of hv hu

theorem Sep.put {H : Nat} {us : List Value} (h : Sep us) (hh : ∀ j, j < us.length → Hi H (us.getD j undef)) {u : Value} (hu : Lo H u) (k : Nat) : Sep (us.set k u) := by
  intro i j hi hj hne
  simp only [List.length_set] at hi hj
  by_cases e1 : k = i
  · subst e1
    rw [getD_set_self _ _ _ _ hi, getD_set_ne _ _ _ hne]
    exact (ap_of (hh j hj) hu).symm
  · rw [getD_set_ne _ _ _ e1]
    by_cases e2 : k = j
    · subst e2
      rw [getD_set_self _ _ _ _ hj]
      exact ap_of (hh i hi) hu
    · rw [getD_set_ne _ _ _ e2]
      exact h i j hi hj hne

/-- Two rows change places. -/
theorem Sep.swap {us : List Value} (h : Sep us) {a b : Nat} (ha : a < us.length) (hb : b < us.length) : Sep ((us.set a (us.getD b undef)).set b (us.getD a undef)) := by
  have key : ∀ i, i < us.length → ((us.set a (us.getD b undef)).set b (us.getD a undef)).getD i undef = us.getD (if i = b then a else if i = a then b else i) undef := by
    intro i hi
    by_cases e : b = i
    · subst e
      rw [getD_set_self _ _ _ _ (by simpa using hi)]; simp
    · rw [getD_set_ne _ _ _ e, if_neg (fun x => e x.symm)]
      by_cases e2 : a = i
      · subst e2
        rw [getD_set_self _ _ _ _ hi]; simp
      · rw [getD_set_ne _ _ _ e2, if_neg (fun x => e2 x.symm)]
  intro i j hi hj hne
  simp only [List.length_set] at hi hj
  rw [key i hi, key j hj]
  refine h _ _ ?_ ?_ ?_
  · split
    · exact ha
    · split <;> assumption
  · split
    · exact ha
    · split <;> assumption
  · split <;> split <;> (try split) <;> (try split) <;> omega

/-- One row has been written: the others stay. -/
theorem OwnMat.rowSet {B : Nat} {w w' : World} {v : Value} {us : List Value} {X : List (List Nat)} {k : Nat} {ys : List Nat} (h : OwnMat B w v us X) (hs : Sep us) (hk : k < X.length)
    (o : Own B w' (us.getD k undef) ys) (g : w.grownBy w' (us.getD k undef).ownBlock) : OwnMat B w' v us (X.set k ys) := by
  have hsm := h.same
  have hap : Ap v (us.getD k undef) := Ap.symm (show Ap _ _ from apart_kinds h.row (h.vec k hk))
  refine ⟨h.len, h.row.kept g hap, by simpa using h.same, fun j hj => ?_⟩
  simp only [List.length_set] at hj
  by_cases e : k = j
  · subst e
    rw [getD_set_self _ _ _ _ hk]; exact o
  · rw [getD_set_ne _ _ _ e]
    exact (h.vec j hj).kept g (hs j k (by omega) (by omega) (fun x => e x.symm))

/-- A place of the row of slices, to be read and written. -/
theorem OwnMat.place {B : Nat} {w : World} {p : Option Addr} {n cap : Nat} {us : List Value} {X : List (List Nat)} (h : OwnMat B w (.slice p n cap) us X) {k : Nat} (hk : k < X.length) :
    ∃ g, p = some ⟨g, 0, none⟩ ∧ B ≤ g ∧ w.cell? ⟨g, k, none⟩ = some (us.getD k undef) ∧ w.frozen? ⟨g, k, none⟩ = false ∧
      (∀ u ys, Own B w u ys → OwnMat B (w.setCell ⟨g, k, none⟩ u) (.slice (some ⟨g, 0, none⟩) n cap) (us.set k u) (X.set k ys)) ∧ (∀ u ys, Own B w u ys → Own B (w.setCell ⟨g, k, none⟩ u) u ys) ∧ ∀ u, w.grownBy (w.setCell ⟨g, k, none⟩ u) (some g) := by
  have hsm := h.same
  have hr := h.row
  have hrow := h.row
  rcases h.row.2 with ⟨e, hn⟩ | ⟨g, cap', cur, e, hb, hg, hc, hm, hs, ht⟩
  · omega
  · injection e with e1 e2 e3
    subst e1
    subst e2
    subst e3
    have hcell : w.cell? ⟨g, k, none⟩ = some (us.getD k undef) := by
      have := hr.cells (g := g) rfl k (us.getD k undef) (by simp [List.getD, show k < us.length from by omega])
      rwa [add_at, Nat.zero_add] at this
    have hgr : ∀ u, w.grownBy (w.setCell ⟨g, k, none⟩ u) (some g) := fun u => ⟨rfl, rfl, rfl, by simp, fun i hi hne => Below.heap_setCell _ _ _ _ (by simpa using hne)⟩
    have hown : ∀ u u' ys, Own B w u ys → Own B (w.setCell ⟨g, k, none⟩ u') u ys := fun u u' ys hu => hu.kept (hgr u') (apart_kinds hrow hu)
    refine ⟨g, rfl, hb, hcell, by simp [World.frozen?, hg], fun u ys hu => ⟨by simpa using h.len, ⟨by simp, .inr ⟨g, cap, cur.setIfInBounds k u, by simp, hb, ?_, by simpa using hc, hm, by simpa using hs, ?_⟩⟩, by simpa using h.same, fun j hj => ?_⟩, fun u ys hu => hown u u ys hu, hgr⟩
    · rw [setCell_eq_setRow w g k cur 39 (0, 0) _ hg]
      exact setRow_heap w g cur _ 39 _ hg
    · simp only [Array.toList_setIfInBounds, List.length_set]
      rw [List.take_set, ht]
    · simp only [List.length_set] at hj
      by_cases e : k = j
      · subst e
        rw [getD_set_self _ _ _ _ (by omega), getD_set_self _ _ _ _ hj]
        exact hown u u ys hu
      · rw [getD_set_ne _ _ _ e, getD_set_ne _ _ _ e]
        exact hown _ u _ (h.vec j hj)

theorem OwnMat.hiRow {B : Nat} {w : World} {v : Value} {us : List Value} {X : List (List Nat)} (h : OwnMat B w v us X) (j : Nat) (hj : j < us.length) : Hi w.heap.size (us.getD j undef) := (h.vec j (by have := h.same; omega)).hi

/-- What the rows lie above. -/
theorem OwnMat.down {B B' : Nat} {w : World} {v : Value} {us : List Value} {X : List (List Nat)} (h : OwnMat B' w v us X) (hB : B ≤ B') : OwnMat B w v us X :=
  ⟨h.len, ⟨h.row.1, by
    rcases h.row.2 with h | ⟨g, cp, cur, a1, a2, a3⟩
    · exact .inl h
    · exact .inr ⟨g, cp, cur, a1, by omega, a3⟩⟩, h.same, fun j hj => (h.vec j hj).down hB⟩

theorem made_list (z : Value) (n : Nat) : (madeCells #[z] n).toList.take n = List.replicate n z := by
  apply List.ext_getElem
  · simp [madeCells]
  · intro i h1 h2
    simp [madeCells, Nat.mod_one]

/-- make of bytes. -/
theorem made_own {w w' : World} {n : Nat} (hn : n ≤ 140737488351232) (e : w' = w.alloc (.cells (madeCells #[.int .u8 0] n) 5)) : Own w.heap.size w' (.slice (some ⟨w.heap.size, 0, none⟩) n n) (List.replicate n 0) := by
  subst e
  refine ⟨fun x hx => by rw [(List.mem_replicate.1 hx).2]; decide, by simpa using hn, by simp, .inr ⟨w.heap.size, n, _, by simp, Nat.le_refl _, heap_alloc_new w _, by simp, by unfold maxLen; omega, ?_, ?_⟩⟩
  · simp [madeCells]
  · rw [List.map_replicate, Nat.mul_one, List.length_replicate]; exact made_list _ n

/-- make of rows. -/
theorem made_rows {w w' : World} {n : Nat} (hn : n * 24 ≤ 140737488351232) (e : w' = w.alloc (.cells (madeCells #[.slice none 0 0] n) 39)) : OwnMat w.heap.size w' (.slice (some ⟨w.heap.size, 0, none⟩) n n) (List.replicate n (.slice none 0 0)) (List.replicate n []) := by
  subst e
  refine ⟨by simpa using hn, ⟨by simp, .inr ⟨w.heap.size, n, _, by simp, Nat.le_refl _, heap_alloc_new w _, by simp, by unfold maxLen; omega, ?_, ?_⟩⟩, by simp, fun j hj => ?_⟩
  · simp [madeCells]
  · rw [Nat.mul_one, List.length_replicate]; exact made_list _ n
  · simp only [List.length_replicate] at hj
    rw [getD_replicate _ _ _ _ hj, getD_replicate _ _ _ _ hj]
    exact Own.nil _ _

theorem wpList_make_vec {w : World} {ops : Array Oper} {rest : List Oper} {o : Oper} {a : Act} {Q : Exit → Act → World → Prop} (hgd : o.guard = none) (l c : Operand)
    (ho : o.op = Op.makeSlice 39 l c) (n : Nat) (hel : a.eval l = .int .i64 (n : Int)) (hec : a.eval c = .int .i64 (n : Int)) (hn : n ≤ 140737488351232)
    (h : ∀ w1 p, Own w.heap.size w1 (.slice p n n) (List.replicate n 0) → w.grownBy w1 none → wpList Try.prog ops Q rest (a.put o.dst (.slice p n n)) w1) : wpList Try.prog ops Q (o :: rest) a w := by
  obtain ⟨i0, hi, hz0, hz1, hz2⟩ := info_parts Try.info5
  refine wpList_make_row _ hgd l c 39 ho 5 i0 (.int .u8 0) Try.underlying39 hi hz0 hz1 rfl _ _ n hel hec (by rw [hz2]; omega) (by omega) ?_
  exact h _ _ (made_own hn rfl) (World.grownBy_alloc _ _ none)

theorem wpList_make_rows {w : World} {ops : Array Oper} {rest : List Oper} {o : Oper} {a : Act} {Q : Exit → Act → World → Prop} (hgd : o.guard = none) (l c : Operand)
    (ho : o.op = Op.makeSlice 25 l c) (n : Nat) (hel : a.eval l = .int .i64 (n : Int)) (hec : a.eval c = .int .i64 (n : Int)) (hn : n * 24 ≤ 140737488351232)
    (h : ∀ w1 p, OwnMat w.heap.size w1 (.slice p n n) (List.replicate n (.slice none 0 0)) (List.replicate n []) → w.grownBy w1 none → wpList Try.prog ops Q rest (a.put o.dst (.slice p n n)) w1) : wpList Try.prog ops Q (o :: rest) a w := by
  obtain ⟨i0, hi, hz0, hz1, hz2⟩ := info_parts Try.info22
  refine wpList_make_row _ hgd l c 25 ho 39 i0 (.slice none 0 0) Try.underlying25 hi hz0 hz1 rfl _ _ n hel hec (by rw [hz2]; omega) (by omega) ?_
  exact h _ _ (made_rows hn rfl) (World.grownBy_alloc _ _ none)
end Go.Proofs.Ytdeajclghlbhcaa
