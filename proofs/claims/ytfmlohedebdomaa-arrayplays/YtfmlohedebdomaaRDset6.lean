/- The document's array: a disk in another's place. -/
import Derived.Test.YtfmlohedebdomaaROn6
set_option linter.unusedSimpArgs false
set_option linter.unusedVariables false
namespace Go.Proofs.Ytfmlohedebdomaa
open Go.RowKit
theorem rows_set {w : World} {B e size n g c j : Nat} {us : List Value} (h : w.ownsRow B e size (.slice (some ⟨g, 0, none⟩) n c) n us) (hj : j < us.length) (u : Value) : (w.setCell ⟨g, j, none⟩ u).ownsRow B e size (.slice (some ⟨g, 0, none⟩) n c) n (us.set j u) := by
  have hl := h.1
  rcases h.2 with ⟨e1, hn⟩ | ⟨g', cap', cur, e1, hb, hg, hc, hm, hs, ht⟩
  · cases e1
  · injection e1 with e2 e3 e4
    injection e2 with e2
    injection e2 with e2
    subst e2
    subst e4
    refine ⟨by simpa using hl, .inr ⟨g, c, cur.setIfInBounds j u, rfl, hb, ?_, hc, hm, by simpa using hs, ?_⟩⟩
    · rw [setCell_eq_setRow w g j cur e (0, 0) _ hg]
      exact setRow_heap w g cur _ e _ hg
    · simp only [Array.toList_setIfInBounds]
      rw [List.take_set, ht]
theorem drow_put {ds : List Value} {D : List (Option (List (List Nat)))} {i : Nat} (hd : ds.length = D.length) (hi : i < D.length) (v : Value) (o : Option (List (List Nat))) : drow (ds.set i v) (D.set i o) = ((drow ds D).set (i * 2) v).set (i * 2 + 1) (.bool o.isNone) := by
  unfold drow
  induction ds generalizing D i with
  | nil => simp at hd; omega
  | cons x r ih =>
    cases D with
    | nil => simp at hi
    | cons y s =>
      cases i with
      | zero => simp
      | succ j =>
        have e1 : (j + 1) * 2 = j * 2 + 1 + 1 := by omega
        have e2 : (j + 1) * 2 + 1 = (j * 2 + 1) + 1 + 1 := by omega
        rw [e2, e1]
        simp only [List.set_cons_succ, List.zip_cons_cons, List.flatMap_cons, List.cons_append, List.nil_append]
        rw [ih (by simpa using hd) (by simpa using hi)]
theorem drow_len {ds : List Value} {D : List (Option (List (List Nat)))} (hd : ds.length = D.length) : (drow ds D).length = D.length * 2 := by
  unfold drow
  induction ds generalizing D with
  | nil => cases D with
    | nil => rfl
    | cons _ _ => simp at hd
  | cons x r ih =>
    cases D with
    | nil => simp at hd
    | cons y s =>
      simp only [List.zip_cons_cons, List.flatMap_cons, List.length_append, List.length_cons, List.length_nil]
      rw [ih (by simpa using hd)]
      omega

section
variable {G : Nat → Prop} {w : World} {r : Nat} {A : AM.RA} {dp : Option Addr} {dc : Nat} {ds : List Value} {lp : Option Addr} {lc : Nat} {fs : List Value}
theorem RL.dset {dg : Nat} (h : RL G w r (some ⟨dg, 0, none⟩) dc ds lp lc fs A) {w1 : World} (g1 : w.grownBy w1 none) {i : Nat} (hi : i < A.D.length) {v : Value} {o : Option (List (List Nat))}
    (ho : (o = none ∧ v = .slice none 0 0) ∨ ∃ (ss : List (List Nat)) (vs : List Value), o = some ss ∧ w1.ownsRow w.heap.size 32 1 v A.n vs ∧ ss.length = A.n ∧ ∀ (k : Nat) (u : Value) (b : List Nat), vs[k]? = some u → ss[k]? = some b → Own w.heap.size w1 u b) :
    RL (fun j => G j ∨ (w.heap.size ≤ j ∧ j < w1.heap.size)) ((w1.setCell ⟨dg, i * 2, none⟩ v).setCell ⟨dg, i * 2 + 1, none⟩ (.bool o.isNone)) r (some ⟨dg, 0, none⟩) dc (ds.set i v) lp lc fs { A with D := A.D.set i o } := by
  have h1 := h.keep g1
  obtain ⟨cd, hcd⟩ := rowBlock h1.dsk (g := dg) rfl
  obtain ⟨W, hW⟩ : ∃ W, W = (w1.setCell ⟨dg, i * 2, none⟩ v).setCell ⟨dg, i * 2 + 1, none⟩ (.bool o.isNone) := ⟨_, rfl⟩
  rw [← hW]
  have hb : ∀ j, j ≠ dg → W.heap[j]? = w1.heap[j]? := fun j hj => by rw [hW, Below.heap_setCell _ _ _ _ hj, Below.heap_setCell _ _ _ _ hj]
  have hsz : W.heap.size = w1.heap.size := by rw [hW]; simp
  have hne : ∀ (j : Nat) (c : Array Value) (t : TypeId), w1.heap[j]? = some (.cells c t (0, 0)) → t ≠ 73 → W.heap[j]? = w1.heap[j]? := fun j c t hj ht => hb j (ne_ty hj hcd ht)
  have hlen : (A.D.set i o).length = A.D.length := List.length_set ..
  have hdl : i < ds.length := by rw [h.dlen]; exact hi
  have hsplit : ∀ (j : Nat) (u : Value), (ds.set i v)[j]? = some u → (j = i ∧ u = v) ∨ (j ≠ i ∧ ds[j]? = some u) := fun j u hu => by
    by_cases c : i = j
    · subst c
      rw [List.getElem?_set, if_pos rfl, if_pos hdl] at hu
      exact .inl ⟨rfl, (Option.some.inj hu).symm⟩
    · rw [List.getElem?_set, if_neg c] at hu
      exact .inr ⟨Ne.symm c, hu⟩
  have hvn : ∀ g, v.ownBlock = some g → w.heap.size ≤ g ∧ g < w1.heap.size := fun g hg => by
    rcases ho with ⟨_, rfl⟩ | ⟨ss, vs, _, h2, _⟩
    · cases hg
    · exact ⟨(rows_blk h2 hg).1, (rows_blk h2 hg).2.1⟩
  refine ⟨fun j hj => ?_, ?_, ?_, by rw [hlen, List.length_set]; exact h.dlen, fun j u hu => ?_, ownsRow_same h1.fly (fun g hg => ?_), h.flen, fun j u x hu hx => ?_, .inl h.Gr, fun g hg => .inl (h.Gd g (by rw [hlen] at hg; exact hg)), fun j u hu g hg => ?_, fun g hg => .inl (h.Gl g hg), fun j k u u' hu hu' g hg hg' => ?_, h.left, h.n2, by rw [hlen]; exact h.d2⟩
  · rw [hsz]
    rcases hj with hj | hj
    · exact h1.lt j hj
    · exact hj.2
  · rw [hne r _ _ h1.top (by decide), hlen]; exact h1.top
  · rw [hlen]
    show World.ownsRow _ 0 _ 2 _ _ (drow (ds.set i v) (A.D.set i o))
    rw [drow_put h.dlen hi, hW]
    have hl2 := drow_len h.dlen
    exact rows_set (rows_set h1.dsk (by omega) v) (by simp; omega) _
  · rcases hsplit j u hu with ⟨rfl, rfl⟩ | ⟨hji, hu⟩
    · rcases ho with ⟨rfl, h3⟩ | ⟨ss, vs, rfl, h3, h4, h5⟩
      · exact .inl ⟨by show (A.D.set j none)[j]? = _; rw [List.getElem?_set, if_pos rfl, if_pos hi], h3⟩
      · refine .inr ⟨ss, vs, by show (A.D.set j (some ss))[j]? = _; rw [List.getElem?_set, if_pos rfl, if_pos hi], ownsRow_down (ownsRow_same h3 (fun g hg => ?_)) (Nat.zero_le _), h4, fun k u b hu hb => ?_⟩
        · obtain ⟨c, hc⟩ := rowBlock h3 hg
          exact hne g c _ hc (by decide)
        · have q := h5 k u b hu hb
          exact ⟨(q.down (Nat.zero_le _)).same0 (fun g hg => by
            obtain ⟨c, hc⟩ := rowBlock q.row hg
            exact hne g c _ hc (by decide)), fun g hg => .inr ⟨(rows_blk q.row hg).1, (rows_blk q.row hg).2.1⟩⟩
    · rcases h1.sec j u hu with h2 | ⟨ss, vs, h2, h3, h4, h5⟩
      · exact .inl ⟨by show (A.D.set i o)[j]? = _; rw [List.getElem?_set, if_neg (Ne.symm hji)]; exact h2.1, h2.2⟩
      · refine .inr ⟨ss, vs, by show (A.D.set i o)[j]? = _; rw [List.getElem?_set, if_neg (Ne.symm hji)]; exact h2, ownsRow_same h3 (fun g hg => ?_), h4, fun k u' b hu' hb' => ?_⟩
        · obtain ⟨c, hc⟩ := rowBlock h3 hg
          exact hne g c _ hc (by decide)
        · obtain ⟨q1, q2⟩ := h5 k u' b hu' hb'
          exact ⟨q1.same0 (fun g hg => by
            obtain ⟨c, hc⟩ := rowBlock q1.row hg
            exact hne g c _ hc (by decide)), fun g hg => .inl (q2 g hg)⟩
  · obtain ⟨c, hc⟩ := rowBlock h1.fly hg
    exact hne g c _ hc (by decide)
  · obtain ⟨q1, q2⟩ := h1.fv j u x hu hx
    exact ⟨q1.same0 (fun g hg => by
      obtain ⟨c, hc⟩ := rowBlock q1.row hg
      exact hne g c _ hc (by decide)), fun g hg => .inl (q2 g hg)⟩
  · rcases hsplit j u hu with ⟨rfl, rfl⟩ | ⟨hji, hu⟩
    · exact .inr (hvn g hg)
    · exact .inl (h.Gs j u hu g hg)
  · rcases hsplit j u hu with ⟨e1, e2⟩ | ⟨hji, hu2⟩
    · rcases hsplit k u' hu' with ⟨e3, e4⟩ | ⟨hki, hu3⟩
      · omega
      · have a1 := hvn g (by rw [← e2]; exact hg)
        have a2 := h.lt g (h.Gs k u' hu3 g hg')
        omega
    · rcases hsplit k u' hu' with ⟨e3, e4⟩ | ⟨hki, hu3⟩
      · have a1 := hvn g (by rw [← e4]; exact hg')
        have a2 := h.lt g (h.Gs j u hu2 g hg)
        omega
      · exact h.ap j k u u' hu2 hu3 g hg hg'
end
end Go.Proofs.Ytfmlohedebdomaa
