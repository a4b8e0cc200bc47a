/- The document's array: its places; a sector laid; the contracts of own, goes, why, On, Fuse. -/
import Derived.Test.YtfmlohedebdomaaRRep6
import Derived.Test.YtfmlohedebdomaaCopy7
set_option linter.unusedSimpArgs false
set_option linter.unusedVariables false
namespace Go.Proofs.Ytfmlohedebdomaa
open Go.RowKit

abbrev rptr (a : Nat) : Value := .pointer (some ⟨a, 0, none⟩)

theorem own_any {w : World} {v : Value} {xs : List Nat} (h : Vec w v xs) : Calls Try.prog 44 #[v] w fun e w' => ∃ p n c, e = .returned (.slice p n c) ∧ Own w.heap.size w' (.slice p n c) xs ∧ w.grownBy w' none := by
  have HV : Hid (Vec w v xs) := h
  have HL : Hid (xs.length ≤ 140737488351232) := h.len
  obtain ⟨p, n, c, rfl, _⟩ := h.opened
  clear h
  go_enter Try.func44, Try.ntmps44
  go_wp2_with (first | (at_builtin; refine wpList_append_vec rfl _ _ rfl _ _ rfl rfl (Own.nil w.heap.size w) HV.out (Nat.le_refl _) (by have := HL.out; simp; omega) ?_; intro v9 w9 ho hg; have HO : Hid (Own w.heap.size w9 v9 xs) := ho; have HG : Hid (w.grownBy w9 none) := hg; clear ho hg) | fail)
  go_ret
  obtain ⟨p9, n9, c9, rfl, _⟩ := HO.out.vec.opened
  exact ⟨p9, n9, c9, rfl, HO.out, HG.out⟩

theorem drow_set {ds : List Value} {D : List (Option (List (List Nat)))} {i : Nat} {o o' : Option (List (List Nat))} (h : D[i]? = some o) (e : o'.isNone = o.isNone) : drow ds (D.set i o') = drow ds D := by
  unfold drow
  induction ds generalizing D i with
  | nil => simp
  | cons v r ih =>
    cases D with
    | nil => simp at h
    | cons x y =>
      cases i with
      | zero =>
        simp at h
        subst h
        simp [e]
      | succ j =>
        simp at h
        simp [ih h]

section
variable {G : Nat → Prop} {w : World} {r : Nat} {dp : Option Addr} {dc : Nat} {ds : List Value} {lp : Option Addr} {lc : Nat} {fs : List Value} {A : AM.RA}
theorem rows_at {w : World} {B e size n m c : Nat} {p : Option Addr} {xs : List Value} (h : w.ownsRow B e size (.slice p m c) n xs) (hn : 0 < n) : ∃ g, p = some ⟨g, 0, none⟩ ∧ ∃ cur, w.heap[g]? = some (.cells cur e (0, 0)) ∧ ∀ j u, xs[j]? = some u → w.cell? ⟨g, j, none⟩ = some u := by
  have hr := h
  rcases h.2 with ⟨e1, hn0⟩ | ⟨g, cap, cur, e1, hb, hg, _⟩
  · omega
  · injection e1 with e2 e3 e4
    subst e2
    refine ⟨g, rfl, cur, hg, fun j u hj => ?_⟩
    have := hr.cells (g := g) rfl j u hj
    rwa [add_at, Nat.zero_add] at this
theorem RL.disk (h : RL G w r dp dc ds lp lc fs A) {i : Nat} (hi : i < A.D.length) : ∃ dg v, dp = some ⟨dg, 0, none⟩ ∧ ds[i]? = some v ∧ w.cell? ⟨dg, i * 2, none⟩ = some v ∧ w.cell? ⟨dg, i * 2 + 1, none⟩ = some (.bool (A.D[i]'hi).isNone) ∧ ∃ c, w.heap[dg]? = some (.cells c 73 (0, 0)) := by
  obtain ⟨g, rfl, cur, hg, hc⟩ := rows_at h.dsk (by omega)
  have hl : i < ds.length := by rw [h.dlen]; exact hi
  have hz : i < (ds.zip A.D).length := by simp; omega
  have hf : ∀ x ∈ ds.zip A.D, ([x.1, Value.bool x.2.isNone] : List Value).length = 2 := fun x _ => rfl
  refine ⟨g, ds[i], rfl, List.getElem?_eq_getElem hl, ?_, ?_, cur, hg⟩
  · have := flat_get (f := fun x : Value × Option (List (List Nat)) => [x.1, Value.bool x.2.isNone]) (m := 2) (i := 0) (by decide) hf hz
    exact hc _ _ (by rw [Nat.add_zero] at this; unfold drow; rw [this]; simp)
  · have := flat_get (f := fun x : Value × Option (List (List Nat)) => [x.1, Value.bool x.2.isNone]) (m := 2) (i := 1) (by decide) hf hz
    exact hc _ _ (by unfold drow; rw [this]; simp)
theorem RL.flight (h : RL G w r dp dc ds lp lc fs A) {i : Nat} (hi : i < A.L.length) : ∃ lg u, lp = some ⟨lg, 0, none⟩ ∧ fs[i]? = some u ∧ w.cell? ⟨lg, i * 3, none⟩ = some (.int .i64 ((A.L[i]'hi).d : Int)) ∧ w.cell? ⟨lg, i * 3 + 1, none⟩ = some (.int .i64 ((A.L[i]'hi).k : Int)) ∧ w.cell? ⟨lg, i * 3 + 2, none⟩ = some u ∧ Own 0 w u (A.L[i]'hi).b ∧ ∃ c, w.heap[lg]? = some (.cells c 84 (0, 0)) := by
  obtain ⟨g, rfl, cur, hg, hc⟩ := rows_at h.fly (by omega)
  have hl : i < fs.length := by rw [h.flen]; exact hi
  have hz : i < (fs.zip A.L).length := by simp; omega
  have hf : ∀ x ∈ fs.zip A.L, ([.int .i64 (x.2.d : Int), .int .i64 (x.2.k : Int), x.1] : List Value).length = 3 := fun x _ => rfl
  have key : ∀ j (hj : j < 3), (frow fs A.L)[i * 3 + j]? = ([.int .i64 ((A.L[i]'hi).d : Int), .int .i64 ((A.L[i]'hi).k : Int), fs[i]] : List Value)[j]? := fun j hj => by
    have := flat_get (f := fun x : Value × AM.Fl => ([.int .i64 (x.2.d : Int), .int .i64 (x.2.k : Int), x.1] : List Value)) (m := 3) (i := j) hj hf hz
    unfold frow
    rw [this]
    simp
  exact ⟨g, fs[i], rfl, List.getElem?_eq_getElem hl, hc _ _ (by have := key 0 (by decide); rwa [Nat.add_zero] at this), hc _ _ (key 1 (by decide)), hc _ _ (key 2 (by decide)), (h.fv i _ _ (List.getElem?_eq_getElem hl) (List.getElem?_eq_getElem hi)).1, cur, hg⟩
theorem rows_set1 {w : World} {B e n g c k : Nat} {us : List Value} (h : w.ownsRow B e 1 (.slice (some ⟨g, 0, none⟩) n c) n us) (hk : k < n) (u : Value) : (w.setCell ⟨g, k, none⟩ u).ownsRow B e 1 (.slice (some ⟨g, 0, none⟩) n c) n (us.set k u) := by
  have hl := h.1
  rcases h.2 with ⟨e1, hn⟩ | ⟨g', cap', cur, e1, hb, hg, hc, hm, hs, ht⟩
  · cases e1
  · injection e1 with e2 e3 e4
    injection e2 with e2
    injection e2 with e2
    subst e2
    subst e4
    refine ⟨by simpa using hl, .inr ⟨g, c, cur.setIfInBounds k u, rfl, hb, ?_, hc, hm, by simpa using hs, ?_⟩⟩
    · rw [setCell_eq_setRow w g k cur e (0, 0) _ hg]
      exact setRow_heap w g cur _ e _ hg
    · simp only [Array.toList_setIfInBounds]
      rw [List.take_set, ht]
theorem RL.place (h : RL G w r dp dc ds lp lc fs A) {i k : Nat} {v : Value} {ss : List (List Nat)} (hv : ds[i]? = some v) (hD : A.D[i]? = some (some ss)) (hk : k < A.n) : ∃ sg c u b, v = .slice (some ⟨sg, 0, none⟩) A.n c ∧ w.cell? ⟨sg, k, none⟩ = some u ∧ w.frozen? ⟨sg, k, none⟩ = false ∧ ss[k]? = some b ∧ Own 0 w u b ∧ G sg ∧ ∃ cc, w.heap[sg]? = some (.cells cc 32 (0, 0)) := by
  rcases h.sec i v hv with ⟨h1, _⟩ | ⟨ss', vs, h1, h2, h3, h4⟩
  · rw [hD] at h1; cases h1
  · rw [hD] at h1
    injection h1 with h1
    injection h1 with h1
    subst h1
    obtain ⟨p, c, rfl⟩ := rows_slice h2
    obtain ⟨g, rfl, cur, hg, hc⟩ := rows_at h2 (by omega)
    have hvl : vs.length = A.n := by have := h2.1; omega
    have hu : vs[k]? = some (vs[k]'(by omega)) := List.getElem?_eq_getElem (by omega)
    have hb : ss[k]? = some (ss[k]'(by omega)) := List.getElem?_eq_getElem (by omega)
    exact ⟨g, c, _, _, rfl, hc k _ hu, topFrozen k hg, hb, (h4 k _ _ hu hb).1, h.Gs i _ hv g rfl, cur, hg⟩
/-- A sector laid. -/
theorem RL.laid (h : RL G w r dp dc ds lp lc fs A) {w1 : World} (g1 : w.grownBy w1 none) {i k sg c : Nat} {u : Value} {ss : List (List Nat)} {b : List Nat} (hv : ds[i]? = some (.slice (some ⟨sg, 0, none⟩) A.n c)) (hD : A.D[i]? = some (some ss)) (hk : k < A.n) (hu : Own w.heap.size w1 u b) :
    RL (fun j => G j ∨ u.ownBlock = some j) (w1.setCell ⟨sg, k, none⟩ u) r dp dc ds lp lc fs { A with D := A.D.set i (some (ss.set k b)) } := by
  have h1 := h.keep g1
  obtain ⟨c', hc'⟩ : ∃ c, w1.heap[sg]? = some (.cells c 32 (0, 0)) := by
    rcases h1.sec i _ hv with ⟨_, e⟩ | ⟨ss', vs, _, h2, _⟩
    · cases e
    · exact rowBlock h2 rfl
  have hb : ∀ j, j ≠ sg → (w1.setCell ⟨sg, k, none⟩ u).heap[j]? = w1.heap[j]? := fun j hj => Below.heap_setCell _ _ _ _ hj
  have hne : ∀ (j : Nat) (c : Array Value) (t : TypeId), w1.heap[j]? = some (.cells c t (0, 0)) → t ≠ 32 → (w1.setCell ⟨sg, k, none⟩ u).heap[j]? = w1.heap[j]? := fun j c t hj ht => hb j (ne_ty hj hc' ht)
  have hil : i < A.D.length := (List.getElem?_eq_some_iff.1 hD).1
  have hlen : (A.D.set i (some (ss.set k b))).length = A.D.length := List.length_set ..
  have hown : Own 0 (w1.setCell ⟨sg, k, none⟩ u) u b := (hu.down (Nat.zero_le _)).same0 (fun g hg => by
    obtain ⟨cc, hcc⟩ := rowBlock hu.row hg
    exact hne g cc _ hcc (by decide))
  refine ⟨fun j hj => ?_, ?_, ?_, by rw [hlen]; exact h.dlen, fun j v hv' => ?_, ownsRow_same h1.fly (fun g hg => ?_), h.flen, fun j u' x hu' hx => ?_, .inl h.Gr, fun g hg => .inl (h.Gd g (by rw [hlen] at hg; exact hg)), fun j v hv' g hg => .inl (h.Gs j v hv' g hg), fun g hg => .inl (h.Gl g hg), h.ap, h.left, h.n2, by rw [hlen]; exact h.d2⟩
  · rcases hj with hj | hj
    · simpa using h1.lt j hj
    · have := (rows_blk hu.row hj).2.1
      simpa using this
  · rw [hne r _ _ h1.top (by decide), hlen]; exact h1.top
  · rw [hlen]
    show World.ownsRow _ 0 _ 2 _ _ (drow ds (A.D.set i (some (ss.set k b))))
    rw [drow_set (o' := some (ss.set k b)) hD rfl]
    exact ownsRow_same h1.dsk (fun g hg => by
      obtain ⟨cc, hcc⟩ := rowBlock h1.dsk hg
      exact hne g cc _ hcc (by decide))
  · by_cases cji : i = j
    · subst cji
      rw [hv] at hv'
      obtain rfl := Option.some.inj hv'
      rcases h1.sec i _ hv with ⟨_, e⟩ | ⟨ss', vs, h2, h3, h4, h5⟩
      · cases e
      · rw [hD] at h2
        injection h2 with h2
        injection h2 with h2
        subst h2
        refine .inr ⟨ss.set k b, vs.set k u, by rw [List.getElem?_set, if_pos rfl, if_pos hil], rows_set1 h3 hk u, by simpa using h4, fun k' u' b' hu' hb' => ?_⟩
        by_cases ck : k = k'
        · subst ck
          have hkv : k < vs.length := by have := h3.1; omega
          rw [List.getElem?_set, if_pos rfl, if_pos hkv] at hu'
          rw [List.getElem?_set, if_pos rfl, if_pos (by omega)] at hb'
          obtain rfl := Option.some.inj hu'
          obtain rfl := Option.some.inj hb'
          exact ⟨hown, fun g hg => .inr hg⟩
        · rw [List.getElem?_set, if_neg ck] at hu'
          rw [List.getElem?_set, if_neg ck] at hb'
          obtain ⟨q1, q2⟩ := h5 k' u' b' hu' hb'
          exact ⟨q1.same0 (fun g hg => by
            obtain ⟨cc, hcc⟩ := rowBlock q1.row hg
            exact hne g cc _ hcc (by decide)), fun g hg => .inl (q2 g hg)⟩
    · rcases h1.sec j v hv' with h2 | ⟨ss', vs, h2, h3, h4, h5⟩
      · exact .inl ⟨by rw [List.getElem?_set, if_neg cji]; exact h2.1, h2.2⟩
      · refine .inr ⟨ss', vs, by rw [List.getElem?_set, if_neg cji]; exact h2, ownsRow_same h3 (fun g hg => hb g (fun e => cji (h.ap i j _ v hv hv' g (by rw [e]; rfl) hg))), h4, fun k' u' b' hu' hb' => ?_⟩
        obtain ⟨q1, q2⟩ := h5 k' u' b' hu' hb'
        exact ⟨q1.same0 (fun g hg => by
          obtain ⟨cc, hcc⟩ := rowBlock q1.row hg
          exact hne g cc _ hcc (by decide)), fun g hg => .inl (q2 g hg)⟩
  · obtain ⟨cc, hcc⟩ := rowBlock h1.fly hg
    exact hne g cc _ hcc (by decide)
  · obtain ⟨q1, q2⟩ := h1.fv j u' x hu' hx
    exact ⟨q1.same0 (fun g hg => by
      obtain ⟨cc, hcc⟩ := rowBlock q1.row hg
      exact hne g cc _ hcc (by decide)), fun g hg => .inl (q2 g hg)⟩
end
end Go.Proofs.Ytfmlohedebdomaa
