/- Packed: RRef6, RLeaf6, SimM, PT8. -/
import Derived.Test.YtfjlpifaaknmpaaGreatSk1
import Derived.Test.YtfjlpifaaknmpaaGreatSk2
import Derived.Test.YtfjlpifaaknmpaaGreatSk3
import Derived.Test.YtfjlpifaaknmpaaGreatSk4
import Derived.Test.YtfjlpifaaknmpaaGreatSk5
import Derived.Test.YtfjlpifaaknmpaaGreatSk6
import Derived.Test.YtfjlpifaaknmpaaGreatSk7
import Derived.Test.YtfjlpifaaknmpaaGreatSk8
import Derived.Test.YtfjlpifaaknmpaaGreatSk9
import Derived.Test.YtfjlpifaaknmpaaGreatSk10
import Derived.Test.YtfjlpifaaknmpaaGreatSk19
import Derived.Test.YtfjlpifaaknmpaaGreatSk11
/- The document's array: its places; a sector laid; the contracts of own, goes, why, On, Fuse. -/
set_option linter.unusedSimpArgs false
set_option linter.unusedVariables false
set_option maxRecDepth 100000
namespace Go.Proofs.YtfjlpifaaknmpaaGreat
open Go.RowKit

abbrev rptr (a : Nat) : Value := .pointer (some ⟨a, 0, none⟩)

theorem drow_set {ds : List Value} {D : List (Option (List (List Nat)))} {i : Nat} {o o' : Option (List (List Nat))} (h : D[i]? = some o) (e : o'.isNone = o.isNone) : drow ds (D.set i o') = drow ds D := by
  unfold drow
  induction ds generalizing D i with
  | nil => simp
  | cons v r ih =>
    cases D with
    | nil => simp at h
    | cons x y =>
      cases i with
      | zero =>
        simp at h
        subst h
        simp [e]
      | succ j =>
        simp at h
        simp [ih h]

section
variable {G : Nat → Prop} {w : World} {r : Nat} {dp : Option Addr} {dc : Nat} {ds : List Value} {lp : Option Addr} {lc : Nat} {fs : List Value} {A : AM.RA}
theorem rows_at {w : World} {B e size n m c : Nat} {p : Option Addr} {xs : List Value} (h : w.ownsRow B e size (.slice p m c) n xs) (hn : 0 < n) : ∃ g, p = some ⟨g, 0, none⟩ ∧ ∃ cur, w.heap[g]? = some (.cells cur e (0, 0)) ∧ ∀ j u, xs[j]? = some u → w.cell? ⟨g, j, none⟩ = some u := by
  have hr := h
  rcases h.2 with ⟨e1, hn0⟩ | ⟨g, cap, cur, e1, hb, hg, _⟩
  · omega
  · injection e1 with e2 e3 e4
    subst e2
    refine ⟨g, rfl, cur, hg, fun j u hj => ?_⟩
    have := hr.cells (g := g) rfl j u hj
    rwa [add_at, Nat.zero_add] at this
theorem RL.disk (h : RL G w r dp dc ds lp lc fs A) {i : Nat} (hi : i < A.D.length) : ∃ dg v, dp = some ⟨dg, 0, none⟩ ∧ ds[i]? = some v ∧ w.cell? ⟨dg, i * 2, none⟩ = some v ∧ w.cell? ⟨dg, i * 2 + 1, none⟩ = some (.bool (A.D[i]'hi).isNone) ∧ ∃ c, w.heap[dg]? = some (.cells c 133 (0, 0)) := by
  obtain ⟨g, rfl, cur, hg, hc⟩ := rows_at h.dsk (by omega)
  have hl : i < ds.length := by rw [h.dlen]; exact hi
  have hz : i < (ds.zip A.D).length := by simp; omega
  have hf : ∀ x ∈ ds.zip A.D, ([x.1, Value.bool x.2.isNone] : List Value).length = 2 := fun x _ => rfl
  refine ⟨g, ds[i], rfl, List.getElem?_eq_getElem hl, ?_, ?_, cur, hg⟩
  · have := flat_get (f := fun x : Value × Option (List (List Nat)) => [x.1, Value.bool x.2.isNone]) (m := 2) (i := 0) (by decide) hf hz
    exact hc _ _ (by rw [Nat.add_zero] at this; unfold drow; rw [this]; simp)
  · have := flat_get (f := fun x : Value × Option (List (List Nat)) => [x.1, Value.bool x.2.isNone]) (m := 2) (i := 1) (by decide) hf hz
    exact hc _ _ (by unfold drow; rw [this]; simp)
theorem RL.flight (h : RL G w r dp dc ds lp lc fs A) {i : Nat} (hi : i < A.L.length) : ∃ lg u, lp = some ⟨lg, 0, none⟩ ∧ fs[i]? = some u ∧ w.cell? ⟨lg, i * 3, none⟩ = some (.int .i64 ((A.L[i]'hi).d : Int)) ∧ w.cell? ⟨lg, i * 3 + 1, none⟩ = some (.int .i64 ((A.L[i]'hi).k : Int)) ∧ w.cell? ⟨lg, i * 3 + 2, none⟩ = some u ∧ Own 0 w u (A.L[i]'hi).b ∧ ∃ c, w.heap[lg]? = some (.cells c 135 (0, 0)) := by
  obtain ⟨g, rfl, cur, hg, hc⟩ := rows_at h.fly (by omega)
  have hl : i < fs.length := by rw [h.flen]; exact hi
  have hz : i < (fs.zip A.L).length := by simp; omega
  have hf : ∀ x ∈ fs.zip A.L, ([.int .i64 (x.2.d : Int), .int .i64 (x.2.k : Int), x.1] : List Value).length = 3 := fun x _ => rfl
  have key : ∀ j (hj : j < 3), (frow fs A.L)[i * 3 + j]? = ([.int .i64 ((A.L[i]'hi).d : Int), .int .i64 ((A.L[i]'hi).k : Int), fs[i]] : List Value)[j]? := fun j hj => by
    have := flat_get (f := fun x : Value × AM.Fl => ([.int .i64 (x.2.d : Int), .int .i64 (x.2.k : Int), x.1] : List Value)) (m := 3) (i := j) hj hf hz
    unfold frow
    rw [this]
    simp
  exact ⟨g, fs[i], rfl, List.getElem?_eq_getElem hl, hc _ _ (by have := key 0 (by decide); rwa [Nat.add_zero] at this), hc _ _ (key 1 (by decide)), hc _ _ (key 2 (by decide)), (h.fv i _ _ (List.getElem?_eq_getElem hl) (List.getElem?_eq_getElem hi)).1, cur, hg⟩
theorem rows_set1 {w : World} {B e n g c k : Nat} {us : List Value} (h : w.ownsRow B e 1 (.slice (some ⟨g, 0, none⟩) n c) n us) (hk : k < n) (u : Value) : (w.setCell ⟨g, k, none⟩ u).ownsRow B e 1 (.slice (some ⟨g, 0, none⟩) n c) n (us.set k u) := by
  have hl := h.1
  rcases h.2 with ⟨e1, hn⟩ | ⟨g', cap', cur, e1, hb, hg, hc, hm, hs, ht⟩
  · cases e1
  · injection e1 with e2 e3 e4
    injection e2 with e2
    injection e2 with e2
    subst e2
    subst e4
    refine ⟨by simpa using hl, .inr ⟨g, c, cur.setIfInBounds k u, rfl, hb, ?_, hc, hm, by simpa using hs, ?_⟩⟩
    · rw [setCell_eq_setRow w g k cur e (0, 0) _ hg]
      exact setRow_heap w g cur _ e _ hg
    · simp only [Array.toList_setIfInBounds]
      rw [List.take_set, ht]
theorem RL.place (h : RL G w r dp dc ds lp lc fs A) {i k : Nat} {v : Value} {ss : List (List Nat)} (hv : ds[i]? = some v) (hD : A.D[i]? = some (some ss)) (hk : k < A.n) : ∃ sg c u b, v = .slice (some ⟨sg, 0, none⟩) A.n c ∧ w.cell? ⟨sg, k, none⟩ = some u ∧ w.frozen? ⟨sg, k, none⟩ = false ∧ ss[k]? = some b ∧ Own 0 w u b ∧ G sg ∧ ∃ cc, w.heap[sg]? = some (.cells cc 40 (0, 0)) := by
  rcases h.sec i v hv with ⟨h1, _⟩ | ⟨ss', vs, h1, h2, h3, h4⟩
  · rw [hD] at h1; cases h1
  · rw [hD] at h1
    injection h1 with h1
    injection h1 with h1
    subst h1
    obtain ⟨p, c, rfl⟩ := rows_slice h2
    obtain ⟨g, rfl, cur, hg, hc⟩ := rows_at h2 (by omega)
    have hvl : vs.length = A.n := by have := h2.1; omega
    have hu : vs[k]? = some (vs[k]'(by omega)) := List.getElem?_eq_getElem (by omega)
    have hb : ss[k]? = some (ss[k]'(by omega)) := List.getElem?_eq_getElem (by omega)
    exact ⟨g, c, _, _, rfl, hc k _ hu, topFrozen k hg, hb, (h4 k _ _ hu hb).1, h.Gs i _ hv g rfl, cur, hg⟩
/-- A sector laid. -/
theorem RL.laid (h : RL G w r dp dc ds lp lc fs A) {w1 : World} (g1 : w.grownBy w1 none) {i k sg c : Nat} {u : Value} {ss : List (List Nat)} {b : List Nat} (hv : ds[i]? = some (.slice (some ⟨sg, 0, none⟩) A.n c)) (hD : A.D[i]? = some (some ss)) (hk : k < A.n) (hu : Own w.heap.size w1 u b) :
    RL (fun j => G j ∨ u.ownBlock = some j) (w1.setCell ⟨sg, k, none⟩ u) r dp dc ds lp lc fs { A with D := A.D.set i (some (ss.set k b)) } := by
  have h1 := h.keep g1
  obtain ⟨c', hc'⟩ : ∃ c, w1.heap[sg]? = some (.cells c 40 (0, 0)) := by
    rcases h1.sec i _ hv with ⟨_, e⟩ | ⟨ss', vs, _, h2, _⟩
    · cases e
    · exact rowBlock h2 rfl
  have hb : ∀ j, j ≠ sg → (w1.setCell ⟨sg, k, none⟩ u).heap[j]? = w1.heap[j]? := fun j hj => Below.heap_setCell _ _ _ _ hj
  have hne : ∀ (j : Nat) (c : Array Value) (t : TypeId), w1.heap[j]? = some (.cells c t (0, 0)) → t ≠ 40 → (w1.setCell ⟨sg, k, none⟩ u).heap[j]? = w1.heap[j]? := fun j c t hj ht => hb j (ne_ty hj hc' ht)
  have hil : i < A.D.length := (List.getElem?_eq_some_iff.1 hD).1
  have hlen : (A.D.set i (some (ss.set k b))).length = A.D.length := List.length_set ..
  have hown : Own 0 (w1.setCell ⟨sg, k, none⟩ u) u b := (hu.down (Nat.zero_le _)).same0 (fun g hg => by
    obtain ⟨cc, hcc⟩ := rowBlock hu.row hg
    exact hne g cc _ hcc (by decide))
  refine ⟨fun j hj => ?_, ?_, ?_, by rw [hlen]; exact h.dlen, fun j v hv' => ?_, ownsRow_same h1.fly (fun g hg => ?_), h.flen, fun j u' x hu' hx => ?_, .inl h.Gr, fun g hg => .inl (h.Gd g (by rw [hlen] at hg; exact hg)), fun j v hv' g hg => .inl (h.Gs j v hv' g hg), fun g hg => .inl (h.Gl g hg), h.ap, h.left, h.n2, by rw [hlen]; exact h.d2⟩
  · rcases hj with hj | hj
    · simpa using h1.lt j hj
    · have := (rows_blk hu.row hj).2.1
      simpa using this
  · rw [hne r _ _ h1.top (by decide), hlen]; exact h1.top
  · rw [hlen]
    show World.ownsRow _ 0 _ 2 _ _ (drow ds (A.D.set i (some (ss.set k b))))
    rw [drow_set (o' := some (ss.set k b)) hD rfl]
    exact ownsRow_same h1.dsk (fun g hg => by
      obtain ⟨cc, hcc⟩ := rowBlock h1.dsk hg
      exact hne g cc _ hcc (by decide))
  · by_cases cji : i = j
    · subst cji
      rw [hv] at hv'
      obtain rfl := Option.some.inj hv'
      rcases h1.sec i _ hv with ⟨_, e⟩ | ⟨ss', vs, h2, h3, h4, h5⟩
      · cases e
      · rw [hD] at h2
        injection h2 with h2
        injection h2 with h2
        subst h2
        refine .inr ⟨ss.set k b, vs.set k u, by rw [List.getElem?_set, if_pos rfl, if_pos hil], rows_set1 h3 hk u, by simpa using h4, fun k' u' b' hu' hb' => ?_⟩
        by_cases ck : k = k'
        · subst ck
          have hkv : k < vs.length := by have := h3.1; omega
          rw [List.getElem?_set, if_pos rfl, if_pos hkv] at hu'
          rw [List.getElem?_set, if_pos rfl, if_pos (by omega)] at hb'
          obtain rfl := Option.some.inj hu'
          obtain rfl := Option.some.inj hb'
          exact ⟨hown, fun g hg => .inr hg⟩
        · rw [List.getElem?_set, if_neg ck] at hu'
          rw [List.getElem?_set, if_neg ck] at hb'
          obtain ⟨q1, q2⟩ := h5 k' u' b' hu' hb'
          exact ⟨q1.same0 (fun g hg => by
            obtain ⟨cc, hcc⟩ := rowBlock q1.row hg
            exact hne g cc _ hcc (by decide)), fun g hg => .inl (q2 g hg)⟩
    · rcases h1.sec j v hv' with h2 | ⟨ss', vs, h2, h3, h4, h5⟩
      · exact .inl ⟨by rw [List.getElem?_set, if_neg cji]; exact h2.1, h2.2⟩
      · refine .inr ⟨ss', vs, by rw [List.getElem?_set, if_neg cji]; exact h2, ownsRow_same h3 (fun g hg => hb g (fun e => cji (h.ap i j _ v hv hv' g (by rw [e]; rfl) hg))), h4, fun k' u' b' hu' hb' => ?_⟩
        obtain ⟨q1, q2⟩ := h5 k' u' b' hu' hb'
        exact ⟨q1.same0 (fun g hg => by
          obtain ⟨cc, hcc⟩ := rowBlock q1.row hg
          exact hne g cc _ hcc (by decide)), fun g hg => .inl (q2 g hg)⟩
  · obtain ⟨cc, hcc⟩ := rowBlock h1.fly hg
    exact hne g cc _ hcc (by decide)
  · obtain ⟨q1, q2⟩ := h1.fv j u' x hu' hx
    exact ⟨q1.same0 (fun g hg => by
      obtain ⟨cc, hcc⟩ := rowBlock q1.row hg
      exact hne g cc _ hcc (by decide)), fun g hg => .inl (q2 g hg)⟩
end
end Go.Proofs.YtfjlpifaaknmpaaGreat

/- The document's array: the contracts of goes, why, On, Ons, Fuse. -/
set_option linter.unusedSimpArgs false
set_option linter.unusedVariables false
set_option maxRecDepth 100000
namespace Go.Proofs.YtfjlpifaaknmpaaGreat
open Go.RowKit

namespace AM.RA
def on (A : RA) (d : Int) : Bool := decide (0 ≤ d) && decide (d < A.D.length) && (A.D.getD d.toNat none).isSome
def why (A : RA) (d k : Int) : Nat := if A.dark then 8 else if 0 ≤ d ∧ d < A.D.length ∧ 0 ≤ k ∧ k < A.n then (if (A.D.getD d.toNat none).isSome then 0 else 9) else 6
def burns (A : RA) : Bool := A.left == 1
def burnt (A : RA) : RA := if A.left = 0 then A else { A with left := A.left - 1, dark := A.left == 1 }
end AM.RA

section
variable {G : Nat → Prop} {w : World} {r : Nat} {A : AM.RA}

end
end Go.Proofs.YtfjlpifaaknmpaaGreat

/- The program's array against the document's: plain facts (Sim): each call is answered alike, and leaves them alike. -/
set_option linter.unusedSimpArgs false
set_option linter.unusedVariables false
set_option maxRecDepth 100000
namespace Go.Proofs.YtfjlpifaaknmpaaGreat
namespace AM

/-- The sectors of a disk's bytes. -/
def secs (n : Nat) (xs : List Nat) : List (List Nat) := (List.range n).map (sec xs)
def secsD (n : Nat) (C : List Disk) : List (Option (List (List Nat))) := C.map (Option.map (secs n))
theorem secs_len (n : Nat) (xs : List Nat) : (secs n xs).length = n := by simp [secs]
theorem secs_get {n k : Nat} (h : k < n) (xs : List Nat) : (secs n xs)[k]? = some (sec xs k) := by simp [secs, h]
theorem secsD_len (n : Nat) (C : List Disk) : (secsD n C).length = C.length := by simp [secsD]
theorem secsD_get (n : Nat) (C : List Disk) (d : Nat) : (secsD n C)[d]? = (C[d]?).map (Option.map (secs n)) := by simp [secsD]
theorem secs_put {n k : Nat} {xs b : List Nat} (hx : xs.length = n * 64) (hk : k < n) (hb : b.length = 64) : secs n (put xs k b) = (secs n xs).set k b := by
  have hf := fits hk
  apply List.ext_getElem?
  intro j
  by_cases hj : j < n
  · rw [secs_get hj]
    by_cases c : k = j
    · subst c
      rw [sec_put_same hb (by omega), List.getElem?_set, if_pos rfl, if_pos (by rw [secs_len]; exact hj)]
    · rw [sec_put_ne hb (by omega) (Ne.symm c), List.getElem?_set, if_neg c, secs_get hj]
  · rw [List.getElem?_eq_none (by rw [secs_len]; omega), List.getElem?_eq_none (by simp [secs_len]; omega)]

/-- A sector of the document's disks. -/
def rlay (D : List (Option (List (List Nat)))) (d k : Nat) (b : List Nat) : List (Option (List (List Nat))) := D.set d ((D.getD d none).map (fun ss => ss.set k b))
theorem secsD_lay {n : Nat} {C : List Disk} (hC : OkC n C) {d k : Nat} (hk : k < n) {b : List Nat} (hb : b.length = 64) : secsD n (lay C d k b) = rlay (secsD n C) d k b := by
  apply List.ext_getElem?
  intro j
  rw [secsD_get]
  unfold rlay
  by_cases c : d = j
  · subst c
    by_cases hl : d < C.length
    · rw [List.getElem?_set, if_pos rfl, if_pos (by rw [secsD_len]; exact hl)]
      have e : (secsD n C).getD d none = (C[d]).map (secs n) := by simp [List.getD, secsD, hl]
      rw [e]
      cases hq : C[d] with
      | none =>
        have : (lay C d k b)[d]? = some none := by simp [lay, List.getD, hl, hq]
        rw [this]; rfl
      | some xs =>
        have hq' : C[d]? = some (some xs) := by rw [List.getElem?_eq_getElem hl, hq]
        rw [lay_at k b hq']
        obtain ⟨h1, _⟩ := hC d xs hq'
        simp [secs_put h1 hk hb]
    · rw [List.getElem?_eq_none (by rw [lay_len]; omega), List.getElem?_eq_none (by simp [secsD_len]; omega)]
      rfl
  · rw [lay_ne k b (Ne.symm c), List.getElem?_set, if_neg c, secsD_get]

namespace RA
def ons (A : RA) : Nat := A.D.countP (·.isSome)
def fly (A : RA) (d k : Nat) (b : List Nat) : RA := { A with L := A.L ++ [⟨d, k, b⟩] }
def writes (A : RA) (d k : Int) (b : List Nat) : Nat × RA :=
  if A.why d k ≠ 0 then (A.why d k, A) else if b.length ≠ 64 then (1, A) else if A.burns then (8, A.burnt) else (0, A.burnt.fly d.toNat k.toNat b)
def barrier (A : RA) : Nat × RA := if A.dark then (8, A) else if A.burns then (8, A.burnt) else (0, { A.burnt with D := A.L.foldl (fun D l => rlay D l.d l.k l.b) A.D, L := [] })
def lost (A : RA) (d : Nat) : RA := { A with D := A.D.set d none, L := A.L.filter (fun l => !(l.d == d)) }
def lose (A : RA) (d : Int) : Nat × RA := if 0 ≤ d ∧ d < A.D.length then (if (A.D.getD d.toNat none).isSome then (0, A.lost d.toNat) else (9, A)) else (6, A)
def fused (A : RA) (n : Int) : RA := { A with left := n.toNat }
def new (d n : Nat) : RA := ⟨List.replicate d (some (List.replicate n (zs 64))), n, [], 0, false⟩
/-- The last in flight for that sector, or else b. -/
def last (L : List Fl) (d k : Nat) (b : List Nat) : List Nat := L.foldl (fun c l => if l.d = d ∧ l.k = k then l.b else c) b
def read (A : RA) (d k : Int) : List Nat := if A.why d k = 0 then last A.L d.toNat k.toNat (((A.D.getD d.toNat none).getD []).getD k.toNat []) else []
end RA

def flOf (l : Wr) : Fl := ⟨l.d, l.k, l.now⟩
/-- All in flight laid again. -/
def redo (C : List Disk) (L : List Wr) : List Disk := L.foldl (fun D l => lay D l.d l.k l.now) C

structure Sim (R : Raw) (A : RA) : Prop where
  ok : R.Ok
  n : A.n = R.n
  left : A.left = R.fuse
  dark : A.dark = R.off
  L : A.L = R.L.map flOf
  D : A.D = secsD R.n (undoTo R.C R.L 0)
  redo : redo (undoTo R.C R.L 0) R.L = R.C

theorem Sim.len {R : Raw} {A : RA} (h : Sim R A) : A.D.length = R.C.length := by rw [h.D, secsD_len, undoTo_len]
theorem undo_on (C : List Disk) (L : List Wr) (j e : Nat) : ((undoTo C L j).getD e none).isSome = (C.getD e none).isSome := by
  unfold undoTo
  generalize L.drop j = Z
  induction Z with
  | nil => rfl
  | cons l r ih => simp only [List.foldr]; rw [lay_on, ih]
theorem secsD_on (n : Nat) (C : List Disk) (e : Nat) : ((secsD n C).getD e none).isSome = (C.getD e none).isSome := by
  simp only [List.getD, secsD_get]
  cases h : C[e]? with
  | none => rfl
  | some x => cases x <;> rfl
theorem Sim.isSome {R : Raw} {A : RA} (h : Sim R A) (e : Nat) : (A.D.getD e none).isSome = (R.C.getD e none).isSome := by rw [h.D, secsD_on, undo_on]
theorem Sim.on {R : Raw} {A : RA} (h : Sim R A) (d : Int) : A.on d = R.on d := by
  unfold RA.on Raw.on
  rw [h.len, h.isSome]
theorem Sim.why {R : Raw} {A : RA} (h : Sim R A) (d k : Int) : A.why d k = R.reach d k := by
  unfold RA.why Raw.reach
  rw [h.dark, h.len, h.n, h.isSome]
  split
  · rfl
  · split
    · rename_i c
      simp [Raw.on, c.1, c.2.1]
    · rfl
theorem Sim.burns {R : Raw} {A : RA} (h : Sim R A) : A.burns = R.burns := by unfold RA.burns Raw.burns; rw [h.left]
theorem burnt_C (R : Raw) : R.burnt.C = R.C ∧ R.burnt.n = R.n ∧ R.burnt.L = R.L := by unfold Raw.burnt; split <;> exact ⟨rfl, rfl, rfl⟩
theorem rburnt_D (A : RA) : A.burnt.D = A.D ∧ A.burnt.n = A.n ∧ A.burnt.L = A.L := by unfold RA.burnt; split <;> exact ⟨rfl, rfl, rfl⟩
theorem Sim.burnt {R : Raw} {A : RA} (h : Sim R A) : Sim R.burnt A.burnt := by
  obtain ⟨a1, a2, a3⟩ := burnt_C R
  obtain ⟨b1, b2, b3⟩ := rburnt_D A
  refine ⟨h.ok.burnt, by rw [a2, b2, h.n], ?_, ?_, by rw [a3, b3, h.L], by rw [a1, a2, a3, b1, h.D], by rw [a1, a3, h.redo]⟩
  · unfold RA.burnt Raw.burnt; rw [h.left]; split
    · exact h.left
    · rfl
  · unfold RA.burnt Raw.burnt; rw [h.left]; split
    · exact h.dark
    · rfl
theorem undo_fly {C : List Disk} {L : List Wr} {d k : Nat} {b xs : List Nat} (hx : C[d]? = some (some xs)) (hl : k * 64 + 64 ≤ xs.length) (hb : b.length = 64) : undoTo (lay C d k b) (L ++ [⟨d, k, look C d k, b⟩]) 0 = undoTo C L 0 := by
  unfold undoTo
  simp only [List.drop_zero, List.foldr_append, List.foldr_cons, List.foldr_nil]
  congr 1
  have e : look C d k = sec xs k := look_at k hx
  rw [e]
  apply List.ext_getElem?
  intro j
  by_cases c : j = d
  · subst c
    rw [lay_at _ _ (lay_at k b hx), put_put_sec hb hl, hx]
  · rw [lay_ne _ _ c, lay_ne _ _ c]
theorem Sim.fly {R : Raw} {A : RA} (h : Sim R A) {d k : Nat} {b xs : List Nat} (hx : R.C[d]? = some (some xs)) (hk : k < R.n) (hb : b.length = 64) (hs : ∀ x ∈ b, x < 256) : Sim (R.fly d k b) (A.fly d k b) := by
  obtain ⟨h1, _⟩ := h.ok.C d xs hx
  have hf := fits hk
  have hu : undoTo (R.fly d k b).C (R.fly d k b).L 0 = undoTo R.C R.L 0 := undo_fly hx (by omega) hb
  refine ⟨h.ok.fly ⟨xs, hx⟩ hk hb hs, h.n, h.left, h.dark, by simp [RA.fly, Raw.fly, h.L, flOf], ?_, ?_⟩
  · rw [hu]; exact h.D
  · rw [hu]
    show AM.redo _ (R.L ++ [_]) = lay R.C d k b
    unfold AM.redo
    rw [List.foldl_append]
    have := h.redo
    unfold AM.redo at this
    rw [this]
    rfl
theorem Sim.write {R : Raw} {A : RA} (h : Sim R A) (d k : Int) {b : List Nat} (hs : ∀ x ∈ b, x < 256) : (A.writes d k b).1 = (R.writes d k b).1 ∧ Sim (R.writes d k b).2 (A.writes d k b).2 := by
  by_cases hr : R.reach d k = 0
  · by_cases hb : b.length = 64
    · cases hbu : R.burns with
      | true =>
        simp only [RA.writes, Raw.writes, h.why, h.burns, hr, hb, hbu, ne_eq, not_true_eq_false, if_false, if_true]
        exact ⟨trivial, h.burnt⟩
      | false =>
        obtain ⟨_, h1, _, h2, h3, xs, hx⟩ := reach_zero hr
        obtain ⟨a1, a2, _⟩ := burnt_C R
        simp only [RA.writes, Raw.writes, h.why, h.burns, hr, hb, hbu, ne_eq, not_true_eq_false, if_false, Bool.false_eq_true]
        exact ⟨trivial, h.burnt.fly (by rw [a1]; exact hx) (by rw [a2]; omega) hb hs⟩
    · simp only [RA.writes, Raw.writes, h.why, h.burns, hr, hb, ne_eq, not_true_eq_false, not_false_eq_true, if_false, if_true]
      exact ⟨trivial, h⟩
  · simp only [RA.writes, Raw.writes, h.why, hr, ne_eq, not_false_eq_true, if_true]
    exact ⟨trivial, h⟩
theorem Sim.fuse {R : Raw} {A : RA} (h : Sim R A) {n : Int} (hn : n < 9223372036854775808) : Sim (R.fused n) (A.fused n) :=
  ⟨⟨h.ok.d1, h.ok.d2, h.ok.n1, h.ok.n2, h.ok.C, h.ok.L, by show n.toNat < _; omega⟩, h.n, rfl, h.dark, h.L, h.D, h.redo⟩
theorem OkC.redo {n : Nat} {C : List Disk} (h : OkC n C) {L : List Wr} (hL : ∀ l ∈ L, OkW n C l) : OkC n (AM.redo C L) := by
  unfold AM.redo
  induction L generalizing C with
  | nil => exact h
  | cons l r ih =>
    have hl := hL l (List.mem_cons_self ..)
    exact ih (h.lay hl.k hl.now hl.nowS) (fun x hx => (hL x (List.mem_cons_of_mem _ hx)).lay _ _ _)
theorem secsD_redo {n : Nat} {C : List Disk} (h : OkC n C) {L : List Wr} (hL : ∀ l ∈ L, OkW n C l) : (L.map flOf).foldl (fun D l => rlay D l.d l.k l.b) (secsD n C) = secsD n (AM.redo C L) := by
  unfold AM.redo
  induction L generalizing C with
  | nil => rfl
  | cons l r ih =>
    have hl := hL l (List.mem_cons_self ..)
    simp only [List.map_cons, List.foldl_cons]
    rw [← ih (h.lay hl.k hl.now hl.nowS) (fun x hx => (hL x (List.mem_cons_of_mem _ hx)).lay _ _ _), secsD_lay h hl.k hl.now]
    rfl
theorem Sim.barrier {R : Raw} {A : RA} (h : Sim R A) : A.barrier.1 = R.barrier.1 ∧ Sim R.barrier.2 A.barrier.2 := by
  unfold RA.barrier Raw.barrier
  rw [h.dark, h.burns]
  split
  · exact ⟨rfl, h⟩
  · split
    · exact ⟨rfl, h.burnt⟩
    · have hb := h.burnt
      obtain ⟨a1, a2, a3⟩ := burnt_C R
      obtain ⟨u1, u2⟩ := h.ok.C.undo h.ok.L 0
      refine ⟨rfl, ⟨⟨hb.ok.d1, hb.ok.d2, hb.ok.n1, hb.ok.n2, hb.ok.C, by simp, hb.ok.fuse⟩, hb.n, hb.left, hb.dark, rfl, ?_, rfl⟩⟩
      show A.L.foldl _ A.D = secsD R.burnt.n R.burnt.C
      rw [h.L, h.D, secsD_redo u1 u2, h.redo, a1, a2]
/-- Lost, or replaced: other disks. -/
theorem lay_set_ne {C : List Disk} {d e k : Nat} {b : List Nat} (o : Disk) (h : e ≠ d) : lay (C.set e o) d k b = (lay C d k b).set e o := by
  unfold lay
  have : (C.set e o).getD d none = C.getD d none := by simp only [List.getD]; rw [List.getElem?_set_ne h]
  rw [this, List.set_comm _ _ h]
theorem lay_kill {C : List Disk} {e k : Nat} {b : List Nat} : (lay C e k b).set e none = C.set e none := by
  unfold lay
  simp
/-- What is lost takes its flights along. -/
theorem undo_lost {e : Nat} : ∀ {L : List Wr} {C : List Disk}, undoTo (C.set e none) (L.filter (fun l => !(l.d == e))) 0 = (undoTo C L 0).set e none := by
  intro L
  unfold undoTo
  simp only [List.drop_zero]
  induction L with
  | nil => intro C; rfl
  | cons l r ih =>
    intro C
    by_cases h : l.d = e
    · rw [List.filter_cons_of_neg (by simp [h]), ih]
      simp only [List.foldr_cons]
      rw [h, lay_kill]
    · rw [List.filter_cons_of_pos (by simp [h])]
      simp only [List.foldr_cons]
      rw [ih, lay_set_ne none (Ne.symm h)]
theorem redo_lost {e : Nat} : ∀ {L : List Wr} {C : List Disk}, redo (C.set e none) (L.filter (fun l => !(l.d == e))) = (redo C L).set e none := by
  intro L
  unfold redo
  induction L with
  | nil => intro C; rfl
  | cons l r ih =>
    intro C
    by_cases h : l.d = e
    · rw [List.filter_cons_of_neg (by simp [h])]
      simp only [List.foldl_cons]
      rw [← ih, h, lay_kill]
    · rw [List.filter_cons_of_pos (by simp [h])]
      simp only [List.foldl_cons]
      rw [lay_set_ne none (Ne.symm h), ih]
theorem secsD_set (n : Nat) (C : List Disk) (d : Nat) (o : Disk) : secsD n (C.set d o) = (secsD n C).set d (o.map (secs n)) := by simp [secsD, List.map_set]
theorem Sim.find {R : Raw} {A : RA} (h : Sim R A) (d : Int) : (0 ≤ d ∧ d < (A.D.length : Int)) ↔ R.find d = 0 := by
  rw [h.len]
  unfold Raw.find
  split
  · rename_i c; simp [c]
  · rename_i c; simp [c]
theorem Sim.lose {R : Raw} {A : RA} (h : Sim R A) (d : Int) : (A.lose d).1 = (R.lose d).1 ∧ Sim (R.lose d).2 (A.lose d).2 := by
  by_cases hf : R.find d = 0
  · have hin := (h.find d).2 hf
    have hs : (A.D.getD d.toNat none).isSome = R.on d := by
      rw [h.isSome]
      rw [h.len] at hin
      simp [Raw.on, hin.1, hin.2]
    cases ho : R.on d with
    | false =>
      simp only [RA.lose, Raw.lose, hin, hf, hs, ho, ne_eq, not_true_eq_false, if_false, Bool.false_eq_true, and_self, if_true]
      exact ⟨trivial, h⟩
    | true =>
      simp only [RA.lose, Raw.lose, hin, hf, hs, ho, ne_eq, not_true_eq_false, if_false, and_self, if_true]
      refine ⟨trivial, ⟨h.ok.lost _, h.n, h.left, h.dark, ?_, ?_, ?_⟩⟩
      · show A.L.filter _ = (R.L.filter _).map flOf
        rw [h.L, List.filter_map]
        rfl
      · show A.D.set d.toNat none = secsD R.n (undoTo (R.C.set d.toNat none) (R.L.filter _) 0)
        rw [undo_lost, secsD_set, h.D]
        rfl
      · show AM.redo (undoTo (R.C.set d.toNat none) (R.L.filter _) 0) (R.L.filter _) = R.C.set d.toNat none
        rw [undo_lost, redo_lost, h.redo]
  · have hin : ¬ (0 ≤ d ∧ d < (A.D.length : Int)) := fun c => hf ((h.find d).1 c)
    have h6 : R.find d = 6 := by unfold Raw.find at hf ⊢; split at hf <;> simp_all
    simp only [RA.lose, Raw.lose, hin, h6, ne_eq, if_false]
    exact ⟨rfl, h⟩
theorem secs_zs (n : Nat) : secs n (zs (n * 64)) = List.replicate n (zs 64) := by
  apply List.ext_getElem?
  intro j
  by_cases hj : j < n
  · rw [secs_get hj, sec_zs hj, List.getElem?_replicate, if_pos hj]
  · rw [List.getElem?_eq_none (by rw [secs_len]; omega), List.getElem?_eq_none (by simp; omega)]
theorem sim_new {d n : Nat} (h1 : 1 ≤ d) (h2 : d ≤ 255) (h3 : 1 ≤ n) (h4 : n ≤ 4096) : Sim (Raw.new d n) (RA.new d n) := by
  refine ⟨Raw.Ok.new h1 h2 h3 h4, rfl, rfl, rfl, rfl, ?_, rfl⟩
  show List.replicate d (some (List.replicate n (zs 64))) = secsD n (List.replicate d (some (zs (n * 64))))
  simp [secsD, secs_zs]
theorem look_redo {n : Nat} : ∀ {L : List Wr} {C : List Disk}, OkC n C → (∀ l ∈ L, OkW n C l) → ∀ {d k : Nat} {xs : List Nat}, C[d]? = some (some xs) → k < n → look (redo C L) d k = RA.last (L.map flOf) d k (sec xs k) := by
  intro L
  induction L with
  | nil => intro C _ _ d k xs hx _; exact look_at k hx
  | cons l r ih =>
    intro C hC hL d k xs hx hk
    have hl := hL l (List.mem_cons_self ..)
    have hC' := hC.lay (d := l.d) hl.k hl.now hl.nowS
    have hL' : ∀ y ∈ r, OkW n (lay C l.d l.k l.now) y := fun y hy => (hL y (List.mem_cons_of_mem _ hy)).lay _ _ _
    obtain ⟨hxl, _⟩ := hC d xs hx
    have hf := fits hk
    have hfl := fits hl.k
    show look (redo (lay C l.d l.k l.now) r) d k = RA.last (r.map flOf) d k (if l.d = d ∧ l.k = k then l.now else sec xs k)
    by_cases c : l.d = d
    · have hx' : (lay C l.d l.k l.now)[d]? = some (some (put xs l.k l.now)) := by rw [← c] at hx ⊢; exact lay_at _ _ hx
      rw [ih hC' hL' hx' hk]
      congr 1
      by_cases c2 : l.k = k
      · rw [if_pos ⟨c, c2⟩, ← c2, sec_put_same hl.now (by omega)]
      · rw [if_neg (fun h => c2 h.2), sec_put_ne hl.now (by omega) (Ne.symm c2)]
    · have hx' : (lay C l.d l.k l.now)[d]? = some (some xs) := by rw [lay_ne _ _ (Ne.symm c)]; exact hx
      rw [ih hC' hL' hx' hk, if_neg (fun h => c h.1)]
theorem Sim.read {R : Raw} {A : RA} (h : Sim R A) (d k : Int) : A.read d k = (if R.reach d k = 0 then look R.C d.toNat k.toNat else []) := by
  unfold RA.read
  rw [h.why]
  by_cases hr : R.reach d k = 0
  · rw [if_pos hr, if_pos hr]
    obtain ⟨_, _, _, hk0, hk, xs, hx⟩ := reach_zero hr
    obtain ⟨u1, u2⟩ := h.ok.C.undo h.ok.L 0
    have hs : ((undoTo R.C R.L 0).getD d.toNat none).isSome = true := by rw [undo_on]; simp [List.getD, hx]
    obtain ⟨ys, hy⟩ : ∃ ys, (undoTo R.C R.L 0)[d.toNat]? = some (some ys) := by
      simp only [List.getD] at hs
      cases hq : (undoTo R.C R.L 0)[d.toNat]? with
      | none => simp [hq] at hs
      | some o => cases o with
        | none => simp [hq] at hs
        | some ys => exact ⟨ys, rfl⟩
    have hkn : k.toNat < R.n := by omega
    have e : ((A.D.getD d.toNat none).getD []).getD k.toNat [] = sec ys k.toNat := by
      rw [h.D]
      simp only [List.getD, secsD_get, hy]
      simp [secs_get hkn]
    rw [e, h.L, ← look_redo u1 u2 hy hkn, h.redo]
  · rw [if_neg hr, if_neg hr]
theorem Sim.ons {R : Raw} {A : RA} (h : Sim R A) : A.ons = R.ons := by
  have key : ∀ (D : List (Option (List (List Nat)))) (C : List Disk), D.length = C.length → (∀ e, (D.getD e none).isSome = (C.getD e none).isSome) → D.countP (·.isSome) = C.countP (·.isSome) := by
    intro D
    induction D with
    | nil => intro C hl _; cases C with
      | nil => rfl
      | cons _ _ => simp at hl
    | cons x r ih =>
      intro C hl he
      cases C with
      | nil => simp at hl
      | cons y s =>
        have h0 := he 0
        simp at h0
        have hr := ih s (by simpa using hl) (fun e => by have := he (e + 1); simpa using this)
        simp only [List.countP_cons, hr, h0]
  exact key _ _ h.len h.isSome
end AM
end Go.Proofs.YtfjlpifaaknmpaaGreat

/- What lies on the disks behind writes, barriers and crashes: the new segment, the old one, or a mix, sector by sector. No text of the program is named. -/
set_option linter.unusedSimpArgs false
set_option linter.unusedVariables false
set_option maxRecDepth 100000
namespace Go.Proofs.YtfjlpifaaknmpaaGreat
namespace SP

/-- Sector i of disk d in a slot. -/
def cont (C : List AM.Disk) (g : Geo) (slot d i : Nat) : List Nat := AM.look C d (g.f + 8 * slot + i)
theorem look_lay {n : Nat} {C : List AM.Disk} (hC : AM.OkC n C) {d k e j : Nat} {b : List Nat} (hd : ∃ xs, C[d]? = some (some xs)) (hk : k < n) (hb : b.length = 64) :
    AM.look (AM.lay C d k b) e j = if e = d ∧ j = k then b else AM.look C e j := by
  obtain ⟨xs, hx⟩ := hd
  obtain ⟨h1, h2⟩ := hC d xs hx
  by_cases c : e = d
  · subst c
    rw [AM.look_at _ (AM.lay_at k b hx), AM.look_at _ hx]
    by_cases c2 : j = k
    · subst c2
      rw [if_pos ⟨rfl, rfl⟩, AM.sec_put_same hb (by rw [h1]; exact AM.fits hk)]
    · rw [if_neg (fun h => c2 h.2), AM.sec_put_ne hb (by rw [h1]; exact AM.fits hk) c2]
  · rw [if_neg (fun h => c h.1)]
    unfold AM.look
    simp only [List.getD, AM.lay_ne k b c]

/-- A write that is told as done. -/
theorem writes_ok {R : AM.Raw} {d k : Nat} {b : List Nat} (h : (R.writes (d : Int) (k : Int) b).1 = 0) : (R.writes (d : Int) (k : Int) b).2 = R.burnt.fly d k b ∧ (∃ xs, R.C[d]? = some (some xs)) ∧ k < R.n ∧ b.length = 64 ∧ R.off = false := by
  unfold AM.Raw.writes at h ⊢
  by_cases h1 : R.reach (d : Int) (k : Int) = 0
  · rw [if_neg (by omega)] at h ⊢
    obtain ⟨h2, _, _, _, h3, h4⟩ := AM.reach_zero h1
    by_cases h5 : b.length = 64
    · rw [if_neg (by omega)] at h ⊢
      by_cases h6 : R.burns = true
      · rw [if_pos h6] at h; simp at h
      · rw [if_neg h6]
        exact ⟨by simp, by simpa using h4, by omega, h5, h2⟩
    · rw [if_pos h5] at h; simp at h
  · rw [if_pos h1] at h; exact absurd h h1
/-- A write that is not leaves the disks, and what is in flight. -/
theorem writes_no {R : AM.Raw} {d k : Int} {b : List Nat} (h : (R.writes d k b).1 ≠ 0) : (R.writes d k b).2.C = R.C ∧ (R.writes d k b).2.L = R.L := by
  unfold AM.Raw.writes at h ⊢
  split
  · exact ⟨rfl, rfl⟩
  · split
    · exact ⟨rfl, rfl⟩
    · split
      · exact ⟨(AM.burnt_C R).1, (AM.burnt_C R).2.2⟩
      · rename_i h1 h2 h3
        rw [if_neg h1, if_neg h2, if_neg h3] at h
        simp at h

/-- Sectors that were, sectors that shall be: each of the slot's is one or the other; what is in flight is of those that shall be; undone, it is C0. -/
structure Mid (C0 : List AM.Disk) (g : Geo) (slot : Nat) (new : Nat → Nat → List Nat) (R : AM.Raw) : Prop where
  ok : R.Ok
  mix : ∀ d i, i < 8 → cont R.C g slot d i = cont C0 g slot d i ∨ cont R.C g slot d i = new d i
  fly : ∀ l ∈ R.L, ∃ i, i < 8 ∧ l.k = g.f + 8 * slot + i ∧ l.now = new l.d i
  undo : AM.undoTo R.C R.L 0 = C0
theorem Mid.start {R : AM.Raw} (ok : R.Ok) (h : R.L = []) (g : Geo) (slot : Nat) (new : Nat → Nat → List Nat) : Mid R.C g slot new R := ⟨ok, fun _ _ _ => .inl rfl, by rw [h]; simp, by rw [h]; simp [AM.undoTo]⟩
theorem writes_Ok {R : AM.Raw} (ok : R.Ok) {d k : Nat} {b : List Nat} (hs : ∀ x ∈ b, x < 256) : (R.writes (d : Int) (k : Int) b).2.Ok := by
  unfold AM.Raw.writes
  by_cases h1 : R.reach (d : Int) (k : Int) = 0
  · rw [if_neg (by omega)]
    obtain ⟨h2, _, _, _, h3, h4⟩ := AM.reach_zero h1
    split
    · exact ok
    · rename_i h5
      split
      · exact AM.Raw.Ok.burnt ok
      · have hb := AM.burnt_C R
        refine AM.Raw.Ok.fly (AM.Raw.Ok.burnt ok) ?_ ?_ (by omega) hs
        · rw [hb.1]; simpa using h4
        · rw [hb.2.1]; simpa using (by omega : (k : Int) < R.n)
  · rw [if_pos h1]
    exact ok
theorem Mid.write {C0 : List AM.Disk} {g : Geo} {slot : Nat} {new : Nat → Nat → List Nat} {R : AM.Raw} (h : Mid C0 g slot new R) {d i : Nat} (hi : i < 8) (hs : ∀ x ∈ new d i, x < 256) :
    Mid C0 g slot new (R.writes (d : Int) ((g.f + 8 * slot + i : Nat) : Int) (new d i)).2 := by
  have ok := writes_Ok h.ok (d := d) (k := g.f + 8 * slot + i) hs
  by_cases h0 : (R.writes (d : Int) ((g.f + 8 * slot + i : Nat) : Int) (new d i)).1 = 0
  · obtain ⟨h1, ⟨xs, hx⟩, h3, h4, _⟩ := writes_ok h0
    obtain ⟨b1, b2, b3⟩ := AM.burnt_C R
    rw [h1] at ok ⊢
    have eC : (R.burnt.fly d (g.f + 8 * slot + i) (new d i)).C = AM.lay R.C d (g.f + 8 * slot + i) (new d i) := by simp [AM.Raw.fly, b1]
    have eL : (R.burnt.fly d (g.f + 8 * slot + i) (new d i)).L = R.L ++ [⟨d, g.f + 8 * slot + i, AM.look R.C d (g.f + 8 * slot + i), new d i⟩] := by simp [AM.Raw.fly, b1, b3]
    refine ⟨ok, fun e j hj => ?_, fun l hl => ?_, ?_⟩
    · unfold cont
      rw [eC, look_lay h.ok.C ⟨xs, hx⟩ h3 h4]
      split
      · rename_i c
        obtain ⟨rfl, c2⟩ := c
        obtain rfl : j = i := by omega
        exact .inr rfl
      · exact h.mix e j hj
    · rw [eL, List.mem_append] at hl
      rcases hl with hl | hl
      · exact h.fly l hl
      · obtain rfl := List.mem_singleton.1 hl
        exact ⟨i, hi, rfl, rfl⟩
    · rw [eC, eL, AM.undo_fly hx (by rw [(h.ok.C d xs hx).1]; exact AM.fits h3) h4]
      exact h.undo
  · obtain ⟨h1, h2⟩ := writes_no h0
    refine ⟨ok, fun e j hj => ?_, fun l hl => ?_, ?_⟩
    · rw [h1]; exact h.mix e j hj
    · rw [h2] at hl; exact h.fly l hl
    · rw [h1, h2]; exact h.undo
theorem Mid.lay {C0 : List AM.Disk} {g : Geo} {slot : Nat} {new : Nat → Nat → List Nat} {R : AM.Raw} (h : Mid C0 g slot new R) {d : Nat} {S : List (List Nat)} (hS : ∀ i, i < 8 → S.getD i [] = new d i) (hs : ∀ i, i < 8 → ∀ x ∈ new d i, x < 256) :
    ∀ j, j ≤ 8 → Mid C0 g slot new (layTo R g slot d S j).2
  | 0, _ => h
  | j + 1, hj => by
    unfold layTo
    split
    · rw [hS j (by omega)]
      exact (Mid.lay h hS hs j (by omega)).write (by omega) (hs j (by omega))
    · exact Mid.lay h hS hs j (by omega)
/-- Written without an error: all is new on the disks that are on. -/
theorem layTo_done {R : AM.Raw} (ok : R.Ok) {g : Geo} {slot d : Nat} {S : List (List Nat)} (hs : ∀ i, i < 8 → ∀ x ∈ S.getD i [], x < 256) : ∀ j, j ≤ 8 → (layTo R g slot d S j).1 = 0 → (layTo R g slot d S j).2.Ok ∧
    ∀ e i, i < 8 → cont (layTo R g slot d S j).2.C g slot e i = if e = d ∧ i < j then S.getD i [] else cont R.C g slot e i
  | 0, _, _ => ⟨ok, fun e i _ => by rw [if_neg (by omega)]; rfl⟩
  | j + 1, hj, h => by
    by_cases h0 : (layTo R g slot d S j).1 = 0
    · obtain ⟨ok', ih⟩ := layTo_done ok hs j (by omega) h0
      rw [layTo_succ h0] at h ⊢
      obtain ⟨h1, ⟨xs, hx⟩, h3, h4, _⟩ := writes_ok h
      refine ⟨writes_Ok ok' (hs j (by omega)), fun e i hi => ?_⟩
      rw [h1]
      unfold cont
      have b1 := (AM.burnt_C (layTo R g slot d S j).2).1
      show AM.look (AM.lay (layTo R g slot d S j).2.burnt.C d (g.f + 8 * slot + j) (S.getD j [])) e _ = _
      rw [b1, look_lay ok'.C ⟨xs, hx⟩ h3 h4]
      by_cases c : e = d ∧ i = j
      · obtain ⟨rfl, rfl⟩ := c
        rw [if_pos ⟨rfl, rfl⟩, if_pos ⟨rfl, by omega⟩]
      · rw [if_neg (fun h => c ⟨h.1, by omega⟩)]
        have := ih e i hi
        unfold cont at this
        rw [this]
        by_cases c2 : e = d ∧ i < j
        · rw [if_pos c2, if_pos ⟨c2.1, by omega⟩]
        · rw [if_neg c2, if_neg (fun h => by rcases Nat.lt_or_ge i j with h' | h'
                                             · exact c2 ⟨h.1, h'⟩
                                             · exact c ⟨h.1, by omega⟩)]
    · have : layTo R g slot d S (j + 1) = layTo R g slot d S j := layTo_stop h0 _ (by omega)
      rw [this] at h
      exact absurd h h0
theorem wrTo_done {R : AM.Raw} (ok : R.Ok) {g : Geo} {slot m : Nat} {E : List (List Nat)} (hs : ∀ d i, i < 8 → ∀ x ∈ (CM.secs m (E.getD d []) 8).getD i [], x < 256) : ∀ d, (wrTo R g slot m E d).1 = 0 → (wrTo R g slot m E d).2.Ok ∧
    ∀ e i, i < 8 → cont (wrTo R g slot m E d).2.C g slot e i = if e < d ∧ R.on (e : Int) = true then (CM.secs m (E.getD e []) 8).getD i [] else cont R.C g slot e i
  | 0, _ => ⟨ok, fun e i _ => by rw [if_neg (by omega)]; rfl⟩
  | d + 1, h => by
    cases ho : R.on (d : Int)
    · rw [wrTo_off ho] at h ⊢
      obtain ⟨ok', ih⟩ := wrTo_done ok hs d h
      refine ⟨ok', fun e i hi => ?_⟩
      rw [ih e i hi]
      by_cases c : e < d ∧ R.on (e : Int) = true
      · rw [if_pos c, if_pos ⟨by omega, c.2⟩]
      · rw [if_neg c, if_neg (fun h => by
          by_cases e1 : e = d
          · subst e1; rw [ho] at h; exact absurd h.2 (by simp)
          · exact c ⟨by omega, h.2⟩)]
    · by_cases h0 : (wrTo R g slot m E d).1 = 0
      · obtain ⟨ok', ih⟩ := wrTo_done ok hs d h0
        rw [wrTo_on h0 ho] at h ⊢
        obtain ⟨ok2, ih2⟩ := layTo_done ok' (hs d) 8 (by omega) h
        refine ⟨ok2, fun e i hi => ?_⟩
        show cont (layTo _ g slot d _ 8).2.C g slot e i = _
        rw [ih2 e i hi, ih e i hi]
        by_cases c : e = d
        · subst c
          rw [if_pos ⟨rfl, hi⟩, if_pos ⟨by omega, ho⟩]
        · rw [if_neg (fun h => c h.1)]
          by_cases c2 : e < d ∧ R.on (e : Int) = true
          · rw [if_pos c2, if_pos ⟨by omega, c2.2⟩]
          · rw [if_neg c2, if_neg (fun h => c2 ⟨by omega, h.2⟩)]
      · have : wrTo R g slot m E (d + 1) = wrTo R g slot m E d := wrTo_stop h0 _ (by omega)
        rw [this] at h
        exact absurd h h0

/-- No fuse, and the power on: no write fails. -/
theorem writes_sure {R : AM.Raw} {d k : Nat} {b : List Nat} (h0 : R.off = false) (hf : R.fuse = 0) (hr : R.reach (d : Int) (k : Int) = 0) (hb : b.length = 64) : (R.writes (d : Int) (k : Int) b).1 = 0 ∧ (R.writes (d : Int) (k : Int) b).2.off = false ∧ (R.writes (d : Int) (k : Int) b).2.fuse = 0 := by
  have e : R.burns = false := by simp [AM.Raw.burns, hf]
  have e2 : R.burnt = R := by simp [AM.Raw.burnt, hf]
  unfold AM.Raw.writes
  rw [if_neg (by omega), if_neg (by omega), e, e2]
  simp [AM.Raw.fly, h0, hf]
theorem layTo_sure {R : AM.Raw} {g : Geo} (hg : g.Ok R) {slot d : Nat} (hs : slot < g.s) (hd : d < g.n) (h0 : R.off = false) (hf : R.fuse = 0) (ho : R.on (d : Int) = true) {S : List (List Nat)} (hS : ∀ i, i < 8 → (S.getD i []).length = 64) :
    ∀ j, j ≤ 8 → (layTo R g slot d S j).1 = 0 ∧ (layTo R g slot d S j).2.off = false ∧ (layTo R g slot d S j).2.fuse = 0
  | 0, _ => ⟨rfl, h0, hf⟩
  | j + 1, hj => by
    obtain ⟨h1, h2, h3⟩ := layTo_sure hg hs hd h0 hf ho hS j (by omega)
    rw [layTo_succ h1]
    have hk := layTo_kept R g slot d S j
    have hr := reach_on (hg.kept hk) h2 hs (i := j) (by omega) hd
    rw [hk.on, if_pos ho] at hr
    exact writes_sure h2 h3 hr (hS j (by omega))
theorem wrTo_sure {R : AM.Raw} {g : Geo} (hg : g.Ok R) {slot m : Nat} (hs : slot < g.s) (h0 : R.off = false) (hf : R.fuse = 0) {E : List (List Nat)} (hE : ∀ d, d < g.n → (E.getD d []).length = 448) :
    ∀ d, d ≤ g.n → (wrTo R g slot m E d).1 = 0 ∧ (wrTo R g slot m E d).2.off = false ∧ (wrTo R g slot m E d).2.fuse = 0
  | 0, _ => ⟨rfl, h0, hf⟩
  | d + 1, hd => by
    obtain ⟨h1, h2, h3⟩ := wrTo_sure hg hs h0 hf hE (m := m) d (by omega)
    cases ho : R.on (d : Int)
    · rw [wrTo_off ho]; exact ⟨h1, h2, h3⟩
    · rw [wrTo_on h1 ho]
      have hk := wrTo_kept R g slot m E d
      have hSl : ∀ i, i < 8 → ((CM.secs m (E.getD d []) 8).getD i []).length = 64 := fun i hi => by
        rw [CM.secs_get m _ hi]
        have hl := hE d (by omega)
        exact SM.sec_len (by rw [CM.ld_len (by omega)]; omega)
      have ho' : (wrTo R g slot m E d).2.on (d : Int) = true := by rw [hk.on]; exact ho
      have hg' := hg.kept hk
      unfold lays
      generalize (wrTo R g slot m E d).2 = R1 at *
      generalize CM.secs m (E.getD d []) 8 = S at *
      exact layTo_sure hg' hs (by omega) h2 h3 ho' hSl 8 (by omega)

end SP
end Go.Proofs.YtfjlpifaaknmpaaGreat

