/- Packed: SimM, RBar6, Late. -/
import Derived.Test.YtfjlpifaaknmpaaGreatSy1
import Derived.Test.YtfjlpifaaknmpaaGreatSy2
import Derived.Test.YtfjlpifaaknmpaaGreatSy3
import Derived.Test.YtfjlpifaaknmpaaGreatSy4
import Derived.Test.YtfjlpifaaknmpaaGreatSy5
import Derived.Test.YtfjlpifaaknmpaaGreatSy6
import Derived.Test.YtfjlpifaaknmpaaGreatSy7
import Derived.Test.YtfjlpifaaknmpaaGreatSy8
import Derived.Test.YtfjlpifaaknmpaaGreatSy9
import Derived.Test.YtfjlpifaaknmpaaGreatSy10
import Derived.Test.YtfjlpifaaknmpaaGreatSy12
import Derived.Test.YtfjlpifaaknmpaaGreatSy13
import Derived.Deep.RegionHeld3
/- The program's array against the document's: plain facts (Sim): each call is answered alike, and leaves them alike. -/
set_option linter.unusedSimpArgs false
set_option linter.unusedVariables false
set_option maxRecDepth 100000
namespace Go.Proofs.YtfjlpifaaknmpaaGreat
namespace AM

/-- The sectors of a disk's bytes. -/
def secs (n : Nat) (xs : List Nat) : List (List Nat) := (List.range n).map (sec xs)
def secsD (n : Nat) (C : List Disk) : List (Option (List (List Nat))) := C.map (Option.map (secs n))
theorem secs_len (n : Nat) (xs : List Nat) : (secs n xs).length = n := by simp [secs]
theorem secs_get {n k : Nat} (h : k < n) (xs : List Nat) : (secs n xs)[k]? = some (sec xs k) := by simp [secs, h]
theorem secsD_len (n : Nat) (C : List Disk) : (secsD n C).length = C.length := by simp [secsD]
theorem secsD_get (n : Nat) (C : List Disk) (d : Nat) : (secsD n C)[d]? = (C[d]?).map (Option.map (secs n)) := by simp [secsD]
theorem secs_put {n k : Nat} {xs b : List Nat} (hx : xs.length = n * 64) (hk : k < n) (hb : b.length = 64) : secs n (put xs k b) = (secs n xs).set k b := by
  have hf := fits hk
  apply List.ext_getElem?
  intro j
  by_cases hj : j < n
  · rw [secs_get hj]
    by_cases c : k = j
    · subst c
      rw [sec_put_same hb (by omega), List.getElem?_set, if_pos rfl, if_pos (by rw [secs_len]; exact hj)]
    · rw [sec_put_ne hb (by omega) (Ne.symm c), List.getElem?_set, if_neg c, secs_get hj]
  · rw [List.getElem?_eq_none (by rw [secs_len]; omega), List.getElem?_eq_none (by simp [secs_len]; omega)]

/-- A sector of the document's disks. -/
def rlay (D : List (Option (List (List Nat)))) (d k : Nat) (b : List Nat) : List (Option (List (List Nat))) := D.set d ((D.getD d none).map (fun ss => ss.set k b))
theorem secsD_lay {n : Nat} {C : List Disk} (hC : OkC n C) {d k : Nat} (hk : k < n) {b : List Nat} (hb : b.length = 64) : secsD n (lay C d k b) = rlay (secsD n C) d k b := by
  apply List.ext_getElem?
  intro j
  rw [secsD_get]
  unfold rlay
  by_cases c : d = j
  · subst c
    by_cases hl : d < C.length
    · rw [List.getElem?_set, if_pos rfl, if_pos (by rw [secsD_len]; exact hl)]
      have e : (secsD n C).getD d none = (C[d]).map (secs n) := by simp [List.getD, secsD, hl]
      rw [e]
      cases hq : C[d] with
      | none =>
        have : (lay C d k b)[d]? = some none := by simp [lay, List.getD, hl, hq]
        rw [this]; rfl
      | some xs =>
        have hq' : C[d]? = some (some xs) := by rw [List.getElem?_eq_getElem hl, hq]
        rw [lay_at k b hq']
        obtain ⟨h1, _⟩ := hC d xs hq'
        simp [secs_put h1 hk hb]
    · rw [List.getElem?_eq_none (by rw [lay_len]; omega), List.getElem?_eq_none (by simp [secsD_len]; omega)]
      rfl
  · rw [lay_ne k b (Ne.symm c), List.getElem?_set, if_neg c, secsD_get]

namespace RA
def ons (A : RA) : Nat := A.D.countP (·.isSome)
def fly (A : RA) (d k : Nat) (b : List Nat) : RA := { A with L := A.L ++ [⟨d, k, b⟩] }
def writes (A : RA) (d k : Int) (b : List Nat) : Nat × RA :=
  if A.why d k ≠ 0 then (A.why d k, A) else if b.length ≠ 64 then (1, A) else if A.burns then (8, A.burnt) else (0, A.burnt.fly d.toNat k.toNat b)
def barrier (A : RA) : Nat × RA := if A.dark then (8, A) else if A.burns then (8, A.burnt) else (0, { A.burnt with D := A.L.foldl (fun D l => rlay D l.d l.k l.b) A.D, L := [] })
def lost (A : RA) (d : Nat) : RA := { A with D := A.D.set d none, L := A.L.filter (fun l => !(l.d == d)) }
def lose (A : RA) (d : Int) : Nat × RA := if 0 ≤ d ∧ d < A.D.length then (if (A.D.getD d.toNat none).isSome then (0, A.lost d.toNat) else (9, A)) else (6, A)
def fused (A : RA) (n : Int) : RA := { A with left := n.toNat }
def rpick (D : List (Option (List (List Nat)))) (x : Fl × Nat) : List (Option (List (List Nat))) := if x.2 % 2 = 1 then rlay D x.1.d x.1.k x.1.b else D
def crash (A : RA) (ps : List Nat) : RA := ⟨(A.L.zip ps).foldl rpick A.D, A.n, [], 0, false⟩
def new (d n : Nat) : RA := ⟨List.replicate d (some (List.replicate n (zs 64))), n, [], 0, false⟩
/-- The last in flight for that sector, or else b. -/
def last (L : List Fl) (d k : Nat) (b : List Nat) : List Nat := L.foldl (fun c l => if l.d = d ∧ l.k = k then l.b else c) b
def read (A : RA) (d k : Int) : List Nat := if A.why d k = 0 then last A.L d.toNat k.toNat (((A.D.getD d.toNat none).getD []).getD k.toNat []) else []
end RA

def flOf (l : Wr) : Fl := ⟨l.d, l.k, l.now⟩
/-- All in flight laid again. -/
def redo (C : List Disk) (L : List Wr) : List Disk := L.foldl (fun D l => lay D l.d l.k l.now) C

structure Sim (R : Raw) (A : RA) : Prop where
  ok : R.Ok
  n : A.n = R.n
  left : A.left = R.fuse
  dark : A.dark = R.off
  L : A.L = R.L.map flOf
  D : A.D = secsD R.n (undoTo R.C R.L 0)
  redo : redo (undoTo R.C R.L 0) R.L = R.C

theorem Sim.len {R : Raw} {A : RA} (h : Sim R A) : A.D.length = R.C.length := by rw [h.D, secsD_len, undoTo_len]
theorem undo_on (C : List Disk) (L : List Wr) (j e : Nat) : ((undoTo C L j).getD e none).isSome = (C.getD e none).isSome := by
  unfold undoTo
  generalize L.drop j = Z
  induction Z with
  | nil => rfl
  | cons l r ih => simp only [List.foldr]; rw [lay_on, ih]
theorem secsD_on (n : Nat) (C : List Disk) (e : Nat) : ((secsD n C).getD e none).isSome = (C.getD e none).isSome := by
  simp only [List.getD, secsD_get]
  cases h : C[e]? with
  | none => rfl
  | some x => cases x <;> rfl
theorem Sim.isSome {R : Raw} {A : RA} (h : Sim R A) (e : Nat) : (A.D.getD e none).isSome = (R.C.getD e none).isSome := by rw [h.D, secsD_on, undo_on]
theorem Sim.on {R : Raw} {A : RA} (h : Sim R A) (d : Int) : A.on d = R.on d := by
  unfold RA.on Raw.on
  rw [h.len, h.isSome]
theorem Sim.why {R : Raw} {A : RA} (h : Sim R A) (d k : Int) : A.why d k = R.reach d k := by
  unfold RA.why Raw.reach
  rw [h.dark, h.len, h.n, h.isSome]
  split
  · rfl
  · split
    · rename_i c
      simp [Raw.on, c.1, c.2.1]
    · rfl
theorem Sim.burns {R : Raw} {A : RA} (h : Sim R A) : A.burns = R.burns := by unfold RA.burns Raw.burns; rw [h.left]
theorem burnt_C (R : Raw) : R.burnt.C = R.C ∧ R.burnt.n = R.n ∧ R.burnt.L = R.L := by unfold Raw.burnt; split <;> exact ⟨rfl, rfl, rfl⟩
theorem rburnt_D (A : RA) : A.burnt.D = A.D ∧ A.burnt.n = A.n ∧ A.burnt.L = A.L := by unfold RA.burnt; split <;> exact ⟨rfl, rfl, rfl⟩
theorem Sim.burnt {R : Raw} {A : RA} (h : Sim R A) : Sim R.burnt A.burnt := by
  obtain ⟨a1, a2, a3⟩ := burnt_C R
  obtain ⟨b1, b2, b3⟩ := rburnt_D A
  refine ⟨h.ok.burnt, by rw [a2, b2, h.n], ?_, ?_, by rw [a3, b3, h.L], by rw [a1, a2, a3, b1, h.D], by rw [a1, a3, h.redo]⟩
  · unfold RA.burnt Raw.burnt; rw [h.left]; split
    · exact h.left
    · rfl
  · unfold RA.burnt Raw.burnt; rw [h.left]; split
    · exact h.dark
    · rfl
theorem undo_fly {C : List Disk} {L : List Wr} {d k : Nat} {b xs : List Nat} (hx : C[d]? = some (some xs)) (hl : k * 64 + 64 ≤ xs.length) (hb : b.length = 64) : undoTo (lay C d k b) (L ++ [⟨d, k, look C d k, b⟩]) 0 = undoTo C L 0 := by
  unfold undoTo
  simp only [List.drop_zero, List.foldr_append, List.foldr_cons, List.foldr_nil]
  congr 1
  have e : look C d k = sec xs k := look_at k hx
  rw [e]
  apply List.ext_getElem?
  intro j
  by_cases c : j = d
  · subst c
    rw [lay_at _ _ (lay_at k b hx), put_put_sec hb hl, hx]
  · rw [lay_ne _ _ c, lay_ne _ _ c]
theorem Sim.fly {R : Raw} {A : RA} (h : Sim R A) {d k : Nat} {b xs : List Nat} (hx : R.C[d]? = some (some xs)) (hk : k < R.n) (hb : b.length = 64) (hs : ∀ x ∈ b, x < 256) : Sim (R.fly d k b) (A.fly d k b) := by
  obtain ⟨h1, _⟩ := h.ok.C d xs hx
  have hf := fits hk
  have hu : undoTo (R.fly d k b).C (R.fly d k b).L 0 = undoTo R.C R.L 0 := undo_fly hx (by omega) hb
  refine ⟨h.ok.fly ⟨xs, hx⟩ hk hb hs, h.n, h.left, h.dark, by simp [RA.fly, Raw.fly, h.L, flOf], ?_, ?_⟩
  · rw [hu]; exact h.D
  · rw [hu]
    show AM.redo _ (R.L ++ [_]) = lay R.C d k b
    unfold AM.redo
    rw [List.foldl_append]
    have := h.redo
    unfold AM.redo at this
    rw [this]
    rfl
theorem Sim.write {R : Raw} {A : RA} (h : Sim R A) (d k : Int) {b : List Nat} (hs : ∀ x ∈ b, x < 256) : (A.writes d k b).1 = (R.writes d k b).1 ∧ Sim (R.writes d k b).2 (A.writes d k b).2 := by
  by_cases hr : R.reach d k = 0
  · by_cases hb : b.length = 64
    · cases hbu : R.burns with
      | true =>
        simp only [RA.writes, Raw.writes, h.why, h.burns, hr, hb, hbu, ne_eq, not_true_eq_false, if_false, if_true]
        exact ⟨trivial, h.burnt⟩
      | false =>
        obtain ⟨_, h1, _, h2, h3, xs, hx⟩ := reach_zero hr
        obtain ⟨a1, a2, _⟩ := burnt_C R
        simp only [RA.writes, Raw.writes, h.why, h.burns, hr, hb, hbu, ne_eq, not_true_eq_false, if_false, Bool.false_eq_true]
        exact ⟨trivial, h.burnt.fly (by rw [a1]; exact hx) (by rw [a2]; omega) hb hs⟩
    · simp only [RA.writes, Raw.writes, h.why, h.burns, hr, hb, ne_eq, not_true_eq_false, not_false_eq_true, if_false, if_true]
      exact ⟨trivial, h⟩
  · simp only [RA.writes, Raw.writes, h.why, hr, ne_eq, not_false_eq_true, if_true]
    exact ⟨trivial, h⟩
theorem Sim.fuse {R : Raw} {A : RA} (h : Sim R A) {n : Int} (hn : n < 9223372036854775808) : Sim (R.fused n) (A.fused n) :=
  ⟨⟨h.ok.d1, h.ok.d2, h.ok.n1, h.ok.n2, h.ok.C, h.ok.L, by show n.toNat < _; omega⟩, h.n, rfl, h.dark, h.L, h.D, h.redo⟩
theorem OkC.redo {n : Nat} {C : List Disk} (h : OkC n C) {L : List Wr} (hL : ∀ l ∈ L, OkW n C l) : OkC n (AM.redo C L) := by
  unfold AM.redo
  induction L generalizing C with
  | nil => exact h
  | cons l r ih =>
    have hl := hL l (List.mem_cons_self ..)
    exact ih (h.lay hl.k hl.now hl.nowS) (fun x hx => (hL x (List.mem_cons_of_mem _ hx)).lay _ _ _)
theorem secsD_redo {n : Nat} {C : List Disk} (h : OkC n C) {L : List Wr} (hL : ∀ l ∈ L, OkW n C l) : (L.map flOf).foldl (fun D l => rlay D l.d l.k l.b) (secsD n C) = secsD n (AM.redo C L) := by
  unfold AM.redo
  induction L generalizing C with
  | nil => rfl
  | cons l r ih =>
    have hl := hL l (List.mem_cons_self ..)
    simp only [List.map_cons, List.foldl_cons]
    rw [← ih (h.lay hl.k hl.now hl.nowS) (fun x hx => (hL x (List.mem_cons_of_mem _ hx)).lay _ _ _), secsD_lay h hl.k hl.now]
    rfl
theorem Sim.barrier {R : Raw} {A : RA} (h : Sim R A) : A.barrier.1 = R.barrier.1 ∧ Sim R.barrier.2 A.barrier.2 := by
  unfold RA.barrier Raw.barrier
  rw [h.dark, h.burns]
  split
  · exact ⟨rfl, h⟩
  · split
    · exact ⟨rfl, h.burnt⟩
    · have hb := h.burnt
      obtain ⟨a1, a2, a3⟩ := burnt_C R
      obtain ⟨u1, u2⟩ := h.ok.C.undo h.ok.L 0
      refine ⟨rfl, ⟨⟨hb.ok.d1, hb.ok.d2, hb.ok.n1, hb.ok.n2, hb.ok.C, by simp, hb.ok.fuse⟩, hb.n, hb.left, hb.dark, rfl, ?_, rfl⟩⟩
      show A.L.foldl _ A.D = secsD R.burnt.n R.burnt.C
      rw [h.L, h.D, secsD_redo u1 u2, h.redo, a1, a2]
theorem secsD_pick {n : Nat} : ∀ (Z : List (Wr × Nat)) (C : List Disk), OkC n C → (∀ x ∈ Z, OkW n C x.1) → (Z.map (fun x => (flOf x.1, x.2))).foldl RA.rpick (secsD n C) = secsD n (Z.foldl pickD C) := by
  intro Z
  induction Z with
  | nil => intro C _ _; rfl
  | cons x r ih =>
    intro C hC hZ
    have hx := hZ x (List.mem_cons_self ..)
    simp only [List.map_cons, List.foldl_cons]
    by_cases ho : x.2 % 2 = 1
    · have e1 : RA.rpick (secsD n C) (flOf x.1, x.2) = rlay (secsD n C) x.1.d x.1.k x.1.now := if_pos ho
      have e2 : pickD C x = lay C x.1.d x.1.k x.1.now := if_pos ho
      rw [e1, e2, ← ih _ (hC.lay hx.k hx.now hx.nowS) (fun y hy => (hZ y (List.mem_cons_of_mem _ hy)).lay _ _ _), secsD_lay hC hx.k hx.now]
    · have e1 : RA.rpick (secsD n C) (flOf x.1, x.2) = secsD n C := if_neg ho
      have e2 : pickD C x = C := if_neg ho
      rw [e1, e2, ih _ hC (fun y hy => hZ y (List.mem_cons_of_mem _ hy))]
theorem Sim.crash {R : Raw} {A : RA} (h : Sim R A) (ps : List Nat) : Sim (R.crash ps) (A.crash ps) := by
  obtain ⟨u1, u2⟩ := h.ok.C.undo h.ok.L 0
  refine ⟨h.ok.crash ps, h.n, rfl, rfl, rfl, ?_, rfl⟩
  show (A.L.zip ps).foldl RA.rpick A.D = secsD R.n ((R.L.zip ps).foldl pickD (undoTo R.C R.L 0))
  rw [h.L, h.D, ← secsD_pick (n := R.n) (R.L.zip ps) _ u1 (fun x hx => u2 _ (List.of_mem_zip hx).1)]
  congr 1
  rw [List.zip_map_left]
  rfl
/-- Lost, or replaced: other disks. -/
theorem lay_set_ne {C : List Disk} {d e k : Nat} {b : List Nat} (o : Disk) (h : e ≠ d) : lay (C.set e o) d k b = (lay C d k b).set e o := by
  unfold lay
  have : (C.set e o).getD d none = C.getD d none := by simp only [List.getD]; rw [List.getElem?_set_ne h]
  rw [this, List.set_comm _ _ h]
theorem lay_kill {C : List Disk} {e k : Nat} {b : List Nat} : (lay C e k b).set e none = C.set e none := by
  unfold lay
  simp
/-- What is lost takes its flights along. -/
theorem undo_lost {e : Nat} : ∀ {L : List Wr} {C : List Disk}, undoTo (C.set e none) (L.filter (fun l => !(l.d == e))) 0 = (undoTo C L 0).set e none := by
  intro L
  unfold undoTo
  simp only [List.drop_zero]
  induction L with
  | nil => intro C; rfl
  | cons l r ih =>
    intro C
    by_cases h : l.d = e
    · rw [List.filter_cons_of_neg (by simp [h]), ih]
      simp only [List.foldr_cons]
      rw [h, lay_kill]
    · rw [List.filter_cons_of_pos (by simp [h])]
      simp only [List.foldr_cons]
      rw [ih, lay_set_ne none (Ne.symm h)]
theorem redo_lost {e : Nat} : ∀ {L : List Wr} {C : List Disk}, redo (C.set e none) (L.filter (fun l => !(l.d == e))) = (redo C L).set e none := by
  intro L
  unfold redo
  induction L with
  | nil => intro C; rfl
  | cons l r ih =>
    intro C
    by_cases h : l.d = e
    · rw [List.filter_cons_of_neg (by simp [h])]
      simp only [List.foldl_cons]
      rw [← ih, h, lay_kill]
    · rw [List.filter_cons_of_pos (by simp [h])]
      simp only [List.foldl_cons]
      rw [lay_set_ne none (Ne.symm h), ih]
theorem secsD_set (n : Nat) (C : List Disk) (d : Nat) (o : Disk) : secsD n (C.set d o) = (secsD n C).set d (o.map (secs n)) := by simp [secsD, List.map_set]
theorem Sim.find {R : Raw} {A : RA} (h : Sim R A) (d : Int) : (0 ≤ d ∧ d < (A.D.length : Int)) ↔ R.find d = 0 := by
  rw [h.len]
  unfold Raw.find
  split
  · rename_i c; simp [c]
  · rename_i c; simp [c]
theorem Sim.lose {R : Raw} {A : RA} (h : Sim R A) (d : Int) : (A.lose d).1 = (R.lose d).1 ∧ Sim (R.lose d).2 (A.lose d).2 := by
  by_cases hf : R.find d = 0
  · have hin := (h.find d).2 hf
    have hs : (A.D.getD d.toNat none).isSome = R.on d := by
      rw [h.isSome]
      rw [h.len] at hin
      simp [Raw.on, hin.1, hin.2]
    cases ho : R.on d with
    | false =>
      simp only [RA.lose, Raw.lose, hin, hf, hs, ho, ne_eq, not_true_eq_false, if_false, Bool.false_eq_true, and_self, if_true]
      exact ⟨trivial, h⟩
    | true =>
      simp only [RA.lose, Raw.lose, hin, hf, hs, ho, ne_eq, not_true_eq_false, if_false, and_self, if_true]
      refine ⟨trivial, ⟨h.ok.lost _, h.n, h.left, h.dark, ?_, ?_, ?_⟩⟩
      · show A.L.filter _ = (R.L.filter _).map flOf
        rw [h.L, List.filter_map]
        rfl
      · show A.D.set d.toNat none = secsD R.n (undoTo (R.C.set d.toNat none) (R.L.filter _) 0)
        rw [undo_lost, secsD_set, h.D]
        rfl
      · show AM.redo (undoTo (R.C.set d.toNat none) (R.L.filter _) 0) (R.L.filter _) = R.C.set d.toNat none
        rw [undo_lost, redo_lost, h.redo]
  · have hin : ¬ (0 ≤ d ∧ d < (A.D.length : Int)) := fun c => hf ((h.find d).1 c)
    have h6 : R.find d = 6 := by unfold Raw.find at hf ⊢; split at hf <;> simp_all
    simp only [RA.lose, Raw.lose, hin, h6, ne_eq, if_false]
    exact ⟨rfl, h⟩
theorem secs_zs (n : Nat) : secs n (zs (n * 64)) = List.replicate n (zs 64) := by
  apply List.ext_getElem?
  intro j
  by_cases hj : j < n
  · rw [secs_get hj, sec_zs hj, List.getElem?_replicate, if_pos hj]
  · rw [List.getElem?_eq_none (by rw [secs_len]; omega), List.getElem?_eq_none (by simp; omega)]
theorem sim_new {d n : Nat} (h1 : 1 ≤ d) (h2 : d ≤ 255) (h3 : 1 ≤ n) (h4 : n ≤ 4096) : Sim (Raw.new d n) (RA.new d n) := by
  refine ⟨Raw.Ok.new h1 h2 h3 h4, rfl, rfl, rfl, rfl, ?_, rfl⟩
  show List.replicate d (some (List.replicate n (zs 64))) = secsD n (List.replicate d (some (zs (n * 64))))
  simp [secsD, secs_zs]
theorem look_redo {n : Nat} : ∀ {L : List Wr} {C : List Disk}, OkC n C → (∀ l ∈ L, OkW n C l) → ∀ {d k : Nat} {xs : List Nat}, C[d]? = some (some xs) → k < n → look (redo C L) d k = RA.last (L.map flOf) d k (sec xs k) := by
  intro L
  induction L with
  | nil => intro C _ _ d k xs hx _; exact look_at k hx
  | cons l r ih =>
    intro C hC hL d k xs hx hk
    have hl := hL l (List.mem_cons_self ..)
    have hC' := hC.lay (d := l.d) hl.k hl.now hl.nowS
    have hL' : ∀ y ∈ r, OkW n (lay C l.d l.k l.now) y := fun y hy => (hL y (List.mem_cons_of_mem _ hy)).lay _ _ _
    obtain ⟨hxl, _⟩ := hC d xs hx
    have hf := fits hk
    have hfl := fits hl.k
    show look (redo (lay C l.d l.k l.now) r) d k = RA.last (r.map flOf) d k (if l.d = d ∧ l.k = k then l.now else sec xs k)
    by_cases c : l.d = d
    · have hx' : (lay C l.d l.k l.now)[d]? = some (some (put xs l.k l.now)) := by rw [← c] at hx ⊢; exact lay_at _ _ hx
      rw [ih hC' hL' hx' hk]
      congr 1
      by_cases c2 : l.k = k
      · rw [if_pos ⟨c, c2⟩, ← c2, sec_put_same hl.now (by omega)]
      · rw [if_neg (fun h => c2 h.2), sec_put_ne hl.now (by omega) (Ne.symm c2)]
    · have hx' : (lay C l.d l.k l.now)[d]? = some (some xs) := by rw [lay_ne _ _ (Ne.symm c)]; exact hx
      rw [ih hC' hL' hx' hk, if_neg (fun h => c h.1)]
theorem Sim.read {R : Raw} {A : RA} (h : Sim R A) (d k : Int) : A.read d k = (if R.reach d k = 0 then look R.C d.toNat k.toNat else []) := by
  unfold RA.read
  rw [h.why]
  by_cases hr : R.reach d k = 0
  · rw [if_pos hr, if_pos hr]
    obtain ⟨_, _, _, hk0, hk, xs, hx⟩ := reach_zero hr
    obtain ⟨u1, u2⟩ := h.ok.C.undo h.ok.L 0
    have hs : ((undoTo R.C R.L 0).getD d.toNat none).isSome = true := by rw [undo_on]; simp [List.getD, hx]
    obtain ⟨ys, hy⟩ : ∃ ys, (undoTo R.C R.L 0)[d.toNat]? = some (some ys) := by
      simp only [List.getD] at hs
      cases hq : (undoTo R.C R.L 0)[d.toNat]? with
      | none => simp [hq] at hs
      | some o => cases o with
        | none => simp [hq] at hs
        | some ys => exact ⟨ys, rfl⟩
    have hkn : k.toNat < R.n := by omega
    have e : ((A.D.getD d.toNat none).getD []).getD k.toNat [] = sec ys k.toNat := by
      rw [h.D]
      simp only [List.getD, secsD_get, hy]
      simp [secs_get hkn]
    rw [e, h.L, ← look_redo u1 u2 hy hkn, h.redo]
  · rw [if_neg hr, if_neg hr]
theorem Sim.ons {R : Raw} {A : RA} (h : Sim R A) : A.ons = R.ons := by
  have key : ∀ (D : List (Option (List (List Nat)))) (C : List Disk), D.length = C.length → (∀ e, (D.getD e none).isSome = (C.getD e none).isSome) → D.countP (·.isSome) = C.countP (·.isSome) := by
    intro D
    induction D with
    | nil => intro C hl _; cases C with
      | nil => rfl
      | cons _ _ => simp at hl
    | cons x r ih =>
      intro C hl he
      cases C with
      | nil => simp at hl
      | cons y s =>
        have h0 := he 0
        simp at h0
        have hr := ih s (by simpa using hl) (fun e => by have := he (e + 1); simpa using this)
        simp only [List.countP_cons, hr, h0]
  exact key _ _ h.len h.isSome
end AM
end Go.Proofs.YtfjlpifaaknmpaaGreat

/- The document's array: the contracts of Barrier and Crash. -/
set_option linter.unusedSimpArgs false
set_option linter.unusedVariables false
set_option maxRecDepth 100000
namespace Go.Proofs.YtfjlpifaaknmpaaGreat
open Go.RowKit

namespace AM.RA
/-- The flights are for disks that are on, and sectors that are there. -/
def Fit (A : RA) : Prop := ∀ l ∈ A.L, (A.D.getD l.d none).isSome = true ∧ l.k < A.n
def laid (A : RA) (q : Nat) : RA := { A with D := (A.L.take q).foldl (fun D l => rlay D l.d l.k l.b) A.D }
end AM.RA
theorem some_of {α : Type} {D : List (Option α)} {e : Nat} (h : (D.getD e none).isSome = true) : ∃ x, D[e]? = some (some x) := by
  simp only [List.getD] at h
  cases hq : D[e]? with
  | none => simp [hq] at h
  | some o => cases o with
    | none => simp [hq] at h
    | some x => exact ⟨x, rfl⟩
theorem rlay_at {D : List (Option (List (List Nat)))} {d : Nat} {ss : List (List Nat)} (h : D[d]? = some (some ss)) (k : Nat) (b : List Nat) : AM.rlay D d k b = D.set d (some (ss.set k b)) := by
  unfold AM.rlay
  simp [List.getD, h]

section
variable {G : Nat → Prop} {w : World} {r : Nat} {A : AM.RA}
/-- One flight laid: what the region reads, and what it leaves. -/
theorem RL.ready {dp : Option Addr} {dc : Nat} {ds : List Value} {lp : Option Addr} {lc : Nat} {fs : List Value} (h : RL G w r dp dc ds lp lc fs A) {q : Nat} (hq : q < A.L.length) (hon : (A.D.getD (A.L[q]'hq).d none).isSome = true) (hk : (A.L[q]'hq).k < A.n) :
    ∃ (dg lg sg c : Nat) (u ov : Value), dp = some ⟨dg, 0, none⟩ ∧ lp = some ⟨lg, 0, none⟩ ∧ (A.L[q]'hq).d < A.D.length ∧ w.cell? ⟨r, 0, none⟩ = some (.slice (some ⟨dg, 0, none⟩) A.D.length dc) ∧ w.cell? ⟨r, 2, none⟩ = some (.slice (some ⟨lg, 0, none⟩) A.L.length lc) ∧
      w.cell? ⟨lg, q * 3, none⟩ = some (.int .i64 ((A.L[q]'hq).d : Int)) ∧ w.cell? ⟨lg, q * 3 + 1, none⟩ = some (.int .i64 ((A.L[q]'hq).k : Int)) ∧ w.cell? ⟨lg, q * 3 + 2, none⟩ = some u ∧ w.cell? ⟨dg, (A.L[q]'hq).d * 2, none⟩ = some (.slice (some ⟨sg, 0, none⟩) A.n c) ∧
      w.cell? ⟨sg, (A.L[q]'hq).k, none⟩ = some ov ∧ w.frozen? ⟨sg, (A.L[q]'hq).k, none⟩ = false ∧ Vec w u (A.L[q]'hq).b ∧ G sg ∧ r ≠ sg ∧ lg ≠ sg ∧ dg ≠ sg ∧
      (∀ (w1 : World) (u1 : Value), w.grownBy w1 none → Own w.heap.size w1 u1 (A.L[q]'hq).b → (∃ G', RIs G' (w1.setCell ⟨sg, (A.L[q]'hq).k, none⟩ u1) r { A with D := AM.rlay A.D (A.L[q]'hq).d (A.L[q]'hq).k (A.L[q]'hq).b } ∧ Step G w G' (w1.setCell ⟨sg, (A.L[q]'hq).k, none⟩ u1))) := by
  obtain ⟨ss, hss⟩ := some_of hon
  have hdl : (A.L[q]'hq).d < A.D.length := (List.getElem?_eq_some_iff.1 hss).1
  obtain ⟨c0, _, c2, _, _⟩ := h.topCells
  obtain ⟨dg, v, rfl, hv, e0, _, cd, hcd⟩ := h.disk hdl
  obtain ⟨lg, u, rfl, _, f0, f1, f2, hu, cl, hcl⟩ := h.flight hq
  obtain ⟨sg, c, ov, b, rfl, co, fo, _, _, hsg, cs, hcs⟩ := h.place hv hss hk
  refine ⟨dg, lg, sg, c, u, ov, rfl, rfl, hdl, c0, c2, f0, f1, f2, e0, co, fo, hu.vec, hsg, ne_ty h.top hcs (by decide), ne_ty hcl hcs (by decide), ne_ty hcd hcs (by decide), fun w1 u1 g1 hu1 => ?_⟩
  refine ⟨_, by rw [rlay_at hss]; exact (h.laid g1 hv hss hk hu1).is, ⟨⟨g1.os, g1.tape, g1.output, by simpa using g1.size, fun i hi hn => ?_⟩, fun i hi => ?_⟩⟩
  · rw [Below.heap_setCell _ _ _ _ (by intro e; have e : i = sg := e; rw [e] at hn; exact hn hsg)]
    exact g1.block i hi (by simp)
  · rcases hi with hi | hi
    · exact .inl hi
    · exact .inr (rows_blk hu1.row hi).1
theorem RL.gone {dp : Option Addr} {dc : Nat} {ds : List Value} {lp : Option Addr} {lc : Nat} {fs : List Value} (h : RL G w r dp dc ds lp lc fs A) : RL G (w.setCell ⟨r, 2, none⟩ (.slice none 0 0)) r dp dc ds none 0 [] { A with L := [] } :=
  h.flown (old := none) (fun _ h => h) h.lt (World.grownBy.refl w none) (fun g e => by cases e) (L' := []) (fs' := []) (lp' := none) (lc' := 0) (World.ownsRow_nil w 0 135 3) rfl (fun g hg => by cases hg) (fun i u x hu => by simp at hu) rfl

end
end Go.Proofs.YtfjlpifaaknmpaaGreat

/- A region that draws its order, whose last operation waits for all the others: the others under a condition that holds throughout, then the last one. No text of the program is named. -/
set_option linter.unusedSimpArgs false
set_option linter.unusedVariables false
set_option maxRecDepth 100000
namespace Go.Proofs.YtfjlpifaaknmpaaGreat

section
variable {P : Program} {md : Region.Mode} {Q : Exit → Act → World → Prop} {S : World → Prop}

/-- Behind the others comes the last one. -/
def lastQ (P : Program) (ops : Array Oper) (o : Oper) (Q : Exit → Act → World → Prop) : Exit → Act → World → Prop
  | .normal, a, w => wpList P ops Q [o] a w
  | e, a, w => Q e a w

/-- Does the operation number j wait for the operation number i, at once or by others? -/
def waits (md : Region.Mode) (ops : Array Oper) : Nat → Nat → Nat → Bool
  | 0, _, _ => false
  | n + 1, j, i => match ops[j]? with
    | none => false
    | some o => o.after.any (fun e => Region.binds md e && (e.on == i || waits md ops n e.on i))
/-- The last operation waits for all the others, each waits for earlier ones alone, none has a guard. -/
def lastOk (md : Region.Mode) (ops : Array Oper) : Bool :=
  (List.range ops.size).all (fun j => match ops[j]? with
    | none => false
    | some o => o.guard.isNone && o.after.all (fun e => !(Region.binds md e) || decide (e.on < j))) &&
  (List.range (ops.size - 1)).all (fun i => waits md ops ops.size (ops.size - 1) i)

/-- What is listed has all listed that it waits for. -/
def Down (md : Region.Mode) (ops : Array Oper) (listed : Array Bool) : Prop :=
  ∀ (j : Nat) (o : Oper), ops[j]? = some o → listed.getD j false = true → ∀ e ∈ o.after, Region.binds md e = true → listed.getD e.on false = true

theorem getD_any {l : Array Bool} {i : Nat} (h : i < l.size) (b c : Bool) : l.getD i b = l.getD i c := by simp [h]
theorem waits_listed {ops : Array Oper} {listed : Array Bool} (hd : Down md ops listed) : ∀ (n j i : Nat), waits md ops n j i = true → (∀ o, ops[j]? = some o → ∀ e ∈ o.after, Region.binds md e = true → listed.getD e.on false = true) → listed.getD i false = true := by
  intro n
  induction n with
  | zero => intro j i h; cases h
  | succ n ih =>
    intro j i h hj
    unfold waits at h
    cases ho : ops[j]? with
    | none => rw [ho] at h; cases h
    | some o =>
      rw [ho] at h
      obtain ⟨e, he, h1⟩ := Array.any_eq_true'.1 h
      simp only [Bool.and_eq_true, Bool.or_eq_true, beq_iff_eq] at h1
      have hl := hj o ho e he h1.1
      rcases h1.2 with h2 | h2
      · rw [← h2]; exact hl
      · exact ih e.on i h2 (fun o' ho' e' he' hb' => hd e.on o' ho' hl e' he' hb')
theorem letsOut_last {ops : Array Oper} {oL : Oper} (h : LetsOut (lastQ P ops oL Q)) : LetsOut Q := by
  obtain ⟨a, w, h⟩ := h
  exact ⟨a, w, h⟩
theorem wp_last {ops : Array Oper} {oL o : Oper} {a : Act} {w : World} {K K' : Act → World → Prop} (hK : ∀ a w, K a w → K' a w) (h : Oper.wp P o a w K (lastQ P ops oL Q)) : Oper.wp P o a w K' Q := by
  unfold Oper.wp at *
  generalize (execOp a.eval o).run P w = r at *
  cases r with
  | ok n w' =>
    cases n <;> simp only [Oper.upon] at h ⊢
    case value u => exact hK _ _ h
    case skip => exact hK _ _ h
    case defer d => exact hK _ _ h
    case enter f args =>
      refine Calls.mono h fun e w'' he => ?_
      cases e with
      | returned u => exact hK _ _ he
      | panicked c => exact he
      | outgrown => exact letsOut_last he
    case row row args => exact Rows.mono h fun u w'' he => hK _ _ he
  | halt x w' =>
    cases x <;> simp only [Oper.upon] at h ⊢
    case panic u => exact h

theorem push_getD (listed : Array Bool) (x : Nat) : (listed.push false).getD x false = listed.getD x false := by
  by_cases h : x < listed.size
  · simp [Array.getElem?_push, h, Nat.ne_of_lt h]
  · by_cases h2 : x = listed.size
    · subst h2; simp
    · have h3 : ¬ x < (listed.push false).size := by simp; omega
      simp only [Array.getD, h, h3, dif_neg, not_false_eq_true]
theorem ready_push {ops : Array Oper} {oL : Oper} {listed : Array Bool} (hs : listed.size = ops.size) {j : Nat} (hj : j < ops.size) : j ∈ Region.ready md (ops.push oL) (listed.push false) ↔ j ∈ Region.ready md ops listed := by
  rw [mem_ready, mem_ready]
  have e1 : (listed.push false).getD j true = listed.getD j true := by
    rw [getD_any (by simp; omega) true false, push_getD, getD_any (by omega) false true]
  have e2 : (ops.push oL)[j]? = ops[j]? := by rw [Array.getElem?_push, if_neg (by omega)]
  rw [e1, e2]
  simp only [push_getD]

/-- All that is said of the list of operations. -/
structure LastOk (md : Region.Mode) (ops : Array Oper) (oL : Oper) : Prop where
  gd : ∀ (j : Nat) (o : Oper), (ops.push oL)[j]? = some o → o.guard = none
  lt : ∀ (j : Nat) (o : Oper), (ops.push oL)[j]? = some o → ∀ e ∈ o.after, Region.binds md e = true → e.on < j
  all : ∀ i : Nat, i < ops.size → ∃ n, waits md (ops.push oL) n ops.size i = true
theorem lastOk_of {ops : Array Oper} {oL : Oper} (h : lastOk md (ops.push oL) = true) : LastOk md ops oL := by
  unfold lastOk at h
  simp only [Bool.and_eq_true, List.all_eq_true, List.mem_range] at h
  obtain ⟨h1, h2⟩ := h
  have key : ∀ (j : Nat) (o : Oper), (ops.push oL)[j]? = some o → o.guard.isNone = true ∧ ∀ e ∈ o.after, (!(Region.binds md e) || decide (e.on < j)) = true := fun j o ho => by
    have := h1 j (Array.getElem?_eq_some_iff.1 ho).1
    rw [ho] at this
    simp only [Bool.and_eq_true] at this
    refine ⟨this.1, fun e he => ?_⟩
    have := Array.all_eq_true'.1 this.2
    exact this e he
  refine ⟨fun j o ho => by simpa using (key j o ho).1, fun j o ho e he hb => ?_, fun i hi => ⟨(ops.push oL).size, ?_⟩⟩
  · have := (key j o ho).2 e he
    simpa [hb] using this
  · have := h2 i (by simp; omega)
    simpa using this

theorem down_push {ops : Array Oper} {oL : Oper} {listed : Array Bool} (hs : listed.size = ops.size) (hd : Down md ops listed) : Down md (ops.push oL) (listed.push false) := fun j o ho hj e he hb => by
  rw [push_getD] at hj ⊢
  have hlt : j < ops.size := by
    rcases Nat.lt_or_ge j listed.size with h | h
    · omega
    · simp [Array.getElem?_eq_none h] at hj
  rw [Array.getElem?_push, if_neg (by omega)] at ho
  exact hd j o ho hj e he hb
theorem down_set {ops : Array Oper} {listed : Array Bool} (hd : Down md ops listed) {i : Nat} (hi : i ∈ Region.ready md ops listed) : Down md ops (listed.setIfInBounds i true) := fun j o ho hj e he hb => by
  refine getD_set_true ?_
  by_cases c : i = j
  · subst c
    obtain ⟨_, o', ho', hall⟩ := mem_ready.1 hi
    rw [ho] at ho'
    obtain rfl := Option.some.inj ho'
    exact hall e he hb
  · rw [_root_.Go.getD_set_ne false c] at hj
    exact hd j o ho hj e he hb
theorem all_listed {ops : Array Oper} {oL : Oper} {listed : Array Bool} (hok : LastOk md ops oL) (hs : listed.size = ops.size) (hr : Region.ready md ops listed = []) : ∀ n j, j < n → j < ops.size → listed.getD j false = true := by
  intro n
  induction n with
  | zero => intro j hj; omega
  | succ n ih =>
    intro j hjn hj
    cases hc : listed.getD j false with
    | true => rfl
    | false =>
      have : j ∈ Region.ready md ops listed := by
        rw [mem_ready]
        have ho : ops[j]? = some ops[j] := Array.getElem?_eq_getElem hj
        refine ⟨by rw [getD_any (by omega) true false]; exact hc, _, ho, fun e he hb => ?_⟩
        have hlt := hok.lt j ops[j] (by rw [Array.getElem?_push, if_neg (by omega)]; exact ho) e he hb
        exact ih e.on (by omega) (by omega)
      rw [hr] at this
      cases this

theorem lastOp_step {ops : Array Oper} {oL : Oper} {listed : Array Bool} {a : Act} {w : World} (hok : LastOk md ops oL) (hs : listed.size = ops.size) (hr : Region.ready md ops listed = []) (h : lastQ P (ops.push oL) oL Q .normal a w) : ∀ fuel, wpAny P md (ops.push oL) Q (fuel + 1) (listed.push false) a w := by
  have hall := all_listed hok hs hr
  have hL : (ops.push oL)[ops.size]? = some oL := by simp
  have hmem : ops.size ∈ Region.ready md (ops.push oL) (listed.push false) := by
    rw [mem_ready]
    refine ⟨by rw [← hs]; simp, oL, hL, fun e he hb => ?_⟩
    have := hok.lt _ _ hL e he hb
    rw [push_getD]
    exact hall _ _ (Nat.lt_succ_self _) this
  have honly : ∀ i ∈ Region.ready md (ops.push oL) (listed.push false), i = ops.size := fun i hi => by
    obtain ⟨_, o, ho, _⟩ := mem_ready.1 hi
    have hlt := (Array.getElem?_eq_some_iff.1 ho).1
    simp at hlt
    rcases Nat.lt_or_ge i ops.size with h | h
    · rw [ready_push hs h, hr] at hi; cases hi
    · omega
  have hdone : Region.ready md (ops.push oL) ((listed.push false).setIfInBounds ops.size true) = [] := by
    apply List.eq_nil_iff_forall_not_mem.2
    intro i hi
    have h0 := (mem_ready.1 hi).1
    obtain ⟨_, o, ho, _⟩ := mem_ready.1 hi
    have hlt := (Array.getElem?_eq_some_iff.1 ho).1
    simp at hlt
    by_cases c : ops.size = i
    · subst c
      rw [← hs] at h0
      simp at h0
    · rw [_root_.Go.getD_set_ne true c, getD_any (by simp; omega) true false, push_getD, hall (i + 1) i (Nat.lt_succ_self _) (by omega)] at h0
      cases h0
  intro fuel
  refine ⟨fun h0 => (by rw [h0] at hmem; cases hmem), fun i hi => ?_⟩
  obtain rfl := honly i hi
  have hfin : ∀ a w, wpList P (ops.push oL) Q [] a w → wpAny P md (ops.push oL) Q fuel ((listed.push false).setIfInBounds ops.size true) a w := fun a w h => wpAny_done hdone h fuel
  have h' : if Region.wanted oL (yielded (ops.push oL) a.tmps) then oL.wp P a w (wpList P (ops.push oL) Q []) Q ∨ (oL.asks P a w ∧ LetsOut Q) else wpList P (ops.push oL) Q [] (a.put oL.dst undef) w := h
  refine wpOp_mono hfin ?_
  unfold wpOp
  rw [hL]
  exact h'

theorem any_last {ops : Array Oper} {oL : Oper} (hok : LastOk md ops oL) : ∀ (fuel : Nat) (listed : Array Bool) (a : Act) (w : World), listed.size = ops.size → Down md ops listed → wpAnyH P md ops (lastQ P (ops.push oL) oL Q) S fuel listed a w → wpAny P md (ops.push oL) Q (fuel + 1) (listed.push false) a w := by
  intro fuel
  induction fuel with
  | zero => intro listed a w hs hd h; exact lastOp_step hok hs h.1 h.2 0
  | succ fuel ih =>
    intro listed a w hs hd h
    by_cases hr : Region.ready md ops listed = []
    · exact lastOp_step hok hs hr (h.1 hr) (fuel + 1)
    · obtain ⟨i0, hi0⟩ := List.exists_mem_of_ne_nil _ hr
      have hL : (ops.push oL)[ops.size]? = some oL := by simp
      have hno : ops.size ∉ Region.ready md (ops.push oL) (listed.push false) := fun hm => by
        obtain ⟨_, o, ho, hall⟩ := mem_ready.1 hm
        rw [hL] at ho
        obtain rfl := Option.some.inj ho
        obtain ⟨h0, o', ho', _⟩ := mem_ready.1 hi0
        have hlt := (Array.getElem?_eq_some_iff.1 ho').1
        obtain ⟨n, hn⟩ := hok.all i0 hlt
        have := waits_listed (down_push hs hd) n _ _ hn (fun o ho => by
          rw [hL] at ho
          obtain rfl := Option.some.inj ho
          exact hall)
        rw [push_getD, getD_any (by omega) false true, h0] at this
        cases this
      have hto : ∀ i ∈ Region.ready md (ops.push oL) (listed.push false), i < ops.size ∧ i ∈ Region.ready md ops listed := fun i hi => by
        obtain ⟨_, o, ho, _⟩ := mem_ready.1 hi
        have hlt := (Array.getElem?_eq_some_iff.1 ho).1
        simp at hlt
        have hne : i ≠ ops.size := fun e => hno (by rw [← e]; exact hi)
        have hl : i < ops.size := by omega
        exact ⟨hl, (ready_push hs hl).1 hi⟩
      refine ⟨fun h0 => ?_, fun i hi => ?_⟩
      · have := (ready_push (md := md) (oL := oL) hs (Array.getElem?_eq_some_iff.1 (mem_ready.1 hi0).2.choose_spec.1).1).2 hi0
        rw [h0] at this
        cases this
      · obtain ⟨hl, hi'⟩ := hto i hi
        have h1 := h.2 i hi'
        have ho : ops[i]? = some ops[i] := Array.getElem?_eq_getElem hl
        have ho2 : (ops.push oL)[i]? = some ops[i] := by rw [Array.getElem?_push, if_neg (by omega)]; exact ho
        have hg := hok.gd i _ ho2
        have hw : ∀ os : Array Oper, Region.wanted ops[i] (yielded os a.tmps) = true := fun os => by simp [Region.wanted, hg]
        have hK : ∀ a' w', (S w' ∧ wpAnyH P md ops (lastQ P (ops.push oL) oL Q) S fuel (listed.setIfInBounds i true) a' w') → wpAny P md (ops.push oL) Q (fuel + 1) ((listed.push false).setIfInBounds i true) a' w' := fun a' w' hh => by
          have := ih (listed.setIfInBounds i true) a' w' (by simpa using hs) (down_set hd hi') hh.2
          have e : (listed.setIfInBounds i true).push false = (listed.push false).setIfInBounds i true := by
            have hil : i < listed.size := by omega
            apply Array.ext_getElem?
            intro k
            simp only [Array.getElem?_push, Array.getElem?_setIfInBounds, Array.size_setIfInBounds, Array.size_push]
            by_cases ck : k = listed.size
            · have : i ≠ k := by omega
              simp [ck, hil, show i ≠ listed.size by omega]
            · by_cases cik : i = k
              · subst cik
                simp [hil, ck, Nat.lt_succ_of_lt hil]
              · simp [ck, cik]
          rw [← e]; exact this
        unfold wpOp at h1 ⊢
        rw [ho] at h1
        rw [ho2]
        simp only [hw, if_true] at h1 ⊢
        rcases h1 with h1 | ⟨h1, h2⟩
        · exact .inl (wp_last hK h1)
        · exact .inr ⟨h1, letsOut_last h2⟩

/-- A region that draws: all but the last operation under S; then the last one. -/
theorem region_last {id : Nat} {ops all : Array Oper} {oL : Oper} {a : Act} {w : World} (he : all = ops.push oL) (hm : P.follows .mixedOrders = true) (hl : lastOk .any (ops.push oL) = true) (hS : S w.drew)
    (h : S w.drew → wpAnyH P .any ops (lastQ P (ops.push oL) oL Q) S ops.size (Array.replicate ops.size false) a w.drew) : (Code.region id all true).wp P Q a w := by
  subst he
  refine wp_region_any hm ?_
  have := any_last (S := S) (lastOk_of hl) ops.size (Array.replicate ops.size false) a w.drew (by simp) (fun j o ho hj => by
    by_cases c : j < ops.size <;> simp [c] at hj) (h hS)
  have e : Array.replicate (ops.push oL).size false = (Array.replicate ops.size false).push false := by rw [Array.size_push, Array.replicate_succ]
  rw [e, Array.size_push]
  exact this
theorem region_late {id : Nat} {ops all : Array Oper} {oL : Oper} {a : Act} {w : World} (hp : all.pop = ops) (hb : all.back? = some oL) (hm : P.follows .mixedOrders = true) (hl : lastOk .any all = true) (hS : S w.drew)
    (h : S w.drew → wpAnyH P .any ops (lastQ P (ops.push oL) oL Q) S ops.size (Array.replicate ops.size false) a w.drew) : (Code.region id all true).wp P Q a w := by
  have he : all = ops.push oL := by
    subst hp
    have hne : all.size ≠ 0 := fun h0 => by
      have : all = #[] := Array.eq_empty_of_size_eq_zero h0
      subst this
      simp at hb
    rw [Array.back?_eq_getElem?] at hb
    obtain ⟨h1, h2⟩ := Array.getElem?_eq_some_iff.1 hb
    apply Array.ext_getElem?
    intro k
    rw [Array.getElem?_push, Array.getElem?_pop, Array.size_pop]
    by_cases c : k = all.size - 1
    · subst c; simp [hb]
    · by_cases c2 : k < all.size - 1
      · simp [c]
        intro hk
        omega
      · simp [c]
        intro hk
        omega
  exact region_last (S := S) he hm (by rw [← he]; exact hl) hS h
theorem lastQ_normal {ops : Array Oper} {o : Oper} {a : Act} {w : World} (h : wpList P ops Q [o] a w) : lastQ P ops o Q .normal a w := h

end
end Go.Proofs.YtfjlpifaaknmpaaGreat

