/- The program's array against the document's: plain facts (Sim): each call is answered alike, and leaves them alike. -/
import Derived.Test.YtfmlohedebdomaaRLeaf6
set_option linter.unusedSimpArgs false
set_option linter.unusedVariables false
namespace Go.Proofs.Ytfmlohedebdomaa
namespace AM

/-- The sectors of a disk's bytes. -/
def secs (n : Nat) (xs : List Nat) : List (List Nat) := (List.range n).map (sec xs)
def secsD (n : Nat) (C : List Disk) : List (Option (List (List Nat))) := C.map (Option.map (secs n))
theorem secs_len (n : Nat) (xs : List Nat) : (secs n xs).length = n := by simp [secs]
theorem secs_get {n k : Nat} (h : k < n) (xs : List Nat) : (secs n xs)[k]? = some (sec xs k) := by simp [secs, h]
theorem secsD_len (n : Nat) (C : List Disk) : (secsD n C).length = C.length := by simp [secsD]
theorem secsD_get (n : Nat) (C : List Disk) (d : Nat) : (secsD n C)[d]? = (C[d]?).map (Option.map (secs n)) := by simp [secsD]
theorem secs_put {n k : Nat} {xs b : List Nat} (hx : xs.length = n * 64) (hk : k < n) (hb : b.length = 64) : secs n (put xs k b) = (secs n xs).set k b := by
  have hf := fits hk
  apply List.ext_getElem?
  intro j
  by_cases hj : j < n
  · rw [secs_get hj]
    by_cases c : k = j
    · subst c
      rw [sec_put_same hb (by omega), List.getElem?_set, if_pos rfl, if_pos (by rw [secs_len]; exact hj)]
    · rw [sec_put_ne hb (by omega) (Ne.symm c), List.getElem?_set, if_neg c, secs_get hj]
  · rw [List.getElem?_eq_none (by rw [secs_len]; omega), List.getElem?_eq_none (by simp [secs_len]; omega)]

/-- A sector of the document's disks. -/
def rlay (D : List (Option (List (List Nat)))) (d k : Nat) (b : List Nat) : List (Option (List (List Nat))) := D.set d ((D.getD d none).map (fun ss => ss.set k b))
theorem secsD_lay {n : Nat} {C : List Disk} (hC : OkC n C) {d k : Nat} (hk : k < n) {b : List Nat} (hb : b.length = 64) : secsD n (lay C d k b) = rlay (secsD n C) d k b := by
  apply List.ext_getElem?
  intro j
  rw [secsD_get]
  unfold rlay
  by_cases c : d = j
  · subst c
    by_cases hl : d < C.length
    · rw [List.getElem?_set, if_pos rfl, if_pos (by rw [secsD_len]; exact hl)]
      have e : (secsD n C).getD d none = (C[d]).map (secs n) := by simp [List.getD, secsD, hl]
      rw [e]
      cases hq : C[d] with
      | none =>
        have : (lay C d k b)[d]? = some none := by simp [lay, List.getD, hl, hq]
        rw [this]; rfl
      | some xs =>
        have hq' : C[d]? = some (some xs) := by rw [List.getElem?_eq_getElem hl, hq]
        rw [lay_at k b hq']
        obtain ⟨h1, _⟩ := hC d xs hq'
        simp [secs_put h1 hk hb]
    · rw [List.getElem?_eq_none (by rw [lay_len]; omega), List.getElem?_eq_none (by simp [secsD_len]; omega)]
      rfl
  · rw [lay_ne k b (Ne.symm c), List.getElem?_set, if_neg c, secsD_get]

namespace RA
def ons (A : RA) : Nat := A.D.countP (·.isSome)
def fly (A : RA) (d k : Nat) (b : List Nat) : RA := { A with L := A.L ++ [⟨d, k, b⟩] }
def writes (A : RA) (d k : Int) (b : List Nat) : Nat × RA :=
  if A.why d k ≠ 0 then (A.why d k, A) else if b.length ≠ 64 then (1, A) else if A.burns then (8, A.burnt) else (0, A.burnt.fly d.toNat k.toNat b)
def barrier (A : RA) : Nat × RA := if A.dark then (8, A) else if A.burns then (8, A.burnt) else (0, { A.burnt with D := A.L.foldl (fun D l => rlay D l.d l.k l.b) A.D, L := [] })
def lost (A : RA) (d : Nat) : RA := { A with D := A.D.set d none, L := A.L.filter (fun l => !(l.d == d)) }
def lose (A : RA) (d : Int) : Nat × RA := if 0 ≤ d ∧ d < A.D.length then (if (A.D.getD d.toNat none).isSome then (0, A.lost d.toNat) else (9, A)) else (6, A)
def blank (A : RA) (d : Nat) : RA := { A with D := A.D.set d (some (List.replicate A.n (zs 64))) }
def replace (A : RA) (d : Int) : Nat × RA := if 0 ≤ d ∧ d < A.D.length then (if (A.D.getD d.toNat none).isSome then (1, A) else (0, A.blank d.toNat)) else (6, A)
def fused (A : RA) (n : Int) : RA := { A with left := n.toNat }
def rpick (D : List (Option (List (List Nat)))) (x : Fl × Nat) : List (Option (List (List Nat))) := if x.2 % 2 = 1 then rlay D x.1.d x.1.k x.1.b else D
def crash (A : RA) (ps : List Nat) : RA := ⟨(A.L.zip ps).foldl rpick A.D, A.n, [], 0, false⟩
def new (d n : Nat) : RA := ⟨List.replicate d (some (List.replicate n (zs 64))), n, [], 0, false⟩
/-- The last in flight for that sector, or else b. -/
def last (L : List Fl) (d k : Nat) (b : List Nat) : List Nat := L.foldl (fun c l => if l.d = d ∧ l.k = k then l.b else c) b
def read (A : RA) (d k : Int) : List Nat := if A.why d k = 0 then last A.L d.toNat k.toNat (((A.D.getD d.toNat none).getD []).getD k.toNat []) else []
end RA

def flOf (l : Wr) : Fl := ⟨l.d, l.k, l.now⟩
/-- All in flight laid again. -/
def redo (C : List Disk) (L : List Wr) : List Disk := L.foldl (fun D l => lay D l.d l.k l.now) C

structure Sim (R : Raw) (A : RA) : Prop where
  ok : R.Ok
  n : A.n = R.n
  left : A.left = R.fuse
  dark : A.dark = R.off
  L : A.L = R.L.map flOf
  D : A.D = secsD R.n (undoTo R.C R.L 0)
  redo : redo (undoTo R.C R.L 0) R.L = R.C

theorem Sim.len {R : Raw} {A : RA} (h : Sim R A) : A.D.length = R.C.length := by rw [h.D, secsD_len, undoTo_len]
theorem undo_on (C : List Disk) (L : List Wr) (j e : Nat) : ((undoTo C L j).getD e none).isSome = (C.getD e none).isSome := by
  unfold undoTo
  generalize L.drop j = Z
  induction Z with
  | nil => rfl
  | cons l r ih => simp only [List.foldr]; rw [lay_on, ih]
theorem secsD_on (n : Nat) (C : List Disk) (e : Nat) : ((secsD n C).getD e none).isSome = (C.getD e none).isSome := by
  simp only [List.getD, secsD_get]
  cases h : C[e]? with
  | none => rfl
  | some x => cases x <;> rfl
theorem Sim.isSome {R : Raw} {A : RA} (h : Sim R A) (e : Nat) : (A.D.getD e none).isSome = (R.C.getD e none).isSome := by rw [h.D, secsD_on, undo_on]
theorem Sim.on {R : Raw} {A : RA} (h : Sim R A) (d : Int) : A.on d = R.on d := by
  unfold RA.on Raw.on
  rw [h.len, h.isSome]
theorem Sim.why {R : Raw} {A : RA} (h : Sim R A) (d k : Int) : A.why d k = R.reach d k := by
  unfold RA.why Raw.reach
  rw [h.dark, h.len, h.n, h.isSome]
  split
  · rfl
  · split
    · rename_i c
      simp [Raw.on, c.1, c.2.1]
    · rfl
theorem Sim.burns {R : Raw} {A : RA} (h : Sim R A) : A.burns = R.burns := by unfold RA.burns Raw.burns; rw [h.left]
theorem burnt_C (R : Raw) : R.burnt.C = R.C ∧ R.burnt.n = R.n ∧ R.burnt.L = R.L := by unfold Raw.burnt; split <;> exact ⟨rfl, rfl, rfl⟩
theorem rburnt_D (A : RA) : A.burnt.D = A.D ∧ A.burnt.n = A.n ∧ A.burnt.L = A.L := by unfold RA.burnt; split <;> exact ⟨rfl, rfl, rfl⟩
theorem Sim.burnt {R : Raw} {A : RA} (h : Sim R A) : Sim R.burnt A.burnt := by
  obtain ⟨a1, a2, a3⟩ := burnt_C R
  obtain ⟨b1, b2, b3⟩ := rburnt_D A
  refine ⟨h.ok.burnt, by rw [a2, b2, h.n], ?_, ?_, by rw [a3, b3, h.L], by rw [a1, a2, a3, b1, h.D], by rw [a1, a3, h.redo]⟩
  · unfold RA.burnt Raw.burnt; rw [h.left]; split
    · exact h.left
    · rfl
  · unfold RA.burnt Raw.burnt; rw [h.left]; split
    · exact h.dark
    · rfl
theorem undo_fly {C : List Disk} {L : List Wr} {d k : Nat} {b xs : List Nat} (hx : C[d]? = some (some xs)) (hl : k * 64 + 64 ≤ xs.length) (hb : b.length = 64) : undoTo (lay C d k b) (L ++ [⟨d, k, look C d k, b⟩]) 0 = undoTo C L 0 := by
  unfold undoTo
  simp only [List.drop_zero, List.foldr_append, List.foldr_cons, List.foldr_nil]
  congr 1
  have e : look C d k = sec xs k := look_at k hx
  rw [e]
  apply List.ext_getElem?
  intro j
  by_cases c : j = d
  · subst c
    rw [lay_at _ _ (lay_at k b hx), put_put_sec hb hl, hx]
  · rw [lay_ne _ _ c, lay_ne _ _ c]
theorem Sim.fly {R : Raw} {A : RA} (h : Sim R A) {d k : Nat} {b xs : List Nat} (hx : R.C[d]? = some (some xs)) (hk : k < R.n) (hb : b.length = 64) (hs : ∀ x ∈ b, x < 256) : Sim (R.fly d k b) (A.fly d k b) := by
  obtain ⟨h1, _⟩ := h.ok.C d xs hx
  have hf := fits hk
  have hu : undoTo (R.fly d k b).C (R.fly d k b).L 0 = undoTo R.C R.L 0 := undo_fly hx (by omega) hb
  refine ⟨h.ok.fly ⟨xs, hx⟩ hk hb hs, h.n, h.left, h.dark, by simp [RA.fly, Raw.fly, h.L, flOf], ?_, ?_⟩
  · rw [hu]; exact h.D
  · rw [hu]
    show AM.redo _ (R.L ++ [_]) = lay R.C d k b
    unfold AM.redo
    rw [List.foldl_append]
    have := h.redo
    unfold AM.redo at this
    rw [this]
    rfl
theorem Sim.write {R : Raw} {A : RA} (h : Sim R A) (d k : Int) {b : List Nat} (hs : ∀ x ∈ b, x < 256) : (A.writes d k b).1 = (R.writes d k b).1 ∧ Sim (R.writes d k b).2 (A.writes d k b).2 := by
  by_cases hr : R.reach d k = 0
  · by_cases hb : b.length = 64
    · cases hbu : R.burns with
      | true =>
        simp only [RA.writes, Raw.writes, h.why, h.burns, hr, hb, hbu, ne_eq, not_true_eq_false, if_false, if_true]
        exact ⟨trivial, h.burnt⟩
      | false =>
        obtain ⟨_, h1, _, h2, h3, xs, hx⟩ := reach_zero hr
        obtain ⟨a1, a2, _⟩ := burnt_C R
        simp only [RA.writes, Raw.writes, h.why, h.burns, hr, hb, hbu, ne_eq, not_true_eq_false, if_false, Bool.false_eq_true]
        exact ⟨trivial, h.burnt.fly (by rw [a1]; exact hx) (by rw [a2]; omega) hb hs⟩
    · simp only [RA.writes, Raw.writes, h.why, h.burns, hr, hb, ne_eq, not_true_eq_false, not_false_eq_true, if_false, if_true]
      exact ⟨trivial, h⟩
  · simp only [RA.writes, Raw.writes, h.why, hr, ne_eq, not_false_eq_true, if_true]
    exact ⟨trivial, h⟩
theorem Sim.fuse {R : Raw} {A : RA} (h : Sim R A) {n : Int} (hn : n < 9223372036854775808) : Sim (R.fused n) (A.fused n) :=
  ⟨⟨h.ok.d1, h.ok.d2, h.ok.n1, h.ok.n2, h.ok.C, h.ok.L, by show n.toNat < _; omega⟩, h.n, rfl, h.dark, h.L, h.D, h.redo⟩
theorem OkC.redo {n : Nat} {C : List Disk} (h : OkC n C) {L : List Wr} (hL : ∀ l ∈ L, OkW n C l) : OkC n (AM.redo C L) := by
  unfold AM.redo
  induction L generalizing C with
  | nil => exact h
  | cons l r ih =>
    have hl := hL l (List.mem_cons_self ..)
    exact ih (h.lay hl.k hl.now hl.nowS) (fun x hx => (hL x (List.mem_cons_of_mem _ hx)).lay _ _ _)
theorem secsD_redo {n : Nat} {C : List Disk} (h : OkC n C) {L : List Wr} (hL : ∀ l ∈ L, OkW n C l) : (L.map flOf).foldl (fun D l => rlay D l.d l.k l.b) (secsD n C) = secsD n (AM.redo C L) := by
  unfold AM.redo
  induction L generalizing C with
  | nil => rfl
  | cons l r ih =>
    have hl := hL l (List.mem_cons_self ..)
    simp only [List.map_cons, List.foldl_cons]
    rw [← ih (h.lay hl.k hl.now hl.nowS) (fun x hx => (hL x (List.mem_cons_of_mem _ hx)).lay _ _ _), secsD_lay h hl.k hl.now]
    rfl
theorem Sim.barrier {R : Raw} {A : RA} (h : Sim R A) : A.barrier.1 = R.barrier.1 ∧ Sim R.barrier.2 A.barrier.2 := by
  unfold RA.barrier Raw.barrier
  rw [h.dark, h.burns]
  split
  · exact ⟨rfl, h⟩
  · split
    · exact ⟨rfl, h.burnt⟩
    · have hb := h.burnt
      obtain ⟨a1, a2, a3⟩ := burnt_C R
      obtain ⟨u1, u2⟩ := h.ok.C.undo h.ok.L 0
      refine ⟨rfl, ⟨⟨hb.ok.d1, hb.ok.d2, hb.ok.n1, hb.ok.n2, hb.ok.C, by simp, hb.ok.fuse⟩, hb.n, hb.left, hb.dark, rfl, ?_, rfl⟩⟩
      show A.L.foldl _ A.D = secsD R.burnt.n R.burnt.C
      rw [h.L, h.D, secsD_redo u1 u2, h.redo, a1, a2]
theorem secsD_pick {n : Nat} : ∀ (Z : List (Wr × Nat)) (C : List Disk), OkC n C → (∀ x ∈ Z, OkW n C x.1) → (Z.map (fun x => (flOf x.1, x.2))).foldl RA.rpick (secsD n C) = secsD n (Z.foldl pickD C) := by
  intro Z
  induction Z with
  | nil => intro C _ _; rfl
  | cons x r ih =>
    intro C hC hZ
    have hx := hZ x (List.mem_cons_self ..)
    simp only [List.map_cons, List.foldl_cons]
    by_cases ho : x.2 % 2 = 1
    · have e1 : RA.rpick (secsD n C) (flOf x.1, x.2) = rlay (secsD n C) x.1.d x.1.k x.1.now := if_pos ho
      have e2 : pickD C x = lay C x.1.d x.1.k x.1.now := if_pos ho
      rw [e1, e2, ← ih _ (hC.lay hx.k hx.now hx.nowS) (fun y hy => (hZ y (List.mem_cons_of_mem _ hy)).lay _ _ _), secsD_lay hC hx.k hx.now]
    · have e1 : RA.rpick (secsD n C) (flOf x.1, x.2) = secsD n C := if_neg ho
      have e2 : pickD C x = C := if_neg ho
      rw [e1, e2, ih _ hC (fun y hy => hZ y (List.mem_cons_of_mem _ hy))]
theorem Sim.crash {R : Raw} {A : RA} (h : Sim R A) (ps : List Nat) : Sim (R.crash ps) (A.crash ps) := by
  obtain ⟨u1, u2⟩ := h.ok.C.undo h.ok.L 0
  refine ⟨h.ok.crash ps, h.n, rfl, rfl, rfl, ?_, rfl⟩
  show (A.L.zip ps).foldl RA.rpick A.D = secsD R.n ((R.L.zip ps).foldl pickD (undoTo R.C R.L 0))
  rw [h.L, h.D, ← secsD_pick (n := R.n) (R.L.zip ps) _ u1 (fun x hx => u2 _ (List.of_mem_zip hx).1)]
  congr 1
  rw [List.zip_map_left]
  rfl
/-- Lost, or replaced: other disks. -/
theorem lay_set_ne {C : List Disk} {d e k : Nat} {b : List Nat} (o : Disk) (h : e ≠ d) : lay (C.set e o) d k b = (lay C d k b).set e o := by
  unfold lay
  have : (C.set e o).getD d none = C.getD d none := by simp only [List.getD]; rw [List.getElem?_set_ne h]
  rw [this, List.set_comm _ _ h]
theorem undo_set {C : List Disk} {e : Nat} (o : Disk) : ∀ {L : List Wr}, (∀ l ∈ L, l.d ≠ e) → undoTo (C.set e o) L 0 = (undoTo C L 0).set e o := by
  intro L
  unfold undoTo
  simp only [List.drop_zero]
  induction L with
  | nil => intro _; rfl
  | cons l r ih =>
    intro h
    simp only [List.foldr_cons]
    rw [ih (fun x hx => h x (List.mem_cons_of_mem _ hx)), lay_set_ne o (Ne.symm (h l (List.mem_cons_self ..)))]
theorem redo_set {e : Nat} (o : Disk) : ∀ {L : List Wr} {C : List Disk}, (∀ l ∈ L, l.d ≠ e) → redo (C.set e o) L = (redo C L).set e o := by
  intro L
  unfold redo
  induction L with
  | nil => intro C _; rfl
  | cons l r ih =>
    intro C h
    simp only [List.foldl_cons]
    rw [lay_set_ne o (Ne.symm (h l (List.mem_cons_self ..))), ih (fun x hx => h x (List.mem_cons_of_mem _ hx))]
theorem lay_set_same {C : List Disk} {e k : Nat} {b : List Nat} : lay (C.set e none) e k b = C.set e none := by
  unfold lay
  by_cases h : e < C.length
  · have : (C.set e none).getD e none = none := by simp [List.getD, h]
    rw [this]
    simp
  · rw [List.set_eq_of_length_le (by simp; omega)]
theorem lay_kill {C : List Disk} {e k : Nat} {b : List Nat} : (lay C e k b).set e none = C.set e none := by
  unfold lay
  simp
/-- What is lost takes its flights along. -/
theorem undo_lost {e : Nat} : ∀ {L : List Wr} {C : List Disk}, undoTo (C.set e none) (L.filter (fun l => !(l.d == e))) 0 = (undoTo C L 0).set e none := by
  intro L
  unfold undoTo
  simp only [List.drop_zero]
  induction L with
  | nil => intro C; rfl
  | cons l r ih =>
    intro C
    by_cases h : l.d = e
    · rw [List.filter_cons_of_neg (by simp [h]), ih]
      simp only [List.foldr_cons]
      rw [h, lay_kill]
    · rw [List.filter_cons_of_pos (by simp [h])]
      simp only [List.foldr_cons]
      rw [ih, lay_set_ne none (Ne.symm h)]
theorem redo_lost {e : Nat} : ∀ {L : List Wr} {C : List Disk}, redo (C.set e none) (L.filter (fun l => !(l.d == e))) = (redo C L).set e none := by
  intro L
  unfold redo
  induction L with
  | nil => intro C; rfl
  | cons l r ih =>
    intro C
    by_cases h : l.d = e
    · rw [List.filter_cons_of_neg (by simp [h])]
      simp only [List.foldl_cons]
      rw [← ih, h, lay_kill]
    · rw [List.filter_cons_of_pos (by simp [h])]
      simp only [List.foldl_cons]
      rw [lay_set_ne none (Ne.symm h), ih]
theorem secsD_set (n : Nat) (C : List Disk) (d : Nat) (o : Disk) : secsD n (C.set d o) = (secsD n C).set d (o.map (secs n)) := by simp [secsD, List.map_set]
theorem Sim.find {R : Raw} {A : RA} (h : Sim R A) (d : Int) : (0 ≤ d ∧ d < (A.D.length : Int)) ↔ R.find d = 0 := by
  rw [h.len]
  unfold Raw.find
  split
  · rename_i c; simp [c]
  · rename_i c; simp [c]
theorem Sim.lose {R : Raw} {A : RA} (h : Sim R A) (d : Int) : (A.lose d).1 = (R.lose d).1 ∧ Sim (R.lose d).2 (A.lose d).2 := by
  by_cases hf : R.find d = 0
  · have hin := (h.find d).2 hf
    have hs : (A.D.getD d.toNat none).isSome = R.on d := by
      rw [h.isSome]
      rw [h.len] at hin
      simp [Raw.on, hin.1, hin.2]
    cases ho : R.on d with
    | false =>
      simp only [RA.lose, Raw.lose, hin, hf, hs, ho, ne_eq, not_true_eq_false, if_false, Bool.false_eq_true, and_self, if_true]
      exact ⟨trivial, h⟩
    | true =>
      simp only [RA.lose, Raw.lose, hin, hf, hs, ho, ne_eq, not_true_eq_false, if_false, and_self, if_true]
      refine ⟨trivial, ⟨h.ok.lost _, h.n, h.left, h.dark, ?_, ?_, ?_⟩⟩
      · show A.L.filter _ = (R.L.filter _).map flOf
        rw [h.L, List.filter_map]
        rfl
      · show A.D.set d.toNat none = secsD R.n (undoTo (R.C.set d.toNat none) (R.L.filter _) 0)
        rw [undo_lost, secsD_set, h.D]
        rfl
      · show AM.redo (undoTo (R.C.set d.toNat none) (R.L.filter _) 0) (R.L.filter _) = R.C.set d.toNat none
        rw [undo_lost, redo_lost, h.redo]
  · have hin : ¬ (0 ≤ d ∧ d < (A.D.length : Int)) := fun c => hf ((h.find d).1 c)
    have h6 : R.find d = 6 := by unfold Raw.find at hf ⊢; split at hf <;> simp_all
    simp only [RA.lose, Raw.lose, hin, h6, ne_eq, if_false]
    exact ⟨rfl, h⟩
theorem secs_zs (n : Nat) : secs n (zs (n * 64)) = List.replicate n (zs 64) := by
  apply List.ext_getElem?
  intro j
  by_cases hj : j < n
  · rw [secs_get hj, sec_zs hj, List.getElem?_replicate, if_pos hj]
  · rw [List.getElem?_eq_none (by rw [secs_len]; omega), List.getElem?_eq_none (by simp; omega)]
theorem Sim.replace {R : Raw} {A : RA} (h : Sim R A) (d : Int) : (A.replace d).1 = (R.replace d).1 ∧ Sim (R.replace d).2 (A.replace d).2 := by
  by_cases hf : R.find d = 0
  · have hin := (h.find d).2 hf
    have hin' := hin
    rw [h.len] at hin'
    have hs : (A.D.getD d.toNat none).isSome = R.on d := by
      rw [h.isSome]
      simp [Raw.on, hin'.1, hin'.2]
    cases ho : R.on d with
    | true =>
      simp only [RA.replace, Raw.replace, hin, hf, hs, ho, ne_eq, not_true_eq_false, if_false, and_self, if_true]
      exact ⟨trivial, h⟩
    | false =>
      simp only [RA.replace, Raw.replace, hin, hf, hs, ho, ne_eq, not_true_eq_false, if_false, Bool.false_eq_true, and_self, if_true]
      have hL : ∀ l ∈ R.L, l.d ≠ d.toNat := fun l hl e => by
        obtain ⟨xs, hx⟩ := (h.ok.L l hl).on
        rw [e] at hx
        have h1 : R.on d = true := by
          unfold Raw.on
          rw [decide_eq_true hin'.1, decide_eq_true hin'.2]
          simp [List.getD, hx]
        rw [ho] at h1
        cases h1
      refine ⟨trivial, ⟨h.ok.blank _, h.n, h.left, h.dark, h.L, ?_, ?_⟩⟩
      · show A.D.set d.toNat (some (List.replicate A.n (zs 64))) = secsD R.n (undoTo (R.C.set d.toNat (some (zs (R.n * 64)))) R.L 0)
        rw [undo_set _ hL, secsD_set, h.D, h.n, ← secs_zs]
        rfl
      · show AM.redo (undoTo (R.C.set d.toNat (some (zs (R.n * 64)))) R.L 0) R.L = R.C.set d.toNat _
        rw [undo_set _ hL, redo_set _ hL, h.redo]
  · have hin : ¬ (0 ≤ d ∧ d < (A.D.length : Int)) := fun c => hf ((h.find d).1 c)
    have h6 : R.find d = 6 := by unfold Raw.find at hf ⊢; split at hf <;> simp_all
    simp only [RA.replace, Raw.replace, hin, h6, ne_eq, if_false]
    exact ⟨rfl, h⟩
theorem sim_new {d n : Nat} (h1 : 1 ≤ d) (h2 : d ≤ 255) (h3 : 1 ≤ n) (h4 : n ≤ 4096) : Sim (Raw.new d n) (RA.new d n) := by
  refine ⟨Raw.Ok.new h1 h2 h3 h4, rfl, rfl, rfl, rfl, ?_, rfl⟩
  show List.replicate d (some (List.replicate n (zs 64))) = secsD n (List.replicate d (some (zs (n * 64))))
  simp [secsD, secs_zs]
theorem look_redo {n : Nat} : ∀ {L : List Wr} {C : List Disk}, OkC n C → (∀ l ∈ L, OkW n C l) → ∀ {d k : Nat} {xs : List Nat}, C[d]? = some (some xs) → k < n → look (redo C L) d k = RA.last (L.map flOf) d k (sec xs k) := by
  intro L
  induction L with
  | nil => intro C _ _ d k xs hx _; exact look_at k hx
  | cons l r ih =>
    intro C hC hL d k xs hx hk
    have hl := hL l (List.mem_cons_self ..)
    have hC' := hC.lay (d := l.d) hl.k hl.now hl.nowS
    have hL' : ∀ y ∈ r, OkW n (lay C l.d l.k l.now) y := fun y hy => (hL y (List.mem_cons_of_mem _ hy)).lay _ _ _
    obtain ⟨hxl, _⟩ := hC d xs hx
    have hf := fits hk
    have hfl := fits hl.k
    show look (redo (lay C l.d l.k l.now) r) d k = RA.last (r.map flOf) d k (if l.d = d ∧ l.k = k then l.now else sec xs k)
    by_cases c : l.d = d
    · have hx' : (lay C l.d l.k l.now)[d]? = some (some (put xs l.k l.now)) := by rw [← c] at hx ⊢; exact lay_at _ _ hx
      rw [ih hC' hL' hx' hk]
      congr 1
      by_cases c2 : l.k = k
      · rw [if_pos ⟨c, c2⟩, ← c2, sec_put_same hl.now (by omega)]
      · rw [if_neg (fun h => c2 h.2), sec_put_ne hl.now (by omega) (Ne.symm c2)]
    · have hx' : (lay C l.d l.k l.now)[d]? = some (some xs) := by rw [lay_ne _ _ (Ne.symm c)]; exact hx
      rw [ih hC' hL' hx' hk, if_neg (fun h => c h.1)]
theorem Sim.read {R : Raw} {A : RA} (h : Sim R A) (d k : Int) : A.read d k = (if R.reach d k = 0 then look R.C d.toNat k.toNat else []) := by
  unfold RA.read
  rw [h.why]
  by_cases hr : R.reach d k = 0
  · rw [if_pos hr, if_pos hr]
    obtain ⟨_, _, _, hk0, hk, xs, hx⟩ := reach_zero hr
    obtain ⟨u1, u2⟩ := h.ok.C.undo h.ok.L 0
    have hs : ((undoTo R.C R.L 0).getD d.toNat none).isSome = true := by rw [undo_on]; simp [List.getD, hx]
    obtain ⟨ys, hy⟩ : ∃ ys, (undoTo R.C R.L 0)[d.toNat]? = some (some ys) := by
      simp only [List.getD] at hs
      cases hq : (undoTo R.C R.L 0)[d.toNat]? with
      | none => simp [hq] at hs
      | some o => cases o with
        | none => simp [hq] at hs
        | some ys => exact ⟨ys, rfl⟩
    have hkn : k.toNat < R.n := by omega
    have e : ((A.D.getD d.toNat none).getD []).getD k.toNat [] = sec ys k.toNat := by
      rw [h.D]
      simp only [List.getD, secsD_get, hy]
      simp [secs_get hkn]
    rw [e, h.L, ← look_redo u1 u2 hy hkn, h.redo]
  · rw [if_neg hr, if_neg hr]
theorem Sim.ons {R : Raw} {A : RA} (h : Sim R A) : A.ons = R.ons := by
  have key : ∀ (D : List (Option (List (List Nat)))) (C : List Disk), D.length = C.length → (∀ e, (D.getD e none).isSome = (C.getD e none).isSome) → D.countP (·.isSome) = C.countP (·.isSome) := by
    intro D
    induction D with
    | nil => intro C hl _; cases C with
      | nil => rfl
      | cons _ _ => simp at hl
    | cons x r ih =>
      intro C hl he
      cases C with
      | nil => simp at hl
      | cons y s =>
        have h0 := he 0
        simp at h0
        have hr := ih s (by simpa using hl) (fun e => by have := he (e + 1); simpa using this)
        simp only [List.countP_cons, hr, h0]
  exact key _ _ h.len h.isSome
end AM
end Go.Proofs.Ytfmlohedebdomaa
