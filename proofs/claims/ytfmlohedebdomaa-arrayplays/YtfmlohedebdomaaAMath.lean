/- Plain facts on arrays of disks: sectors in a disk's bytes, writes in flight, what is undone, what lasts. No text of the program is named. -/
import Init
set_option linter.unusedSimpArgs false
set_option linter.unusedVariables false
namespace Go.Proofs.Ytfmlohedebdomaa
namespace AM

theorem ext_getD {xs ys : List Nat} (hl : xs.length = ys.length) (h : ∀ i, i < xs.length → xs.getD i 0 = ys.getD i 0) : xs = ys := by
  apply List.ext_getElem hl
  intro i h1 h2
  have := h i h1
  simpa [List.getD, h1, h2] using this

/-- The bytes b in the place of the sector k. -/
def put (xs : List Nat) (k : Nat) (b : List Nat) : List Nat := xs.take (k * 64) ++ b ++ xs.drop (k * 64 + b.length)
/-- The sector k. -/
def sec (xs : List Nat) (k : Nat) : List Nat := (xs.drop (k * 64)).take 64

theorem put_len {xs b : List Nat} {k : Nat} (h : k * 64 + b.length ≤ xs.length) : (put xs k b).length = xs.length := by
  simp [put]; omega
theorem sec_len {xs : List Nat} {k : Nat} (h : k * 64 + 64 ≤ xs.length) : (sec xs k).length = 64 := by
  simp [sec]; omega
theorem put_get {xs b : List Nat} {k : Nat} (h : k * 64 + b.length ≤ xs.length) (i : Nat) : (put xs k b)[i]? = if k * 64 ≤ i ∧ i < k * 64 + b.length then b[i - k * 64]? else xs[i]? := by
  unfold put
  have l1 : (xs.take (k * 64)).length = k * 64 := by simp; omega
  by_cases h1 : i < k * 64
  · rw [if_neg (by omega), List.append_assoc, List.getElem?_append_left (by omega), List.getElem?_take, if_pos h1]
  · rw [List.append_assoc, List.getElem?_append_right (by omega), l1]
    by_cases h2 : i < k * 64 + b.length
    · rw [if_pos ⟨by omega, h2⟩, List.getElem?_append_left (by omega)]
    · rw [if_neg (by omega), List.getElem?_append_right (by omega), List.getElem?_drop]
      congr 1
      omega
theorem sec_get (xs : List Nat) (k i : Nat) : (sec xs k)[i]? = if i < 64 then xs[k * 64 + i]? else none := by
  unfold sec
  rw [List.getElem?_take]
  split
  · rw [List.getElem?_drop]
  · rfl
theorem sec_put_same {xs b : List Nat} {k : Nat} (hb : b.length = 64) (h : k * 64 + 64 ≤ xs.length) : sec (put xs k b) k = b := by
  apply List.ext_getElem?
  intro i
  rw [sec_get, put_get (by omega)]
  split
  · rw [if_pos (by omega)]
    congr 1
    omega
  · rw [List.getElem?_eq_none (by omega)]
theorem sec_put_ne {xs b : List Nat} {k j : Nat} (hb : b.length = 64) (h : k * 64 + 64 ≤ xs.length) (ne : j ≠ k) : sec (put xs k b) j = sec xs j := by
  apply List.ext_getElem?
  intro i
  rw [sec_get, sec_get, put_get (by omega)]
  split
  · rw [if_neg (by omega)]
  · rfl
theorem put_put_sec {xs b : List Nat} {k : Nat} (hb : b.length = 64) (h : k * 64 + 64 ≤ xs.length) : put (put xs k b) k (sec xs k) = xs := by
  have hs := sec_len h
  apply List.ext_getElem?
  intro i
  rw [put_get (by rw [hs, put_len (by omega)]; exact h), put_get (by omega), hs]
  split
  · rename_i c
    rw [sec_get, if_pos (by omega)]
    congr 1
    omega
  · rename_i c
    rw [if_neg (by omega)]
theorem put_small {xs b : List Nat} {k : Nat} (hx : ∀ x ∈ xs, x < 256) (hb : ∀ x ∈ b, x < 256) : ∀ x ∈ put xs k b, x < 256 := by
  intro x h
  simp only [put, List.mem_append] at h
  rcases h with (h | h) | h
  · exact hx x (List.mem_of_mem_take h)
  · exact hb x h
  · exact hx x (List.mem_of_mem_drop h)
theorem sec_small {xs : List Nat} (hx : ∀ x ∈ xs, x < 256) (k : Nat) : ∀ x ∈ sec xs k, x < 256 :=
  fun x h => hx x (List.mem_of_mem_drop (List.mem_of_mem_take h))

def zs (n : Nat) : List Nat := List.replicate n 0
theorem zs_len (n : Nat) : (zs n).length = n := by simp [zs]
theorem zs_small (n : Nat) : ∀ x ∈ zs n, x < 256 := fun x h => by rw [(List.mem_replicate.1 h).2]; decide
theorem fits0 {n k : Nat} (h : k < n) : k * 64 + 64 ≤ n * 64 := by
  have : (k + 1) * 64 ≤ n * 64 := Nat.mul_le_mul_right _ h
  omega
theorem sec_zs {n k : Nat} (h : k < n) : sec (zs (n * 64)) k = zs 64 := by
  have := fits0 h
  simp only [sec, zs, List.drop_replicate, List.take_replicate]
  congr 1
  omega

/-- A write in flight: what was there, what is. -/
structure Wr where
  d : Nat
  k : Nat
  was : List Nat
  now : List Nat

abbrev Disk := Option (List Nat)

/-- A disk's sector k gets the bytes b. -/
def lay (C : List Disk) (d k : Nat) (b : List Nat) : List Disk := C.set d ((C.getD d none).map (fun xs => put xs k b))
def look (C : List Disk) (d k : Nat) : List Nat := ((C.getD d none).map (fun xs => sec xs k)).getD []

theorem lay_len (C : List Disk) (d k : Nat) (b : List Nat) : (lay C d k b).length = C.length := by simp [lay]
theorem lay_at {C : List Disk} {d : Nat} (k : Nat) (b : List Nat) {xs : List Nat} (h : C[d]? = some (some xs)) : (lay C d k b)[d]? = some (some (put xs k b)) := by
  have hlt : d < C.length := (List.getElem?_eq_some_iff.1 h).1
  simp only [lay, List.getElem?_set, if_pos hlt, List.getD, h]
  simp
theorem lay_ne {C : List Disk} {d e : Nat} (k : Nat) (b : List Nat) (h : e ≠ d) : (lay C d k b)[e]? = C[e]? := by
  simp [lay, Ne.symm h]
theorem lay_on (C : List Disk) (d k : Nat) (b : List Nat) (e : Nat) : ((lay C d k b).getD e none).isSome = (C.getD e none).isSome := by
  by_cases h : e = d
  · subst h
    by_cases hlt : e < C.length
    · simp [lay, List.getD, hlt]
    · simp [lay, List.getD, hlt]
  · simp only [List.getD, lay_ne k b h]
theorem look_at {C : List Disk} {d : Nat} (k : Nat) {xs : List Nat} (h : C[d]? = some (some xs)) : look C d k = sec xs k := by simp [look, List.getD, h]

/-- All that is said of disks of n sectors. -/
def OkC (n : Nat) (C : List Disk) : Prop := ∀ (d : Nat) (xs : List Nat), C[d]? = some (some xs) → xs.length = n * 64 ∧ ∀ x ∈ xs, x < 256
/-- A write that may be. -/
structure OkW (n : Nat) (C : List Disk) (l : Wr) : Prop where
  on : ∃ xs, C[l.d]? = some (some xs)
  k : l.k < n
  was : l.was.length = 64
  now : l.now.length = 64
  wasS : ∀ x ∈ l.was, x < 256
  nowS : ∀ x ∈ l.now, x < 256

theorem fits {n k : Nat} (h : k < n) : k * 64 + 64 ≤ n * 64 := by
  have : (k + 1) * 64 ≤ n * 64 := Nat.mul_le_mul_right _ h
  omega

theorem OkC.lay {n : Nat} {C : List Disk} (h : OkC n C) {d k : Nat} {b : List Nat} (hk : k < n) (hb : b.length = 64) (hs : ∀ x ∈ b, x < 256) : OkC n (AM.lay C d k b) := by
  intro e xs he
  by_cases c : e = d
  · subst c
    have hlt : e < C.length := by
      have := (List.getElem?_eq_some_iff.1 he).1
      rwa [lay_len] at this
    cases hq : C[e] with
    | none => simp [AM.lay, List.getD, hlt, hq] at he
    | some ys =>
      have hq' : C[e]? = some (some ys) := by rw [List.getElem?_eq_getElem hlt, hq]
      rw [lay_at k b hq'] at he
      obtain ⟨h1, h2⟩ := h e ys hq'
      have hf := fits hk
      injection he with he
      injection he with he
      subst he
      exact ⟨by rw [put_len (by omega)]; exact h1, put_small h2 hs⟩
  · rw [lay_ne k b c] at he
    exact h e xs he
theorem on_lay {C : List Disk} {d k : Nat} {b : List Nat} {e : Nat} (h : ∃ xs, C[e]? = some (some xs)) : ∃ xs, (lay C d k b)[e]? = some (some xs) := by
  obtain ⟨xs, h⟩ := h
  by_cases c : e = d
  · subst c; exact ⟨_, lay_at k b h⟩
  · exact ⟨xs, by rw [lay_ne k b c]; exact h⟩

/-- What the program keeps: the disks as a Read tells them, how many sectors, what is in flight, the fuse, the power. -/
structure Raw where
  C : List Disk
  n : Nat
  L : List Wr
  fuse : Nat
  off : Bool

structure Raw.Ok (R : Raw) : Prop where
  d1 : 1 ≤ R.C.length
  d2 : R.C.length ≤ 255
  n1 : 1 ≤ R.n
  n2 : R.n ≤ 4096
  C : OkC R.n R.C
  L : ∀ l ∈ R.L, OkW R.n R.C l
  fuse : R.fuse < 9223372036854775808

/-- Put back from the last one on, down to the one of the number j. -/
def undoTo (C : List Disk) (L : List Wr) (j : Nat) : List Disk := (L.drop j).foldr (fun l D => lay D l.d l.k l.was) C
theorem undoTo_len (C : List Disk) (L : List Wr) (j : Nat) : (undoTo C L j).length = C.length := by
  unfold undoTo
  induction L.drop j with
  | nil => rfl
  | cons l r ih => simp [List.foldr, lay_len, ih]
theorem undoTo_end (C : List Disk) (L : List Wr) : undoTo C L L.length = C := by simp [undoTo]
theorem undoTo_step (C : List Disk) (L : List Wr) {j : Nat} (h : j < L.length) : undoTo C L j = lay (undoTo C L (j + 1)) L[j].d L[j].k L[j].was := by
  unfold undoTo
  rw [List.drop_eq_getElem_cons h]
  rfl

/-- What of the writes lasts: those whose pick is odd. -/
def pickD (D : List Disk) (x : Wr × Nat) : List Disk := if x.2 % 2 = 1 then lay D x.1.d x.1.k x.1.now else D
def pickTo (C : List Disk) (L : List Wr) (ps : List Nat) (j : Nat) : List Disk := ((L.zip ps).take j).foldl pickD C
theorem pickTo_zero (C : List Disk) (L : List Wr) (ps : List Nat) : pickTo C L ps 0 = C := rfl
theorem pickTo_step (C : List Disk) (L : List Wr) (ps : List Nat) {j : Nat} (h1 : j < L.length) (h2 : j < ps.length) : pickTo C L ps (j + 1) = pickD (pickTo C L ps j) (L[j], ps[j]) := by
  unfold pickTo
  have h : j < (L.zip ps).length := by simp; omega
  rw [List.take_succ_eq_append_getElem h, List.foldl_append]
  simp
theorem pickD_len (D : List Disk) (x : Wr × Nat) : (pickD D x).length = D.length := by
  unfold pickD; split
  · rw [lay_len]
  · rfl
def crashC (C : List Disk) (L : List Wr) (ps : List Nat) : List Disk := (L.zip ps).foldl pickD (undoTo C L 0)
theorem pickTo_all (C : List Disk) (L : List Wr) (ps : List Nat) : pickTo C L ps (min ps.length L.length) = (L.zip ps).foldl pickD C := by
  unfold pickTo
  rw [List.take_of_length_le (by simp; omega)]

namespace Raw
def lay (R : Raw) (d k : Nat) (b : List Nat) : Raw := { R with C := AM.lay R.C d k b }
def on (R : Raw) (d : Int) : Bool := decide (0 ≤ d) && decide (d < R.C.length) && (R.C.getD d.toNat none).isSome
def ons (R : Raw) : Nat := R.C.countP (·.isSome)
def power (R : Raw) : Nat := if R.off then 8 else 0
def find (R : Raw) (d : Int) : Nat := if 0 ≤ d ∧ d < R.C.length then 0 else 6
def reach (R : Raw) (d k : Int) : Nat :=
  if R.off then 8 else if 0 ≤ d ∧ d < R.C.length ∧ 0 ≤ k ∧ k < R.n then (if R.on d then 0 else 9) else 6
def burns (R : Raw) : Bool := R.fuse == 1
def burnt (R : Raw) : Raw := if R.fuse = 0 then R else { R with fuse := R.fuse - 1, off := R.fuse == 1 }
def fly (R : Raw) (d k : Nat) (b : List Nat) : Raw := { R with C := AM.lay R.C d k b, L := R.L ++ [⟨d, k, look R.C d k, b⟩] }
def writes (R : Raw) (d k : Int) (b : List Nat) : Nat × Raw :=
  if R.reach d k ≠ 0 then (R.reach d k, R) else if b.length ≠ 64 then (1, R) else if R.burns then (8, R.burnt) else (0, R.burnt.fly d.toNat k.toNat b)
def barrier (R : Raw) : Nat × Raw := if R.off then (8, R) else if R.burns then (8, R.burnt) else (0, { R.burnt with L := [] })
def lost (R : Raw) (d : Nat) : Raw := { R with C := R.C.set d none, L := R.L.filter (fun l => !(l.d == d)) }
def lose (R : Raw) (d : Int) : Nat × Raw := if R.find d ≠ 0 then (R.find d, R) else if R.on d then (0, R.lost d.toNat) else (9, R)
def blank (R : Raw) (d : Nat) : Raw := { R with C := R.C.set d (some (zs (R.n * 64))) }
def replace (R : Raw) (d : Int) : Nat × Raw := if R.find d ≠ 0 then (R.find d, R) else if R.on d then (1, R) else (0, R.blank d.toNat)
def fused (R : Raw) (n : Int) : Raw := { R with fuse := n.toNat }
def crash (R : Raw) (ps : List Nat) : Raw := ⟨crashC R.C R.L ps, R.n, [], 0, false⟩
def new (d n : Nat) : Raw := ⟨List.replicate d (some (zs (n * 64))), n, [], 0, false⟩
end Raw

theorem on_iff {R : Raw} {d : Int} (h : R.on d = true) : 0 ≤ d ∧ d < R.C.length ∧ ∃ xs, R.C[d.toNat]? = some (some xs) := by
  simp only [Raw.on, Bool.and_eq_true, decide_eq_true_eq] at h
  obtain ⟨⟨h1, h2⟩, h3⟩ := h
  refine ⟨h1, h2, ?_⟩
  have hlt : d.toNat < R.C.length := by omega
  simp only [List.getD, List.getElem?_eq_getElem hlt, Option.getD_some] at h3
  cases hq : R.C[d.toNat] with
  | none => simp [hq] at h3
  | some xs => exact ⟨xs, by rw [List.getElem?_eq_getElem hlt, hq]⟩
theorem reach_zero {R : Raw} {d k : Int} (h : R.reach d k = 0) : R.off = false ∧ 0 ≤ d ∧ d < R.C.length ∧ 0 ≤ k ∧ k < R.n ∧ ∃ xs, R.C[d.toNat]? = some (some xs) := by
  unfold Raw.reach at h
  cases ho : R.off with
  | true => rw [ho] at h; simp at h
  | false =>
    rw [ho] at h
    simp only [Bool.false_eq_true, if_false] at h
    by_cases c : 0 ≤ d ∧ d < R.C.length ∧ 0 ≤ k ∧ k < R.n
    · rw [if_pos c] at h
      by_cases c2 : R.on d = true
      · exact ⟨rfl, c.1, c.2.1, c.2.2.1, c.2.2.2, (on_iff c2).2.2⟩
      · rw [if_neg c2] at h; simp at h
    · rw [if_neg c] at h; simp at h

theorem OkW.lay {n : Nat} {C : List Disk} {l : Wr} (h : OkW n C l) (d k : Nat) (b : List Nat) : OkW n (AM.lay C d k b) l := ⟨on_lay h.on, h.k, h.was, h.now, h.wasS, h.nowS⟩
theorem look_ok {n : Nat} {C : List Disk} (hC : OkC n C) {d k : Nat} (hd : ∃ xs, C[d]? = some (some xs)) (hk : k < n) : (look C d k).length = 64 ∧ ∀ x ∈ look C d k, x < 256 := by
  obtain ⟨xs, hd⟩ := hd
  obtain ⟨h1, h2⟩ := hC d xs hd
  have hf := fits hk
  rw [look_at k hd]
  exact ⟨sec_len (by omega), sec_small h2 k⟩

theorem Raw.Ok.lay {R : Raw} (h : R.Ok) {d k : Nat} {b : List Nat} (hk : k < R.n) (hb : b.length = 64) (hs : ∀ x ∈ b, x < 256) : (R.lay d k b).Ok :=
  ⟨by simpa [Raw.lay, lay_len] using h.d1, by simpa [Raw.lay, lay_len] using h.d2, h.n1, h.n2, h.C.lay hk hb hs, fun l hl => (h.L l hl).lay d k b, h.fuse⟩
theorem Raw.Ok.burnt {R : Raw} (h : R.Ok) : R.burnt.Ok := by
  unfold Raw.burnt
  split
  · exact h
  · exact ⟨h.d1, h.d2, h.n1, h.n2, h.C, h.L, by have := h.fuse; show R.fuse - 1 < _; omega⟩
theorem Raw.Ok.fly {R : Raw} (h : R.Ok) {d k : Nat} {b : List Nat} (hd : ∃ xs, R.C[d]? = some (some xs)) (hk : k < R.n) (hb : b.length = 64) (hs : ∀ x ∈ b, x < 256) : (R.fly d k b).Ok := by
  have h1 := h.lay (d := d) hk hb hs
  refine ⟨h1.d1, h1.d2, h1.n1, h1.n2, h1.C, fun l hl => ?_, h1.fuse⟩
  rcases List.mem_append.1 hl with hl | hl
  · exact h1.L l hl
  · obtain rfl := List.mem_singleton.1 hl
    have h2 := look_ok h.C hd hk
    exact ⟨on_lay hd, hk, h2.1, hb, h2.2, hs⟩
theorem set_none_at {C : List Disk} {d e : Nat} {xs : List Nat} (h : (C.set d none)[e]? = some (some xs)) : e ≠ d ∧ C[e]? = some (some xs) := by
  by_cases c : d = e
  · subst c
    rw [List.getElem?_set] at h
    simp at h
  · rw [List.getElem?_set, if_neg c] at h
    exact ⟨Ne.symm c, h⟩
theorem Raw.Ok.lost {R : Raw} (h : R.Ok) (d : Nat) : (R.lost d).Ok := by
  refine ⟨by simpa [Raw.lost] using h.d1, by simpa [Raw.lost] using h.d2, h.n1, h.n2, fun e xs he => h.C e xs (set_none_at he).2, fun l hl => ?_, h.fuse⟩
  obtain ⟨h1, h2⟩ := List.mem_filter.1 hl
  have h3 := h.L l h1
  obtain ⟨xs, hx⟩ := h3.on
  have hne : l.d ≠ d := by simpa using h2
  exact ⟨⟨xs, by show (R.C.set d none)[l.d]? = _; rw [List.getElem?_set, if_neg (Ne.symm hne)]; exact hx⟩, h3.k, h3.was, h3.now, h3.wasS, h3.nowS⟩
theorem Raw.Ok.blank {R : Raw} (h : R.Ok) (d : Nat) : (R.blank d).Ok := by
  have hz : ∀ (e : Nat) (xs : List Nat), (R.blank d).C[e]? = some (some xs) → xs = zs (R.n * 64) ∨ R.C[e]? = some (some xs) := fun e xs he => by
    have he : (R.C.set d (some (zs (R.n * 64))))[e]? = some (some xs) := he
    by_cases c : d = e
    · subst c
      rw [List.getElem?_set] at he
      by_cases hl : d < R.C.length
      · simp only [if_pos hl, if_true] at he
        injection he with he
        injection he with he
        exact .inl he.symm
      · rw [if_pos rfl, if_neg hl] at he
        cases he
    · rw [List.getElem?_set, if_neg c] at he
      exact .inr he
  refine ⟨by simpa [Raw.blank] using h.d1, by simpa [Raw.blank] using h.d2, h.n1, h.n2, fun e xs he => ?_, fun l hl => ?_, h.fuse⟩
  · rcases hz e xs he with rfl | h1
    · exact ⟨zs_len _, zs_small _⟩
    · exact h.C e xs h1
  · have h3 := h.L l hl
    obtain ⟨xs, hx⟩ := h3.on
    refine ⟨?_, h3.k, h3.was, h3.now, h3.wasS, h3.nowS⟩
    by_cases c : d = l.d
    · refine ⟨zs (R.n * 64), ?_⟩
      have hlt : d < R.C.length := by rw [c]; exact (List.getElem?_eq_some_iff.1 hx).1
      show (R.C.set d (some (zs (R.n * 64))))[l.d]? = _
      rw [List.getElem?_set, if_pos c, if_pos hlt]
    · exact ⟨xs, by show (R.C.set d (some (zs (R.n * 64))))[l.d]? = _; rw [List.getElem?_set, if_neg c]; exact hx⟩
theorem OkC.undo {n : Nat} {C : List Disk} (h : OkC n C) {L : List Wr} (hL : ∀ l ∈ L, OkW n C l) (j : Nat) : OkC n (undoTo C L j) ∧ ∀ l ∈ L, OkW n (undoTo C L j) l := by
  unfold undoTo
  have hs : ∀ l ∈ L.drop j, OkW n C l := fun l hl => hL l (List.mem_of_mem_drop hl)
  generalize L.drop j = Z at hs
  induction Z with
  | nil => exact ⟨h, hL⟩
  | cons l r ih =>
    obtain ⟨h1, h2⟩ := ih (fun x hx => hs x (List.mem_cons_of_mem _ hx))
    have hl := hs l (List.mem_cons_self ..)
    exact ⟨h1.lay hl.k hl.was hl.wasS, fun x hx => (h2 x hx).lay _ _ _⟩
theorem OkC.pick {n : Nat} {L : List Wr} (ps : List Nat) (j : Nat) {C : List Disk} (h : OkC n C) (hL : ∀ l ∈ L, OkW n C l) : OkC n (pickTo C L ps j) ∧ ∀ l ∈ L, OkW n (pickTo C L ps j) l := by
  unfold pickTo
  have hs : ∀ x ∈ (L.zip ps).take j, OkW n C x.1 := fun x hx => hL _ (List.of_mem_zip (List.mem_of_mem_take hx)).1
  generalize (L.zip ps).take j = Z at hs
  induction Z generalizing C with
  | nil => exact ⟨h, hL⟩
  | cons x r ih =>
    have hx := hs x (List.mem_cons_self ..)
    simp only [List.foldl]
    unfold pickD
    split
    · exact ih (h.lay hx.k hx.now hx.nowS) (fun l hl => (hL l hl).lay _ _ _) (fun y hy => (hs y (List.mem_cons_of_mem _ hy)).lay _ _ _)
    · exact ih h hL (fun y hy => hs y (List.mem_cons_of_mem _ hy))
theorem pickTo_len (C : List Disk) (L : List Wr) (ps : List Nat) (j : Nat) : (pickTo C L ps j).length = C.length := by
  unfold pickTo
  generalize (L.zip ps).take j = Z
  induction Z generalizing C with
  | nil => rfl
  | cons x r ih => simp only [List.foldl]; rw [ih, pickD_len]
theorem crash_pick (R : Raw) (ps : List Nat) : (R.crash ps).C = pickTo (undoTo R.C R.L 0) R.L ps (min ps.length R.L.length) := by
  rw [pickTo_all]; rfl
theorem Raw.Ok.crash {R : Raw} (h : R.Ok) (ps : List Nat) : (R.crash ps).Ok := by
  obtain ⟨h1, h2⟩ := h.C.undo h.L 0
  have h3 := h1.pick ps (min ps.length R.L.length) h2
  rw [← crash_pick] at h3
  have hl : (R.crash ps).C.length = R.C.length := by rw [crash_pick, pickTo_len, undoTo_len]
  exact ⟨by rw [hl]; exact h.d1, by rw [hl]; exact h.d2, h.n1, h.n2, h3.1, fun l hl => by simp [Raw.crash] at hl, by simp [Raw.crash]⟩
theorem Raw.Ok.new {d n : Nat} (h1 : 1 ≤ d) (h2 : d ≤ 255) (h3 : 1 ≤ n) (h4 : n ≤ 4096) : (Raw.new d n).Ok := by
  refine ⟨by simpa [Raw.new] using h1, by simpa [Raw.new] using h2, h3, h4, fun e xs he => ?_, fun l hl => by simp [Raw.new] at hl, by simp [Raw.new]⟩
  have he : (List.replicate d (some (zs (n * 64))))[e]? = some (some xs) := he
  have hm := List.mem_of_getElem? he
  have := (List.mem_replicate.1 hm).2
  injection this with this
  subst this
  exact ⟨zs_len _, zs_small _⟩
end AM
end Go.Proofs.Ytfmlohedebdomaa
