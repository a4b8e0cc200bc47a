/- An array of disks in memory: what lies where (Lies, Is), what a call may change (Upd, Step). -/
import Derived.Test.YtfmlohedebdomaaRow5
import Derived.Test.YtfmlohedebdomaaAMath
import Derived.Deep.MidRow
set_option linter.unusedSimpArgs false
set_option linter.unusedVariables false
namespace Go.Proofs.Ytfmlohedebdomaa
open Go.RowKit

/-- The cells of a write in flight. -/
def wcells (l : AM.Wr) : List Value := .int .i64 (l.d : Int) :: .int .i64 (l.k : Int) :: (l.was.map bv ++ l.now.map bv)
theorem wcells_len {l : AM.Wr} (h1 : l.was.length = 64) (h2 : l.now.length = 64) : (wcells l).length = 130 := by simp [wcells, h1, h2]
def wrow (L : List AM.Wr) : List Value := L.flatMap wcells

/-- Nothing but blocks in F, and new ones, may be other than they were. -/
structure Upd (F : Nat → Prop) (w w' : World) : Prop where
  os : w'.os = w.os
  tape : w'.tape = w.tape
  output : w'.output = w.output
  size : w.heap.size ≤ w'.heap.size
  block : ∀ i, i < w.heap.size → ¬ F i → w'.heap[i]? = w.heap[i]?

theorem Upd.refl (F : Nat → Prop) (w : World) : Upd F w w := ⟨rfl, rfl, rfl, Nat.le_refl _, fun _ _ _ => rfl⟩
theorem Upd.of {F : Nat → Prop} {w w' : World} {row : Option Nat} (g : w.grownBy w' row) (h : ∀ i, row = some i → F i) : Upd F w w' :=
  ⟨g.os, g.tape, g.output, g.size, fun i hi hn => g.block i hi (fun e => hn (h i e.symm))⟩
theorem Upd.trans {F F' : Nat → Prop} {w w' w'' : World} (h : Upd F w w') (k : Upd F' w' w'') (hF : ∀ i, F' i → F i ∨ w.heap.size ≤ i) : Upd F w w'' :=
  ⟨k.os.trans h.os, k.tape.trans h.tape, k.output.trans h.output, Nat.le_trans h.size k.size, fun i hi hn => (k.block i (Nat.lt_of_lt_of_le hi h.size) (fun hf => by
    rcases hF i hf with h1 | h1
    · exact hn h1
    · omega)).trans (h.block i hi hn)⟩
theorem grown_upd {w0 w w' : World} {F : Nat → Prop} (h : w0.grownBy w none) (u : Upd F w w') (hF : ∀ i, F i → w0.heap.size ≤ i) : w0.grownBy w' none :=
  ⟨u.os.trans h.os, u.tape.trans h.tape, u.output.trans h.output, Nat.le_trans h.size u.size, fun i hi _ => (u.block i (Nat.lt_of_lt_of_le hi h.size) (fun hf => by have := hF i hf; omega)).trans (h.block i hi (by simp))⟩

/-- A call that may change what is in F, and has F' of it. -/
structure Step (F : Nat → Prop) (w : World) (F' : Nat → Prop) (w' : World) : Prop where
  upd : Upd F w w'
  sub : ∀ i, F' i → F i ∨ w.heap.size ≤ i

theorem Step.refl (F : Nat → Prop) (w : World) : Step F w F w := ⟨Upd.refl F w, fun _ h => .inl h⟩
theorem Step.trans {F F' F'' : Nat → Prop} {w w' w'' : World} (h : Step F w F' w') (k : Step F' w' F'' w'') : Step F w F'' w'' :=
  ⟨h.upd.trans k.upd h.sub, fun i hi => by
    rcases k.sub i hi with h1 | h1
    · exact h.sub i h1
    · exact .inr (Nat.le_trans h.upd.size h1)⟩
theorem Step.of {F : Nat → Prop} {w w' : World} {row : Option Nat} (g : w.grownBy w' row) (h : ∀ i, row = some i → F i) : Step F w F w' := ⟨Upd.of g h, fun _ h => .inl h⟩
theorem Step.new {F : Nat → Prop} {w w' : World} (g : w.grownBy w' none) : Step F w F w' := Step.of g (by simp)
theorem Step.fresh {F : Nat → Prop} {w W w2 : World} {bk : Nat} (h : Step F w F W) (g : W.grownBy w2 (some bk)) (hb : w.heap.size ≤ bk) : Step F w F w2 :=
  ⟨⟨g.os.trans h.upd.os, g.tape.trans h.upd.tape, g.output.trans h.upd.output, Nat.le_trans h.upd.size g.size, fun i hi hn => (g.block i (Nat.lt_of_lt_of_le hi h.upd.size) (fun e => by have := Option.some.inj e; omega)).trans (h.upd.block i hi hn)⟩, fun _ h => .inl h⟩
/-- What lies apart from F is as it was. -/
theorem Step.other {F F' G : Nat → Prop} {w w' : World} (h : Step F w F' w') (hG : ∀ i, G i → i < w.heap.size) (hs : ∀ i, F i → G i → False) : (∀ i, G i → w'.heap[i]? = w.heap[i]?) ∧ (∀ i, G i → i < w'.heap.size) ∧ ∀ i, F' i → G i → False :=
  ⟨fun i hi => h.upd.block i (hG i hi) (fun hf => hs i hf hi), fun i hi => Nat.lt_of_lt_of_le (hG i hi) h.upd.size, fun i hf hg => by
    rcases h.sub i hf with h1 | h1
    · exact hs i h1 hg
    · have := hG i hg; omega⟩
theorem Step.low {F F' : Nat → Prop} {w0 w w' : World} (h : Step F w F' w') (g : w0.grownBy w none) (hF : ∀ i, F i → w0.heap.size ≤ i) : w0.grownBy w' none ∧ ∀ i, F' i → w0.heap.size ≤ i :=
  ⟨grown_upd g h.upd hF, fun i hi => by
    rcases h.sub i hi with h1 | h1
    · exact hF i h1
    · exact Nat.le_trans g.size h1⟩

theorem ownsRow_same {w w' : World} {B size n : Nat} {e : TypeId} {v : Value} {xs : List Value} (h : w.ownsRow B e size v n xs) (hb : ∀ g, v.ownBlock = some g → w'.heap[g]? = w.heap[g]?) : w'.ownsRow B e size v n xs := by
  refine ⟨h.1, ?_⟩
  rcases h.2 with h | ⟨g, cap, cur, rfl, h1, h2, h3⟩
  · exact .inl h
  · exact .inr ⟨g, cap, cur, rfl, h1, by rw [hb g rfl]; exact h2, h3⟩
theorem ownsRow_down {w : World} {B B' size n : Nat} {e : TypeId} {v : Value} {xs : List Value} (h : w.ownsRow B e size v n xs) (hB : B' ≤ B) : w.ownsRow B' e size v n xs := by
  refine ⟨h.1, ?_⟩
  rcases h.2 with h | ⟨g, cap, cur, rfl, h1, h2, h3⟩
  · exact .inl h
  · exact .inr ⟨g, cap, cur, rfl, by omega, h2, h3⟩

/-- The array at block a: its disks' slice at dg (the drives dv), the slice fp, fc of what is in flight; all in F. -/
structure Lies (F : Nat → Prop) (w : World) (a dg : Nat) (dv : List Value) (fp : Option Addr) (fc : Nat) (R : AM.Raw) : Prop where
  ok : R.Ok
  lt : ∀ i, F i → i < w.heap.size
  top : w.heap[a]? = some (.cells #[.slice (some ⟨dg, 0, none⟩) R.C.length R.C.length, .int .i64 (R.n : Int), .slice fp R.L.length fc, .int .i64 (R.fuse : Int), .bool R.off] 64 (0, 0))
  dsk : w.heap[dg]? = some (.cells dv.toArray 66 (0, 0))
  len : dv.length = R.C.length
  drv : ∀ (i : Nat) (v : Value), dv[i]? = some v → (R.C[i]? = some none ∧ v = .slice none 0 0) ∨ ∃ xs, R.C[i]? = some (some xs) ∧ w.ownsRow 0 77 64 v R.n (xs.map bv)
  fly : w.ownsRow 0 79 130 (.slice fp R.L.length fc) R.L.length (wrow R.L)
  Fa : F a
  Fd : F dg
  Fv : ∀ (i : Nat) (v : Value), dv[i]? = some v → ∀ g, v.ownBlock = some g → F g
  Ff : ∀ g, (Value.slice fp R.L.length fc).ownBlock = some g → F g
  ap : ∀ (i j : Nat) (u v : Value), dv[i]? = some u → dv[j]? = some v → ∀ g, u.ownBlock = some g → v.ownBlock = some g → i = j

def Is (F : Nat → Prop) (w : World) (a : Nat) (R : AM.Raw) : Prop := ∃ dg dv fp fc, Lies F w a dg dv fp fc R

theorem Lies.is {F : Nat → Prop} {w : World} {a dg : Nat} {dv : List Value} {fp : Option Addr} {fc : Nat} {R : AM.Raw} (h : Lies F w a dg dv fp fc R) : Is F w a R := ⟨dg, dv, fp, fc, h⟩
theorem Is.ok {F : Nat → Prop} {w : World} {a : Nat} {R : AM.Raw} (h : Is F w a R) : R.Ok := by obtain ⟨_, _, _, _, h⟩ := h; exact h.ok
theorem Is.lt {F : Nat → Prop} {w : World} {a : Nat} {R : AM.Raw} (h : Is F w a R) : ∀ i, F i → i < w.heap.size := by obtain ⟨_, _, _, _, h⟩ := h; exact h.lt
theorem Is.top {F : Nat → Prop} {w : World} {a : Nat} {R : AM.Raw} (h : Is F w a R) : ∃ dg fp fc, w.heap[a]? = some (.cells #[.slice (some ⟨dg, 0, none⟩) R.C.length R.C.length, .int .i64 (R.n : Int), .slice fp R.L.length fc, .int .i64 (R.fuse : Int), .bool R.off] 64 (0, 0)) := by obtain ⟨dg, _, fp, fc, h⟩ := h; exact ⟨dg, fp, fc, h.top⟩

theorem Lies.same {F : Nat → Prop} {w w' : World} {a dg : Nat} {dv : List Value} {fp : Option Addr} {fc : Nat} {R : AM.Raw} (h : Lies F w a dg dv fp fc R) (hb : ∀ i, F i → w'.heap[i]? = w.heap[i]?) (hl : ∀ i, F i → i < w'.heap.size) : Lies F w' a dg dv fp fc R :=
  ⟨h.ok, hl, by rw [hb a h.Fa]; exact h.top, by rw [hb dg h.Fd]; exact h.dsk, h.len, fun i v hv => by
    rcases h.drv i v hv with h1 | ⟨xs, h1, h2⟩
    · exact .inl h1
    · exact .inr ⟨xs, h1, ownsRow_same h2 (fun g hg => hb g (h.Fv i v hv g hg))⟩,
   ownsRow_same h.fly (fun g hg => hb g (h.Ff g hg)), h.Fa, h.Fd, h.Fv, h.Ff, h.ap⟩
theorem Is.same {F : Nat → Prop} {w w' : World} {a : Nat} {R : AM.Raw} (h : Is F w a R) (hb : ∀ i, F i → w'.heap[i]? = w.heap[i]?) (hl : ∀ i, F i → i < w'.heap.size) : Is F w' a R := by
  obtain ⟨dg, dv, fp, fc, h⟩ := h
  exact (h.same hb hl).is
/-- Only new memory. -/
theorem Is.keep {F : Nat → Prop} {w w' : World} {a : Nat} {R : AM.Raw} (h : Is F w a R) (g : w.grownBy w' none) : Is F w' a R :=
  h.same (fun i hi => g.block i (h.lt i hi) (by simp)) (fun i hi => Nat.lt_of_lt_of_le (h.lt i hi) g.size)
theorem Lies.keep {F : Nat → Prop} {w w' : World} {a dg : Nat} {dv : List Value} {fp : Option Addr} {fc : Nat} {R : AM.Raw} (h : Lies F w a dg dv fp fc R) (g : w.grownBy w' none) : Lies F w' a dg dv fp fc R :=
  h.same (fun i hi => g.block i (h.lt i hi) (by simp)) (fun i hi => Nat.lt_of_lt_of_le (h.lt i hi) g.size)
/-- A block that is no part of it turned. -/
theorem Is.apart {F : Nat → Prop} {w w' : World} {a bk : Nat} {R : AM.Raw} (h : Is F w a R) (g : w.grownBy w' (some bk)) (hb : ¬ F bk) : Is F w' a R :=
  h.same (fun i hi => g.block i (h.lt i hi) (fun e => by obtain rfl := Option.some.inj e; exact hb hi)) (fun i hi => Nat.lt_of_lt_of_le (h.lt i hi) g.size)
/-- Another one's call. -/
theorem Is.other {F F' G : Nat → Prop} {w w' : World} {a : Nat} {R : AM.Raw} (h : Is G w a R) (s : Step F w F' w') (hs : ∀ i, F i → G i → False) : Is G w' a R ∧ ∀ i, F' i → G i → False := by
  obtain ⟨h1, h2, h3⟩ := s.other h.lt hs
  exact ⟨h.same h1 h2, h3⟩

section
variable {F : Nat → Prop} {w : World} {a dg : Nat} {dv : List Value} {fp : Option Addr} {fc : Nat} {R : AM.Raw}

theorem heap_ty {w : World} {i : Nat} {c c' : Array Value} {t t' : TypeId} {f f' : Nat × Nat} (h : w.heap[i]? = some (.cells c t f)) (h' : w.heap[i]? = some (.cells c' t' f')) : t = t' := by
  rw [h] at h'
  injection h' with h'
  injection h' with _ h' _
theorem Lies.a_dg (h : Lies F w a dg dv fp fc R) : a ≠ dg := fun e => by
  have h1 := h.top
  rw [e] at h1
  exact absurd (heap_ty h1 h.dsk) (by decide)
theorem Lies.drvBlock (h : Lies F w a dg dv fp fc R) {i : Nat} {v : Value} (hv : dv[i]? = some v) {g : Nat} (hg : v.ownBlock = some g) : ∃ c, w.heap[g]? = some (.cells c 77 (0, 0)) := by
  rcases h.drv i v hv with ⟨_, rfl⟩ | ⟨xs, _, h2⟩
  · cases hg
  · rcases h2.2 with ⟨rfl, _⟩ | ⟨g', cap, cur, rfl, _, h3, _⟩
    · cases hg
    · obtain rfl : g' = g := Option.some.inj hg
      exact ⟨cur, h3⟩
theorem rowBlock {B e size n : Nat} {v : Value} {xs : List Value} (h : w.ownsRow B e size v n xs) {g : Nat} (hg : v.ownBlock = some g) : ∃ c, w.heap[g]? = some (.cells c e (0, 0)) := by
  rcases h.2 with ⟨rfl, _⟩ | ⟨g', cap, cur, rfl, _, h3, _⟩
  · cases hg
  · obtain rfl : g' = g := Option.some.inj hg
    exact ⟨cur, h3⟩
/-- Two blocks of other types are two. -/
theorem ne_ty {w : World} {i j : Nat} {c c' : Array Value} {t t' : TypeId} {f f' : Nat × Nat} (h : w.heap[i]? = some (.cells c t f)) (h' : w.heap[j]? = some (.cells c' t' f')) (ne : t ≠ t') : i ≠ j := fun e => by
  rw [e] at h
  exact ne (heap_ty h h')

theorem topCell {w : World} {a : Nat} {c : Array Value} {t : TypeId} {j : Nat} (h : w.heap[a]? = some (.cells c t (0, 0))) {v : Value} (hv : c[j]? = some v) : w.cell? ⟨a, j, none⟩ = some v := by
  simp [World.cell?, h, hv]

/-- The block a turned: what stands there now is R' with the flight at fp', fc'; nothing else is other. -/
theorem Lies.turn (h : Lies F w a dg dv fp fc R) {w' : World} (g : w.grownBy w' (some a)) {R' : AM.Raw} (hC : R'.C = R.C) (hn : R'.n = R.n) (hL : R'.L = R.L) (hf : R'.fuse < 9223372036854775808)
    (ht : w'.heap[a]? = some (.cells #[.slice (some ⟨dg, 0, none⟩) R.C.length R.C.length, .int .i64 (R.n : Int), .slice fp R.L.length fc, .int .i64 (R'.fuse : Int), .bool R'.off] 64 (0, 0))) : Lies F w' a dg dv fp fc R' := by
  have hb : ∀ i, F i → i ≠ a → w'.heap[i]? = w.heap[i]? := fun i hi hne => g.block i (h.lt i hi) (fun e => hne (Option.some.inj e))
  have hk := h.ok
  refine ⟨⟨by rw [hC]; exact hk.d1, by rw [hC]; exact hk.d2, by rw [hn]; exact hk.n1, by rw [hn]; exact hk.n2, by rw [hC, hn]; exact hk.C, by rw [hC, hn, hL]; exact hk.L, hf⟩, fun i hi => Nat.lt_of_lt_of_le (h.lt i hi) g.size, ?_, ?_, ?_, ?_, ?_, h.Fa, h.Fd, h.Fv, ?_, h.ap⟩
  · rw [hC, hn, hL]; exact ht
  · rw [hb dg h.Fd (Ne.symm h.a_dg)]; exact h.dsk
  · rw [hC]; exact h.len
  · intro i v hv
    rw [hC, hn]
    rcases h.drv i v hv with h1 | ⟨xs, h1, h2⟩
    · exact .inl h1
    · refine .inr ⟨xs, h1, ownsRow_same h2 (fun g hg => ?_)⟩
      obtain ⟨c, hc⟩ := h.drvBlock hv hg
      exact hb g (h.Fv i v hv g hg) (ne_ty hc h.top (by decide))
  · rw [hL]
    refine ownsRow_same h.fly (fun g hg => ?_)
    obtain ⟨c, hc⟩ := rowBlock h.fly hg
    exact hb g (h.Ff g hg) (ne_ty hc h.top (by decide))
  · rw [hL]; exact h.Ff

/-- Another slice of what is in flight, in its place. -/
theorem Lies.flown (h : Lies F w a dg dv fp fc R) {F' : Nat → Prop} {w1 w' : World} (hF : ∀ i, F i → F' i) (hlt : ∀ i, F' i → i < w1.heap.size) (g1 : w.grownBy w1 (Value.slice fp R.L.length fc).ownBlock) {L' : List AM.Wr} {fp' : Option Addr} {fc' : Nat}
    (hrow : w1.ownsRow 0 79 130 (.slice fp' L'.length fc') L'.length (wrow L')) (hFf : ∀ g, (Value.slice fp' L'.length fc').ownBlock = some g → F' g) (hL : ∀ l ∈ L', AM.OkW R.n R.C l)
    (e : w' = w1.setCell ⟨a, 2, none⟩ (.slice fp' L'.length fc')) : Lies F' w' a dg dv fp' fc' { R with L := L' } := by
  have hb1 : ∀ i, F i → some i ≠ (Value.slice fp R.L.length fc).ownBlock → w1.heap[i]? = w.heap[i]? := fun i hi hne => g1.block i (h.lt i hi) hne
  have hna : ∀ i c, w.heap[i]? = some (.cells c 64 (0, 0)) → some i ≠ (Value.slice fp R.L.length fc).ownBlock := fun i c hi e => by
    obtain ⟨c', hc'⟩ := rowBlock h.fly e.symm
    exact ne_ty hi hc' (by decide) rfl
  have ht1 : w1.heap[a]? = some (.cells #[.slice (some ⟨dg, 0, none⟩) R.C.length R.C.length, .int .i64 (R.n : Int), .slice fp R.L.length fc, .int .i64 (R.fuse : Int), .bool R.off] 64 (0, 0)) := by
    rw [hb1 a h.Fa (hna a _ h.top)]; exact h.top
  have hb2 : ∀ i, i ≠ a → w'.heap[i]? = w1.heap[i]? := fun i hne => by rw [e]; exact Below.heap_setCell _ _ _ _ hne
  have hsz : w'.heap.size = w1.heap.size := by rw [e]; simp
  have hk := h.ok
  refine ⟨⟨hk.d1, hk.d2, hk.n1, hk.n2, hk.C, hL, hk.fuse⟩, fun i hi => by rw [hsz]; exact hlt i hi, ?_, ?_, h.len, ?_, ?_, hF a h.Fa, hF dg h.Fd, fun i v hv g hg => hF g (h.Fv i v hv g hg), hFf, h.ap⟩
  · rw [e, heap_setCell_same _ _ _ _ _ _ ht1]; rfl
  · rw [hb2 dg (Ne.symm h.a_dg), hb1 dg h.Fd (fun e => by
      obtain ⟨c', hc'⟩ := rowBlock h.fly e.symm
      exact ne_ty h.dsk hc' (by decide) rfl)]
    exact h.dsk
  · intro i v hv
    rcases h.drv i v hv with h1 | ⟨xs, h1, h2⟩
    · exact .inl h1
    · refine .inr ⟨xs, h1, ownsRow_same h2 (fun g hg => ?_)⟩
      obtain ⟨c, hc⟩ := h.drvBlock hv hg
      rw [hb2 g (ne_ty hc h.top (by decide)), hb1 g (h.Fv i v hv g hg) (fun e => by
        obtain ⟨c', hc'⟩ := rowBlock h.fly e.symm
        exact ne_ty hc hc' (by decide) rfl)]
  · refine ownsRow_same hrow (fun g hg => hb2 g ?_)
    obtain ⟨c, hc⟩ := rowBlock hrow hg
    exact ne_ty hc ht1 (by decide)

/-- A drive's row turned. -/
theorem Lies.rowed (h : Lies F w a dg dv fp fc R) {w' : World} {d gd : Nat} {v : Value} (hv : dv[d]? = some v) (hg : v.ownBlock = some gd) (g : w.grownBy w' (some gd)) {C' : List AM.Disk} {xs : List Nat} (hC : C' = R.C.set d (some xs)) (hx : xs.length = R.n * 64) (hs : ∀ x ∈ xs, x < 256)
    (hon : ∃ ys, R.C[d]? = some (some ys)) (hrow : w'.ownsRow 0 77 64 v R.n (xs.map bv)) : Lies F w' a dg dv fp fc { R with C := C' } := by
  subst hC
  obtain ⟨c, hc⟩ := h.drvBlock hv hg
  have hb : ∀ i, F i → i ≠ gd → w'.heap[i]? = w.heap[i]? := fun i hi hne => g.block i (h.lt i hi) (fun e => hne (Option.some.inj e))
  have hk := h.ok
  obtain ⟨ys, hy⟩ := hon
  have hlt : d < R.C.length := (List.getElem?_eq_some_iff.1 hy).1
  refine ⟨⟨by simpa using hk.d1, by simpa using hk.d2, hk.n1, hk.n2, fun e zs hz => ?_, fun l hl => ?_, hk.fuse⟩, fun i hi => Nat.lt_of_lt_of_le (h.lt i hi) g.size, ?_, ?_, ?_, ?_, ?_, h.Fa, h.Fd, h.Fv, h.Ff, h.ap⟩
  · by_cases c : d = e
    · subst c
      simp only [List.getElem?_set, if_pos hlt, if_true] at hz
      injection hz with hz
      injection hz with hz
      subst hz
      exact ⟨hx, hs⟩
    · simp only [List.getElem?_set, if_neg c] at hz
      exact hk.C e zs hz
  · have h3 := hk.L l hl
    refine ⟨?_, h3.k, h3.was, h3.now, h3.wasS, h3.nowS⟩
    by_cases c : d = l.d
    · exact ⟨xs, by simp only [List.getElem?_set, if_pos c, ← c, if_pos hlt, if_true]⟩
    · obtain ⟨zs, hz⟩ := h3.on
      exact ⟨zs, by simp only [List.getElem?_set, if_neg c]; exact hz⟩
  · rw [hb a h.Fa (Ne.symm (ne_ty hc h.top (by decide)))]; simpa using h.top
  · rw [hb dg h.Fd (Ne.symm (ne_ty hc h.dsk (by decide)))]; exact h.dsk
  · simpa using h.len
  · intro i u hu
    by_cases c : d = i
    · subst c
      rw [hv] at hu
      obtain rfl := Option.some.inj hu
      exact .inr ⟨xs, by simp only [List.getElem?_set, if_pos hlt, if_true], hrow⟩
    · rcases h.drv i u hu with h1 | ⟨zs, h1, h2⟩
      · exact .inl ⟨by simp only [List.getElem?_set, if_neg c]; exact h1.1, h1.2⟩
      · exact .inr ⟨zs, by simp only [List.getElem?_set, if_neg c]; exact h1, ownsRow_same h2 (fun g hg' => hb g (h.Fv i u hu g hg') (fun e => c (h.ap d i v u hv hu g (by rw [hg, e]) hg')))⟩
  · refine ownsRow_same h.fly (fun g hg => ?_)
    obtain ⟨c', hc'⟩ := rowBlock h.fly hg
    exact hb g (h.Ff g hg) (ne_ty hc' hc (by decide))

/-- Another drive in its place. -/
theorem Lies.drove (h : Lies F w a dg dv fp fc R) {F' : Nat → Prop} {w1 w' : World} (hF : ∀ i, F i → F' i) (hlt : ∀ i, F' i → i < w1.heap.size) (g1 : w.grownBy w1 none) {d : Nat} (hd : d < R.C.length) {v : Value} {D : AM.Disk}
    (hD : (D = none ∧ v = .slice none 0 0) ∨ ∃ xs, D = some xs ∧ w1.ownsRow 0 77 64 v R.n (xs.map bv)) (hfr : ∀ g, v.ownBlock = some g → F' g ∧ ¬ F g) (hok : AM.Raw.Ok { R with C := R.C.set d D })
    (e : w' = w1.setCell ⟨dg, d, none⟩ v) : Lies F' w' a dg (dv.set d v) fp fc { R with C := R.C.set d D } := by
  have hb1 : ∀ i, F i → w1.heap[i]? = w.heap[i]? := fun i hi => g1.block i (h.lt i hi) (by simp)
  have hb2 : ∀ i, i ≠ dg → w'.heap[i]? = w1.heap[i]? := fun i hne => by rw [e]; exact Below.heap_setCell _ _ _ _ hne
  have hd1 : w1.heap[dg]? = some (.cells dv.toArray 66 (0, 0)) := by rw [hb1 dg h.Fd]; exact h.dsk
  have hsz : w'.heap.size = w1.heap.size := by rw [e]; simp
  have hdl : d < dv.length := by rw [h.len]; exact hd
  have hsplit : ∀ (i : Nat) (u : Value), (dv.set d v)[i]? = some u → (i = d ∧ u = v) ∨ (i ≠ d ∧ dv[i]? = some u) := fun i u hu => by
    by_cases c : d = i
    · subst c
      rw [List.getElem?_set, if_pos rfl, if_pos hdl] at hu
      exact .inl ⟨rfl, (Option.some.inj hu).symm⟩
    · rw [List.getElem?_set, if_neg c] at hu
      exact .inr ⟨Ne.symm c, hu⟩
  refine ⟨hok, fun i hi => by rw [hsz]; exact hlt i hi, ?_, ?_, by simpa using h.len, ?_, ?_, hF a h.Fa, hF dg h.Fd, ?_, fun g hg => hF g (h.Ff g hg), ?_⟩
  · rw [hb2 a h.a_dg, hb1 a h.Fa]; simpa using h.top
  · rw [e, heap_setCell_same _ _ _ _ _ _ hd1]; simp
  · intro i u hu
    rcases hsplit i u hu with ⟨rfl, rfl⟩ | ⟨hne, hu⟩
    · rcases hD with ⟨h1, h2⟩ | ⟨xs, h1, h2⟩
      · exact .inl ⟨by simp only [List.getElem?_set, if_pos hd, if_true, h1], h2⟩
      · refine .inr ⟨xs, by simp only [List.getElem?_set, if_pos hd, if_true, h1], ownsRow_same h2 (fun g hg => hb2 g ?_)⟩
        obtain ⟨c, hc⟩ := rowBlock h2 hg
        exact ne_ty hc hd1 (by decide)
    · rcases h.drv i u hu with h1 | ⟨xs, h1, h2⟩
      · exact .inl ⟨by simp only [List.getElem?_set, if_neg (Ne.symm hne)]; exact h1.1, h1.2⟩
      · refine .inr ⟨xs, by simp only [List.getElem?_set, if_neg (Ne.symm hne)]; exact h1, ownsRow_same h2 (fun g hg => ?_)⟩
        obtain ⟨c, hc⟩ := h.drvBlock hu hg
        rw [hb2 g (ne_ty hc h.dsk (by decide)), hb1 g (h.Fv i u hu g hg)]
  · refine ownsRow_same h.fly (fun g hg => ?_)
    obtain ⟨c, hc⟩ := rowBlock h.fly hg
    rw [hb2 g (ne_ty hc h.dsk (by decide)), hb1 g (h.Ff g hg)]
  · intro i u hu g hg
    rcases hsplit i u hu with ⟨rfl, rfl⟩ | ⟨hne, hu⟩
    · exact (hfr g hg).1
    · exact hF g (h.Fv i u hu g hg)
  · intro i j u u' hu hu' g hg hg'
    rcases hsplit i u hu with ⟨rfl, rfl⟩ | ⟨hne, hi⟩
    · rcases hsplit j u' hu' with ⟨rfl, rfl⟩ | ⟨hne', hj⟩
      · rfl
      · exact absurd (h.Fv j u' hj g hg') (hfr g hg).2
    · rcases hsplit j u' hu' with ⟨rfl, rfl⟩ | ⟨hne', hj⟩
      · exact absurd (h.Fv i u hi g hg) (hfr g hg').2
      · exact h.ap i j u u' hi hj g hg hg'
end
end Go.Proofs.Ytfmlohedebdomaa
