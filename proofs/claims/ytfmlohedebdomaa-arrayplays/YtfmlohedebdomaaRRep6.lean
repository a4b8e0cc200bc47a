/- The document's own array of disks in memory (RL, RIs). -/
import Derived.Test.YtfmlohedebdomaaCopy6
set_option linter.unusedSimpArgs false
set_option linter.unusedVariables false
namespace Go.Proofs.Ytfmlohedebdomaa
open Go.RowKit

namespace AM
structure Fl where
  d : Nat
  k : Nat
  b : List Nat
/-- The document's array: disks (none: gone) of sectors, what is in flight, the fuse, the power. -/
structure RA where
  D : List (Option (List (List Nat)))
  n : Nat
  L : List Fl
  left : Nat
  dark : Bool
end AM

/-- The cells of its disks, of its flights. -/
def drow (ds : List Value) (D : List (Option (List (List Nat)))) : List Value := (ds.zip D).flatMap (fun x => [x.1, .bool x.2.isNone])
def frow (fs : List Value) (L : List AM.Fl) : List Value := (fs.zip L).flatMap (fun x => [.int .i64 (x.2.d : Int), .int .i64 (x.2.k : Int), x.1])

structure RL (G : Nat → Prop) (w : World) (r : Nat) (dp : Option Addr) (dc : Nat) (ds : List Value) (lp : Option Addr) (lc : Nat) (fs : List Value) (A : AM.RA) : Prop where
  lt : ∀ i, G i → i < w.heap.size
  top : w.heap[r]? = some (.cells #[.slice dp A.D.length dc, .int .i64 (A.n : Int), .slice lp A.L.length lc, .int .i64 (A.left : Int), .bool A.dark] 70 (0, 0))
  dsk : w.ownsRow 0 73 2 (.slice dp A.D.length dc) A.D.length (drow ds A.D)
  dlen : ds.length = A.D.length
  sec : ∀ (i : Nat) (v : Value), ds[i]? = some v → (A.D[i]? = some none ∧ v = .slice none 0 0) ∨ ∃ (ss : List (List Nat)) (vs : List Value), A.D[i]? = some (some ss) ∧ w.ownsRow 0 32 1 v A.n vs ∧ ss.length = A.n ∧ ∀ (k : Nat) (u : Value) (b : List Nat), vs[k]? = some u → ss[k]? = some b → Own 0 w u b ∧ ∀ g, u.ownBlock = some g → G g
  fly : w.ownsRow 0 84 3 (.slice lp A.L.length lc) A.L.length (frow fs A.L)
  flen : fs.length = A.L.length
  fv : ∀ (i : Nat) (u : Value) (x : AM.Fl), fs[i]? = some u → A.L[i]? = some x → Own 0 w u x.b ∧ ∀ g, u.ownBlock = some g → G g
  Gr : G r
  Gd : ∀ g, (Value.slice dp A.D.length dc).ownBlock = some g → G g
  Gs : ∀ (i : Nat) (v : Value), ds[i]? = some v → ∀ g, v.ownBlock = some g → G g
  Gl : ∀ g, (Value.slice lp A.L.length lc).ownBlock = some g → G g
  ap : ∀ (i j : Nat) (u v : Value), ds[i]? = some u → ds[j]? = some v → ∀ g, u.ownBlock = some g → v.ownBlock = some g → i = j
  left : A.left < 9223372036854775808
  n2 : A.n ≤ 4096
  d2 : A.D.length ≤ 255

def RIs (G : Nat → Prop) (w : World) (r : Nat) (A : AM.RA) : Prop := ∃ dp dc ds lp lc fs, RL G w r dp dc ds lp lc fs A

section
variable {G : Nat → Prop} {w : World} {r : Nat} {dp : Option Addr} {dc : Nat} {ds : List Value} {lp : Option Addr} {lc : Nat} {fs : List Value} {A : AM.RA}
theorem RL.is (h : RL G w r dp dc ds lp lc fs A) : RIs G w r A := ⟨dp, dc, ds, lp, lc, fs, h⟩
theorem Own.same0 {w w' : World} {u : Value} {b : List Nat} (h : Own 0 w u b) (hb : ∀ g, u.ownBlock = some g → w'.heap[g]? = w.heap[g]?) : Own 0 w' u b := ⟨h.small, h.len, ownsRow_same h.row hb⟩

/-- Blocks of other types turned: the parts that are of the types that did not. -/
theorem RL.sec_same (h : RL G w r dp dc ds lp lc fs A) {w' : World} (hS : ∀ g c, G g → w.heap[g]? = some (.cells c 32 (0, 0)) → w'.heap[g]? = w.heap[g]?) (hB : ∀ g c, G g → w.heap[g]? = some (.cells c 5 (0, 0)) → w'.heap[g]? = w.heap[g]?) :
    ∀ (i : Nat) (v : Value), ds[i]? = some v → (A.D[i]? = some none ∧ v = .slice none 0 0) ∨ ∃ (ss : List (List Nat)) (vs : List Value), A.D[i]? = some (some ss) ∧ w'.ownsRow 0 32 1 v A.n vs ∧ ss.length = A.n ∧ ∀ (k : Nat) (u : Value) (b : List Nat), vs[k]? = some u → ss[k]? = some b → Own 0 w' u b ∧ ∀ g, u.ownBlock = some g → G g := fun i v hv => by
  rcases h.sec i v hv with h1 | ⟨ss, vs, h1, h2, h3, h4⟩
  · exact .inl h1
  · refine .inr ⟨ss, vs, h1, ownsRow_same h2 (fun g hg => ?_), h3, fun k u b hu hb => ⟨(h4 k u b hu hb).1.same0 (fun g hg => ?_), (h4 k u b hu hb).2⟩⟩
    · obtain ⟨c, hc⟩ := rowBlock h2 hg
      exact hS g c (h.Gs i v hv g hg) hc
    · obtain ⟨c, hc⟩ := rowBlock (h4 k u b hu hb).1.row hg
      exact hB g c ((h4 k u b hu hb).2 g hg) hc
theorem RL.fv_same (h : RL G w r dp dc ds lp lc fs A) {w' : World} (hB : ∀ g c, G g → w.heap[g]? = some (.cells c 5 (0, 0)) → w'.heap[g]? = w.heap[g]?) :
    ∀ (i : Nat) (u : Value) (x : AM.Fl), fs[i]? = some u → A.L[i]? = some x → Own 0 w' u x.b ∧ ∀ g, u.ownBlock = some g → G g := fun i u x hu hx => ⟨(h.fv i u x hu hx).1.same0 (fun g hg => by
    obtain ⟨c, hc⟩ := rowBlock (h.fv i u x hu hx).1.row hg
    exact hB g c ((h.fv i u x hu hx).2 g hg) hc), (h.fv i u x hu hx).2⟩
theorem RL.same (h : RL G w r dp dc ds lp lc fs A) {w' : World} (hb : ∀ i, G i → w'.heap[i]? = w.heap[i]?) (hl : ∀ i, G i → i < w'.heap.size) : RL G w' r dp dc ds lp lc fs A :=
  ⟨hl, by rw [hb r h.Gr]; exact h.top, ownsRow_same h.dsk (fun g hg => hb g (h.Gd g hg)), h.dlen, h.sec_same (fun g c hg _ => hb g hg) (fun g c hg _ => hb g hg), ownsRow_same h.fly (fun g hg => hb g (h.Gl g hg)), h.flen, h.fv_same (fun g c hg _ => hb g hg), h.Gr, h.Gd, h.Gs, h.Gl, h.ap, h.left, h.n2, h.d2⟩
theorem RIs.lt (h : RIs G w r A) : ∀ i, G i → i < w.heap.size := by obtain ⟨_, _, _, _, _, _, h⟩ := h; exact h.lt
theorem RIs.same (h : RIs G w r A) {w' : World} (hb : ∀ i, G i → w'.heap[i]? = w.heap[i]?) (hl : ∀ i, G i → i < w'.heap.size) : RIs G w' r A := by
  obtain ⟨dp, dc, ds, lp, lc, fs, h⟩ := h
  exact (h.same hb hl).is
theorem RIs.keep (h : RIs G w r A) {w' : World} (g : w.grownBy w' none) : RIs G w' r A := h.same (fun i hi => g.block i (h.lt i hi) (by simp)) (fun i hi => Nat.lt_of_lt_of_le (h.lt i hi) g.size)
theorem RL.keep (h : RL G w r dp dc ds lp lc fs A) {w' : World} (g : w.grownBy w' none) : RL G w' r dp dc ds lp lc fs A := h.same (fun i hi => g.block i (h.lt i hi) (by simp)) (fun i hi => Nat.lt_of_lt_of_le (h.lt i hi) g.size)
/-- Another one's call. -/
theorem RIs.other (h : RIs G w r A) {F F' : Nat → Prop} {w' : World} (s : Step F w F' w') (hs : ∀ i, F i → G i → False) : RIs G w' r A ∧ ∀ i, F' i → G i → False := by
  obtain ⟨h1, h2, h3⟩ := s.other h.lt hs
  exact ⟨h.same h1 h2, h3⟩
theorem RL.topCells (h : RL G w r dp dc ds lp lc fs A) : w.cell? ⟨r, 0, none⟩ = some (.slice dp A.D.length dc) ∧ w.cell? ⟨r, 1, none⟩ = some (.int .i64 (A.n : Int)) ∧ w.cell? ⟨r, 2, none⟩ = some (.slice lp A.L.length lc) ∧ w.cell? ⟨r, 3, none⟩ = some (.int .i64 (A.left : Int)) ∧ w.cell? ⟨r, 4, none⟩ = some (.bool A.dark) :=
  ⟨topCell (j := 0) h.top rfl, topCell (j := 1) h.top rfl, topCell (j := 2) h.top rfl, topCell (j := 3) h.top rfl, topCell (j := 4) h.top rfl⟩

/-- The head turned: fuse and power. -/
theorem RL.turn (h : RL G w r dp dc ds lp lc fs A) {w' : World} (g : w.grownBy w' (some r)) {l' : Nat} {k' : Bool} (hl : l' < 9223372036854775808)
    (ht : w'.heap[r]? = some (.cells #[.slice dp A.D.length dc, .int .i64 (A.n : Int), .slice lp A.L.length lc, .int .i64 (l' : Int), .bool k'] 70 (0, 0))) : RL G w' r dp dc ds lp lc fs { A with left := l', dark := k' } := by
  have hb : ∀ (i : Nat) (c : Array Value) (t : TypeId), G i → w.heap[i]? = some (.cells c t (0, 0)) → t ≠ 70 → w'.heap[i]? = w.heap[i]? := fun i c t hi hc hn => g.block i (h.lt i hi) (fun e => by
    obtain rfl := Option.some.inj e
    exact hn (heap_ty hc h.top))
  refine ⟨fun i hi => Nat.lt_of_lt_of_le (h.lt i hi) g.size, ht, ownsRow_same h.dsk (fun b hb' => ?_), h.dlen, h.sec_same (fun b c hb' hc => hb b c _ hb' hc (by decide)) (fun b c hb' hc => hb b c _ hb' hc (by decide)), ownsRow_same h.fly (fun b hb' => ?_), h.flen, h.fv_same (fun b c hb' hc => hb b c _ hb' hc (by decide)), h.Gr, h.Gd, h.Gs, h.Gl, h.ap, hl, h.n2, h.d2⟩
  · obtain ⟨c, hc⟩ := rowBlock h.dsk hb'
    exact hb b c _ (h.Gd b hb') hc (by decide)
  · obtain ⟨c, hc⟩ := rowBlock h.fly hb'
    exact hb b c _ (h.Gl b hb') hc (by decide)
/-- Another slice of what is in flight. -/
theorem RL.flown (h : RL G w r dp dc ds lp lc fs A) {G' : Nat → Prop} {w1 w' : World} (hG : ∀ i, G i → G' i) (hlt : ∀ i, G' i → i < w1.heap.size) {old : Option Nat} (g1 : w.grownBy w1 old) (ho : ∀ g, old = some g → (Value.slice lp A.L.length lc).ownBlock = some g) {L' : List AM.Fl} {fs' : List Value} {lp' : Option Addr} {lc' : Nat}
    (hrow : w1.ownsRow 0 84 3 (.slice lp' L'.length lc') L'.length (frow fs' L')) (hfl : fs'.length = L'.length) (hGl : ∀ g, (Value.slice lp' L'.length lc').ownBlock = some g → G' g)
    (hfv : ∀ (i : Nat) (u : Value) (x : AM.Fl), fs'[i]? = some u → L'[i]? = some x → Own 0 w1 u x.b ∧ ∀ g, u.ownBlock = some g → G' g) (e : w' = w1.setCell ⟨r, 2, none⟩ (.slice lp' L'.length lc')) : RL G' w' r dp dc ds lp' lc' fs' { A with L := L' } := by
  have hb1 : ∀ (i : Nat) (c : Array Value) (t : TypeId), G i → w.heap[i]? = some (.cells c t (0, 0)) → t ≠ 84 → w1.heap[i]? = w.heap[i]? := fun i c t hi hc hn => g1.block i (h.lt i hi) (fun e => by
    obtain ⟨c', hc'⟩ := rowBlock h.fly (ho i e.symm)
    exact hn (heap_ty hc hc'))
  have ht1 := (hb1 r _ _ h.Gr h.top (by decide)).trans h.top
  have hb2 : ∀ (i : Nat) (c : Array Value) (t : TypeId), w1.heap[i]? = some (.cells c t (0, 0)) → t ≠ 70 → w'.heap[i]? = w1.heap[i]? := fun i c t hc hn => by
    rw [e]
    exact Below.heap_setCell _ _ _ _ (fun e' => by
      have e' : i = r := e'
      subst e'
      exact hn (heap_ty hc ht1))
  have hb : ∀ (i : Nat) (c : Array Value) (t : TypeId), G i → w.heap[i]? = some (.cells c t (0, 0)) → t ≠ 84 → t ≠ 70 → w'.heap[i]? = w.heap[i]? := fun i c t hi hc h1 h2 => by
    have := hb1 i c t hi hc h1
    rw [hb2 i c t (this.trans hc) h2, this]
  have hsz : w'.heap.size = w1.heap.size := by rw [e]; simp
  refine ⟨fun i hi => by rw [hsz]; exact hlt i hi, ?_, ownsRow_same h.dsk (fun b hb' => ?_), h.dlen, fun i v hv => ?_, ownsRow_same hrow (fun b hb' => ?_), hfl, fun i u x hu hx => ⟨(hfv i u x hu hx).1.same0 (fun b hb' => ?_), (hfv i u x hu hx).2⟩, hG r h.Gr, fun g hg => hG g (h.Gd g hg), fun i v hv g hg => hG g (h.Gs i v hv g hg), hGl, h.ap, h.left, h.n2, h.d2⟩
  · rw [e, heap_setCell_same _ _ _ _ _ _ ht1]; rfl
  · obtain ⟨c, hc⟩ := rowBlock h.dsk hb'
    exact hb b c _ (h.Gd b hb') hc (by decide) (by decide)
  · rcases h.sec_same (w' := w') (fun b c hb' hc => hb b c _ hb' hc (by decide) (by decide)) (fun b c hb' hc => hb b c _ hb' hc (by decide) (by decide)) i v hv with h1 | ⟨ss, vs, h1, h2, h3, h4⟩
    · exact .inl h1
    · exact .inr ⟨ss, vs, h1, h2, h3, fun k u b hu hb => ⟨(h4 k u b hu hb).1, fun g hg => hG g ((h4 k u b hu hb).2 g hg)⟩⟩
  · obtain ⟨c, hc⟩ := rowBlock hrow hb'
    exact hb2 b c _ hc (by decide)
  · obtain ⟨c, hc⟩ := rowBlock (hfv i u x hu hx).1.row hb'
    exact hb2 b c _ hc (by decide)
end
end Go.Proofs.Ytfmlohedebdomaa
