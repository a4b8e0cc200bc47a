/- Packed: RRep6, Copy7, RRef6, RLeaf6. -/
import Derived.Test.YtfjlpifaaknmpaaGreatSy1
import Derived.Test.YtfjlpifaaknmpaaGreatSy2
import Derived.Test.YtfjlpifaaknmpaaGreatSy3
import Derived.Test.YtfjlpifaaknmpaaGreatSy4
import Derived.Test.YtfjlpifaaknmpaaGreatSy5
import Derived.Test.YtfjlpifaaknmpaaGreatSy6
import Derived.Test.YtfjlpifaaknmpaaGreatSy7
import Derived.Test.YtfjlpifaaknmpaaGreatSy8
import Derived.Test.YtfjlpifaaknmpaaGreatSy9
import Derived.Test.YtfjlpifaaknmpaaGreatSy10
import Derived.Test.YtfjlpifaaknmpaaGreatSy12
import Derived.Deep.RegionHeld3
/- The document's own array of disks in memory (RL, RIs). -/
set_option linter.unusedSimpArgs false
set_option linter.unusedVariables false
set_option maxRecDepth 100000
namespace Go.Proofs.YtfjlpifaaknmpaaGreat
open Go.RowKit

namespace AM
structure Fl where
  d : Nat
  k : Nat
  b : List Nat
/-- The document's array: disks (none: gone) of sectors, what is in flight, the fuse, the power. -/
structure RA where
  D : List (Option (List (List Nat)))
  n : Nat
  L : List Fl
  left : Nat
  dark : Bool
end AM

/-- The cells of its disks, of its flights. -/
def drow (ds : List Value) (D : List (Option (List (List Nat)))) : List Value := (ds.zip D).flatMap (fun x => [x.1, .bool x.2.isNone])
def frow (fs : List Value) (L : List AM.Fl) : List Value := (fs.zip L).flatMap (fun x => [.int .i64 (x.2.d : Int), .int .i64 (x.2.k : Int), x.1])

structure RL (G : Nat → Prop) (w : World) (r : Nat) (dp : Option Addr) (dc : Nat) (ds : List Value) (lp : Option Addr) (lc : Nat) (fs : List Value) (A : AM.RA) : Prop where
  lt : ∀ i, G i → i < w.heap.size
  top : w.heap[r]? = some (.cells #[.slice dp A.D.length dc, .int .i64 (A.n : Int), .slice lp A.L.length lc, .int .i64 (A.left : Int), .bool A.dark] 131 (0, 0))
  dsk : w.ownsRow 0 133 2 (.slice dp A.D.length dc) A.D.length (drow ds A.D)
  dlen : ds.length = A.D.length
  sec : ∀ (i : Nat) (v : Value), ds[i]? = some v → (A.D[i]? = some none ∧ v = .slice none 0 0) ∨ ∃ (ss : List (List Nat)) (vs : List Value), A.D[i]? = some (some ss) ∧ w.ownsRow 0 40 1 v A.n vs ∧ ss.length = A.n ∧ ∀ (k : Nat) (u : Value) (b : List Nat), vs[k]? = some u → ss[k]? = some b → Own 0 w u b ∧ ∀ g, u.ownBlock = some g → G g
  fly : w.ownsRow 0 135 3 (.slice lp A.L.length lc) A.L.length (frow fs A.L)
  flen : fs.length = A.L.length
  fv : ∀ (i : Nat) (u : Value) (x : AM.Fl), fs[i]? = some u → A.L[i]? = some x → Own 0 w u x.b ∧ ∀ g, u.ownBlock = some g → G g
  Gr : G r
  Gd : ∀ g, (Value.slice dp A.D.length dc).ownBlock = some g → G g
  Gs : ∀ (i : Nat) (v : Value), ds[i]? = some v → ∀ g, v.ownBlock = some g → G g
  Gl : ∀ g, (Value.slice lp A.L.length lc).ownBlock = some g → G g
  ap : ∀ (i j : Nat) (u v : Value), ds[i]? = some u → ds[j]? = some v → ∀ g, u.ownBlock = some g → v.ownBlock = some g → i = j
  left : A.left < 9223372036854775808
  n2 : A.n ≤ 4096
  d2 : A.D.length ≤ 255

def RIs (G : Nat → Prop) (w : World) (r : Nat) (A : AM.RA) : Prop := ∃ dp dc ds lp lc fs, RL G w r dp dc ds lp lc fs A

section
variable {G : Nat → Prop} {w : World} {r : Nat} {dp : Option Addr} {dc : Nat} {ds : List Value} {lp : Option Addr} {lc : Nat} {fs : List Value} {A : AM.RA}
theorem RL.is (h : RL G w r dp dc ds lp lc fs A) : RIs G w r A := ⟨dp, dc, ds, lp, lc, fs, h⟩
theorem Own.same0 {w w' : World} {u : Value} {b : List Nat} (h : Own 0 w u b) (hb : ∀ g, u.ownBlock = some g → w'.heap[g]? = w.heap[g]?) : Own 0 w' u b := ⟨h.small, h.len, ownsRow_same h.row hb⟩

/-- Blocks of other types turned: the parts that are of the types that did not. -/
theorem RL.sec_same (h : RL G w r dp dc ds lp lc fs A) {w' : World} (hS : ∀ g c, G g → w.heap[g]? = some (.cells c 40 (0, 0)) → w'.heap[g]? = w.heap[g]?) (hB : ∀ g c, G g → w.heap[g]? = some (.cells c 5 (0, 0)) → w'.heap[g]? = w.heap[g]?) :
    ∀ (i : Nat) (v : Value), ds[i]? = some v → (A.D[i]? = some none ∧ v = .slice none 0 0) ∨ ∃ (ss : List (List Nat)) (vs : List Value), A.D[i]? = some (some ss) ∧ w'.ownsRow 0 40 1 v A.n vs ∧ ss.length = A.n ∧ ∀ (k : Nat) (u : Value) (b : List Nat), vs[k]? = some u → ss[k]? = some b → Own 0 w' u b ∧ ∀ g, u.ownBlock = some g → G g := fun i v hv => by
  rcases h.sec i v hv with h1 | ⟨ss, vs, h1, h2, h3, h4⟩
  · exact .inl h1
  · refine .inr ⟨ss, vs, h1, ownsRow_same h2 (fun g hg => ?_), h3, fun k u b hu hb => ⟨(h4 k u b hu hb).1.same0 (fun g hg => ?_), (h4 k u b hu hb).2⟩⟩
    · obtain ⟨c, hc⟩ := rowBlock h2 hg
      exact hS g c (h.Gs i v hv g hg) hc
    · obtain ⟨c, hc⟩ := rowBlock (h4 k u b hu hb).1.row hg
      exact hB g c ((h4 k u b hu hb).2 g hg) hc
theorem RL.fv_same (h : RL G w r dp dc ds lp lc fs A) {w' : World} (hB : ∀ g c, G g → w.heap[g]? = some (.cells c 5 (0, 0)) → w'.heap[g]? = w.heap[g]?) :
    ∀ (i : Nat) (u : Value) (x : AM.Fl), fs[i]? = some u → A.L[i]? = some x → Own 0 w' u x.b ∧ ∀ g, u.ownBlock = some g → G g := fun i u x hu hx => ⟨(h.fv i u x hu hx).1.same0 (fun g hg => by
    obtain ⟨c, hc⟩ := rowBlock (h.fv i u x hu hx).1.row hg
    exact hB g c ((h.fv i u x hu hx).2 g hg) hc), (h.fv i u x hu hx).2⟩
theorem RL.same (h : RL G w r dp dc ds lp lc fs A) {w' : World} (hb : ∀ i, G i → w'.heap[i]? = w.heap[i]?) (hl : ∀ i, G i → i < w'.heap.size) : RL G w' r dp dc ds lp lc fs A :=
  ⟨hl, by rw [hb r h.Gr]; exact h.top, ownsRow_same h.dsk (fun g hg => hb g (h.Gd g hg)), h.dlen, h.sec_same (fun g c hg _ => hb g hg) (fun g c hg _ => hb g hg), ownsRow_same h.fly (fun g hg => hb g (h.Gl g hg)), h.flen, h.fv_same (fun g c hg _ => hb g hg), h.Gr, h.Gd, h.Gs, h.Gl, h.ap, h.left, h.n2, h.d2⟩
theorem RIs.lt (h : RIs G w r A) : ∀ i, G i → i < w.heap.size := by obtain ⟨_, _, _, _, _, _, h⟩ := h; exact h.lt
theorem RIs.same (h : RIs G w r A) {w' : World} (hb : ∀ i, G i → w'.heap[i]? = w.heap[i]?) (hl : ∀ i, G i → i < w'.heap.size) : RIs G w' r A := by
  obtain ⟨dp, dc, ds, lp, lc, fs, h⟩ := h
  exact (h.same hb hl).is
theorem RIs.keep (h : RIs G w r A) {w' : World} (g : w.grownBy w' none) : RIs G w' r A := h.same (fun i hi => g.block i (h.lt i hi) (by simp)) (fun i hi => Nat.lt_of_lt_of_le (h.lt i hi) g.size)
theorem RL.keep (h : RL G w r dp dc ds lp lc fs A) {w' : World} (g : w.grownBy w' none) : RL G w' r dp dc ds lp lc fs A := h.same (fun i hi => g.block i (h.lt i hi) (by simp)) (fun i hi => Nat.lt_of_lt_of_le (h.lt i hi) g.size)
theorem RL.topCells (h : RL G w r dp dc ds lp lc fs A) : w.cell? ⟨r, 0, none⟩ = some (.slice dp A.D.length dc) ∧ w.cell? ⟨r, 1, none⟩ = some (.int .i64 (A.n : Int)) ∧ w.cell? ⟨r, 2, none⟩ = some (.slice lp A.L.length lc) ∧ w.cell? ⟨r, 3, none⟩ = some (.int .i64 (A.left : Int)) ∧ w.cell? ⟨r, 4, none⟩ = some (.bool A.dark) :=
  ⟨topCell (j := 0) h.top rfl, topCell (j := 1) h.top rfl, topCell (j := 2) h.top rfl, topCell (j := 3) h.top rfl, topCell (j := 4) h.top rfl⟩

/-- The head turned: fuse and power. -/
theorem RL.turn (h : RL G w r dp dc ds lp lc fs A) {w' : World} (g : w.grownBy w' (some r)) {l' : Nat} {k' : Bool} (hl : l' < 9223372036854775808)
    (ht : w'.heap[r]? = some (.cells #[.slice dp A.D.length dc, .int .i64 (A.n : Int), .slice lp A.L.length lc, .int .i64 (l' : Int), .bool k'] 131 (0, 0))) : RL G w' r dp dc ds lp lc fs { A with left := l', dark := k' } := by
  have hb : ∀ (i : Nat) (c : Array Value) (t : TypeId), G i → w.heap[i]? = some (.cells c t (0, 0)) → t ≠ 131 → w'.heap[i]? = w.heap[i]? := fun i c t hi hc hn => g.block i (h.lt i hi) (fun e => by
    obtain rfl := Option.some.inj e
    exact hn (heap_ty hc h.top))
  refine ⟨fun i hi => Nat.lt_of_lt_of_le (h.lt i hi) g.size, ht, ownsRow_same h.dsk (fun b hb' => ?_), h.dlen, h.sec_same (fun b c hb' hc => hb b c _ hb' hc (by decide)) (fun b c hb' hc => hb b c _ hb' hc (by decide)), ownsRow_same h.fly (fun b hb' => ?_), h.flen, h.fv_same (fun b c hb' hc => hb b c _ hb' hc (by decide)), h.Gr, h.Gd, h.Gs, h.Gl, h.ap, hl, h.n2, h.d2⟩
  · obtain ⟨c, hc⟩ := rowBlock h.dsk hb'
    exact hb b c _ (h.Gd b hb') hc (by decide)
  · obtain ⟨c, hc⟩ := rowBlock h.fly hb'
    exact hb b c _ (h.Gl b hb') hc (by decide)
/-- Another slice of what is in flight. -/
theorem RL.flown (h : RL G w r dp dc ds lp lc fs A) {G' : Nat → Prop} {w1 w' : World} (hG : ∀ i, G i → G' i) (hlt : ∀ i, G' i → i < w1.heap.size) {old : Option Nat} (g1 : w.grownBy w1 old) (ho : ∀ g, old = some g → (Value.slice lp A.L.length lc).ownBlock = some g) {L' : List AM.Fl} {fs' : List Value} {lp' : Option Addr} {lc' : Nat}
    (hrow : w1.ownsRow 0 135 3 (.slice lp' L'.length lc') L'.length (frow fs' L')) (hfl : fs'.length = L'.length) (hGl : ∀ g, (Value.slice lp' L'.length lc').ownBlock = some g → G' g)
    (hfv : ∀ (i : Nat) (u : Value) (x : AM.Fl), fs'[i]? = some u → L'[i]? = some x → Own 0 w1 u x.b ∧ ∀ g, u.ownBlock = some g → G' g) (e : w' = w1.setCell ⟨r, 2, none⟩ (.slice lp' L'.length lc')) : RL G' w' r dp dc ds lp' lc' fs' { A with L := L' } := by
  have hb1 : ∀ (i : Nat) (c : Array Value) (t : TypeId), G i → w.heap[i]? = some (.cells c t (0, 0)) → t ≠ 135 → w1.heap[i]? = w.heap[i]? := fun i c t hi hc hn => g1.block i (h.lt i hi) (fun e => by
    obtain ⟨c', hc'⟩ := rowBlock h.fly (ho i e.symm)
    exact hn (heap_ty hc hc'))
  have ht1 := (hb1 r _ _ h.Gr h.top (by decide)).trans h.top
  have hb2 : ∀ (i : Nat) (c : Array Value) (t : TypeId), w1.heap[i]? = some (.cells c t (0, 0)) → t ≠ 131 → w'.heap[i]? = w1.heap[i]? := fun i c t hc hn => by
    rw [e]
    exact Below.heap_setCell _ _ _ _ (fun e' => by
      have e' : i = r := e'
      subst e'
      exact hn (heap_ty hc ht1))
  have hb : ∀ (i : Nat) (c : Array Value) (t : TypeId), G i → w.heap[i]? = some (.cells c t (0, 0)) → t ≠ 135 → t ≠ 131 → w'.heap[i]? = w.heap[i]? := fun i c t hi hc h1 h2 => by
    have := hb1 i c t hi hc h1
    rw [hb2 i c t (this.trans hc) h2, this]
  have hsz : w'.heap.size = w1.heap.size := by rw [e]; simp
  refine ⟨fun i hi => by rw [hsz]; exact hlt i hi, ?_, ownsRow_same h.dsk (fun b hb' => ?_), h.dlen, fun i v hv => ?_, ownsRow_same hrow (fun b hb' => ?_), hfl, fun i u x hu hx => ⟨(hfv i u x hu hx).1.same0 (fun b hb' => ?_), (hfv i u x hu hx).2⟩, hG r h.Gr, fun g hg => hG g (h.Gd g hg), fun i v hv g hg => hG g (h.Gs i v hv g hg), hGl, h.ap, h.left, h.n2, h.d2⟩
  · rw [e, heap_setCell_same _ _ _ _ _ _ ht1]; rfl
  · obtain ⟨c, hc⟩ := rowBlock h.dsk hb'
    exact hb b c _ (h.Gd b hb') hc (by decide) (by decide)
  · rcases h.sec_same (w' := w') (fun b c hb' hc => hb b c _ hb' hc (by decide) (by decide)) (fun b c hb' hc => hb b c _ hb' hc (by decide) (by decide)) i v hv with h1 | ⟨ss, vs, h1, h2, h3, h4⟩
    · exact .inl h1
    · exact .inr ⟨ss, vs, h1, h2, h3, fun k u b hu hb => ⟨(h4 k u b hu hb).1, fun g hg => hG g ((h4 k u b hu hb).2 g hg)⟩⟩
  · obtain ⟨c, hc⟩ := rowBlock hrow hb'
    exact hb2 b c _ hc (by decide)
  · obtain ⟨c, hc⟩ := rowBlock (hfv i u x hu hx).1.row hb'
    exact hb2 b c _ hc (by decide)
end
end Go.Proofs.YtfjlpifaaknmpaaGreat

/- The contract of Copy. -/
set_option linter.unusedSimpArgs false
set_option linter.unusedVariables false
set_option maxRecDepth 100000
namespace Go.Proofs.YtfjlpifaaknmpaaGreat
open Go.RowKit

/-- A copy that has its first k drives. -/
structure Half (w0 w : World) (a2 dg2 : Nat) (dv : List Value) (k : Nat) (R : AM.Raw) (fp : Option Addr) (fc : Nat) : Prop where
  top : w.heap[a2]? = some (.cells #[.slice (some ⟨dg2, 0, none⟩) R.C.length R.C.length, .int .i64 (R.n : Int), .slice fp R.L.length fc, .int .i64 (R.fuse : Int), .bool R.off] 121 (0, 0))
  dsk : w.heap[dg2]? = some (.cells dv.toArray 117 (0, 0))
  len : dv.length = R.C.length
  a_lo : w0.heap.size ≤ a2
  d_lo : w0.heap.size ≤ dg2
  don : ∀ (i : Nat) (v : Value), dv[i]? = some v → i < k → (R.C[i]? = some none ∧ v = .slice none 0 0) ∨ ∃ xs, R.C[i]? = some (some xs) ∧ w.ownsRow w0.heap.size 124 64 v R.n (xs.map bv)
  ap : ∀ (i j : Nat) (u v : Value), i < k → j < k → dv[i]? = some u → dv[j]? = some v → ∀ g, u.ownBlock = some g → v.ownBlock = some g → i = j
  grown : w0.grownBy w none

section
variable {w0 w : World} {a2 dg2 : Nat} {dv : List Value} {k : Nat} {R : AM.Raw} {fp : Option Addr} {fc : Nat}
theorem rows_blk {w : World} {B e size n : Nat} {v : Value} {xs : List Value} (h : w.ownsRow B e size v n xs) {g : Nat} (hg : v.ownBlock = some g) : B ≤ g ∧ g < w.heap.size ∧ ∃ c, w.heap[g]? = some (.cells c e (0, 0)) := by
  rcases h.2 with ⟨rfl, _⟩ | ⟨g', cap, cur, rfl, h1, h2, _⟩
  · cases hg
  · obtain rfl : g' = g := Option.some.inj hg
    exact ⟨h1, (Array.getElem?_eq_some_iff.1 h2).1, cur, h2⟩
theorem Half.a_lt (h : Half w0 w a2 dg2 dv k R fp fc) : a2 < w.heap.size := (Array.getElem?_eq_some_iff.1 h.top).1
theorem Half.d_lt (h : Half w0 w a2 dg2 dv k R fp fc) : dg2 < w.heap.size := (Array.getElem?_eq_some_iff.1 h.dsk).1
theorem Half.keep (h : Half w0 w a2 dg2 dv k R fp fc) {w' : World} (g : w.grownBy w' none) : Half w0 w' a2 dg2 dv k R fp fc := by
  refine ⟨by rw [g.block a2 h.a_lt (by simp)]; exact h.top, by rw [g.block dg2 h.d_lt (by simp)]; exact h.dsk, h.len, h.a_lo, h.d_lo, fun i v hv hi => ?_, h.ap, grown_trans h.grown g⟩
  rcases h.don i v hv hi with h1 | ⟨xs, h1, h2⟩
  · exact .inl h1
  · exact .inr ⟨xs, h1, ownsRow_same h2 (fun b hb => g.block b (rows_blk h2 hb).2.1 (by simp))⟩
theorem Half.put (h : Half w0 w a2 dg2 dv k R fp fc) (hk : k < R.C.length) {w1 : World} (g1 : w.grownBy w1 none) {v : Value}
    (hv : (R.C[k]? = some none ∧ v = .slice none 0 0) ∨ ∃ xs, R.C[k]? = some (some xs) ∧ w1.ownsRow w.heap.size 124 64 v R.n (xs.map bv)) : Half w0 (w1.setCell ⟨dg2, k, none⟩ v) a2 dg2 (dv.set k v) (k + 1) R fp fc := by
  have h1 := h.keep g1
  have hdl : k < dv.length := by rw [h.len]; exact hk
  have hb : ∀ i, i ≠ dg2 → (w1.setCell ⟨dg2, k, none⟩ v).heap[i]? = w1.heap[i]? := fun i hne => Below.heap_setCell _ _ _ _ hne
  have hsplit : ∀ (i : Nat) (u : Value), (dv.set k v)[i]? = some u → i < k + 1 → (i = k ∧ u = v) ∨ (i < k ∧ dv[i]? = some u) := fun i u hu hi => by
    by_cases c : k = i
    · subst c
      rw [List.getElem?_set, if_pos rfl, if_pos hdl] at hu
      exact .inl ⟨rfl, (Option.some.inj hu).symm⟩
    · rw [List.getElem?_set, if_neg c] at hu
      exact .inr ⟨by omega, hu⟩
  have hnew : ∀ g, v.ownBlock = some g → w.heap.size ≤ g := fun g hg => by
    rcases hv with ⟨_, rfl⟩ | ⟨xs, _, h2⟩
    · cases hg
    · exact (rows_blk h2 hg).1
  have hold : ∀ (i : Nat) (u : Value), dv[i]? = some u → i < k → ∀ g, u.ownBlock = some g → g < w.heap.size := fun i u hu hi g hg => by
    rcases h.don i u hu hi with ⟨_, rfl⟩ | ⟨xs, _, h2⟩
    · cases hg
    · exact (rows_blk h2 hg).2.1
  refine ⟨?_, ?_, by simpa using h.len, h.a_lo, h.d_lo, fun i u hu hi => ?_, fun i j u u' hi hj hu hu' g hg hg' => ?_, ?_⟩
  · rw [hb a2 (ne_ty h1.top h1.dsk (by decide))]; exact h1.top
  · rw [heap_setCell_same _ _ _ _ _ _ h1.dsk]; simp
  · rcases hsplit i u hu hi with ⟨rfl, rfl⟩ | ⟨hlt, hu⟩
    · rcases hv with h2 | ⟨xs, h2, h3⟩
      · exact .inl h2
      · refine .inr ⟨xs, h2, ownsRow_down (ownsRow_same h3 (fun g hg => hb g ?_)) h.grown.size⟩
        obtain ⟨_, _, c, hc⟩ := rows_blk h3 hg
        exact ne_ty hc h1.dsk (by decide)
    · rcases h1.don i u hu hlt with h2 | ⟨xs, h2, h3⟩
      · exact .inl h2
      · refine .inr ⟨xs, h2, ownsRow_same h3 (fun g hg => hb g ?_)⟩
        obtain ⟨_, _, c, hc⟩ := rows_blk h3 hg
        exact ne_ty hc h1.dsk (by decide)
  · rcases hsplit i u hu hi with ⟨e1, e2⟩ | ⟨hlt, hu2⟩
    · rcases hsplit j u' hu' hj with ⟨e3, e4⟩ | ⟨hlt', hu3⟩
      · omega
      · have := hnew g (by rw [← e2]; exact hg); have := hold j u' hu3 hlt' g hg'; omega
    · rcases hsplit j u' hu' hj with ⟨e3, e4⟩ | ⟨hlt', hu3⟩
      · have := hnew g (by rw [← e4]; exact hg'); have := hold i u hu2 hlt g hg; omega
      · exact h.ap i j u u' hlt hlt' hu2 hu3 g hg hg'
  · exact gb_setCell h1.grown h.d_lo v
theorem Half.fin (h : Half w0 w a2 dg2 dv R.C.length R fp fc) (hok : R.Ok) {w1 : World} (g1 : w.grownBy w1 none) {fp2 : Option Addr} {fc2 : Nat} (hrow : w1.ownsRow w0.heap.size 126 130 (.slice fp2 R.L.length fc2) R.L.length (wrow R.L)) :
    Is (fun i => w0.heap.size ≤ i ∧ i < w1.heap.size) (w1.setCell ⟨a2, 2, none⟩ (.slice fp2 R.L.length fc2)) a2 R ∧ w0.grownBy (w1.setCell ⟨a2, 2, none⟩ (.slice fp2 R.L.length fc2)) none := by
  have h1 := h.keep g1
  have hb : ∀ i, i ≠ a2 → (w1.setCell ⟨a2, 2, none⟩ (.slice fp2 R.L.length fc2)).heap[i]? = w1.heap[i]? := fun i hne => Below.heap_setCell _ _ _ _ hne
  have hdi : ∀ (i : Nat) (v : Value), dv[i]? = some v → i < R.C.length := fun i v hv => by
    have := (List.getElem?_eq_some_iff.1 hv).1
    rw [h.len] at this
    exact this
  refine ⟨⟨dg2, dv, fp2, fc2, ⟨hok, fun i hi => by simpa using hi.2, ?_, ?_, h.len, fun i v hv => ?_, ?_, ⟨h1.a_lo, h1.a_lt⟩, ⟨h1.d_lo, h1.d_lt⟩, fun i v hv g hg => ?_, fun g hg => ?_, fun i j u v hu hv => h.ap i j u v (hdi i u hu) (hdi j v hv) hu hv⟩⟩, gb_setCell h1.grown h.a_lo _⟩
  · rw [heap_setCell_same _ _ _ _ _ _ h1.top]; rfl
  · rw [hb dg2 (ne_ty h1.dsk h1.top (by decide))]; exact h1.dsk
  · rcases h1.don i v hv (hdi i v hv) with h2 | ⟨xs, h2, h3⟩
    · exact .inl h2
    · refine .inr ⟨xs, h2, ownsRow_down (ownsRow_same h3 (fun g hg => hb g ?_)) (Nat.zero_le _)⟩
      obtain ⟨_, _, c, hc⟩ := rows_blk h3 hg
      exact ne_ty hc h1.top (by decide)
  · refine ownsRow_down (ownsRow_same hrow (fun g hg => hb g ?_)) (Nat.zero_le _)
    obtain ⟨_, _, c, hc⟩ := rows_blk hrow hg
    exact ne_ty hc h1.top (by decide)
  · rcases h1.don i v hv (hdi i v hv) with ⟨_, rfl⟩ | ⟨xs, h2, h3⟩
    · cases hg
    · exact ⟨(rows_blk h3 hg).1, (rows_blk h3 hg).2.1⟩
  · exact ⟨(rows_blk hrow hg).1, (rows_blk hrow hg).2.1⟩
end
end Go.Proofs.YtfjlpifaaknmpaaGreat

/- The document's array: its places; a sector laid; the contracts of own, goes, why, On, Fuse. -/
set_option linter.unusedSimpArgs false
set_option linter.unusedVariables false
set_option maxRecDepth 100000
namespace Go.Proofs.YtfjlpifaaknmpaaGreat
open Go.RowKit

abbrev rptr (a : Nat) : Value := .pointer (some ⟨a, 0, none⟩)

theorem drow_set {ds : List Value} {D : List (Option (List (List Nat)))} {i : Nat} {o o' : Option (List (List Nat))} (h : D[i]? = some o) (e : o'.isNone = o.isNone) : drow ds (D.set i o') = drow ds D := by
  unfold drow
  induction ds generalizing D i with
  | nil => simp
  | cons v r ih =>
    cases D with
    | nil => simp at h
    | cons x y =>
      cases i with
      | zero =>
        simp at h
        subst h
        simp [e]
      | succ j =>
        simp at h
        simp [ih h]

section
variable {G : Nat → Prop} {w : World} {r : Nat} {dp : Option Addr} {dc : Nat} {ds : List Value} {lp : Option Addr} {lc : Nat} {fs : List Value} {A : AM.RA}
theorem rows_at {w : World} {B e size n m c : Nat} {p : Option Addr} {xs : List Value} (h : w.ownsRow B e size (.slice p m c) n xs) (hn : 0 < n) : ∃ g, p = some ⟨g, 0, none⟩ ∧ ∃ cur, w.heap[g]? = some (.cells cur e (0, 0)) ∧ ∀ j u, xs[j]? = some u → w.cell? ⟨g, j, none⟩ = some u := by
  have hr := h
  rcases h.2 with ⟨e1, hn0⟩ | ⟨g, cap, cur, e1, hb, hg, _⟩
  · omega
  · injection e1 with e2 e3 e4
    subst e2
    refine ⟨g, rfl, cur, hg, fun j u hj => ?_⟩
    have := hr.cells (g := g) rfl j u hj
    rwa [add_at, Nat.zero_add] at this
theorem RL.disk (h : RL G w r dp dc ds lp lc fs A) {i : Nat} (hi : i < A.D.length) : ∃ dg v, dp = some ⟨dg, 0, none⟩ ∧ ds[i]? = some v ∧ w.cell? ⟨dg, i * 2, none⟩ = some v ∧ w.cell? ⟨dg, i * 2 + 1, none⟩ = some (.bool (A.D[i]'hi).isNone) ∧ ∃ c, w.heap[dg]? = some (.cells c 133 (0, 0)) := by
  obtain ⟨g, rfl, cur, hg, hc⟩ := rows_at h.dsk (by omega)
  have hl : i < ds.length := by rw [h.dlen]; exact hi
  have hz : i < (ds.zip A.D).length := by simp; omega
  have hf : ∀ x ∈ ds.zip A.D, ([x.1, Value.bool x.2.isNone] : List Value).length = 2 := fun x _ => rfl
  refine ⟨g, ds[i], rfl, List.getElem?_eq_getElem hl, ?_, ?_, cur, hg⟩
  · have := flat_get (f := fun x : Value × Option (List (List Nat)) => [x.1, Value.bool x.2.isNone]) (m := 2) (i := 0) (by decide) hf hz
    exact hc _ _ (by rw [Nat.add_zero] at this; unfold drow; rw [this]; simp)
  · have := flat_get (f := fun x : Value × Option (List (List Nat)) => [x.1, Value.bool x.2.isNone]) (m := 2) (i := 1) (by decide) hf hz
    exact hc _ _ (by unfold drow; rw [this]; simp)
theorem RL.flight (h : RL G w r dp dc ds lp lc fs A) {i : Nat} (hi : i < A.L.length) : ∃ lg u, lp = some ⟨lg, 0, none⟩ ∧ fs[i]? = some u ∧ w.cell? ⟨lg, i * 3, none⟩ = some (.int .i64 ((A.L[i]'hi).d : Int)) ∧ w.cell? ⟨lg, i * 3 + 1, none⟩ = some (.int .i64 ((A.L[i]'hi).k : Int)) ∧ w.cell? ⟨lg, i * 3 + 2, none⟩ = some u ∧ Own 0 w u (A.L[i]'hi).b ∧ ∃ c, w.heap[lg]? = some (.cells c 135 (0, 0)) := by
  obtain ⟨g, rfl, cur, hg, hc⟩ := rows_at h.fly (by omega)
  have hl : i < fs.length := by rw [h.flen]; exact hi
  have hz : i < (fs.zip A.L).length := by simp; omega
  have hf : ∀ x ∈ fs.zip A.L, ([.int .i64 (x.2.d : Int), .int .i64 (x.2.k : Int), x.1] : List Value).length = 3 := fun x _ => rfl
  have key : ∀ j (hj : j < 3), (frow fs A.L)[i * 3 + j]? = ([.int .i64 ((A.L[i]'hi).d : Int), .int .i64 ((A.L[i]'hi).k : Int), fs[i]] : List Value)[j]? := fun j hj => by
    have := flat_get (f := fun x : Value × AM.Fl => ([.int .i64 (x.2.d : Int), .int .i64 (x.2.k : Int), x.1] : List Value)) (m := 3) (i := j) hj hf hz
    unfold frow
    rw [this]
    simp
  exact ⟨g, fs[i], rfl, List.getElem?_eq_getElem hl, hc _ _ (by have := key 0 (by decide); rwa [Nat.add_zero] at this), hc _ _ (key 1 (by decide)), hc _ _ (key 2 (by decide)), (h.fv i _ _ (List.getElem?_eq_getElem hl) (List.getElem?_eq_getElem hi)).1, cur, hg⟩
theorem rows_set1 {w : World} {B e n g c k : Nat} {us : List Value} (h : w.ownsRow B e 1 (.slice (some ⟨g, 0, none⟩) n c) n us) (hk : k < n) (u : Value) : (w.setCell ⟨g, k, none⟩ u).ownsRow B e 1 (.slice (some ⟨g, 0, none⟩) n c) n (us.set k u) := by
  have hl := h.1
  rcases h.2 with ⟨e1, hn⟩ | ⟨g', cap', cur, e1, hb, hg, hc, hm, hs, ht⟩
  · cases e1
  · injection e1 with e2 e3 e4
    injection e2 with e2
    injection e2 with e2
    subst e2
    subst e4
    refine ⟨by simpa using hl, .inr ⟨g, c, cur.setIfInBounds k u, rfl, hb, ?_, hc, hm, by simpa using hs, ?_⟩⟩
    · rw [setCell_eq_setRow w g k cur e (0, 0) _ hg]
      exact setRow_heap w g cur _ e _ hg
    · simp only [Array.toList_setIfInBounds]
      rw [List.take_set, ht]
theorem RL.place (h : RL G w r dp dc ds lp lc fs A) {i k : Nat} {v : Value} {ss : List (List Nat)} (hv : ds[i]? = some v) (hD : A.D[i]? = some (some ss)) (hk : k < A.n) : ∃ sg c u b, v = .slice (some ⟨sg, 0, none⟩) A.n c ∧ w.cell? ⟨sg, k, none⟩ = some u ∧ w.frozen? ⟨sg, k, none⟩ = false ∧ ss[k]? = some b ∧ Own 0 w u b ∧ G sg ∧ ∃ cc, w.heap[sg]? = some (.cells cc 40 (0, 0)) := by
  rcases h.sec i v hv with ⟨h1, _⟩ | ⟨ss', vs, h1, h2, h3, h4⟩
  · rw [hD] at h1; cases h1
  · rw [hD] at h1
    injection h1 with h1
    injection h1 with h1
    subst h1
    obtain ⟨p, c, rfl⟩ := rows_slice h2
    obtain ⟨g, rfl, cur, hg, hc⟩ := rows_at h2 (by omega)
    have hvl : vs.length = A.n := by have := h2.1; omega
    have hu : vs[k]? = some (vs[k]'(by omega)) := List.getElem?_eq_getElem (by omega)
    have hb : ss[k]? = some (ss[k]'(by omega)) := List.getElem?_eq_getElem (by omega)
    exact ⟨g, c, _, _, rfl, hc k _ hu, topFrozen k hg, hb, (h4 k _ _ hu hb).1, h.Gs i _ hv g rfl, cur, hg⟩
/-- A sector laid. -/
theorem RL.laid (h : RL G w r dp dc ds lp lc fs A) {w1 : World} (g1 : w.grownBy w1 none) {i k sg c : Nat} {u : Value} {ss : List (List Nat)} {b : List Nat} (hv : ds[i]? = some (.slice (some ⟨sg, 0, none⟩) A.n c)) (hD : A.D[i]? = some (some ss)) (hk : k < A.n) (hu : Own w.heap.size w1 u b) :
    RL (fun j => G j ∨ u.ownBlock = some j) (w1.setCell ⟨sg, k, none⟩ u) r dp dc ds lp lc fs { A with D := A.D.set i (some (ss.set k b)) } := by
  have h1 := h.keep g1
  obtain ⟨c', hc'⟩ : ∃ c, w1.heap[sg]? = some (.cells c 40 (0, 0)) := by
    rcases h1.sec i _ hv with ⟨_, e⟩ | ⟨ss', vs, _, h2, _⟩
    · cases e
    · exact rowBlock h2 rfl
  have hb : ∀ j, j ≠ sg → (w1.setCell ⟨sg, k, none⟩ u).heap[j]? = w1.heap[j]? := fun j hj => Below.heap_setCell _ _ _ _ hj
  have hne : ∀ (j : Nat) (c : Array Value) (t : TypeId), w1.heap[j]? = some (.cells c t (0, 0)) → t ≠ 40 → (w1.setCell ⟨sg, k, none⟩ u).heap[j]? = w1.heap[j]? := fun j c t hj ht => hb j (ne_ty hj hc' ht)
  have hil : i < A.D.length := (List.getElem?_eq_some_iff.1 hD).1
  have hlen : (A.D.set i (some (ss.set k b))).length = A.D.length := List.length_set ..
  have hown : Own 0 (w1.setCell ⟨sg, k, none⟩ u) u b := (hu.down (Nat.zero_le _)).same0 (fun g hg => by
    obtain ⟨cc, hcc⟩ := rowBlock hu.row hg
    exact hne g cc _ hcc (by decide))
  refine ⟨fun j hj => ?_, ?_, ?_, by rw [hlen]; exact h.dlen, fun j v hv' => ?_, ownsRow_same h1.fly (fun g hg => ?_), h.flen, fun j u' x hu' hx => ?_, .inl h.Gr, fun g hg => .inl (h.Gd g (by rw [hlen] at hg; exact hg)), fun j v hv' g hg => .inl (h.Gs j v hv' g hg), fun g hg => .inl (h.Gl g hg), h.ap, h.left, h.n2, by rw [hlen]; exact h.d2⟩
  · rcases hj with hj | hj
    · simpa using h1.lt j hj
    · have := (rows_blk hu.row hj).2.1
      simpa using this
  · rw [hne r _ _ h1.top (by decide), hlen]; exact h1.top
  · rw [hlen]
    show World.ownsRow _ 0 _ 2 _ _ (drow ds (A.D.set i (some (ss.set k b))))
    rw [drow_set (o' := some (ss.set k b)) hD rfl]
    exact ownsRow_same h1.dsk (fun g hg => by
      obtain ⟨cc, hcc⟩ := rowBlock h1.dsk hg
      exact hne g cc _ hcc (by decide))
  · by_cases cji : i = j
    · subst cji
      rw [hv] at hv'
      obtain rfl := Option.some.inj hv'
      rcases h1.sec i _ hv with ⟨_, e⟩ | ⟨ss', vs, h2, h3, h4, h5⟩
      · cases e
      · rw [hD] at h2
        injection h2 with h2
        injection h2 with h2
        subst h2
        refine .inr ⟨ss.set k b, vs.set k u, by rw [List.getElem?_set, if_pos rfl, if_pos hil], rows_set1 h3 hk u, by simpa using h4, fun k' u' b' hu' hb' => ?_⟩
        by_cases ck : k = k'
        · subst ck
          have hkv : k < vs.length := by have := h3.1; omega
          rw [List.getElem?_set, if_pos rfl, if_pos hkv] at hu'
          rw [List.getElem?_set, if_pos rfl, if_pos (by omega)] at hb'
          obtain rfl := Option.some.inj hu'
          obtain rfl := Option.some.inj hb'
          exact ⟨hown, fun g hg => .inr hg⟩
        · rw [List.getElem?_set, if_neg ck] at hu'
          rw [List.getElem?_set, if_neg ck] at hb'
          obtain ⟨q1, q2⟩ := h5 k' u' b' hu' hb'
          exact ⟨q1.same0 (fun g hg => by
            obtain ⟨cc, hcc⟩ := rowBlock q1.row hg
            exact hne g cc _ hcc (by decide)), fun g hg => .inl (q2 g hg)⟩
    · rcases h1.sec j v hv' with h2 | ⟨ss', vs, h2, h3, h4, h5⟩
      · exact .inl ⟨by rw [List.getElem?_set, if_neg cji]; exact h2.1, h2.2⟩
      · refine .inr ⟨ss', vs, by rw [List.getElem?_set, if_neg cji]; exact h2, ownsRow_same h3 (fun g hg => hb g (fun e => cji (h.ap i j _ v hv hv' g (by rw [e]; rfl) hg))), h4, fun k' u' b' hu' hb' => ?_⟩
        obtain ⟨q1, q2⟩ := h5 k' u' b' hu' hb'
        exact ⟨q1.same0 (fun g hg => by
          obtain ⟨cc, hcc⟩ := rowBlock q1.row hg
          exact hne g cc _ hcc (by decide)), fun g hg => .inl (q2 g hg)⟩
  · obtain ⟨cc, hcc⟩ := rowBlock h1.fly hg
    exact hne g cc _ hcc (by decide)
  · obtain ⟨q1, q2⟩ := h1.fv j u' x hu' hx
    exact ⟨q1.same0 (fun g hg => by
      obtain ⟨cc, hcc⟩ := rowBlock q1.row hg
      exact hne g cc _ hcc (by decide)), fun g hg => .inl (q2 g hg)⟩
end
end Go.Proofs.YtfjlpifaaknmpaaGreat

/- The document's array: the contracts of goes, why, On, Ons, Fuse. -/
set_option linter.unusedSimpArgs false
set_option linter.unusedVariables false
set_option maxRecDepth 100000
namespace Go.Proofs.YtfjlpifaaknmpaaGreat
open Go.RowKit

namespace AM.RA
def on (A : RA) (d : Int) : Bool := decide (0 ≤ d) && decide (d < A.D.length) && (A.D.getD d.toNat none).isSome
def why (A : RA) (d k : Int) : Nat := if A.dark then 8 else if 0 ≤ d ∧ d < A.D.length ∧ 0 ≤ k ∧ k < A.n then (if (A.D.getD d.toNat none).isSome then 0 else 9) else 6
def burns (A : RA) : Bool := A.left == 1
def burnt (A : RA) : RA := if A.left = 0 then A else { A with left := A.left - 1, dark := A.left == 1 }
end AM.RA

section
variable {G : Nat → Prop} {w : World} {r : Nat} {A : AM.RA}

end
end Go.Proofs.YtfjlpifaaknmpaaGreat

