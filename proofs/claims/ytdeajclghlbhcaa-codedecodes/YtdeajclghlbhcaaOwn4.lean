/- Rows of a call's own, of ints and of slices that lie elsewhere: made, read, stored into. -/
import Derived.Test.YtdeajclghlbhcaaGen4
import Derived.Test.YtdeajclghlbhcaaInts
set_option linter.unusedVariables false
namespace Go.Proofs.Ytdeajclghlbhcaa
open Go.RowKit

/-- A place of a row of its own: read, and stored into. -/
theorem row_place {B : Nat} {w : World} {t : TypeId} {p : Option Addr} {n cap m : Nat} {us : List Value} (h : w.ownsRow B t 1 (.slice p n cap) m us) (hm' : m = us.length) {k : Nat} (hk : k < us.length) :
    ∃ g, p = some ⟨g, 0, none⟩ ∧ n = us.length ∧ B ≤ g ∧ w.cell? ⟨g, k, none⟩ = some (us.getD k undef) ∧ w.frozen? ⟨g, k, none⟩ = false ∧
      (∀ u, (w.setCell ⟨g, k, none⟩ u).ownsRow B t 1 (.slice (some ⟨g, 0, none⟩) n cap) m (us.set k u)) ∧ ∀ u, w.grownBy (w.setCell ⟨g, k, none⟩ u) (some g) := by
  subst hm'
  have hr := h
  rcases h.2 with ⟨e, hn⟩ | ⟨g, cap', cur, e, hb, hg, hc, hm, hs, ht⟩
  · omega
  · injection e with e1 e2 e3
    subst e1
    subst e2
    subst e3
    have hcell : w.cell? ⟨g, k, none⟩ = some (us.getD k undef) := by
      have := hr.cells (g := g) rfl k (us.getD k undef) (by simp [List.getD, hk])
      rwa [add_at, Nat.zero_add] at this
    refine ⟨g, rfl, rfl, hb, hcell, by simp [World.frozen?, hg], fun u => ⟨by simp, .inr ⟨g, cap, cur.setIfInBounds k u, rfl, hb, ?_, by simpa using hc, hm, by simpa using hs, ?_⟩⟩, fun u => ⟨rfl, rfl, rfl, by simp, fun i hi hne => Below.heap_setCell _ _ _ _ (by simpa using hne)⟩⟩
    · rw [setCell_eq_setRow w g k cur t (0, 0) _ hg]
      exact setRow_heap w g cur _ t _ hg
    · simp only [Array.toList_setIfInBounds]
      rw [List.take_set, ht]

/-- The slice v has the ints ls, in a row of its own, in a block from B on. -/
structure IOwn (B : Nat) (w : World) (v : Value) (ls : List Int) : Prop where
  len : ls.length * 8 ≤ 140737488351232
  row : w.ownsRow B 3 1 v ls.length (ls.map (Value.int .i64))
theorem IOwn.keep {B : Nat} {w w' : World} {v : Value} {ls : List Int} (h : IOwn B w v ls) (g : w.grownBy w' none) : IOwn B w' v ls := ⟨h.len, h.row.kept g (Classical.em _)⟩
theorem IOwn.lo {B : Nat} {w : World} {v : Value} {ls : List Int} (h : IOwn B w v ls) : Lo B v := fun k hk => (h.row.lt k hk).1
theorem IOwn.ivec {B : Nat} {w : World} {v : Value} {ls : List Int} (h : IOwn B w v ls) : IVec w v ls := by
  have hl := h.len
  refine ⟨by omega, ?_⟩
  rcases h.row.2 with ⟨e, hn⟩ | ⟨g, cap', cur, e, hb, hg, hc, hm, hs, ht⟩
  · exact ⟨none, 0, by rw [e, hn], by omega, by decide, fun hne => absurd (List.eq_nil_of_length_eq_zero hn) hne⟩
  · refine ⟨some ⟨g, 0, none⟩, cap', e, hc, hm, fun hne => ⟨g, 0, rfl, fun j hj => ?_⟩⟩
    have hr := h.row
    have := hr.cells (g := g) (by rw [e]; rfl) j (.int .i64 (ls.getD j 0)) (by simp [List.getD, hj])
    rwa [add_at] at this
theorem IOwn.place {B : Nat} {w : World} {p : Option Addr} {n cap : Nat} {ls : List Int} (h : IOwn B w (.slice p n cap) ls) {k : Nat} (hk : k < ls.length) :
    ∃ g, p = some ⟨g, 0, none⟩ ∧ B ≤ g ∧ w.cell? ⟨g, k, none⟩ = some (.int .i64 (ls.getD k 0)) ∧ w.frozen? ⟨g, k, none⟩ = false ∧
      (∀ z : Int, IOwn B (w.setCell ⟨g, k, none⟩ (.int .i64 z)) (.slice (some ⟨g, 0, none⟩) n cap) (ls.set k z)) ∧ ∀ u, w.grownBy (w.setCell ⟨g, k, none⟩ u) (some g) := by
  obtain ⟨g, e, hn, hb, hc, hf, hset, hgr⟩ := row_place h.row (by simp) (k := k) (by simpa using hk)
  refine ⟨g, e, hb, by rw [hc]; simp [List.getD, hk], hf, fun z => ⟨by simpa using h.len, ?_⟩, hgr⟩
  have := hset (.int .i64 z)
  simpa [List.map_set] using this
theorem made_ints {w w' : World} {n : Nat} (hn : n * 8 ≤ 140737488351232) (e : w' = w.alloc (.cells (madeCells #[.int .i64 0] n) 3)) : IOwn w.heap.size w' (.slice (some ⟨w.heap.size, 0, none⟩) n n) (List.replicate n 0) := by
  subst e
  refine ⟨by simpa using hn, ⟨by simp, .inr ⟨w.heap.size, n, _, by simp, Nat.le_refl _, heap_alloc_new w _, by simp, by unfold maxLen; omega, ?_, ?_⟩⟩⟩
  · simp [madeCells]
  · rw [Nat.mul_one, List.length_replicate, made_list _ n]; simp
theorem wpList_make_ints {w : World} {ops : Array Oper} {rest : List Oper} {o : Oper} {a : Act} {Q : Exit → Act → World → Prop} (hgd : o.guard = none) (l c : Operand)
    (ho : o.op = Op.makeSlice 45 l c) (n : Nat) (hel : a.eval l = .int .i64 (n : Int)) (hec : a.eval c = .int .i64 (n : Int)) (hn : n * 8 ≤ 140737488351232)
    (h : ∀ w1 p, IOwn w.heap.size w1 (.slice p n n) (List.replicate n 0) → w.grownBy w1 none → wpList Try.prog ops Q rest (a.put o.dst (.slice p n n)) w1) : wpList Try.prog ops Q (o :: rest) a w := by
  obtain ⟨i0, hi, hz0, hz1, hz2⟩ := info_parts Try.infoI
  refine wpList_make_row _ hgd l c 45 ho 3 i0 (.int .i64 0) Try.underlying45 hi hz0 hz1 rfl _ _ n hel hec (by rw [hz2]; omega) (by omega) ?_
  exact h _ _ (made_ints hn rfl) (World.grownBy_alloc _ _ none)

theorem Out.place {B : Nat} {w : World} {p : Option Addr} {n cap : Nat} {us : List Value} (h : Out B w (.slice p n cap) us) {k : Nat} (hk : k < us.length) :
    ∃ g, p = some ⟨g, 0, none⟩ ∧ B ≤ g ∧ w.cell? ⟨g, k, none⟩ = some (us.getD k undef) ∧ w.frozen? ⟨g, k, none⟩ = false ∧
      (∀ u, Out B (w.setCell ⟨g, k, none⟩ u) (.slice (some ⟨g, 0, none⟩) n cap) (us.set k u)) ∧ ∀ u, w.grownBy (w.setCell ⟨g, k, none⟩ u) (some g) := by
  obtain ⟨g, e, hn, hb, hc, hf, hset, hgr⟩ := row_place h.row rfl (k := k) hk
  exact ⟨g, e, hb, hc, hf, fun u => ⟨by simpa using h.len, by have := hset u; simpa using this⟩, hgr⟩
theorem wpList_make_out {w : World} {ops : Array Oper} {rest : List Oper} {o : Oper} {a : Act} {Q : Exit → Act → World → Prop} (hgd : o.guard = none) (l c : Operand)
    (ho : o.op = Op.makeSlice 24 l c) (n : Nat) (hel : a.eval l = .int .i64 (n : Int)) (hec : a.eval c = .int .i64 (n : Int)) (hn : n * 24 ≤ 140737488351232)
    (h : ∀ w1 p, Out w.heap.size w1 (.slice p n n) (List.replicate n (.slice none 0 0)) → w.grownBy w1 none → wpList Try.prog ops Q rest (a.put o.dst (.slice p n n)) w1) : wpList Try.prog ops Q (o :: rest) a w :=
  wpList_make_chunks hgd l c ho n hel hec hn fun w1 p om g => h w1 p ⟨om.len, om.row⟩ g
end Go.Proofs.Ytdeajclghlbhcaa
