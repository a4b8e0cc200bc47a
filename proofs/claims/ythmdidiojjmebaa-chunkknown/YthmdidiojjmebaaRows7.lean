/- Slices of slices that the call makes, their rows in blocks of whatever one type (RMat); append of one row; make with room. -/
import Derived.Test.YthmdidiojjmebaaAll5
import Derived.Test.YthmdidiojjmebaaCMath
import Derived.Maps.AppendAt
import Derived.Laws.MakeOwn
namespace Go.Proofs.Ythmdidiojjmebaa
open Go.RowKit

theorem Try.info22 : (Try.prog.info? 23).map (fun i => (i.zero, i.size, i.bytes)) = some (some (.slice none 0 0), 1, 24) := by kernel_rfl

theorem list_ext {X Y : List (List Nat)} (hl : X.length = Y.length) (h : ∀ j, j < X.length → X.getD j [] = Y.getD j []) : X = Y := by
  apply List.ext_getElem hl
  intro i h1 h2
  have := h i h1
  simpa [List.getD, h1, h2] using this

theorem Cells.opened {w : World} {v : Value} {vs : List Value} (h : Cells w v vs) : ∃ p n cap, v = .slice p n cap ∧ n = vs.length := by
  obtain ⟨p, cap, e, _⟩ := h.form
  exact ⟨p, _, cap, e, rfl⟩
theorem Cells.spot {w : World} {p : Option Addr} {n cap : Nat} {vs : List Value} (h : Cells w (.slice p n cap) vs) {k : Nat} (hk : k < vs.length) :
    ∃ b off, p = some ⟨b, off, none⟩ ∧ w.cell? ⟨b, off + k, none⟩ = some (vs.getD k undef) := by
  obtain ⟨b, off, cap', e, h1⟩ := h.at hk
  injection e with e1 _ _
  exact ⟨b, off, e1, h1⟩
theorem mat_n {w : World} {p : Option Addr} {n c : Nat} {us : List Value} {X : List (List Nat)} (h : Mat w (.slice p n c) us X) : us.length = n ∧ X.length = n := by
  have hs := h.same
  obtain ⟨p', n', c', e', h'⟩ := h.row.opened
  injection e' with e1 e2 e3
  omega
theorem Mat.small {w : World} {v : Value} {us : List Value} {X : List (List Nat)} (h : Mat w v us X) : ∀ j, j < X.length → ∀ x ∈ X.getD j [], x < 256 := fun j hj => (h.vec j hj).small
theorem Mat.nil (w : World) : Mat w (.slice none 0 0) [] [] := ⟨⟨by simp, none, 0, rfl, Nat.le_refl _, by decide, fun h => absurd rfl h⟩, rfl, by simp⟩

/-- A slice of slices of the call's own, each row in a block of its own of the type T. -/
structure RMat (T : TypeId) (B : Nat) (w : World) (v : Value) (us : List Value) (X : List (List Nat)) : Prop where
  len : us.length * 24 ≤ 140737488351232
  row : w.ownsRow B 23 1 v us.length us
  same : us.length = X.length
  vec : ∀ j, j < X.length → Arr T B w (us.getD j undef) (X.getD j [])

theorem RMat.nil (T : TypeId) (B : Nat) (w : World) : RMat T B w (.slice none 0 0) [] [] := ⟨by simp, World.ownsRow_nil w B 23 1, rfl, by simp⟩
theorem RMat.lo {T : TypeId} {B : Nat} {w : World} {v : Value} {us : List Value} {X : List (List Nat)} (h : RMat T B w v us X) : Lo B v := fun k hk => (h.row.lt k hk).1
theorem RMat.hi {T : TypeId} {B : Nat} {w : World} {v : Value} {us : List Value} {X : List (List Nat)} (h : RMat T B w v us X) : Hi w.heap.size v := fun k hk => (h.row.lt k hk).2
theorem RMat.keep {T : TypeId} {B : Nat} {w w' : World} {v : Value} {us : List Value} {X : List (List Nat)} (h : RMat T B w v us X) (g : w.grownBy w' none) : RMat T B w' v us X :=
  ⟨h.len, h.row.kept g (by cases h : v.ownBlock <;> simp), h.same, fun j hj => (h.vec j hj).keep g⟩
/-- A block that is none of these turns. -/
theorem RMat.kept {T : TypeId} {B : Nat} {w w' : World} {v : Value} {us : List Value} {X : List (List Nat)} {row : Option Nat} (h : RMat T B w v us X) (g : w.grownBy w' row) (hr : ∀ r, row = some r → ∀ c f, w.heap[r]? ≠ some (.cells c 23 f) ∧ w.heap[r]? ≠ some (.cells c T f)) : RMat T B w' v us X := by
  refine ⟨h.len, h.row.kept g ?_, h.same, fun j hj => (h.vec j hj).kept g ?_⟩
  · rcases h.row.2 with ⟨e, _⟩ | ⟨b, cap, cur, e, _, hg, _⟩
    · subst e; exact .inl rfl
    · subst e
      exact .inr fun e => (hr b (by simpa [Value.ownBlock] using e.symm) cur (0, 0)).1 hg
  · rcases (h.vec j hj).row.2 with ⟨e, _⟩ | ⟨b, cap, cur, e, _, hg, _⟩
    · rw [e]; exact .inl rfl
    · rw [e]
      exact .inr fun e => (hr b (by simpa [Value.ownBlock] using e.symm) cur (0, 0)).2 hg

theorem RMat.apart {T T' : TypeId} (hT : T' ≠ 23) {B B' : Nat} {w : World} {v u : Value} {us : List Value} {X : List (List Nat)} {xs : List Nat} (h : RMat T B w v us X) (hu : Arr T' B' w u xs) : u.ownBlock = none ∨ u.ownBlock ≠ v.ownBlock := by
  rcases hu.row.2 with ⟨rfl, _⟩ | ⟨g, cap, cur, rfl, _, hg, _⟩
  · exact .inl rfl
  · rcases h.row.2 with ⟨rfl, _⟩ | ⟨g', cap', cur', rfl, _, hg', _⟩
    · exact .inr (by simp [Value.ownBlock])
    · refine .inr fun e => ?_
      simp only [Value.ownBlock, Option.some.injEq] at e
      subst e
      rw [hg] at hg'
      simp at hg'
      exact hT hg'.2

/-- One row more. -/
theorem RMat.more {T : TypeId} (hT : T ≠ 23) {B : Nat} {w w2 : World} {v v' u : Value} {us : List Value} {X : List (List Nat)} {xs : List Nat} (h : RMat T B w v us X) (hu : Arr T B w u xs)
    (hl : (us.length + 1) * 24 ≤ 140737488351232) (hr : w2.ownsRow B 23 1 v' (us.length + 1) (us ++ [u])) (hg : w.grownBy w2 v.ownBlock) : RMat T B w2 v' (us ++ [u]) (X ++ [xs]) := by
  refine ⟨by simpa using hl, by simpa using hr, by simp [h.same], fun j hj => ?_⟩
  have hs := h.same
  by_cases hj' : j < X.length
  · have e1 : (us ++ [u]).getD j undef = us.getD j undef := by simp [List.getD, List.getElem?_append, show j < us.length from by omega]
    have e2 : (X ++ [xs]).getD j [] = X.getD j [] := by simp [List.getD, List.getElem?_append, hj']
    rw [e1, e2]
    exact (h.vec j hj').kept hg (h.apart hT (h.vec j hj'))
  · have hj2 : j = X.length := by simp at hj; omega
    have e1 : (us ++ [u]).getD j undef = u := by simp [List.getD, hj2, ← hs]
    have e2 : (X ++ [xs]).getD j [] = xs := by simp [List.getD, hj2]
    rw [e1, e2]
    exact hu.kept hg (h.apart hT hu)

theorem RMat.mat {T : TypeId} {B : Nat} {w : World} {v : Value} {us : List Value} {X : List (List Nat)} (h : RMat T B w v us X) : Mat w v us X := by
  refine ⟨⟨h.len, ?_⟩, h.same, fun j hj => (h.vec j hj).vec⟩
  have hr := h.row
  rcases h.row.2 with ⟨rfl, hn⟩ | ⟨g, cap, cur, rfl, hb, hg, hc, hm, hs, ht⟩
  · have : us = [] := List.eq_nil_of_length_eq_zero hn
    subst this
    exact ⟨none, 0, rfl, Nat.le_refl _, by decide, fun h => absurd rfl h⟩
  · refine ⟨some ⟨g, 0, none⟩, cap, rfl, hc, hm, fun _ => ⟨g, 0, rfl, fun j hj => ?_⟩⟩
    have := hr.cells (g := g) rfl j (us.getD j undef) (by simp [List.getD, hj])
    rwa [add_at] at this
theorem RMat.down {T : TypeId} {B B' : Nat} {w : World} {v : Value} {us : List Value} {X : List (List Nat)} (h : RMat T B' w v us X) (hB : B ≤ B') : RMat T B w v us X :=
  ⟨h.len, ⟨h.row.1, by
    rcases h.row.2 with h | ⟨g, cp, cur, a1, a2, a3⟩
    · exact .inl h
    · exact .inr ⟨g, cp, cur, a1, by omega, a3⟩⟩, h.same, fun j hj => (h.vec j hj).down hB⟩

theorem cell_new1 {W : World} {g : Nat} (x : Value) (t : TypeId) (h : g = W.heap.size) : (W.alloc (.cells #[x] t)).cell? ⟨g, 0, none⟩ = some x := by
  subst h
  have h := heap_alloc_new W (.cells #[x] t)
  unfold World.cell?
  rw [h]; rfl
theorem run_append_row {B : Nat} {w : World} {dv : Value} {us : List Value} (hd : w.ownsRow B 23 1 dv us.length us) (ad : Addr) {u : Value} (hu : w.cell? ad = some u) (h1 : u.oneCell' = true) (hB : B ≤ w.heap.size) (hl : (us.length + 1) * 24 ≤ 140737488351232) (ty : TypeId) :
    ∃ v' w', (Builtin.append_ #[24, 24] ty #[dv, .slice (some ad) 1 1]).run Try.prog w = .ok v' w' ∧ w'.ownsRow B 23 1 v' (us.length + 1) (us ++ [u]) ∧ w.grownBy w' dv.ownBlock ∧ (v'.ownBlock = dv.ownBlock ∨ v'.ownBlock = some w.heap.size) := by
  obtain ⟨i0, hi, hz0, hz1, hz2⟩ := info_parts Try.info22
  obtain ⟨v', w', r1, r2, r3, _, r5⟩ := run_append_own_at (P := Try.prog) w B 24 ty 23 i0 (.slice none 0 0) 1 24 Try.underlying24 hi hz0 hz1 hz2 rfl (by decide) dv us.length us hd ad 1 1 [u] (by simp)
    (fun j v hj => by
      match j, hj with
      | 0, hj => simp at hj; subst hj; simpa [Addr.add] using hu)
    (fun v hv => by simp at hv; subst hv; exact h1) (by unfold maxLen; omega) (by omega) hB
  exact ⟨v', w', r1, by simpa using r2, r3, r5⟩

theorem wpList_append_row {w : World} {ops : Array Oper} {rest : List Oper} {o : Oper} {a : Act} {Q : Exit → Act → World → Prop} (hgd : o.guard = none) (d s : Operand)
    (ho : o.op = .call { callee := .builtin .append, args := #[d, s], argTypes := #[24, 24] }) (dv : Value) (ad : Addr) (hed : a.eval d = dv) (hes : a.eval s = .slice (some ad) 1 1)
    {B : Nat} {us : List Value} {u : Value} (hd : w.ownsRow B 23 1 dv us.length us) (hu : w.cell? ad = some u) (h1 : u.oneCell' = true) (hB : B ≤ w.heap.size) (hl : (us.length + 1) * 24 ≤ 140737488351232)
    (h : ∀ v' w', w'.ownsRow B 23 1 v' (us.length + 1) (us ++ [u]) → w.grownBy w' dv.ownBlock → (v'.ownBlock = dv.ownBlock ∨ v'.ownBlock = some w.heap.size) → wpList Try.prog ops Q rest (a.put o.dst v') w') : wpList Try.prog ops Q (o :: rest) a w := by
  refine wpList_plain hgd fun K hK => ?_
  obtain ⟨v', w', hrun, r1, r2, r3⟩ := run_append_row hd ad hu h1 hB hl o.type
  unfold Oper.wp
  simp [execOp, ho, resolve, invoke, builtin, hed, hes, hrun, Result.andThen]
  exact hK _ _ (h _ _ r1 r2 r3)

theorem step_append_row {ops : Array Oper} {o : Oper} {a : Act} {w : World} {K : Act → World → Prop} {Q : Exit → Act → World → Prop} {E : Prop} (hgd : o.guard = none) (d s : Operand)
    (ho : o.op = .call { callee := .builtin .append, args := #[d, s], argTypes := #[24, 24] }) (dv : Value) (ad : Addr) (hed : a.eval d = dv) (hes : a.eval s = .slice (some ad) 1 1)
    {B : Nat} {us : List Value} {u : Value} (hd : w.ownsRow B 23 1 dv us.length us) (hu : w.cell? ad = some u) (h1 : u.oneCell' = true) (hB : B ≤ w.heap.size) (hl : (us.length + 1) * 24 ≤ 140737488351232)
    (h : ∀ v' w', w'.ownsRow B 23 1 v' (us.length + 1) (us ++ [u]) → w.grownBy w' dv.ownBlock → (v'.ownBlock = dv.ownBlock ∨ v'.ownBlock = some w.heap.size) → K (a.put o.dst v') w') :
    if Region.wanted o (yielded ops a.tmps) = true then Oper.wp Try.prog o a w K Q else E := by
  have hw : Region.wanted o (yielded ops a.tmps) = true := by simp [Region.wanted, hgd]
  rw [if_pos hw]
  obtain ⟨v', w', hrun, r1, r2, r3⟩ := run_append_row hd ad hu h1 hB hl o.type
  unfold Oper.wp
  simp [execOp, ho, resolve, invoke, builtin, hed, hes, hrun, Result.andThen]
  exact h _ _ r1 r2 r3

/-- make([]byte, 0, n). -/
theorem run_make_room (W : World) {n : Nat} (hn : n ≤ 140737488351232) : ∃ w', (Instr.makeSlice 23 (.int .i64 0) (.int .i64 (n : Int))).run Try.prog W = .ok (.slice (some ⟨W.heap.size, 0, none⟩) 0 n) w' ∧ Own W.heap.size w' (.slice (some ⟨W.heap.size, 0, none⟩) 0 n) [] ∧ W.grownBy w' none := by
  obtain ⟨i0, hi, hz0, hz1, hz2⟩ := info_parts Try.info5
  obtain ⟨w', h1, h2, h3⟩ := run_make_own (P := Try.prog) W W.heap.size 23 5 i0 (.int .u8 0) 1 Try.underlying23 hi hz0 hz1 .i64 .i64 n (by rw [hz2]; omega) (by unfold maxLen; omega) (Nat.le_refl _)
  exact ⟨w', h1, ⟨by simp, by simp, by simpa using h2⟩, h3⟩
theorem wpList_make_room {w : World} {ops : Array Oper} {rest : List Oper} {o : Oper} {a : Act} {Q : Exit → Act → World → Prop} (hgd : o.guard = none) (l c : Operand)
    (ho : o.op = Op.makeSlice 23 l c) (n : Nat) (hel : a.eval l = .int .i64 0) (hec : a.eval c = .int .i64 (n : Int)) (hn : n ≤ 140737488351232)
    (h : ∀ w1, Own w.heap.size w1 (.slice (some ⟨w.heap.size, 0, none⟩) 0 n) [] → w.grownBy w1 none → wpList Try.prog ops Q rest (a.put o.dst (.slice (some ⟨w.heap.size, 0, none⟩) 0 n)) w1) : wpList Try.prog ops Q (o :: rest) a w := by
  refine wpList_plain hgd fun K hK => ?_
  obtain ⟨w', hrun, r1, r2⟩ := run_make_room w hn
  unfold Oper.wp
  simp [execOp, ho, hel, hec, hrun, Result.andThen]
  exact hK _ _ (h _ r1 r2)
/-- make([][]byte, 0, n). -/
theorem run_make_rows0 (W : World) {n : Nat} (hn : n * 24 ≤ 140737488351232) : ∃ w', (Instr.makeSlice 24 (.int .i64 0) (.int .i64 (n : Int))).run Try.prog W = .ok (.slice (some ⟨W.heap.size, 0, none⟩) 0 n) w' ∧ w'.ownsRow W.heap.size 23 1 (.slice (some ⟨W.heap.size, 0, none⟩) 0 n) 0 [] ∧ W.grownBy w' none := by
  obtain ⟨i0, hi, hz0, hz1, hz2⟩ := info_parts Try.info22
  exact run_make_own (P := Try.prog) W W.heap.size 24 23 i0 (.slice none 0 0) 1 Try.underlying24 hi hz0 hz1 .i64 .i64 n (by rw [hz2]; omega) (by unfold maxLen; omega) (Nat.le_refl _)
end Go.Proofs.Ythmdidiojjmebaa
