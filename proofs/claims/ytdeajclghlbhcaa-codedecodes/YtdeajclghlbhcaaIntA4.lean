/- Appends to rows of ints; what stays apart. -/
import Derived.Test.YtdeajclghlbhcaaOwn4
import Derived.ArgAppend
import Derived.Maps.AppendAt
set_option linter.unusedVariables false
namespace Go.Proofs.Ytdeajclghlbhcaa
open Go.RowKit

/-- Rows of two element types lie in two blocks. -/
theorem row_apart {B B' : Nat} {w : World} {e e' : TypeId} {v u : Value} {n m : Nat} {xs ys : List Value} (ne : e ≠ e') (hv : w.ownsRow B e 1 v n xs) (hu : w.ownsRow B' e' 1 u m ys) : Ap v u := by
  unfold Ap
  rcases hv.2 with ⟨rfl, _⟩ | ⟨g, cap, cur, rfl, _, hg, _⟩
  · exact .inl rfl
  · rcases hu.2 with ⟨rfl, _⟩ | ⟨g', cap', cur', rfl, _, hg', _⟩
    · exact .inr (by simp [Value.ownBlock])
    · refine .inr fun h => ?_
      have e1 : g = g' := by simpa [Value.ownBlock] using h
      subst e1
      rw [hg] at hg'
      injection hg' with h1
      injection h1 with _ h2 _
      exact ne h2
theorem IOwn.kept {B : Nat} {w w' : World} {v : Value} {ls : List Int} {row : Option Nat} (h : IOwn B w v ls) (g : w.grownBy w' row) (ne : v.ownBlock = none ∨ v.ownBlock ≠ row) : IOwn B w' v ls := ⟨h.len, h.row.kept g ne⟩
theorem IOwn.hi {B : Nat} {w : World} {v : Value} {ls : List Int} (h : IOwn B w v ls) : Hi w.heap.size v := fun k hk => (h.row.lt k hk).2
theorem IOwn.nil (B : Nat) (w : World) : IOwn B w (.slice none 0 0) [] := ⟨by simp, World.ownsRow_nil w B 3 1⟩
theorem IVec.kept {w w' : World} {v : Value} {ls : List Int} {row : Option Nat} (h : IVec w v ls) (g : w.grownBy w' row) (ne : v.ownBlock = none ∨ v.ownBlock ≠ row) : IVec w' v ls := by
  obtain ⟨h2, p, cap, rfl, h3, h4, h5⟩ := h
  refine ⟨h2, p, cap, rfl, h3, h4, fun hx => ?_⟩
  obtain ⟨b, off, rfl, hc⟩ := h5 hx
  refine ⟨b, off, rfl, fun j hj => g.cell (hc j hj) ?_⟩
  rcases ne with ne | ne
  · simp [Value.ownBlock] at ne
  · simpa [Value.ownBlock] using ne
theorem IVec.cut {w : World} {p : Option Addr} {len cap c' : Nat} {ls : List Int} (h : IVec w (.slice p len cap) ls) {n : Nat} (hn : n ≤ ls.length) (hc : n ≤ c') (hm : c' ≤ cap) : IVec w (.slice p n c') (ls.take n) := by
  obtain ⟨h2, p', cap', e, h3, h4, h5⟩ := h
  injection e with e1 e2 e3
  subst e1
  subst e3
  have hl : (ls.take n).length = n := by simp; omega
  refine ⟨by omega, p, c', by rw [hl], by omega, by omega, fun hne => ?_⟩
  obtain ⟨b, off, e, hc⟩ := h5 (fun e => hne (by rw [e]; simp))
  refine ⟨b, off, e, fun j hj => ?_⟩
  rw [hl] at hj
  rw [hc j (by omega)]
  simp [List.getD, hj]
theorem IVec.tail {w : World} {b off len cap : Nat} {ls : List Int} (h : IVec w (.slice (some ⟨b, off, none⟩) len cap) ls) {n : Nat} (hn : n ≤ ls.length) : IVec w (.slice (some ⟨b, off + n, none⟩) (len - n) (cap - n)) (ls.drop n) := by
  obtain ⟨h2, p', cap', e, h3, h4, h5⟩ := h
  injection e with e1 e2 e3
  subst e3
  have hl : (ls.drop n).length = len - n := by simp; omega
  refine ⟨by omega, _, _, by rw [hl], by omega, by omega, fun hne => ⟨b, off + n, rfl, fun j hj => ?_⟩⟩
  rw [hl] at hj
  obtain ⟨b', off', e', hc⟩ := h5 (fun e => hne (by rw [e]; simp))
  rw [← e1] at e'
  injection e' with e'
  injection e' with e3 e4
  subst e3
  subst e4
  rw [Nat.add_assoc, hc (n + j) (by omega)]
  simp [List.getD]
theorem IVec.none {w : World} (p : Option Addr) (c : Nat) (hc : c ≤ maxLen) : IVec w (.slice p 0 c) [] := ⟨by simp, p, c, rfl, by simp, hc, fun h => absurd rfl h⟩

theorem run_append_int {B : Nat} {w : World} {dv : Value} {ls : List Int} (hd : IOwn B w dv ls) (ad : Addr) {x : Int} (hu : w.cell? ad = some (.int .i64 x)) (hB : B ≤ w.heap.size) (hl : (ls.length + 1) * 8 ≤ 140737488351232) (ty : TypeId) :
    ∃ v' w', (Builtin.append_ #[45, 45] ty #[dv, .slice (some ad) 1 1]).run Try.prog w = .ok v' w' ∧ IOwn B w' v' (ls ++ [x]) ∧ w.grownBy w' dv.ownBlock ∧ (v'.ownBlock = dv.ownBlock ∨ v'.ownBlock = some w.heap.size) := by
  obtain ⟨i0, hi, hz0, hz1, hz2⟩ := info_parts Try.infoI
  obtain ⟨v', w', r1, r2, r3, _, r5⟩ := run_append_own_at (P := Try.prog) w B 45 ty 3 i0 (.int .i64 0) 1 8 Try.underlying45 hi hz0 hz1 hz2 rfl (by decide) dv ls.length _ hd.row ad 1 1 [.int .i64 x] (by simp)
    (fun j v hj => by
      match j, hj with
      | 0, hj => simp at hj; subst hj; simpa [Addr.add] using hu)
    (fun v hv => by simp at hv; subst hv; rfl) (by unfold maxLen; omega) (by omega) hB
  exact ⟨v', w', r1, ⟨by simpa using hl, by simpa using r2⟩, r3, r5⟩
theorem wpList_append_int {w : World} {ops : Array Oper} {rest : List Oper} {o : Oper} {a : Act} {Q : Exit → Act → World → Prop} (hgd : o.guard = none) (d s : Operand)
    (ho : o.op = .call { callee := .builtin .append, args := #[d, s], argTypes := #[45, 45] }) (dv : Value) (ad : Addr) (hed : a.eval d = dv) (hes : a.eval s = .slice (some ad) 1 1)
    {B : Nat} {ls : List Int} {x : Int} (hd : IOwn B w dv ls) (hu : w.cell? ad = some (.int .i64 x)) (hB : B ≤ w.heap.size) (hl : (ls.length + 1) * 8 ≤ 140737488351232)
    (h : ∀ v' w', IOwn B w' v' (ls ++ [x]) → w.grownBy w' dv.ownBlock → (v'.ownBlock = dv.ownBlock ∨ v'.ownBlock = some w.heap.size) → wpList Try.prog ops Q rest (a.put o.dst v') w') : wpList Try.prog ops Q (o :: rest) a w := by
  refine wpList_plain hgd fun K hK => ?_
  obtain ⟨v', w', hrun, r1, r2, r3⟩ := run_append_int hd ad hu hB hl o.type
  unfold Oper.wp
  simp [execOp, ho, resolve, invoke, builtin, hed, hes, hrun, Result.andThen]
  exact hK _ _ (h _ _ r1 r2 r3)
theorem step_append_int {ops : Array Oper} {o : Oper} {a : Act} {w : World} {K : Act → World → Prop} {Q : Exit → Act → World → Prop} {E : Prop} (hgd : o.guard = none) (d s : Operand)
    (ho : o.op = .call { callee := .builtin .append, args := #[d, s], argTypes := #[45, 45] }) (dv : Value) (ad : Addr) (hed : a.eval d = dv) (hes : a.eval s = .slice (some ad) 1 1)
    {B : Nat} {ls : List Int} {x : Int} (hd : IOwn B w dv ls) (hu : w.cell? ad = some (.int .i64 x)) (hB : B ≤ w.heap.size) (hl : (ls.length + 1) * 8 ≤ 140737488351232)
    (h : ∀ v' w', IOwn B w' v' (ls ++ [x]) → w.grownBy w' dv.ownBlock → (v'.ownBlock = dv.ownBlock ∨ v'.ownBlock = some w.heap.size) → K (a.put o.dst v') w') :
    if Region.wanted o (yielded ops a.tmps) = true then Oper.wp Try.prog o a w K Q else E := by
  have hw : Region.wanted o (yielded ops a.tmps) = true := by simp [Region.wanted, hgd]
  rw [if_pos hw]
  obtain ⟨v', w', hrun, r1, r2, r3⟩ := run_append_int hd ad hu hB hl o.type
  unfold Oper.wp
  simp [execOp, ho, resolve, invoke, builtin, hed, hes, hrun, Result.andThen]
  exact h _ _ r1 r2 r3

/-- append(d, s...), where d has no room. -/
theorem run_append_rest {w : World} {b off n : Nat} {s : Value} {ls ms : List Int} (hd : IVec w (.slice (some ⟨b, off, none⟩) n n) ls) (hs : IVec w s ms) (hl : ls.length + ms.length ≤ 1000) (ty : TypeId) :
    ∃ v' w', (Builtin.append_ #[45, 45] ty #[.slice (some ⟨b, off, none⟩) n n, s]).run Try.prog w = .ok v' w' ∧ IVec w' v' (ls ++ ms) ∧ w.grownBy w' none ∧ ((v'.ownBlock = some b ∧ w' = w) ∨ (Lo w.heap.size v' ∧ Hi w'.heap.size v')) := by
  obtain ⟨i0, hi, hz0, hz1, hz2⟩ := info_parts Try.infoI
  obtain ⟨d2, pd, capd, ed, d3, d4, d5⟩ := hd
  injection ed with ed1 ed2 ed3
  subst ed1
  subst ed2
  subst ed3
  obtain ⟨s2, p, cap, rfl, s3, s4, s5⟩ := hs
  have hds : ∀ j u, (ls.map (fun x => Value.int .i64 x))[j]? = some u → w.cell? ((⟨b, off, none⟩ : Addr).add j) = some u := fun j u hj => by
    have hj' : j < ls.length := by
      have := (List.getElem?_eq_some_iff.1 hj).1
      simpa using this
    obtain ⟨b1, off1, e, hc⟩ := d5 (fun e => by subst e; simp at hj')
    injection e with e
    injection e with e1 e2
    subst e1
    subst e2
    rw [show (ls.map (fun x => Value.int .i64 x))[j]? = some (.int .i64 (ls.getD j 0)) from by simp [List.getD, hj']] at hj
    rw [add_off, hc j hj']; exact hj
  by_cases hy : ms = []
  · subst hy
    refine ⟨.slice (some ⟨b, off, none⟩) ls.length ls.length, w, ?_, ?_, World.grownBy.refl _ _, .inl ⟨rfl, rfl⟩⟩
    · cases p with
      | none => simp [Builtin.append_, run_underlying Try.underlying45, sizeOf, typeInfo, hi, Builtin.lenOf, Builtin.firstCells, storeCells]
      | some a =>
        have hla : (loadCells a 0).run Try.prog w = .ok #[] w := by simpa using run_loadCells_list (P := Try.prog) w a [] (by simp)
        simp [Builtin.append_, run_underlying Try.underlying45, sizeOf, typeInfo, hi, Builtin.lenOf, Builtin.firstCells, storeCells, hla]
    · rw [List.append_nil]
      exact ⟨d2, _, _, rfl, d3, d4, d5⟩
  · obtain ⟨bs, os, rfl, hc⟩ := s5 hy
    have hm : 0 < ms.length := List.length_pos_iff.2 hy
    obtain ⟨v', w', h1, h2, h3⟩ := run_append_arg_grows (P := Try.prog) w 45 ty 3 i0 (.int .i64 0) 1 8 Try.underlying45 hi hz0 hz1 hz2 rfl (by decide) ⟨b, off, none⟩ ls.length ls.length (ls.map fun x => .int .i64 x) (by simp) hds ⟨bs, os, none⟩ ms.length cap (ms.map fun x => .int .i64 x) (by simp)
      (fun j u hj => by
        have hj' : j < ms.length := by
          have := (List.getElem?_eq_some_iff.1 hj).1
          simpa using this
        rw [show (ms.map (fun x => Value.int .i64 x))[j]? = some (.int .i64 (ms.getD j 0)) from by simp [List.getD, hj']] at hj
        rw [add_off, hc j hj']; exact hj) (by omega) (by unfold maxLen; omega) (by omega)
    have io : IOwn w.heap.size w' v' (ls ++ ms) := ⟨by rw [List.length_append]; omega, by rw [List.length_append, List.map_append]; exact h2⟩
    exact ⟨v', w', h1, io.ivec, h3, .inr ⟨io.lo, io.hi⟩⟩
theorem step_append_rest {ops : Array Oper} {o : Oper} {a : Act} {w : World} {K : Act → World → Prop} {Q : Exit → Act → World → Prop} {E : Prop} (hgd : o.guard = none) (d s : Operand)
    (ho : o.op = .call { callee := .builtin .append, args := #[d, s], argTypes := #[45, 45] }) (sv : Value) {b off n : Nat} (hed : a.eval d = .slice (some ⟨b, off, none⟩) n n) (hes : a.eval s = sv)
    {ls ms : List Int} (hd : IVec w (.slice (some ⟨b, off, none⟩) n n) ls) (hs : IVec w sv ms) (hl : ls.length + ms.length ≤ 1000)
    (h : ∀ v' w', IVec w' v' (ls ++ ms) → w.grownBy w' none → ((v'.ownBlock = some b ∧ w' = w) ∨ (Lo w.heap.size v' ∧ Hi w'.heap.size v')) → K (a.put o.dst v') w') :
    if Region.wanted o (yielded ops a.tmps) = true then Oper.wp Try.prog o a w K Q else E := by
  have hw : Region.wanted o (yielded ops a.tmps) = true := by simp [Region.wanted, hgd]
  rw [if_pos hw]
  obtain ⟨v', w', hrun, r1, r2, r3⟩ := run_append_rest hd hs hl o.type
  unfold Oper.wp
  simp [execOp, ho, resolve, invoke, builtin, hed, hes, hrun, Result.andThen]
  exact h _ _ r1 r2 r3

/-- A row of ints and a row of slices grow: what lies apart from both stays. -/
theorem two_app {B : Nat} {w0 wr W w1 W' w2 : World} {a b l va vb : Value} {LA LA' ms : List Int} {UB UB' : List Value}
    (OA : IOwn B wr a LA) (OB : Out B wr b UB) (VL : IVec wr l ms) (HL : Hi wr.heap.size l) (AP : Ap l a ∧ Ap l b) (GK : w0.grownBy wr none) (hB : B = w0.heap.size)
    (g1 : wr.grownBy W none) (ga : W.grownBy w1 a.ownBlock) (oa : IOwn B w1 va LA') (ata : va.ownBlock = a.ownBlock ∨ va.ownBlock = some W.heap.size)
    (g2 : w1.grownBy W' none) (gb : W'.grownBy w2 b.ownBlock) (ob : Out B w2 vb UB') (atb : vb.ownBlock = b.ownBlock ∨ vb.ownBlock = some W'.heap.size) :
    IOwn B w2 va LA' ∧ Out B w2 vb UB' ∧ IVec w2 l ms ∧ Hi w2.heap.size l ∧ (Ap l va ∧ Ap l vb) ∧ w0.grownBy w2 none := by
  have hne : 3 ≠ 39 := by decide
  have hlW : Hi W.heap.size l := HL.mono g1.size
  have hlW' : Hi W'.heap.size l := hlW.mono (Nat.le_trans ga.size g2.size)
  have vl1 : IVec W' l ms := ((VL.keep g1).kept ga AP.1).keep g2
  have ob1 : Out B W' b UB := ((OB.keep g1).kept ga (Ap.symm (row_apart hne (OA.keep g1).row (OB.keep g1).row))).keep g2
  have oa1 : IOwn B W' va LA' := oa.keep g2
  refine ⟨oa1.kept gb (row_apart hne oa1.row ob1.row), ob, vl1.kept gb AP.2, hlW'.mono gb.size, ⟨AP.1.grown hlW ata, AP.2.grown hlW' atb⟩, ?_⟩
  have h1 : w0.grownBy w1 none := grown_new (grown_trans GK g1) ga (by rw [← hB]; exact OA.lo)
  exact grown_new (grown_trans h1 g2) gb (by rw [← hB]; exact OB.lo)
end Go.Proofs.Ytdeajclghlbhcaa
