/- Slices of slices in memory, and what keeps them (the general part of the vector seat's texts). -/
import Derived.Test.YtdeajclghlbhcaaVec
import Derived.Test.YtdeajclghlbhcaaMem
import Derived.Maps.AppendAt
namespace Go.Proofs.Ytdeajclghlbhcaa
open Go.RowKit

theorem Vec.opened {w : World} {v : Value} {xs : List Nat} (h : Vec w v xs) : ∃ p n cap, v = .slice p n cap ∧ n = xs.length := by
  obtain ⟨p, cap, e, _⟩ := h.form
  exact ⟨p, _, cap, e, rfl⟩

theorem getD_small {xs : List Nat} (hx : ∀ x ∈ xs, x < 256) (j : Nat) : xs.getD j 0 < 256 := by
  by_cases hj : j < xs.length
  · exact hx _ (by simp [List.getD, hj])
  · simp [List.getD, hj]

theorem Cells.opened {w : World} {v : Value} {vs : List Value} (h : Cells w v vs) : ∃ p n cap, v = .slice p n cap ∧ n = vs.length := by
  obtain ⟨p, cap, e, _⟩ := h.form
  exact ⟨p, _, cap, e, rfl⟩

theorem Vec.spot {w : World} {p : Option Addr} {n cap : Nat} {xs : List Nat} (h : Vec w (.slice p n cap) xs) {k : Nat} (hk : k < xs.length) :
    ∃ b off, p = some ⟨b, off, none⟩ ∧ w.cell? ⟨b, off + k, none⟩ = some (.int .u8 ((xs.getD k 0 : Nat) : Int)) ∧ xs.getD k 0 < 256 := by
  obtain ⟨b, off, cap', e, h1, h2⟩ := h.at hk
  injection e with e1 _ _
  exact ⟨b, off, e1, h1, h2⟩

theorem Cells.spot {w : World} {p : Option Addr} {n cap : Nat} {vs : List Value} (h : Cells w (.slice p n cap) vs) {k : Nat} (hk : k < vs.length) :
    ∃ b off, p = some ⟨b, off, none⟩ ∧ w.cell? ⟨b, off + k, none⟩ = some (vs.getD k undef) := by
  obtain ⟨b, off, cap', e, h1⟩ := h.at hk
  injection e with e1 _ _
  exact ⟨b, off, e1, h1⟩

theorem Own.down {B B' : Nat} {w : World} {v : Value} {xs : List Nat} (h : Own B' w v xs) (hB : B ≤ B') : Own B w v xs :=
  ⟨h.small, h.len, h.row.1, by
    rcases h.row.2 with h | ⟨g, cp, cur, a1, a2, a3⟩
    · exact .inl h
    · exact .inr ⟨g, cp, cur, a1, by omega, a3⟩⟩

theorem take_small {xs : List Nat} (h : ∀ x ∈ xs, x < 256) (n : Nat) : ∀ x ∈ xs.take n, x < 256 := fun x hx => h x (List.mem_of_mem_take hx)

/-- A vector's beginning. -/
theorem Vec.cut {w : World} {p : Option Addr} {len cap : Nat} {xs : List Nat} (h : Vec w (.slice p len cap) xs) {n : Nat} (hn : n ≤ xs.length) : Vec w (.slice p n cap) (xs.take n) := by
  obtain ⟨h1, h2, p', cap', e, h3, h4, h5⟩ := h
  injection e with e1 e2 e3
  subst e1
  subst e3
  have hl : (xs.take n).length = n := by simp; omega
  refine ⟨take_small h1 n, by omega, p, cap, by rw [hl], by omega, h4, fun hne => ?_⟩
  obtain ⟨b, off, e, hc⟩ := h5 (fun e => hne (by rw [e]; simp))
  refine ⟨b, off, e, fun j hj => ?_⟩
  rw [hl] at hj
  rw [hc j (by omega)]
  simp [List.getD, hj, show j < xs.length from by omega]

theorem own_lit {B g n : Nat} {w : World} {xs : List Nat} (h : w.heap[g]? = some (.cells (xs.map bv).toArray 5 (0, 0))) (hB : B ≤ g) (hn : n = xs.length) (hx : ∀ x ∈ xs, x < 256) (hl : xs.length ≤ 140737488351232) :
    Own B w (.slice (some ⟨g, 0, none⟩) n n) xs := by
  subst hn
  exact ⟨hx, hl, by simp, .inr ⟨g, _, _, rfl, hB, h, Nat.le_refl _, by unfold maxLen; omega, by simp, by simp [List.take_of_length_le]⟩⟩

theorem cells_lit {g n : Nat} {w : World} {vs : List Value} (h : w.heap[g]? = some (.cells vs.toArray 39 (0, 0))) (hn : n = vs.length) (hl : vs.length * 24 ≤ 140737488351232) :
    Cells w (.slice (some ⟨g, 0, none⟩) n n) vs := by
  subst hn
  refine ⟨hl, _, _, rfl, Nat.le_refl _, by unfold maxLen; omega, fun _ => ⟨g, 0, rfl, fun j hj => ?_⟩⟩
  simp [World.cell?, h, List.getD, hj]

theorem heap_new (w : World) (o : Obj) (g : Nat) (h : g = w.heap.size) : (w.alloc o).heap[g]? = some o := by subst h; exact heap_alloc_new w o

theorem heap_old (w : World) (o : Obj) {g : Nat} {b : Obj} (h : w.heap[g]? = some b) : (w.alloc o).heap[g]? = some b := by
  exact (Below.heap_alloc w o g (Array.getElem?_eq_some_iff.1 h).1).trans h

theorem apart_at {i j o o' n n' c c' : Nat} (h : i ≠ j) : (Value.slice (some ⟨i, o, none⟩) n c).ownBlock = none ∨ (Value.slice (some ⟨i, o, none⟩) n c).ownBlock ≠ (Value.slice (some ⟨j, o', none⟩) n' c').ownBlock :=
  .inr (by simp only [Value.ownBlock]; intro e; exact h (Option.some.inj e))

theorem Try.info22 : (Try.prog.info? 39).map (fun i => (i.zero, i.size, i.bytes)) = some (some (.slice none 0 0), 1, 24) := by kernel_rfl

structure OwnMat (B : Nat) (w : World) (v : Value) (us : List Value) (xss : List (List Nat)) : Prop where
  len : us.length * 24 ≤ 140737488351232
  row : w.ownsRow B 39 1 v us.length us
  same : us.length = xss.length
  vec : ∀ j, j < xss.length → Own B w (us.getD j undef) (xss.getD j [])

theorem apart_kinds {B B' : Nat} {w : World} {v u : Value} {n : Nat} {us : List Value} {xs : List Nat} (hv : w.ownsRow B 39 1 v n us) (hu : Own B' w u xs) : u.ownBlock = none ∨ u.ownBlock ≠ v.ownBlock := by
  rcases hu.row.2 with ⟨rfl, _⟩ | ⟨g, cap, cur, rfl, _, hg, _⟩
  · exact .inl rfl
  · rcases hv.2 with ⟨rfl, _⟩ | ⟨g', cap', cur', rfl, _, hg', _⟩
    · exact .inr (by simp [Value.ownBlock])
    · refine .inr fun e => ?_
      simp only [Value.ownBlock, Option.some.injEq] at e
      subst e
      rw [hg] at hg'
      simp at hg'

theorem OwnMat.nil (B : Nat) (w : World) : OwnMat B w (.slice none 0 0) [] [] := ⟨by simp, World.ownsRow_nil w B 39 1, rfl, by simp⟩

theorem OwnMat.lo {B : Nat} {w : World} {v : Value} {us : List Value} {xss : List (List Nat)} (h : OwnMat B w v us xss) : Lo B v := fun k hk => (h.row.lt k hk).1

theorem OwnMat.hi {B : Nat} {w : World} {v : Value} {us : List Value} {xss : List (List Nat)} (h : OwnMat B w v us xss) : Hi w.heap.size v := fun k hk => (h.row.lt k hk).2

theorem OwnMat.keep {B : Nat} {w w' : World} {v : Value} {us : List Value} {xss : List (List Nat)} (h : OwnMat B w v us xss) (g : w.grownBy w' none) : OwnMat B w' v us xss :=
  ⟨h.len, h.row.kept g (by cases h : v.ownBlock <;> simp), h.same, fun j hj => (h.vec j hj).keep g⟩

theorem OwnMat.mat {B : Nat} {w : World} {v : Value} {us : List Value} {xss : List (List Nat)} (h : OwnMat B w v us xss) : Mat w v us xss := by
  refine ⟨⟨h.len, ?_⟩, h.same, fun j hj => (h.vec j hj).vec⟩
  have hr := h.row
  rcases h.row.2 with ⟨rfl, hn⟩ | ⟨g, cap, cur, rfl, hb, hg, hc, hm, hs, ht⟩
  · have : us = [] := List.eq_nil_of_length_eq_zero hn
    subst this
    exact ⟨none, 0, rfl, Nat.le_refl _, by decide, fun h => absurd rfl h⟩
  · refine ⟨some ⟨g, 0, none⟩, cap, rfl, hc, hm, fun _ => ⟨g, 0, rfl, fun j hj => ?_⟩⟩
    have := hr.cells (g := g) rfl j (us.getD j undef) (by simp [List.getD, hj])
    rwa [add_at] at this

/-- One own vector more: 'mine = append(mine, u)', u laid in a block of its own first. -/
theorem OwnMat.more {B : Nat} {w w2 : World} {v v' u : Value} {us : List Value} {xss : List (List Nat)} {xs : List Nat} (h : OwnMat B w v us xss) (hu : Own B w u xs)
    (hl : (us.length + 1) * 24 ≤ 140737488351232) (hr : w2.ownsRow B 39 1 v' (us.length + 1) (us ++ [u])) (hg : w.grownBy w2 v.ownBlock) : OwnMat B w2 v' (us ++ [u]) (xss ++ [xs]) := by
  refine ⟨by simpa using hl, by simpa using hr, by simp [h.same], fun j hj => ?_⟩
  have hs := h.same
  by_cases hj' : j < xss.length
  · have e1 : (us ++ [u]).getD j undef = us.getD j undef := by simp [List.getD, List.getElem?_append, show j < us.length from by omega]
    have e2 : (xss ++ [xs]).getD j [] = xss.getD j [] := by simp [List.getD, List.getElem?_append, hj']
    rw [e1, e2]
    exact (h.vec j hj').kept hg (apart_kinds h.row (h.vec j hj'))
  · have hj2 : j = xss.length := by simp at hj; omega
    have e1 : (us ++ [u]).getD j undef = u := by simp [List.getD, hj2, ← hs]
    have e2 : (xss ++ [xs]).getD j [] = xs := by simp [List.getD, hj2]
    rw [e1, e2]
    exact hu.kept hg (apart_kinds h.row hu)

/-- A place of an own vector, to be read and written. -/
theorem Own.spot {B : Nat} {w : World} {p : Option Addr} {n cap : Nat} {xs : List Nat} (h : Own B w (.slice p n cap) xs) {k : Nat} (hk : k < xs.length) :
    ∃ g, p = some ⟨g, 0, none⟩ ∧ n = xs.length ∧ w.cell? ⟨g, k, none⟩ = some (.int .u8 ((xs.getD k 0 : Nat) : Int)) ∧ w.frozen? ⟨g, k, none⟩ = false ∧ xs.getD k 0 < 256 ∧
      (∀ z : Nat, z < 256 → Own B (w.setCell ⟨g, k, none⟩ (.int .u8 (z : Int))) (.slice (some ⟨g, 0, none⟩) n cap) (xs.set k z)) ∧ ∀ u, w.grownBy (w.setCell ⟨g, k, none⟩ u) (some g) := by
  have hv := h.vec.at hk
  have hr := h.row
  rcases h.row.2 with ⟨e, hn⟩ | ⟨g, cap', cur, e, hb, hg, hc, hm, hs, ht⟩
  · omega
  · injection e with e1 e2 e3
    subst e1
    subst e2
    subst e3
    obtain ⟨b, off, c2, e4, hcell, hsm⟩ := hv
    injection e4 with e5 _ _
    injection e5 with e5
    injection e5 with e6 e7
    subst e6
    subst e7
    rw [Nat.zero_add] at hcell
    refine ⟨g, rfl, rfl, hcell, by simp [World.frozen?, hg], hsm, fun z hz => ⟨fun x hx => ?_, by simpa using h.len, by simp, .inr ⟨g, cap, cur.setIfInBounds k (.int .u8 (z : Int)), by simp, hb, ?_, by simpa using hc, hm, by simpa using hs, ?_⟩⟩, fun u => ⟨rfl, rfl, rfl, by simp, fun i hi hne => Below.heap_setCell _ _ _ _ (by simpa using hne)⟩⟩
    · rcases List.mem_or_eq_of_mem_set hx with h1 | h1
      · exact h.small x h1
      · rw [h1]; exact hz
    · rw [setCell_eq_setRow w g k cur 5 (0, 0) _ hg]
      exact setRow_heap w g cur _ 5 _ hg
    · simp only [Array.toList_setIfInBounds, List.length_set, List.map_set]
      rw [← ht, List.take_set]

structure Out (B : Nat) (w : World) (v : Value) (us : List Value) : Prop where
  len : us.length * 24 ≤ 140737488351232
  row : w.ownsRow B 39 1 v us.length us

theorem Out.nil (B : Nat) (w : World) : Out B w (.slice none 0 0) [] := ⟨by simp, World.ownsRow_nil w B 39 1⟩

theorem Out.lo {B : Nat} {w : World} {v : Value} {us : List Value} (h : Out B w v us) : Lo B v := fun k hk => (h.row.lt k hk).1

theorem Out.hi {B : Nat} {w : World} {v : Value} {us : List Value} (h : Out B w v us) : Hi w.heap.size v := fun k hk => (h.row.lt k hk).2

theorem Out.kept {B : Nat} {w w' : World} {v : Value} {us : List Value} {row : Option Nat} (h : Out B w v us) (g : w.grownBy w' row) (ne : v.ownBlock = none ∨ v.ownBlock ≠ row) : Out B w' v us :=
  ⟨h.len, h.row.kept g ne⟩

theorem Out.keep {B : Nat} {w w' : World} {v : Value} {us : List Value} (h : Out B w v us) (g : w.grownBy w' none) : Out B w' v us :=
  h.kept g (by cases h : v.ownBlock <;> simp)

theorem OwnMat.out {B : Nat} {w : World} {v : Value} {us : List Value} {xss : List (List Nat)} (h : OwnMat B w v us xss) : Out B w v us := ⟨h.len, h.row⟩

theorem Out.cells {B : Nat} {w : World} {v : Value} {us : List Value} (h : Out B w v us) : Cells w v us := by
  refine ⟨h.len, ?_⟩
  have hr := h.row
  rcases h.row.2 with ⟨rfl, hn⟩ | ⟨g, cap, cur, rfl, hb, hg, hc, hm, hs, ht⟩
  · have : us = [] := List.eq_nil_of_length_eq_zero hn
    subst this
    exact ⟨none, 0, rfl, Nat.le_refl _, by decide, fun h => absurd rfl h⟩
  · refine ⟨some ⟨g, 0, none⟩, cap, rfl, hc, hm, fun _ => ⟨g, 0, rfl, fun j hj => ?_⟩⟩
    have := hr.cells (g := g) rfl j (us.getD j undef) (by simp [List.getD, hj])
    rwa [add_at] at this

/-- Two values that lie in blocks of their own, or in none. -/
def Ap (v u : Value) : Prop := v.ownBlock = none ∨ v.ownBlock ≠ u.ownBlock

theorem Ap.symm {v u : Value} (h : Ap v u) : Ap u v := by
  unfold Ap at *
  cases hu : u.ownBlock with
  | none => exact .inl rfl
  | some k =>
    rcases h with h | h
    · rw [h]; exact .inr (by simp)
    · exact .inr fun e => h (by rw [hu, e])

/-- Behind an append: what lay apart from the row, and was there before, lies apart from the new one. -/
theorem Ap.grown {H : Nat} {t v v' : Value} (h : Ap t v) (ht : Hi H t) (hv : v'.ownBlock = v.ownBlock ∨ v'.ownBlock = some H) : Ap t v' := by
  rcases hv with e | e
  · unfold Ap at *
    rw [e]; exact h
  · unfold Ap
    cases hk : t.ownBlock with
    | none => exact .inl rfl
    | some k =>
      refine .inr ?_
      rw [e]
      intro h2
      have := ht k hk
      have := Option.some.inj h2
      omega

theorem run_append_out {B : Nat} {w : World} {dv : Value} {us : List Value} (hd : Out B w dv us) (ad : Addr) {u : Value} (hu : w.cell? ad = some u) (h1 : u.oneCell' = true) (hB : B ≤ w.heap.size) (hl : (us.length + 1) * 24 ≤ 140737488351232) (ty : TypeId) :
    ∃ v' w', (Builtin.append_ #[24, 24] ty #[dv, .slice (some ad) 1 1]).run Try.prog w = .ok v' w' ∧ Out B w' v' (us ++ [u]) ∧ w.grownBy w' dv.ownBlock ∧ (v'.ownBlock = dv.ownBlock ∨ v'.ownBlock = some w.heap.size) := by
  obtain ⟨i0, hi, hz0, hz1, hz2⟩ := info_parts Try.info22
  obtain ⟨v', w', r1, r2, r3, _, r5⟩ := run_append_own_at (P := Try.prog) w B 24 ty 39 i0 (.slice none 0 0) 1 24 Try.underlying24 hi hz0 hz1 hz2 rfl (by decide) dv us.length us hd.row ad 1 1 [u] (by simp)
    (fun j v hj => by
      match j, hj with
      | 0, hj => simp at hj; subst hj; simpa [Addr.add] using hu)
    (fun v hv => by simp at hv; subst hv; exact h1) (by unfold maxLen; omega) (by omega) hB
  exact ⟨v', w', r1, ⟨by simpa using hl, by simpa using r2⟩, r3, r5⟩

theorem wpList_append_out {w : World} {ops : Array Oper} {rest : List Oper} {o : Oper} {a : Act} {Q : Exit → Act → World → Prop} (hgd : o.guard = none) (d s : Operand)
    (ho : o.op = .call { callee := .builtin .append, args := #[d, s], argTypes := #[24, 24] }) (dv : Value) (ad : Addr) (hed : a.eval d = dv) (hes : a.eval s = .slice (some ad) 1 1)
    {B : Nat} {us : List Value} {u : Value} (hd : Out B w dv us) (hu : w.cell? ad = some u) (h1 : u.oneCell' = true) (hB : B ≤ w.heap.size) (hl : (us.length + 1) * 24 ≤ 140737488351232)
    (h : ∀ v' w', Out B w' v' (us ++ [u]) → w.grownBy w' dv.ownBlock → (v'.ownBlock = dv.ownBlock ∨ v'.ownBlock = some w.heap.size) → wpList Try.prog ops Q rest (a.put o.dst v') w') : wpList Try.prog ops Q (o :: rest) a w := by
  refine wpList_plain hgd fun K hK => ?_
  obtain ⟨v', w', hrun, r1, r2, r3⟩ := run_append_out hd ad hu h1 hB hl o.type
  unfold Oper.wp
  simp [execOp, ho, resolve, invoke, builtin, hed, hes, hrun, Result.andThen]
  exact hK _ _ (h _ _ r1 r2 r3)

theorem step_append_out {ops : Array Oper} {o : Oper} {a : Act} {w : World} {K : Act → World → Prop} {Q : Exit → Act → World → Prop} {E : Prop} (hgd : o.guard = none) (d s : Operand)
    (ho : o.op = .call { callee := .builtin .append, args := #[d, s], argTypes := #[24, 24] }) (dv : Value) (ad : Addr) (hed : a.eval d = dv) (hes : a.eval s = .slice (some ad) 1 1)
    {B : Nat} {us : List Value} {u : Value} (hd : Out B w dv us) (hu : w.cell? ad = some u) (h1 : u.oneCell' = true) (hB : B ≤ w.heap.size) (hl : (us.length + 1) * 24 ≤ 140737488351232)
    (h : ∀ v' w', Out B w' v' (us ++ [u]) → w.grownBy w' dv.ownBlock → (v'.ownBlock = dv.ownBlock ∨ v'.ownBlock = some w.heap.size) → K (a.put o.dst v') w') :
    if Region.wanted o (yielded ops a.tmps) = true then Oper.wp Try.prog o a w K Q else E := by
  have hw : Region.wanted o (yielded ops a.tmps) = true := by simp [Region.wanted, hgd]
  rw [if_pos hw]
  obtain ⟨v', w', hrun, r1, r2, r3⟩ := run_append_out hd ad hu h1 hB hl o.type
  unfold Oper.wp
  simp [execOp, ho, resolve, invoke, builtin, hed, hes, hrun, Result.andThen]
  exact h _ _ r1 r2 r3

theorem gr1 (w : World) (X : Obj) : w.grownBy ((w.alloc X).drew) none := ⟨rfl, rfl, rfl, by simp, fun k hk _ => heap_alloc_old w X hk⟩

theorem gr2 (w : World) (X Y : Obj) : w.grownBy (((w.alloc X).alloc Y).drew) none := grown_trans (World.grownBy_alloc w X none) (gr1 (w.alloc X) Y)

/-- Another row of slices grows: what lies apart from it stays. -/
theorem OwnMat.keptOut {B B' : Nat} {w w' : World} {v t : Value} {us us' : List Value} {xss : List (List Nat)} (h : OwnMat B w v us xss) (ht : Out B' w t us') (g : w.grownBy w' t.ownBlock) (ap : Ap v t) : OwnMat B w' v us xss :=
  ⟨h.len, h.row.kept g ap, h.same, fun j hj => (h.vec j hj).kept g (apart_kinds ht.row (h.vec j hj))⟩
end Go.Proofs.Ytdeajclghlbhcaa
