/- Byte slices and arrays of bytes in memory: places, cuts, literals, make, copy (the general part, for seats that have no slices of slices). -/
import Derived.Test.YthmdidiojjmebaaMem
import Derived.Laws.CopyRow
import Derived.Laws.CopyOwn
import Derived.Deep.WholeRow
import Derived.OwnWalk
namespace Go.Proofs.Ythmdidiojjmebaa
open Go.RowKit

theorem gb_alloc {a b : World} (h : a.grownBy b none) (o : Obj) : a.grownBy (b.alloc o) none := grown_trans h (World.grownBy_alloc _ _ none)
theorem gb_drew {a b : World} (h : a.grownBy b none) : a.grownBy b.drew none := grown_trans h (grown_drewN _ 1)
theorem gb_setCell {a b : World} (h : a.grownBy b none) {g k : Nat} (hg : a.heap.size ≤ g) (v : Value) : a.grownBy (b.setCell ⟨g, k, none⟩ v) none :=
  grown_new h (row := some g) ⟨rfl, rfl, rfl, by simp, fun i hi hne => Below.heap_setCell _ _ _ _ (by simpa using hne)⟩ (fun i e => by have := Option.some.inj e; omega)
theorem gb_setRow {a b : World} (h : a.grownBy b none) {g : Nat} (hg : a.heap.size ≤ g) (c : Array Value) : a.grownBy (b.setRow g c) none :=
  grown_new h (row := some g) ⟨rfl, rfl, rfl, by simp, fun k _ hk => setRow_other b g k _ (fun e => hk (by simp [e]))⟩ (fun i e => by have := Option.some.inj e; omega)
theorem mem_one {c : Array Value} (h : c.all (·.oneCell') = true) : ∀ v ∈ c.toList, v.oneCell' = true := by
  intro v hv
  exact (Array.all_eq_true_iff_forall_mem.1 h) v (by simpa using hv)
theorem Try.size5 : (Try.prog.info? 5).map (·.size) = some 1 := by kernel_rfl

theorem Vec.opened {w : World} {v : Value} {xs : List Nat} (h : Vec w v xs) : ∃ p n cap, v = .slice p n cap ∧ n = xs.length := by
  obtain ⟨p, cap, e, _⟩ := h.form
  exact ⟨p, _, cap, e, rfl⟩

theorem getD_small {xs : List Nat} (hx : ∀ x ∈ xs, x < 256) (j : Nat) : xs.getD j 0 < 256 := by
  by_cases hj : j < xs.length
  · exact hx _ (by simp [List.getD, hj])
  · simp [List.getD, hj]

theorem Vec.spot {w : World} {p : Option Addr} {n cap : Nat} {xs : List Nat} (h : Vec w (.slice p n cap) xs) {k : Nat} (hk : k < xs.length) :
    ∃ b off, p = some ⟨b, off, none⟩ ∧ w.cell? ⟨b, off + k, none⟩ = some (.int .u8 ((xs.getD k 0 : Nat) : Int)) ∧ xs.getD k 0 < 256 := by
  obtain ⟨b, off, cap', e, h1, h2⟩ := h.at hk
  injection e with e1 _ _
  exact ⟨b, off, e1, h1, h2⟩

theorem Own.down {B B' : Nat} {w : World} {v : Value} {xs : List Nat} (h : Own B' w v xs) (hB : B ≤ B') : Own B w v xs :=
  ⟨h.small, h.len, h.row.1, by
    rcases h.row.2 with h | ⟨g, cp, cur, a1, a2, a3⟩
    · exact .inl h
    · exact .inr ⟨g, cp, cur, a1, by omega, a3⟩⟩

theorem take_small {xs : List Nat} (h : ∀ x ∈ xs, x < 256) (n : Nat) : ∀ x ∈ xs.take n, x < 256 := fun x hx => h x (List.mem_of_mem_take hx)

theorem Vec.cut {w : World} {p : Option Addr} {len cap : Nat} {xs : List Nat} (h : Vec w (.slice p len cap) xs) {n : Nat} (hn : n ≤ xs.length) : Vec w (.slice p n cap) (xs.take n) := by
  obtain ⟨h1, h2, p', cap', e, h3, h4, h5⟩ := h
  injection e with e1 e2 e3
  subst e1
  subst e3
  have hl : (xs.take n).length = n := by simp; omega
  refine ⟨take_small h1 n, by omega, p, cap, by rw [hl], by omega, h4, fun hne => ?_⟩
  obtain ⟨b, off, e, hc⟩ := h5 (fun e => hne (by rw [e]; simp))
  refine ⟨b, off, e, fun j hj => ?_⟩
  rw [hl] at hj
  rw [hc j (by omega)]
  simp [List.getD, hj, show j < xs.length from by omega]

theorem own_lit {B g n : Nat} {w : World} {xs : List Nat} (h : w.heap[g]? = some (.cells (xs.map bv).toArray 5 (0, 0))) (hB : B ≤ g) (hn : n = xs.length) (hx : ∀ x ∈ xs, x < 256) (hl : xs.length ≤ 140737488351232) :
    Own B w (.slice (some ⟨g, 0, none⟩) n n) xs := by
  subst hn
  exact ⟨hx, hl, by simp, .inr ⟨g, _, _, rfl, hB, h, Nat.le_refl _, by unfold maxLen; omega, by simp, by simp [List.take_of_length_le]⟩⟩

theorem heap_new (w : World) (o : Obj) (g : Nat) (h : g = w.heap.size) : (w.alloc o).heap[g]? = some o := by subst h; exact heap_alloc_new w o

theorem heap_old (w : World) (o : Obj) {g : Nat} {b : Obj} (h : w.heap[g]? = some b) : (w.alloc o).heap[g]? = some b := by
  exact (Below.heap_alloc w o g (Array.getElem?_eq_some_iff.1 h).1).trans h

theorem apart_at {i j o o' n n' c c' : Nat} (h : i ≠ j) : (Value.slice (some ⟨i, o, none⟩) n c).ownBlock = none ∨ (Value.slice (some ⟨i, o, none⟩) n c).ownBlock ≠ (Value.slice (some ⟨j, o', none⟩) n' c').ownBlock :=
  .inr (by simp only [Value.ownBlock]; intro e; exact h (Option.some.inj e))

theorem Own.spot {B : Nat} {w : World} {p : Option Addr} {n cap : Nat} {xs : List Nat} (h : Own B w (.slice p n cap) xs) {k : Nat} (hk : k < xs.length) :
    ∃ g, p = some ⟨g, 0, none⟩ ∧ n = xs.length ∧ w.cell? ⟨g, k, none⟩ = some (.int .u8 ((xs.getD k 0 : Nat) : Int)) ∧ w.frozen? ⟨g, k, none⟩ = false ∧ xs.getD k 0 < 256 ∧
      (∀ z : Nat, z < 256 → Own B (w.setCell ⟨g, k, none⟩ (.int .u8 (z : Int))) (.slice (some ⟨g, 0, none⟩) n cap) (xs.set k z)) ∧ ∀ u, w.grownBy (w.setCell ⟨g, k, none⟩ u) (some g) := by
  have hv := h.vec.at hk
  have hr := h.row
  rcases h.row.2 with ⟨e, hn⟩ | ⟨g, cap', cur, e, hb, hg, hc, hm, hs, ht⟩
  · omega
  · injection e with e1 e2 e3
    subst e1
    subst e2
    subst e3
    obtain ⟨b, off, c2, e4, hcell, hsm⟩ := hv
    injection e4 with e5 _ _
    injection e5 with e5
    injection e5 with e6 e7
    subst e6
    subst e7
    rw [Nat.zero_add] at hcell
    refine ⟨g, rfl, rfl, hcell, by simp [World.frozen?, hg], hsm, fun z hz => ⟨fun x hx => ?_, by simpa using h.len, by simp, .inr ⟨g, cap, cur.setIfInBounds k (.int .u8 (z : Int)), by simp, hb, ?_, by simpa using hc, hm, by simpa using hs, ?_⟩⟩, fun u => ⟨rfl, rfl, rfl, by simp, fun i hi hne => Below.heap_setCell _ _ _ _ (by simpa using hne)⟩⟩
    · rcases List.mem_or_eq_of_mem_set hx with h1 | h1
      · exact h.small x h1
      · rw [h1]; exact hz
    · rw [setCell_eq_setRow w g k cur 5 (0, 0) _ hg]
      exact setRow_heap w g cur _ 5 _ hg
    · simp only [Array.toList_setIfInBounds, List.length_set, List.map_set]
      rw [← ht, List.take_set]

theorem made_list (z : Value) (n : Nat) : (madeCells #[z] n).toList.take n = List.replicate n z := by
  apply List.ext_getElem
  · simp [madeCells]
  · intro i h1 h2
    simp [madeCells, Nat.mod_one]

theorem made_own {w w' : World} {n : Nat} (hn : n ≤ 140737488351232) (e : w' = w.alloc (.cells (madeCells #[.int .u8 0] n) 5)) : Own w.heap.size w' (.slice (some ⟨w.heap.size, 0, none⟩) n n) (List.replicate n 0) := by
  subst e
  refine ⟨fun x hx => by rw [(List.mem_replicate.1 hx).2]; decide, by simpa using hn, by simp, .inr ⟨w.heap.size, n, _, by simp, Nat.le_refl _, heap_alloc_new w _, by simp, by unfold maxLen; omega, ?_, ?_⟩⟩
  · simp [madeCells]
  · rw [List.map_replicate, Nat.mul_one, List.length_replicate]; exact made_list _ n

theorem wpList_make_vec {w : World} {ops : Array Oper} {rest : List Oper} {o : Oper} {a : Act} {Q : Exit → Act → World → Prop} (hgd : o.guard = none) (l c : Operand)
    (ho : o.op = Op.makeSlice 23 l c) (n : Nat) (hel : a.eval l = .int .i64 (n : Int)) (hec : a.eval c = .int .i64 (n : Int)) (hn : n ≤ 140737488351232)
    (h : ∀ w1 p, Own w.heap.size w1 (.slice p n n) (List.replicate n 0) → w.grownBy w1 none → wpList Try.prog ops Q rest (a.put o.dst (.slice p n n)) w1) : wpList Try.prog ops Q (o :: rest) a w := by
  obtain ⟨i0, hi, hz0, hz1, hz2⟩ := info_parts Try.info5
  refine wpList_make_row _ hgd l c 23 ho 5 i0 (.int .u8 0) Try.underlying23 hi hz0 hz1 rfl _ _ n hel hec (by rw [hz2]; omega) (by omega) ?_
  exact h _ _ (made_own hn rfl) (World.grownBy_alloc _ _ none)

/-- A whole vector over another of its length. -/
theorem run_copy_vec {B : Nat} {w : World} {d s : Value} {xs ys : List Nat} (hd : Own B w d xs) (hs : Vec w s ys) (hl : ys.length = xs.length) (ty : TypeId) :
    ∃ w', (Builtin.copy_ #[23, 23] ty #[d, s]).run Try.prog w = .ok (goInt xs.length) w' ∧ Own B w' d ys ∧ w.grownBy w' d.ownBlock := by
  obtain ⟨s1, s2, p, cap, rfl, s3, s4, s5⟩ := hs
  by_cases hx : xs = []
  · subst hx
    have : ys = [] := List.eq_nil_of_length_eq_zero hl
    subst this
    obtain ⟨p', c', rfl, _⟩ := hd.vec.form
    refine ⟨w, run_copy_none (P := Try.prog) w 23 23 ty 5 p' p 0 c' 0 cap Try.underlying23 Try.size5 (by simp), hd, World.grownBy.refl _ _⟩
  · have hy : ys ≠ [] := fun e => hx (List.eq_nil_of_length_eq_zero (by rw [← hl, e]; rfl))
    obtain ⟨b, off, rfl, hc⟩ := s5 hy
    rcases hd.row.2 with ⟨rfl, hn⟩ | ⟨g, dcap, cur, rfl, hb, hg, hcc, hm, hcs, ht⟩
    · exact absurd (List.eq_nil_of_length_eq_zero hn) hx
    · have hr := run_copy_row (P := Try.prog) w 23 23 ty 5 g 0 xs.length dcap ⟨b, off, none⟩ ys.length cap cur 5 (ys.map bv) Try.underlying23 Try.size5 hg (by rw [List.length_map, hl]; simp)
        (fun j v hj => by
          have hj' : j < ys.length := by
            have := (List.getElem?_eq_some_iff.1 hj).1
            simpa using this
          rw [getD_map_bv ys j hj'] at hj
          rw [add_off, hc j hj']; exact hj) (by simp; omega) (fun v hv => by obtain ⟨x, _, rfl⟩ := List.mem_map.1 hv; rfl)
      refine ⟨w.setRow g (ys.map bv ++ cur.toList.drop xs.length).toArray, by rw [hr]; simp [hl], ⟨s1, s2, by simp, .inr ⟨g, dcap, _, by rw [hl], hb, setRow_heap w g cur _ 5 _ hg, by omega, hm, ?_, ?_⟩⟩, ⟨rfl, rfl, rfl, by simp, fun k _ hk => setRow_other w g k _ (fun e => hk (by simp [Value.ownBlock, e]))⟩⟩
      · simp; omega
      · simp

theorem wpList_copy_vec {w : World} {ops : Array Oper} {rest : List Oper} {o : Oper} {a : Act} {Q : Exit → Act → World → Prop} (hgd : o.guard = none) (d s : Operand)
    (ho : o.op = .call { callee := .builtin .copy, args := #[d, s], argTypes := #[23, 23] }) (dv sv : Value) (hed : a.eval d = dv) (hes : a.eval s = sv)
    {B : Nat} {xs ys : List Nat} (hd : Own B w dv xs) (hs : Vec w sv ys) (hl : ys.length = xs.length)
    (h : ∀ w', Own B w' dv ys → w.grownBy w' dv.ownBlock → wpList Try.prog ops Q rest (a.put o.dst (goInt xs.length)) w') : wpList Try.prog ops Q (o :: rest) a w := by
  refine wpList_plain hgd fun K hK => ?_
  obtain ⟨w', hrun, r1, r2⟩ := run_copy_vec hd hs hl o.type
  unfold Oper.wp
  simp [execOp, ho, resolve, invoke, builtin, hed, hes, hrun, Result.andThen]
  exact hK _ _ (h _ r1 r2)

/-- A vector's end. -/
theorem Vec.tail {w : World} {b off len cap : Nat} {xs : List Nat} (h : Vec w (.slice (some ⟨b, off, none⟩) len cap) xs) {n : Nat} (hn : n ≤ xs.length) : Vec w (.slice (some ⟨b, off + n, none⟩) (len - n) (cap - n)) (xs.drop n) := by
  obtain ⟨h1, h2, p', cap', e, h3, h4, h5⟩ := h
  injection e with e1 e2 e3
  subst e3
  have hl : (xs.drop n).length = len - n := by simp; omega
  refine ⟨fun x hx => h1 x (List.mem_of_mem_drop hx), by omega, _, _, by rw [hl], by omega, by omega, fun hne => ⟨b, off + n, rfl, fun j hj => ?_⟩⟩
  rw [hl] at hj
  obtain ⟨b', off', e', hc⟩ := h5 (fun e => hne (by rw [e]; simp))
  rw [← e1] at e'
  injection e' with e'
  injection e' with e3 e4
  subst e3
  subst e4
  rw [Nat.add_assoc, hc (n + j) (by omega)]
  simp [List.getD]

/-- The cells of a row of bytes. -/
def rowOf (xs : List Nat) : Array Value := (xs.map bv).toArray
theorem rowOf_size (xs : List Nat) : (rowOf xs).size = xs.length := by simp [rowOf]
theorem rowOf_get (xs : List Nat) {i : Nat} (h : i < xs.length) : (rowOf xs)[i]? = some (.int .u8 ((xs.getD i 0 : Nat) : Int)) := by
  simp [rowOf, List.getD, h]
theorem rowOf_set (xs : List Nat) (i z : Nat) : (rowOf xs).setIfInBounds i (.int .u8 (z : Int)) = rowOf (xs.set i z) := by
  simp [rowOf, List.map_set]
theorem rowOf_one (xs : List Nat) : (rowOf xs).all (·.oneCell') = true := by
  rw [Array.all_eq_true_iff_forall_mem]
  intro v hv
  simp only [rowOf, List.mem_toArray, List.mem_map] at hv
  obtain ⟨x, _, rfl⟩ := hv
  rfl

/-- The slice v is a row of its own (a block of the type T, from B on), and has the elements xs. -/
structure Arr (T : TypeId) (B : Nat) (w : World) (v : Value) (xs : List Nat) : Prop where
  small : ∀ x ∈ xs, x < 256
  len : xs.length ≤ 140737488351232
  row : w.ownsRow B T 1 v xs.length (xs.map bv)

theorem Arr.lo {T : TypeId} {B : Nat} {w : World} {v : Value} {xs : List Nat} (h : Arr T B w v xs) : Lo B v := fun k hk => (h.row.lt k hk).1
theorem Arr.hi {T : TypeId} {B : Nat} {w : World} {v : Value} {xs : List Nat} (h : Arr T B w v xs) : Hi w.heap.size v := fun k hk => (h.row.lt k hk).2
theorem Arr.kept {T : TypeId} {B : Nat} {w w' : World} {v : Value} {xs : List Nat} {row : Option Nat} (h : Arr T B w v xs) (g : w.grownBy w' row) (ne : v.ownBlock = none ∨ v.ownBlock ≠ row) : Arr T B w' v xs :=
  ⟨h.small, h.len, h.row.kept g ne⟩
theorem Arr.keep {T : TypeId} {B : Nat} {w w' : World} {v : Value} {xs : List Nat} (h : Arr T B w v xs) (g : w.grownBy w' none) : Arr T B w' v xs :=
  h.kept g (by cases h : v.ownBlock <;> simp)
theorem Arr.down {T : TypeId} {B B' : Nat} {w : World} {v : Value} {xs : List Nat} (h : Arr T B' w v xs) (hB : B ≤ B') : Arr T B w v xs :=
  ⟨h.small, h.len, h.row.1, by
    rcases h.row.2 with h | ⟨g, cp, cur, a1, a2, a3⟩
    · exact .inl h
    · exact .inr ⟨g, cp, cur, a1, by omega, a3⟩⟩
theorem Own.arr {B : Nat} {w : World} {v : Value} {xs : List Nat} (h : Own B w v xs) : Arr 5 B w v xs := ⟨h.small, h.len, h.row⟩
theorem Arr.vec {T : TypeId} {B : Nat} {w : World} {v : Value} {xs : List Nat} (h : Arr T B w v xs) : Vec w v xs := by
  refine ⟨h.small, h.len, ?_⟩
  have hr := h.row
  rcases h.row.2 with ⟨rfl, hn⟩ | ⟨g, cap, cur, rfl, hb, hg, hc, hm, hs, ht⟩
  · have : xs = [] := List.eq_nil_of_length_eq_zero hn
    subst this
    exact ⟨none, 0, rfl, Nat.le_refl _, by decide, fun h => absurd rfl h⟩
  · refine ⟨some ⟨g, 0, none⟩, cap, rfl, hc, hm, fun _ => ⟨g, 0, rfl, fun j hj => ?_⟩⟩
    have := hr.cells (g := g) rfl j _ (getD_map_bv xs j hj)
    rwa [add_at] at this
theorem Arr.nil (T : TypeId) (B : Nat) (w : World) : Arr T B w (.slice none 0 0) [] := ⟨by simp, by simp, World.ownsRow_nil w B T 1⟩
/-- A whole block as a slice. -/
theorem Arr.whole {T : TypeId} {B g n : Nat} {w : World} {xs : List Nat} (h : w.heap[g]? = some (.cells (rowOf xs) T (0, 0))) (hB : B ≤ g) (hn : n = xs.length) (hx : ∀ x ∈ xs, x < 256) (hl : xs.length ≤ 140737488351232) :
    Arr T B w (.slice (some ⟨g, 0, none⟩) n n) xs := by
  subst hn
  exact ⟨hx, hl, by simp, .inr ⟨g, _, _, rfl, hB, h, Nat.le_refl _, by unfold maxLen; omega, by simp [rowOf], by simp [rowOf, List.take_of_length_le]⟩⟩

/-- A place of such a row, to be read and written. -/
theorem Arr.spot {T : TypeId} {B : Nat} {w : World} {p : Option Addr} {n cap : Nat} {xs : List Nat} (h : Arr T B w (.slice p n cap) xs) {k : Nat} (hk : k < xs.length) :
    ∃ g, p = some ⟨g, 0, none⟩ ∧ n = xs.length ∧ w.cell? ⟨g, k, none⟩ = some (.int .u8 ((xs.getD k 0 : Nat) : Int)) ∧ w.frozen? ⟨g, k, none⟩ = false ∧ xs.getD k 0 < 256 ∧
      (∀ z : Nat, z < 256 → Arr T B (w.setCell ⟨g, k, none⟩ (.int .u8 (z : Int))) (.slice (some ⟨g, 0, none⟩) n cap) (xs.set k z)) ∧ ∀ u, w.grownBy (w.setCell ⟨g, k, none⟩ u) (some g) := by
  have hv := h.vec.at hk
  rcases h.row.2 with ⟨e, hn⟩ | ⟨g, cap', cur, e, hb, hg, hc, hm, hs, ht⟩
  · omega
  · injection e with e1 e2 e3
    subst e1
    subst e2
    subst e3
    obtain ⟨b, off, c2, e4, hcell, hsm⟩ := hv
    injection e4 with e5 _ _
    injection e5 with e5
    injection e5 with e6 e7
    subst e6
    subst e7
    rw [Nat.zero_add] at hcell
    refine ⟨g, rfl, rfl, hcell, by simp [World.frozen?, hg], hsm, fun z hz => ⟨fun x hx => ?_, by simpa using h.len, by simp, .inr ⟨g, cap, cur.setIfInBounds k (.int .u8 (z : Int)), by simp, hb, ?_, by simpa using hc, hm, by simpa using hs, ?_⟩⟩, fun u => ⟨rfl, rfl, rfl, by simp, fun i hi hne => Below.heap_setCell _ _ _ _ (by simpa using hne)⟩⟩
    · rcases List.mem_or_eq_of_mem_set hx with h1 | h1
      · exact h.small x h1
      · rw [h1]; exact hz
    · rw [setCell_eq_setRow w g k cur T (0, 0) _ hg]
      exact setRow_heap w g cur _ T _ hg
    · simp only [Array.toList_setIfInBounds, List.length_set, List.map_set]
      rw [← ht, List.take_set]

/-- copy into a part of a block: what is there behind it. -/
theorem run_copy_part {w : World} {T : TypeId} {g o dLen dCap : Nat} {s : Value} {cur ys : List Nat} (hg : w.heap[g]? = some (.cells (rowOf cur) T (0, 0))) (hs : Vec w s ys) (hd : ys.length ≤ dLen) (hf : o + ys.length ≤ cur.length) (ty : TypeId) :
    ∃ w', (Builtin.copy_ #[23, 23] ty #[.slice (some ⟨g, o, none⟩) dLen dCap, s]).run Try.prog w = .ok (goInt ys.length) w' ∧ w'.heap[g]? = some (.cells (rowOf (cur.take o ++ ys ++ cur.drop (o + ys.length))) T (0, 0)) ∧ w.grownBy w' (some g) := by
  obtain ⟨s1, s2, p, cap, rfl, s3, s4, s5⟩ := hs
  by_cases hy : ys = []
  · subst hy
    refine ⟨w, run_copy_none (P := Try.prog) w 23 23 ty 5 _ p dLen dCap 0 cap Try.underlying23 Try.size5 (by simp), ?_, World.grownBy.refl _ _⟩
    rw [hg]; simp
  · obtain ⟨b, off, rfl, hc⟩ := s5 hy
    have hr := run_copy_row (P := Try.prog) w 23 23 ty 5 g o dLen dCap ⟨b, off, none⟩ ys.length cap (rowOf cur) T (ys.map bv) Try.underlying23 Try.size5 hg (by rw [List.length_map]; exact (Nat.min_eq_left hd).symm)
      (fun j v hj => by
        have hj' : j < ys.length := by
          have := (List.getElem?_eq_some_iff.1 hj).1
          simpa using this
        rw [getD_map_bv ys j hj'] at hj
        rw [add_off, hc j hj']; exact hj) (by simp [rowOf]; omega) (fun v hv => by obtain ⟨x, _, rfl⟩ := List.mem_map.1 hv; rfl)
    refine ⟨w.setRow g (rowOf (cur.take o ++ ys ++ cur.drop (o + ys.length))), ?_, setRow_heap w g _ _ T _ hg, ⟨rfl, rfl, rfl, by simp, fun k _ hk => setRow_other w g k _ (fun e => hk (by simp [e]))⟩⟩
    rw [hr]
    simp [rowOf, List.map_take, List.map_drop]

theorem wpList_copy_part {w : World} {ops : Array Oper} {rest : List Oper} {o : Oper} {a : Act} {Q : Exit → Act → World → Prop} (hgd : o.guard = none) (d s : Operand)
    (ho : o.op = .call { callee := .builtin .copy, args := #[d, s], argTypes := #[23, 23] }) (sv : Value) {T : TypeId} {g f dLen dCap : Nat} {cur ys : List Nat} (hed : a.eval d = .slice (some ⟨g, f, none⟩) dLen dCap) (hes : a.eval s = sv)
    (hg : w.heap[g]? = some (.cells (rowOf cur) T (0, 0))) (hs : Vec w sv ys) (hd : ys.length ≤ dLen) (hf : f + ys.length ≤ cur.length)
    (h : ∀ w', w'.heap[g]? = some (.cells (rowOf (cur.take f ++ ys ++ cur.drop (f + ys.length))) T (0, 0)) → w.grownBy w' (some g) → wpList Try.prog ops Q rest (a.put o.dst (goInt ys.length)) w') : wpList Try.prog ops Q (o :: rest) a w := by
  refine wpList_plain hgd fun K hK => ?_
  obtain ⟨w', hrun, r1, r2⟩ := run_copy_part (dCap := dCap) hg hs hd hf o.type
  unfold Oper.wp
  simp [execOp, ho, resolve, invoke, builtin, hed, hes, hrun, Result.andThen]
  exact hK _ _ (h _ r1 r2)

theorem step_copy_part {ops : Array Oper} {o : Oper} {a : Act} {w : World} {K : Act → World → Prop} {Q : Exit → Act → World → Prop} {E : Prop} (hgd : o.guard = none) (d s : Operand)
    (ho : o.op = .call { callee := .builtin .copy, args := #[d, s], argTypes := #[23, 23] }) (sv : Value) {T : TypeId} {g f dLen dCap : Nat} {cur ys : List Nat} (hed : a.eval d = .slice (some ⟨g, f, none⟩) dLen dCap) (hes : a.eval s = sv)
    (hg : w.heap[g]? = some (.cells (rowOf cur) T (0, 0))) (hs : Vec w sv ys) (hd : ys.length ≤ dLen) (hf : f + ys.length ≤ cur.length)
    (h : ∀ w', w'.heap[g]? = some (.cells (rowOf (cur.take f ++ ys ++ cur.drop (f + ys.length))) T (0, 0)) → w.grownBy w' (some g) → K (a.put o.dst (goInt ys.length)) w') :
    if Region.wanted o (yielded ops a.tmps) = true then Oper.wp Try.prog o a w K Q else E := by
  have hw : Region.wanted o (yielded ops a.tmps) = true := by simp [Region.wanted, hgd]
  rw [if_pos hw]
  obtain ⟨w', hrun, r1, r2⟩ := run_copy_part (dCap := dCap) hg hs hd hf o.type
  unfold Oper.wp
  simp [execOp, ho, resolve, invoke, builtin, hed, hes, hrun, Result.andThen]
  exact h _ r1 r2
end Go.Proofs.Ythmdidiojjmebaa
