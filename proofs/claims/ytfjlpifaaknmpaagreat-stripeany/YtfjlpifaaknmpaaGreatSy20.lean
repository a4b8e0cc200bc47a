/- Packed: Own4, Loc4, Line4. -/
import Derived.Test.YtfjlpifaaknmpaaGreatSy1
import Derived.Test.YtfjlpifaaknmpaaGreatSy2
import Derived.Test.YtfjlpifaaknmpaaGreatSy3
import Derived.Test.YtfjlpifaaknmpaaGreatSy4
import Derived.Test.YtfjlpifaaknmpaaGreatSy5
import Derived.Test.YtfjlpifaaknmpaaGreatSy11
import Derived.Test.YtfjlpifaaknmpaaGreatSy17
import Derived.Test.YtfjlpifaaknmpaaGreatSy18
import Derived.Test.YtfjlpifaaknmpaaGreatSy19
/- Rows of a call's own, of ints and of slices that lie elsewhere: made, read, stored into. -/
set_option linter.unusedVariables false
set_option maxRecDepth 100000
namespace Go.Proofs.YtfjlpifaaknmpaaGreat
open Go.RowKit

/-- A place of a row of its own: read, and stored into. -/
theorem row_place {B : Nat} {w : World} {t : TypeId} {p : Option Addr} {n cap m : Nat} {us : List Value} (h : w.ownsRow B t 1 (.slice p n cap) m us) (hm' : m = us.length) {k : Nat} (hk : k < us.length) :
    ∃ g, p = some ⟨g, 0, none⟩ ∧ n = us.length ∧ B ≤ g ∧ w.cell? ⟨g, k, none⟩ = some (us.getD k undef) ∧ w.frozen? ⟨g, k, none⟩ = false ∧
      (∀ u, (w.setCell ⟨g, k, none⟩ u).ownsRow B t 1 (.slice (some ⟨g, 0, none⟩) n cap) m (us.set k u)) ∧ ∀ u, w.grownBy (w.setCell ⟨g, k, none⟩ u) (some g) := by
  subst hm'
  have hr := h
  rcases h.2 with ⟨e, hn⟩ | ⟨g, cap', cur, e, hb, hg, hc, hm, hs, ht⟩
  · omega
  · injection e with e1 e2 e3
    subst e1
    subst e2
    subst e3
    have hcell : w.cell? ⟨g, k, none⟩ = some (us.getD k undef) := by
      have := hr.cells (g := g) rfl k (us.getD k undef) (by simp [List.getD, hk])
      rwa [add_at, Nat.zero_add] at this
    refine ⟨g, rfl, rfl, hb, hcell, by simp [World.frozen?, hg], fun u => ⟨by simp, .inr ⟨g, cap, cur.setIfInBounds k u, rfl, hb, ?_, by simpa using hc, hm, by simpa using hs, ?_⟩⟩, fun u => ⟨rfl, rfl, rfl, by simp, fun i hi hne => Below.heap_setCell _ _ _ _ (by simpa using hne)⟩⟩
    · rw [setCell_eq_setRow w g k cur t (0, 0) _ hg]
      exact setRow_heap w g cur _ t _ hg
    · simp only [Array.toList_setIfInBounds]
      rw [List.take_set, ht]

/-- The slice v has the ints ls, in a row of its own, in a block from B on. -/
structure IOwn (B : Nat) (w : World) (v : Value) (ls : List Int) : Prop where
  len : ls.length * 8 ≤ 140737488351232
  row : w.ownsRow B 3 1 v ls.length (ls.map (Value.int .i64))
theorem IOwn.keep {B : Nat} {w w' : World} {v : Value} {ls : List Int} (h : IOwn B w v ls) (g : w.grownBy w' none) : IOwn B w' v ls := ⟨h.len, h.row.kept g (Classical.em _)⟩
theorem IOwn.lo {B : Nat} {w : World} {v : Value} {ls : List Int} (h : IOwn B w v ls) : Lo B v := fun k hk => (h.row.lt k hk).1
theorem IOwn.ivec {B : Nat} {w : World} {v : Value} {ls : List Int} (h : IOwn B w v ls) : IVec w v ls := by
  have hl := h.len
  refine ⟨by omega, ?_⟩
  rcases h.row.2 with ⟨e, hn⟩ | ⟨g, cap', cur, e, hb, hg, hc, hm, hs, ht⟩
  · exact ⟨none, 0, by rw [e, hn], by omega, by decide, fun hne => absurd (List.eq_nil_of_length_eq_zero hn) hne⟩
  · refine ⟨some ⟨g, 0, none⟩, cap', e, hc, hm, fun hne => ⟨g, 0, rfl, fun j hj => ?_⟩⟩
    have hr := h.row
    have := hr.cells (g := g) (by rw [e]; rfl) j (.int .i64 (ls.getD j 0)) (by simp [List.getD, hj])
    rwa [add_at] at this
theorem IOwn.place {B : Nat} {w : World} {p : Option Addr} {n cap : Nat} {ls : List Int} (h : IOwn B w (.slice p n cap) ls) {k : Nat} (hk : k < ls.length) :
    ∃ g, p = some ⟨g, 0, none⟩ ∧ B ≤ g ∧ w.cell? ⟨g, k, none⟩ = some (.int .i64 (ls.getD k 0)) ∧ w.frozen? ⟨g, k, none⟩ = false ∧
      (∀ z : Int, IOwn B (w.setCell ⟨g, k, none⟩ (.int .i64 z)) (.slice (some ⟨g, 0, none⟩) n cap) (ls.set k z)) ∧ ∀ u, w.grownBy (w.setCell ⟨g, k, none⟩ u) (some g) := by
  obtain ⟨g, e, hn, hb, hc, hf, hset, hgr⟩ := row_place h.row (by simp) (k := k) (by simpa using hk)
  refine ⟨g, e, hb, by rw [hc]; simp [List.getD, hk], hf, fun z => ⟨by simpa using h.len, ?_⟩, hgr⟩
  have := hset (.int .i64 z)
  simpa [List.map_set] using this
theorem made_ints {w w' : World} {n : Nat} (hn : n * 8 ≤ 140737488351232) (e : w' = w.alloc (.cells (madeCells #[.int .i64 0] n) 3)) : IOwn w.heap.size w' (.slice (some ⟨w.heap.size, 0, none⟩) n n) (List.replicate n 0) := by
  subst e
  refine ⟨by simpa using hn, ⟨by simp, .inr ⟨w.heap.size, n, _, by simp, Nat.le_refl _, heap_alloc_new w _, by simp, by unfold maxLen; omega, ?_, ?_⟩⟩⟩
  · simp [madeCells]
  · rw [Nat.mul_one, List.length_replicate, made_list _ n]; simp
theorem wpList_make_ints {w : World} {ops : Array Oper} {rest : List Oper} {o : Oper} {a : Act} {Q : Exit → Act → World → Prop} (hgd : o.guard = none) (l c : Operand)
    (ho : o.op = Op.makeSlice 95 l c) (n : Nat) (hel : a.eval l = .int .i64 (n : Int)) (hec : a.eval c = .int .i64 (n : Int)) (hn : n * 8 ≤ 140737488351232)
    (h : ∀ w1 p, IOwn w.heap.size w1 (.slice p n n) (List.replicate n 0) → w.grownBy w1 none → wpList Tryz.prog ops Q rest (a.put o.dst (.slice p n n)) w1) : wpList Tryz.prog ops Q (o :: rest) a w := by
  obtain ⟨i0, hi, hz0, hz1, hz2⟩ := info_parts Tryz.infoI
  refine wpList_make_row _ hgd l c 95 ho 3 i0 (.int .i64 0) Tryz.underlying95 hi hz0 hz1 rfl _ _ n hel hec (by rw [hz2]; omega) (by omega) ?_
  exact h _ _ (made_ints hn rfl) (World.grownBy_alloc _ _ none)

theorem Out.place {B : Nat} {w : World} {p : Option Addr} {n cap : Nat} {us : List Value} (h : Out B w (.slice p n cap) us) {k : Nat} (hk : k < us.length) :
    ∃ g, p = some ⟨g, 0, none⟩ ∧ B ≤ g ∧ w.cell? ⟨g, k, none⟩ = some (us.getD k undef) ∧ w.frozen? ⟨g, k, none⟩ = false ∧
      (∀ u, Out B (w.setCell ⟨g, k, none⟩ u) (.slice (some ⟨g, 0, none⟩) n cap) (us.set k u)) ∧ ∀ u, w.grownBy (w.setCell ⟨g, k, none⟩ u) (some g) := by
  obtain ⟨g, e, hn, hb, hc, hf, hset, hgr⟩ := row_place h.row rfl (k := k) hk
  exact ⟨g, e, hb, hc, hf, fun u => ⟨by simpa using h.len, by have := hset u; simpa using this⟩, hgr⟩
theorem wpList_make_out {w : World} {ops : Array Oper} {rest : List Oper} {o : Oper} {a : Act} {Q : Exit → Act → World → Prop} (hgd : o.guard = none) (l c : Operand)
    (ho : o.op = Op.makeSlice 87 l c) (n : Nat) (hel : a.eval l = .int .i64 (n : Int)) (hec : a.eval c = .int .i64 (n : Int)) (hn : n * 24 ≤ 140737488351232)
    (h : ∀ w1 p, Out w.heap.size w1 (.slice p n n) (List.replicate n (.slice none 0 0)) → w.grownBy w1 none → wpList Tryz.prog ops Q rest (a.put o.dst (.slice p n n)) w1) : wpList Tryz.prog ops Q (o :: rest) a w :=
  wpList_make_chunks hgd l c ho n hel hec hn fun w1 p om g => h w1 p ⟨om.len, om.row⟩ g
end Go.Proofs.YtfjlpifaaknmpaaGreat

/- Contracts of code.locate and of the method looked. -/
set_option linter.unusedVariables false
set_option maxRecDepth 100000
namespace Go.Proofs.YtfjlpifaaknmpaaGreat
open Go.RowKit

/-- Where a number stands among the first j, counted from 1; 0 is nowhere. -/
def wh (ls : List Int) : Nat → Nat → Nat
  | 0, _ => 0
  | j + 1, x => if ls.getD j 0 = (x : Int) then j + 1 else wh ls j x
theorem wh_pos {ls : List Int} : ∀ {j x : Nat}, wh ls j x ≠ 0 → wh ls j x - 1 < j ∧ ls.getD (wh ls j x - 1) 0 = (x : Int)
  | 0, x, h => absurd rfl h
  | j + 1, x, h => by
    unfold wh at h ⊢
    split
    · exact ⟨by omega, by simpa using ‹ls.getD j 0 = (x : Int)›⟩
    · rename_i e
      rw [if_neg e] at h
      have := wh_pos h
      exact ⟨by omega, this.2⟩
/-- The first j numbers are from 0 to n - 1, and different. -/
def goodAt (n : Nat) (ls : List Int) (j : Nat) : Prop := ∀ i, i < j → 0 ≤ ls.getD i 0 ∧ ls.getD i 0 < n ∧ ∀ i', i' < i → ls.getD i' 0 ≠ ls.getD i 0
theorem wh_at {n : Nat} {ls : List Int} : ∀ {j i x : Nat}, goodAt n ls j → i < j → ls.getD i 0 = (x : Int) → wh ls j x = i + 1
  | 0, _, _, _, h, _ => absurd h (by omega)
  | j + 1, i, x, hg, hi, he => by
    unfold wh
    by_cases e : i = j
    · subst e; rw [if_pos he]
    · have hij : i < j := by omega
      rw [if_neg (fun c => (hg j (by omega)).2.2 i hij (by rw [he, c]))]
      exact wh_at (fun a ha => hg a (by omega)) hij he

/-- The array of such places. -/
def placesOf (f : Nat → Nat) : Array Value := Array.ofFn (n := 255) fun i => .int .i64 ((f i.1 : Nat) : Int)
theorem placesOf_size (f : Nat → Nat) : (placesOf f).size = 255 := by simp [placesOf]
theorem placesOf_get (f : Nat → Nat) (i : Nat) (h : i < 255) : (placesOf f)[i]? = some (.int .i64 ((f i : Nat) : Int)) := by simp [placesOf, h]
theorem placesOf_set (ls : List Int) (j x : Nat) (hx : x < 255) (he : ls.getD j 0 = (x : Int)) : (placesOf (wh ls j)).setIfInBounds x (.int .i64 ((j : Int) + 1)) = placesOf (wh ls (j + 1)) := by
  apply Array.ext_getElem?
  intro i
  by_cases h : i < 255
  · rw [placesOf_get _ _ h, Array.getElem?_setIfInBounds]
    by_cases e : x = i
    · subst e
      rw [if_pos rfl, if_pos (by rw [placesOf_size]; exact hx)]
      have : wh ls (j + 1) x = j + 1 := by
        show (if ls.getD j 0 = (x : Int) then j + 1 else wh ls j x) = _
        rw [if_pos he]
      rw [this]
      simp
    · rw [if_neg e, placesOf_get _ _ h]
      have : wh ls (j + 1) i = wh ls j i := by
        show (if ls.getD j 0 = (i : Int) then j + 1 else wh ls j i) = _
        rw [if_neg (by rw [he]; omega)]
      rw [this]
  · have h1 : ((placesOf (wh ls j)).setIfInBounds x (.int .i64 ((j : Int) + 1)))[i]? = none := by simp [placesOf_size]; omega
    have h2 : (placesOf (wh ls (j + 1)))[i]? = none := by simp [placesOf_size]; omega
    rw [h1, h2]
theorem placesOf_one (f : Nat → Nat) : (placesOf f).all (·.oneCell') = true := by
  rw [Array.all_eq_true_iff_forall_mem]
  intro v hv
  obtain ⟨i, _, rfl⟩ := Array.mem_ofFn.1 hv
  rfl
theorem infoL (f : Nat → Nat) : (Tryz.prog.info? 154).map (·.size) = some (placesOf f).size := by rw [placesOf_size]; kernel_rfl
theorem zeroL (w : World) : (zeroValue 154).run Tryz.prog w = .ok (.agg (placesOf (fun _ => 0))) w := by
  have h : (Tryz.prog.info? 154).map (fun i => (i.zero, i.size)) = some (some (.agg (placesOf (fun _ => 0))), 255) := by kernel_rfl
  cases hq : Tryz.prog.info? 154 with
  | none => simp [hq] at h
  | some i => simp [hq] at h; simp [zeroValue, typeInfo, hq, h.1]

/-- Two results: a whole array that lies in memory, and a value. -/
theorem results_row_tmp {P : Program} {fn : Func} {p q : Tmp} {ty : TypeId} (h : fn.results = #[.cell p ty, .tmp q]) (tmps : Array Value) (w : World) (g : Nat) (t : TypeId) (cs : Array Value) (fr : Nat × Nat) (d : TypeDesc) (v : Value)
    (hp : tmps.getD p undef = .pointer (some ⟨g, 0, none⟩)) (hq : tmps.getD q undef = v) (hg : w.heap[g]? = some (.cells cs t fr))
    (hu : P.underlying ty = some d) (hd : (match d with | .struct _ | .array _ _ => true | _ => false) = true) (hi : (P.info? ty).map (·.size) = some cs.size) :
    (results fn tmps).run P w = .ok (.tuple #[.agg cs, v]) w := by
  have hp' : tmps[p]?.getD undef = .pointer (some ⟨g, 0, none⟩) := by simpa using hp
  have hq' : tmps[q]?.getD undef = v := by simpa using hq
  simp [results, h, hp', hq', asAddr, run_loadVar_row w g t ty cs fr d hg hu hd hi]

theorem storeL {w : World} {g : Nat} {f f' : Nat → Nat} (h : w.heap[g]? = some (.cells (placesOf f) 154 (0, 0))) : (storeCells ⟨g, 0, none⟩ (placesOf f').toList).run Tryz.prog w = .ok () (w.setRow g (placesOf f')) := by
  have := run_storeCells_from (P := Tryz.prog) g 154 (placesOf f').toList 0 (placesOf f) w h (by simp [placesOf_size]) (mem_one (placesOf_one f'))
  simpa using this

set_option maxHeartbeats 1600000 in
set_option maxRecDepth 100000 in
theorem locate_all {w : World} {v : Value} {ls : List Int} {n : Nat} (hv : IVec w v ls) (hn : n ≤ 255) :
    Calls Tryz.prog 105 #[.int .i64 (n : Int), v] w fun e w' => w.grownBy w' none ∧ ((goodAt n ls ls.length ∧ e = .returned (.tuple #[.agg (placesOf (wh ls ls.length)), .bool true])) ∨ (¬ goodAt n ls ls.length ∧ e = .returned (.tuple #[.agg (placesOf (fun _ => 0)), .bool false]))) := by
  obtain ⟨q, N, cap, rfl, hN⟩ := hv.opened
  have hNl : N ≤ 140737488351232 := by rw [hN]; exact hv.len
  have HN : Hid (N = ls.length) := hN
  have KV : Hid (∀ w', w.grownBy w' none → IVec w' (.slice q N cap) ls) := fun w' g => hv.keep g
  clear hN hv
  have zL := zeroL
  go_enter Tryz.func105, Tryz.ntmps105
  go_wp2
  clear zL
  go_loopw [10] (fun ti wr => ∃ j : Nat, j ≤ N ∧ ti = .int .i64 j ∧ Hid (wr.heap[w.heap.size]? = some (.cells (placesOf (wh ls j)) 154 (0, 0))) ∧ Hid (w.grownBy wr none) ∧ Hid (goodAt n ls j)) (fun ti _ => N - (intOf ti).toNat)
  case atStart => exact ⟨0, by omega, rfl, heap_alloc_new w _, gb_alloc (World.grownBy.refl _ _) _, fun i hi => by omega⟩
  case round =>
    obtain ⟨j, hj, rfl, HM, HG, HA⟩ := hrel
    by_cases hlt : j < N
    · have i1 : (j : Int) < (N : Int) := by omega
      have i3 : (0 : Int) ≤ (j : Int) := by omega
      obtain ⟨b, off, rfl, hc⟩ := (KV.out _ HG.out).spot (k := j) (by have := HN.out; omega)
      by_cases c1 : 0 ≤ ls.getD j 0 ∧ ls.getD j 0 < n
      · obtain ⟨x, hx⟩ := Int.eq_ofNat_of_zero_le c1.1
        have hx' : ls.getD j 0 = (x : Int) := hx
        rw [hx'] at hc
        have hxn : x < n := by omega
        have j1 : ¬ (x : Int) < 0 := by omega
        have j2 : ¬ (n : Int) ≤ (x : Int) := by omega
        have j3 : (x : Int) < 255 := by omega
        have hcx : wr.cell? ⟨w.heap.size, x, none⟩ = some (.int .i64 ((wh ls j x : Nat) : Int)) := by rw [cell_of_row _ _ _ _ _ _ HM.out, placesOf_get _ _ (by omega)]
        have hfx : wr.frozen? ⟨w.heap.size, x, none⟩ = false := frozen_of_row _ _ _ _ _ HM.out
        by_cases c2 : wh ls j x = 0
        · rw [c2] at hcx
          have HA' : Hid (goodAt n ls (j + 1)) := fun i hi => by
            by_cases e : i = j
            · subst e
              refine ⟨c1.1, c1.2, fun i' hi' he => ?_⟩
              have := wh_at (x := x) HA.out hi' (by rw [he, hx'])
              omega
            · exact HA.out i (by omega)
          have HP : Hid ((wr.setCell ⟨w.heap.size, x, none⟩ (.int .i64 ((j : Int) + 1))).heap[w.heap.size]? = some (.cells (placesOf (wh ls (j + 1))) 154 (0, 0))) := by
            show _ = _
            rw [heap_setCell_same _ _ _ _ _ _ HM.out, placesOf_set ls j x (by omega) hx']
          have HGN : Hid (w.grownBy (wr.setCell ⟨w.heap.size, x, none⟩ (.int .i64 ((j : Int) + 1))) none) := gb_setCell HG.out (by simp) _
          clear c1 hx hx' c2 HM HG HA
          go_wp2
          go_roundw
          case rel => exact ⟨j + 1, by omega, by go_num, HP, HGN, HA'⟩
          case measure => simp [intOf]; omega
        · have hne : (((wh ls j x : Nat) : Int) != 0) = true := by simp; omega
          have NG : Hid (¬ goodAt n ls ls.length) := fun hg => by
            have h1 := wh_pos c2
            exact (hg j (by have := HN.out; omega)).2.2 _ h1.1 (by rw [h1.2, hx'])
          generalize wh ls j x = y at *
          have sL := storeL (f' := fun _ => 0) HM.out
          have pL := placesOf_size (fun _ => 0)
          have zL := zeroL
          have HR : Hid ((wr.setRow w.heap.size (placesOf fun _ => 0)).heap[w.heap.size]? = some (.cells (placesOf fun _ => 0) 154 (0, 0))) := setRow_heap _ _ _ _ _ _ HM.out
          have HGR : Hid (w.grownBy (wr.setRow w.heap.size (placesOf fun _ => 0)) none) := grown_new HG.out (row := some w.heap.size) ⟨rfl, rfl, rfl, by simp, fun k _ hk => setRow_other wr w.heap.size k _ (fun e => hk (by simp [e]))⟩ (fun i e => by have := Option.some.inj e; omega)
          have HI : Hid ((Tryz.prog.info? 154).map (·.size) = some (placesOf fun _ => 0).size) := infoL _
          clear c1 hx hx' HM HG HA
          go_wp2
          exact bodyPost_ret (results_row_tmp rfl _ _ w.heap.size 154 (placesOf fun _ => 0) (0, 0) _ _ rfl rfl HR.out Tryz.underlying154 rfl HI.out) rfl ⟨HGR.out, .inr ⟨NG.out, rfl⟩⟩
      · have NG : Hid (¬ goodAt n ls ls.length) := fun hg => by
          have h1 := hg j (by have := HN.out; omega)
          exact c1 ⟨h1.1, h1.2.1⟩
        generalize ls.getD j 0 = z at *
        by_cases c2 : z < 0
        · have sL := storeL (f' := fun _ => 0) HM.out
          have pL := placesOf_size (fun _ => 0)
          have zL := zeroL
          have HR : Hid ((wr.setRow w.heap.size (placesOf fun _ => 0)).heap[w.heap.size]? = some (.cells (placesOf fun _ => 0) 154 (0, 0))) := setRow_heap _ _ _ _ _ _ HM.out
          have HGR : Hid (w.grownBy (wr.setRow w.heap.size (placesOf fun _ => 0)) none) := grown_new HG.out (row := some w.heap.size) ⟨rfl, rfl, rfl, by simp, fun k _ hk => setRow_other wr w.heap.size k _ (fun e => hk (by simp [e]))⟩ (fun i e => by have := Option.some.inj e; omega)
          have HI : Hid ((Tryz.prog.info? 154).map (·.size) = some (placesOf fun _ => 0).size) := infoL _
          clear c1 HM HG HA
          go_wp2
          exact bodyPost_ret (results_row_tmp rfl _ _ w.heap.size 154 (placesOf fun _ => 0) (0, 0) _ _ rfl rfl HR.out Tryz.underlying154 rfl HI.out) rfl ⟨HGR.out, .inr ⟨NG.out, rfl⟩⟩
        · have c3 : (n : Int) ≤ z := by omega
          have sL := storeL (f' := fun _ => 0) HM.out
          have pL := placesOf_size (fun _ => 0)
          have zL := zeroL
          have HR : Hid ((wr.setRow w.heap.size (placesOf fun _ => 0)).heap[w.heap.size]? = some (.cells (placesOf fun _ => 0) 154 (0, 0))) := setRow_heap _ _ _ _ _ _ HM.out
          have HGR : Hid (w.grownBy (wr.setRow w.heap.size (placesOf fun _ => 0)) none) := grown_new HG.out (row := some w.heap.size) ⟨rfl, rfl, rfl, by simp, fun k _ hk => setRow_other wr w.heap.size k _ (fun e => hk (by simp [e]))⟩ (fun i e => by have := Option.some.inj e; omega)
          have HI : Hid ((Tryz.prog.info? 154).map (·.size) = some (placesOf fun _ => 0).size) := infoL _
          clear c1 HM HG HA
          go_wp2
          exact bodyPost_ret (results_row_tmp rfl _ _ w.heap.size 154 (placesOf fun _ => 0) (0, 0) _ _ rfl rfl HR.out Tryz.underlying154 rfl HI.out) rfl ⟨HGR.out, .inr ⟨NG.out, rfl⟩⟩
    · obtain rfl : j = N := by omega
      have HM' : wr.heap[w.heap.size]? = some (.cells (placesOf (wh ls ls.length)) 154 (0, 0)) := by rw [← HN.out]; exact HM.out
      have HA' : Hid (goodAt n ls ls.length) := by show goodAt _ _ _; rw [← HN.out]; exact HA.out
      clear HM HA
      go_wp2
      refine wp_load_row 154 (.tmp 4) rfl w.heap.size rfl 154 (placesOf (wh ls ls.length)) (0, 0) _ HM' Tryz.underlying154 rfl (infoL _) ?_
      have sL : (storeCells ⟨w.heap.size, 0, none⟩ (placesOf (wh ls ls.length)).toList).run Tryz.prog wr = .ok () wr := by
        have := storeL (f' := wh ls ls.length) HM'
        rwa [setRow_self wr w.heap.size _ _ _ HM'] at this
      have pL := placesOf_size (wh ls ls.length)
      have HP : Hid (wr.heap[w.heap.size]? = some (.cells (placesOf (wh ls ls.length)) 154 (0, 0))) := HM'
      have HI : Hid ((Tryz.prog.info? 154).map (·.size) = some (placesOf (wh ls ls.length)).size) := infoL _
      clear HM'
      obtain ⟨AR, hAR⟩ : ∃ AR, AR = placesOf (wh ls ls.length) := ⟨_, rfl⟩
      rw [← hAR] at sL pL HP HI
      rw [← hAR]
      have HAR : Hid (AR = placesOf (wh ls ls.length)) := hAR
      clear hAR
      go_wp2
      exact bodyPost_ret (results_row_tmp rfl _ _ w.heap.size 154 AR (0, 0) _ _ rfl rfl HP.out Tryz.underlying154 rfl HI.out) rfl ⟨HG.out, .inl ⟨HA'.out, by rw [HAR.out]; rfl⟩⟩

theorem locate_yes {w : World} {v : Value} {ls : List Int} {n : Nat} (hv : IVec w v ls) (hn : n ≤ 255) (h : goodAt n ls ls.length) :
    Calls Tryz.prog 105 #[.int .i64 (n : Int), v] w fun e w' => e = .returned (.tuple #[.agg (placesOf (wh ls ls.length)), .bool true]) ∧ w.grownBy w' none :=
  (locate_all hv hn).mono fun e w' ⟨g, k⟩ => by
    rcases k with ⟨_, k⟩ | ⟨k, _⟩
    · exact ⟨k, g⟩
    · exact absurd h k
/-- Whether a number is looked at. -/
def lk (f : Nat → Nat) (k x : Nat) : Bool := decide (1 ≤ f x) && decide (f x ≤ k)

set_option maxRecDepth 100000 in
theorem looked_any {w : World} {f : Nat → Nat} {x k : Nat} (hx : x < 255) :
    Calls Tryz.prog 129 #[.agg (placesOf f), .int .i64 (x : Int), .int .i64 (k : Int)] w fun e w' => e = .returned (.bool (lk f k x)) ∧ w.grownBy w' none := by
  have j3 : (x : Int) < 255 := by omega
  have j4 : (0 : Int) ≤ (x : Int) := by omega
  have pL := placesOf_size f
  have hcx : (w.alloc (.cells (placesOf f) 154)).cell? ⟨w.heap.size, x, none⟩ = some (.int .i64 ((f x : Nat) : Int)) := by rw [cell_of_row _ _ _ _ _ _ (heap_alloc_new w _), placesOf_get _ _ hx]
  have HL : Hid (lk f k x = (decide (1 ≤ f x) && decide (f x ≤ k))) := rfl
  have HGA : Hid (w.grownBy (w.alloc (.cells (placesOf f) 154)) none) := gb_alloc (World.grownBy.refl _ _) _
  generalize lk f k x = bl at *
  generalize f x = y at *
  generalize placesOf f = AR at *
  by_cases c : 1 ≤ y
  · go_enter Tryz.func129, Tryz.ntmps129
    go_wp2
    go_ret
    exact ⟨by rw [HL.out, decide_eq_true c]; rfl, HGA.out⟩
  · go_enter Tryz.func129, Tryz.ntmps129
    go_wp2
    go_ret
    exact ⟨by rw [HL.out, decide_eq_false c]; rfl, HGA.out⟩
end Go.Proofs.YtfjlpifaaknmpaaGreat

/- The contract of code.lineUp: the numbers that are looked at, data's at their own places. -/
set_option linter.unusedVariables false
set_option maxRecDepth 100000
namespace Go.Proofs.YtfjlpifaaknmpaaGreat
open Go.RowKit

/-- How many below n are so. -/
def cnt (p : Nat → Bool) (n : Nat) : Nat := ((List.range n).filter p).length
theorem cnt_succ (p : Nat → Bool) (n : Nat) : cnt p (n + 1) = cnt p n + if p n then 1 else 0 := by
  unfold cnt
  rw [List.range_succ, List.filter_append, List.length_append]
  by_cases h : p n = true
  · simp [h]
  · simp [h]
theorem cnt_yes {p : Nat → Bool} {n : Nat} (h : p n = true) : cnt p (n + 1) = cnt p n + 1 := by rw [cnt_succ, if_pos h]
theorem cnt_no {p : Nat → Bool} {n : Nat} (h : p n = false) : cnt p (n + 1) = cnt p n := by rw [cnt_succ, h]; simp
theorem cnt_le (p : Nat → Bool) (a : Nat) : ∀ b, cnt p (a + b) ≤ cnt p a + b
  | 0 => Nat.le_refl _
  | b + 1 => by
    have := cnt_le p a b
    rw [show a + (b + 1) = (a + b) + 1 from by omega, cnt_succ]
    split <;> omega
theorem cnt_none (p : Nat → Bool) (a : Nat) : ∀ b, (∀ x, a ≤ x → x < a + b → p x = false) → cnt p (a + b) = cnt p a
  | 0, _ => rfl
  | b + 1, h => by
    rw [show a + (b + 1) = (a + b) + 1 from by omega, cnt_no (h (a + b) (by omega) (by omega))]
    exact cnt_none p a b fun x h1 h2 => h x h1 (by omega)

/-- The numbers in line, the first j of them. -/
structure Lined (p : Nat → Bool) (k : Nat) (f : Nat → Nat) (j : Nat) : Prop where
  yes : ∀ i, i < j → p (f i) = true
  lt : ∀ i, i < j → f i < 255
  own : ∀ i, i < j → f i = i ∨ k ≤ f i
  inj : ∀ i i', i < j → i' < j → f i = f i' → i = i'
theorem gap_has {p : Nat → Bool} {k j s : Nat} (hall : k ≤ cnt p 255) (hjk : j < k) (hs : s ≤ 255) (hc : cnt p j + cnt p s = j + cnt p k) (hj : p j = false) : ∃ x, s ≤ x ∧ x < 255 ∧ p x = true := by
  refine Classical.byContradiction fun hno => ?_
  have h1 := cnt_none p s (255 - s) fun x a b => by
    rcases e : p x with _ | _
    · rfl
    · exact absurd ⟨x, a, by omega, e⟩ hno
  rw [show s + (255 - s) = 255 from by omega] at h1
  have h2 := cnt_le p (j + 1) (k - (j + 1))
  rw [show j + 1 + (k - (j + 1)) = k from by omega, cnt_no hj] at h2
  omega
theorem wh_count {n : Nat} {ls : List Int} {k : Nat} (hn : n ≤ 255) (hg : goodAt n ls ls.length) (hk : k ≤ ls.length) : k ≤ cnt (lk (wh ls ls.length) k) 255 := by
  have h := MX.nodup_len ((List.range k).map fun i => (ls.getD i 0).toNat) ((List.range 255).filter (lk (wh ls ls.length) k)) (MX.nodup_map fun i j hi hj e => by
      have a := hg i (by omega)
      have b := hg j (by omega)
      rcases Nat.lt_trichotomy i j with c | c | c
      · exact absurd (by omega) (b.2.2 i c)
      · exact c
      · exact absurd (by omega) (a.2.2 j c)) (by
    intro a ha
    obtain ⟨i, hi, rfl⟩ := List.mem_map.1 ha
    have hi' := List.mem_range.1 hi
    have hr := hg i (by omega)
    have e : wh ls ls.length (ls.getD i 0).toNat = i + 1 := wh_at hg (by omega) (by omega)
    refine List.mem_filter.2 ⟨List.mem_range.2 (by omega), ?_⟩
    unfold lk
    rw [e]
    simp
    omega)
  rw [List.length_map, List.length_range] at h
  exact h

theorem IOwn.down {B B' : Nat} {w : World} {v : Value} {ls : List Int} (h : IOwn B' w v ls) (hB : B ≤ B') : IOwn B w v ls :=
  ⟨h.len, ⟨h.row.1, by
    rcases h.row.2 with h | ⟨g, cp, cur, a1, a2, a3⟩
    · exact .inl h
    · exact .inr ⟨g, cp, cur, a1, by omega, a3⟩⟩⟩

/-- A list of ints out of numbers. -/
def intsOf (f : Nat → Nat) (k j : Nat) : List Int := (List.range k).map fun i => if i < j then ((f i : Nat) : Int) else 0
theorem intsOf_len (f : Nat → Nat) (k j : Nat) : (intsOf f k j).length = k := by simp [intsOf]
theorem intsOf_zero (f : Nat → Nat) (k : Nat) : intsOf f k 0 = List.replicate k 0 := by
  apply List.ext_getElem
  · simp [intsOf]
  · intro i h1 h2
    simp [intsOf]
theorem intsOf_set (f : Nat → Nat) (k j x : Nat) : (intsOf f k j).set j (x : Int) = intsOf (fun i => if i = j then x else f i) k (j + 1) := by
  apply List.ext_getElem
  · simp [intsOf]
  · intro i h1 h2
    by_cases e : j = i
    · subst e; simp [intsOf]
    · by_cases l : i < j
      · simp [intsOf, e, l, show i < j + 1 from by omega, show ¬ i = j from fun c => e c.symm]
      · simp [intsOf, e, l, show ¬ i < j + 1 from by omega]
theorem Lined.next {p : Nat → Bool} {k : Nat} {f : Nat → Nat} {j x : Nat} (h : Lined p k f j) (hp : p x = true) (hx : x < 255) (ho : x = j ∨ k ≤ x) (hne : ∀ i, i < j → f i ≠ x) : Lined p k (fun i => if i = j then x else f i) (j + 1) := by
  refine ⟨fun i hi => ?_, fun i hi => ?_, fun i hi => ?_, fun i i' hi hi' e => ?_⟩
  · show p (if i = j then x else f i) = true
    by_cases c : i = j
    · rw [if_pos c]; exact hp
    · rw [if_neg c]; exact h.yes i (by omega)
  · show (if i = j then x else f i) < 255
    by_cases c : i = j
    · rw [if_pos c]; exact hx
    · rw [if_neg c]; exact h.lt i (by omega)
  · show (if i = j then x else f i) = i ∨ k ≤ (if i = j then x else f i)
    by_cases c : i = j
    · rw [if_pos c, c]; exact ho
    · rw [if_neg c]; exact h.own i (by omega)
  · change (if i = j then x else f i) = (if i' = j then x else f i') at e
    by_cases c : i = j
    · by_cases c' : i' = j
      · omega
      · rw [if_pos c, if_neg c'] at e
        exact absurd e.symm (hne i' (by omega))
    · by_cases c' : i' = j
      · rw [if_neg c, if_pos c'] at e
        exact absurd e (hne i (by omega))
      · rw [if_neg c, if_neg c'] at e
        exact h.inj i i' (by omega) (by omega) e

theorem line_put {w wr w3 : World} {g k j x : Nat} {F : Nat → Nat} {AR : Array Value} (OK : IOwn w.heap.size wr (.slice (some ⟨g, 0, none⟩) k k) (intsOf F k j)) (hj : j < k) (AK : wr.heap[w.heap.size]? = some (.cells AR 154 (0, 0))) (GK : w.grownBy wr none) (g3 : wr.grownBy w3 none) :
    ∃ z : Int, w3.cell? ⟨g, j, none⟩ = some (.int .i64 z) ∧ w3.frozen? ⟨g, j, none⟩ = false ∧ IOwn w.heap.size (w3.setCell ⟨g, j, none⟩ (.int .i64 (x : Int))) (.slice (some ⟨g, 0, none⟩) k k) (intsOf (fun i => if i = j then x else F i) k (j + 1)) ∧ (w3.setCell ⟨g, j, none⟩ (.int .i64 (x : Int))).heap[w.heap.size]? = some (.cells AR 154 (0, 0)) ∧ w.grownBy (w3.setCell ⟨g, j, none⟩ (.int .i64 (x : Int))) none := by
  have o3 := OK.keep g3
  have a3 := heap_grown g3 AK
  obtain ⟨g', e', hb, hc, hf, hset, hgr⟩ := o3.place (k := j) (by rw [intsOf_len]; exact hj)
  obtain rfl : g = g' := (by injection e' with e'; injection e' with e')
  have hne : w.heap.size ≠ g := by
    rcases o3.row.2 with ⟨e, _⟩ | ⟨g'', cap, cur, e, _, hg, _⟩
    · cases e
    · injection e with e1 e2 e3
      injection e1 with e1
      injection e1 with e1
      subst e1
      intro c
      rw [c, hg] at a3
      injection a3 with a3
      injection a3 with _ a4
      exact absurd a4 (by decide)
  refine ⟨_, hc, hf, by rw [← intsOf_set]; exact hset x, by rw [heap_setCell_other _ _ _ _ hne]; exact a3, grown_new (grown_trans GK g3) (hgr _) (fun i e => by have := Option.some.inj e; omega)⟩

set_option maxHeartbeats 3200000 in
set_option maxRecDepth 100000 in
theorem lineUp_any {w : World} {f : Nat → Nat} {k : Nat} (h1 : 1 ≤ k) (h2 : k < 255) (hall : k ≤ cnt (lk f k) 255) :
    Calls Tryz.prog 106 #[.int .i64 (k : Int), .agg (placesOf f)] w fun e w' => ∃ p n c F, e = .returned (.slice p n c) ∧ IOwn w.heap.size w' (.slice p n c) (intsOf F k k) ∧ Lined (lk f k) k F k ∧ w.grownBy w' none := by
  have LK : Hid (∀ w (x : Nat), x < 255 → Calls Tryz.prog 129 #[.agg (placesOf f), .int .i64 (x : Int), .int .i64 (k : Int)] w fun e w' => e = .returned (.bool (lk f k x)) ∧ w.grownBy w' none) := fun w x hx => looked_any hx
  have pL := placesOf_size f
  have HI : Hid ((Tryz.prog.info? 154).map (·.size) = some (placesOf f).size) := infoL _
  have HALL : Hid (k ≤ cnt (lk f k) 255) := hall
  have HBX : Hid (∀ w : World, (w.alloc (.cells (placesOf f) 154)).heap[w.heap.size]? = some (.cells (placesOf f) 154 (0, 0))) := fun w => heap_alloc_new w _
  clear hall
  generalize placesOf f = AR at *
  go_enter Tryz.func106, Tryz.ntmps106
  go_wp2_with (at_make; refine wpList_make_ints rfl _ _ rfl k rfl rfl (by omega) ?_; intro w1 p om g1; have OM : Hid (IOwn w.heap.size w1 (.slice p k k) (intsOf (fun _ => 0) k 0) ∧ w1.heap[w.heap.size]? = some (.cells AR 154 (0, 0)) ∧ w.grownBy w1 none) := (by rw [intsOf_zero]; exact ⟨om.down (by simp), heap_grown g1 (HBX.out w), grown_trans (World.grownBy_alloc _ _ none) g1⟩); clear om g1)
  clear HBX
  go_loopw [6, 13] (fun ts ti wr => ∃ (j s : Nat) (F : Nat → Nat), j ≤ k ∧ k ≤ s ∧ s ≤ 255 ∧ ti = .int .i64 j ∧ ts = .int .i64 s ∧ Hid (IOwn w.heap.size wr (.slice p k k) (intsOf F k j)) ∧ Hid (wr.heap[w.heap.size]? = some (.cells AR 154 (0, 0))) ∧ Hid (w.grownBy wr none) ∧ Hid (Lined (lk f k) k F j ∧ (∀ i, i < j → F i < k ∨ F i < s) ∧ cnt (lk f k) j + cnt (lk f k) s = j + cnt (lk f k) k)) (fun _ ti _ => k - (intOf ti).toNat)
  case atStart => exact ⟨0, k, fun _ => 0, by omega, by omega, by omega, rfl, rfl, OM.out.1, OM.out.2.1, OM.out.2.2, ⟨fun i hi => by omega, fun i hi => by omega, fun i hi => by omega, fun i i' hi => by omega⟩, fun i hi => by omega, by simp [cnt]⟩
  case round =>
    clear OM
    obtain ⟨j, s, F, hj, hks, hs, rfl, rfl, OK, AK, GK, LN⟩ := hrel
    obtain ⟨wa, hwa⟩ : ∃ wa, wa = wr := ⟨wr, rfl⟩
    subst hwa
    by_cases hlt : j < k
    · have i1 : (j : Int) < (k : Int) := by omega
      have i3 : (0 : Int) ≤ (j : Int) := by omega
      have LJ : Hid (Calls Tryz.prog 129 #[.agg AR, .int .i64 (j : Int), .int .i64 (k : Int)] wa fun e w' => e = .returned (.bool (lk f k j)) ∧ wa.grownBy w' none) := LK.out wa j (by omega)
      have ak := AK.out
      rcases hb : lk f k j with _ | _
      · rw [hb] at LJ
        go_wp2
        refine wp_load_row 154 (.tmp 3) rfl w.heap.size rfl 154 AR (0, 0) _ ak Tryz.underlying154 rfl HI.out ?_
        clear ak
        go_wp2_with (go_at_call 129; refine LJ.out.mono ?_; rintro e w2 ⟨rfl, g2⟩; have G2 : Hid (wa.grownBy w2 none) := g2; clear g2)
        have GX : Hid (∃ x, s ≤ x ∧ x < 255 ∧ lk f k x = true) := gap_has HALL.out hlt hs LN.out.2.2 hb
        have F2 : Hid (IOwn w.heap.size w2 (.slice p k k) (intsOf F k j) ∧ w2.heap[w.heap.size]? = some (.cells AR 154 (0, 0)) ∧ w.grownBy w2 none) := ⟨OK.out.keep G2.out, heap_grown G2.out AK.out, grown_trans GK.out G2.out⟩
        clear OK AK GK G2 LJ
        go_loopw [6] (fun ts wr => ∃ s' : Nat, s ≤ s' ∧ s' < 255 ∧ ts = .int .i64 s' ∧ Hid (IOwn w.heap.size wr (.slice p k k) (intsOf F k j)) ∧ Hid (wr.heap[w.heap.size]? = some (.cells AR 154 (0, 0))) ∧ Hid (w.grownBy wr none) ∧ Hid (cnt (lk f k) s' = cnt (lk f k) s ∧ ∃ x, s' ≤ x ∧ x < 255 ∧ lk f k x = true)) (fun ts _ => 255 - (intOf ts).toNat)
        case atStart => exact ⟨s, by omega, by obtain ⟨x, a, b, _⟩ := GX.out; omega, rfl, F2.out.1, F2.out.2.1, F2.out.2.2, rfl, GX.out⟩
        case round =>
          clear F2 GX
          obtain ⟨t, hst, ht, rfl, OK, AK, GK, CX⟩ := hrel
          have LT : Hid (Calls Tryz.prog 129 #[.agg AR, .int .i64 (t : Int), .int .i64 (k : Int)] wr fun e w' => e = .returned (.bool (lk f k t)) ∧ wr.grownBy w' none) := LK.out wr t ht
          have ak := AK.out
          rcases hbt : lk f k t with _ | _
          · rw [hbt] at LT
            go_wp2
            refine wp_load_row 154 (.tmp 3) rfl w.heap.size rfl 154 AR (0, 0) _ ak Tryz.underlying154 rfl HI.out ?_
            clear ak
            have R : Hid (∀ w3, wr.grownBy w3 none → IOwn w.heap.size w3 (.slice p k k) (intsOf F k j) ∧ w3.heap[w.heap.size]? = some (.cells AR 154 (0, 0)) ∧ w.grownBy w3 none) := fun w3 g => ⟨OK.out.keep g, heap_grown g AK.out, grown_trans GK.out g⟩
            have C2 : Hid (t + 1 < 255 ∧ cnt (lk f k) (t + 1) = cnt (lk f k) s ∧ ∃ x, t + 1 ≤ x ∧ x < 255 ∧ lk f k x = true) := by
              obtain ⟨c1, x, a, b, c⟩ := CX.out
              have hne : x ≠ t := fun e => by rw [e, hbt] at c; cases c
              exact ⟨by omega, by rw [cnt_no hbt]; exact c1, x, by omega, b, c⟩
            clear OK AK GK CX hbt
            go_wp2_with (go_at_call 129; refine LT.out.mono ?_; rintro e w3 ⟨rfl, g3⟩; have R3 : Hid _ := R.out w3 g3; clear g3)
            go_roundw
            case rel => exact ⟨t + 1, by omega, C2.out.1, by go_num, R3.out.1, R3.out.2.1, R3.out.2.2, C2.out.2⟩
            case measure => simp [intOf]; omega
          · rw [hbt] at LT
            go_wp2
            refine wp_load_row 154 (.tmp 3) rfl w.heap.size rfl 154 AR (0, 0) _ ak Tryz.underlying154 rfl HI.out ?_
            clear ak
            obtain ⟨g, rfl, _⟩ := OK.out.place (k := j) (by rw [intsOf_len]; exact hlt)
            have R : Hid (∀ w3, wr.grownBy w3 none → ∃ z : Int, w3.cell? ⟨g, j, none⟩ = some (.int .i64 z) ∧ w3.frozen? ⟨g, j, none⟩ = false ∧ IOwn w.heap.size (w3.setCell ⟨g, j, none⟩ (.int .i64 (t : Int))) (.slice (some ⟨g, 0, none⟩) k k) (intsOf (fun i => if i = j then t else F i) k (j + 1)) ∧ (w3.setCell ⟨g, j, none⟩ (.int .i64 (t : Int))).heap[w.heap.size]? = some (.cells AR 154 (0, 0)) ∧ w.grownBy (w3.setCell ⟨g, j, none⟩ (.int .i64 (t : Int))) none) := fun w3 g3 => line_put OK.out hlt AK.out GK.out g3
            have C2 : Hid (Lined (lk f k) k (fun i => if i = j then t else F i) (j + 1) ∧ (∀ i, i < j + 1 → (fun i => if i = j then t else F i) i < k ∨ (fun i => if i = j then t else F i) i < t + 1) ∧ cnt (lk f k) (j + 1) + cnt (lk f k) (t + 1) = j + 1 + cnt (lk f k) k) := by
              obtain ⟨c1, c2, c3⟩ := LN.out
              refine ⟨c1.next hbt ht (by omega) (fun i hi e => ?_), fun i hi => ?_, ?_⟩
              · rcases c2 i hi with c | c <;> omega
              · show (if i = j then t else F i) < k ∨ (if i = j then t else F i) < t + 1
                by_cases e : i = j
                · rw [if_pos e]; omega
                · rw [if_neg e]
                  rcases c2 i (by omega) with c | c <;> omega
              · rw [cnt_no hb, cnt_yes hbt, CX.out.1]
                omega
            clear OK AK GK CX hbt LN
            go_wp2_with (go_at_call 129; refine LT.out.mono ?_; rintro e w3 ⟨rfl, g3⟩; obtain ⟨z, hcz, hfz, r1⟩ := R.out w3 g3; have R3 : Hid _ := r1; clear g3 r1)
            go_roundw
            case rel => exact ⟨j + 1, t + 1, fun i => if i = j then t else F i, by omega, by omega, by omega, by go_num, by go_num, R3.out.1, R3.out.2.1, R3.out.2.2, C2.out⟩
            case measure => simp [intOf]; omega
      · rw [hb] at LJ
        go_wp2
        refine wp_load_row 154 (.tmp 3) rfl w.heap.size rfl 154 AR (0, 0) _ ak Tryz.underlying154 rfl HI.out ?_
        clear ak
        obtain ⟨g, rfl, _⟩ := OK.out.place (k := j) (by rw [intsOf_len]; exact hlt)
        have R : Hid (∀ w3, wa.grownBy w3 none → ∃ z : Int, w3.cell? ⟨g, j, none⟩ = some (.int .i64 z) ∧ w3.frozen? ⟨g, j, none⟩ = false ∧ IOwn w.heap.size (w3.setCell ⟨g, j, none⟩ (.int .i64 (j : Int))) (.slice (some ⟨g, 0, none⟩) k k) (intsOf (fun i => if i = j then j else F i) k (j + 1)) ∧ (w3.setCell ⟨g, j, none⟩ (.int .i64 (j : Int))).heap[w.heap.size]? = some (.cells AR 154 (0, 0)) ∧ w.grownBy (w3.setCell ⟨g, j, none⟩ (.int .i64 (j : Int))) none) := fun w3 g3 => line_put OK.out hlt AK.out GK.out g3
        have C2 : Hid (Lined (lk f k) k (fun i => if i = j then j else F i) (j + 1) ∧ (∀ i, i < j + 1 → (fun i => if i = j then j else F i) i < k ∨ (fun i => if i = j then j else F i) i < s) ∧ cnt (lk f k) (j + 1) + cnt (lk f k) s = j + 1 + cnt (lk f k) k) := by
          obtain ⟨c1, c2, c3⟩ := LN.out
          refine ⟨c1.next hb (by omega) (.inl rfl) (fun i hi e => ?_), fun i hi => ?_, ?_⟩
          · rcases c1.own i hi with c | c <;> omega
          · show (if i = j then j else F i) < k ∨ (if i = j then j else F i) < s
            by_cases e : i = j
            · rw [if_pos e]; omega
            · rw [if_neg e]
              exact c2 i (by omega)
          · rw [cnt_yes hb]
            omega
        clear OK AK GK LN
        go_wp2_with (go_at_call 129; refine LJ.out.mono ?_; rintro e w3 ⟨rfl, g3⟩; obtain ⟨z, hcz, hfz, r1⟩ := R.out w3 g3; have R3 : Hid _ := r1; clear g3 r1)
        go_roundw
        case rel => exact ⟨j + 1, s, fun i => if i = j then j else F i, by omega, by omega, by omega, by go_num, rfl, R3.out.1, R3.out.2.1, R3.out.2.2, C2.out⟩
        case measure => simp [intOf]; omega
    · obtain rfl : j = k := by omega
      go_wp2
      go_ret
      exact ⟨p, j, j, F, rfl, OK.out, LN.out.1, GK.out⟩
end Go.Proofs.YtfjlpifaaknmpaaGreat

