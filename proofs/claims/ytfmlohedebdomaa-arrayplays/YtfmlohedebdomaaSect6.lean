/- copy over the head of a part; the contract of hayricklaw06.sector. -/
import Derived.Test.YtfmlohedebdomaaWith6
set_option linter.unusedSimpArgs false
set_option linter.unusedVariables false
namespace Go.Proofs.Ytfmlohedebdomaa
open Go.RowKit

theorem over_take {cur : List Value} {xs ys : List Nat} (hl : xs.length ≤ cur.length) (ht : cur.take xs.length = xs.map bv) :
    (cur.take 0 ++ (ys.take xs.length).map bv ++ cur.drop (0 + ((ys.take xs.length).map bv).length)).take (ys.take xs.length ++ xs.drop ys.length).length = (ys.take xs.length ++ xs.drop ys.length).map bv := by
  have h1 : ((ys.take xs.length).map bv).length = min xs.length ys.length := by simp
  have h2 : (ys.take xs.length ++ xs.drop ys.length).length = xs.length := by simp; omega
  rw [h2, h1, List.take_zero, List.nil_append, Nat.zero_add, List.take_append, h1, List.take_of_length_le (by rw [h1]; omega), List.map_append, List.take_drop]
  congr 1
  rw [show min xs.length ys.length + (xs.length - min xs.length ys.length) = xs.length by omega, ht, ← List.map_drop]
  congr 1
  rcases Nat.le_total ys.length xs.length with h | h
  · rw [Nat.min_eq_right h]
  · rw [Nat.min_eq_left h, List.drop_length, List.drop_eq_nil_of_le h]
theorem run_copy_over {B : Nat} {w : World} {s : Value} {p : Option Addr} {n c : Nat} {xs ys : List Nat} (hd : Part B w (.slice p n c) xs) (hs : Vec w s ys) (ty : TypeId) :
    ∃ w' m, (Builtin.copy_ #[32, 32] ty #[.slice p n c, s]).run Try.prog w = .ok (goInt m) w' ∧ Part B w' (.slice p n c) (ys.take xs.length ++ xs.drop ys.length) ∧ w.grownBy w' (Value.slice p n c).ownBlock := by
  obtain ⟨s1, s2, ps, cap, rfl, s3, s4, s5⟩ := hs
  by_cases hx : xs = [] ∨ ys = []
  · have hn : n = xs.length := by
      rcases hd.form with ⟨e, rfl⟩ | ⟨g, cap', cur, e, _⟩
      · injection e
      · injection e
    refine ⟨w, 0, run_copy_none (P := Try.prog) w 32 32 ty 5 p ps n c ys.length cap Try.underlying32 Try.size5 (by show min ys.length n = 0; rcases hx with h | h <;> simp [hn, h]), ?_, World.grownBy.refl _ _⟩
    rcases hx with h | h
    · subst h; simpa using hd
    · subst h; simpa using hd
  · have hx1 : xs ≠ [] := fun e => hx (.inl e)
    have hy1 : ys ≠ [] := fun e => hx (.inr e)
    obtain ⟨b, off, rfl, hc⟩ := s5 hy1
    rcases hd.form with ⟨_, e⟩ | ⟨g, cap', cur, e, hb, hg, hcc, hm, hcs, ht⟩
    · exact absurd e hx1
    · injection e with e1 e2 e3
      subst e1
      subst e2
      subst e3
      have hl : (ys.take xs.length).length = min xs.length ys.length := by simp
      have hr := run_copy_row (P := Try.prog) w 32 32 ty 5 g 0 xs.length c ⟨b, off, none⟩ ys.length cap cur 5 ((ys.take xs.length).map bv) Try.underlying32 Try.size5 hg (by rw [List.length_map, hl]; show min xs.length ys.length = min ys.length xs.length; omega)
        (fun j v hj => by
          have hj' : j < (ys.take xs.length).length := by
            have := (List.getElem?_eq_some_iff.1 hj).1
            simpa using this
          rw [getD_map_bv _ j hj'] at hj
          have hjy : j < ys.length := by omega
          have hjx : j < xs.length := by omega
          rw [add_off, hc j hjy, ← hj]
          simp [List.getD, hjx, hjy]) (by rw [List.length_map, hl]; omega) (fun v hv => by obtain ⟨x, _, rfl⟩ := List.mem_map.1 hv; rfl)
      refine ⟨_, _, hr, ⟨fun x hx => ?_, by simp; have := hd.len; omega, .inr ⟨g, c, _, by simp; omega, hb, setRow_heap w g cur _ 5 _ hg, by simp; omega, hm, ?_, ?_⟩⟩, ⟨rfl, rfl, rfl, by simp, fun k _ hk => setRow_other w g k _ (fun e => hk (by simp [Value.ownBlock, e]))⟩⟩
      · rcases List.mem_append.1 hx with h | h
        · exact s1 x (List.mem_of_mem_take h)
        · exact hd.small x (List.mem_of_mem_drop h)
      · simp; omega
      · exact over_take (by simpa using hcs) ht
theorem wpList_copy_over {w : World} {ops : Array Oper} {rest : List Oper} {o : Oper} {a : Act} {Q : Exit → Act → World → Prop} (hgd : o.guard = none) (d s : Operand)
    (ho : o.op = .call { callee := .builtin .copy, args := #[d, s], argTypes := #[32, 32] }) (sv : Value) {B : Nat} {p : Option Addr} {n c : Nat} {xs ys : List Nat} (hed : a.eval d = .slice p n c) (hes : a.eval s = sv) (hd : Part B w (.slice p n c) xs) (hs : Vec w sv ys)
    (h : ∀ w' m, Part B w' (.slice p n c) (ys.take xs.length ++ xs.drop ys.length) → w.grownBy w' (Value.slice p n c).ownBlock → wpList Try.prog ops Q rest (a.put o.dst (goInt m)) w') : wpList Try.prog ops Q (o :: rest) a w := by
  refine wpList_plain hgd fun K hK => ?_
  obtain ⟨w', m, hrun, r1, r2⟩ := run_copy_over hd hs o.type
  unfold Oper.wp
  simp [execOp, ho, resolve, invoke, builtin, hed, hes, hrun, Result.andThen]
  exact hK _ _ (h _ _ r1 r2)

/-- What an act writes. -/
def secOf (c : ActR) : List Nat := if c.short then c.b else c.b.take 64 ++ (fl c.x).drop c.b.length
theorem secOf_len {c : ActR} (h : c.short = false) : (secOf c).length = 64 := by
  simp only [secOf, h, Bool.false_eq_true, if_false, List.length_append, List.length_take, List.length_drop, fl_len]
  omega

set_option maxRecDepth 100000 in
theorem sector_yes {w : World} {c : ActR} (hc : ActOk w c) {AR : Array Value} (hA : AR = (acells c).toArray) : Calls Try.prog 12 #[.agg AR] w fun e w' => ∃ p n m, e = .returned (.slice p n m) ∧ Part w.heap.size w' (.slice p n m) (secOf c) ∧ w.grownBy w' none := by
  have gB : w.grownBy (w.alloc (.cells AR 34)) none := World.grownBy_alloc _ _ none
  have HV : Hid (Var (w.alloc (.cells AR 34)) w.heap.size c) := ⟨by rw [heap_alloc_new, hA]⟩
  have HG : Hid (w.grownBy (w.alloc (.cells AR 34)) none) := gB
  have HSZ : Hid (AR.size = 6) := by show _ = _; rw [hA]; rfl
  have HB : Hid (Vec (w.alloc (.cells AR 34)) c.bval c.b) := hc.vec.keep gB
  have sz := run_size Try.sizeAct
  obtain ⟨_, _, _, c3, c4, c5⟩ := HV.out.cell
  have hX := hc.x
  obtain ⟨p, n, m, hb, hn⟩ := hc.vec.opened
  rw [hb] at c4 HB
  cases hs : c.short with
  | true =>
    rw [hs] at c5
    have HR : Hid (secOf c = [] ++ c.b) := by show _ = _; simp [secOf, hs]
    generalize c.b = bs at *
    clear hc hA gB hX c3 hb hn hs
    have HGW : Hid (∀ W : World, (w.alloc (.cells AR 34)).grownBy W none → W.cell? ⟨w.heap.size, 4, none⟩ = some (.slice p n m) ∧ Vec W (.slice p n m) bs) := fun W g => ⟨g.cell c4 (by simp), HB.out.keep g⟩
    have c4b : ((w.alloc (.cells AR 34)).alloc (.cells #[] 5)).cell? ⟨w.heap.size, 4, none⟩ = some (.slice p n m) := (HGW.out _ (World.grownBy_alloc _ _ none)).1
    have E0 : Hid (Own w.heap.size ((w.alloc (.cells AR 34)).alloc (.cells #[] 5)) (.slice (some ⟨w.heap.size + 1, 0, none⟩) 0 0) []) := own_lit (xs := []) (heap_new _ _ _ (by simp)) (by omega) rfl (by simp) (by simp)
    have HBL : Hid (bs.length ≤ 140737488351232) := HB.out.len
    go_enter Try.func12, Try.ntmps12
    go_wp2_with (first | (at_builtin; refine wpList_append_vec rfl _ _ rfl _ _ rfl rfl E0.out (HGW.out _ (World.grownBy_alloc _ _ none)).2 (by simp; omega) (by have := HBL.out; simp; omega) ?_; intro v9 w9 ho hg; have HO : Hid (Own w.heap.size w9 v9 ([] ++ bs)) := ho; have HG9 : Hid (w.grownBy w9 none) := grown_new (gb_alloc HG.out _) hg (fun i e => E0.out.lo i e); clear ho hg) | fail)
    go_ret
    obtain ⟨p9, n9, m9, rfl, _⟩ := HO.out.vec.opened
    exact ⟨p9, n9, m9, rfl, by rw [HR.out]; exact HO.out.part, HG9.out⟩
  | false =>
    rw [hs] at c5
    have HR : Hid (secOf c = c.b.take (fl c.x).length ++ (fl c.x).drop c.b.length) := by show _ = _; simp [secOf, hs, fl_len]
    generalize c.b = bs at *
    generalize c.x = X at *
    have HGW : Hid (∀ W : World, (w.alloc (.cells AR 34)).grownBy W none → W.cell? ⟨w.heap.size, 4, none⟩ = some (.slice p n m) ∧ Vec W (.slice p n m) bs) := fun W g => ⟨g.cell c4 (by simp), HB.out.keep g⟩
    have HX : Hid (X < 256) := hX
    clear hc hA gB hb hn hs hX c4
    go_enter Try.func12, Try.ntmps12
    go_wp2_with (first
      | (go_at_call 29; refine (full_yes HX.out).mono ?_; rintro e w8 ⟨g8, rfl, hp8, hg8⟩; have c4 := (HGW.out _ hg8).1; have HV8 : Hid (Vec w8 (.slice p n m) bs) := (HGW.out _ hg8).2; have HP8 : Hid (Part w.heap.size w8 (.slice (some ⟨g8, 0, none⟩) 64 64) (fl X)) := hp8.down (by simp); have HG8 : Hid (w.grownBy w8 none) := grown_trans HG.out hg8; clear hp8 hg8)
      | (refine wpList_copy_over rfl _ _ rfl _ rfl rfl HP8.out HV8.out ?_; intro w9 k9 hp9 hg9; have HP9 : Hid (Part w.heap.size w9 (.slice (some ⟨g8, 0, none⟩) 64 64) (bs.take (fl X).length ++ (fl X).drop bs.length)) := hp9; have HG9 : Hid (w.grownBy w9 none) := grown_new HG8.out hg9 (fun i e => (HP8.out.lt e).1); clear hp9 hg9)
      | fail)
    go_ret
    exact ⟨_, _, _, rfl, by rw [HR.out]; exact HP9.out, HG9.out⟩
end Go.Proofs.Ytfmlohedebdomaa
