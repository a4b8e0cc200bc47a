/- The walk of NamesJoin. -/
import Derived.Test.YtfflpmcflpbopaaDoorWake
set_option linter.unusedVariables false
set_option linter.unusedSimpArgs false
namespace Go.Proofs.YtfflpmcflpbopaaDoor
open Go.RowKit

/-- append(d, s...): two rows of runes of the call's own. -/
theorem run_append_runes {B B' : Nat} {w : World} {dv : Value} {q : Option Addr} {d : Nat} {la lb : List Nat} (hd : ROwn B w dv la) (hs : ROwn B' w (.slice q lb.length d) lb) (hB : B ≤ w.heap.size) (hl : (la.length + lb.length) * 4 ≤ 140737488355328) (ty : TypeId) :
    ∃ v' w', (Builtin.append_ #[24, 24] ty #[dv, .slice q lb.length d]).run Tryd.prog w = .ok v' w' ∧ ROwn B w' v' (la ++ lb) ∧ w.grownBy w' dv.ownBlock := by
  obtain ⟨i0, hi, hz0, hz1, hz2⟩ := info_parts info_i32
  rcases hs.row.2 with ⟨e, h0⟩ | ⟨g, cap, cur, e, hb, hg, hrest⟩
  · injection e with e1 e2 e3
    subst e1
    subst e3
    have hlb : lb = [] := List.eq_nil_of_length_eq_zero h0
    subst hlb
    refine ⟨dv, w, ?_, by rw [List.append_nil]; exact hd, World.grownBy.refl _ _⟩
    rcases hd.row.2 with ⟨rfl, h0⟩ | ⟨g, cap, cur, rfl, hb, hg, hc, hr⟩
    · simp [Builtin.append_, run_underlying und_runes, sizeOf, typeInfo, hi, Builtin.lenOf, Builtin.firstCells, loadCells, loadCellsFrom]
    · have : ¬ cap < la.length := by omega
      simp [Builtin.append_, run_underlying und_runes, sizeOf, typeInfo, hi, Builtin.lenOf, Builtin.firstCells, storeCells, this, hc]
  · injection e with e1 e2 e3
    subst e1
    obtain ⟨v', w', r1, r2, r3, _, r5⟩ := run_append_own_at (P := Tryd.prog) w B 24 ty 21 i0 (.int .i32 0) 1 4 und_runes hi hz0 hz1 hz2 rfl (by decide) dv la.length _ hd.row ⟨g, 0, none⟩ lb.length d (lb.map rv) (by simp)
      (fun j v hj => hs.row.cells (g := g) rfl j v hj)
      (fun v hv => by obtain ⟨x, _, rfl⟩ := List.mem_map.1 hv; rfl) (by unfold maxLen; omega) (by omega) hB
    exact ⟨v', w', r1, ⟨by rw [List.length_append]; omega, by rw [List.length_append, List.map_append]; exact r2⟩, r3⟩
theorem wpList_append_runes {w : World} {ops : Array Oper} {rest : List Oper} {o : Oper} {a : Act} {Q : Exit → Act → World → Prop} (hw : Region.wanted o (yielded ops a.tmps) = true) (x s : Operand)
    (ho : o.op = .call { callee := .builtin .append, args := #[x, s], argTypes := #[24, 24] }) {B B' : Nat} {dv : Value} {q : Option Addr} {d : Nat} {la lb : List Nat} (hed : a.eval x = dv) (hes : a.eval s = .slice q lb.length d)
    (hd : ROwn B w dv la) (hs : ROwn B' w (.slice q lb.length d) lb) (hB : B ≤ w.heap.size) (hl : (la.length + lb.length) * 4 ≤ 140737488355328)
    (h : ∀ v' w', ROwn B w' v' (la ++ lb) → w.grownBy w' dv.ownBlock → wpList Tryd.prog ops Q rest (a.put o.dst v') w') : wpList Tryd.prog ops Q (o :: rest) a w := by
  refine BigFrame.wpList_want hw fun K hK => ?_
  obtain ⟨v', w', hrun, r1, r2⟩ := run_append_runes hd hs hB hl o.type
  unfold Oper.wp
  simp [execOp, ho, resolve, invoke, builtin, hed, hes, hrun, Result.andThen]
  exact hK _ _ (h _ _ r1 r2)
theorem runes_of (s : ByteArray) (X : List Nat) (W : World) (h : R.runes (bs s) = X ∧ s.size * 4 ≤ 140737488355328) : Calls Tryd.prog 13 #[.string s] W fun e w' => ∃ p c, e = .returned (.slice p X.length c) ∧ ROwn W.heap.size w' (.slice p X.length c) X ∧ W.grownBy w' none := by
  obtain ⟨rfl, h⟩ := h
  exact runes_any s W h
set_option maxHeartbeats 1600000 in
set_option maxRecDepth 100000 in
theorem join_0 (a b : ByteArray) (w : World) (HT : Hid (Tabs w)) (HG : Hid (w.grownBy w none)) (ha : R.whole (bs a) = false) :
    Calls Tryd.prog 8 #[.string a, .string b] w fun e w' => e = .returned (.bool true) ∧ w.grownBy w' none := by
  go_enter Tryd.func8, Tryd.ntmps8
  go_wp2_with (first | (go_at_call 15; refine (whole_any _ _).mono ?_; rintro e w2 ⟨rfl, g2⟩; have g3 := gb_trans HG.out g2; clear HG; have HG := (show Hid _ from g3); clear g3; clear g2) | (go_at_call 17; refine (wakes_any _ (HT.out.keep HG.out)).mono ?_; rintro e w2 ⟨rfl, g2⟩; have g3 := gb_trans HG.out g2; clear HG; have HG := (show Hid _ from g3); clear g3; clear g2))
  go_ret
  exact ⟨rfl, HG.out⟩
set_option maxHeartbeats 1600000 in
set_option maxRecDepth 100000 in
theorem join_1 (a b : ByteArray) (w : World) (HT : Hid (Tabs w)) (HG : Hid (w.grownBy w none)) (ha : R.whole (bs a) = true) (hb : R.whole (bs b) = false) :
    Calls Tryd.prog 8 #[.string a, .string b] w fun e w' => e = .returned (.bool true) ∧ w.grownBy w' none := by
  go_enter Tryd.func8, Tryd.ntmps8
  go_wp2_with (first | (go_at_call 15; refine (whole_any _ _).mono ?_; rintro e w2 ⟨rfl, g2⟩; have g3 := gb_trans HG.out g2; clear HG; have HG := (show Hid _ from g3); clear g3; clear g2) | (go_at_call 17; refine (wakes_any _ (HT.out.keep HG.out)).mono ?_; rintro e w2 ⟨rfl, g2⟩; have g3 := gb_trans HG.out g2; clear HG; have HG := (show Hid _ from g3); clear g3; clear g2))
  go_ret
  exact ⟨rfl, HG.out⟩
set_option maxHeartbeats 1600000 in
set_option maxRecDepth 100000 in
theorem join_2 (a b : ByteArray) (w : World) (HT : Hid (Tabs w)) (HG : Hid (w.grownBy w none)) (ha : R.whole (bs a) = true) (hb : R.whole (bs b) = true) (hab : R.whole (bs (a ++ b)) = true) (X Y Z : List Nat) (HX : Hid (R.runes (bs a) = X ∧ a.size * 4 ≤ 140737488355328)) (HY : Hid (R.runes (bs b) = Y ∧ b.size * 4 ≤ 140737488355328)) (HZ : Hid (R.runes (bs (a ++ b)) = Z ∧ (a ++ b).size * 4 ≤ 140737488355328)) (HXY : Hid (X ++ Y = Z)) (HL : Hid ((X.length + Y.length) * 4 ≤ 140737488355328)) (HLL : Hid (Z.length ≤ 281474976710656)) (hsz : a.size + b.size ≤ 140737488355328) (va : R.valid (bs a) = false) :
    Calls Tryd.prog 8 #[.string a, .string b] w fun e w' => e = .returned (.bool true) ∧ w.grownBy w' none := by
  go_enter Tryd.func8, Tryd.ntmps8
  go_wp2_with (first | (go_at_call 15; refine (whole_any _ _).mono ?_; rintro e w2 ⟨rfl, g2⟩; have g3 := gb_trans HG.out g2; clear HG; have HG := (show Hid _ from g3); clear g3; clear g2) | (go_at_call 10; refine (valid_any _ _).mono ?_; rintro e w2 ⟨rfl, g2⟩; have g3 := gb_trans HG.out g2; clear HG; have HG := (show Hid _ from g3); clear g3; clear g2) | (go_at_call 13; refine (runes_of _ X _ ?_).mono ?_; (focus (with_reducible exact HX.out)); rintro e w2 ⟨p, c, rfl, ro, g2⟩; have O1 := (show Hid _ from (And.intro ro (And.intro g2.size HG.out.size))); have g3 := gb_trans HG.out g2; clear HG; have HG := (show Hid _ from g3); clear g3; clear g2 ro) | (go_at_call 13; refine (runes_of _ Y _ ?_).mono ?_; (focus (with_reducible exact HY.out)); rintro e w3 ⟨q, d, rfl, ro, g2⟩; have O2 := (show Hid _ from (And.intro (O1.out.1.keep g2) (And.intro (Nat.le_trans O1.out.2.1 g2.size) (And.intro O1.out.2.2 ro)))); have g3 := gb_trans HG.out g2; clear HG; have HG := (show Hid _ from g3); clear g3; clear O1 g2 ro) | (go_at_call 13; refine (runes_of _ Z _ ?_).mono ?_; (focus (with_reducible exact HZ.out)); rintro e w5 ⟨q5, d5, rfl, ro, g2⟩; have HR2 : Hid (RV w5 q5 Z) := ro.rvw; have hr1 := HR.out.keep g2; clear HR; have HR := (show Hid _ from hr1); have g3 := gb_trans HG.out g2; clear HG; have HG := (show Hid _ from g3); clear g3; clear g2 ro hr1) | (at_builtin; refine wpList_append_runes (dv := .slice p X.length c) (q := q) (d := d) (la := X) (lb := Y) rfl _ _ rfl rfl rfl O2.out.1 O2.out.2.2.2 O2.out.2.1 HL.out ?_; intro v4 w4 ro4 g4; rw [HXY.out] at ro4; obtain ⟨p4, c4, e4⟩ := ro4.opened; subst e4; have g3 := gb_new HG.out g4 (fun i e => Nat.le_trans O2.out.2.2.1 (O2.out.1.lo i e)); have HR : Hid (RV w4 p4 Z) := ro4.rvw; clear HG O2; have HG := (show Hid _ from g3); clear g3 g4 ro4) | (go_at_call 12; refine (same_any HR.out HR2.out HLL.out).mono ?_; rintro e w2 ⟨rfl, g2⟩; have g3 := gb_trans HG.out g2; clear HG; have HG := (show Hid _ from g3); clear g3; clear g2) | (go_at_call 17; refine (wakes_any _ (HT.out.keep HG.out)).mono ?_; rintro e w2 ⟨rfl, g2⟩; have g3 := gb_trans HG.out g2; clear HG; have HG := (show Hid _ from g3); clear g3; clear g2))
  go_ret
  exact ⟨rfl, HG.out⟩
set_option maxHeartbeats 1600000 in
set_option maxRecDepth 100000 in
theorem join_3 (a b : ByteArray) (w : World) (HT : Hid (Tabs w)) (HG : Hid (w.grownBy w none)) (ha : R.whole (bs a) = true) (hb : R.whole (bs b) = true) (hab : R.whole (bs (a ++ b)) = true) (X Y Z : List Nat) (HX : Hid (R.runes (bs a) = X ∧ a.size * 4 ≤ 140737488355328)) (HY : Hid (R.runes (bs b) = Y ∧ b.size * 4 ≤ 140737488355328)) (HZ : Hid (R.runes (bs (a ++ b)) = Z ∧ (a ++ b).size * 4 ≤ 140737488355328)) (HXY : Hid (X ++ Y = Z)) (HL : Hid ((X.length + Y.length) * 4 ≤ 140737488355328)) (HLL : Hid (Z.length ≤ 281474976710656)) (hsz : a.size + b.size ≤ 140737488355328) (va : R.valid (bs a) = true) (vb : R.valid (bs b) = false) :
    Calls Tryd.prog 8 #[.string a, .string b] w fun e w' => e = .returned (.bool true) ∧ w.grownBy w' none := by
  go_enter Tryd.func8, Tryd.ntmps8
  go_wp2_with (first | (go_at_call 15; refine (whole_any _ _).mono ?_; rintro e w2 ⟨rfl, g2⟩; have g3 := gb_trans HG.out g2; clear HG; have HG := (show Hid _ from g3); clear g3; clear g2) | (go_at_call 10; refine (valid_any _ _).mono ?_; rintro e w2 ⟨rfl, g2⟩; have g3 := gb_trans HG.out g2; clear HG; have HG := (show Hid _ from g3); clear g3; clear g2) | (go_at_call 13; refine (runes_of _ X _ ?_).mono ?_; (focus (with_reducible exact HX.out)); rintro e w2 ⟨p, c, rfl, ro, g2⟩; have O1 := (show Hid _ from (And.intro ro (And.intro g2.size HG.out.size))); have g3 := gb_trans HG.out g2; clear HG; have HG := (show Hid _ from g3); clear g3; clear g2 ro) | (go_at_call 13; refine (runes_of _ Y _ ?_).mono ?_; (focus (with_reducible exact HY.out)); rintro e w3 ⟨q, d, rfl, ro, g2⟩; have O2 := (show Hid _ from (And.intro (O1.out.1.keep g2) (And.intro (Nat.le_trans O1.out.2.1 g2.size) (And.intro O1.out.2.2 ro)))); have g3 := gb_trans HG.out g2; clear HG; have HG := (show Hid _ from g3); clear g3; clear O1 g2 ro) | (go_at_call 13; refine (runes_of _ Z _ ?_).mono ?_; (focus (with_reducible exact HZ.out)); rintro e w5 ⟨q5, d5, rfl, ro, g2⟩; have HR2 : Hid (RV w5 q5 Z) := ro.rvw; have hr1 := HR.out.keep g2; clear HR; have HR := (show Hid _ from hr1); have g3 := gb_trans HG.out g2; clear HG; have HG := (show Hid _ from g3); clear g3; clear g2 ro hr1) | (at_builtin; refine wpList_append_runes (dv := .slice p X.length c) (q := q) (d := d) (la := X) (lb := Y) rfl _ _ rfl rfl rfl O2.out.1 O2.out.2.2.2 O2.out.2.1 HL.out ?_; intro v4 w4 ro4 g4; rw [HXY.out] at ro4; obtain ⟨p4, c4, e4⟩ := ro4.opened; subst e4; have g3 := gb_new HG.out g4 (fun i e => Nat.le_trans O2.out.2.2.1 (O2.out.1.lo i e)); have HR : Hid (RV w4 p4 Z) := ro4.rvw; clear HG O2; have HG := (show Hid _ from g3); clear g3 g4 ro4) | (go_at_call 12; refine (same_any HR.out HR2.out HLL.out).mono ?_; rintro e w2 ⟨rfl, g2⟩; have g3 := gb_trans HG.out g2; clear HG; have HG := (show Hid _ from g3); clear g3; clear g2) | (go_at_call 17; refine (wakes_any _ (HT.out.keep HG.out)).mono ?_; rintro e w2 ⟨rfl, g2⟩; have g3 := gb_trans HG.out g2; clear HG; have HG := (show Hid _ from g3); clear g3; clear g2))
  go_ret
  exact ⟨rfl, HG.out⟩
set_option maxHeartbeats 1600000 in
set_option maxRecDepth 100000 in
theorem join_4 (a b : ByteArray) (w : World) (HT : Hid (Tabs w)) (HG : Hid (w.grownBy w none)) (ha : R.whole (bs a) = true) (hb : R.whole (bs b) = true) (hab : R.whole (bs (a ++ b)) = true) (X Y Z : List Nat) (HX : Hid (R.runes (bs a) = X ∧ a.size * 4 ≤ 140737488355328)) (HY : Hid (R.runes (bs b) = Y ∧ b.size * 4 ≤ 140737488355328)) (HZ : Hid (R.runes (bs (a ++ b)) = Z ∧ (a ++ b).size * 4 ≤ 140737488355328)) (HXY : Hid (X ++ Y = Z)) (HL : Hid ((X.length + Y.length) * 4 ≤ 140737488355328)) (HLL : Hid (Z.length ≤ 281474976710656)) (hsz : a.size + b.size ≤ 140737488355328) (va : R.valid (bs a) = true) (vb : R.valid (bs b) = true) (vab : R.valid (bs (a ++ b)) = true) (hle : (a.size : Int) + (b.size : Int) ≤ 24) :
    Calls Tryd.prog 8 #[.string a, .string b] w fun e w' => e = .returned (.bool true) ∧ w.grownBy w' none := by
  go_enter Tryd.func8, Tryd.ntmps8
  go_wp2_with (first | (go_at_call 15; refine (whole_any _ _).mono ?_; rintro e w2 ⟨rfl, g2⟩; have g3 := gb_trans HG.out g2; clear HG; have HG := (show Hid _ from g3); clear g3; clear g2) | (go_at_call 10; refine (valid_any _ _).mono ?_; rintro e w2 ⟨rfl, g2⟩; have g3 := gb_trans HG.out g2; clear HG; have HG := (show Hid _ from g3); clear g3; clear g2) | (go_at_call 13; refine (runes_of _ X _ ?_).mono ?_; (focus (with_reducible exact HX.out)); rintro e w2 ⟨p, c, rfl, ro, g2⟩; have O1 := (show Hid _ from (And.intro ro (And.intro g2.size HG.out.size))); have g3 := gb_trans HG.out g2; clear HG; have HG := (show Hid _ from g3); clear g3; clear g2 ro) | (go_at_call 13; refine (runes_of _ Y _ ?_).mono ?_; (focus (with_reducible exact HY.out)); rintro e w3 ⟨q, d, rfl, ro, g2⟩; have O2 := (show Hid _ from (And.intro (O1.out.1.keep g2) (And.intro (Nat.le_trans O1.out.2.1 g2.size) (And.intro O1.out.2.2 ro)))); have g3 := gb_trans HG.out g2; clear HG; have HG := (show Hid _ from g3); clear g3; clear O1 g2 ro) | (go_at_call 13; refine (runes_of _ Z _ ?_).mono ?_; (focus (with_reducible exact HZ.out)); rintro e w5 ⟨q5, d5, rfl, ro, g2⟩; have HR2 : Hid (RV w5 q5 Z) := ro.rvw; have hr1 := HR.out.keep g2; clear HR; have HR := (show Hid _ from hr1); have g3 := gb_trans HG.out g2; clear HG; have HG := (show Hid _ from g3); clear g3; clear g2 ro hr1) | (at_builtin; refine wpList_append_runes (dv := .slice p X.length c) (q := q) (d := d) (la := X) (lb := Y) rfl _ _ rfl rfl rfl O2.out.1 O2.out.2.2.2 O2.out.2.1 HL.out ?_; intro v4 w4 ro4 g4; rw [HXY.out] at ro4; obtain ⟨p4, c4, e4⟩ := ro4.opened; subst e4; have g3 := gb_new HG.out g4 (fun i e => Nat.le_trans O2.out.2.2.1 (O2.out.1.lo i e)); have HR : Hid (RV w4 p4 Z) := ro4.rvw; clear HG O2; have HG := (show Hid _ from g3); clear g3 g4 ro4) | (go_at_call 12; refine (same_any HR.out HR2.out HLL.out).mono ?_; rintro e w2 ⟨rfl, g2⟩; have g3 := gb_trans HG.out g2; clear HG; have HG := (show Hid _ from g3); clear g3; clear g2) | (go_at_call 17; refine (wakes_any _ (HT.out.keep HG.out)).mono ?_; rintro e w2 ⟨rfl, g2⟩; have g3 := gb_trans HG.out g2; clear HG; have HG := (show Hid _ from g3); clear g3; clear g2))
  go_ret
  exact ⟨rfl, HG.out⟩
set_option maxHeartbeats 1600000 in
set_option maxRecDepth 100000 in
theorem join_5 (a b : ByteArray) (w : World) (HT : Hid (Tabs w)) (HG : Hid (w.grownBy w none)) (ha : R.whole (bs a) = true) (hb : R.whole (bs b) = true) (hab : R.whole (bs (a ++ b)) = true) (X Y Z : List Nat) (HX : Hid (R.runes (bs a) = X ∧ a.size * 4 ≤ 140737488355328)) (HY : Hid (R.runes (bs b) = Y ∧ b.size * 4 ≤ 140737488355328)) (HZ : Hid (R.runes (bs (a ++ b)) = Z ∧ (a ++ b).size * 4 ≤ 140737488355328)) (HXY : Hid (X ++ Y = Z)) (HL : Hid ((X.length + Y.length) * 4 ≤ 140737488355328)) (HLL : Hid (Z.length ≤ 281474976710656)) (hsz : a.size + b.size ≤ 140737488355328) (va : R.valid (bs a) = true) (vb : R.valid (bs b) = true) (vab : R.valid (bs (a ++ b)) = false) (hle : ¬ (a.size : Int) + (b.size : Int) ≤ 24) :
    Calls Tryd.prog 8 #[.string a, .string b] w fun e w' => e = .returned (.bool true) ∧ w.grownBy w' none := by
  go_enter Tryd.func8, Tryd.ntmps8
  go_wp2_with (first | (go_at_call 15; refine (whole_any _ _).mono ?_; rintro e w2 ⟨rfl, g2⟩; have g3 := gb_trans HG.out g2; clear HG; have HG := (show Hid _ from g3); clear g3; clear g2) | (go_at_call 10; refine (valid_any _ _).mono ?_; rintro e w2 ⟨rfl, g2⟩; have g3 := gb_trans HG.out g2; clear HG; have HG := (show Hid _ from g3); clear g3; clear g2) | (go_at_call 13; refine (runes_of _ X _ ?_).mono ?_; (focus (with_reducible exact HX.out)); rintro e w2 ⟨p, c, rfl, ro, g2⟩; have O1 := (show Hid _ from (And.intro ro (And.intro g2.size HG.out.size))); have g3 := gb_trans HG.out g2; clear HG; have HG := (show Hid _ from g3); clear g3; clear g2 ro) | (go_at_call 13; refine (runes_of _ Y _ ?_).mono ?_; (focus (with_reducible exact HY.out)); rintro e w3 ⟨q, d, rfl, ro, g2⟩; have O2 := (show Hid _ from (And.intro (O1.out.1.keep g2) (And.intro (Nat.le_trans O1.out.2.1 g2.size) (And.intro O1.out.2.2 ro)))); have g3 := gb_trans HG.out g2; clear HG; have HG := (show Hid _ from g3); clear g3; clear O1 g2 ro) | (go_at_call 13; refine (runes_of _ Z _ ?_).mono ?_; (focus (with_reducible exact HZ.out)); rintro e w5 ⟨q5, d5, rfl, ro, g2⟩; have HR2 : Hid (RV w5 q5 Z) := ro.rvw; have hr1 := HR.out.keep g2; clear HR; have HR := (show Hid _ from hr1); have g3 := gb_trans HG.out g2; clear HG; have HG := (show Hid _ from g3); clear g3; clear g2 ro hr1) | (at_builtin; refine wpList_append_runes (dv := .slice p X.length c) (q := q) (d := d) (la := X) (lb := Y) rfl _ _ rfl rfl rfl O2.out.1 O2.out.2.2.2 O2.out.2.1 HL.out ?_; intro v4 w4 ro4 g4; rw [HXY.out] at ro4; obtain ⟨p4, c4, e4⟩ := ro4.opened; subst e4; have g3 := gb_new HG.out g4 (fun i e => Nat.le_trans O2.out.2.2.1 (O2.out.1.lo i e)); have HR : Hid (RV w4 p4 Z) := ro4.rvw; clear HG O2; have HG := (show Hid _ from g3); clear g3 g4 ro4) | (go_at_call 12; refine (same_any HR.out HR2.out HLL.out).mono ?_; rintro e w2 ⟨rfl, g2⟩; have g3 := gb_trans HG.out g2; clear HG; have HG := (show Hid _ from g3); clear g3; clear g2) | (go_at_call 17; refine (wakes_any _ (HT.out.keep HG.out)).mono ?_; rintro e w2 ⟨rfl, g2⟩; have g3 := gb_trans HG.out g2; clear HG; have HG := (show Hid _ from g3); clear g3; clear g2))
  go_ret
  exact ⟨by simp [hle], HG.out⟩
theorem namesJoin.walk (a b : ByteArray) (w : World) (hT : Tabs w) (ha : a.size + b.size ≤ 1048576) :
    Calls Tryd.prog 8 #[.string a, .string b] w fun e w' => e = .returned (.bool true) ∧ w.grownBy w' none := by
  have HT : Hid (Tabs w) := hT
  have HG : Hid (w.grownBy w none) := World.grownBy.refl _ _
  cases hwa : R.whole (bs a)
  · exact join_0 a b w HT HG hwa
  cases hwb : R.whole (bs b)
  · exact join_1 a b w HT HG hwa hwb
  have hlen : (a ++ b).size = a.size + b.size := by rw [← bs_len, bs_append, List.length_append, bs_len, bs_len]
  have hab : R.whole (bs (a ++ b)) = true := by rw [bs_append, R.whole_join _ _ hwa]; exact hwb
  have hX : (R.runes (bs a)).length ≤ a.size := by have := R.runes_len (bs a); rwa [bs_len] at this
  have hY : (R.runes (bs b)).length ≤ b.size := by have := R.runes_len (bs b); rwa [bs_len] at this
  have HX : Hid (R.runes (bs a) = R.runes (bs a) ∧ a.size * 4 ≤ 140737488355328) := ⟨rfl, by omega⟩
  have HY : Hid (R.runes (bs b) = R.runes (bs b) ∧ b.size * 4 ≤ 140737488355328) := ⟨rfl, by omega⟩
  have HZ : Hid (R.runes (bs (a ++ b)) = R.runes (bs a) ++ R.runes (bs b) ∧ (a ++ b).size * 4 ≤ 140737488355328) := ⟨by rw [bs_append, R.runes_join _ _ hwa], by omega⟩
  have HXY : Hid (R.runes (bs a) ++ R.runes (bs b) = R.runes (bs a) ++ R.runes (bs b)) := rfl
  have HL : Hid (((R.runes (bs a)).length + (R.runes (bs b)).length) * 4 ≤ 140737488355328) := by show _ ≤ _; omega
  have HLL : Hid ((R.runes (bs a) ++ R.runes (bs b)).length ≤ 281474976710656) := by show _ ≤ _; rw [List.length_append]; omega
  cases hva : R.valid (bs a)
  · exact join_2 a b w HT HG hwa hwb hab _ _ _ HX HY HZ HXY HL HLL (by omega) hva
  cases hvb : R.valid (bs b)
  · exact join_3 a b w HT HG hwa hwb hab _ _ _ HX HY HZ HXY HL HLL (by omega) hva hvb
  have hv : R.valid (bs (a ++ b)) = decide (a.size + b.size ≤ 24) := by rw [bs_append, R.valid_join _ _ hva hvb, bs_len, bs_len]
  by_cases hle : a.size + b.size ≤ 24
  · exact join_4 a b w HT HG hwa hwb hab _ _ _ HX HY HZ HXY HL HLL (by omega) hva hvb (by rw [hv]; exact decide_eq_true hle) (by omega)
  · exact join_5 a b w HT HG hwa hwb hab _ _ _ HX HY HZ HXY HL HLL (by omega) hva hvb (by rw [hv]; exact decide_eq_false hle) (by omega)
end Go.Proofs.YtfflpmcflpbopaaDoor
