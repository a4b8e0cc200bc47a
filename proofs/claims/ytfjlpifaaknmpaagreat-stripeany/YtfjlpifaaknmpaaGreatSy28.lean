/- Packed: Whl8, PC8, PT9, PY8, AnyW8, LiftA8. -/
import Derived.RangeFuncBox
import Derived.Test.YtfjlpifaaknmpaaGreatSy1
import Derived.Test.YtfjlpifaaknmpaaGreatSy2
import Derived.Test.YtfjlpifaaknmpaaGreatSy3
import Derived.Test.YtfjlpifaaknmpaaGreatSy4
import Derived.Test.YtfjlpifaaknmpaaGreatSy5
import Derived.Test.YtfjlpifaaknmpaaGreatSy6
import Derived.Test.YtfjlpifaaknmpaaGreatSy7
import Derived.Test.YtfjlpifaaknmpaaGreatSy8
import Derived.Test.YtfjlpifaaknmpaaGreatSy9
import Derived.Test.YtfjlpifaaknmpaaGreatSy10
import Derived.Test.YtfjlpifaaknmpaaGreatSy11
import Derived.Test.YtfjlpifaaknmpaaGreatSy12
import Derived.Test.YtfjlpifaaknmpaaGreatSy16
import Derived.Test.YtfjlpifaaknmpaaGreatSy17
import Derived.Test.YtfjlpifaaknmpaaGreatSy18
import Derived.Test.YtfjlpifaaknmpaaGreatSy19
import Derived.Test.YtfjlpifaaknmpaaGreatSy20
import Derived.Test.YtfjlpifaaknmpaaGreatSy22
import Derived.Test.YtfjlpifaaknmpaaGreatSy27
import Derived.Deep.RegionHeld3
import Derived.BigRegion
import Derived.Test.YtfjlpifaaknmpaaGreatSy13
import Derived.Test.YtfjlpifaaknmpaaGreatSy14
import Derived.Test.YtfjlpifaaknmpaaGreatSy21
import Derived.Test.YtfjlpifaaknmpaaGreatSy26
import Derived.Deep.MidRow
import Derived.Test.YtfjlpifaaknmpaaGreatSy15
import Derived.Test.YtfjlpifaaknmpaaGreatSy23
import Derived.Test.YtfjlpifaaknmpaaGreatSy24
import Derived.Test.YtfjlpifaaknmpaaGreatSy25
import Derived.Lib.SmallJoins
/- The closure within stripe.Whole; the contract of Whole. -/
set_option linter.unusedSimpArgs false
set_option linter.unusedVariables false
set_option maxRecDepth 100000
namespace Go.Proofs.YtfjlpifaaknmpaaGreat
open Go.RowKit

theorem run_append_u64 {B : Nat} {w : World} {dv : Value} {ls : List Nat} (hd : UOwn B w dv ls) (ad : Addr) {x : Nat} (hu : w.cell? ad = some (.int .u64 (x : Int))) (hB : B ≤ w.heap.size) (hl : ls.length + 1 ≤ 1000) (ty : TypeId) :
    ∃ v' w', (Builtin.append_ #[109, 109] ty #[dv, .slice (some ad) 1 1]).run Tryz.prog w = .ok v' w' ∧ UOwn B w' v' (ls ++ [x]) ∧ w.grownBy w' dv.ownBlock := by
  obtain ⟨i0, hi, hz0, hz1, hz2⟩ := info_parts Tryz.infoU8
  obtain ⟨v', w', r1, r2, r3, _, r5⟩ := run_append_own_at (P := Tryz.prog) w B 109 ty 39 i0 (.int .u64 0) 1 8 Tryz.underlying109 hi hz0 hz1 hz2 rfl (by decide) dv ls.length _ hd.row ad 1 1 [.int .u64 (x : Int)] (by simp)
    (fun j v hj => by
      match j, hj with
      | 0, hj => simp at hj; subst hj; simpa [Addr.add] using hu)
    (fun v hv => by simp at hv; subst hv; rfl) (by unfold maxLen; omega) (by omega) hB
  exact ⟨v', w', r1, ⟨by simpa using hl, by simpa using r2⟩, r3⟩
theorem wpList_append_u64 {w : World} {ops : Array Oper} {rest : List Oper} {o : Oper} {a : Act} {Q : Exit → Act → World → Prop} (hgd : o.guard = none) (d s : Operand)
    (ho : o.op = .call { callee := .builtin .append, args := #[d, s], argTypes := #[109, 109] }) (dv : Value) (ad : Addr) (hed : a.eval d = dv) (hes : a.eval s = .slice (some ad) 1 1)
    {B : Nat} {ls : List Nat} {x : Nat} (hd : UOwn B w dv ls) (hu : w.cell? ad = some (.int .u64 (x : Int))) (hB : B ≤ w.heap.size) (hl : ls.length + 1 ≤ 1000)
    (h : ∀ v' w', UOwn B w' v' (ls ++ [x]) → w.grownBy w' dv.ownBlock → wpList Tryz.prog ops Q rest (a.put o.dst v') w') : wpList Tryz.prog ops Q (o :: rest) a w := by
  refine wpList_plain hgd fun K hK => ?_
  obtain ⟨v', w', hrun, r1, r2⟩ := run_append_u64 hd ad hu hB hl o.type
  unfold Oper.wp
  simp [execOp, ho, resolve, invoke, builtin, hed, hes, hrun, Result.andThen]
  exact hK _ _ (h _ _ r1 r2)

/-- What the closure within Whole captured: the stamps found so far. -/
structure WhI (w0 : World) (A : Nat) (w : World) (va va' : Value) (S : List Nat) : Prop where
  ba : Boxed w A 109 va
  ia : UOwn w0.heap.size w va' S
  lA : w0.heap.size ≤ A
  gr : w0.grownBy w none
section
variable {w0 w w' : World} {A : Nat} {va va' : Value} {S : List Nat}
theorem WhI.keep (h : WhI w0 A w va va' S) (g : w.grownBy w' none) : WhI w0 A w' va va' S := ⟨h.ba.kept g (by simp), h.ia.keep g, h.lA, grown_trans h.gr g⟩
theorem WhI.app (h : WhI w0 A w va va' S) {v2 : Value} {m : Nat} (o : UOwn w0.heap.size w' v2 (S ++ [m])) (g : w.grownBy w' va'.ownBlock) : WhI w0 A w' va v2 (S ++ [m]) :=
  ⟨h.ba.kept g (h.ba.not_row (by decide) h.ia.row), o, h.lA, grown_new h.gr g (fun i e => h.ia.lo i e)⟩
theorem UOwn.boxed {B A : Nat} {w w' : World} {v u : Value} {ls : List Nat} {t : TypeId} (h : UOwn B w v ls) (hb : Boxed w A t u) (ht : t ≠ 39) (g : w.grownBy w' (some A)) : UOwn B w' v ls :=
  h.kept g (by
    have := hb.not_row ht h.row
    cases e : v.ownBlock with
    | none => exact .inl rfl
    | some k => exact .inr (fun e2 => this (by rw [e, ← e2])))
theorem WhI.setA (h : WhI w0 A w va va' S) : WhI w0 A (w.setCell ⟨A, 0, none⟩ va') va' va' S :=
  have g := grownBy_setCell' w A va'
  ⟨h.ba.set _, h.ia.boxed h.ba (by decide) g, h.lA, grown_new h.gr g (fun i e => by have := Option.some.inj e; have := h.lA; omega)⟩
theorem wh_yes (h : WhI w0 A w va va S) {j m : Nat} {u : Value} (hl : S.length < 255) :
    Calls Tryz.prog 66 #[.int .i64 (j : Int), .int .u64 (m : Int), u, .pointer (some ⟨A, 0, none⟩)] w fun e w' => e = .returned (.bool true) ∧ ∃ va', WhI w0 A w' va' va' (S ++ [m]) := by
  obtain ⟨ap, an, ac, rfl, ha⟩ := h.ia.opened
  have T : Hid (WhI w0 A (w.alloc (.cells #[.int .u64 (m : Int)] 39)) (.slice ap an ac) (.slice ap an ac) S) := h.keep (World.grownBy_alloc w _ none)
  have c0 := h.ba.cell
  have HL : Hid (S.length + 1 ≤ 1000) := by show _ ≤ _; omega
  clear h ha hl
  go_enter Tryz.func66, Tryz.ntmps66
  go_wp2_with (first
    | (at_builtin; refine wpList_append_u64 rfl _ _ rfl _ ⟨w.heap.size, 0, none⟩ rfl rfl T.out.ia (cell_new1 _ _ rfl) T.out.gr.size HL.out ?_; intro v2 w2 o2 g2; have T2 : Hid (WhI w0 A w2 (.slice ap an ac) v2 (S ++ [m])) := T.out.app o2 g2; clear o2 g2 T; obtain ⟨p2, n2, k2, rfl, hn2⟩ := T2.out.ia.opened; clear hn2; have kc := T2.out.ba.cell; have kf := T2.out.ba.frozen)
    | fail)
  go_ret
  exact ⟨rfl, _, T2.out.setA⟩
end

theorem enters_wh : ∀ args w, (callFunc 66 args).run Tryz.prog w = .ok (.enter 66 args) w := by
  intro args w
  simp [go_sem, callFunc, Tryz.func66, Tryz.f66]
def SP.wholeV (R : AM.Raw) (g : SP.Geo) (slot : Int) : Nat := if SP.why R g slot = 0 then SP.whole R g slot.toNat else 0
section
variable {F F' : Nat → Prop} {w w' : World} {s a : Nat} {g : SP.Geo} {R R' : AM.Raw}
/-- The walk of Whole. -/
theorem wh_walk {A slot : Nat} {w4 : World} (h : SI F w s a g R) (h0 : R.off = false) (hs : slot < g.s) (T : WhI w A w4 (.slice none 0 0) (.slice none 0 0) []) :
    Calls Tryz.prog 55 #[ptr s, .int .i64 (slot : Int), .func (.func 66) #[] #[.pointer (some ⟨A, 0, none⟩)]] w4 fun e w' =>
      e = .returned (.tuple #[]) ∧ ∃ va, WhI w A w' va va (SP.stampTo R g slot g.n) := by
  have hn255 := h.ok.n255
  refine (swalk_any (g := g) (R := R) (F := F) (a := a) (B := w.heap.size) h0 hs enters_wh
    (fun j w' => ∃ va, WhI w A w' va va (SP.stampTo R g slot j)) (fun _ => False) (fun _ => true) ?_ ?_ ?_ ?_ ?_ ?_).mono ?_
  · rintro j w1 ⟨_, T1⟩
    exact h.keep T1.gr
  · rintro j w1 ⟨_, T1⟩
    exact T1.gr.size
  · rintro j w1 w2 ⟨va, T1⟩ g1
    exact ⟨va, T1.keep g1⟩
  · rintro j w1 hj hy ⟨va, T1⟩
    refine ⟨va, ?_⟩
    rw [SP.stampTo_succ, hy]
    simpa using T1
  · rintro j w1 v hj hy ⟨va, T1⟩ hv
    have hle := SP.stampTo_le R g slot j
    refine (wh_yes T1 (j := j) (m := SP.numD R g slot j) (u := v) (by omega)).mono ?_
    rintro e2 w2 ⟨rfl, va', T2⟩
    refine ⟨rfl, ?_⟩
    rw [if_pos rfl]
    refine ⟨va', ?_⟩
    rw [SP.stampTo_succ, hy, if_pos rfl]
    exact T2
  · exact ⟨_, T⟩
  · rintro e w' ⟨rfl, h1⟩
    refine ⟨rfl, ?_⟩
    rcases h1 with h1 | h1
    · exact h1
    · exact h1.elim
theorem wh_start (w : World) : WhI w w.heap.size (w.alloc (.cells #[.slice none 0 0] 109)) (.slice none 0 0) (.slice none 0 0) [] :=
  ⟨Boxed.new w _ _, UOwn.nil _ _, Nat.le_refl _, World.grownBy_alloc w _ none⟩

set_option maxHeartbeats 6400000 in
theorem swhole_main (h : SI F w s a g R) {slot : Nat} (hy : SP.why R g (slot : Int) = 0) (hn : g.n ≤ 12) :
    Calls Tryz.prog 21 #[ptr s, .int .i64 (slot : Int)] w fun e w' => e = .returned (.tuple #[.int .u64 ((SP.whole R g slot : Nat) : Int), .int .i64 0]) ∧ w.grownBy w' none := by
  have HR : Hid (Calls Tryz.prog 45 #[ptr s, .int .i64 (slot : Int)] w fun e w'' => e = .returned (.int .i64 0) ∧ w'' = w) := sreach_at h (by rw [hy]; rfl)
  obtain ⟨q0, q1, q2⟩ := SP.why_zero hy
  have HW : Hid (∀ A w4, WhI w A w4 (.slice none 0 0) (.slice none 0 0) [] → Calls Tryz.prog 55 #[ptr s, .int .i64 (slot : Int), .func (.func 66) #[] #[.pointer (some ⟨A, 0, none⟩)]] w4 fun e w' =>
      e = .returned (.tuple #[]) ∧ ∃ va, WhI w A w' va va (SP.stampTo R g slot g.n)) := fun A w4 T => wh_walk h q0 (by omega) T
  have HS : Hid (∀ w', w.grownBy w' none → w'.cell? ⟨s, 1, none⟩ = some (.int .i64 (g.k : Int))) := fun w' g' => (h.keep g').at2
  have T0 : Hid (WhI w _ _ _ _ _) := wh_start w
  have HO : Hid (g.Ok R ∧ g.n ≤ 12) := ⟨h.ok, hn⟩
  clear h hy q0 q1 q2 hn
  go_enter Tryz.func21, Tryz.ntmps21
  go_wp2_with (first
    | (go_at_call 45; refine HR.out.mono ?_; rintro e w9 ⟨rfl, hw9⟩; obtain rfl := hw9.symm; clear hw9)
    | (go_at_call 55; refine (HW.out _ _ T0.out).mono ?_; rintro e w5 ⟨rfl, va, t5⟩; obtain ⟨ap, an, ac, rfl, ha⟩ := t5.ia.opened; have T5 : Hid (WhI w w.heap.size w5 (.slice ap an ac) (.slice ap an ac) (SP.stampTo R g slot g.n)) := t5; clear t5 ha))
  obtain ⟨A, hA⟩ : ∃ A, A = w.heap.size := ⟨_, rfl⟩
  rw [← hA] at T5
  (try rw [← hA])
  clear hA T0 HW HR
  have HC5 : Hid ((w5.drewN 1).cell? ⟨A, 0, none⟩ = some (.slice ap an ac) ∧ (w5.drewN 1).cell? ⟨s, 1, none⟩ = some (.int .i64 (g.k : Int))) := ⟨(T5.out.keep (grown_drewN w5 1)).ba.cell, HS.out _ (T5.out.keep (grown_drewN w5 1)).gr⟩
  have OF : Hid (Calls Tryz.prog 67 #[.slice ap an ac, .int .i64 (g.k : Int)] (w5.drewN 1) fun e w'' => e = .returned (.int .u64 ((SP.whole R g slot : Nat) : Int)) ∧ w''.cell? ⟨A, 0, none⟩ = some (.slice ap an ac) ∧ w''.cell? ⟨s, 1, none⟩ = some (.int .i64 (g.k : Int)) ∧ w.grownBy w'' none) := by
    have T6 := T5.out.keep (grown_drewN w5 1)
    refine (often_yes T6.ia (by have := SP.stampTo_le R g slot g.n; have := HO.out.2; omega) HO.out.1.k1 (by have := HO.out.1.kn; have := HO.out.1.n255; omega)).mono ?_
    rintro e w6 ⟨rfl, g6⟩
    have gw := grown_new T6.gr g6 (fun i e => T6.ia.lo i e)
    exact ⟨rfl, (T6.ba.kept g6 (T6.ba.not_row (by decide) T6.ia.row)).cell, HS.out _ gw, gw⟩
  go_region_held3 (fun w' => w'.cell? ⟨A, 0, none⟩ = some (.slice ap an ac) ∧ w'.cell? ⟨s, 1, none⟩ = some (.int .i64 (g.k : Int))) (first | exact HC5.out | exact HC6.out)
    ((go_at_call 67; refine OF.out.mono ?_; rintro e w6 ⟨rfl, z1, z2, z3⟩; have HC6 : Hid (w6.cell? ⟨A, 0, none⟩ = some (.slice ap an ac) ∧ w6.cell? ⟨s, 1, none⟩ = some (.int .i64 (g.k : Int))) := ⟨z1, z2⟩; have G6 : Hid (w.grownBy w6 none) := z3; clear z1 z2 z3))
  go_wp2
  go_ret2
  exact ⟨rfl, G6.out⟩
theorem swhole_all (h : SI F w s a g R) (slot : Int) (hn : g.n ≤ 12) :
    Calls Tryz.prog 21 #[ptr s, .int .i64 slot] w fun e w' => e = .returned (.tuple #[.int .u64 ((SP.wholeV R g slot : Nat) : Int), .int .i64 (SP.why R g slot : Int)]) ∧ w.grownBy w' none := by
  unfold SP.wholeV
  by_cases hy : SP.why R g slot = 0
  · obtain ⟨_, q1, _⟩ := SP.why_zero hy
    obtain ⟨n, rfl⟩ : ∃ n : Nat, slot = (n : Int) := ⟨slot.toNat, by omega⟩
    rw [if_pos hy, hy, Int.toNat_natCast]
    exact swhole_main h hy hn
  · rw [if_neg hy]
    refine (swhole_err h hy).mono ?_
    rintro e w' ⟨rfl, rfl⟩
    exact ⟨rfl, World.grownBy.refl _ _⟩
end
end Go.Proofs.YtfjlpifaaknmpaaGreat

/- Torn: a segment is written over another one, and the power goes. No text of the program is named. -/
set_option linter.unusedSimpArgs false
set_option linter.unusedVariables false
set_option maxRecDepth 100000
namespace Go.Proofs.YtfjlpifaaknmpaaGreat
namespace SP

theorem why_at {R : AM.Raw} {g : Geo} {slot : Nat} (h0 : R.off = false) (hs : slot < g.s) : why R g (slot : Int) = 0 := by
  unfold why
  rw [h0]
  simp only [Bool.false_eq_true, if_false]
  rw [if_pos ⟨by omega, by omega⟩]
theorem getD_el {α : Type} (l : List α) (d : α) {i : Nat} (h : i < l.length) : l.getD i d = l[i] := by simp [List.getD, h]
theorem mix_of {S X Y : List (List Nat)} (hS : S.length = 8) (h : ∀ i, i < 8 → S.getD i [] = X.getD i [] ∨ S.getD i [] = Y.getD i []) : ∃ c, S = CM.mix c X Y 8 := by
  refine ⟨(List.range 8).map (fun i => decide (S.getD i [] = Y.getD i [])), ?_⟩
  apply List.ext_getElem
  · rw [hS, CM.mix_len]
  · intro i h1 h2
    rw [hS] at h1
    have e1 : S[i] = S.getD i [] := by simp [List.getD, hS, h1]
    have e2 : (CM.mix ((List.range 8).map (fun i => decide (S.getD i [] = Y.getD i []))) X Y 8)[i] = (CM.mix ((List.range 8).map (fun i => decide (S.getD i [] = Y.getD i []))) X Y 8).getD i [] := (getD_el _ _ h2).symm
    rw [e1, e2, CM.mix_get _ _ _ h1]
    have e3 : ((List.range 8).map (fun i => decide (S.getD i [] = Y.getD i []))).getD i false = decide (S.getD i [] = Y.getD i []) := by
      rw [getD_el _ _ (by simpa using h1)]
      simp only [List.getElem_map, List.getElem_range]
    rw [e3]
    by_cases c : S.getD i [] = Y.getD i []
    · rw [decide_eq_true c, if_pos rfl]; exact c
    · rw [decide_eq_false c]
      simp only [Bool.false_eq_true, if_false]
      exact (h i h1).resolve_right c

/-- Each sector is of the old segment or of the new one. -/
structure Torn (R : AM.Raw) (g : Geo) (slot m m' : Nat) (xs ys : List Nat) : Prop where
  ok : g.Ok R
  off : R.off = false
  hs : slot < g.s
  on : ∀ d, d < g.n → R.on (d : Int) = true
  mix : ∀ d i, d < g.n → i < 8 → cont R.C g slot d i = (CM.secs m ((code g xs).getD d []) 8).getD i [] ∨ cont R.C g slot d i = (CM.secs m' ((code g ys).getD d []) 8).getD i []
theorem Torn.chunk {R : AM.Raw} {g : Geo} {slot m m' : Nat} {xs ys : List Nat} (h : Torn R g slot m m' xs ys) (m0 : m ≠ 0) (m0' : m' ≠ 0) (hm : m < 256 ^ 8) (hm' : m' < 256 ^ 8) (hne : m ≠ m') {d : Nat} (hd : d < g.n) :
    yesD R g slot d = false ∨ (numD R g slot d = m ∧ datD R g slot d = (code g xs).getD d []) ∨ (numD R g slot d = m' ∧ datD R g slot d = (code g ys).getD d []) := by
  have hx := code_row g xs hd
  have hy := code_row g ys hd
  obtain ⟨c, hc⟩ := mix_of (S := sectTo R g slot d 8) (X := CM.secs m ((code g xs).getD d []) 8) (Y := CM.secs m' ((code g ys).getD d []) 8) (sectTo_len _ _ _ _ _) (fun i hi => by
    have e : (sectTo R g slot d 8).getD i [] = cont R.C g slot d i := by simp [sectTo, cont, List.getD, hi]
    rw [e]
    exact h.mix d i hd hi)
  have hs : sects R g slot d = CM.mix c (CM.secs m ((code g xs).getD d []) 8) (CM.secs m' ((code g ys).getD d []) 8) 8 := (sects_on (h.on d hd) _ _).trans hc
  unfold yesD numD datD
  rw [hs]
  by_cases h0 : CM.cnt c 8 = 0
  · rw [CM.mix_none h0 (CM.secs_len _ _ _)]
    obtain ⟨hf, hp⟩ := fit448 m0 hx
    have := CM.put_take hm hf
    rw [hp] at this
    exact .inr (.inl this.2)
  · by_cases h8 : CM.cnt c 8 = 8
    · rw [CM.mix_all h8 (CM.secs_len _ _ _)]
      obtain ⟨hf, hp⟩ := fit448 m0' hy
      have := CM.put_take hm' hf
      rw [hp] at this
      exact .inr (.inr this.2)
    · left
      rw [CM.mix_yes hm hm' m0' (by omega) (by omega) (by rw [hx]; omega) (by rw [hy]; omega) h0 h8]
      exact decide_eq_false hne
theorem val_secs {m i : Nat} (hm : m < 256 ^ 8) (E : List Nat) (hi : i < 8) : SM.val ((CM.secs m E 8).getD i []) 8 = m := by
  rw [CM.secs_get m _ hi]
  exact SM.val_sec hm _
theorem Torn.high {R : AM.Raw} {g : Geo} {slot m m' : Nat} {xs ys : List Nat} (h : Torn R g slot m m' xs ys) (hm : m < 256 ^ 8) (hm' : m' < 256 ^ 8) : high R g slot = m ∨ high R g slot = m' := by
  have hmem : ∀ y ∈ markTo R g slot g.n, y = m ∨ y = m' := by
    intro y hy
    obtain ⟨d, hd, hy⟩ := mem_markTo hy
    unfold marks at hy
    rw [sects_on (h.on d hd)] at hy
    obtain ⟨b, hb, rfl⟩ := List.mem_map.1 hy
    unfold sectTo at hb
    obtain ⟨i, hi, rfl⟩ := List.mem_map.1 hb
    have hi := List.mem_range.1 hi
    rcases h.mix d i hd hi with h1 | h1
    · left
      show SM.val (cont R.C g slot d i) 8 = m
      rw [h1]; exact val_secs hm _ hi
    · right
      show SM.val (cont R.C g slot d i) 8 = m'
      rw [h1]; exact val_secs hm' _ hi
  have hne : markTo R g slot g.n ≠ [] := by
    have hd : 0 < g.n := by have := h.ok.kn; omega
    intro hc
    have : SM.val (cont R.C g slot 0 0) 8 ∈ markTo R g slot g.n := by
      unfold markTo
      refine List.mem_flatMap.2 ⟨0, List.mem_range.2 hd, ?_⟩
      unfold marks
      rw [sects_on (h.on 0 hd)]
      refine List.mem_map.2 ⟨cont R.C g slot 0 0, ?_, rfl⟩
      unfold sectTo
      exact List.mem_map.2 ⟨0, by simp, rfl⟩
    rw [hc] at this
    simp at this
  exact hmem _ (top_mem hne)

/-- The power goes: disks stay on. -/
theorem lays_on (L : List (AM.Wr × Nat)) : ∀ (C : List AM.Disk) (e : Nat), ((L.foldl AM.pickD C).getD e none).isSome = (C.getD e none).isSome ∧ (L.foldl AM.pickD C).length = C.length := by
  induction L with
  | nil => intro C e; exact ⟨rfl, rfl⟩
  | cons x L ih =>
    intro C e
    simp only [List.foldl_cons]
    obtain ⟨h1, h2⟩ := ih (AM.pickD C x) e
    rw [h1, h2]
    unfold AM.pickD
    split
    · exact ⟨AM.lay_on _ _ _ _ _, AM.lay_len _ _ _ _⟩
    · exact ⟨rfl, rfl⟩
theorem crash_kept (R : AM.Raw) (ps : List Nat) : Kept R (R.crash ps) ∧ (R.crash ps).off = false := by
  have hl : (R.crash ps).C.length = R.C.length := by
    show (AM.crashC R.C R.L ps).length = _
    unfold AM.crashC
    rw [(lays_on _ _ 0).2, AM.undoTo_len]
  refine ⟨⟨hl, rfl, fun d => ?_⟩, rfl⟩
  have e : ((R.crash ps).C.getD d.toNat none).isSome = (R.C.getD d.toNat none).isSome := by
    show ((AM.crashC R.C R.L ps).getD d.toNat none).isSome = _
    unfold AM.crashC
    rw [(lays_on _ _ _).1, AM.undo_on]
  unfold AM.Raw.on
  rw [hl, e]
theorem crash_none {R : AM.Raw} (h : R.L = []) (ps : List Nat) : (R.crash ps).C = R.C := by
  show AM.crashC R.C R.L ps = _
  unfold AM.crashC
  rw [h]
  simp [AM.undoTo]
end SP
end Go.Proofs.YtfjlpifaaknmpaaGreat

/- The states that StripeTorn comes through. No text of the program is named. -/
set_option linter.unusedSimpArgs false
set_option linter.unusedVariables false
set_option maxRecDepth 100000
namespace Go.Proofs.YtfjlpifaaknmpaaGreat
namespace SP

/-- Between two calls: all disks are on, nothing is in flight, the segment xs stands under m. -/
structure Calm (R : AM.Raw) (g : Geo) (m : Nat) (xs : List Nat) : Prop where
  ok : g.Ok R
  off : R.off = false
  L : R.L = []
  on : ∀ d, d < g.n → R.on (d : Int) = true
  wrote : Wrote R g 0 m xs
theorem Calm.fused {R : AM.Raw} {g : Geo} {m : Nat} {xs : List Nat} (h : Calm R g m xs) (n : Int) : Calm (R.fused n) g m xs := ⟨⟨h.ok.k1, h.ok.kn, h.ok.n255, h.ok.s1, h.ok.s2, h.ok.room, h.ok.len⟩, h.off, h.L, h.on, h.wrote⟩
end SP
end Go.Proofs.YtfjlpifaaknmpaaGreat
namespace Go.Proofs.YtfjlpifaaknmpaaGreat
end Go.Proofs.YtfjlpifaaknmpaaGreat

/- The states that StripeAny comes through. No text of the program is named. -/
set_option linter.unusedSimpArgs false
set_option linter.unusedVariables false
set_option maxRecDepth 100000
namespace Go.Proofs.YtfjlpifaaknmpaaGreat
namespace SP

/-- Between two calls: nothing is in flight, the segment xs stands under m on each disk that is on. -/
structure Still (R : AM.Raw) (g : Geo) (slot m : Nat) (xs : List Nat) : Prop where
  ok : g.Ok R
  off : R.off = false
  L : R.L = []
  wrote : Wrote R g slot m xs
theorem Still.lost {R : AM.Raw} {g : Geo} {slot m : Nat} {xs : List Nat} (h : Still R g slot m xs) (d : Int) : g.Ok (R.lose d).2 ∧ (R.lose d).2.L = [] := by
  refine ⟨lose_geo h.ok d, List.eq_nil_of_length_eq_zero ?_⟩
  have := lose_L R d
  rw [h.L] at this
  exact Nat.le_zero.1 this
theorem Still.next {R : AM.Raw} {g : Geo} {slot m : Nat} {xs : List Nat} (h : Still R g slot m xs) (d : Int) : Still ((R.lose d).2.crash []) g slot m xs := by
  have hl := h.lost d
  have hk := crash_kept (R.lose d).2 []
  have hC := crash_none hl.2 []
  have hw := h.wrote.lose d
  refine ⟨hl.1.kept hk.1, hk.2, rfl, fun e he ho i hi => ?_⟩
  rw [hC]
  rw [hk.1.on] at ho
  exact hw e he ho i hi
theorem any_a {k m : Nat} {xs : List Nat} (h1 : 1 ≤ k) (h2 : k ≤ 6) (h3 : 1 ≤ m) (h4 : m ≤ 4) (hx : ∀ x ∈ xs, x < 256) (hl : xs.length = k * 448) (hL : ∀ R' : AM.Raw, ∀ (d k : Int) (b : List Nat), (R'.writes d k b).2.L.length ≤ R'.L.length + 1) :
    ∃ R1 R2, write (AM.Raw.new (k + m) (0 + 8 * 2)) ⟨k, k + m, 2, 0⟩ ((1 : Nat) : Int) 9 xs = (0, R1) ∧ Geo.Ok ⟨k, k + m, 2, 0⟩ R1 ∧ R1.L.length ≤ 80 ∧ R1.barrier = (0, R2) ∧ Still R2 ⟨k, k + m, 2, 0⟩ 1 9 xs := by
  have hg : Geo.Ok ⟨k, k + m, 2, 0⟩ (AM.Raw.new (k + m) (0 + 8 * 2)) := new_geo (n := 0 + 8 * 2) rfl h1 (by omega) (by omega) (by omega) (by omega)
  have h0 := new_ok (N := k + m) (n := 0 + 8 * 2) (by omega) (by omega) (by omega) (by omega)
  have hons := new_ons (N := k + m) (n := 0 + 8 * 2) hg rfl (by omega) (by omega) (by omega) (by omega)
  obtain ⟨a1, a2, a3, a4, a5⟩ := write_sure h0.1 hg (slot := 1) (m := 9) (by show 1 < 2; omega) rfl rfl (by decide) hx hl (by rw [hons]; show k ≤ k + m; omega)
  have hk := write_kept (AM.Raw.new (k + m) (0 + 8 * 2)) ⟨k, k + m, 2, 0⟩ ((1 : Nat) : Int) 9 xs
  have hll := write_len (R := AM.Raw.new (k + m) (0 + 8 * 2)) (g := ⟨k, k + m, 2, 0⟩) ((1 : Nat) : Int) 9 xs hL
  generalize hW : write (AM.Raw.new (k + m) (0 + 8 * 2)) ⟨k, k + m, 2, 0⟩ ((1 : Nat) : Int) 9 xs = W at *
  obtain ⟨c, R1⟩ := W
  simp only at a1 a2 a3 a4 a5 hk hll
  subst a1
  have hb : R1.barrier = (0, { R1.burnt with L := [] }) := by
    unfold AM.Raw.barrier
    rw [a3]
    simp [AM.Raw.burns, a4]
  have hbu : R1.burnt = R1 := by unfold AM.Raw.burnt; rw [if_pos a4]
  rw [hbu] at hb
  refine ⟨R1, { R1 with L := [] }, rfl, hg.kept hk, ?_, hb, ⟨hg.kept ⟨hk.len, hk.n, hk.on⟩, a3, rfl, a2⟩⟩
  have e : (AM.Raw.new (k + m) (0 + 8 * 2)).L.length = 0 := rfl
  rw [e] at hll
  have : (8 : Nat) * (k + m) ≤ 80 := by omega
  exact Nat.le_trans hll (by simpa using this)
/-- What is told of such a state. -/
theorem Still.why {R : AM.Raw} {g : Geo} {slot m : Nat} {xs : List Nat} (h : Still R g slot m xs) (hs : slot < g.s) : SP.why R g (slot : Int) = 0 := why_at h.off hs
end SP
end Go.Proofs.YtfjlpifaaknmpaaGreat

/- The walk of StripeAny. -/
set_option linter.unusedSimpArgs false
set_option linter.unusedVariables false
set_option maxRecDepth 100000
namespace Go.Proofs.YtfjlpifaaknmpaaGreat
open Go.RowKit
theorem small_uA (K : Int) (n : Nat) (h0 : 0 < n) (h1 : n ≤ 1000) : ∃ u a : Nat, a < n ∧ IntKind.u64.wrap K = (u : Int) ∧ ((u : Int)).tmod (n : Int) = (a : Int) ∧ IntKind.u64.wrap (a : Int) = (a : Int) ∧ IntKind.i64.wrap (a : Int) = (a : Int) ∧ IntKind.i64.wrap (1 + (a : Int)) = ((1 + a : Nat) : Int) := by
  obtain ⟨u, hu⟩ : ∃ u : Nat, IntKind.u64.wrap K = (u : Int) := by
    rw [IntKind.wrap_u64]
    exact ⟨(K % 18446744073709551616).toNat, by omega⟩
  have hlt : u % n < n := Nat.mod_lt _ h0
  refine ⟨u, u % n, hlt, hu, rfl, by rw [IntKind.wrap_u64]; omega, IntWalk.i64_in _ (by omega), ?_⟩
  have e : (1 : Int) + ((u % n : Nat) : Int) = ((1 + u % n : Nat) : Int) := by omega
  rw [e]
  exact IntWalk.i64_in _ (by omega)
theorem aw_none {F : Nat → Prop} (w : World) : Aw F w (.slice none 0 0) [] := ⟨⟨by simp, by simp, none, 0, rfl, Nat.le_refl _, by decide, fun h => absurd rfl h⟩, fun h => absurd rfl h⟩
abbrev gY (k m : Nat) : SP.Geo := ⟨k, k + m, 2, 0⟩
namespace stripeAny

set_option maxHeartbeats 51200000 in
theorem walk {w : World} {K M : Int} {X : Nat} {v : Value} {ps : List Nat} (hX : X < 256) (hv : Vec w v ps) : Calls Tryz.prog 4 #[.agg #[.int .i64 K, .int .i64 M, .int .u8 (X : Int), v]] w fun e w' => e = .returned (.bool true) ∧ w.grownBy w' none := by
  obtain ⟨pp, np, cp, rfl, hnp⟩ := hv.opened
  obtain ⟨u1, a1, ha1, e11, e12, e13, e14, e15⟩ := small_uA K 6 (by decide) (by decide)
  obtain ⟨u2, a2, ha2, e21, e22, e23, e24, e25⟩ := small_uA M 4 (by decide) (by decide)
  obtain ⟨k, hk⟩ : ∃ d, d = 1 + a1 := ⟨_, rfl⟩
  obtain ⟨m, hm⟩ : ∃ d, d = 1 + a2 := ⟨_, rfl⟩
  rw [← hk] at e15
  rw [← hm] at e25
  have q1 : ((u1 : Int)).tmod 6 = (a1 : Int) := e12
  have q2 : ((u2 : Int)).tmod 4 = (a2 : Int) := e22
  have HK : Hid (1 ≤ k ∧ k ≤ 6 ∧ 1 ≤ m ∧ m ≤ 4) := ⟨by omega, by omega, by omega, by omega⟩
  have HX : Hid (X < 256 ∧ np = ps.length) := ⟨hX, hnp⟩
  have hn47 : np ≤ 140737488351232 := by rw [hnp]; exact hv.len
  have HC0 : Hid (∀ w', (w.alloc (.cells #[.int .i64 K, .int .i64 M, .int .u8 (X : Int), .slice pp np cp] 75)).grownBy w' none → w'.cell? ⟨w.heap.size, 0, none⟩ = some (.int .i64 K) ∧ w'.cell? ⟨w.heap.size, 1, none⟩ = some (.int .i64 M) ∧ w'.cell? ⟨w.heap.size, 2, none⟩ = some (.int .u8 (X : Int)) ∧ w'.cell? ⟨w.heap.size, 3, none⟩ = some (.slice pp np cp)) := fun w' g1 => by
    have h := heap_alloc_new w (.cells #[.int .i64 K, .int .i64 M, .int .u8 (X : Int), .slice pp np cp] 75)
    exact ⟨g1.cell (cell_of_row _ _ 0 _ _ _ h) (by simp), g1.cell (cell_of_row _ _ 1 _ _ _ h) (by simp), g1.cell (cell_of_row _ _ 2 _ _ _ h) (by simp), g1.cell (cell_of_row _ _ 3 _ _ _ h) (by simp)⟩
  have GA : Hid (w.grownBy (w.alloc (.cells #[.int .i64 K, .int .i64 M, .int .u8 (X : Int), .slice pp np cp] 75)) none) := World.grownBy_alloc w _ none
  have HV0 : Hid (Vec w (.slice pp np cp) ps) := hv
  have AW : Hid (Calls Tryz.prog 6 #[] (w.alloc (.cells #[.int .i64 K, .int .i64 M, .int .u8 (X : Int), .slice pp np cp] 75)) fun e w' => e = .returned (.bool true) ∧ (w.alloc (.cells #[.int .i64 K, .int .i64 M, .int .u8 (X : Int), .slice pp np cp] 75)).grownBy w' none) := awake8 _
  clear hv hX hk hm ha1 ha2 e12 e22 hnp
  go_enter Tryz.func4, Tryz.ntmps4
  go_wp2_with fail
  refine AW.out.mono ?_
  rintro e w1 ⟨rfl, g1⟩
  have HC1 : Hid (∀ w', w1.grownBy w' none → w'.cell? ⟨w.heap.size, 0, none⟩ = some (.int .i64 K) ∧ w'.cell? ⟨w.heap.size, 1, none⟩ = some (.int .i64 M) ∧ w'.cell? ⟨w.heap.size, 2, none⟩ = some (.int .u8 (X : Int)) ∧ w'.cell? ⟨w.heap.size, 3, none⟩ = some (.slice pp np cp)) := fun w' g' => HC0.out w' (grown_trans g1 g')
  have G1 : Hid (w.grownBy w1 none) := grown_trans GA.out g1
  have HV : Hid (Vec w1 (.slice pp np cp) ps) := HV0.out.keep G1.out
  clear g1 HC0 GA HV0 AW
  obtain ⟨b, hb⟩ : ∃ b, b = w.heap.size := ⟨_, rfl⟩
  rw [← hb] at HC1
  (try rw [← hb])
  clear hb
  have HC := HC1
  clear HC1
  go_wp2_with fail
  go_region_held3 (fun w' => w'.cell? ⟨b, 0, none⟩ = some (.int .i64 K) ∧ w'.cell? ⟨b, 1, none⟩ = some (.int .i64 M) ∧ w'.cell? ⟨b, 2, none⟩ = some (.int .u8 (X : Int)) ∧ w'.cell? ⟨b, 3, none⟩ = some (.slice pp np cp)) (exact HC.out _ (grown_drewN w1 1)) (fail)
  have MD : Hid (Calls Tryz.prog 7 #[.int .i64 (k : Int), .int .i64 (m : Int), .int .i64 2, .int .i64 0] (w1.drewN 1) fun e w' => ∃ s t, e = .returned (.tuple #[ptr s, .pointer (some ⟨t, 0, none⟩)]) ∧ ∃ F G a r, Duo F G (w1.drewN 1) w' s a t r (gY k m) (AM.Raw.new (k + m) (0 + 8 * 2))) := made8_yes (w1.drewN 1) (k := k) (more := m) (S := 2) (f := 0) HK.out.1 HK.out.2.2.1 (by have := HK.out; omega) (by decide) (by decide) (by decide)
  obtain ⟨R1, R2, hw1, ok1, l1, hb1, cm⟩ := SP.any_a (k := k) (m := m) (xs := datL k X) HK.out.1 HK.out.2.1 HK.out.2.2.1 HK.out.2.2.2 (datL_small k X) (datL_len k X) writes_len8
  have A1 : Hid (SP.write (AM.Raw.new (k + m) (0 + 8 * 2)) (gY k m) ((1 : Nat) : Int) 9 (datL k X) = (0, R1) ∧ (gY k m).Ok R1 ∧ R1.L.length ≤ 80 ∧ R1.barrier = (0, R2)) := ⟨hw1, ok1, l1, hb1⟩
  have CM2 : Hid (SP.Still R2 (gY k m) 1 9 (datL k X)) := cm
  clear hw1 ok1 l1 hb1 cm
  go_wp2_with fail
  refine MD.out.mono ?_
  rintro e w3 ⟨s, t, rfl, F1, G2, a, r, du⟩
  have I3 : Hid (SI F1 w3 s a (gY k m) (AM.Raw.new (k + m) (0 + 8 * 2))) := du.i
  have B3 : Hid (Base w1 F1 w3) := ⟨grown_trans (grown_drewN w1 1) du.gr, du.bi⟩
  clear du MD
  have DT : Hid (∀ (w' : World), Calls Tryz.prog 10 #[.int .i64 (k : Int), .int .u8 (X : Int)] w' fun e w'' => ∃ p n c, e = .returned (.slice p n c) ∧ Own w'.heap.size w'' (.slice p n c) (datL k X) ∧ w'.grownBy w'' none) := fun w' => data_yes w' HK.out.1 (by have := HK.out; omega) HX.out.1
  go_wp2_with fail
  refine (DT.out w3).mono ?_
  rintro e w7 ⟨p7, n7, c7, rfl, o7, g7⟩
  have I : Hid (SI F1 w7 s a (gY k m) (AM.Raw.new (k + m) (0 + 8 * 2))) := I3.out.keep g7
  have B : Hid (Base w1 F1 w7) := B3.out.keep g7
  have V : Hid (Aw F1 w7 (.slice p7 n7 c7) (datL k X)) := o7.aw I3.out.i.lt
  clear o7 g7 I3 B3
  have WA : Hid (Calls Tryz.prog 11 #[ptr s, .int .i64 1, .int .u64 9, .slice p7 n7 c7] w7 fun e w' => e = .returned (.int .i64 0) ∧ ∃ F', SI F' w' s a (gY k m) R1 ∧ Step F1 w7 F' w') := by
    have h0 := swrite_all I.out ((1 : Nat) : Int) 9 V.out (by show (0 : Nat) ≤ 990000; omega)
    rw [A1.out.1] at h0
    exact h0
  go_wp2_with fail
  refine WA.out.mono ?_
  rintro e w8 ⟨rfl, F8, ix, st⟩
  have I8 : Hid (SI F8 w8 s a (gY k m) R1) := ix
  have B8 : Hid (Base w1 F8 w8) := B.out.step st
  clear ix st I B V WA
  have BA : Hid (Calls Tryz.prog 29 #[ptr a] w8 fun e w' => e = .returned (.int .i64 0) ∧ ∃ F', SI F' w' s a (gY k m) R2 ∧ Step F8 w8 F' w') := by
    refine (barrier_at I8.out.i (c := 0) (by rw [A1.out.2.2.2]; rfl) rfl).mono ?_
    rw [A1.out.2.2.2]
    rintro e w' ⟨rfl, F', i, st⟩
    exact ⟨rfl, F', I8.out.step i st CM2.out.ok, st⟩
  go_wp2_with (first | (go_at_call 9; refine (sarray_yes I8.out).mono ?_; rintro e w9 ⟨rfl, hw9⟩; obtain rfl := hw9.symm; clear hw9) | fail)
  refine BA.out.mono ?_
  rintro e w10 ⟨rfl, F10, ix, st⟩
  have H10 : Hid (∃ F R, SI F w10 s a (gY k m) R ∧ Base w1 F w10 ∧ SP.Still R (gY k m) 1 9 (datL k X)) := ⟨F10, R2, ix, B8.out.step st, CM2.out⟩
  clear ix st I8 B8 BA A1 CM2
  go_wp2_with fail
  go_loopw [57] (fun ti wr => ∃ i : Nat, i ≤ np ∧ ti = .int .i64 i ∧ Hid (∃ F R, SI F wr s a (gY k m) R ∧ Base w1 F wr ∧ SP.Still R (gY k m) 1 9 (datL k X))) (fun ti _ => np - (intOf ti).toNat)
  case atStart => exact ⟨0, by omega, rfl, H10⟩
  case round =>
    clear H10
    obtain ⟨i, hi, rfl, HR⟩ := hrel
    obtain ⟨F, R, hI, hB, hS⟩ := HR.out
    have I : Hid (SI F wr s a (gY k m) R) := hI
    have B : Hid (Base w1 F wr) := hB
    have ST : Hid (SP.Still R (gY k m) 1 9 (datL k X)) := hS
    clear hI hB hS HR
    by_cases hlt : i < np
    · have i1 : (i : Int) < (np : Int) := by omega
      have i2 : (0 : Int) ≤ (i : Int) := by omega
      obtain ⟨b2, off, rfl, hcd, h256⟩ := (HV.out.keep B.out.grown).spot (k := i) (by have := HX.out.2; omega)
      generalize ps.getD i 0 = d at *
      obtain ⟨N, hN⟩ : ∃ N, N = k + m := ⟨_, rfl⟩
      obtain ⟨x, hx⟩ : ∃ x, x = d % N := ⟨_, rfl⟩
      have j1 : IntKind.i64.wrap (d : Int) = (d : Int) := IntWalk.i64_in _ (by omega)
      have j2 : IntKind.i64.wrap ((k : Int) + (m : Int)) = (N : Int) := by
        rw [show (k : Int) + (m : Int) = (N : Int) by omega]; exact IntWalk.i64_in _ (by have := HK.out; omega)
      have j3 : ¬ (N : Int) = 0 := by have := HK.out; omega
      have j3' : ¬ N = 0 := by have := HK.out; omega
      have j3'' : (0 : Int) < (N : Int) := by have := HK.out; omega
      have j4 : ((d : Int)).tmod (N : Int) = (x : Int) := by rw [hx]; rfl
      have hxN : x < N := by rw [hx]; exact Nat.mod_lt _ (by have := HK.out; omega)
      have j5 : IntKind.i64.wrap (x : Int) = (x : Int) := IntWalk.i64_in _ (by have := HK.out; omega)
      have HZ : Hid (wr.grownBy (wr.drewN 1) none) := grown_drewN wr 1
      have HP : Hid ((wr.drewN 1).cell? ⟨b, 2, none⟩ = some (.int .u8 (X : Int))) := (HC.out _ (grown_trans B.out.grown HZ.out)).2.2.1
      have ST2 : Hid (SP.Still ((R.lose (x : Int)).2.crash []) (gY k m) 1 9 (datL k X)) := ST.out.next _
      have SL : Hid ((gY k m).Ok (R.lose (x : Int)).2 ∧ (R.lose (x : Int)).2.L = []) := ST.out.lost _
      have LS : Hid (Calls Tryz.prog 25 #[ptr a, .int .i64 (x : Int)] (wr.drewN 1) fun e w' => ∃ c, e = .returned (.int .i64 c) ∧ ∃ F', SI F' w' s a (gY k m) (R.lose (x : Int)).2 ∧ Base w1 F' w' ∧ w'.cell? ⟨b, 2, none⟩ = some (.int .u8 (X : Int))) := by
        refine (lose_at (d := (x : Int)) (I.out.keep HZ.out).i (by rw [ST.out.L]; exact Nat.zero_le _) rfl rfl).mono ?_
        rintro e w' ⟨rfl, F', ix, st⟩
        have st2 := (Step.new HZ.out).trans st
        exact ⟨_, rfl, F', (I.out.keep HZ.out).step ix st SL.out.1, B.out.step st2, (HC.out _ (B.out.step st2).grown).2.2.1⟩
      clear hx hN hxN h256
      go_wp2_with fail
      clear hcd
      go_region_held3 (fun w' => w'.cell? ⟨b, 2, none⟩ = some (.int .u8 (X : Int))) (first | exact HP.out | exact HQ.out)
        ((first
          | (go_at_call 9; refine (sarray_yes (I.out.keep HZ.out)).mono ?_; rintro e w9 ⟨rfl, hw9⟩; obtain rfl := hw9.symm; clear hw9)
          | (go_at_call 25; refine LS.out.mono ?_; rintro e w11 ⟨cL, rfl, F11, ix0, bx0, hq0⟩; have I11 : Hid (SI F11 w11 s a (gY k m) (R.lose (x : Int)).2) := ix0; have B11 : Hid (Base w1 F11 w11) := bx0; have HQ : Hid (w11.cell? ⟨b, 2, none⟩ = some (.int .u8 (X : Int))) := hq0; clear ix0 bx0 hq0)))
      clear LS HQ HP HZ I B ST
      have CR : Hid (Calls Tryz.prog 31 #[ptr a, .slice none 0 0] w11 fun e w' => e = .returned (.tuple #[]) ∧ ∃ F', SI F' w' s a (gY k m) ((R.lose (x : Int)).2.crash []) ∧ Base w1 F' w') := by
        refine (crash_at I11.out.i (by rw [SL.out.2]; exact Nat.zero_le _) (aw_none w11) rfl).mono ?_
        rintro e w' ⟨rfl, F', ix, st⟩
        exact ⟨rfl, F', I11.out.step ix st ST2.out.ok, B11.out.step st⟩
      go_wp2_with (first | (go_at_call 9; refine (sarray_yes I11.out).mono ?_; rintro e w9 ⟨rfl, hw9⟩; obtain rfl := hw9.symm; clear hw9) | fail)
      refine CR.out.mono ?_
      rintro e w12 ⟨rfl, F12, ix, bx⟩
      have I : Hid (SI F12 w12 s a (gY k m) ((R.lose (x : Int)).2.crash [])) := ix
      have B : Hid (Base w1 F12 w12) := bx
      clear ix bx CR I11 B11 SL
      generalize (R.lose (x : Int)).2.crash [] = R5 at *
      obtain ⟨O, hO⟩ : ∃ O, O = R5.ons := ⟨_, rfl⟩
      have HO : Hid (O = R5.ons) := hO
      have WV : Hid (SP.why R5 (gY k m) ((1 : Nat) : Int) = 0 ∧ SP.wholeV R5 (gY k m) ((1 : Nat) : Int) = if k ≤ O then 9 else 0) := by
        have h1 := ST2.out.why (show 1 < (gY k m).s by show 1 < 2; omega)
        refine ⟨h1, ?_⟩
        unfold SP.wholeV
        rw [if_pos h1, hO, Int.toNat_natCast]
        exact ST2.out.wrote.whole ST2.out.ok (by decide) (by decide)
      have RDA := sread_all I.out ((1 : Nat) : Int) 9
      have HRR : Hid (∀ {out : List Nat} {e : Nat}, SP.RdP R5 (gY k m) ((1 : Nat) : Int) 9 out e → (k ≤ O → out = datL k X ∧ e = 0) ∧ (O < k → out = [] ∧ e = 20)) := fun hr => by
        rw [hO]
        exact ST2.out.wrote.read ST2.out.ok (by decide) (by decide) (datL_small k X) (datL_len k X) ST2.out.off (show 1 < (gY k m).s by show 1 < 2; omega) hr
      have ONS : Hid (∀ w', w12.grownBy w' none → Calls Tryz.prog 39 #[ptr a] w' fun e w'' => e = .returned (.int .i64 (O : Int)) ∧ w'' = w') := fun w' g' => by rw [hO]; exact ons_yes (I.out.keep g').i
      have WHL : Hid (∀ w', w12.grownBy w' none → Calls Tryz.prog 21 #[ptr s, .int .i64 1] w' fun e w'' => e = .returned (.tuple #[.int .u64 ((SP.wholeV R5 (gY k m) ((1 : Nat) : Int) : Nat) : Int), .int .i64 (SP.why R5 (gY k m) ((1 : Nat) : Int) : Int)]) ∧ w'.grownBy w'' none) := fun w' g' => swhole_all (I.out.keep g') ((1 : Nat) : Int) (by show k + m ≤ 12; have := HK.out; omega)
      rw [WV.out.1, WV.out.2] at WHL
      clear hO WV
      by_cases hko : k ≤ O
      · rw [if_pos hko] at WHL
        have i8 : (k : Int) ≤ (O : Int) := by omega
        have RD : Hid (Calls Tryz.prog 14 #[ptr s, .int .i64 1, .int .u64 9] w12 fun e w' => ∃ p n c, e = .returned (.tuple #[.slice p n c, .int .i64 0]) ∧ Vec w' (.slice p n c) (datL k X) ∧ w12.grownBy w' none) := by
          refine RDA.mono ?_
          rintro e w' ⟨v, er, out, rfl, hr, ho, hg⟩
          obtain ⟨rfl, rfl⟩ := (HRR.out hr).1 hko
          obtain ⟨p, n, c, rfl, _⟩ := ho.vec.opened
          exact ⟨p, n, c, rfl, ho.vec, hg⟩
        clear RDA HRR hko
        go_wp2_with fail
        refine RD.out.mono ?_
        rintro e w13 ⟨p9, n9, c9, rfl, v9, g9⟩
        have V9 : Hid (Vec w13 (.slice p9 n9 c9) (datL k X)) := v9
        have G9 : Hid (w12.grownBy w13 none) := g9
        clear v9 g9 RD
        go_wp2_with fail
        refine (WHL.out _ G9.out).mono ?_
        rintro e w14 ⟨rfl, g9⟩
        have G10 : Hid (w12.grownBy w14 none) := grown_trans G9.out g9
        have V10 : Hid (Vec w14 (.slice p9 n9 c9) (datL k X)) := V9.out.keep g9
        clear g9 V9 G9 WHL
        go_wp2_with (first | (go_at_call 9; refine (sarray_yes (I.out.keep G10.out)).mono ?_; rintro e w9 ⟨rfl, hw9⟩; obtain rfl := hw9.symm; clear hw9) | fail)
        refine (ONS.out _ G10.out).mono ?_
        rintro e w9 ⟨rfl, hw9⟩
        obtain rfl := hw9.symm
        clear hw9
        go_wp2_with fail
        refine (DT.out _).mono ?_
        rintro e w15 ⟨p15, n15, c15, rfl, o15, g15⟩
        have V15 : Hid (Vec w15 (.slice p15 n15 c15) (datL k X) ∧ Vec w15 (.slice p9 n9 c9) (datL k X)) := ⟨o15.vec, V10.out.keep g15⟩
        have G15 : Hid (w12.grownBy w15 none) := grown_trans G10.out g15
        clear o15 g15 V10 G10
        go_wp2_with fail
        refine (equal_at V15.out.2 V15.out.1 rfl).mono ?_
        rintro e w9 ⟨rfl, hw9⟩
        obtain rfl := hw9.symm
        clear hw9
        go_wp2
        go_roundw
        case rel => exact ⟨i + 1, by omega, by go_num, F12, R5, I.out.keep G15.out, B.out.keep G15.out, ST2.out⟩
        case measure => simp [intOf]; omega
      · rw [if_neg hko] at WHL
        have i8 : ¬ (k : Int) ≤ (O : Int) := by omega
        have RD : Hid (Calls Tryz.prog 14 #[ptr s, .int .i64 1, .int .u64 9] w12 fun e w' => ∃ p n c, e = .returned (.tuple #[.slice p n c, .int .i64 20]) ∧ w12.grownBy w' none) := by
          refine RDA.mono ?_
          rintro e w' ⟨v, er, out, rfl, hr, ho, hg⟩
          obtain ⟨rfl, rfl⟩ := (HRR.out hr).2 (by omega)
          obtain ⟨p, n, c, rfl, _⟩ := ho.vec.opened
          exact ⟨p, n, c, rfl, hg⟩
        clear RDA HRR hko
        go_wp2_with fail
        refine RD.out.mono ?_
        rintro e w13 ⟨p9, n9, c9, rfl, g9⟩
        have G9 : Hid (w12.grownBy w13 none) := g9
        clear g9 RD
        go_wp2_with fail
        refine (WHL.out _ G9.out).mono ?_
        rintro e w14 ⟨rfl, g9⟩
        have G10 : Hid (w12.grownBy w14 none) := grown_trans G9.out g9
        clear g9 G9 WHL
        go_wp2_with (first | (go_at_call 9; refine (sarray_yes (I.out.keep G10.out)).mono ?_; rintro e w9 ⟨rfl, hw9⟩; obtain rfl := hw9.symm; clear hw9) | fail)
        refine (ONS.out _ G10.out).mono ?_
        rintro e w9 ⟨rfl, hw9⟩
        obtain rfl := hw9.symm
        clear hw9
        go_wp2
        go_roundw
        case rel => exact ⟨i + 1, by omega, by go_num, F12, R5, I.out.keep G10.out, B.out.keep G10.out, ST2.out⟩
        case measure => simp [intOf]; omega
    · have i1 : ¬ (i : Int) < (np : Int) := by omega
      have GZ : Hid (w.grownBy wr none) := grown_trans G1.out B.out.grown
      go_wp2
      go_ret
      exact ⟨rfl, GZ.out⟩
end stripeAny
end Go.Proofs.YtfjlpifaaknmpaaGreat

/- An argument of the type hayricklaw08.Any read as data. -/
set_option linter.unusedSimpArgs false
set_option linter.unusedVariables false
set_option maxRecDepth 100000
namespace Go.Proofs.YtfjlpifaaknmpaaGreat
open Go.ChangeShapes Go.WideShapes Go.ChangeAt Go.RowKit

section
variable {H : Type} {enc : TypeId × Value → H}
theorem vec_trodA {W : World} {v : Value} {y : DataW H × List MemPlace} {fuel : Nat} (hf : DataW.trod enc Tryz.prog W 0 (fun _ => true) true fuel 40 [v] = some y)
    (hz : ∀ elems spare, y.1 = .slice elems spare → (elems.length + spare.length) * Tryz.prog.bytesOf 5 ≤ reachBytes) : ∃ xs, Vec W v xs := by
  rcases open_ints Tryz.underlying40 Tryz.underlying5 Tryz.cells5 hf with ⟨hcs, _⟩ | ⟨x, l, c, zs, hcs, _, hl, hm, hzz, hx, hcell, hwz⟩
  · simp at hcs
    subst hcs
    exact ⟨[], by simp, by simp, none, 0, rfl, Nat.le_refl _, by decide, fun h => absurd rfl h⟩
  · simp at hcs
    subst hcs
    simp only [if_true] at hzz
    have hb := hz _ _ (by rw [hx])
    rw [Tryz.bytes5] at hb
    simp only [lits, List.length_map, List.length_take, List.length_drop, reachBytes] at hb
    refine ⟨_, vec_of (zs := zs) hl hm (by omega) (by omega) hwz (by simp) (fun a ha c hc => ?_)⟩
    cases ha
    exact hcell c (by omega)
theorem Tryz.cellsAny8 : Tryz.prog.cellsOf 75 = 4 := by kernel_rfl
theorem any_arg8 {W : World} {v : Value} {d : DataW H} {p : List MemPlace} {base : Nat} (hv : Value.okWide Tryz.prog W .any base 75 v) (h : DataW.Trod enc Tryz.prog W 0 (fun _ => true) true 75 v d p)
    (hz : ∀ n ∈ d.weights Tryz.prog 75, n ≤ reachBytes) :
    ∃ (K M : Int) (X : Nat) (x : Value) (ps : List Nat), v = .agg #[.int .i64 K, .int .i64 M, .int .u8 (X : Int), x] ∧ X < 256 ∧ Vec W x ps := by
  obtain ⟨cs, rfl, hsz⟩ := okWide_struct Tryz.underlying75 hv
  have h8 := hsz.trans Tryz.cellsAny8
  obtain ⟨l⟩ := cs
  obtain ⟨fuel, hf⟩ := h
  obtain ⟨q, n, _, hx, hl, hlen, hff⟩ := DataW.trod_struct Tryz.underlying75 hf
  match l, h8 with
  | [c0, c1, c2, c3], _ =>
  match q, hlen with
  | [y0, y1, y2, y3], _ =>
  have t0 := hff 0 _ rfl
  have t1 := hff 1 _ rfl
  have t2 := hff 2 _ rfl
  have t3 := hff 3 _ rfl
  simp [Value.cells, Tryz.cellsI] at t0 t1
  simp [Value.cells, Tryz.cells5] at t2
  simp [Value.cells, Tryz.cells22] at t3
  simp at hx
  obtain ⟨rfl, rfl⟩ := hx
  simp [DataW.weights, Tryz.underlying75, DataW.weightsEach] at hz
  obtain ⟨K, e0, _, w0⟩ := DataW.trod_int Tryz.underlying3 t0
  obtain ⟨M, e1, _, w1⟩ := DataW.trod_int Tryz.underlying3 t1
  obtain ⟨X, e2, _, w2⟩ := DataW.trod_int Tryz.underlying5 t2
  simp at e0 e1 e2
  subst e0 e1 e2
  have b2 := byte_wf w2
  obtain ⟨X, rfl⟩ := Int.eq_ofNat_of_zero_le b2.1
  have key : ∀ {y : DataW H × List MemPlace}, (∀ n ∈ y.1.weights Tryz.prog 40, n ≤ reachBytes) → ∀ elems spare, y.1 = .slice elems spare → (elems.length + spare.length) * Tryz.prog.bytesOf 5 ≤ reachBytes := fun hw elems spare e => hw _ (by rw [e]; simp [DataW.weights, Tryz.underlying40])
  obtain ⟨ps, vp⟩ := vec_trodA t3 (key fun n hn => hz n (by simp [hn]))
  exact ⟨K, M, X, _, ps, rfl, by omega, vp⟩
end
end Go.Proofs.YtfjlpifaaknmpaaGreat

