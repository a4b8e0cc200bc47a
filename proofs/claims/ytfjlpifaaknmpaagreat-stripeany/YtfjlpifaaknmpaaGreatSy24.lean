/- Packed: Read8, Iter7, Cut7, CPut7. -/
import Derived.Deep.RegionHeld3
import Derived.BigRegion
import Derived.Test.YtfjlpifaaknmpaaGreatSy1
import Derived.Test.YtfjlpifaaknmpaaGreatSy2
import Derived.Test.YtfjlpifaaknmpaaGreatSy3
import Derived.Test.YtfjlpifaaknmpaaGreatSy4
import Derived.Test.YtfjlpifaaknmpaaGreatSy5
import Derived.Test.YtfjlpifaaknmpaaGreatSy6
import Derived.Test.YtfjlpifaaknmpaaGreatSy7
import Derived.Test.YtfjlpifaaknmpaaGreatSy8
import Derived.Test.YtfjlpifaaknmpaaGreatSy9
import Derived.Test.YtfjlpifaaknmpaaGreatSy10
import Derived.Test.YtfjlpifaaknmpaaGreatSy11
import Derived.Test.YtfjlpifaaknmpaaGreatSy12
import Derived.Test.YtfjlpifaaknmpaaGreatSy14
import Derived.Test.YtfjlpifaaknmpaaGreatSy16
import Derived.Test.YtfjlpifaaknmpaaGreatSy17
import Derived.Test.YtfjlpifaaknmpaaGreatSy18
import Derived.Test.YtfjlpifaaknmpaaGreatSy19
import Derived.Test.YtfjlpifaaknmpaaGreatSy20
import Derived.Test.YtfjlpifaaknmpaaGreatSy21
import Derived.Test.YtfjlpifaaknmpaaGreatSy22
import Derived.Test.YtfjlpifaaknmpaaGreatSy23
import Derived.RangeFuncNested
import Derived.RangeFuncBound
import Derived.RangeFuncCalls
import Derived.RangeFuncLeaves
import Derived.RangeFuncBox
import Derived.Shelf.Abstract
import Derived.WalkKit
import Derived.OwnWalkIn
import Derived.TacticsInMore
import Derived.LoopNIn
import Derived.LoopIn
import Derived.Maps.OwnIn
/- The contract of stripe.Read. -/
set_option linter.unusedSimpArgs false
set_option linter.unusedVariables false
set_option maxRecDepth 100000
namespace Go.Proofs.YtfjlpifaaknmpaaGreat
open Go.RowKit

theorem enters_rd : ∀ args w, (callFunc 56 args).run Tryz.prog w = .ok (.enter 56 args) w := by
  intro args w
  simp [go_sem, callFunc, Tryz.func56, Tryz.f56]

section
variable {F F' : Nat → Prop} {w w' : World} {s a : Nat} {g : SP.Geo} {R R' : AM.Raw}
/-- The walk of Read. -/
theorem rd_walk {B0 A D Sb m slot : Nat} {w4 : World} (h : SI F w s a g R) (h0 : R.off = false) (hs : slot < g.s) (T : RdI w B0 A D Sb s m w4 (.slice none 0 0) (.slice none 0 0) [] (.slice none 0 0) (.slice none 0 0) [] []) :
    Calls Tryz.prog 55 #[ptr s, .int .i64 (slot : Int), .func (.func 56) #[] #[.pointer (some ⟨B0, 0, none⟩), .pointer (some ⟨A, 0, none⟩), .pointer (some ⟨D, 0, none⟩), .pointer (some ⟨Sb, 0, none⟩)]] w4 fun e w' =>
      e = .returned (.tuple #[]) ∧ ∃ va vt us, RdI w B0 A D Sb s m w' va va (SP.found R g slot m) vt vt us (SP.told R g slot (SP.found R g slot m)) := by
  have hk1 := h.ok.k1
  refine (swalk_any (g := g) (R := R) (F := F) (a := a) (B := w.heap.size) h0 hs enters_rd
    (fun j w' => (SP.hits R g slot m j).length < g.k ∧ j ≤ g.n ∧ ∃ va vt us, RdI w B0 A D Sb s m w' va va (SP.hits R g slot m j) vt vt us (SP.told R g slot (SP.hits R g slot m j)))
    (fun w' => ∃ va vt us, RdI w B0 A D Sb s m w' va va (SP.found R g slot m) vt vt us (SP.told R g slot (SP.found R g slot m)))
    (fun j => decide ((SP.hits R g slot m (j + 1)).length < g.k)) ?_ ?_ ?_ ?_ ?_ ?_).mono ?_
  · rintro j w1 ⟨_, _, _, _, _, T1⟩
    exact h.keep T1.gr
  · rintro j w1 ⟨_, _, _, _, _, T1⟩
    exact T1.gr.size
  · rintro j w1 w2 ⟨h1, h2, va, vt, us, T1⟩ g1
    exact ⟨h1, h2, va, vt, us, T1.keep g1⟩
  · rintro j w1 hj hy ⟨h1, h2, va, vt, us, T1⟩
    have e : SP.hits R g slot m (j + 1) = SP.hits R g slot m j := by rw [SP.hits_succ]; simp [SP.has, hy]
    rw [e]
    exact ⟨h1, by omega, va, vt, us, T1⟩
  · rintro j w1 v hj hy ⟨h1, h2, va, vt, us, T1⟩ hv
    obtain ⟨pv, nv, cv, rfl, _⟩ := hv.vec.opened
    have HK : ∀ w', w.grownBy w' none → w'.cell? ⟨s, 1, none⟩ = some (.int .i64 (g.k : Int)) := fun w' g' => (h.keep g').at2
    by_cases hm : SP.numD R g slot j = m
    · have e : SP.hits R g slot m (j + 1) = SP.hits R g slot m j ++ [j] := by rw [SP.hits_succ]; simp [SP.has, hy, hm]
      obtain ⟨vp, vn, vc, rfl, _⟩ := T1.mt.mat.row.opened
      have hsame := T1.mt.same
      rw [SP.told_len] at hsame
      have hle := SP.hits_len_le R g slot m j
      have hn255 := h.ok.n255
      rw [hm]
      refine (rd_yes T1 (j := j) (k := g.k) hv (by omega) (by omega) HK).mono ?_
      rintro e2 w2 ⟨rfl, va', vt', us', T2⟩
      refine ⟨by rw [e], ?_⟩
      rw [← e, ← SP.told_app, ← e] at T2
      by_cases hc : (SP.hits R g slot m (j + 1)).length < g.k
      · rw [if_pos (decide_eq_true hc)]
        exact ⟨hc, by omega, va', vt', us', T2⟩
      · rw [if_neg (by simpa using hc)]
        have hfe : SP.hits R g slot m (j + 1) = SP.found R g slot m := SP.hits_take (by omega) (by
          have : (SP.hits R g slot m (j + 1)).length = (SP.hits R g slot m j).length + 1 := by rw [e]; simp
          omega)
        rw [hfe] at T2
        exact ⟨va', vt', us', T2⟩
    · have e : SP.hits R g slot m (j + 1) = SP.hits R g slot m j := by rw [SP.hits_succ]; simp [SP.has, hm]
      refine (rd_no T1 (j := j) (k := g.k) hm HK).mono ?_
      rintro e2 w2 ⟨rfl, T2⟩
      refine ⟨by rw [e], ?_⟩
      rw [if_pos (by rw [e]; exact decide_eq_true h1)]
      rw [e]
      exact ⟨h1, by omega, va, vt, us, T2⟩
  · exact ⟨by rw [SP.hits_zero]; simp; omega, by omega, _, _, _, T⟩
  · rintro e w' ⟨rfl, h1⟩
    refine ⟨rfl, ?_⟩
    rcases h1 with ⟨h1, _, va, vt, us, T1⟩ | h1
    · have hfe : SP.hits R g slot m g.n = SP.found R g slot m := (List.take_of_length_le (by omega)).symm
      rw [hfe] at T1
      exact ⟨va, vt, us, T1⟩
    · exact h1

theorem sread_err (h : SI F w s a g R) {slot : Int} {m : Nat} (hy : SP.why R g slot ≠ 0) :
    Calls Tryz.prog 14 #[ptr s, .int .i64 slot, .int .u64 (m : Int)] w fun e w' => e = .returned (.tuple #[.slice none 0 0, .int .i64 (SP.why R g slot : Int)]) ∧ w.grownBy w' none := by
  obtain ⟨y, hy1⟩ : ∃ y, y = SP.why R g slot := ⟨_, rfl⟩
  have HR : Hid (∀ w', w.grownBy w' none → Calls Tryz.prog 45 #[ptr s, .int .i64 slot] w' fun e w'' => e = .returned (.int .i64 (y : Int)) ∧ w'' = w') := fun w' g1 => by rw [hy1]; exact sreach_yes (h.keep g1) slot
  rw [← hy1] at hy ⊢
  have hne : ((y : Int) != 0) = true := neb_yes (b := 0) hy
  have HG : Hid (∀ A B T T', w.grownBy ((w.alloc (.cells A T)).alloc (.cells B T')) none) := fun A B T T' => gb_alloc (World.grownBy_alloc w _ none) _
  clear h hy hy1
  go_enter Tryz.func14, Tryz.ntmps14
  go_wp2_with (go_at_call 45; refine (HR.out _ (HG.out _ _ _ _)).mono ?_; rintro e w9 ⟨rfl, hw9⟩; obtain rfl := hw9.symm; clear hw9)
  go_ret2
  exact ⟨rfl, HG.out _ _ _ _⟩
theorem sread_arg (h : SI F w s a g R) {slot : Int} (hy : SP.why R g slot = 0) :
    Calls Tryz.prog 14 #[ptr s, .int .i64 slot, .int .u64 0] w fun e w' => e = .returned (.tuple #[.slice none 0 0, .int .i64 1]) ∧ w.grownBy w' none := by
  have HR : Hid (∀ w', w.grownBy w' none → Calls Tryz.prog 45 #[ptr s, .int .i64 slot] w' fun e w'' => e = .returned (.int .i64 0) ∧ w'' = w') := fun w' g1 => sreach_at (h.keep g1) (by rw [hy]; rfl)
  have HG : Hid (∀ A B T T', w.grownBy ((w.alloc (.cells A T)).alloc (.cells B T')) none) := fun A B T T' => gb_alloc (World.grownBy_alloc w _ none) _
  clear h hy
  go_enter Tryz.func14, Tryz.ntmps14
  go_wp2_with (go_at_call 45; refine (HR.out _ (HG.out _ _ _ _)).mono ?_; rintro e w9 ⟨rfl, hw9⟩; obtain rfl := hw9.symm; clear hw9)
  go_ret2
  exact ⟨rfl, HG.out _ _ _ _⟩
theorem rdi_start (w : World) (s m : Nat) : RdI w (w.heap.size + 1) (w.heap.size + 1 + 1) (w.heap.size + 1 + 1 + 1) w.heap.size s m ((((w.alloc (.cells #[ptr s] 27)).alloc (.cells #[.int .u64 (m : Int)] 39)).alloc (.cells #[.slice none 0 0] 95)).alloc (.cells #[.slice none 0 0] 87)) (.slice none 0 0) (.slice none 0 0) [] (.slice none 0 0) (.slice none 0 0) [] [] := by
  have b1 := Boxed.new w 27 (ptr s)
  have b2 := Boxed.new (w.alloc (.cells #[ptr s] 27)) 39 (.int .u64 (m : Int))
  have b3 := Boxed.new ((w.alloc (.cells #[ptr s] 27)).alloc (.cells #[.int .u64 (m : Int)] 39)) 95 (.slice none 0 0)
  have b4 := Boxed.new (((w.alloc (.cells #[ptr s] 27)).alloc (.cells #[.int .u64 (m : Int)] 39)).alloc (.cells #[.slice none 0 0] 95)) 87 (.slice none 0 0)
  rw [World.size_alloc] at b2
  rw [World.size_alloc, World.size_alloc] at b3
  rw [World.size_alloc, World.size_alloc, World.size_alloc] at b4
  exact ⟨(b2.alloc _).alloc _, b3.alloc _, b4, ((b1.alloc _).alloc _).alloc _, IOwn.nil _ _, RMat.nil _ _ _, by omega, by omega, gb_alloc (gb_alloc (gb_alloc (World.grownBy_alloc w _ none) _) _) _⟩

set_option maxHeartbeats 6400000 in
theorem sread_main (h : SI F w s a g R) {slot m : Nat} (hy : SP.why R g (slot : Int) = 0) (hm : m ≠ 0) :
    Calls Tryz.prog 14 #[ptr s, .int .i64 (slot : Int), .int .u64 (m : Int)] w fun e w' => ∃ v er out, e = .returned (.tuple #[v, .int .i64 ((er : Nat) : Int)]) ∧ SP.RdP R g (slot : Int) m out er ∧ Own w.heap.size w' v out ∧ w.grownBy w' none := by
  have HR : Hid (∀ w', w.grownBy w' none → Calls Tryz.prog 45 #[ptr s, .int .i64 (slot : Int)] w' fun e w'' => e = .returned (.int .i64 0) ∧ w'' = w') := fun w' g1 => sreach_at (h.keep g1) (by rw [hy]; rfl)
  obtain ⟨q0, q1, q2⟩ := SP.why_zero hy
  have HW : Hid (∀ B0 A D Sb w4, RdI w B0 A D Sb s m w4 (.slice none 0 0) (.slice none 0 0) [] (.slice none 0 0) (.slice none 0 0) [] [] → Calls Tryz.prog 55 #[ptr s, .int .i64 (slot : Int), .func (.func 56) #[] #[.pointer (some ⟨B0, 0, none⟩), .pointer (some ⟨A, 0, none⟩), .pointer (some ⟨D, 0, none⟩), .pointer (some ⟨Sb, 0, none⟩)]] w4 fun e w' =>
      e = .returned (.tuple #[]) ∧ ∃ va vt us, RdI w B0 A D Sb s m w' va va (SP.found R g slot m) vt vt us (SP.told R g slot (SP.found R g slot m))) := fun B0 A D Sb w4 T => rd_walk h q0 (by omega) T
  have HG : Hid (∀ A B T T', w.grownBy ((w.alloc (.cells A T)).alloc (.cells B T')) none) := fun A B T T' => gb_alloc (World.grownBy_alloc w _ none) _
  have HS : Hid (∀ w', w.grownBy w' none → w'.cell? ⟨s, 1, none⟩ = some (.int .i64 (g.k : Int)) ∧ w'.cell? ⟨s, 2, none⟩ = some (.int .i64 (g.n : Int))) := fun w' g' => ⟨(h.keep g').at2, (h.keep g').at3⟩
  have T0 : Hid (RdI w _ _ _ _ s m _ _ _ _ _ _ _ _) := rdi_start w s m
  have hne : ((m : Int) == 0) = false := eqb_no (b := 0) hm
  have HY : Hid (SP.why R g (slot : Int) = 0 ∧ m ≠ 0 ∧ g.Ok R) := ⟨hy, hm, h.ok⟩
  have HP : Hid (SP.Pick R g slot (SP.found R g slot m)) := SP.found_pick R g slot m
  have HFL : Hid (g.k ≤ (SP.hits R g slot m g.n).length → (SP.found R g slot m).length = g.k) := SP.found_len
  have HFS : Hid (¬ g.k ≤ (SP.hits R g slot m g.n).length → (SP.found R g slot m).length < g.k) := fun hh => by simp [SP.found]; omega
  clear h hy hm q0 q1 q2
  go_enter Tryz.func14, Tryz.ntmps14
  go_wp2_with (first
    | (go_at_call 45; refine (HR.out _ (HG.out _ _ _ _)).mono ?_; rintro e w9 ⟨rfl, hw9⟩; obtain rfl := hw9.symm; clear hw9)
    | (go_at_call 55; refine (HW.out _ _ _ _ _ T0.out).mono ?_; rintro e w5 ⟨rfl, va, vt, us, t5⟩; obtain ⟨ap, an, ac, rfl, ha⟩ := t5.ia.ivec.opened; obtain ⟨tp, tn, tc, rfl, ht⟩ := t5.mt.mat.row.opened; have T5 : Hid (RdI w _ _ _ _ s m w5 (.slice ap an ac) (.slice ap an ac) (SP.found R g slot m) (.slice tp tn tc) (.slice tp tn tc) us (SP.told R g slot (SP.found R g slot m))) := t5; have HAN : Hid (an = (SP.found R g slot m).length) := (by show _ = _; rw [ha, SP.ints_len]); clear t5 ha ht))
  have HC5 : Hid (∀ w', w5.grownBy w' none → w'.cell? ⟨w.heap.size + 1 + 1, 0, none⟩ = some (.slice ap an ac) ∧ w'.cell? ⟨w.heap.size + 1 + 1 + 1, 0, none⟩ = some (.slice tp tn tc) ∧ w'.cell? ⟨w.heap.size, 0, none⟩ = some (ptr s) ∧ w'.cell? ⟨s, 1, none⟩ = some (.int .i64 (g.k : Int)) ∧ w'.cell? ⟨s, 2, none⟩ = some (.int .i64 (g.n : Int))) := fun w' g' => ⟨(T5.out.keep g').ba.cell, (T5.out.keep g').bd.cell, (T5.out.keep g').bs.cell, HS.out w' (T5.out.keep g').gr⟩
  clear T0 HW HR HG HS
  go_region_held3 (fun w' => w'.cell? ⟨w.heap.size + 1 + 1, 0, none⟩ = some (.slice ap an ac) ∧ w'.cell? ⟨w.heap.size, 0, none⟩ = some (ptr s) ∧ w'.cell? ⟨s, 1, none⟩ = some (.int .i64 (g.k : Int))) (exact ⟨(HC5.out _ (grown_drewN w5 1)).1, (HC5.out _ (grown_drewN w5 1)).2.2.1, (HC5.out _ (grown_drewN w5 1)).2.2.2.1⟩) (fail)
  by_cases hk : g.k ≤ (SP.hits R g slot m g.n).length
  · have hfl := HFL.out hk
    have i1 : ¬ (an : Int) < (g.k : Int) := by have := HAN.out; omega
    have DEC : Hid (∀ w', w.grownBy w' none → w5.grownBy w' none → Calls Tryz.prog 57 #[.int .i64 (g.k : Int), .int .i64 (g.n : Int), .slice ap an ac, .slice tp tn tc] w' fun e w'' => ∃ p m' c us' D, e = .returned (.tuple #[.slice p m' c, .int .i64 0]) ∧ OwnMat w'.heap.size w'' (.slice p m' c) us' D ∧ Shape D g.k 448 ∧ SP.RdP R g (slot : Int) m D.flatten 0 ∧ w'.grownBy w'' none) := fun w' _ g1 => by
      have T6 := T5.out.keep g1
      have hok := HP.out.ok HY.out.2.2
      have hL : ((SP.told R g slot (SP.found R g slot m)).getD 0 []).length = 448 := HP.out.row (by have := HY.out.2.2.k1; omega)
      refine (decode_yes (k := g.k) (n := g.n) T6.ia.ivec T6.mt.mat hok (by rw [SP.ints_len]; omega)).mono ?_
      rintro e w2 ⟨p, m', c, us', D, rfl, om, _, sh, tl, gg⟩
      rw [hL] at sh
      refine ⟨p, m', c, us', D, rfl, om, sh, ?_, gg⟩
      unfold SP.RdP
      rw [Int.toNat_natCast]
      refine .inr (.inr (.inr ⟨HY.out.1, HY.out.2.1, hk, rfl, D, 0, .inr (.inr ⟨hok, by rw [SP.ints_len]; omega, rfl, ?_⟩), rfl⟩))
      rw [Int.toNat_natCast]
      exact tl
    have HKK : Hid (1 ≤ g.k ∧ g.k ≤ 255) := ⟨HY.out.2.2.k1, by have := HY.out.2.2.kn; have := HY.out.2.2.n255; omega⟩
    clear HP HFL HFS hfl hk
    go_wp2_with fail
    go_region_held3 (fun w' => w'.cell? ⟨w.heap.size + 1 + 1, 0, none⟩ = some (.slice ap an ac) ∧ w'.cell? ⟨w.heap.size + 1 + 1 + 1, 0, none⟩ = some (.slice tp tn tc) ∧ w'.cell? ⟨w.heap.size, 0, none⟩ = some (ptr s) ∧ w'.cell? ⟨s, 1, none⟩ = some (.int .i64 (g.k : Int)) ∧ w'.cell? ⟨s, 2, none⟩ = some (.int .i64 (g.n : Int))) (first | exact HC5.out _ (grown_trans (grown_drewN w5 1) (grown_drewN _ 1)) | exact HC5.out _ (grown_trans (grown_trans (grown_drewN w5 1) (grown_drewN _ 1)) G7.out))
      ((go_at_call 57; refine (DEC.out _ (grown_trans T5.out.gr (grown_trans (grown_drewN w5 1) (grown_drewN _ 1))) (grown_trans (grown_drewN w5 1) (grown_drewN _ 1))).mono ?_; rintro e w7 ⟨p7, m7, c7, us7, D7, rfl, om7, sh7, rp7, g7⟩; have M7 : Hid (Mat w7 (.slice p7 m7 c7) us7 D7) := om7.mat; have S7 : Hid (Shape D7 g.k 448 ∧ SP.RdP R g (slot : Int) m D7.flatten 0) := ⟨sh7, rp7⟩; have G7 : Hid (((w5.drewN 1).drewN 1).grownBy w7 none) := g7; clear om7 sh7 rp7 g7))
    have GW : Hid (w.grownBy w7 none) := grown_trans (grown_trans T5.out.gr (grown_trans (grown_drewN w5 1) (grown_drewN _ 1))) G7.out
    have CC : Hid (Calls Tryz.prog 58 #[.slice p7 m7 c7] w7 fun e w' => ∃ v, e = .returned v ∧ Own w7.heap.size w' v D7.flatten ∧ w7.grownBy w' none) := by
      have hl := S7.out.1.len
      have hr := S7.out.1.row
      have := HKK.out
      exact concat_yes M7.out (by omega) (by omega) (fun j hj => hr j (by omega))
    clear DEC HC5 T5
    go_wp2_with (go_at_call 58; refine CC.out.mono ?_; rintro e w8 ⟨v8, rfl, o8, g8⟩; have O8 : Hid (Own w.heap.size w8 v8 D7.flatten) := o8.down GW.out.size; have G8 : Hid (w.grownBy w8 none) := grown_trans GW.out g8; clear o8 g8)
    go_ret2
    exact ⟨_, 0, _, rfl, S7.out.2, O8.out, G8.out⟩
  · have hfs := HFS.out hk
    have i1 : (an : Int) < (g.k : Int) := by have := HAN.out; omega
    have HK : Hid (¬ g.k ≤ (SP.hits R g slot m g.n).length) := hk
    clear hfs hk HP HFL HFS
    go_wp2_with fail
    go_ret2
    refine ⟨_, 20, [], rfl, ?_, Own.nil _ _, grown_trans T5.out.gr (grown_drewN w5 1)⟩
    unfold SP.RdP
    rw [Int.toNat_natCast]
    exact .inr (.inr (.inl ⟨HY.out.1, HY.out.2.1, by have := HK.out; omega, rfl, rfl⟩))

/-- What Read answers, whatever is asked. -/
theorem sread_all (h : SI F w s a g R) (slot : Int) (m : Nat) :
    Calls Tryz.prog 14 #[ptr s, .int .i64 slot, .int .u64 (m : Int)] w fun e w' => ∃ v er out, e = .returned (.tuple #[v, .int .i64 ((er : Nat) : Int)]) ∧ SP.RdP R g slot m out er ∧ Own w.heap.size w' v out ∧ w.grownBy w' none := by
  by_cases hy : SP.why R g slot = 0
  · by_cases hm : m = 0
    · subst hm
      refine (sread_arg h hy).mono ?_
      rintro e w' ⟨rfl, g1⟩
      exact ⟨_, 1, [], rfl, .inr (.inl ⟨hy, rfl, rfl, rfl⟩), Own.nil _ _, g1⟩
    · obtain ⟨_, q1, _⟩ := SP.why_zero hy
      obtain ⟨n, rfl⟩ : ∃ n : Nat, slot = (n : Int) := ⟨slot.toNat, by omega⟩
      exact sread_main h hy hm
  · refine (sread_err h hy).mono ?_
    rintro e w' ⟨rfl, g1⟩
    exact ⟨_, _, [], rfl, .inl ⟨hy, rfl, rfl⟩, Own.nil _ _, g1⟩
end
end Go.Proofs.YtfjlpifaaknmpaaGreat

/- slices.Chunk over bytes: loads of 56. -/
set_option maxRecDepth 100000
namespace Go.Proofs.YtfjlpifaaknmpaaGreat
open Go.RowKit Go.Shelf
attribute [local go_sem] Oper.semAt_some

/-- A place, brought below m. -/
def cl (m x : Nat) : Nat := min x (m - 1)
theorem cl_lt {m x : Nat} (h : 0 < m) : cl m x < m := by unfold cl; omega
theorem cl_self {m x : Nat} (h : x < m) : cl m x = x := by unfold cl; omega
/-- What the iterator hands on. -/
def encL_c (b off m x : Nat) : Array Value := #[.slice (some ⟨b, off + 56 * cl m x, none⟩) 56 56]
/-- What a round keeps: the two captured variables. -/
def Kp7 (Bs Bn : Nat) (W W' : World) : Prop := W'.heap[Bs]? = W.heap[Bs]? ∧ W'.heap[Bn]? = W.heap[Bn]?

theorem chunk_any (w : World) (p : Option Addr) (n c : Nat) :
    Calls Tryz.prog 140 #[.slice p n c, .int .i64 56] w fun e w' => e = .returned (.func (.func 158) #[] #[.pointer (some ⟨w.heap.size, 0, none⟩), .pointer (some ⟨w.heap.size + 1, 0, none⟩)]) ∧ w' = (w.alloc (.cells #[.slice p n c] 40)).alloc (.cells #[.int .i64 56] 3) := by
  go_enter Tryz.func140, Tryz.ntmps140
  go_wp2
  go_ret
  exact ⟨rfl, rfl⟩

theorem slice_lo7 {b off n c lo : Nat} (h3 : lo < n) (hc : n ≤ c) (W : World) : (Instr.slice 40 (.slice (some ⟨b, off, none⟩) n c) (some (.int .i64 (lo : Int))) none none).run Tryz.prog W = .ok (.slice (some ⟨b, off + lo, none⟩) (n - lo) (c - lo)) W := by
  obtain ⟨i0, hi0, hz0, hz1, hz2⟩ := info_parts Tryz.info5
  have e2 : (Instr.sliceBound (.int .i64 (lo : Int)) n .sliceB).run Tryz.prog W = .ok lo W := by
    have := run_sliceBound (P := Tryz.prog) W .i64 (lo : Int) n .sliceB (by omega) (by omega)
    simpa using this
  have h4 : ¬ c = lo := by omega
  simp [Instr.slice, run_underlying Tryz.underlying40, Instr.sliceBounds, e2, sizeOf, typeInfo, hi0, hz1, h4, add_off]
theorem slice_lhm {b off n c lo hi : Nat} (h2 : hi ≤ c) (h3 : lo < hi) (W : World) : (Instr.slice 40 (.slice (some ⟨b, off, none⟩) n c) (some (.int .i64 (lo : Int))) (some (.int .i64 (hi : Int))) (some (.int .i64 (hi : Int)))).run Tryz.prog W = .ok (.slice (some ⟨b, off + lo, none⟩) (hi - lo) (hi - lo)) W := by
  obtain ⟨i0, hi0, hz0, hz1, hz2⟩ := info_parts Tryz.info5
  have e0 : (Instr.sliceBound (.int .i64 (hi : Int)) c .slice3Acap).run Tryz.prog W = .ok hi W := by
    have := run_sliceBound (P := Tryz.prog) W .i64 (hi : Int) c .slice3Acap (by omega) (by omega)
    simpa using this
  have e1 : (Instr.sliceBound (.int .i64 (hi : Int)) hi .slice3B).run Tryz.prog W = .ok hi W := by
    have := run_sliceBound (P := Tryz.prog) W .i64 (hi : Int) hi .slice3B (by omega) (by omega)
    simpa using this
  have e2 : (Instr.sliceBound (.int .i64 (lo : Int)) hi .slice3C).run Tryz.prog W = .ok lo W := by
    have := run_sliceBound (P := Tryz.prog) W .i64 (lo : Int) hi .slice3C (by omega) (by omega)
    simpa using this
  have h4 : ¬ hi = lo := by omega
  simp [Instr.slice, run_underlying Tryz.underlying40, Instr.sliceBounds, e0, e1, e2, sizeOf, typeInfo, hi0, hz1, h4, add_off]

set_option maxRecDepth 100000 in
set_option maxHeartbeats 2000000 in
theorem chunk1_in (n : Nat) (hn : 1 ≤ n) (l Bs Bn b off N cap m : Nat) (hN : N = 56 * m) (hm : m ≤ 64) (hcap : N ≤ cap) (J Jx : List Nat → World → Prop)
    (hY : ∀ pre x W, J pre W → pre.length < m → YieldAt Fence.wide (n - 1) Tryz.prog l (encL_c b off m x) W fun e W' =>
      (e = .returned (.bool true) ∧ J (pre ++ [x]) W' ∧ Kp7 Bs Bn W W') ∨ (e = .returned (.bool false) ∧ Jx (pre ++ [x]) W'))
    (W : World) (hBs : Boxed W Bs 40 (.slice (some ⟨b, off, none⟩) N cap)) (hBn : Boxed W Bn 3 (.int .i64 56)) (hJd : ∀ pre W, J pre W → J pre W.drew) (h0 : J [] W) :
    CallsIn Fence.wide n Tryz.prog 158 #[.func (.yield l) #[] #[], .pointer (some ⟨Bs, 0, none⟩), .pointer (some ⟨Bn, 0, none⟩)] W fun e W' => (∃ v, e = .returned v) ∧
      ((∃ ys, ys = List.range m ∧ J ys W') ∨ (∃ pre, (∃ k, k ≤ m ∧ pre = List.range k) ∧ Jx pre W')) := by
  have HN : Hid (N = 56 * m ∧ N ≤ cap) := ⟨hN, hcap⟩
  have HY : Hid _ := hY
  clear hN hcap hY
  refine callsIn_of_wp Tryz.func158 rfl trivial ?_ rfl
  simp only [Tryz.ntmps158, List.size_toArray, List.length_cons, List.length_nil, Nat.reduceAdd, Nat.reduceSub, Array.replicate_succ, Array.replicate_zero, List.push_toArray, List.append_toArray, List.nil_append, List.cons_append]
  gi_wp2
  gi_loopw [4] (fun i wr => ∃ k : Nat, k ≤ m ∧ i = .int .i64 (56 * (k : Int)) ∧ Hid (J (List.range k) wr) ∧ Hid (Boxed wr Bs 40 (.slice (some ⟨b, off, none⟩) N cap) ∧ Boxed wr Bn 3 (.int .i64 56)))
    (fun i _ => 56 * m - (intOf i).toNat)
  case atStart => exact ⟨0, Nat.zero_le _, rfl, h0, hBs, hBn⟩
  case round =>
    clear hBs hBn h0
    obtain ⟨k, hk, rfl, hJs, hB⟩ := hrel
    have c1 := hB.out.1.cell
    by_cases hlt : k < m
    · have i1 : 56 * (k : Int) < (N : Int) := by have := HN.out; omega
      have HY2 : Hid (YieldAt Fence.wide (n - 1) Tryz.prog l (encL_c b off m k) wr.drew fun e W' => (e = .returned (.bool true) ∧ J (List.range k ++ [k]) W' ∧ Kp7 Bs Bn wr.drew W') ∨ (e = .returned (.bool false) ∧ Jx (List.range k ++ [k]) W')) := HY.out _ _ _ (hJd _ _ hJs.out) (by simpa using hlt)
      have s1 := fun W => slice_lo7 (b := b) (off := off) (n := N) (c := cap) (lo := 56 * k) (by have := HN.out; omega) HN.out.2 W
      rw [show ((56 * k : Nat) : Int) = 56 * (k : Int) by omega] at s1
      obtain ⟨R, hR⟩ : ∃ R, R = N - 56 * k := ⟨_, rfl⟩
      rw [← hR] at s1
      have iR : ¬ (R : Int) < 56 := by have := HN.out; omega
      have HB : Hid (∀ w', wr.grownBy w' none → w'.cell? ⟨Bs, 0, none⟩ = some (.slice (some ⟨b, off, none⟩) N cap) ∧ w'.cell? ⟨Bn, 0, none⟩ = some (.int .i64 56)) := fun w' g => ⟨g.cell hB.out.1.cell (by simp), g.cell hB.out.2.cell (by simp)⟩
      clear hR hJs
      gi_wp2
      refine wpIn_wide.2 ?_
      go_region_held3 (fun w' => w'.cell? ⟨Bs, 0, none⟩ = some (.slice (some ⟨b, off, none⟩) N cap) ∧ w'.cell? ⟨Bn, 0, none⟩ = some (.int .i64 56)) (first | exact HB.out _ (grown_drewN _ 1)) (fail)
      clear s1 i1
      have eL : encL_c b off m k = #[.slice (some ⟨b, off + 56 * k, none⟩) 56 56] := by simp [encL_c, cl_self hlt]
      rw [eL] at HY2
      obtain ⟨fn, tmps, assign, body, hy, hR⟩ := HY2.out
      have s2 := fun W => slice_lhm (b := b) (off := off) (n := N) (c := cap) (lo := 56 * k) (hi := 56 * k + 56) (by have := HN.out; omega) (by omega) W
      rw [show ((56 * k + 56 : Nat) : Int) = 56 * (k : Int) + 56 by omega, show ((56 * k : Nat) : Int) = 56 * (k : Int) by omega, show 56 * k + 56 - 56 * k = 56 by omega] at s2
      have d1 : wr.drew.cell? ⟨Bs, 0, none⟩ = some (.slice (some ⟨b, off, none⟩) N cap) := c1
      clear HY2 eL c1
      gi_wp2
      refine hR.mono ?_
      rintro e W3 (⟨rfl, hJ3, hk3⟩ | ⟨rfl, hJx3⟩)
      · have HJ3 : Hid (J (List.range k ++ [k]) W3) := hJ3
        have hB3 : Hid (Boxed W3 Bs 40 (.slice (some ⟨b, off, none⟩) N cap) ∧ Boxed W3 Bn 3 (.int .i64 56)) := ⟨hk3.1.trans hB.out.1, hk3.2.trans hB.out.2⟩
        have c3 := hB3.out.2.cell
        clear hJ3 hk3 hy hR s2 d1
        gi_wp2
        go_roundw
        case rel => exact ⟨k + 1, by omega, by go_num, by rw [List.range_succ]; exact HJ3, hB3⟩
        case measure => simp [intOf]; omega
      · have HJ3 : Hid (Jx (List.range k ++ [k]) W3) := hJx3
        clear hJx3 hy hR s2 d1
        gi_wp2
        refine bodyPost_ret (results_none rfl _ _ _) rfl ?_
        exact ⟨⟨_, rfl⟩, .inr ⟨_, ⟨k + 1, by omega, (List.range_succ).symm⟩, HJ3.out⟩⟩
    · obtain rfl : k = m := by omega
      have i1 : ¬ 56 * (k : Int) < (N : Int) := by have := HN.out; omega
      gi_wp2
      go_end0
      exact ⟨⟨_, rfl⟩, .inl hJs.out⟩
end Go.Proofs.YtfjlpifaaknmpaaGreat

/- The contract of chunk.cut: a loop over slices.Chunk. -/
set_option maxRecDepth 100000
namespace Go.Proofs.YtfjlpifaaknmpaaGreat
open Go.RowKit Go.Shelf
attribute [local go_sem] Oper.semAt_some

theorem chunk_stops (n : Nat) (hn : 1 ≤ n) (Bs Bn b off N cap m : Nat) (hN : N = 56 * m) (hm : m ≤ 64) (hcap : N ≤ cap) (w : World) (hBs : Boxed w Bs 40 (.slice (some ⟨b, off, none⟩) N cap)) (hBn : Boxed w Bn 3 (.int .i64 56)) :
    SeqStopsK Fence.wide n Tryz.prog 158 #[.pointer (some ⟨Bs, 0, none⟩), .pointer (some ⟨Bn, 0, none⟩)] (fun x : Nat => encL_c b off m x) (Kp7 Bs Bn) (fun ys => ys = List.range m) (fun pre => ∃ k, k ≤ m ∧ pre = List.range k) m w := fun l J Jx W hW hJ _ hY h0 =>
  chunk1_in n hn l Bs Bn b off N cap m hN hm hcap J Jx hY W ((hW.block Bs hBs.lt).trans hBs) ((hW.block Bn hBn.lt).trans hBn) (fun pre W h => hJ pre W _ none h (grown_drewN W 1) (by simp)) h0

/-- The rows behind the rounds pre. -/
def rowsOf (n : Nat) (xs : List Nat) (m : Nat) (pre : List Nat) : List (List Nat) := pre.map fun i => SM.sec n (CM.ld xs (cl m i))
theorem rowsOf_all (n : Nat) (xs : List Nat) (m : Nat) : rowsOf n xs m (List.range m) = CM.secs n xs m := by
  unfold rowsOf CM.secs
  refine List.map_congr_left fun i hi => ?_
  rw [cl_self (List.mem_range.1 hi)]

/-- What stands between two rounds. -/
structure CutI (w : World) (n m : Nat) (xs : List Nat) (M b off N cap : Nat) (pre : List Nat) (W : World) (dv : Value) (us : List Value) : Prop where
  made : Boxed W M 87 dv
  mat : RMat 123 w.heap.size W dv us (rowsOf n xs m pre)
  num : Boxed W w.heap.size 39 (.int .u64 (n : Int))
  bs : Boxed W (M + 1) 40 (.slice (some ⟨b, off, none⟩) N cap)
  bn : Boxed W (M + 2) 3 (.int .i64 56)
  ne : dv.ownBlock ≠ some (M + 1)
  lM : w.heap.size ≤ M
  gr : w.grownBy W none

theorem CutI.kept {w : World} {n m : Nat} {xs : List Nat} {M b off N cap : Nat} {pre : List Nat} {W W' : World} {dv : Value} {us : List Value} {row : Option Nat} (h : CutI w n m xs M b off N cap pre W dv us) (g : W.grownBy W' row)
    (hr : ∀ r, row = some r → w.heap.size ≤ r ∧ ∃ o : Obj, W.heap[r]? = some o ∧ o.isCells = false) : CutI w n m xs M b off N cap pre W' dv us := by
  have bx : ∀ {B : Nat} {t : TypeId} {v : Value}, Boxed W B t v → Boxed W' B t v := fun hb => hb.kept g fun e => by
    obtain ⟨_, o, ho, hc⟩ := hr _ e.symm
    rw [show W.heap[_]? = _ from hb] at ho
    cases ho; cases hc
  refine ⟨bx h.made, h.mat.kept g (fun r e c f => ?_), bx h.num, bx h.bs, bx h.bn, h.ne, h.lM, grown_new h.gr g (fun r e => (hr r e).1)⟩
  obtain ⟨_, o, ho, hc⟩ := hr r e
  rw [ho]
  constructor <;> (intro e2; injection e2 with e2; subst e2; cases hc)
theorem CutI.own (w : World) (n m : Nat) (xs : List Nat) (M b off N cap B : Nat) (hB : w.heap.size ≤ B) : OwnFrom B (fun (pre : List Nat) W => ∃ dv us, CutI w n m xs M b off N cap pre W dv us) :=
  fun _ _ _ _ ⟨dv, us, h⟩ g hr => ⟨dv, us, h.kept g fun r e => ⟨Nat.le_trans hB (hr r e).1, (hr r e).2⟩⟩

theorem RMat.notBox {T t : TypeId} (h1 : t ≠ 40) {B D : Nat} {w : World} {v u : Value} {us : List Value} {X : List (List Nat)} (h : RMat T B w v us X) (hb : Boxed w D t u) : some D ≠ v.ownBlock := hb.not_row h1 h.row

/-- A row more: the append, and the store into the variable. -/
theorem CutI.more {w : World} {n m : Nat} {xs : List Nat} {M b off N cap : Nat} {pre : List Nat} {W w5 : World} {dv v' u : Value} {us : List Value} {x : Nat} (C : CutI w n m xs M b off N cap pre W dv us)
    (o : Arr 123 w.heap.size W u (SM.sec n (CM.ld xs (cl m x)))) (hl : (us.length + 1) * 24 ≤ 140737488351232) (r5 : w5.ownsRow w.heap.size 40 1 v' (us.length + 1) (us ++ [u])) (g5 : W.grownBy w5 dv.ownBlock) (at5 : v'.ownBlock = dv.ownBlock ∨ v'.ownBlock = some W.heap.size) :
    Boxed w5 M 87 dv ∧ CutI w n m xs M b off N cap (pre ++ [x]) (w5.setCell ⟨M, 0, none⟩ v') v' (us ++ [u]) ∧ KeepsOthers W (w5.setCell ⟨M, 0, none⟩ v') := by
  have b1 : Boxed w5 M 87 dv := C.made.kept g5 (C.mat.notBox (by decide) C.made)
  have m5 := C.mat.more (by decide) o hl r5 g5
  have gs := grownBy_setCell' w5 M v'
  have lm := C.bs.lt
  have ln := C.lM
  refine ⟨b1, ⟨b1.set _, ?_, ((C.num.kept g5 (C.mat.notBox (by decide) C.num)).kept gs ?_), ((C.bs.kept g5 (fun e => C.ne e.symm)).kept gs (by simp)), ((C.bn.kept g5 (C.mat.notBox (by decide) C.bn)).kept gs (by simp)), ?_, C.lM, ?_⟩, ?_⟩
  · have e : rowsOf n xs m (pre ++ [x]) = rowsOf n xs m pre ++ [SM.sec n (CM.ld xs (cl m x))] := by simp [rowsOf]
    rw [e]
    refine m5.kept gs (fun r e c f => ?_)
    obtain rfl := Option.some.inj e
    rw [show w5.heap[M]? = _ from b1]
    constructor <;> (intro e2; simp at e2)
  · intro e
    have h1 := Option.some.inj e
    have h2 := C.num
    rw [h1] at h2
    have h3 := (show W.heap[M]? = _ from h2).symm.trans (show W.heap[M]? = _ from C.made)
    simp at h3
  · rcases at5 with e | e
    · rw [e]; exact C.ne
    · rw [e]; intro e2; have := Option.some.inj e2; omega
  · exact grown_new (grown_new C.gr g5 C.mat.lo) gs (fun i e => by have := Option.some.inj e; omega)
  · refine (KeepsOthers.of_grownBy g5 fun j o' ej hj => ?_).trans (KeepsOthers.setCell _ _ _)
    rcases C.mat.row.2 with ⟨rfl, _⟩ | ⟨g, cp, cur, rfl, _, hgb, _⟩
    · simp [Value.ownBlock] at ej
    · obtain rfl : g = j := by simpa [Value.ownBlock] using ej
      rw [hgb] at hj; cases hj; rfl

theorem Vec.room {w : World} {p : Option Addr} {n c c' : Nat} {xs : List Nat} (h : Vec w (.slice p n c) xs) (h1 : n ≤ c') (h2 : c' ≤ maxLen) : Vec w (.slice p n c') xs := by
  obtain ⟨a1, a2, p', cap', e, a3, a4, a5⟩ := h
  injection e with e1 e2 e3
  subst e1
  subst e2
  exact ⟨a1, a2, p, c', rfl, h1, h2, a5⟩

set_option maxRecDepth 100000 in
set_option maxHeartbeats 2000000 in
theorem cut_any {w : World} {n m b off N cap : Nat} {xs : List Nat} (hv : Vec w (.slice (some ⟨b, off, none⟩) N cap) xs) (hN : N = 56 * m) (hx : xs.length = 56 * m) (hm0 : 0 < m) (hm : m ≤ 64) (hcap : N ≤ cap) :
    Calls Tryz.prog 123 #[.int .u64 (n : Int), .slice (some ⟨b, off, none⟩) N cap] w fun e w' => ∃ u us, e = .returned u ∧ RMat 123 w.heap.size w' u us (CM.secs n xs m) ∧ w.grownBy w' none := by
  have HN : Hid (N = 56 * m ∧ xs.length = 56 * m ∧ 0 < m ∧ m ≤ 64 ∧ N ≤ cap) := ⟨hN, hx, hm0, hm, hcap⟩
  have hq : (N : Int) / 56 = (m : Int) := by omega
  obtain ⟨w1, hmk, hrow, g1⟩ := run_make_rows0 (w.alloc (.cells #[.int .u64 (n : Int)] 39)) (n := m) (by omega)
  have HR : Hid (w1.ownsRow (w.alloc (.cells #[.int .u64 (n : Int)] 39)).heap.size 40 1 (.slice (some ⟨(w.alloc (.cells #[.int .u64 (n : Int)] 39)).heap.size, 0, none⟩) 0 m) 0 []) := hrow
  have HG : Hid ((w.alloc (.cells #[.int .u64 (n : Int)] 39)).grownBy w1 none) := g1
  have HV : Hid (Vec w (.slice (some ⟨b, off, none⟩) N cap) xs) := hv
  clear hv hN hx hm0 hcap hrow g1
  rw [World.size_alloc] at hmk
  refine (callsIn_wide (n := 5)).1 ?_
  refine callsIn_of_wp_marks Tryz.func123 rfl trivial ?_ rfl
  simp only [Tryz.ntmps123, List.size_toArray, List.length_cons, List.length_nil, Nat.reduceAdd, Nat.reduceSub, Array.replicate_succ, Array.replicate_zero, List.push_toArray, List.append_toArray, List.nil_append, List.cons_append]
  gi_wp2_with (refine ⟨trivial, ?_⟩; gi_at_call 140; refine (callsIn_wide.2 (chunk_any _ _ _ _)).mono ?_; rintro e w2 ⟨rfl, rfl⟩)
  have I0 : CutI w n m xs w1.heap.size b off N cap [] (((w1.alloc (.cells #[.slice (some ⟨w.heap.size + 1, 0, none⟩) 0 m] 87)).alloc (.cells #[.slice (some ⟨b, off, none⟩) N cap] 40)).alloc (.cells #[.int .i64 56] 3)) (.slice (some ⟨w.heap.size + 1, 0, none⟩) 0 m) [] := by
    have hR := HR.out
    rw [World.size_alloc] at hR
    have hlt := hR.lt (w.heap.size + 1) rfl
    have hsz := HG.out.size
    have ga := World.grownBy_alloc w1 (.cells #[.slice (some ⟨w.heap.size + 1, 0, none⟩) 0 m] 87) none
    have gb := gb_alloc ga (.cells #[.slice (some ⟨b, off, none⟩) N cap] 40)
    have gc := gb_alloc gb (.cells #[.int .i64 56] 3)
    refine ⟨((Boxed.new w1 _ _).alloc _).alloc _, ⟨by simp, ?_, rfl, by simp [rowsOf]⟩, (((Boxed.new w 39 (.int .u64 (n : Int))).kept HG.out (by simp)).kept gc (by simp)), ?_, ?_, ?_, ?_, grown_trans (grown_trans (World.grownBy_alloc w _ none) HG.out) gc⟩
    · have h1 := hR.kept gc (.inr (by simp [Value.ownBlock]))
      exact ⟨h1.1, by
        rcases h1.2 with h | ⟨g, cp, cur, a1, a2, a3⟩
        · exact .inl h
        · exact .inr ⟨g, cp, cur, a1, by omega, a3⟩⟩
    · have h1 := Boxed.new (w1.alloc (.cells #[.slice (some ⟨w.heap.size + 1, 0, none⟩) 0 m] 87)) 40 (.slice (some ⟨b, off, none⟩) N cap)
      rw [World.size_alloc] at h1
      exact h1.alloc _
    · have h1 := Boxed.new ((w1.alloc (.cells #[.slice (some ⟨w.heap.size + 1, 0, none⟩) 0 m] 87)).alloc (.cells #[.slice (some ⟨b, off, none⟩) N cap] 40)) 3 (.int .i64 56)
      rw [World.size_alloc, World.size_alloc] at h1
      exact h1
    · simp only [Value.ownBlock]; intro e; have := Option.some.inj e; omega
    · simp at hsz; omega
  have HI0 : Hid (CutI w n m xs w1.heap.size b off N cap [] (((w1.alloc (.cells #[.slice (some ⟨w.heap.size + 1, 0, none⟩) 0 m] 87)).alloc (.cells #[.slice (some ⟨b, off, none⟩) N cap] 40)).alloc (.cells #[.int .i64 56] 3)) (.slice (some ⟨w.heap.size + 1, 0, none⟩) 0 m) []) := I0
  clear I0 hmk HR HG
  generalize w1.heap.size = M at *
  generalize ((w1.alloc (.cells #[.slice (some ⟨w.heap.size + 1, 0, none⟩) 0 m] 87)).alloc (.cells #[.slice (some ⟨b, off, none⟩) N cap] 40)).alloc (.cells #[.int .i64 56] 3) = W0 at *
  have hWs : w.heap.size ≤ W0.heap.size := HI0.out.gr.size
  refine wpIn_rangeFunc_ownG rfl (by decide) (gf := 158) (lb := #[.pointer (some ⟨M + 1, 0, none⟩), .pointer (some ⟨M + 2, 0, none⟩)]) rfl trivial (enters_of Tryz.func158 (by kernel_rfl) rfl)
    (chunk_stops 4 (by decide) (M + 1) (M + 2) b off N cap m HN.out.1 HN.out.2.2.2.1 HN.out.2.2.2.2 W0 HI0.out.bs HI0.out.bn)
    (fun h k => ⟨k.1.trans h.1, k.2.trans h.2⟩) (fun W l o o' hl h _ _ => ⟨World.putObj_heap_other (by have := HI0.out.bs.lt; omega), World.putObj_heap_other (by have := HI0.out.bn.lt; omega)⟩) (Below.refl _ _) (fun _ => rfl)
    (fun pre W => ∃ dv us, CutI w n m xs M b off N cap pre W dv us) (fun _ _ _ => False)
    (CutI.own w n m xs M b off N cap _ hWs) (fun _ _ _ _ _ hs _ _ => hs) ⟨_, _, HI0.out⟩
    (fun x => { tmps := #[.int .u64 (n : Int), .slice (some ⟨b, off, none⟩) N cap, .pointer (some ⟨w.heap.size, 0, none⟩), undef, .slice none 0 0, .pointer (some ⟨M, 0, none⟩), .slice (some ⟨b, off + 56 * cl m x, none⟩) 56 56, undef, undef,
      .slice (some ⟨b, off, none⟩) N cap, .int .i64 (N : Int), .int .i64 (m : Int), .slice (some ⟨w.heap.size + 1, 0, none⟩) 0 m, .slice (some ⟨b, off, none⟩) N cap,
      .func (.func 158) #[] #[.pointer (some ⟨M + 1, 0, none⟩), .pointer (some ⟨M + 1 + 1, 0, none⟩)], .slice (some ⟨b, off + 56 * cl m x, none⟩) 56 56, undef, undef, undef, undef, undef, undef, undef, undef, undef, undef, undef], defers := [] }) ?assign ?body ?done ?stop
  case assign =>
    intro l x W K hK
    dsimp only [encL_c]
    gi_wp2
    exact hK
  case body =>
    rintro l pre x W ⟨dv, us, C⟩ hlen
    obtain ⟨i0, hi, hz0, hz1, hz2⟩ := info_parts Tryz.info22
    have hd : 1 ≤ 5 - 1 - 1 := by decide
    have cN := C.num.cell
    have HC : Hid (CutI w n m xs M b off N cap pre W dv us) := C
    have hxm := cl_lt (x := x) HN.out.2.2.1
    have VL : Hid (Vec W (.slice (some ⟨b, off + 56 * cl m x, none⟩) 56 56) (CM.ld xs (cl m x))) := by
      have h1 := ((HV.out.keep C.gr).tail_a (n := 56 * cl m x) (by have := HN.out; omega)).cut (n := 56) (by rw [List.length_drop]; have := HN.out; omega)
      exact h1.room (Nat.le_refl _) (by decide)
    have LL : Hid ((CM.ld xs (cl m x)).length ≤ 56 ∧ (us.length + 1) * 24 ≤ 140737488351232 ∧ w.heap.size ≤ W.heap.size) := ⟨by rw [CM.ld_len (by have := HN.out; omega)]; exact Nat.le_refl _, by
      have h1 := C.mat.same
      simp only [rowsOf, List.length_map] at h1
      have := HN.out
      omega, C.gr.size⟩
    clear C hxm
    gi_wp2_with (first
      | (refine ⟨trivial, ?_⟩; gi_at_call 141; refine (CallsIn.inRound l (callsIn_wide.2 (put_yes (n := n) VL.out LL.out.1))).mono ?_; rintro e w4 ⟨p, rfl, op, g4⟩; have HO : Hid (Arr 123 w.heap.size w4 (.slice p 64 64) (SM.sec n (CM.ld xs (cl m x)))) := op.down LL.out.2.2; have C4 : Hid (CutI w n m xs M b off N cap pre w4 dv us) := HC.out.kept g4 (by simp); have G4 : Hid (W.grownBy w4 none) := g4; have cM := C4.out.made.cell; clear op g4)
      | (gi_at_builtin; refine wpListIn_append_own_at _ rfl _ _ 87 rfl w.heap.size 40 i0 (.slice none 0 0) 1 24 Tryz.underlying87 hi hz0 hz1 hz2 rfl (by decide) dv us.length us rfl (C4.out.kept (World.grownBy_alloc w4 (.cells #[.slice p 64 64] 40) none) (by simp)).mat.row ⟨w4.heap.size, 0, none⟩ 1 1 [.slice p 64 64] rfl rfl (cell_one_new _ _ _) (by simp [Value.oneCell']) (by have := LL.out.2.1; unfold maxLen; omega) (by have := LL.out.2.1; omega) (by have := LL.out.2.2; have := G4.out.size; simp; omega) ?_; intro v' w5 r5 g5 hz5 at5; obtain ⟨g', cap', rfl⟩ := ownsRow_succ r5; clear hz5
         obtain ⟨k1, k2, k3⟩ := CutI.more (x := x) (C4.out.kept (World.grownBy_alloc w4 (.cells #[.slice p 64 64] 40) none) (by simp)) (HO.out.keep (World.grownBy_alloc w4 (.cells #[.slice p 64 64] 40) none)) LL.out.2.1 r5 g5 at5
         have K2 : Hid (CutI w n m xs M b off N cap (pre ++ [x]) (w5.setCell ⟨M, 0, none⟩ (.slice (some ⟨g', 0, none⟩) (us.length + 1) cap')) (.slice (some ⟨g', 0, none⟩) (us.length + 1) cap') (us ++ [.slice p 64 64])) := k2
         have K3 : Hid (KeepsOthers W (w5.setCell ⟨M, 0, none⟩ (.slice (some ⟨g', 0, none⟩) (us.length + 1) cap'))) := ((KeepsOthers.of_grownBy G4.out (fun j o e _ => by cases e)).trans (KeepsOthers.alloc _ _)).trans k3
         have c5 := k1.cell
         have f5 := k1.frozen
         clear r5 g5 at5 k1 k2 k3))
    exact ⟨K3.out.from _, ⟨K2.out.bs.trans HC.out.bs.symm, K2.out.bn.trans HC.out.bn.symm⟩, _, _, K2.out⟩
  case done =>
    rintro D ys W hD rfl ⟨dv, us, C⟩ hK
    have cM := C.made.cell
    have HC : Hid (CutI w n m xs M b off N cap (List.range m) W dv us) := C
    have HD : Hid (w.heap.size ≤ D) := Nat.le_trans hWs hD
    have HK : Hid (W.heap[D]? = some (.deferred (some []))) := hK
    clear C
    gi_wp2
    refine ⟨by simp, .inl ⟨_, _, rfl, run_takeDeferred HK.out, ?_⟩⟩
    have gp := grownBy_putObj' W D (.deferred none)
    refine ⟨_, results_tmp rfl _ _ _, _, us, rfl, ?_, grown_new HC.out.gr gp (fun i e => by have := Option.some.inj e; have := HD.out; omega)⟩
    rw [← rowsOf_all]
    exact (HC.out.kept gp (fun r e => by have := Option.some.inj e; subst this; exact ⟨HD.out, _, HK.out, rfl⟩)).mat
  case stop =>
    rintro D c pre W _ _ h _
    exact h.elim
end Go.Proofs.YtfjlpifaaknmpaaGreat

/- The contract of chunk.Put; the contract of hayricklaw07.wakes. -/
set_option maxRecDepth 100000
namespace Go.Proofs.YtfjlpifaaknmpaaGreat
open Go.RowKit

set_option maxHeartbeats 1600000 in
theorem cPut_any {w : World} {n : Nat} {v : Value} {xs : List Nat} (hv : Vec w v xs) :
    Calls Tryz.prog 97 #[.int .u64 (n : Int), v] w fun e w' => ∃ u us, e = .returned (.tuple #[u, .int .i64 (CM.putE n xs)]) ∧ RMat 123 w.heap.size w' u us (CM.putS n xs) ∧ w.grownBy w' none := by
  obtain ⟨q, N, cap, rfl, hN⟩ := hv.opened
  have hNl : N ≤ 140737488351232 := by rw [hN]; exact hv.len
  by_cases h0 : n = 0
  · have i0 : ((n : Int) == 0) = true := eqb_yes (b := 0) h0
    have hE : CM.putE n xs = 1 := by simp [CM.putE, h0]
    have hS : CM.putS n xs = [] := by simp [CM.putS, CM.fit, h0]
    rw [hE, hS]
    clear hv hN h0 hE hS
    go_enter Tryz.func97, Tryz.ntmps97
    go_wp2
    go_ret2
    exact ⟨_, _, rfl, RMat.nil _ _ _, World.grownBy.refl _ _⟩
  · have i0 : ((n : Int) == 0) = false := eqb_no (b := 0) h0
    by_cases h1 : N = 0
    · have i1 : ((N : Int) == 0) = true := eqb_yes (b := 0) h1
      have hx : xs.length = 0 ∨ xs.length % 56 ≠ 0 := by omega
      have hE : CM.putE n xs = 4 := by unfold CM.putE; rw [if_neg h0, if_pos hx]
      have hS : CM.putS n xs = [] := by unfold CM.putS; rw [if_neg (fun h => by have := CM.fit_iff.1 h; omega)]
      rw [hE, hS]
      clear hv hN h0 hE hS h1 hx
      go_enter Tryz.func97, Tryz.ntmps97
      go_wp2
      go_ret2
      exact ⟨_, _, rfl, RMat.nil _ _ _, World.grownBy.refl _ _⟩
    · have i1 : ((N : Int) == 0) = false := eqb_no (b := 0) h1
      obtain ⟨r, hr⟩ : ∃ r, r = N % 56 := ⟨_, rfl⟩
      have hq : (N : Int) % 56 = (r : Int) := by omega
      by_cases h2 : r = 0
      · have i2 : ((r : Int) != 0) = false := neb_no (b := 0) h2
        have hx : ¬ (xs.length = 0 ∨ xs.length % 56 ≠ 0) := by omega
        by_cases h3 : 3584 < N
        · have i3 : (3584 : Int) < (N : Int) := by omega
          have hE : CM.putE n xs = 3 := by unfold CM.putE; rw [if_neg h0, if_neg hx, if_pos (by omega)]
          have hS : CM.putS n xs = [] := by unfold CM.putS; rw [if_neg (fun h => by have := CM.fit_iff.1 h; omega)]
          rw [hE, hS]
          clear hv hN h0 hE hS h1 hx h2 h3 hr
          go_enter Tryz.func97, Tryz.ntmps97
          go_wp2
          go_ret2
          exact ⟨_, _, rfl, RMat.nil _ _ _, World.grownBy.refl _ _⟩
        · have i3 : ¬ (3584 : Int) < (N : Int) := by omega
          have hf : CM.fit n xs = true := CM.fit_iff.2 ⟨h0, by omega, by omega, by omega⟩
          have hE : CM.putE n xs = 0 := (CM.putE_fit n xs).2 hf
          have hS : CM.putS n xs = CM.secs n xs (N / 56) := by unfold CM.putS; rw [if_pos hf, ← hN]
          rw [hE, hS]
          obtain ⟨b, off, rfl, _⟩ := hv.spot (k := 0) (by omega)
          have hcap : N ≤ cap := by
            obtain ⟨p', cap', e, h3, _⟩ := hv.form
            injection e with e1 e2 e3
            omega
          have HC : Hid (Calls Tryz.prog 123 #[.int .u64 (n : Int), .slice (some ⟨b, off, none⟩) N cap] w fun e w' => ∃ u us, e = .returned u ∧ RMat 123 w.heap.size w' u us (CM.secs n xs (N / 56)) ∧ w.grownBy w' none) :=
            cut_any hv (by omega) (by omega) (by omega) (by omega) hcap
          clear hv hN h0 hE hS h1 hx h2 h3 hr hf hcap
          generalize CM.secs n xs (N / 56) = S at *
          go_enter Tryz.func97, Tryz.ntmps97
          go_wp2_with (go_at_call 123; refine HC.out.mono ?_; rintro e w1 ⟨u, us, rfl, m1, g1⟩; have M1 : Hid (RMat 123 w.heap.size w1 u us S) := m1; have G1 : Hid (w.grownBy w1 none) := g1; clear m1 g1)
          go_ret2
          exact ⟨_, _, rfl, M1.out, G1.out⟩
      · have i2 : ((r : Int) != 0) = true := neb_yes (b := 0) h2
        have hx : xs.length = 0 ∨ xs.length % 56 ≠ 0 := by omega
        have hE : CM.putE n xs = 4 := by unfold CM.putE; rw [if_neg h0, if_pos hx]
        have hS : CM.putS n xs = [] := by unfold CM.putS; rw [if_neg (fun h => by have := CM.fit_iff.1 h; omega)]
        rw [hE, hS]
        clear hv hN h0 hE hS h1 hx h2 hr
        go_enter Tryz.func97, Tryz.ntmps97
        go_wp2
        go_ret2
        exact ⟨_, _, rfl, RMat.nil _ _ _, World.grownBy.refl _ _⟩
end Go.Proofs.YtfjlpifaaknmpaaGreat

