/- Packed: Con8, Read8, Parts8, Spoil, Flat4, EncB4. -/
import Derived.Lib.AppendZeros
import Derived.Test.YtfjlpifaaknmpaaGreatSk1
import Derived.Test.YtfjlpifaaknmpaaGreatSk2
import Derived.Test.YtfjlpifaaknmpaaGreatSk3
import Derived.Test.YtfjlpifaaknmpaaGreatSk4
import Derived.Test.YtfjlpifaaknmpaaGreatSk5
import Derived.Test.YtfjlpifaaknmpaaGreatSk11
import Derived.Test.YtfjlpifaaknmpaaGreatSk12
import Derived.Deep.RegionHeld3
import Derived.BigRegion
import Derived.Test.YtfjlpifaaknmpaaGreatSk6
import Derived.Test.YtfjlpifaaknmpaaGreatSk7
import Derived.Test.YtfjlpifaaknmpaaGreatSk8
import Derived.Test.YtfjlpifaaknmpaaGreatSk9
import Derived.Test.YtfjlpifaaknmpaaGreatSk10
import Derived.Test.YtfjlpifaaknmpaaGreatSk13
import Derived.Test.YtfjlpifaaknmpaaGreatSk14
import Derived.Test.YtfjlpifaaknmpaaGreatSk15
import Derived.Test.YtfjlpifaaknmpaaGreatSk16
import Derived.Test.YtfjlpifaaknmpaaGreatSk17
import Derived.Test.YtfjlpifaaknmpaaGreatSk18
import Derived.Test.YtfjlpifaaknmpaaGreatSk19
import Derived.Test.YtfjlpifaaknmpaaGreatSk22
import Derived.Test.YtfjlpifaaknmpaaGreatSk24
import Derived.Laws.BitsAllLaws
/- slices.Grow of none, and slices.Concat. -/
set_option linter.unusedSimpArgs false
set_option linter.unusedVariables false
set_option maxRecDepth 100000
namespace Go.Proofs.YtfjlpifaaknmpaaGreat
open Go.RowKit

theorem Tryz.underI : Tryz.prog.underlying 3 = some (.int .i64) := by kernel_rfl
theorem run_zeros (w : World) {n : Nat} (h0 : 0 < n) (hn : n ≤ 1000000) (ty : TypeId) : ∃ w' C, (Builtin.append_ #[40, 3] ty #[.slice none 0 0, .int .i64 (n : Int)]).run Tryz.prog w = .ok (.slice (some ⟨w.heap.size, 0, none⟩) n C) w' ∧ Own w.heap.size w' (.slice (some ⟨w.heap.size, 0, none⟩) 0 C) [] ∧ w.grownBy w' none ∧ n ≤ C := by
  obtain ⟨i0, hi, hz0, hz1, hz2⟩ := info_parts Tryz.info5
  have hr := Lib.run_append_nil_zeros (P := Tryz.prog) w 40 3 ty 5 i0 (.int .u8 0) .i64 .i64 Tryz.underlying40 Tryz.underI hi hz0 n h0 (by rw [hz1]; decide) (by omega) (by rw [hz2]; omega)
  have h1 := grownCap_ge w n 0 5
  have h2 := grownCap_le_maxLen w n 0 5 (by unfold maxLen; omega)
  refine ⟨_, _, hr, ⟨by simp, by simp, ⟨by simp, .inr ⟨w.heap.size, _, _, rfl, Nat.le_refl _, heap_alloc_new w.drew _, Nat.zero_le _, h2, ?_, by simp⟩⟩⟩, gb_alloc (gb_drew (World.grownBy.refl _ _)) _, h1⟩
  simp [Builtin.zeroCells, Value.cells]
  omega

set_option maxHeartbeats 1600000 in
theorem grow_none (w : World) {n : Nat} (h0 : 0 < n) (hn : n ≤ 1000000) : Calls Tryz.prog 108 #[.slice none 0 0, .int .i64 (n : Int)] w fun e w' => ∃ v, e = .returned v ∧ Own w.heap.size w' v [] ∧ w.grownBy w' none := by
  have i1 : ¬ (n : Int) < 0 := by omega
  have i2 : (0 : Int) < (n : Int) := by omega
  have i3 : IntKind.i64.wrap (n : Int) = (n : Int) := IntWalk.i64_in _ (by omega)
  have HR : Hid (∀ ty, ∃ w' C, (Builtin.append_ #[40, 3] ty #[.slice none 0 0, .int .i64 (n : Int)]).run Tryz.prog w = .ok (.slice (some ⟨w.heap.size, 0, none⟩) n C) w' ∧ Own w.heap.size w' (.slice (some ⟨w.heap.size, 0, none⟩) 0 C) [] ∧ w.grownBy w' none ∧ n ≤ C) := fun ty => run_zeros w h0 hn ty
  clear h0 hn
  go_enter Tryz.func108, Tryz.ntmps108
  go_wp2_with (at_builtin; obtain ⟨w1, C, hr, ho, hg, hC⟩ := HR.out _; refine Lib.wpList_append_run _ rfl _ _ _ _ rfl _ _ rfl rfl _ _ hr ?_; have O1 : Hid (Own w.heap.size w1 (.slice (some ⟨w.heap.size, 0, none⟩) 0 C) []) := ho; have G1 : Hid (w.grownBy w1 none) := hg; have hC0 : ¬ C = 0 := (by omega); clear hr ho hg hC)
  go_ret
  exact ⟨_, rfl, O1.out, G1.out⟩

theorem take_flat {X : List (List Nat)} {j : Nat} (h : j < X.length) : (X.take (j + 1)).flatten = (X.take j).flatten ++ X.getD j [] := by
  rw [List.take_succ_eq_append_getElem h, List.flatten_append]
  simp [List.getD, h]
theorem flat_len {X : List (List Nat)} (h : ∀ j, j < X.length → (X.getD j []).length = 448) : ∀ j, j ≤ X.length → ((X.take j).flatten).length = 448 * j
  | 0, _ => by simp
  | j + 1, hj => by
    rw [take_flat (by omega), List.length_append, flat_len h j (by omega), h j (by omega)]
    omega

set_option maxHeartbeats 3200000 in
theorem concat_yes {w : World} {r : Value} {us : List Value} {X : List (List Nat)} (mr : Mat w r us X) (h1 : 1 ≤ X.length) (h2 : X.length ≤ 255) (hl : ∀ j, j < X.length → (X.getD j []).length = 448) :
    Calls Tryz.prog 58 #[r] w fun e w' => ∃ v, e = .returned v ∧ Own w.heap.size w' v X.flatten ∧ w.grownBy w' none := by
  obtain ⟨q, N, cap, rfl, hN⟩ := mr.row.opened
  have hs := mr.same
  have hNl : N ≤ 255 := by omega
  have MR : Hid (Mat w (.slice q N cap) us X) := mr
  have HN : Hid (N = us.length ∧ N = X.length ∧ 1 ≤ N ∧ N ≤ 255 ∧ ∀ j, j < X.length → (X.getD j []).length = 448) := ⟨hN, by omega, by omega, by omega, hl⟩
  clear mr hN hs h1 h2 hl
  go_enter Tryz.func58, Tryz.ntmps58
  go_wp2_with fail
  go_loopw [3, 11] (fun ts ti wr => ∃ j : Nat, j ≤ N ∧ ts = .int .i64 ((448 * j : Nat) : Int) ∧ ti = .int .i64 j ∧ Hid (w.grownBy wr none)) (fun _ ti _ => N - (intOf ti).toNat)
  case atStart => exact ⟨0, by omega, rfl, rfl, World.grownBy.refl _ _⟩
  case round =>
    obtain ⟨j, hj, rfl, rfl, GK⟩ := hrel
    by_cases hlt : j < N
    · have i3 : (j : Int) < (N : Int) := by omega
      have i4 : (0 : Int) ≤ (j : Int) := by omega
      obtain ⟨b, off, rfl, hr⟩ := (MR.out.keep GK.out).row.spot (k := j) (by have := HN.out; omega)
      obtain ⟨pk, nk, ck, ek, hnk⟩ := ((MR.out.keep GK.out).vec j (by have := HN.out; omega)).opened
      have hn448 : nk = 448 := by rw [hnk]; exact HN.out.2.2.2.2 j (by have := HN.out; omega)
      subst hn448
      rw [ek] at hr
      have hw : IntKind.i64.wrap (((448 * j : Nat) : Int) + 448) = ((448 * (j + 1) : Nat) : Int) := by
        have e : ((448 * j : Nat) : Int) + 448 = ((448 * (j + 1) : Nat) : Int) := by omega
        rw [e]
        exact IntWalk.i64_in _ (by omega)
      obtain ⟨t, ht⟩ : ∃ t, t = 448 * (j + 1) := ⟨_, rfl⟩
      rw [← ht] at hw
      have i5 : ¬ (t : Int) < 0 := by omega
      have HT : Hid (t = 448 * (j + 1)) := ht
      obtain ⟨t0, ht0⟩ : ∃ t0, t0 = 448 * j := ⟨_, rfl⟩
      rw [← ht0] at hw ⊢
      clear ek hnk ht ht0
      go_wp2
      go_roundw
      case rel => exact ⟨j + 1, by omega, by rw [HT.out], by go_num, GK⟩
      case measure => simp [intOf]; omega
    · have i3 : ¬ (j : Int) < (N : Int) := by omega
      have hjN : j = N := by omega
      obtain ⟨t, ht⟩ : ∃ t, t = 448 * j := ⟨_, rfl⟩
      rw [← ht]
      have GR : Hid (Calls Tryz.prog 108 #[.slice none 0 0, .int .i64 (t : Int)] wr fun e w' => ∃ v, e = .returned v ∧ Own wr.heap.size w' v [] ∧ wr.grownBy w' none) := grow_none wr (by have := HN.out; omega) (by have := HN.out; omega)
      clear ht hjN
      go_wp2_with (first
        | (go_at_call 108; refine GR.out.mono ?_; rintro e w1 ⟨v, rfl, o1, g1⟩; have O1 : Hid (Own w.heap.size w1 v []) := o1.down GK.out.size; have G1 : Hid (w.grownBy w1 none) := grown_trans GK.out g1; clear o1 g1)
        | fail)
      clear GR GK
      go_loopw [6, 27] (fun tv ti wr => ∃ j : Nat, j ≤ N ∧ ti = .int .i64 j ∧ Hid (Own w.heap.size wr tv (X.take j).flatten) ∧ Hid (w.grownBy wr none)) (fun _ ti _ => N - (intOf ti).toNat)
      case atStart => exact ⟨0, by omega, rfl, O1, G1⟩
      case round =>
        clear O1 G1
        obtain ⟨k, hk, rfl, OK, GK⟩ := hrel
        by_cases hlt2 : k < N
        · have i6 : (k : Int) < (N : Int) := by omega
          have i7 : (0 : Int) ≤ (k : Int) := by omega
          obtain ⟨b, off, rfl, hr⟩ := (MR.out.keep GK.out).row.spot (k := k) (by have := HN.out; omega)
          obtain ⟨pk, nk, ck, ek, hnk⟩ := ((MR.out.keep GK.out).vec k (by have := HN.out; omega)).opened
          have VX : Hid (Vec wr (.slice pk nk ck) (X.getD k [])) := by rw [← ek]; exact (MR.out.keep GK.out).vec k (by have := HN.out; omega)
          rw [ek] at hr
          have HL : Hid ((X.take k).flatten.length + (X.getD k []).length ≤ 140737488351232) := by
            show _ ≤ _
            rw [flat_len HN.out.2.2.2.2 k (by have := HN.out; omega), HN.out.2.2.2.2 k (by have := HN.out; omega)]
            have := HN.out
            omega
          have HF : Hid ((X.take (k + 1)).flatten = (X.take k).flatten ++ X.getD k []) := take_flat (by have := HN.out; omega)
          obtain ⟨dp, dn, dc, rfl, hd0⟩ := OK.out.vec.opened
          clear ek hnk hd0
          generalize (X.take k).flatten = FX at *
          generalize X.getD k [] = XK at *
          go_wp2_with (at_builtin; refine wpList_append_vec rfl _ _ rfl _ _ rfl rfl OK.out VX.out GK.out.size HL.out ?_; intro v2 w2 o2 g2; have O2 : Hid (Own w.heap.size w2 v2 (FX ++ XK)) := o2; have G2 : Hid (w.grownBy w2 none) := grown_new GK.out g2 (fun i e => OK.out.lo i e); clear o2 g2)
          go_roundw
          case rel => exact ⟨k + 1, by omega, by go_num, by rw [HF.out]; exact O2, G2⟩
          case measure => simp [intOf]; omega
        · have i6 : ¬ (k : Int) < (N : Int) := by omega
          have HX : Hid ((X.take k).flatten = X.flatten) := by
            show _ = _
            rw [List.take_of_length_le (by have := HN.out; omega)]
          go_wp2
          go_ret
          exact ⟨_, rfl, by rw [← HX.out]; exact OK.out, GK.out⟩
end Go.Proofs.YtfjlpifaaknmpaaGreat

/- The contract of stripe.Read. -/
set_option linter.unusedSimpArgs false
set_option linter.unusedVariables false
set_option maxRecDepth 100000
namespace Go.Proofs.YtfjlpifaaknmpaaGreat
open Go.RowKit

theorem enters_rd : ∀ args w, (callFunc 56 args).run Tryz.prog w = .ok (.enter 56 args) w := by
  intro args w
  simp [go_sem, callFunc, Tryz.func56, Tryz.f56]

section
variable {F F' : Nat → Prop} {w w' : World} {s a : Nat} {g : SP.Geo} {R R' : AM.Raw}
/-- The walk of Read. -/
theorem rd_walk {B0 A D Sb m slot : Nat} {w4 : World} (h : SI F w s a g R) (h0 : R.off = false) (hs : slot < g.s) (T : RdI w B0 A D Sb s m w4 (.slice none 0 0) (.slice none 0 0) [] (.slice none 0 0) (.slice none 0 0) [] []) :
    Calls Tryz.prog 55 #[ptr s, .int .i64 (slot : Int), .func (.func 56) #[] #[.pointer (some ⟨B0, 0, none⟩), .pointer (some ⟨A, 0, none⟩), .pointer (some ⟨D, 0, none⟩), .pointer (some ⟨Sb, 0, none⟩)]] w4 fun e w' =>
      e = .returned (.tuple #[]) ∧ ∃ va vt us, RdI w B0 A D Sb s m w' va va (SP.found R g slot m) vt vt us (SP.told R g slot (SP.found R g slot m)) := by
  have hk1 := h.ok.k1
  refine (swalk_any (g := g) (R := R) (F := F) (a := a) (B := w.heap.size) h0 hs enters_rd
    (fun j w' => (SP.hits R g slot m j).length < g.k ∧ j ≤ g.n ∧ ∃ va vt us, RdI w B0 A D Sb s m w' va va (SP.hits R g slot m j) vt vt us (SP.told R g slot (SP.hits R g slot m j)))
    (fun w' => ∃ va vt us, RdI w B0 A D Sb s m w' va va (SP.found R g slot m) vt vt us (SP.told R g slot (SP.found R g slot m)))
    (fun j => decide ((SP.hits R g slot m (j + 1)).length < g.k)) ?_ ?_ ?_ ?_ ?_ ?_).mono ?_
  · rintro j w1 ⟨_, _, _, _, _, T1⟩
    exact h.keep T1.gr
  · rintro j w1 ⟨_, _, _, _, _, T1⟩
    exact T1.gr.size
  · rintro j w1 w2 ⟨h1, h2, va, vt, us, T1⟩ g1
    exact ⟨h1, h2, va, vt, us, T1.keep g1⟩
  · rintro j w1 hj hy ⟨h1, h2, va, vt, us, T1⟩
    have e : SP.hits R g slot m (j + 1) = SP.hits R g slot m j := by rw [SP.hits_succ]; simp [SP.has, hy]
    rw [e]
    exact ⟨h1, by omega, va, vt, us, T1⟩
  · rintro j w1 v hj hy ⟨h1, h2, va, vt, us, T1⟩ hv
    obtain ⟨pv, nv, cv, rfl, _⟩ := hv.vec.opened
    have HK : ∀ w', w.grownBy w' none → w'.cell? ⟨s, 1, none⟩ = some (.int .i64 (g.k : Int)) := fun w' g' => (h.keep g').at2
    by_cases hm : SP.numD R g slot j = m
    · have e : SP.hits R g slot m (j + 1) = SP.hits R g slot m j ++ [j] := by rw [SP.hits_succ]; simp [SP.has, hy, hm]
      obtain ⟨vp, vn, vc, rfl, _⟩ := T1.mt.mat.row.opened
      have hsame := T1.mt.same
      rw [SP.told_len] at hsame
      have hle := SP.hits_len_le R g slot m j
      have hn255 := h.ok.n255
      rw [hm]
      refine (rd_yes T1 (j := j) (k := g.k) hv (by omega) (by omega) HK).mono ?_
      rintro e2 w2 ⟨rfl, va', vt', us', T2⟩
      refine ⟨by rw [e], ?_⟩
      rw [← e, ← SP.told_app, ← e] at T2
      by_cases hc : (SP.hits R g slot m (j + 1)).length < g.k
      · rw [if_pos (decide_eq_true hc)]
        exact ⟨hc, by omega, va', vt', us', T2⟩
      · rw [if_neg (by simpa using hc)]
        have hfe : SP.hits R g slot m (j + 1) = SP.found R g slot m := SP.hits_take (by omega) (by
          have : (SP.hits R g slot m (j + 1)).length = (SP.hits R g slot m j).length + 1 := by rw [e]; simp
          omega)
        rw [hfe] at T2
        exact ⟨va', vt', us', T2⟩
    · have e : SP.hits R g slot m (j + 1) = SP.hits R g slot m j := by rw [SP.hits_succ]; simp [SP.has, hm]
      refine (rd_no T1 (j := j) (k := g.k) hm HK).mono ?_
      rintro e2 w2 ⟨rfl, T2⟩
      refine ⟨by rw [e], ?_⟩
      rw [if_pos (by rw [e]; exact decide_eq_true h1)]
      rw [e]
      exact ⟨h1, by omega, va, vt, us, T2⟩
  · exact ⟨by rw [SP.hits_zero]; simp; omega, by omega, _, _, _, T⟩
  · rintro e w' ⟨rfl, h1⟩
    refine ⟨rfl, ?_⟩
    rcases h1 with ⟨h1, _, va, vt, us, T1⟩ | h1
    · have hfe : SP.hits R g slot m g.n = SP.found R g slot m := (List.take_of_length_le (by omega)).symm
      rw [hfe] at T1
      exact ⟨va, vt, us, T1⟩
    · exact h1

theorem sread_err (h : SI F w s a g R) {slot : Int} {m : Nat} (hy : SP.why R g slot ≠ 0) :
    Calls Tryz.prog 14 #[ptr s, .int .i64 slot, .int .u64 (m : Int)] w fun e w' => e = .returned (.tuple #[.slice none 0 0, .int .i64 (SP.why R g slot : Int)]) ∧ w.grownBy w' none := by
  obtain ⟨y, hy1⟩ : ∃ y, y = SP.why R g slot := ⟨_, rfl⟩
  have HR : Hid (∀ w', w.grownBy w' none → Calls Tryz.prog 45 #[ptr s, .int .i64 slot] w' fun e w'' => e = .returned (.int .i64 (y : Int)) ∧ w'' = w') := fun w' g1 => by rw [hy1]; exact sreach_yes (h.keep g1) slot
  rw [← hy1] at hy ⊢
  have hne : ((y : Int) != 0) = true := neb_yes (b := 0) hy
  have HG : Hid (∀ A B T T', w.grownBy ((w.alloc (.cells A T)).alloc (.cells B T')) none) := fun A B T T' => gb_alloc (World.grownBy_alloc w _ none) _
  clear h hy hy1
  go_enter Tryz.func14, Tryz.ntmps14
  go_wp2_with (go_at_call 45; refine (HR.out _ (HG.out _ _ _ _)).mono ?_; rintro e w9 ⟨rfl, hw9⟩; obtain rfl := hw9.symm; clear hw9)
  go_ret2
  exact ⟨rfl, HG.out _ _ _ _⟩
theorem sread_arg (h : SI F w s a g R) {slot : Int} (hy : SP.why R g slot = 0) :
    Calls Tryz.prog 14 #[ptr s, .int .i64 slot, .int .u64 0] w fun e w' => e = .returned (.tuple #[.slice none 0 0, .int .i64 1]) ∧ w.grownBy w' none := by
  have HR : Hid (∀ w', w.grownBy w' none → Calls Tryz.prog 45 #[ptr s, .int .i64 slot] w' fun e w'' => e = .returned (.int .i64 0) ∧ w'' = w') := fun w' g1 => sreach_at (h.keep g1) (by rw [hy]; rfl)
  have HG : Hid (∀ A B T T', w.grownBy ((w.alloc (.cells A T)).alloc (.cells B T')) none) := fun A B T T' => gb_alloc (World.grownBy_alloc w _ none) _
  clear h hy
  go_enter Tryz.func14, Tryz.ntmps14
  go_wp2_with (go_at_call 45; refine (HR.out _ (HG.out _ _ _ _)).mono ?_; rintro e w9 ⟨rfl, hw9⟩; obtain rfl := hw9.symm; clear hw9)
  go_ret2
  exact ⟨rfl, HG.out _ _ _ _⟩
theorem rdi_start (w : World) (s m : Nat) : RdI w (w.heap.size + 1) (w.heap.size + 1 + 1) (w.heap.size + 1 + 1 + 1) w.heap.size s m ((((w.alloc (.cells #[ptr s] 27)).alloc (.cells #[.int .u64 (m : Int)] 39)).alloc (.cells #[.slice none 0 0] 95)).alloc (.cells #[.slice none 0 0] 87)) (.slice none 0 0) (.slice none 0 0) [] (.slice none 0 0) (.slice none 0 0) [] [] := by
  have b1 := Boxed.new w 27 (ptr s)
  have b2 := Boxed.new (w.alloc (.cells #[ptr s] 27)) 39 (.int .u64 (m : Int))
  have b3 := Boxed.new ((w.alloc (.cells #[ptr s] 27)).alloc (.cells #[.int .u64 (m : Int)] 39)) 95 (.slice none 0 0)
  have b4 := Boxed.new (((w.alloc (.cells #[ptr s] 27)).alloc (.cells #[.int .u64 (m : Int)] 39)).alloc (.cells #[.slice none 0 0] 95)) 87 (.slice none 0 0)
  rw [World.size_alloc] at b2
  rw [World.size_alloc, World.size_alloc] at b3
  rw [World.size_alloc, World.size_alloc, World.size_alloc] at b4
  exact ⟨(b2.alloc _).alloc _, b3.alloc _, b4, ((b1.alloc _).alloc _).alloc _, IOwn.nil _ _, RMat.nil _ _ _, by omega, by omega, gb_alloc (gb_alloc (gb_alloc (World.grownBy_alloc w _ none) _) _) _⟩

set_option maxHeartbeats 6400000 in
theorem sread_main (h : SI F w s a g R) {slot m : Nat} (hy : SP.why R g (slot : Int) = 0) (hm : m ≠ 0) :
    Calls Tryz.prog 14 #[ptr s, .int .i64 (slot : Int), .int .u64 (m : Int)] w fun e w' => ∃ v er out, e = .returned (.tuple #[v, .int .i64 ((er : Nat) : Int)]) ∧ SP.RdP R g (slot : Int) m out er ∧ Own w.heap.size w' v out ∧ w.grownBy w' none := by
  have HR : Hid (∀ w', w.grownBy w' none → Calls Tryz.prog 45 #[ptr s, .int .i64 (slot : Int)] w' fun e w'' => e = .returned (.int .i64 0) ∧ w'' = w') := fun w' g1 => sreach_at (h.keep g1) (by rw [hy]; rfl)
  obtain ⟨q0, q1, q2⟩ := SP.why_zero hy
  have HW : Hid (∀ B0 A D Sb w4, RdI w B0 A D Sb s m w4 (.slice none 0 0) (.slice none 0 0) [] (.slice none 0 0) (.slice none 0 0) [] [] → Calls Tryz.prog 55 #[ptr s, .int .i64 (slot : Int), .func (.func 56) #[] #[.pointer (some ⟨B0, 0, none⟩), .pointer (some ⟨A, 0, none⟩), .pointer (some ⟨D, 0, none⟩), .pointer (some ⟨Sb, 0, none⟩)]] w4 fun e w' =>
      e = .returned (.tuple #[]) ∧ ∃ va vt us, RdI w B0 A D Sb s m w' va va (SP.found R g slot m) vt vt us (SP.told R g slot (SP.found R g slot m))) := fun B0 A D Sb w4 T => rd_walk h q0 (by omega) T
  have HG : Hid (∀ A B T T', w.grownBy ((w.alloc (.cells A T)).alloc (.cells B T')) none) := fun A B T T' => gb_alloc (World.grownBy_alloc w _ none) _
  have HS : Hid (∀ w', w.grownBy w' none → w'.cell? ⟨s, 1, none⟩ = some (.int .i64 (g.k : Int)) ∧ w'.cell? ⟨s, 2, none⟩ = some (.int .i64 (g.n : Int))) := fun w' g' => ⟨(h.keep g').at2, (h.keep g').at3⟩
  have T0 : Hid (RdI w _ _ _ _ s m _ _ _ _ _ _ _ _) := rdi_start w s m
  have hne : ((m : Int) == 0) = false := eqb_no (b := 0) hm
  have HY : Hid (SP.why R g (slot : Int) = 0 ∧ m ≠ 0 ∧ g.Ok R) := ⟨hy, hm, h.ok⟩
  have HP : Hid (SP.Pick R g slot (SP.found R g slot m)) := SP.found_pick R g slot m
  have HFL : Hid (g.k ≤ (SP.hits R g slot m g.n).length → (SP.found R g slot m).length = g.k) := SP.found_len
  have HFS : Hid (¬ g.k ≤ (SP.hits R g slot m g.n).length → (SP.found R g slot m).length < g.k) := fun hh => by simp [SP.found]; omega
  clear h hy hm q0 q1 q2
  go_enter Tryz.func14, Tryz.ntmps14
  go_wp2_with (first
    | (go_at_call 45; refine (HR.out _ (HG.out _ _ _ _)).mono ?_; rintro e w9 ⟨rfl, hw9⟩; obtain rfl := hw9.symm; clear hw9)
    | (go_at_call 55; refine (HW.out _ _ _ _ _ T0.out).mono ?_; rintro e w5 ⟨rfl, va, vt, us, t5⟩; obtain ⟨ap, an, ac, rfl, ha⟩ := t5.ia.ivec.opened; obtain ⟨tp, tn, tc, rfl, ht⟩ := t5.mt.mat.row.opened; have T5 : Hid (RdI w _ _ _ _ s m w5 (.slice ap an ac) (.slice ap an ac) (SP.found R g slot m) (.slice tp tn tc) (.slice tp tn tc) us (SP.told R g slot (SP.found R g slot m))) := t5; have HAN : Hid (an = (SP.found R g slot m).length) := (by show _ = _; rw [ha, SP.ints_len]); clear t5 ha ht))
  have HC5 : Hid (∀ w', w5.grownBy w' none → w'.cell? ⟨w.heap.size + 1 + 1, 0, none⟩ = some (.slice ap an ac) ∧ w'.cell? ⟨w.heap.size + 1 + 1 + 1, 0, none⟩ = some (.slice tp tn tc) ∧ w'.cell? ⟨w.heap.size, 0, none⟩ = some (ptr s) ∧ w'.cell? ⟨s, 1, none⟩ = some (.int .i64 (g.k : Int)) ∧ w'.cell? ⟨s, 2, none⟩ = some (.int .i64 (g.n : Int))) := fun w' g' => ⟨(T5.out.keep g').ba.cell, (T5.out.keep g').bd.cell, (T5.out.keep g').bs.cell, HS.out w' (T5.out.keep g').gr⟩
  clear T0 HW HR HG HS
  go_region_held3 (fun w' => w'.cell? ⟨w.heap.size + 1 + 1, 0, none⟩ = some (.slice ap an ac) ∧ w'.cell? ⟨w.heap.size, 0, none⟩ = some (ptr s) ∧ w'.cell? ⟨s, 1, none⟩ = some (.int .i64 (g.k : Int))) (exact ⟨(HC5.out _ (grown_drewN w5 1)).1, (HC5.out _ (grown_drewN w5 1)).2.2.1, (HC5.out _ (grown_drewN w5 1)).2.2.2.1⟩) (fail)
  by_cases hk : g.k ≤ (SP.hits R g slot m g.n).length
  · have hfl := HFL.out hk
    have i1 : ¬ (an : Int) < (g.k : Int) := by have := HAN.out; omega
    have DEC : Hid (∀ w', w.grownBy w' none → w5.grownBy w' none → Calls Tryz.prog 57 #[.int .i64 (g.k : Int), .int .i64 (g.n : Int), .slice ap an ac, .slice tp tn tc] w' fun e w'' => ∃ p m' c us' D, e = .returned (.tuple #[.slice p m' c, .int .i64 0]) ∧ OwnMat w'.heap.size w'' (.slice p m' c) us' D ∧ Shape D g.k 448 ∧ SP.RdP R g (slot : Int) m D.flatten 0 ∧ w'.grownBy w'' none) := fun w' _ g1 => by
      have T6 := T5.out.keep g1
      have hok := HP.out.ok HY.out.2.2
      have hL : ((SP.told R g slot (SP.found R g slot m)).getD 0 []).length = 448 := HP.out.row (by have := HY.out.2.2.k1; omega)
      refine (decode_yes (k := g.k) (n := g.n) T6.ia.ivec T6.mt.mat hok (by rw [SP.ints_len]; omega)).mono ?_
      rintro e w2 ⟨p, m', c, us', D, rfl, om, _, sh, tl, gg⟩
      rw [hL] at sh
      refine ⟨p, m', c, us', D, rfl, om, sh, ?_, gg⟩
      unfold SP.RdP
      rw [Int.toNat_natCast]
      refine .inr (.inr (.inr ⟨HY.out.1, HY.out.2.1, hk, rfl, D, 0, .inr (.inr ⟨hok, by rw [SP.ints_len]; omega, rfl, ?_⟩), rfl⟩))
      rw [Int.toNat_natCast]
      exact tl
    have HKK : Hid (1 ≤ g.k ∧ g.k ≤ 255) := ⟨HY.out.2.2.k1, by have := HY.out.2.2.kn; have := HY.out.2.2.n255; omega⟩
    clear HP HFL HFS hfl hk
    go_wp2_with fail
    go_region_held3 (fun w' => w'.cell? ⟨w.heap.size + 1 + 1, 0, none⟩ = some (.slice ap an ac) ∧ w'.cell? ⟨w.heap.size + 1 + 1 + 1, 0, none⟩ = some (.slice tp tn tc) ∧ w'.cell? ⟨w.heap.size, 0, none⟩ = some (ptr s) ∧ w'.cell? ⟨s, 1, none⟩ = some (.int .i64 (g.k : Int)) ∧ w'.cell? ⟨s, 2, none⟩ = some (.int .i64 (g.n : Int))) (first | exact HC5.out _ (grown_trans (grown_drewN w5 1) (grown_drewN _ 1)) | exact HC5.out _ (grown_trans (grown_trans (grown_drewN w5 1) (grown_drewN _ 1)) G7.out))
      ((go_at_call 57; refine (DEC.out _ (grown_trans T5.out.gr (grown_trans (grown_drewN w5 1) (grown_drewN _ 1))) (grown_trans (grown_drewN w5 1) (grown_drewN _ 1))).mono ?_; rintro e w7 ⟨p7, m7, c7, us7, D7, rfl, om7, sh7, rp7, g7⟩; have M7 : Hid (Mat w7 (.slice p7 m7 c7) us7 D7) := om7.mat; have S7 : Hid (Shape D7 g.k 448 ∧ SP.RdP R g (slot : Int) m D7.flatten 0) := ⟨sh7, rp7⟩; have G7 : Hid (((w5.drewN 1).drewN 1).grownBy w7 none) := g7; clear om7 sh7 rp7 g7))
    have GW : Hid (w.grownBy w7 none) := grown_trans (grown_trans T5.out.gr (grown_trans (grown_drewN w5 1) (grown_drewN _ 1))) G7.out
    have CC : Hid (Calls Tryz.prog 58 #[.slice p7 m7 c7] w7 fun e w' => ∃ v, e = .returned v ∧ Own w7.heap.size w' v D7.flatten ∧ w7.grownBy w' none) := by
      have hl := S7.out.1.len
      have hr := S7.out.1.row
      have := HKK.out
      exact concat_yes M7.out (by omega) (by omega) (fun j hj => hr j (by omega))
    clear DEC HC5 T5
    go_wp2_with (go_at_call 58; refine CC.out.mono ?_; rintro e w8 ⟨v8, rfl, o8, g8⟩; have O8 : Hid (Own w.heap.size w8 v8 D7.flatten) := o8.down GW.out.size; have G8 : Hid (w.grownBy w8 none) := grown_trans GW.out g8; clear o8 g8)
    go_ret2
    exact ⟨_, 0, _, rfl, S7.out.2, O8.out, G8.out⟩
  · have hfs := HFS.out hk
    have i1 : (an : Int) < (g.k : Int) := by have := HAN.out; omega
    have HK : Hid (¬ g.k ≤ (SP.hits R g slot m g.n).length) := hk
    clear hfs hk HP HFL HFS
    go_wp2_with fail
    go_ret2
    refine ⟨_, 20, [], rfl, ?_, Own.nil _ _, grown_trans T5.out.gr (grown_drewN w5 1)⟩
    unfold SP.RdP
    rw [Int.toNat_natCast]
    exact .inr (.inr (.inl ⟨HY.out.1, HY.out.2.1, by have := HK.out; omega, rfl, rfl⟩))

/-- What Read answers, whatever is asked. -/
theorem sread_all (h : SI F w s a g R) (slot : Int) (m : Nat) :
    Calls Tryz.prog 14 #[ptr s, .int .i64 slot, .int .u64 (m : Int)] w fun e w' => ∃ v er out, e = .returned (.tuple #[v, .int .i64 ((er : Nat) : Int)]) ∧ SP.RdP R g slot m out er ∧ Own w.heap.size w' v out ∧ w.grownBy w' none := by
  by_cases hy : SP.why R g slot = 0
  · by_cases hm : m = 0
    · subst hm
      refine (sread_arg h hy).mono ?_
      rintro e w' ⟨rfl, g1⟩
      exact ⟨_, 1, [], rfl, .inr (.inl ⟨hy, rfl, rfl, rfl⟩), Own.nil _ _, g1⟩
    · obtain ⟨_, q1, _⟩ := SP.why_zero hy
      obtain ⟨n, rfl⟩ : ∃ n : Nat, slot = (n : Int) := ⟨slot.toNat, by omega⟩
      exact sread_main h hy hm
  · refine (sread_err h hy).mono ?_
    rintro e w' ⟨rfl, g1⟩
    exact ⟨_, _, [], rfl, .inl ⟨hy, rfl, rfl⟩, Own.nil _ _, g1⟩
end
end Go.Proofs.YtfjlpifaaknmpaaGreat

/- The contract of stripe.parts. -/
set_option linter.unusedSimpArgs false
set_option linter.unusedVariables false
set_option maxRecDepth 100000
namespace Go.Proofs.YtfjlpifaaknmpaaGreat
open Go.RowKit

theorem slice_lhh {b off n c lo hi : Nat} (h1 : lo ≤ hi) (h2 : hi ≤ c) (h3 : lo < hi) (W : World) : (Instr.slice 40 (.slice (some ⟨b, off, none⟩) n c) (some (.int .i64 (lo : Int))) (some (.int .i64 (hi : Int))) (some (.int .i64 (hi : Int)))).run Tryz.prog W = .ok (.slice (some ⟨b, off + lo, none⟩) (hi - lo) (hi - lo)) W := by
  obtain ⟨i0, hi0, hz0, hz1, hz2⟩ := info_parts Tryz.info5
  have e0 : (Instr.sliceBound (.int .i64 (hi : Int)) c .slice3Acap).run Tryz.prog W = .ok hi W := by
    have := run_sliceBound (P := Tryz.prog) W .i64 (hi : Int) c .slice3Acap (by omega) (by omega)
    simpa using this
  have e1 : (Instr.sliceBound (.int .i64 (hi : Int)) hi .slice3B).run Tryz.prog W = .ok hi W := by
    have := run_sliceBound (P := Tryz.prog) W .i64 (hi : Int) hi .slice3B (by omega) (by omega)
    simpa using this
  have e2 : (Instr.sliceBound (.int .i64 (lo : Int)) hi .slice3C).run Tryz.prog W = .ok lo W := by
    have := run_sliceBound (P := Tryz.prog) W .i64 (lo : Int) hi .slice3C (by omega) (by omega)
    simpa using this
  have h4 : ¬ hi = lo := by omega
  simp [Instr.slice, run_underlying Tryz.underlying40, Instr.sliceBounds, e0, e1, e2, sizeOf, typeInfo, hi0, hz1, h4, add_off]

/-- The parts of the bytes at ⟨b, off⟩. -/
def cutsAt (b off j : Nat) : List Value := (List.range j).map fun i => .slice (some ⟨b, off + 448 * i, none⟩) 448 448
theorem cutsAt_len (b off j : Nat) : (cutsAt b off j).length = j := by simp [cutsAt]
theorem cutsAt_succ (b off j : Nat) : cutsAt b off (j + 1) = cutsAt b off j ++ [.slice (some ⟨b, off + 448 * j, none⟩) 448 448] := by simp [cutsAt, List.range_succ]
theorem Vec.part {w : World} {b off n c i : Nat} {xs : List Nat} (h : Vec w (.slice (some ⟨b, off, none⟩) n c) xs) (hi : 448 * i + 448 ≤ xs.length) : Vec w (.slice (some ⟨b, off + 448 * i, none⟩) 448 448) ((xs.drop (448 * i)).take 448) := by
  have hl : ((xs.drop (448 * i)).take 448).length = 448 := by simp; omega
  refine ⟨fun x hx => h.small x (List.mem_of_mem_drop (List.mem_of_mem_take hx)), by omega, some ⟨b, off + 448 * i, none⟩, 448, by rw [hl], by omega, by decide, fun _ => ⟨b, off + 448 * i, rfl, fun j hj => ?_⟩⟩
  rw [hl] at hj
  obtain ⟨p', cap', e, h3, h4, h5⟩ := h.form
  injection e with e1 e2 e3
  obtain ⟨b', off', e', hc⟩ := h5 (fun e => by subst e; simp at hi)
  rw [← e1] at e'
  injection e' with e'
  injection e' with e3 e4
  subst e3
  subst e4
  rw [Nat.add_assoc, hc (448 * i + j) (by omega)]
  simp [List.getD, hj]
theorem cuts_mat {w : World} {B b off n c k : Nat} {v : Value} {xs : List Nat} (h : Vec w (.slice (some ⟨b, off, none⟩) n c) xs) (hl : xs.length = k * 448) (o : Out B w v (cutsAt b off k)) : Mat w v (cutsAt b off k) (SP.parts xs k) :=
  ⟨o.cells, by rw [cutsAt_len, SP.parts_len], fun j hj => by
    rw [SP.parts_len] at hj
    rw [SP.parts_get xs hj, show (cutsAt b off k).getD j undef = .slice (some ⟨b, off + 448 * j, none⟩) 448 448 from by simp [cutsAt, List.getD, hj]]
    exact h.part (by have : (j + 1) * 448 ≤ k * 448 := Nat.mul_le_mul_right _ hj
                     omega)⟩

set_option maxHeartbeats 3200000 in
theorem sparts_yes {w : World} {v : Value} {xs : List Nat} {k : Nat} (hv : Vec w v xs) (hk : 1 ≤ k) (hk2 : k ≤ 255) (hl : xs.length = k * 448) :
    Calls Tryz.prog 47 #[v] w fun e w' => ∃ u us, e = .returned u ∧ Mat w' u us (SP.parts xs k) ∧ w.grownBy w' none := by
  obtain ⟨q, N, cap, rfl, hN⟩ := hv.opened
  obtain ⟨b, off, rfl, _⟩ := hv.spot (k := 0) (by omega)
  have hcap : N ≤ cap := by
    obtain ⟨p', cap', e, h3, _⟩ := hv.form
    injection e with e1 e2 e3
    omega
  have HV : Hid (Vec w (.slice (some ⟨b, off, none⟩) N cap) xs) := hv
  have hq : (N : Int) / 448 = (k : Int) := by omega
  obtain ⟨w1, hmk, hrow, g1⟩ := run_make_rows0 w (n := k) (by omega)
  have HR : Hid (w1.ownsRow w.heap.size 40 1 (.slice (some ⟨w.heap.size, 0, none⟩) 0 k) 0 []) := hrow
  have HG : Hid (w.grownBy w1 none) := g1
  have HN : Hid (N = 448 * k ∧ xs.length = k * 448 ∧ N ≤ cap ∧ k ≤ 255) := ⟨by omega, hl, hcap, hk2⟩
  clear hv hN hcap hl hrow g1
  go_enter Tryz.func47, Tryz.ntmps47
  go_wp2_with fail
  clear hmk hq
  go_loopw [3, 4] (fun tl ti wr => ∃ j : Nat, j ≤ k ∧ ti = .int .i64 ((448 * j : Nat) : Int) ∧ Hid (Out w.heap.size wr tl (cutsAt b off j)) ∧ Hid (w.grownBy wr none)) (fun _ ti _ => 448 * k - (intOf ti).toNat)
  case atStart => exact ⟨0, by omega, rfl, ⟨by simp [cutsAt], HR.out⟩, HG⟩
  case round =>
    clear HR HG
    obtain ⟨j, hj, rfl, OK, GK⟩ := hrel
    obtain ⟨t, ht⟩ : ∃ t, t = 448 * j := ⟨_, rfl⟩
    rw [← ht]
    have HT : Hid (t = 448 * j) := ht
    by_cases hlt : j < k
    · have i3 : (t : Int) < (N : Int) := by have := HN.out; omega
      have hn1 : (j + 1) * 448 ≤ k * 448 := Nat.mul_le_mul_right _ hlt
      obtain ⟨t1, ht1⟩ : ∃ t1, t1 = t + 448 := ⟨_, rfl⟩
      have hw : IntKind.i64.wrap ((t : Int) + 448) = (t1 : Int) := by
        have e : (t : Int) + 448 = (t1 : Int) := by omega
        rw [e]
        exact IntWalk.i64_in _ (by have := HN.out; omega)
      have hsl := fun W => slice_lhh (b := b) (off := off) (n := N) (c := cap) (lo := t) (hi := t1) (by omega) (by have := HN.out; omega) (by omega) W
      rw [show t1 - t = 448 by omega] at hsl
      have HT1 : Hid (t1 = 448 * (j + 1)) := by show _ = _; omega
      have HL : Hid ((((cutsAt b off j).length + 1) * 24 ≤ 140737488351232)) := by show _ ≤ _; rw [cutsAt_len]; have := HN.out; omega
      have HS : Hid (cutsAt b off (j + 1) = cutsAt b off j ++ [.slice (some ⟨b, off + t, none⟩) 448 448]) := by rw [ht]; exact cutsAt_succ b off j
      have HLN : Hid ((cutsAt b off j).length = j) := cutsAt_len b off j
      clear ht ht1 hn1
      generalize cutsAt b off j = CJ at *
      go_wp2_with (at_builtin; refine wpList_append_row rfl _ _ rfl _ ⟨wr.heap.size, 0, none⟩ rfl rfl (OK.out.keep (World.grownBy_alloc wr _ none)).row (cell_new1 _ _ rfl) rfl (gb_alloc GK.out _).size HL.out ?_; intro v3 w3 r3 g3 at3; have M3 : Hid (Out w.heap.size w3 v3 (CJ ++ [.slice (some ⟨b, off + t, none⟩) 448 448])) := ⟨by have := HL.out; simpa using this, by simpa using r3⟩; have G3 : Hid (w.grownBy w3 none) := grown_new (gb_alloc GK.out _) g3 (fun i e => OK.out.lo i e); clear r3 g3 at3)
      go_roundw
      case rel => exact ⟨j + 1, by omega, by rw [HT1.out], by rw [HS.out]; exact M3.out, G3⟩
      case measure =>
        have := HT1.out
        have := HT.out
        have := HN.out
        simp [intOf]
        omega
    · have i3 : ¬ (t : Int) < (N : Int) := by have := HN.out; omega
      have hjk : j = k := by omega
      subst hjk
      clear ht
      go_wp2
      go_ret
      first
        | exact ⟨_, _, rfl, cuts_mat (HV.out.keep GK.out) HN.out.2.1 OK.out, GK.out⟩
        | exact ⟨_, rfl, ⟨_, cuts_mat (HV.out.keep GK.out) HN.out.2.1 OK.out⟩, GK.out⟩
end Go.Proofs.YtfjlpifaaknmpaaGreat

/- The contract of hayricklaw03.spoil: it changes nothing but the matrix's own rows. -/
set_option maxRecDepth 100000
namespace Go.Proofs.YtfjlpifaaknmpaaGreat
open Go.RowKit

/-- Rows of the call's own from block H on, whatever they read as. -/
structure Part (H : Nat) (w : World) (v : Value) (us : List Value) : Prop where
  len : us.length * 24 ≤ 140737488351232
  row : w.ownsRow H 40 1 v us.length us
  vec : ∀ j, j < us.length → ∃ xs, Own H w (us.getD j undef) xs
/-- Several such matrices, in a world that has grown out of w0. -/
structure Rags (w0 : World) (H : Nat) (w : World) (ms : List (Value × List Value)) : Prop where
  all : ∀ m ∈ ms, Part H w m.1 m.2
  lt : w0.heap.size ≤ H
  gr : w0.grownBy w none

theorem OwnMat.part {B H : Nat} {w : World} {v : Value} {us : List Value} {X : List (List Nat)} (h : OwnMat B w v us X) (hB : H ≤ B) : Part H w v us :=
  have h' : OwnMat H w v us X := ⟨h.len, ⟨h.row.1, by
    rcases h.row.2 with h | ⟨g, cp, cur, a1, a2, a3⟩
    · exact .inl h
    · exact .inr ⟨g, cp, cur, a1, by omega, a3⟩⟩, h.same, fun j hj => (h.vec j hj).down hB⟩
  ⟨h'.len, h'.row, fun j hj => ⟨_, h'.vec j (by have := h'.same; omega)⟩⟩
theorem Part.keep {H : Nat} {w w' : World} {v : Value} {us : List Value} (h : Part H w v us) (g : w.grownBy w' none) : Part H w' v us :=
  ⟨h.len, h.row.kept g (by cases h : v.ownBlock <;> simp), fun j hj => by obtain ⟨xs, o⟩ := h.vec j hj; exact ⟨xs, o.keep g⟩⟩

theorem Part.cells {H : Nat} {w : World} {v : Value} {us : List Value} (h : Part H w v us) : Cells w v us := Out.cells (B := H) ⟨h.len, h.row⟩

theorem Rags.at {w0 w : World} {H : Nat} {ms : List (Value × List Value)} {v : Value} {us : List Value} (h : Rags w0 H w ms) (hm : (v, us) ∈ ms) : Part H w v us := h.all _ hm

/-- A place of a row is written. -/
theorem Rags.poke {w0 w : World} {H : Nat} {ms : List (Value × List Value)} {v : Value} {us : List Value} (h : Rags w0 H w ms) (hm : (v, us) ∈ ms) {k : Nat} {p : Option Addr} {n c : Nat} (hk : k < us.length) (ek : us.getD k undef = .slice p n c) {j : Nat} (hj : j < n) :
    ∃ g x, p = some ⟨g, 0, none⟩ ∧ x < 256 ∧ w.cell? ⟨g, j, none⟩ = some (.int .u8 ((x : Nat) : Int)) ∧ w.frozen? ⟨g, j, none⟩ = false ∧ ∀ z : Nat, z < 256 → Rags w0 H (w.setCell ⟨g, j, none⟩ (.int .u8 (z : Int))) ms := by
  obtain ⟨xs, o⟩ := (h.at hm).vec k hk
  rw [ek] at o
  obtain ⟨p', n', c', e', hn'⟩ := o.vec.opened
  injection e' with e1 e2 e3
  obtain ⟨g, rfl, hnn, hc, hf, h256, hset, hgrow⟩ := o.spot (k := j) (by omega)
  have hlo := o.lo g rfl
  have hlt := h.lt
  refine ⟨g, _, rfl, h256, hc, hf, fun z hz => ⟨fun m hmm => ⟨(h.all m hmm).len, (h.all m hmm).row.kept (hgrow _) ?_, fun i hi => ?_⟩, h.lt, grown_new h.gr (hgrow _) (fun i e => by have := Option.some.inj e; omega)⟩⟩
  · exact Ap.symm (show Ap (.slice (some ⟨g, 0, none⟩) n c) m.1 from apart_kinds (h.all m hmm).row o)
  · obtain ⟨ys, oy⟩ := (h.all m hmm).vec i hi
    rcases oy.row.2 with ⟨ev, hz0⟩ | ⟨gi, ci, cur, ev, hb, hgi, hc1, hmx, hcs, ht⟩
    · exact ⟨ys, oy.kept (hgrow _) (by rw [ev]; exact .inl rfl)⟩
    · by_cases hgg : gi = g
      · subst hgg
        by_cases hjy : j < ys.length
        · obtain ⟨g2, e2, _, _, _, _, hset2, _⟩ := (show Own H w (.slice (some ⟨gi, 0, none⟩) ys.length ci) ys by rw [← ev]; exact oy).spot (k := j) hjy
          obtain rfl : gi = g2 := (by injection e2 with e2; injection e2 with e2)
          exact ⟨_, by rw [ev]; exact hset2 z hz⟩
        · refine ⟨ys, oy.small, oy.len, by simp, .inr ⟨gi, ci, cur.setIfInBounds j (.int .u8 (z : Int)), ev, hb, ?_, hc1, hmx, by simpa using hcs, ?_⟩⟩
          · rw [setCell_eq_setRow w gi j cur 5 (0, 0) _ hgi]
            exact setRow_heap w gi cur _ 5 _ hgi
          · simp only [Array.toList_setIfInBounds]
            rw [List.take_set, ht, List.set_eq_of_length_le (by simp; omega)]
      · exact ⟨ys, oy.kept (hgrow _) (by rw [ev]; exact .inr (fun e => hgg (Option.some.inj e)))⟩

end Go.Proofs.YtfjlpifaaknmpaaGreat

/- Rows of the call's own that are spoilt, one by one; great; what Encode and One answer, told once for both. -/
set_option linter.unusedVariables false
set_option maxRecDepth 100000
namespace Go.Proofs.YtfjlpifaaknmpaaGreat
open Go.RowKit

/-- Slices of the call's own from block H on, whatever they read as, and slices of slices, in a world that has grown out of w0. -/
structure Flat (w0 : World) (H : Nat) (w : World) (rows : List (Value × List Value)) (vs : List Value) : Prop where
  out : ∀ m ∈ rows, Out H w m.1 m.2
  vec : ∀ v ∈ vs, ∃ xs, Own H w v xs
  lt : w0.heap.size ≤ H
  gr : w0.grownBy w none

/-- A place of a slice is written. -/
theorem Flat.poke {w0 w : World} {H : Nat} {rows : List (Value × List Value)} {vs : List Value} (h : Flat w0 H w rows vs) {p : Option Addr} {n c : Nat} (hm : Value.slice p n c ∈ vs) {j : Nat} (hj : j < n) :
    ∃ g x, p = some ⟨g, 0, none⟩ ∧ x < 256 ∧ w.cell? ⟨g, j, none⟩ = some (.int .u8 ((x : Nat) : Int)) ∧ w.frozen? ⟨g, j, none⟩ = false ∧ ∀ z : Nat, z < 256 → Flat w0 H (w.setCell ⟨g, j, none⟩ (.int .u8 (z : Int))) rows vs := by
  obtain ⟨xs, o⟩ := h.vec _ hm
  obtain ⟨p', n', c', e', hn'⟩ := o.vec.opened
  injection e' with e1 e2 e3
  obtain ⟨g, rfl, hnn, hc, hf, h256, hset, hgrow⟩ := o.spot (k := j) (by omega)
  have hlo := o.lo g rfl
  have hlt := h.lt
  refine ⟨g, _, rfl, h256, hc, hf, fun z hz => ⟨fun m hmm => (h.out m hmm).kept (hgrow _) ?_, fun u hu => ?_, h.lt, grown_new h.gr (hgrow _) (fun i e => by have := Option.some.inj e; omega)⟩⟩
  · exact Ap.symm (show Ap (.slice (some ⟨g, 0, none⟩) n c) m.1 from apart_kinds (h.out m hmm).row o)
  · obtain ⟨ys, oy⟩ := h.vec u hu
    rcases oy.row.2 with ⟨ev, hz0⟩ | ⟨gi, ci, cur, ev, hb, hgi, hc1, hmx, hcs, ht⟩
    · exact ⟨ys, oy.kept (hgrow _) (by rw [ev]; exact .inl rfl)⟩
    · by_cases hgg : gi = g
      · subst hgg
        by_cases hjy : j < ys.length
        · obtain ⟨g2, e2, _, _, _, _, hset2, _⟩ := (show Own H w (.slice (some ⟨gi, 0, none⟩) ys.length ci) ys by rw [← ev]; exact oy).spot (k := j) hjy
          obtain rfl : gi = g2 := (by injection e2 with e2; injection e2 with e2)
          exact ⟨_, by rw [ev]; exact hset2 z hz⟩
        · refine ⟨ys, oy.small, oy.len, by simp, .inr ⟨gi, ci, cur.setIfInBounds j (.int .u8 (z : Int)), ev, hb, ?_, hc1, hmx, by simpa using hcs, ?_⟩⟩
          · rw [setCell_eq_setRow w gi j cur 5 (0, 0) _ hgi]
            exact setRow_heap w gi cur _ 5 _ hgi
          · simp only [Array.toList_setIfInBounds]
            rw [List.take_set, ht, List.set_eq_of_length_le (by simp; omega)]
      · exact ⟨ys, oy.kept (hgrow _) (by rw [ev]; exact .inr (fun e => hgg (Option.some.inj e)))⟩
theorem Flat.more {w0 w : World} {H : Nat} {rows : List (Value × List Value)} {vs : List Value} (h : Flat w0 H w rows vs) {u : Value} {xs : List Nat} {B : Nat} (o : Own B w u xs) (hB : H ≤ B) : Flat w0 H w rows (u :: vs) :=
  ⟨h.out, fun v hv => by
    rcases List.mem_cons.1 hv with rfl | hv
    · exact ⟨xs, o.down hB⟩
    · exact h.vec v hv, h.lt, h.gr⟩

end Go.Proofs.YtfjlpifaaknmpaaGreat

/- What Encode and One answer, told once for the program and the document. -/
set_option linter.unusedVariables false
set_option maxRecDepth 100000
namespace Go.Proofs.YtfjlpifaaknmpaaGreat
open Go.RowKit

def encL (k n : Int) (X : List (List Nat)) : List (List Nat) := if fitsB k n X then codeList X k.toNat n.toNat (X.getD 0 []).length else []
def encE (k n : Int) (X : List (List Nat)) : Int := if fitsB k n X then 0 else 1
theorem fits_parts {k n : Int} {X : List (List Nat)} (h : fitsB k n X = true) : k = (k.toNat : Int) ∧ n = (n.toNat : Int) ∧ 1 ≤ k.toNat ∧ k.toNat < n.toNat ∧ n.toNat ≤ 255 ∧ Shape X k.toNat (X.getD 0 []).length := by
  obtain ⟨h1, h2, h3⟩ := fitsB_iff.1 h
  refine ⟨by omega, by omega, by omega, by omega, by omega, ?_⟩
  have := even_shape h3
  rwa [show X.length = k.toNat by omega] at this

theorem Sep.none : Sep [] := fun i j hi _ _ => absurd hi (by simp)
theorem made_none {w w' : World} (g : w.grownBy w' none) (er : Int) : Made w [] er (.returned (.tuple #[.slice none 0 0, .int .i64 er])) w' :=
  ⟨none, 0, 0, [], rfl, OwnMat.nil _ _, Sep.none, g⟩

theorem encode_all {w : World} {r : Value} {vs : List Value} {X : List (List Nat)} (k n : Int) (mr : Mat w r vs X) :
    Calls Tryz.prog 46 #[.int .i64 k, .int .i64 n, r] w (Made w (encL k n X) (encE k n X)) := by
  unfold encL encE
  by_cases hf : fitsB k n X = true
  · obtain ⟨e1, e2, h1, h2, h3, hs⟩ := fits_parts hf
    rw [if_pos hf, if_pos hf]
    have := encode_yes mr hs h1 h2 h3
    rwa [← e1, ← e2] at this
  · rw [if_neg hf, if_neg hf]
    refine (encode_no mr (by simpa using hf)).mono ?_
    rintro e w' ⟨rfl, rfl⟩
    exact made_none (World.grownBy.refl _ _) 1
end Go.Proofs.YtfjlpifaaknmpaaGreat

