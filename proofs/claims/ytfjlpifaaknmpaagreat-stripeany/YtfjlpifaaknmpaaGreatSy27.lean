/- Packed: Awk8, OM8, Srt8, Nil8. -/
import Derived.Deep.RegionHeld3
import Derived.Deep.MidRow
import Derived.BigRegion
import Derived.Test.YtfjlpifaaknmpaaGreatSy1
import Derived.Test.YtfjlpifaaknmpaaGreatSy2
import Derived.Test.YtfjlpifaaknmpaaGreatSy3
import Derived.Test.YtfjlpifaaknmpaaGreatSy4
import Derived.Test.YtfjlpifaaknmpaaGreatSy5
import Derived.Test.YtfjlpifaaknmpaaGreatSy6
import Derived.Test.YtfjlpifaaknmpaaGreatSy7
import Derived.Test.YtfjlpifaaknmpaaGreatSy8
import Derived.Test.YtfjlpifaaknmpaaGreatSy9
import Derived.Test.YtfjlpifaaknmpaaGreatSy10
import Derived.Test.YtfjlpifaaknmpaaGreatSy11
import Derived.Test.YtfjlpifaaknmpaaGreatSy12
import Derived.Test.YtfjlpifaaknmpaaGreatSy13
import Derived.Test.YtfjlpifaaknmpaaGreatSy14
import Derived.Test.YtfjlpifaaknmpaaGreatSy15
import Derived.Test.YtfjlpifaaknmpaaGreatSy16
import Derived.Test.YtfjlpifaaknmpaaGreatSy17
import Derived.Test.YtfjlpifaaknmpaaGreatSy18
import Derived.Test.YtfjlpifaaknmpaaGreatSy19
import Derived.Test.YtfjlpifaaknmpaaGreatSy20
import Derived.Test.YtfjlpifaaknmpaaGreatSy21
import Derived.Test.YtfjlpifaaknmpaaGreatSy22
import Derived.Test.YtfjlpifaaknmpaaGreatSy23
import Derived.Test.YtfjlpifaaknmpaaGreatSy24
import Derived.Test.YtfjlpifaaknmpaaGreatSy25
import Derived.Test.YtfjlpifaaknmpaaGreatSy26
import Derived.BigQuiet
/- The contract of hayricklaw08.awake. -/
set_option linter.unusedSimpArgs false
set_option linter.unusedVariables false
set_option maxRecDepth 100000
namespace Go.Proofs.YtfjlpifaaknmpaaGreat
open Go.RowKit

def gA : SP.Geo := ⟨2, 3, 1, 3⟩
def QA0 : AM.Raw := AM.Raw.new 3 11
def QA1 : AM.Raw := (SP.write QA0 gA ((0 : Nat) : Int) 5 (datL 2 7)).2
def QA2 : AM.Raw := (QA1.lose ((1 : Nat) : Int)).2
def QA3 : AM.Raw := (QA2.lose ((2 : Nat) : Int)).2
theorem gA_ok : gA.Ok QA0 := SP.new_geo (k := 2) (N := 3) (S := 1) (f := 3) (n := 11) rfl (by decide) (by decide) (by decide) (by decide) (by decide)
theorem qa0 : QA0.Ok ∧ QA0.ons = 3 ∧ ∀ d : Nat, QA0.on (d : Int) = decide (d < 3) := by
  have h := SP.new_ok (N := 3) (n := 11) (by decide) (by decide) (by decide) (by decide)
  exact ⟨h.1, SP.new_ons (N := 3) (n := 11) gA_ok rfl (by decide) (by decide) (by decide) (by decide), h.2⟩
theorem qa1 : (SP.write QA0 gA ((0 : Nat) : Int) 5 (datL 2 7)).1 = 0 ∧ SP.Wrote QA1 gA 0 5 (datL 2 7) ∧ QA1.off = false ∧ QA1.L.length ≤ 24 ∧ gA.Ok QA1 ∧ ∀ d : Nat, QA1.on (d : Int) = decide (d < 3) := by
  obtain ⟨h1, h2, h3, _, _⟩ := SP.write_sure qa0.1 gA_ok (slot := 0) (m := 5) (by decide) rfl rfl (by decide) (datL_small 2 7) (datL_len 2 7) (by rw [qa0.2.1]; decide)
  refine ⟨h1, h2, h3, ?_, gA_ok.kept (SP.write_kept _ _ _ _ _), fun d => ?_⟩
  · have := SP.write_len (R := QA0) (g := gA) ((0 : Nat) : Int) 5 (datL 2 7) writes_len8
    exact this
  · exact ((SP.write_kept QA0 gA ((0 : Nat) : Int) 5 (datL 2 7)).on (d : Int)).trans (qa0.2.2 d)
theorem qa2 : (QA1.lose ((1 : Nat) : Int)).1 = 0 ∧ SP.Wrote QA2 gA 0 5 (datL 2 7) ∧ QA2.off = false ∧ QA2.L.length ≤ 24 ∧ gA.Ok QA2 ∧ (∀ d : Nat, QA2.on (d : Int) = (decide (d < 3) && !(d == 1))) ∧ QA2.ons = 2 := by
  obtain ⟨_, h2, h3, h4, h5, h6⟩ := qa1
  obtain ⟨l1, l2⟩ := SP.lose_yes (R := QA1) (d := 1) (by rw [h6]; decide)
  have hon : ∀ d : Nat, QA2.on (d : Int) = (decide (d < 3) && !(d == 1)) := fun d => (l2 d).trans (by rw [h6])
  have hg : gA.Ok QA2 := SP.lose_geo h5 _
  refine ⟨l1, h2.lose _, (SP.lose_off _ _).trans h3, Nat.le_trans (SP.lose_L _ _) h4, hg, hon, ?_⟩
  rw [← SP.ons_filter hg]
  have e : (fun d : Nat => QA2.on (d : Int)) = fun d : Nat => (decide (d < 3) && !(d == 1)) := by funext d; exact hon d
  rw [e]
  decide
theorem qa3 : SP.Wrote QA3 gA 0 5 (datL 2 7) ∧ QA3.off = false ∧ QA3.L.length ≤ 24 ∧ gA.Ok QA3 ∧ QA3.on ((0 : Nat) : Int) = true ∧ QA3.ons = 1 := by
  obtain ⟨_, h2, h3, h4, h5, h6, _⟩ := qa2
  obtain ⟨l1, l2⟩ := SP.lose_yes (R := QA2) (d := 2) (by rw [h6]; decide)
  have hon : ∀ d : Nat, QA3.on (d : Int) = ((decide (d < 3) && !(d == 1)) && !(d == 2)) := fun d => (l2 d).trans (by rw [h6])
  have hg : gA.Ok QA3 := SP.lose_geo h5 _
  refine ⟨h2.lose _, (SP.lose_off _ _).trans h3, Nat.le_trans (SP.lose_L _ _) h4, hg, (hon 0).trans (by decide), ?_⟩
  rw [← SP.ons_filter hg]
  have e : (fun d : Nat => QA3.on (d : Int)) = fun d : Nat => ((decide (d < 3) && !(d == 1)) && !(d == 2)) := by funext d; exact hon d
  rw [e]
  decide

set_option maxHeartbeats 6400000 in
theorem awake8 (w : World) : Calls Tryz.prog 6 #[] w fun e w' => e = .returned (.bool true) ∧ w.grownBy w' none := by
  have MD : Hid (Calls Tryz.prog 7 #[.int .i64 2, .int .i64 1, .int .i64 1, .int .i64 3] w fun e w' => ∃ s t, e = .returned (.tuple #[ptr s, .pointer (some ⟨t, 0, none⟩)]) ∧ ∃ F G a r, Duo F G w w' s a t r gA QA0) := made8_yes w (k := 2) (more := 1) (S := 1) (f := 3) (by decide) (by decide) (by decide) (by decide) (by decide) (by decide)
  have DT : Hid (∀ w', Calls Tryz.prog 10 #[.int .i64 2, .int .u8 7] w' fun e w'' => ∃ p n c, e = .returned (.slice p n c) ∧ Own w'.heap.size w'' (.slice p n c) (datL 2 7) ∧ w'.grownBy w'' none) := fun w' => data_yes w' (k := 2) (x := 7) (by decide) (by decide) (by decide)
  go_enter Tryz.func6, Tryz.ntmps6
  go_wp2_with (first
    | (go_at_call 7; refine MD.out.mono ?_; rintro e w1 ⟨s, t, rfl, F1, G1, a, r, du⟩; have I1 : Hid (SI F1 w1 s a gA QA0) := du.i; have B1 : Hid (Base w F1 w1) := ⟨du.gr, du.bi⟩; clear du)
    | fail)
  clear MD
  refine (DT.out w1).mono ?_
  rintro e w2 ⟨p2, n2, c2, rfl, o2, g2⟩
  have V2 : Hid (Aw F1 w2 (.slice p2 n2 c2) (datL 2 7)) := o2.aw I1.out.i.lt
  have I2 : Hid (SI F1 w2 s a gA QA0) := I1.out.keep g2
  have B2 : Hid (Base w F1 w2) := B1.out.keep g2
  clear o2 g2 I1 B1
  have WR : Hid (Calls Tryz.prog 11 #[ptr s, .int .i64 0, .int .u64 5, .slice p2 n2 c2] w2 fun e w' => e = .returned (.int .i64 0) ∧ ∃ F', SI F' w' s a gA QA1 ∧ Base w F' w') := by
    have h0 := swrite_all I2.out ((0 : Nat) : Int) 5 V2.out (by decide)
    rw [qa1.1] at h0
    refine h0.mono ?_
    rintro e w' ⟨rfl, F', i, st⟩
    exact ⟨rfl, F', i, B2.out.step st⟩
  clear V2
  go_wp2_with (first
    | (go_at_call 11; refine WR.out.mono ?_; rintro e w3 ⟨rfl, F3, i3, b3⟩; have I3 : Hid (SI F3 w3 s a gA QA1) := i3; have B3 : Hid (Base w F3 w3) := b3; clear i3 b3)
    | (go_at_call 9; refine (sarray_yes I3.out).mono ?_; rintro e w9 ⟨rfl, hw9⟩; obtain rfl := hw9.symm; clear hw9)
    | fail)
  clear WR I2 B2
  have L1 : Hid (Calls Tryz.prog 25 #[ptr a, .int .i64 1] w3 fun e w' => e = .returned (.int .i64 0) ∧ ∃ F', SI F' w' s a gA QA2 ∧ Base w F' w') := by
    refine (lose_at (d := ((1 : Nat) : Int)) I3.out.i (by have := qa1.2.2.2.1; omega) (c := 0) (by rw [qa2.1]; rfl) rfl).mono ?_
    rintro e w' ⟨rfl, F', i, st⟩
    exact ⟨rfl, F', I3.out.step i st qa2.2.2.2.2.1, B3.out.step st⟩
  go_wp2_with (first
    | (go_at_call 25; refine L1.out.mono ?_; rintro e w4 ⟨rfl, F4, i4, b4⟩; have I4 : Hid (SI F4 w4 s a gA QA2) := i4; have B4 : Hid (Base w F4 w4) := b4; clear i4 b4)
    | fail)
  clear L1 I3 B3
  have R1 : Hid (Calls Tryz.prog 14 #[ptr s, .int .i64 0, .int .u64 5] w4 fun e w' => ∃ p n c, e = .returned (.tuple #[.slice p n c, .int .i64 0]) ∧ Own w4.heap.size w' (.slice p n c) (datL 2 7) ∧ w4.grownBy w' none) := by
    refine (sread_all I4.out ((0 : Nat) : Int) 5).mono ?_
    rintro e w' ⟨v, er, out, rfl, hr, ho, hg⟩
    obtain ⟨h1, h2⟩ := (qa2.2.1.read qa2.2.2.2.2.1 (by decide) (by decide) (datL_small 2 7) (datL_len 2 7) qa2.2.2.1 (by decide) hr).1 (by rw [qa2.2.2.2.2.2.2]; decide)
    rw [h1] at ho
    rw [h2]
    obtain ⟨p, n, c, rfl, _⟩ := ho.vec.opened
    exact ⟨p, n, c, rfl, ho, hg⟩
  go_wp2_with (first
    | (go_at_call 14; refine R1.out.mono ?_; rintro e w5 ⟨p5, n5, c5, rfl, v5, g5⟩; have V5 : Hid (Aw F4 w5 (.slice p5 n5 c5) (datL 2 7)) := v5.aw I4.out.i.lt; have I5 : Hid (SI F4 w5 s a gA QA2) := I4.out.keep g5; have B5 : Hid (Base w F4 w5) := B4.out.keep g5; clear v5 g5)
    | (go_at_call 9; refine (sarray_yes I5.out).mono ?_; rintro e w9 ⟨rfl, hw9⟩; obtain rfl := hw9.symm; clear hw9)
    | fail)
  clear R1 I4 B4
  have L2 : Hid (Calls Tryz.prog 25 #[ptr a, .int .i64 2] w5 fun e w' => ∃ c, e = .returned (.int .i64 c) ∧ ∃ F', SI F' w' s a gA QA3 ∧ Base w F' w' ∧ Aw F' w' (.slice p5 n5 c5) (datL 2 7)) := by
    refine (lose_at (d := ((2 : Nat) : Int)) I5.out.i (by have := qa2.2.2.2.1; omega) rfl rfl).mono ?_
    rintro e w' ⟨rfl, F', i, st⟩
    exact ⟨_, rfl, F', I5.out.step i st qa3.2.2.2.1, B5.out.step st, V5.out.step st⟩
  go_wp2_with (first
    | (go_at_call 25; refine L2.out.mono ?_; rintro e w6 ⟨c6, rfl, F6, i6, b6, v6⟩; have I6 : Hid (SI F6 w6 s a gA QA3) := i6; have B6 : Hid (Base w F6 w6) := b6; have V6 : Hid (Aw F6 w6 (.slice p5 n5 c5) (datL 2 7)) := v6; clear i6 b6 v6)
    | fail)
  clear L2 I5 B5 V5
  have R2 : Hid (Calls Tryz.prog 14 #[ptr s, .int .i64 0, .int .u64 5] w6 fun e w' => ∃ p n c, e = .returned (.tuple #[.slice p n c, .int .i64 20]) ∧ w6.grownBy w' none) := by
    refine (sread_all I6.out ((0 : Nat) : Int) 5).mono ?_
    rintro e w' ⟨v, er, out, rfl, hr, ho, hg⟩
    obtain ⟨h1, h2⟩ := (qa3.1.read qa3.2.2.2.1 (by decide) (by decide) (datL_small 2 7) (datL_len 2 7) qa3.2.1 (by decide) hr).2 (by rw [qa3.2.2.2.2.2]; decide)
    rw [h2]
    obtain ⟨p, n, c, rfl, _⟩ := ho.vec.opened
    exact ⟨p, n, c, rfl, hg⟩
  have HI : Hid (SP.hiN QA3 gA ((0 : Nat) : Int) = 5 ∧ SP.why QA3 gA ((0 : Nat) : Int) = 0) := by
    have hy : SP.why QA3 gA ((0 : Nat) : Int) = 0 := by
      unfold SP.why
      rw [qa3.2.1]
      simp only [Bool.false_eq_true, if_false]
      rw [if_pos (by decide)]
    refine ⟨?_, hy⟩
    unfold SP.hiN
    rw [if_pos hy]
    exact qa3.1.high (by decide) (d := 0) (by decide) qa3.2.2.2.2.1
  have HH : Hid (∀ w', w6.grownBy w' none → Calls Tryz.prog 23 #[ptr s, .int .i64 0] w' fun e w'' => e = .returned (.tuple #[.int .u64 5, .int .i64 0]) ∧ w'.grownBy w'' none) := fun w' g1 => by
    have := shigh_all (I6.out.keep g1) ((0 : Nat) : Int)
    rw [HI.out.1, HI.out.2] at this
    exact this
  clear HI
  go_wp2_with (first
    | (go_at_call 14; refine R2.out.mono ?_; rintro e w7 ⟨p7, n7, c7, rfl, g7⟩; have G7 : Hid (w6.grownBy w7 none) := g7; clear g7)
    | (go_at_call 23; refine (HH.out _ G7.out).mono ?_; rintro e w8 ⟨rfl, g8⟩; have G8 : Hid (w6.grownBy w8 none) := grown_trans G7.out g8; clear g8)
    | (go_at_call 10; refine (DT.out _).mono ?_; rintro e wa ⟨pa, na, ca, rfl, oa, ga⟩; have GA : Hid (w6.grownBy wa none) := grown_trans G8.out ga; have VA : Hid (Vec wa (.slice pa na ca) (datL 2 7) ∧ Vec wa (.slice p5 n5 c5) (datL 2 7)) := ⟨oa.vec, V6.out.vec.keep GA.out⟩; clear oa ga)
    | (go_at_call 13; refine (equal_at VA.out.2 VA.out.1 rfl).mono ?_; rintro e w9 ⟨rfl, hw9⟩; obtain rfl := hw9.symm; clear hw9))
  go_ret
  exact ⟨rfl, grown_trans B6.out.grown GA.out⟩
end Go.Proofs.YtfjlpifaaknmpaaGreat

/- Sorted lists of stamps: the greatest that stands often. No text of the program is named. -/
set_option linter.unusedSimpArgs false
set_option linter.unusedVariables false
set_option maxRecDepth 100000
namespace Go.Proofs.YtfjlpifaaknmpaaGreat
namespace SP

def Sorted (T : List Nat) : Prop := ∀ i j, i ≤ j → j < T.length → T.getD i 0 ≤ T.getD j 0
theorem two_spots {x : Nat} : ∀ {T : List Nat} {k : Nat}, k + 1 ≤ T.count x → ∃ i j, i + k ≤ j ∧ j < T.length ∧ T.getD i 0 = x ∧ T.getD j 0 = x
  | [], k, h => by simp at h
  | y :: T, k, h => by
    by_cases c : y = x
    · subst c
      cases k with
      | zero => exact ⟨0, 0, by omega, by simp, by simp [List.getD], by simp [List.getD]⟩
      | succ k =>
        rw [List.count_cons_self] at h
        obtain ⟨i, j, h1, h2, h3, h4⟩ := two_spots (T := T) (x := y) (k := k) (by omega)
        exact ⟨0, j + 1, by omega, by simp; omega, by simp [List.getD], by simpa [List.getD] using h4⟩
    · rw [List.count_cons_of_ne c] at h
      obtain ⟨i, j, h1, h2, h3, h4⟩ := two_spots (T := T) (k := k) h
      exact ⟨i + 1, j + 1, by omega, by simp; omega, by simpa [List.getD] using h3, by simpa [List.getD] using h4⟩
theorem many_of {T : List Nat} (hs : Sorted T) {i k : Nat} (hk : i + k < T.length) (h : T.getD i 0 = T.getD (i + k) 0) : k + 1 ≤ T.count (T.getD (i + k) 0) := by
  have e : (T.drop i).take (k + 1) = List.replicate (k + 1) (T.getD (i + k) 0) := by
    rw [List.eq_replicate_iff]
    refine ⟨by simp; omega, fun b hb => ?_⟩
    obtain ⟨j, hj, rfl⟩ := List.getElem_of_mem hb
    simp at hj
    have e1 : ((T.drop i).take (k + 1))[j] = T.getD (i + j) 0 := by
      simp [List.getD, show i + j < T.length from by omega]
    rw [e1]
    have h1 := hs i (i + j) (by omega) (by omega)
    have h2 := hs (i + j) (i + k) (by omega) hk
    omega
  have hsub : ((T.drop i).take (k + 1)).Sublist T := (List.take_sublist _ _).trans (List.drop_sublist _ _)
  have := hsub.count_le (T.getD (i + k) 0)
  rw [e, List.count_replicate_self] at this
  exact this
/-- From above: the first place at which the k-th below is the same tells it. -/
theorem often_at {T : List Nat} (hs : Sorted T) {k l : Nat} (hk : 1 ≤ k) (hl : l < T.length) (hkl : k ≤ l + 1) (h : T.getD (l + 1 - k) 0 = T.getD l 0)
    (hno : ∀ j, l < j → j < T.length → T.getD (j + 1 - k) 0 ≠ T.getD j 0) : often T k = T.getD l 0 := by
  unfold often
  apply Nat.le_antisymm
  · refine top_le fun x hx => ?_
    obtain ⟨_, hc⟩ := List.mem_filter.1 hx
    obtain ⟨i, j, h1, h2, h3, h4⟩ := two_spots (T := T) (x := x) (k := k - 1) (by have := of_decide_eq_true hc; omega)
    by_cases c : l < j
    · exfalso
      refine hno j c h2 ?_
      have e1 := hs i (j + 1 - k) (by omega) (by omega)
      have e2 := hs (j + 1 - k) j (by omega) h2
      omega
    · have := hs j l (by omega) hl
      omega
  · refine le_top (List.mem_filter.2 ⟨?_, ?_⟩)
    · rw [show T.getD l 0 = T[l] from by simp [List.getD, hl]]
      exact List.getElem_mem hl
    · have := many_of hs (i := l + 1 - k) (k := k - 1) (by omega) (by rw [show l + 1 - k + (k - 1) = l from by omega]; exact h)
      rw [show l + 1 - k + (k - 1) = l from by omega] at this
      exact decide_eq_true (by omega)
theorem often_none {T : List Nat} (hs : Sorted T) {k : Nat} (hk : 1 ≤ k) (hno : ∀ j, k ≤ j + 1 → j < T.length → T.getD (j + 1 - k) 0 ≠ T.getD j 0) : often T k = 0 := by
  unfold often
  have e : T.filter (fun m => decide (k ≤ T.count m)) = [] := by
    rw [List.filter_eq_nil_iff]
    intro x hx hc
    obtain ⟨i, j, h1, h2, h3, h4⟩ := two_spots (T := T) (x := x) (k := k - 1) (by have := of_decide_eq_true hc; omega)
    refine hno j (by omega) h2 ?_
    have e1 := hs i (j + 1 - k) (by omega) (by omega)
    have e2 := hs (j + 1 - k) j (by omega) h2
    omega
  rw [e]
  rfl

/-- Two neighbours in each other's place. -/
def swap (T : List Nat) (j : Nat) : List Nat := (T.set j (T.getD (j - 1) 0)).set (j - 1) (T.getD j 0)
theorem swap_len (T : List Nat) (j : Nat) : (swap T j).length = T.length := by simp [swap]
theorem swap_perm {T : List Nat} {j : Nat} (h0 : 0 < j) (h : j < T.length) : (swap T j).Perm T := by
  have e : T = T.take (j - 1) ++ T.getD (j - 1) 0 :: T.getD j 0 :: T.drop (j + 1) := by
    apply List.ext_getElem?
    intro i
    by_cases c1 : i < j - 1
    · rw [List.getElem?_append_left (by simp; omega), List.getElem?_take, if_pos c1]
    · rw [List.getElem?_append_right (by simp; omega)]
      simp only [List.length_take, Nat.min_eq_left (show j - 1 ≤ T.length from by omega)]
      by_cases c2 : i = j - 1
      · subst c2
        simp [List.getD, show j - 1 < T.length from by omega]
      · by_cases c3 : i = j
        · subst c3
          rw [show i - (i - 1) = 1 from by omega]
          simp [List.getD, h]
        · rw [show i - (j - 1) = (i - (j + 1)) + 2 from by omega]
          simp only [List.getElem?_cons_succ, List.getElem?_drop]
          congr 1
          omega
  have e' : swap T j = T.take (j - 1) ++ T.getD j 0 :: T.getD (j - 1) 0 :: T.drop (j + 1) := by
    apply List.ext_getElem?
    intro i
    unfold swap
    by_cases c1 : i < j - 1
    · rw [List.getElem?_append_left (by simp; omega), List.getElem?_take, if_pos c1, List.getElem?_set_ne (by omega), List.getElem?_set_ne (by omega)]
    · rw [List.getElem?_append_right (by simp; omega)]
      simp only [List.length_take, Nat.min_eq_left (show j - 1 ≤ T.length from by omega)]
      by_cases c2 : i = j - 1
      · subst c2
        rw [List.getElem?_set_self (by simp; omega)]
        simp
      · by_cases c3 : i = j
        · subst c3
          rw [show i - (i - 1) = 1 from by omega, List.getElem?_set_ne (by omega), List.getElem?_set_self h]
          simp
        · rw [show i - (j - 1) = (i - (j + 1)) + 2 from by omega, List.getElem?_set_ne (by omega), List.getElem?_set_ne (by omega)]
          simp only [List.getElem?_cons_succ, List.getElem?_drop]
          congr 1
          omega
  rw [e']
  conv => rhs; rw [e]
  exact List.Perm.append_left _ (List.Perm.swap _ _ _)
theorem swap_get {T : List Nat} {j : Nat} (h0 : 0 < j) (h : j < T.length) (i : Nat) : (swap T j).getD i 0 = if i = j then T.getD (j - 1) 0 else if i = j - 1 then T.getD j 0 else T.getD i 0 := by
  unfold swap
  simp only [List.getD, List.getElem?_set, List.length_set]
  by_cases c1 : i = j
  · subst c1
    rw [if_neg (show ¬ i - 1 = i by omega), if_pos rfl, if_pos h]
    simp
  · by_cases c2 : i = j - 1
    · subst c2
      simp [show j - 1 < T.length from by omega]
      intro h'
      omega
    · simp [c1, c2, Ne.symm c1, Ne.symm c2]
/-- The insertion of the element i stands at j: the first i + 1 are sorted but for it. -/
structure Ins (S T : List Nat) (i j : Nat) : Prop where
  perm : T.Perm S
  ji : j ≤ i
  il : i < T.length
  srt : ∀ p q, p ≤ q → q ≤ i → p ≠ j → q ≠ j → T.getD p 0 ≤ T.getD q 0
  up : ∀ q, j < q → q ≤ i → T.getD j 0 ≤ T.getD q 0
/-- The first i are sorted. -/
structure Pre (S T : List Nat) (i : Nat) : Prop where
  perm : T.Perm S
  srt : ∀ p q, p ≤ q → q < i → T.getD p 0 ≤ T.getD q 0
theorem Pre.start (S : List Nat) : Pre S S 1 := ⟨List.Perm.refl _, fun p q h1 h2 => by obtain rfl : p = q := by omega
                                                                                       omega⟩
theorem Pre.zero (S : List Nat) : Pre S S 0 := ⟨List.Perm.refl _, fun p q h1 h2 => by omega⟩
theorem Pre.len {S T : List Nat} {i : Nat} (h : Pre S T i) : T.length = S.length := h.perm.length_eq
theorem Pre.ins {S T : List Nat} {i : Nat} (h : Pre S T i) (hi : i < T.length) : Ins S T i i := ⟨h.perm, Nat.le_refl _, hi, fun p q h1 h2 h3 h4 => h.srt p q h1 (by omega), fun q h1 h2 => by omega⟩
theorem Ins.done0 {S T : List Nat} {i : Nat} (h : Ins S T i 0) : Pre S T (i + 1) := ⟨h.perm, fun p q h1 h2 => by
  by_cases c1 : p = 0
  · subst c1
    by_cases c2 : q = 0
    · subst c2; omega
    · exact h.up q (by omega) (by omega)
  · exact h.srt p q h1 (by omega) c1 (by omega)⟩
theorem Ins.done {S T : List Nat} {i j : Nat} (h : Ins S T i j) (hj : 0 < j) (hle : T.getD (j - 1) 0 ≤ T.getD j 0) : Pre S T (i + 1) := ⟨h.perm, fun p q h1 h2 => by
  have ji := h.ji
  by_cases c1 : p = j
  · subst c1
    by_cases c2 : q = p
    · subst c2; omega
    · exact h.up q (by omega) (by omega)
  · by_cases c2 : q = j
    · subst c2
      by_cases c3 : p = q - 1
      · subst c3; exact hle
      · have := h.srt p (q - 1) (by omega) (by omega) c1 (by omega)
        omega
    · exact h.srt p q h1 (by omega) c1 c2⟩
theorem Ins.swap {S T : List Nat} {i j : Nat} (h : Ins S T i j) (hj : 0 < j) (hlt : T.getD j 0 < T.getD (j - 1) 0) : Ins S (SP.swap T j) i (j - 1) := by
  have ji := h.ji
  have il := h.il
  have sg := swap_get (T := T) (j := j) hj (by omega)
  refine ⟨(swap_perm hj (by omega)).trans h.perm, by omega, by rw [swap_len]; exact il, fun p q h1 h2 h3 h4 => ?_, fun q h1 h2 => ?_⟩
  · rw [sg, sg, if_neg h3, if_neg h4]
    by_cases c1 : p = j
    · rw [if_pos c1]
      by_cases c2 : q = j
      · rw [if_pos c2]; omega
      · rw [if_neg c2]
        exact h.srt (j - 1) q (by omega) h2 (by omega) c2
    · rw [if_neg c1]
      by_cases c2 : q = j
      · rw [if_pos c2]
        exact h.srt p (j - 1) (by omega) (by omega) c1 (by omega)
      · rw [if_neg c2]
        exact h.srt p q h1 h2 c1 c2
  · rw [sg, sg, if_neg (show ¬ j - 1 = j by omega), if_pos rfl, if_neg (show ¬ q = j - 1 by omega)]
    by_cases c1 : q = j
    · rw [if_pos c1]; omega
    · rw [if_neg c1]
      exact h.up q (by omega) h2
end SP
end Go.Proofs.YtfjlpifaaknmpaaGreat

/- Rows of stamps of the call's own; slices.Sort of at most twelve of them. -/
set_option linter.unusedSimpArgs false
set_option linter.unusedVariables false
set_option maxRecDepth 100000
namespace Go.Proofs.YtfjlpifaaknmpaaGreat
open Go.RowKit

theorem Tryz.infoU8 : (Tryz.prog.info? 39).map (fun i => (i.zero, i.size, i.bytes)) = some (some (.int .u64 0), 1, 8) := by kernel_rfl
/-- The slice v has the stamps ls, in a row of its own, in a block from B on. -/
structure UOwn (B : Nat) (w : World) (v : Value) (ls : List Nat) : Prop where
  len : ls.length ≤ 1000
  row : w.ownsRow B 39 1 v ls.length (ls.map fun x : Nat => Value.int .u64 (x : Int))
section
variable {B : Nat} {w w' : World} {v : Value} {ls : List Nat}
theorem UOwn.keep (h : UOwn B w v ls) (g : w.grownBy w' none) : UOwn B w' v ls := ⟨h.len, h.row.kept g (Classical.em _)⟩
theorem UOwn.kept {row : Option Nat} (h : UOwn B w v ls) (g : w.grownBy w' row) (ne : v.ownBlock = none ∨ v.ownBlock ≠ row) : UOwn B w' v ls := ⟨h.len, h.row.kept g ne⟩
theorem UOwn.lo (h : UOwn B w v ls) : Lo B v := fun k hk => (h.row.lt k hk).1
theorem UOwn.nil (B : Nat) (w : World) : UOwn B w (.slice none 0 0) [] := ⟨by simp, World.ownsRow_nil w B 39 1⟩
theorem UOwn.opened (h : UOwn B w v ls) : ∃ p n c, v = .slice p n c ∧ n = ls.length := by
  rcases h.row.2 with ⟨e, hn⟩ | ⟨g, cap', cur, e, _⟩
  · exact ⟨none, 0, 0, e, hn.symm⟩
  · exact ⟨_, _, _, e, rfl⟩
theorem UOwn.place {p : Option Addr} {n cap : Nat} (h : UOwn B w (.slice p n cap) ls) {k : Nat} (hk : k < ls.length) :
    ∃ g, p = some ⟨g, 0, none⟩ ∧ B ≤ g ∧ w.cell? ⟨g, k, none⟩ = some (.int .u64 ((ls.getD k 0 : Nat) : Int)) ∧ w.frozen? ⟨g, k, none⟩ = false ∧
      (∀ z : Nat, UOwn B (w.setCell ⟨g, k, none⟩ (.int .u64 (z : Int))) (.slice (some ⟨g, 0, none⟩) n cap) (ls.set k z)) ∧ ∀ u, w.grownBy (w.setCell ⟨g, k, none⟩ u) (some g) := by
  obtain ⟨g, e, hn, hb, hc, hf, hset, hgr⟩ := row_place h.row (by simp) (k := k) (by simpa using hk)
  refine ⟨g, e, hb, by rw [hc]; simp [List.getD, hk], hf, fun z => ⟨by simpa using h.len, ?_⟩, hgr⟩
  have := hset (.int .u64 (z : Int))
  simpa [List.map_set] using this
/-- Two neighbours change their places. -/
theorem UOwn.swapped {g n cap : Nat} (h : UOwn B w (.slice (some ⟨g, 0, none⟩) n cap) ls) {j : Nat} (h0 : 0 < j) (hj : j < ls.length) :
    UOwn B ((w.setCell ⟨g, j, none⟩ (.int .u64 ((ls.getD (j - 1) 0 : Nat) : Int))).setCell ⟨g, j - 1, none⟩ (.int .u64 ((ls.getD j 0 : Nat) : Int))) (.slice (some ⟨g, 0, none⟩) n cap) (SP.swap ls j) ∧
      w.grownBy ((w.setCell ⟨g, j, none⟩ (.int .u64 ((ls.getD (j - 1) 0 : Nat) : Int))).setCell ⟨g, j - 1, none⟩ (.int .u64 ((ls.getD j 0 : Nat) : Int))) (some g) := by
  obtain ⟨g1, e1, _, _, _, hput, hgr⟩ := h.place hj
  obtain rfl : g = g1 := (by injection e1 with e1; injection e1 with e1)
  obtain ⟨g2, e2, _, _, _, hput2, hgr2⟩ := (hput (ls.getD (j - 1) 0)).place (k := j - 1) (by simp; omega)
  obtain rfl : g = g2 := (by injection e2 with e2; injection e2 with e2)
  exact ⟨hput2 (ls.getD j 0), grown_trans (hgr _) (hgr2 _)⟩
end

theorem isNaN_no (w : World) (x : Nat) : Calls Tryz.prog 169 #[.int .u64 (x : Int)] w fun e w' => e = .returned (.bool false) ∧ w' = w := by
  have hne : ((x : Int) != (x : Int)) = false := neb_no rfl
  go_enter Tryz.func169, Tryz.ntmps169
  go_wp2
  go_ret
  exact ⟨rfl, rfl⟩
theorem less_yes (w : World) {x y : Nat} (h : x < y) : Calls Tryz.prog 150 #[.int .u64 (x : Int), .int .u64 (y : Int)] w fun e w' => e = .returned (.bool true) ∧ w' = w := by
  have i1 : (x : Int) < (y : Int) := by omega
  have HL : Hid (x < y) := h
  clear h
  go_enter Tryz.func150, Tryz.ntmps150
  go_wp2_with (go_at_call 169; refine (isNaN_no _ _).mono ?_; rintro e w1 ⟨rfl, hw⟩; obtain rfl := hw.symm; clear hw)
  go_ret
  exact ⟨by simp [HL.out], rfl⟩
theorem less_no (w : World) {x y : Nat} (h : ¬ x < y) : Calls Tryz.prog 150 #[.int .u64 (x : Int), .int .u64 (y : Int)] w fun e w' => e = .returned (.bool false) ∧ w' = w := by
  have i1 : ¬ (x : Int) < (y : Int) := by omega
  have HL : Hid (¬ x < y) := h
  clear h
  go_enter Tryz.func150, Tryz.ntmps150
  go_wp2_with (go_at_call 169; refine (isNaN_no _ _).mono ?_; rintro e w1 ⟨rfl, hw⟩; obtain rfl := hw.symm; clear hw)
  go_ret
  exact ⟨by simp [HL.out], rfl⟩
theorem len64_small {n : Nat} (h : n ≤ 12) (w : World) : Calls Tryz.prog 154 #[.int .u64 (n : Int)] w fun e w' => ∃ m : Int, e = .returned (.int .i64 m) ∧ w' = w := by
  have hc : n = 0 ∨ n = 1 ∨ n = 2 ∨ n = 3 ∨ n = 4 ∨ n = 5 ∨ n = 6 ∨ n = 7 ∨ n = 8 ∨ n = 9 ∨ n = 10 ∨ n = 11 ∨ n = 12 := by omega
  rcases hc with rfl | rfl | rfl | rfl | rfl | rfl | rfl | rfl | rfl | rfl | rfl | rfl | rfl
  all_goals
    clear h
    go_enter Tryz.func154, Tryz.ntmps154
    go_wp2
    go_ret
    exact ⟨_, rfl, rfl⟩
theorem len_small {n : Nat} (h : n ≤ 12) (w : World) : Calls Tryz.prog 136 #[.int .u64 (n : Int)] w fun e w' => ∃ m : Int, e = .returned (.int .i64 m) ∧ w' = w := by
  have HM : Hid (Calls Tryz.prog 154 #[.int .u64 (n : Int)] w fun e w' => ∃ m : Int, e = .returned (.int .i64 m) ∧ w' = w) := len64_small h w
  clear h
  go_enter Tryz.func136, Tryz.ntmps136
  go_wp2_with (go_at_call 154; refine HM.out.mono ?_; rintro e w1 ⟨m, rfl, hw⟩; obtain rfl := hw.symm; clear hw)
  go_ret
  exact ⟨_, rfl, rfl⟩

set_option maxHeartbeats 6400000 in
theorem insort_yes {B : Nat} {w : World} {v : Value} {S : List Nat} {n : Nat} (hu : UOwn B w v S) (hn : n = S.length) :
    Calls Tryz.prog 144 #[v, .int .i64 0, .int .i64 (n : Int)] w fun e w' => e = .returned (.tuple #[]) ∧ (∃ T, UOwn B w' v T ∧ T.Perm S ∧ SP.Sorted T) ∧ w.grownBy w' v.ownBlock := by
  obtain ⟨q, N, cap, rfl, hN⟩ := hu.opened
  have hNn : N = n := by omega
  subst hNn
  have h1000 : N ≤ 1000 := by have := hu.len; omega
  have HL : Hid (S.length = N) := hn.symm
  have HS : Hid (∃ T, UOwn B w (.slice q N cap) T ∧ SP.Pre S T 1) := ⟨S, hu, SP.Pre.start S⟩
  obtain ⟨rw, hrw⟩ : ∃ rw, rw = (Value.slice q N cap).ownBlock := ⟨_, rfl⟩
  have HRW : Hid (rw = (Value.slice q N cap).ownBlock) := hrw
  rw [← hrw]
  have HG : Hid (w.grownBy w rw) := World.grownBy.refl _ _
  clear hu hN hn hrw
  go_enter Tryz.func144, Tryz.ntmps144
  go_wp2_with fail
  go_loopw [6] (fun ti wr => ∃ i : Nat, (1 ≤ i ∧ (i = 1 ∨ i ≤ N)) ∧ ti = .int .i64 i ∧ Hid (∃ T, UOwn B wr (.slice q N cap) T ∧ SP.Pre S T i) ∧ Hid (w.grownBy wr rw)) (fun ti _ => N - (intOf ti).toNat)
  case atStart => exact ⟨1, ⟨by omega, .inl rfl⟩, rfl, HS, HG⟩
  case round =>
    clear HS HG
    obtain ⟨i, hi, rfl, HT, GK⟩ := hrel
    obtain ⟨wa, hwa⟩ : ∃ wa, wa = wr := ⟨wr, rfl⟩
    subst hwa
    by_cases hlt : i < N
    · have i1 : (i : Int) < (N : Int) := by omega
      have HI : Hid (∃ T, UOwn B wa (.slice q N cap) T ∧ SP.Ins S T i i) := by
        obtain ⟨T, h1, h2⟩ := HT.out
        exact ⟨T, h1, h2.ins (by rw [h2.len, HL.out]; exact hlt)⟩
      clear HT
      go_wp2_with fail
      go_loopw [7] (fun tj wr => ∃ j : Nat, j ≤ i ∧ tj = .int .i64 j ∧ Hid (∃ T, UOwn B wr (.slice q N cap) T ∧ SP.Ins S T i j) ∧ Hid (w.grownBy wr rw)) (fun tj _ => (intOf tj).toNat)
      case atStart => exact ⟨i, Nat.le_refl _, rfl, HI, GK⟩
      case round =>
        clear HI GK
        obtain ⟨j, hj, rfl, HT, GK⟩ := hrel
        obtain ⟨T, z1, z2⟩ := HT.out
        have UT : Hid (UOwn B wr (.slice q N cap) T) := z1
        have IT : Hid (SP.Ins S T i j) := z2
        have HTL : Hid (T.length = N) := by show _ = _; rw [z2.perm.length_eq, HL.out]
        clear z1 z2 HT
        by_cases h0 : j = 0
        · subst h0
          have HP : Hid (∀ n, (∃ T, UOwn B (wr.drewN n) (.slice q N cap) T ∧ SP.Pre S T (i + 1)) ∧ w.grownBy (wr.drewN n) rw) := fun n => ⟨⟨T, UT.out.keep (grown_drewN _ _), IT.out.done0⟩, grown_trans GK.out (grown_any (grown_drewN _ _) _)⟩
          clear UT IT HTL GK
          go_wp2_with fail
          go_quiet (fail)
          go_wp2
          go_roundw
          case rel => exact ⟨i + 1, ⟨by omega, .inr (by omega)⟩, by go_num, (HP.out _).1, (HP.out _).2⟩
          case measure => simp [intOf]; omega
        · obtain ⟨p, rfl⟩ : ∃ p, j = p + 1 := ⟨j - 1, by omega⟩
          have hj0 : (0 : Int) < (p : Int) + 1 := by omega
          obtain ⟨g, rfl, hb, hc, hf, _, _⟩ := UT.out.place (k := p + 1) (by rw [HTL.out]; omega)
          obtain ⟨g1, e1, _, hc1, hf1, _, _⟩ := UT.out.place (k := p) (by rw [HTL.out]; omega)
          obtain rfl : g = g1 := (by injection e1 with e1; injection e1 with e1)
          have HB : Hid (rw = some g) := HRW.out
          have HC : Hid (∀ n, (wr.drewN n).cell? ⟨g, p + 1, none⟩ = some (.int .u64 ((T.getD (p + 1) 0 : Nat) : Int)) ∧ (wr.drewN n).cell? ⟨g, p, none⟩ = some (.int .u64 ((T.getD p 0 : Nat) : Int))) := fun n => ⟨(grown_drewN wr n).cell hc (by simp), (grown_drewN wr n).cell hc1 (by simp)⟩
          have HPN : Hid (p + 1 < N) := by show _ < _; omega
          have b1 : (p : Int) + 1 < (N : Int) := by omega
          have b2 : (p : Int) < (N : Int) := by omega
          have b3 : (0 : Int) ≤ (p : Int) := by omega
          have b4 : (0 : Int) ≤ (p : Int) + 1 := by omega
          have b5 : IntKind.i64.wrap (p : Int) = (p : Int) := IntWalk.i64_in _ (by omega)
          have b6 : IntKind.i64.wrap ((p : Int) + 1 - 1) = (p : Int) := by rw [show (p : Int) + 1 - 1 = (p : Int) by omega]; exact b5
          clear e1 hb h0
          by_cases hl : T.getD (p + 1) 0 < T.getD p 0
          · have HX : Hid (∀ w', ((wr.setCell ⟨g, p + 1, none⟩ (.int .u64 ((T.getD p 0 : Nat) : Int))).setCell ⟨g, p, none⟩ (.int .u64 ((T.getD (p + 1) 0 : Nat) : Int))).grownBy w' none → (∃ T', UOwn B w' (.slice (some ⟨g, 0, none⟩) N cap) T' ∧ SP.Ins S T' i p) ∧ w.grownBy w' rw) := fun w' g9 => by
              have h1 := UT.out.swapped (j := p + 1) (by omega) (by rw [HTL.out]; exact HPN.out)
              exact ⟨⟨_, h1.1.keep g9, IT.out.swap (by omega) hl⟩, grown_trans (grown_trans GK.out (by rw [HB.out]; exact h1.2)) (grown_any g9 _)⟩
            have LS : Hid (∀ W, Calls Tryz.prog 150 #[.int .u64 ((T.getD (p + 1) 0 : Nat) : Int), .int .u64 ((T.getD p 0 : Nat) : Int)] W fun e w' => e = .returned (.bool true) ∧ w' = W) := fun W => less_yes W hl
            clear hl UT IT HTL GK
            generalize T.getD (p + 1) 0 = y at *
            generalize T.getD p 0 = x at *
            go_wp2_with fail
            go_region_held3 (fun w' => w'.cell? ⟨g, p + 1, none⟩ = some (.int .u64 (y : Int)) ∧ w'.cell? ⟨g, p, none⟩ = some (.int .u64 (x : Int))) (exact HC.out _) ((go_at_call 150; refine (LS.out _).mono ?_; rintro e w1 ⟨rfl, hw⟩; obtain rfl := hw.symm; clear hw))
            clear HC
            go_wp2_with fail
            go_region_with fail
            all_goals
              go_wp2
              go_roundw
              case rel => exact ⟨p, by omega, by go_num, (HX.out _ (grown_trans (grown_drewN _ 1) (grown_drewN _ 1))).1, (HX.out _ (grown_trans (grown_drewN _ 1) (grown_drewN _ 1))).2⟩
              case measure => simp [intOf]
          · have hdn : Hid (∀ n, (∃ T, UOwn B (wr.drewN n) (.slice (some ⟨g, 0, none⟩) N cap) T ∧ SP.Pre S T (i + 1)) ∧ w.grownBy (wr.drewN n) rw) := fun n => ⟨⟨T, UT.out.keep (grown_drewN _ _), IT.out.done (by omega) (by show T.getD p 0 ≤ _; omega)⟩, grown_trans GK.out (grown_any (grown_drewN _ _) _)⟩
            have LS : Hid (∀ W, Calls Tryz.prog 150 #[.int .u64 ((T.getD (p + 1) 0 : Nat) : Int), .int .u64 ((T.getD p 0 : Nat) : Int)] W fun e w' => e = .returned (.bool false) ∧ w' = W) := fun W => less_no W hl
            clear hl UT IT HTL GK
            generalize T.getD (p + 1) 0 = y at *
            generalize T.getD p 0 = x at *
            go_wp2_with fail
            go_region_held3 (fun w' => w'.cell? ⟨g, p + 1, none⟩ = some (.int .u64 (y : Int)) ∧ w'.cell? ⟨g, p, none⟩ = some (.int .u64 (x : Int))) (exact HC.out _) ((go_at_call 150; refine (LS.out _).mono ?_; rintro e w1 ⟨rfl, hw⟩; obtain rfl := hw.symm; clear hw))
            go_wp2
            go_roundw
            case rel => exact ⟨i + 1, ⟨by omega, .inr (by omega)⟩, by go_num, (hdn.out _).1, (hdn.out _).2⟩
            case measure => simp [intOf]; omega
    · have i1 : ¬ (i : Int) < (N : Int) := by omega
      have HE : Hid (∃ T, UOwn B wa (.slice q N cap) T ∧ T.Perm S ∧ SP.Sorted T) := by
        obtain ⟨T, h1, h2⟩ := HT.out
        refine ⟨T, h1, h2.perm, ?_⟩
        have hl := h2.len
        have := HL.out
        intro a b hab hb
        exact h2.srt a b hab (by omega)
      clear HT
      go_wp2
      go_end0
      exact ⟨rfl, HE.out, GK.out⟩

theorem pdq_yes {B : Nat} {w : World} {v : Value} {S : List Nat} {n : Nat} (hu : UOwn B w v S) (hn : n = S.length) (h12 : n ≤ 12) (m : Int) :
    Calls Tryz.prog 135 #[v, .int .i64 0, .int .i64 (n : Int), .int .i64 m] w fun e w' => e = .returned (.tuple #[]) ∧ (∃ T, UOwn B w' v T ∧ T.Perm S ∧ SP.Sorted T) ∧ w.grownBy w' v.ownBlock := by
  have HI : Hid (Calls Tryz.prog 144 #[v, .int .i64 0, .int .i64 (n : Int)] w fun e w' => e = .returned (.tuple #[]) ∧ (∃ T, UOwn B w' v T ∧ T.Perm S ∧ SP.Sorted T) ∧ w.grownBy w' v.ownBlock) := insort_yes hu hn
  have i1 : (n : Int) ≤ 12 := by omega
  have i2 : IntKind.i64.wrap (n : Int) = (n : Int) := IntWalk.i64_in _ (by omega)
  clear hu hn h12
  go_enter Tryz.func135, Tryz.ntmps135
  go_wp2_with fail
  go_loopw [1, 2] (fun ta tb wr => ta = .int .i64 0 ∧ tb = .int .i64 (n : Int) ∧ Hid (wr = w)) (fun _ _ _ => 0)
  case atStart => exact ⟨rfl, rfl, rfl⟩
  case round =>
    obtain ⟨rfl, rfl, hw⟩ := hrel
    obtain rfl := hw.out
    clear hw
    go_wp2_with (first
      | (go_at_call 144; refine HI.out.mono ?_; rintro e w1 ⟨rfl, h1, h2⟩; have H1 : Hid ((∃ T, UOwn B w1 v T ∧ T.Perm S ∧ SP.Sorted T) ∧ wr.grownBy w1 v.ownBlock) := ⟨h1, h2⟩; clear h1 h2)
      | fail)
    refine bodyPost_ret (results_none rfl _ _ _) rfl ?_
    exact ⟨rfl, H1.out⟩
theorem sort_yes {B : Nat} {w : World} {v : Value} {S : List Nat} (hu : UOwn B w v S) (h12 : S.length ≤ 12) :
    Calls Tryz.prog 115 #[v] w fun e w' => e = .returned (.tuple #[]) ∧ (∃ T, UOwn B w' v T ∧ T.Perm S ∧ SP.Sorted T) ∧ w.grownBy w' v.ownBlock := by
  obtain ⟨q, N, cap, rfl, hN⟩ := hu.opened
  have HP : Hid (∀ m, Calls Tryz.prog 135 #[.slice q N cap, .int .i64 0, .int .i64 (N : Int), .int .i64 m] w fun e w' => e = .returned (.tuple #[]) ∧ (∃ T, UOwn B w' (.slice q N cap) T ∧ T.Perm S ∧ SP.Sorted T) ∧ w.grownBy w' (Value.slice q N cap).ownBlock) := fun m => pdq_yes hu hN (by omega) m
  have HLN : Hid (Calls Tryz.prog 136 #[.int .u64 (N : Int)] w fun e w' => ∃ m : Int, e = .returned (.int .i64 m) ∧ w' = w) := len_small (by omega) w
  have i1 : IntKind.u64.wrap (N : Int) = (N : Int) := by rw [IntKind.wrap_u64]; omega
  have i2 : (N : Int) ≤ 12 := by omega
  clear hu hN h12
  go_enter Tryz.func115, Tryz.ntmps115
  go_wp2_with (first
    | (go_at_call 136; refine HLN.out.mono ?_; rintro e w1 ⟨m, rfl, hw⟩; obtain rfl := hw.symm; clear hw)
    | (go_at_call 135; refine (HP.out _).mono ?_; rintro e w2 ⟨rfl, h1, h2⟩; have H1 : Hid ((∃ T, UOwn B w2 (.slice q N cap) T ∧ T.Perm S ∧ SP.Sorted T) ∧ w.grownBy w2 (Value.slice q N cap).ownBlock) := ⟨h1, h2⟩; clear h1 h2)
    | fail)
  go_end0
  exact ⟨rfl, H1.out⟩

set_option maxHeartbeats 6400000 in
theorem often_yes {B : Nat} {w : World} {v : Value} {S : List Nat} {k : Nat} (hu : UOwn B w v S) (h12 : S.length ≤ 12) (hk : 1 ≤ k) (hk2 : k ≤ 255) :
    Calls Tryz.prog 67 #[v, .int .i64 (k : Int)] w fun e w' => e = .returned (.int .u64 ((SP.often S k : Nat) : Int)) ∧ w.grownBy w' v.ownBlock := by
  obtain ⟨q, N, cap, rfl, hN⟩ := hu.opened
  have HSO : Hid (Calls Tryz.prog 115 #[.slice q N cap] w fun e w' => e = .returned (.tuple #[]) ∧ (∃ T, UOwn B w' (.slice q N cap) T ∧ T.Perm S ∧ SP.Sorted T) ∧ w.grownBy w' (Value.slice q N cap).ownBlock) := sort_yes hu h12
  obtain ⟨rw, hrw⟩ : ∃ rw, rw = (Value.slice q N cap).ownBlock := ⟨_, rfl⟩
  rw [← hrw] at HSO ⊢
  have HK : Hid (1 ≤ k ∧ k ≤ 255 ∧ S.length = N ∧ N ≤ 12) := ⟨hk, hk2, hN.symm, by omega⟩
  have hN12 : N ≤ 12 := by omega
  obtain ⟨c, hc⟩ : ∃ c : Int, c = (k : Int) - 1 := ⟨_, rfl⟩
  have i1 : IntKind.i64.wrap ((k : Int) - 1) = c := by rw [hc]; exact IntWalk.i64_in _ (by omega)
  have i2 : IntKind.i64.wrap ((N : Int) - 1) = (N : Int) - 1 := IntWalk.i64_in _ (by omega)
  have HC : Hid (c = (k : Int) - 1) := hc
  clear hu hN h12 hrw hk hk2 hc
  go_enter Tryz.func67, Tryz.ntmps67
  go_wp2_with (first
    | (go_at_call 115; refine HSO.out.mono ?_; rintro e w1 ⟨rfl, ⟨T, h1, h2, h3⟩, h4⟩; have U1 : Hid (UOwn B w1 (.slice q N cap) T) := h1; have G1 : Hid (w.grownBy w1 rw) := h4; have HT : Hid (T.Perm S ∧ SP.Sorted T ∧ T.length = N) := ⟨h2, h3, (by rw [h2.length_eq]; exact HK.out.2.2.1)⟩; clear h1 h2 h3 h4)
    | fail)
  have HO : Hid (SP.often S k = SP.often T k) := (SP.often_perm HT.out.1 k).symm
  clear i2
  go_loopw [5] (fun tl wr => ∃ x : Int, (-1 ≤ x ∧ x < (N : Int)) ∧ tl = .int .i64 x ∧ Hid (∀ j : Nat, x < (j : Int) → k ≤ j + 1 → j < T.length → T.getD (j + 1 - k) 0 ≠ T.getD j 0) ∧ Hid (w1.grownBy wr none)) (fun tl _ => (intOf tl + 1).toNat)
  case atStart => exact ⟨(N : Int) - 1, by omega, rfl, fun j h1 h2 h3 => by have := HT.out.2.2; omega, World.grownBy.refl _ _⟩
  case round =>
    obtain ⟨x, hx, rfl, HNO, GK⟩ := hrel
    by_cases hlt : c ≤ x
    · obtain ⟨l, rfl⟩ : ∃ l : Nat, x = (l : Int) := ⟨x.toNat, by have := HC.out; have := HK.out; omega⟩
      have HL : Hid (k ≤ l + 1 ∧ l < N) := ⟨by have := HC.out; omega, by omega⟩
      obtain ⟨z, hz⟩ : ∃ z, z = l + 1 - k := ⟨_, rfl⟩
      have HZ : Hid (z = l + 1 - k) := hz
      have i3 : IntKind.i64.wrap ((l : Int) - (k : Int)) = (z : Int) - 1 := by
        have e : (l : Int) - (k : Int) = (z : Int) - 1 := by have := HL.out; omega
        rw [e]; exact IntWalk.i64_in _ (by omega)
      have i4 : IntKind.i64.wrap ((z : Int) - 1 + 1) = (z : Int) := by
        rw [show (z : Int) - 1 + 1 = (z : Int) by omega]; exact IntWalk.i64_in _ (by have := HL.out; omega)
      have i4' : IntKind.i64.wrap (z : Int) = (z : Int) := IntWalk.i64_in _ (by have := HL.out; omega)
      have i5 : IntKind.i64.wrap ((l : Int) - 1) = (l : Int) - 1 := IntWalk.i64_in _ (by omega)
      have b1 : (z : Int) < (N : Int) := by have := HL.out; have := HK.out; omega
      have b2 : (0 : Int) ≤ (z : Int) := by omega
      have b3 : (l : Int) < (N : Int) := by omega
      have b4 : (0 : Int) ≤ (l : Int) := by omega
      obtain ⟨g, e0, _, hcl, _, _, _⟩ := (U1.out.keep GK.out).place (k := l) (by have := HT.out.2.2; have := HL.out; omega)
      subst e0
      obtain ⟨g1, e1, _, hcz, _, _, _⟩ := (U1.out.keep GK.out).place (k := z) (by have := HT.out.2.2; have := HL.out; have := HK.out; omega)
      obtain rfl : g = g1 := (by injection e1 with e1; injection e1 with e1)
      have HCC : Hid (∀ n, (wr.drewN n).cell? ⟨g, z, none⟩ = some (.int .u64 ((T.getD z 0 : Nat) : Int)) ∧ (wr.drewN n).cell? ⟨g, l, none⟩ = some (.int .u64 ((T.getD l 0 : Nat) : Int))) := fun n => ⟨(grown_drewN wr n).cell hcz (by simp), (grown_drewN wr n).cell hcl (by simp)⟩
      clear e1 hz hcz hcl
      by_cases he : T.getD z 0 = T.getD l 0
      · have HE : Hid (SP.often T k = T.getD l 0) := SP.often_at HT.out.2.1 HK.out.1 (by have := HL.out; have := HT.out.2.2; omega) HL.out.1 (by rw [← HZ.out]; exact he) (fun j h1 h2 => HNO.out j (by omega) (by have := HL.out; omega) h2)
        rw [he] at HCC
        clear he HNO
        generalize T.getD l 0 = y at *
        have i6 : ((y : Int) == (y : Int)) = true := eqb_yes rfl
        go_wp2_with fail
        go_region_held3 (fun w' => w'.cell? ⟨g, z, none⟩ = some (.int .u64 (y : Int)) ∧ w'.cell? ⟨g, l, none⟩ = some (.int .u64 (y : Int))) (exact HCC.out _) (fail)
        have cl := (HCC.out 1).2
        have GN : Hid (w.grownBy (wr.drewN 1) rw) := grown_trans G1.out (grown_any (grown_trans GK.out (grown_drewN _ _)) _)
        clear HCC
        go_wp2
        go_ret
        exact ⟨by rw [HO.out, HE.out]; rfl, GN.out⟩
      · have HNO2 : Hid (∀ j : Nat, (l : Int) - 1 < (j : Int) → k ≤ j + 1 → j < T.length → T.getD (j + 1 - k) 0 ≠ T.getD j 0) := fun j h1 h2 h3 => by
          by_cases c : j = l
          · subst c; rw [← HZ.out]; exact he
          · exact HNO.out j (by omega) h2 h3
        have i6 : (((T.getD z 0 : Nat) : Int) == ((T.getD l 0 : Nat) : Int)) = false := eqb_no he
        have GN : Hid (w1.grownBy (wr.drewN 1) none) := grown_trans GK.out (grown_drewN _ _)
        clear he HNO
        generalize T.getD l 0 = y at *
        generalize T.getD z 0 = y2 at *
        go_wp2_with fail
        go_region_held3 (fun w' => w'.cell? ⟨g, z, none⟩ = some (.int .u64 (y2 : Int)) ∧ w'.cell? ⟨g, l, none⟩ = some (.int .u64 (y : Int))) (exact HCC.out _) (fail)
        go_wp2
        go_roundw
        case rel => exact ⟨(l : Int) - 1, by omega, rfl, HNO2, GN⟩
        case measure => simp [intOf]
    · have HE : Hid (SP.often T k = 0) := SP.often_none HT.out.2.1 HK.out.1 (fun j h1 h2 => HNO.out j (by have := HC.out; omega) h1 h2)
      have GN : Hid (w.grownBy wr rw) := grown_trans G1.out (grown_any GK.out _)
      go_wp2
      go_ret
      exact ⟨by rw [HO.out, HE.out]; rfl, GN.out⟩
end Go.Proofs.YtfjlpifaaknmpaaGreat

/- What none answers; Whole of a slot that can't be asked of. -/
set_option linter.unusedSimpArgs false
set_option linter.unusedVariables false
set_option maxRecDepth 100000
namespace Go.Proofs.YtfjlpifaaknmpaaGreat
open Go.RowKit

section
variable {F F' : Nat → Prop} {w w' : World} {s a : Nat} {g : SP.Geo} {R R' : AM.Raw}
theorem swhole_err (h : SI F w s a g R) {slot : Int} (hy : SP.why R g slot ≠ 0) :
    Calls Tryz.prog 21 #[ptr s, .int .i64 slot] w fun e w' => e = .returned (.tuple #[.int .u64 0, .int .i64 (SP.why R g slot : Int)]) ∧ w' = w := by
  obtain ⟨y, hy1⟩ : ∃ y, y = SP.why R g slot := ⟨_, rfl⟩
  have HR : Hid (Calls Tryz.prog 45 #[ptr s, .int .i64 slot] w fun e w'' => e = .returned (.int .i64 (y : Int)) ∧ w'' = w) := by rw [hy1]; exact sreach_yes h slot
  rw [← hy1] at hy ⊢
  have hne : ((y : Int) != 0) = true := neb_yes (b := 0) hy
  clear h hy hy1
  go_enter Tryz.func21, Tryz.ntmps21
  go_wp2_with (go_at_call 45; refine HR.out.mono ?_; rintro e w9 ⟨rfl, hw9⟩; obtain rfl := hw9.symm; clear hw9)
  go_ret2
  exact ⟨rfl, rfl⟩
end
end Go.Proofs.YtfjlpifaaknmpaaGreat

