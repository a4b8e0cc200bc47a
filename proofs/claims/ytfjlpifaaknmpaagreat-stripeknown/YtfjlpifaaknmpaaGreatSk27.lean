/- Packed: KnW8. -/
import Derived.Deep.RegionHeld3
import Derived.BigRegion
import Derived.Deep.MidRow
import Derived.Test.YtfjlpifaaknmpaaGreatSk1
import Derived.Test.YtfjlpifaaknmpaaGreatSk2
import Derived.Test.YtfjlpifaaknmpaaGreatSk3
import Derived.Test.YtfjlpifaaknmpaaGreatSk4
import Derived.Test.YtfjlpifaaknmpaaGreatSk5
import Derived.Test.YtfjlpifaaknmpaaGreatSk6
import Derived.Test.YtfjlpifaaknmpaaGreatSk7
import Derived.Test.YtfjlpifaaknmpaaGreatSk8
import Derived.Test.YtfjlpifaaknmpaaGreatSk9
import Derived.Test.YtfjlpifaaknmpaaGreatSk10
import Derived.Test.YtfjlpifaaknmpaaGreatSk11
import Derived.Test.YtfjlpifaaknmpaaGreatSk12
import Derived.Test.YtfjlpifaaknmpaaGreatSk13
import Derived.Test.YtfjlpifaaknmpaaGreatSk14
import Derived.Test.YtfjlpifaaknmpaaGreatSk15
import Derived.Test.YtfjlpifaaknmpaaGreatSk16
import Derived.Test.YtfjlpifaaknmpaaGreatSk17
import Derived.Test.YtfjlpifaaknmpaaGreatSk18
import Derived.Test.YtfjlpifaaknmpaaGreatSk19
import Derived.Test.YtfjlpifaaknmpaaGreatSk20
import Derived.Test.YtfjlpifaaknmpaaGreatSk21
import Derived.Test.YtfjlpifaaknmpaaGreatSk22
import Derived.Test.YtfjlpifaaknmpaaGreatSk23
import Derived.Test.YtfjlpifaaknmpaaGreatSk24
import Derived.Test.YtfjlpifaaknmpaaGreatSk25
import Derived.Test.YtfjlpifaaknmpaaGreatSk26
/- The walk of StripeKnown. -/
set_option linter.unusedSimpArgs false
set_option linter.unusedVariables false
set_option maxRecDepth 100000
namespace Go.Proofs.YtfjlpifaaknmpaaGreat.stripeKnown
open Go.RowKit

set_option maxHeartbeats 12800000 in
theorem walk {w : World} : Calls Tryz.prog 5 #[] w fun e w' => e = .returned (.bool true) ∧ w.grownBy w' none := by
  have MD : Hid (Calls Tryz.prog 7 #[.int .i64 2, .int .i64 1, .int .i64 1, .int .i64 0] w fun e w' => ∃ s t, e = .returned (.tuple #[ptr s, .pointer (some ⟨t, 0, none⟩)]) ∧ ∃ F G a r, Duo F G w w' s a t r gK QK0) := made8_yes w (k := 2) (more := 1) (S := 1) (f := 0) (by decide) (by decide) (by decide) (by decide) (by decide) (by decide)
  have DT : Hid (∀ w', Calls Tryz.prog 10 #[.int .i64 2, .int .u8 1] w' fun e w'' => ∃ p n c, e = .returned (.slice p n c) ∧ Own w'.heap.size w'' (.slice p n c) (datL 2 1) ∧ w'.grownBy w'' none) := fun w' => data_yes w' (k := 2) (x := 1) (by decide) (by decide) (by decide)
  go_enter Tryz.func5, Tryz.ntmps5
  go_wp2_with fail
  refine (MD.out).mono ?_
  rintro e w1 ⟨s, t, rfl, F1, G1, a, r, du⟩
  have I : Hid (SI F1 w1 s a gK QK0) := du.i
  have B : Hid (Base w F1 w1) := ⟨du.gr, du.bi⟩
  clear du MD
  go_wp2_with fail
  refine (awake8 w1).mono ?_
  rintro e w2 ⟨rfl, gx⟩
  have ix := I.out.keep gx
  have bx := B.out.keep gx
  clear gx
  have Ix : Hid (SI F1 w2 s a gK QK0) := ix
  have Bx : Hid (Base w F1 w2) := bx
  clear ix bx I B
  have I := Ix
  have B := Bx
  clear Ix Bx
  go_wp2_with fail
  refine (DT.out _).mono ?_
  rintro e w3 ⟨p1, n1, c1, rfl, ox, gx⟩
  have V1 : Hid (Aw F1 w3 (.slice p1 n1 c1) (datL 2 1)) := ox.aw I.out.i.lt
  have ix := I.out.keep gx
  have bx := B.out.keep gx
  clear ox gx
  have Ix : Hid (SI F1 w3 s a gK QK0) := ix
  have Bx : Hid (Base w F1 w3) := bx
  clear ix bx I B
  have I := Ix
  have B := Bx
  clear Ix Bx
  have WC : Hid (Calls Tryz.prog 11 #[ptr s, .int .i64 0, .int .u64 5, .slice p1 n1 c1] w3 fun e w' => e = .returned (.int .i64 0) ∧ ∃ F', SI F' w' s a gK QK1 ∧ Step F1 w3 F' w') := by
    have h0 := swrite_all I.out ((0 : Nat) : Int) 5 V1.out (by decide)
    rw [qk1.1] at h0
    exact h0
  go_wp2_with fail
  refine (WC.out).mono ?_
  rintro e w4 ⟨rfl, Fw4, ix, st⟩
  have bx := B.out.step st
  clear WC V1
  clear st
  have Ix : Hid (SI Fw4 w4 s a gK QK1) := ix
  have Bx : Hid (Base w Fw4 w4) := bx
  clear ix bx I B
  have I := Ix
  have B := Bx
  clear Ix Bx
  have RC : Hid (Calls Tryz.prog 14 #[ptr s, .int .i64 (0), .int .u64 4] w4 fun e w' => ∃ p n c, e = .returned (.tuple #[.slice p n c, .int .i64 20]) ∧ w4.grownBy w' none) := by
    refine (sread_all I.out ((0 : Nat) : Int) 4).mono ?_
    rintro e w' ⟨v, er, out, rfl, hr, ho, hg⟩
    rw [rk_a hr]
    obtain ⟨p, n, c, rfl, _⟩ := ho.vec.opened
    exact ⟨p, n, c, rfl, hg⟩
  go_wp2_with fail
  refine RC.out.mono ?_
  rintro e w5 ⟨px1, nx1, cx1, rfl, gx⟩
  have ix := I.out.keep gx
  have bx := B.out.keep gx
  clear gx RC
  have Ix : Hid (SI Fw4 w5 s a gK QK1) := ix
  have Bx : Hid (Base w Fw4 w5) := bx
  clear ix bx I B
  have I := Ix
  have B := Bx
  clear Ix Bx
  have RC : Hid (Calls Tryz.prog 14 #[ptr s, .int .i64 (0), .int .u64 0] w5 fun e w' => ∃ p n c, e = .returned (.tuple #[.slice p n c, .int .i64 1]) ∧ w5.grownBy w' none) := by
    refine (sread_all I.out ((0 : Nat) : Int) 0).mono ?_
    rintro e w' ⟨v, er, out, rfl, hr, ho, hg⟩
    rw [rk_b hr]
    obtain ⟨p, n, c, rfl, _⟩ := ho.vec.opened
    exact ⟨p, n, c, rfl, hg⟩
  go_wp2_with fail
  refine RC.out.mono ?_
  rintro e w6 ⟨px2, nx2, cx2, rfl, gx⟩
  have ix := I.out.keep gx
  have bx := B.out.keep gx
  clear gx RC
  have Ix : Hid (SI Fw4 w6 s a gK QK1) := ix
  have Bx : Hid (Base w Fw4 w6) := bx
  clear ix bx I B
  have I := Ix
  have B := Bx
  clear Ix Bx
  have RC : Hid (Calls Tryz.prog 14 #[ptr s, .int .i64 (-1), .int .u64 5] w6 fun e w' => ∃ p n c, e = .returned (.tuple #[.slice p n c, .int .i64 6]) ∧ w6.grownBy w' none) := by
    refine (sread_all I.out (-1) 5).mono ?_
    rintro e w' ⟨v, er, out, rfl, hr, ho, hg⟩
    rw [rk_c hr]
    obtain ⟨p, n, c, rfl, _⟩ := ho.vec.opened
    exact ⟨p, n, c, rfl, hg⟩
  go_wp2_with fail
  refine RC.out.mono ?_
  rintro e w7 ⟨px3, nx3, cx3, rfl, gx⟩
  have ix := I.out.keep gx
  have bx := B.out.keep gx
  clear gx RC
  have Ix : Hid (SI Fw4 w7 s a gK QK1) := ix
  have Bx : Hid (Base w Fw4 w7) := bx
  clear ix bx I B
  have I := Ix
  have B := Bx
  clear Ix Bx
  have RC : Hid (Calls Tryz.prog 14 #[ptr s, .int .i64 (1), .int .u64 5] w7 fun e w' => ∃ p n c, e = .returned (.tuple #[.slice p n c, .int .i64 6]) ∧ w7.grownBy w' none) := by
    refine (sread_all I.out (1) 5).mono ?_
    rintro e w' ⟨v, er, out, rfl, hr, ho, hg⟩
    rw [rk_d hr]
    obtain ⟨p, n, c, rfl, _⟩ := ho.vec.opened
    exact ⟨p, n, c, rfl, hg⟩
  go_wp2_with fail
  refine RC.out.mono ?_
  rintro e w8 ⟨px4, nx4, cx4, rfl, gx⟩
  have ix := I.out.keep gx
  have bx := B.out.keep gx
  clear gx RC
  have Ix : Hid (SI Fw4 w8 s a gK QK1) := ix
  have Bx : Hid (Base w Fw4 w8) := bx
  clear ix bx I B
  have I := Ix
  have B := Bx
  clear Ix Bx
  go_wp2_with fail
  refine (DT.out _).mono ?_
  rintro e w9 ⟨p2, n2, c2, rfl, ox, gx⟩
  have V2 : Hid (Aw Fw4 w9 (.slice p2 n2 c2) (datL 2 1)) := ox.aw I.out.i.lt
  have ix := I.out.keep gx
  have bx := B.out.keep gx
  clear ox gx
  have Ix : Hid (SI Fw4 w9 s a gK QK1) := ix
  have Bx : Hid (Base w Fw4 w9) := bx
  clear ix bx I B
  have I := Ix
  have B := Bx
  clear Ix Bx
  have WC : Hid (Calls Tryz.prog 11 #[ptr s, .int .i64 0, .int .u64 0, .slice p2 n2 c2] w9 fun e w' => e = .returned (.int .i64 1) ∧ ∃ F', SI F' w' s a gK QK1 ∧ Step Fw4 w9 F' w') := by
    have h0 := swrite_all I.out ((0 : Nat) : Int) 0 V2.out (by have := qk1.2.2.2.1; omega)
    rw [rk_e] at h0
    exact h0
  go_wp2_with fail
  refine (WC.out).mono ?_
  rintro e w10 ⟨rfl, Fw10, ix, st⟩
  have bx := B.out.step st
  clear WC V2
  clear st
  have Ix : Hid (SI Fw10 w10 s a gK QK1) := ix
  have Bx : Hid (Base w Fw10 w10) := bx
  clear ix bx I B
  have I := Ix
  have B := Bx
  clear Ix Bx
  have VN : Hid (Aw Fw10 w10 (.slice none 0 0) []) := ⟨(Own.nil 0 _).vec, fun h => absurd rfl h⟩
  have WC : Hid (Calls Tryz.prog 11 #[ptr s, .int .i64 0, .int .u64 6, .slice none 0 0] w10 fun e w' => e = .returned (.int .i64 1) ∧ ∃ F', SI F' w' s a gK QK1 ∧ Step Fw10 w10 F' w') := by
    have h0 := swrite_all I.out ((0 : Nat) : Int) 6 VN.out (by have := qk1.2.2.2.1; omega)
    rw [rk_f] at h0
    exact h0
  go_wp2_with fail
  refine (WC.out).mono ?_
  rintro e w11 ⟨rfl, Fw11, ix, st⟩
  have bx := B.out.step st
  clear WC VN
  clear st
  have Ix : Hid (SI Fw11 w11 s a gK QK1) := ix
  have Bx : Hid (Base w Fw11 w11) := bx
  clear ix bx I B
  have I := Ix
  have B := Bx
  clear Ix Bx
  go_wp2_with fail
  refine (sarray_yes I.out).mono ?_
  rintro e w9 ⟨rfl, hw9⟩
  obtain rfl := hw9.symm
  clear hw9
  have LC : Hid (Calls Tryz.prog 25 #[ptr a, .int .i64 0] w11 fun e w' => e = .returned (.int .i64 0) ∧ ∃ F', SI F' w' s a gK QK2 ∧ Step Fw11 w11 F' w') := by
    refine (lose_at (d := ((0 : Nat) : Int)) I.out.i (by have := qk1.2.2.2.1; omega) (c := 0) (by rw [qk2.1]; rfl) rfl).mono ?_
    rintro e w' ⟨rfl, F', i, st⟩
    exact ⟨rfl, F', I.out.step i st qk2.2.2.2.2.1, st⟩
  go_wp2_with fail
  refine (LC.out).mono ?_
  rintro e w12 ⟨rfl, Fw12, ix, st⟩
  have bx := B.out.step st
  clear LC
  clear st
  have Ix : Hid (SI Fw12 w12 s a gK QK2) := ix
  have Bx : Hid (Base w Fw12 w12) := bx
  clear ix bx I B
  have I := Ix
  have B := Bx
  clear Ix Bx
  go_wp2_with (first | (at_make; refine wpList_make_vec rfl _ _ rfl 448 rfl rfl (by omega) ?_; intro w13 p3 ox gx; have V3 : Hid (Vec w13 (.slice p3 448 448) (List.replicate 448 0)) := ox.vec; have ix := I.out.keep gx; have bx := B.out.keep gx; clear ox gx) | fail)
  have Ix : Hid (SI Fw12 w13 s a gK QK2) := ix
  have Bx : Hid (Base w Fw12 w13) := bx
  clear ix bx I B
  have I := Ix
  have B := Bx
  clear Ix Bx
  have PC : Hid (Calls Tryz.prog 17 #[ptr s, .int .i64 0, .int .i64 0, .int .u64 5, .slice p3 448 448] w13 fun e w' => e = .returned (.int .i64 9) ∧ ∃ F', SI F' w' s a gK QK2 ∧ Step Fw12 w13 F' w') := by
    have h0 := sput_all I.out ((0 : Nat) : Int) ((0 : Nat) : Int) 5 V3.out (by have := qk2.2.2.2.1; omega)
    rw [rk_g _ (by simp)] at h0
    exact h0
  refine PC.out.mono ?_
  rintro e w14 ⟨rfl, Fw14, ix, st⟩
  have bx := B.out.step st
  clear st PC V3
  have Ix : Hid (SI Fw14 w14 s a gK QK2) := ix
  have Bx : Hid (Base w Fw14 w14) := bx
  clear ix bx I B
  have I := Ix
  have B := Bx
  clear Ix Bx
  go_wp2_with (first | (at_make; refine wpList_make_vec rfl _ _ rfl 448 rfl rfl (by omega) ?_; intro w15 p4 ox gx; have V4 : Hid (Vec w15 (.slice p4 448 448) (List.replicate 448 0)) := ox.vec; have ix := I.out.keep gx; have bx := B.out.keep gx; clear ox gx) | fail)
  have Ix : Hid (SI Fw14 w15 s a gK QK2) := ix
  have Bx : Hid (Base w Fw14 w15) := bx
  clear ix bx I B
  have I := Ix
  have B := Bx
  clear Ix Bx
  have PC : Hid (Calls Tryz.prog 17 #[ptr s, .int .i64 3, .int .i64 0, .int .u64 5, .slice p4 448 448] w15 fun e w' => e = .returned (.int .i64 6) ∧ ∃ F', SI F' w' s a gK QK2 ∧ Step Fw14 w15 F' w') := by
    have h0 := sput_all I.out 3 ((0 : Nat) : Int) 5 V4.out (by have := qk2.2.2.2.1; omega)
    rw [rk_h] at h0
    exact h0
  refine PC.out.mono ?_
  rintro e w16 ⟨rfl, Fw16, ix, st⟩
  have bx := B.out.step st
  clear st PC V4
  have Ix : Hid (SI Fw16 w16 s a gK QK2) := ix
  have Bx : Hid (Base w Fw16 w16) := bx
  clear ix bx I B
  have I := Ix
  have B := Bx
  clear Ix Bx
  go_wp2_with (first | (at_make; refine wpList_make_vec rfl _ _ rfl 448 rfl rfl (by omega) ?_; intro w17 p5 ox gx; have V5 : Hid (Vec w17 (.slice p5 448 448) (List.replicate 448 0)) := ox.vec; have ix := I.out.keep gx; have bx := B.out.keep gx; clear ox gx) | fail)
  have Ix : Hid (SI Fw16 w17 s a gK QK2) := ix
  have Bx : Hid (Base w Fw16 w17) := bx
  clear ix bx I B
  have I := Ix
  have B := Bx
  clear Ix Bx
  have PC : Hid (Calls Tryz.prog 17 #[ptr s, .int .i64 0, .int .i64 0, .int .u64 0, .slice p5 448 448] w17 fun e w' => e = .returned (.int .i64 1) ∧ ∃ F', SI F' w' s a gK QK2 ∧ Step Fw16 w17 F' w') := by
    have h0 := sput_all I.out ((0 : Nat) : Int) ((0 : Nat) : Int) 0 V5.out (by have := qk2.2.2.2.1; omega)
    rw [rk_i] at h0
    exact h0
  refine PC.out.mono ?_
  rintro e w18 ⟨rfl, Fw18, ix, st⟩
  have bx := B.out.step st
  clear st PC V5
  have Ix : Hid (SI Fw18 w18 s a gK QK2) := ix
  have Bx : Hid (Base w Fw18 w18) := bx
  clear ix bx I B
  have I := Ix
  have B := Bx
  clear Ix Bx
  have HC : Hid (Calls Tryz.prog 19 #[ptr s, .int .i64 0, .int .i64 0, .int .u64 5] w18 fun e w' => e = .returned (.tuple #[.bool false, .int .i64 0]) ∧ w18.grownBy w' none) := by
    have h0 := shas_all I.out ((0 : Nat) : Int) ((0 : Nat) : Int) 5
    rw [rk_j.1, rk_j.2] at h0
    exact h0
  go_wp2_with fail
  refine (HC.out).mono ?_
  rintro e w19 ⟨rfl, gx⟩
  have ix := I.out.keep gx
  have bx := B.out.keep gx
  clear HC
  clear gx
  have Ix : Hid (SI Fw18 w19 s a gK QK2) := ix
  have Bx : Hid (Base w Fw18 w19) := bx
  clear ix bx I B
  have I := Ix
  have B := Bx
  clear Ix Bx
  have HC : Hid (Calls Tryz.prog 19 #[ptr s, .int .i64 1, .int .i64 0, .int .u64 5] w19 fun e w' => e = .returned (.tuple #[.bool true, .int .i64 0]) ∧ w19.grownBy w' none) := by
    have h0 := shas_all I.out ((1 : Nat) : Int) ((0 : Nat) : Int) 5
    rw [rk_k.1, rk_k.2] at h0
    exact h0
  go_wp2_with fail
  refine (HC.out).mono ?_
  rintro e w20 ⟨rfl, gx⟩
  have ix := I.out.keep gx
  have bx := B.out.keep gx
  clear HC
  clear gx
  have Ix : Hid (SI Fw18 w20 s a gK QK2) := ix
  have Bx : Hid (Base w Fw18 w20) := bx
  clear ix bx I B
  have I := Ix
  have B := Bx
  clear Ix Bx
  go_wp2_with fail
  refine (sarray_yes I.out).mono ?_
  rintro e w9 ⟨rfl, hw9⟩
  obtain rfl := hw9.symm
  clear hw9
  have LC : Hid (Calls Tryz.prog 25 #[ptr a, .int .i64 1] w20 fun e w' => e = .returned (.int .i64 0) ∧ ∃ F', SI F' w' s a gK QK3 ∧ Step Fw18 w20 F' w') := by
    refine (lose_at (d := ((1 : Nat) : Int)) I.out.i (by have := qk2.2.2.2.1; omega) (c := 0) (by rw [qk3.1]; rfl) rfl).mono ?_
    rintro e w' ⟨rfl, F', i, st⟩
    exact ⟨rfl, F', I.out.step i st qk3.2.2.2.1, st⟩
  go_wp2_with fail
  refine (LC.out).mono ?_
  rintro e w21 ⟨rfl, Fw21, ix, st⟩
  have bx := B.out.step st
  clear LC
  clear st
  have Ix : Hid (SI Fw21 w21 s a gK QK3) := ix
  have Bx : Hid (Base w Fw21 w21) := bx
  clear ix bx I B
  have I := Ix
  have B := Bx
  clear Ix Bx
  go_wp2_with fail
  refine (DT.out _).mono ?_
  rintro e w22 ⟨p6, n6, c6, rfl, ox, gx⟩
  have V6 : Hid (Aw Fw21 w22 (.slice p6 n6 c6) (datL 2 1)) := ox.aw I.out.i.lt
  have ix := I.out.keep gx
  have bx := B.out.keep gx
  clear ox gx
  have Ix : Hid (SI Fw21 w22 s a gK QK3) := ix
  have Bx : Hid (Base w Fw21 w22) := bx
  clear ix bx I B
  have I := Ix
  have B := Bx
  clear Ix Bx
  have WC : Hid (Calls Tryz.prog 11 #[ptr s, .int .i64 0, .int .u64 6, .slice p6 n6 c6] w22 fun e w' => e = .returned (.int .i64 20) ∧ ∃ F', SI F' w' s a gK QK3 ∧ Step Fw21 w22 F' w') := by
    have h0 := swrite_all I.out ((0 : Nat) : Int) 6 V6.out (by have := qk3.2.2.1; omega)
    rw [rk_l] at h0
    exact h0
  go_wp2_with fail
  refine (WC.out).mono ?_
  rintro e w23 ⟨rfl, Fw23, ix, st⟩
  have bx := B.out.step st
  clear WC V6
  clear st
  have Ix : Hid (SI Fw23 w23 s a gK QK3) := ix
  have Bx : Hid (Base w Fw23 w23) := bx
  clear ix bx I B
  have I := Ix
  have B := Bx
  clear Ix Bx
  go_wp2_with fail
  refine (sarray_yes I.out).mono ?_
  rintro e w9 ⟨rfl, hw9⟩
  obtain rfl := hw9.symm
  clear hw9
  have FC : Hid (Calls Tryz.prog 33 #[ptr a, .int .i64 1] w23 fun e w' => e = .returned (.tuple #[]) ∧ ∃ F', SI F' w' s a gK QK4 ∧ Step Fw23 w23 F' w') := by
    refine (fuse_at (n := 1) I.out.i (by decide) rfl).mono ?_
    rintro e w' ⟨rfl, F', i, st⟩
    exact ⟨rfl, F', I.out.step i st qk4, st⟩
  go_wp2_with fail
  refine (FC.out).mono ?_
  rintro e w24 ⟨rfl, Fw24, ix, st⟩
  have bx := B.out.step st
  clear FC
  clear st
  have Ix : Hid (SI Fw24 w24 s a gK QK4) := ix
  have Bx : Hid (Base w Fw24 w24) := bx
  clear ix bx I B
  have I := Ix
  have B := Bx
  clear Ix Bx
  go_wp2_with fail
  refine (sarray_yes I.out).mono ?_
  rintro e w9 ⟨rfl, hw9⟩
  obtain rfl := hw9.symm
  clear hw9
  have BC : Hid (Calls Tryz.prog 29 #[ptr a] w24 fun e w' => e = .returned (.int .i64 8) ∧ ∃ F', SI F' w' s a gK QK5 ∧ Step Fw24 w24 F' w') := by
    refine (barrier_at I.out.i (c := 8) (by rw [qk5.1]; rfl) rfl).mono ?_
    rintro e w' ⟨rfl, F', i, st⟩
    exact ⟨rfl, F', I.out.step i st qk5.2.2, st⟩
  go_wp2_with fail
  refine (BC.out).mono ?_
  rintro e w25 ⟨rfl, Fw25, ix, st⟩
  have bx := B.out.step st
  clear BC
  clear st
  have Ix : Hid (SI Fw25 w25 s a gK QK5) := ix
  have Bx : Hid (Base w Fw25 w25) := bx
  clear ix bx I B
  have I := Ix
  have B := Bx
  clear Ix Bx
  have HW : Hid (Calls Tryz.prog 21 #[ptr s, .int .i64 9] w25 fun e w' => e = .returned (.tuple #[.int .u64 0, .int .i64 8]) ∧ w' = w25) := by
    have h0 := swhole_err I.out (slot := 9) (by rw [rk_m]; decide)
    rw [rk_m] at h0
    exact h0
  go_wp2_with fail
  refine (HW.out).mono ?_
  rintro e w9 ⟨rfl, hw9⟩
  obtain rfl := hw9.symm
  clear hw9
  clear HW
  go_wp2_with fail
  refine (sread_nil _ 0 1).mono ?_
  rintro e w26 ⟨rfl, gx⟩
  have ix := I.out.keep gx
  have bx := B.out.keep gx
  clear gx
  have Ix : Hid (SI Fw25 w26 s a gK QK5) := ix
  have Bx : Hid (Base w Fw25 w26) := bx
  clear ix bx I B
  have I := Ix
  have B := Bx
  clear Ix Bx
  go_wp2_with fail
  refine (snew_nil _ 1 2 1 0).mono ?_
  rintro e w27 ⟨rfl, gx⟩
  have ix := I.out.keep gx
  have bx := B.out.keep gx
  clear gx
  have Ix : Hid (SI Fw25 w27 s a gK QK5) := ix
  have Bx : Hid (Base w Fw25 w27) := bx
  clear ix bx I B
  have I := Ix
  have B := Bx
  clear Ix Bx
  go_wp2_with fail
  refine (shigh_nil _ 0).mono ?_
  rintro e w9 ⟨rfl, hw9⟩
  obtain rfl := hw9.symm
  clear hw9
  go_wp2_with fail
  refine (sarray_nil _).mono ?_
  rintro e w9 ⟨rfl, hw9⟩
  obtain rfl := hw9.symm
  clear hw9
  go_wp2_with fail
  refine (sgeo_nil _).mono ?_
  rintro e w28 ⟨rfl, gx⟩
  have ix := I.out.keep gx
  have bx := B.out.keep gx
  clear gx
  have Ix : Hid (SI Fw25 w28 s a gK QK5) := ix
  have Bx : Hid (Base w Fw25 w28) := bx
  clear ix bx I B
  have I := Ix
  have B := Bx
  clear Ix Bx
  go_wp2_with fail
  refine (swrite_nil _ 0 1 _).mono ?_
  rintro e w9 ⟨rfl, hw9⟩
  obtain rfl := hw9.symm
  clear hw9
  go_wp2_with fail
  refine (sput_nil _ 0 0 1 _).mono ?_
  rintro e w9 ⟨rfl, hw9⟩
  obtain rfl := hw9.symm
  clear hw9
  go_wp2
  go_ret
  exact ⟨rfl, B.out.grown⟩
end Go.Proofs.YtfjlpifaaknmpaaGreat.stripeKnown

