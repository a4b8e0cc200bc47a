/- The walk of StampKnown. -/
import Derived.Test.YtjphdocacpemoaaLift5
import Derived.Test.YtjphdocacpemoaaAll5
namespace Go.Proofs.Ytjphdocacpemoaa.stampKnown
open Go.ChangeShapes Go.WideShapes Go.ChangeAt Go.RowKit

theorem made_z (n : Nat) : madeCells #[.int .u8 0] n = rowOf (SM.z n) := by
  have h := made_list (.int .u8 0) n
  have e : (madeCells #[.int .u8 0] n).size = n := by simp [madeCells]
  rw [List.take_of_length_le (by rw [Array.length_toList, e]; exact Nat.le_refl _)] at h
  apply Array.ext'
  rw [h]
  simp [rowOf, SM.z]
theorem run_made {W : World} (n : Nat) (h : n ≤ 1000) : (Instr.makeSlice 23 (.int .i64 (n : Int)) (.int .i64 (n : Int))).run Try.prog W = .ok (.slice (some ⟨W.heap.size, 0, none⟩) n n) (W.alloc (.cells (rowOf (SM.z n)) 5)) := by
  obtain ⟨i0, hi, hz0, hz1, hz2⟩ := info_parts Try.info5
  have := run_make_row (P := Try.prog) 23 5 i0 (.int .u8 0) Try.underlying23 hi hz0 hz1 rfl .i64 .i64 n (by rw [hz2]; omega) (by omega) W
  rw [this, made_z]
theorem vec_made {W : World} (n : Nat) (h : n ≤ 1000) : Vec (W.alloc (.cells (rowOf (SM.z n)) 5)) (.slice (some ⟨W.heap.size, 0, none⟩) n n) (SM.z n) :=
  (Arr.whole (B := 0) (heap_alloc_new W _) (Nat.zero_le _) (by rw [SM.z_len]) (SM.z_small n) (by rw [SM.z_len]; omega)).vec

set_option maxHeartbeats 4000000 in
theorem walk {w : World} : Calls Try.prog 7 #[] w fun e w' => e = .returned (.bool true) ∧ w.grownBy w' none := by
  go_enter Try.func7, Try.ntmps7
  go_wp2_with (first
    | (at_make; refine wpList_make_vec rfl _ _ rfl 63 rfl rfl (by decide) ?_; intro w1 q ou g1; have OU : Hid (Own w.heap.size w1 (.slice q 63 63) (SM.z 63)) := ou; have G1 : Hid (w.grownBy w1 none) := g1; clear ou g1)
    | fail)
  refine (take_short OU.out.vec (by rw [SM.z_len]; decide)).mono ?_
  rintro e w2 ⟨rfl, hw⟩
  obtain rfl := hw.symm
  clear hw OU
  go_wp2_with (first
    | (at_make; refine wpList_make_vec rfl _ _ rfl 65 rfl rfl (by decide) ?_; intro w3 q3 ou g3; have OU : Hid (Own w1.heap.size w3 (.slice q3 65 65) (SM.z 65)) := ou; have G3 : Hid (w.grownBy w3 none) := grown_trans G1.out g3; clear ou g3 G1)
    | fail)
  refine (take_long OU.out.vec (by rw [SM.z_len]; decide)).mono ?_
  rintro e w4 ⟨rfl, hw⟩
  obtain rfl := hw.symm
  clear hw OU
  go_wp2_with (first
    | (at_make; refine wpList_make_vec rfl _ _ rfl 56 rfl rfl (by decide) ?_; intro w5 q5 ou g5; have OU : Hid (Own w3.heap.size w5 (.slice q5 56 56) (SM.z 56)) := ou; have G5 : Hid (w.grownBy w5 none) := grown_trans G3.out g5; clear ou g5 G3)
    | fail)
  refine (put_yes (n := 18446744073709551615) OU.out.vec (by rw [SM.z_len]; decide)).mono ?_
  rintro e w6 ⟨p, rfl, o6, g6⟩
  have G6 : Hid (w.grownBy w6 none) := grown_trans G5.out g6
  obtain ⟨g, rfl, hz, c0, _⟩ := o6.spot (k := 0) (by rw [SM.sec_len (by rw [SM.z_len]; decide)]; decide)
  clear hz
  obtain ⟨g', e', hz, c7, _⟩ := o6.spot (k := 7) (by rw [SM.sec_len (by rw [SM.z_len]; decide)]; decide)
  obtain rfl : g = g' := by injection e' with e'; injection e' with e'
  clear hz
  obtain ⟨g', e', hz, c8, _⟩ := o6.spot (k := 8) (by rw [SM.sec_len (by rw [SM.z_len]; decide)]; decide)
  obtain rfl : g = g' := by injection e' with e'; injection e' with e'
  clear hz
  rw [show (SM.sec 18446744073709551615 (SM.z 56)).getD 0 0 = 255 by decide] at c0
  rw [show (SM.sec 18446744073709551615 (SM.z 56)).getD 7 0 = 255 by decide] at c7
  rw [show (SM.sec 18446744073709551615 (SM.z 56)).getD 8 0 = 0 by decide] at c8
  have d0 : w6.cell? ⟨g, 0, none⟩ = some (.int .u8 255) := c0
  have d7 : w6.cell? ⟨g, 7, none⟩ = some (.int .u8 255) := c7
  have d8 : w6.cell? ⟨g, 8, none⟩ = some (.int .u8 0) := c8
  clear c0 c7 c8 o6 g6 OU G5
  have m64 : ∀ W : World, (Instr.makeSlice 23 (.int .i64 64) (.int .i64 64)).run Try.prog W = .ok (.slice (some ⟨W.heap.size, 0, none⟩) 64 64) (W.alloc (.cells (rowOf (SM.z 64)) 5)) := fun W => run_made 64 (by decide)
  have m65 : ∀ W : World, (Instr.makeSlice 23 (.int .i64 65) (.int .i64 65)).run Try.prog W = .ok (.slice (some ⟨W.heap.size, 0, none⟩) 65 65) (W.alloc (.cells (rowOf (SM.z 65)) 5)) := fun W => run_made 65 (by decide)
  go_wp2_with fail
  refine (is_yes 0 (vec_made 64 (by decide)) (by rw [SM.z_len])).mono ?_
  rintro e w7 ⟨rfl, hw⟩
  have G7 : Hid (w.grownBy w7 none) := by rw [hw]; exact gb_alloc G6.out _
  clear hw
  rw [show decide (SM.val (SM.z 64) 8 = 0) = true by decide]
  go_wp2_with fail
  refine (is_no 0 (vec_made 65 (by decide)) (by rw [SM.z_len]; decide)).mono ?_
  rintro e w8 ⟨rfl, hw⟩
  have G8 : Hid (w.grownBy w8 none) := by rw [hw]; exact gb_alloc G7.out _
  clear hw
  go_wp2_with fail
  refine (is_no 0 (Own.nil 0 w8).vec (by decide)).mono ?_
  rintro e w9 ⟨rfl, hw⟩
  obtain rfl := hw.symm
  clear hw
  go_wp2_with fail
  refine (wakes_any _).mono ?_
  rintro e w10 ⟨rfl, g10⟩
  go_wp2
  go_ret
  exact ⟨rfl, grown_trans G8.out g10⟩
end Go.Proofs.Ytjphdocacpemoaa.stampKnown
