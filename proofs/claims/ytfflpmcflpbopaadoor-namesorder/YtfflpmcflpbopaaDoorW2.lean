/- The walk of NamesOrder. -/
import Derived.Test.YtfflpmcflpbopaaDoorWake
set_option linter.unusedVariables false
set_option linter.unusedSimpArgs false
namespace Go.Proofs.YtfflpmcflpbopaaDoor
open Go.RowKit

theorem eq_cmp (a b : ByteArray) : (a.toList == b.toList) = decide (R.cmp (bs a) (bs b) = 0) := by
  rw [bs_eq]
  exact decide_eq_decide.2 (R.cmp_zero _ _).symm
theorem less_cmp (a b : ByteArray) (ha : R.whole (bs a) = true) (hb : R.whole (bs b) = true) : Op.bytesLess a.toList b.toList = decide (R.cmp (bs a) (bs b) = -1) := by
  rw [R.cmp_whole _ _ ha hb, Lib.toList_data, Lib.toList_data, less_bs]; rfl
set_option maxHeartbeats 1600000 in
set_option maxRecDepth 100000 in
theorem order_mmm0 (a b c : ByteArray) (w : World) (HT : Hid (Tabs w)) (HG : Hid (w.grownBy w none)) (h1 : R.cmp (bs a) (bs b) = (-1)) (h2 : R.cmp (bs b) (bs c) = (-1)) (h3 : R.cmp (bs a) (bs c) = (-1)) (h4 : R.cmp (bs b) (bs a) = 1) (h5 : R.cmp (bs a) (bs a) = 0) (he : (a.toList == b.toList) = false) (ha : R.whole (bs a) = false) :
    Calls Tryd.prog 6 #[.string a, .string b, .string c] w fun e w' => e = .returned (.bool true) ∧ w.grownBy w' none := by
  go_enter Tryd.func6, Tryd.ntmps6
  go_wp2_with (first | (go_at_call 18; refine (compare_any _ _ _ (HT.out.keep HG.out)).mono ?_; rintro e w2 ⟨rfl, g2⟩; have g3 := gb_trans HG.out g2; clear HG; have HG := (show Hid _ from g3); clear g3; clear g2) | (go_at_call 15; refine (whole_any _ _).mono ?_; rintro e w2 ⟨rfl, g2⟩; have g3 := gb_trans HG.out g2; clear HG; have HG := (show Hid _ from g3); clear g3; clear g2) | (go_at_call 17; refine (wakes_any _ (HT.out.keep HG.out)).mono ?_; rintro e w2 ⟨rfl, g2⟩; have g3 := gb_trans HG.out g2; clear HG; have HG := (show Hid _ from g3); clear g3; clear g2))
  go_ret
  exact ⟨rfl, HG.out⟩
set_option maxHeartbeats 1600000 in
set_option maxRecDepth 100000 in
theorem order_mmm1 (a b c : ByteArray) (w : World) (HT : Hid (Tabs w)) (HG : Hid (w.grownBy w none)) (h1 : R.cmp (bs a) (bs b) = (-1)) (h2 : R.cmp (bs b) (bs c) = (-1)) (h3 : R.cmp (bs a) (bs c) = (-1)) (h4 : R.cmp (bs b) (bs a) = 1) (h5 : R.cmp (bs a) (bs a) = 0) (he : (a.toList == b.toList) = false) (ha : R.whole (bs a) = true) (hb : R.whole (bs b) = false) :
    Calls Tryd.prog 6 #[.string a, .string b, .string c] w fun e w' => e = .returned (.bool true) ∧ w.grownBy w' none := by
  go_enter Tryd.func6, Tryd.ntmps6
  go_wp2_with (first | (go_at_call 18; refine (compare_any _ _ _ (HT.out.keep HG.out)).mono ?_; rintro e w2 ⟨rfl, g2⟩; have g3 := gb_trans HG.out g2; clear HG; have HG := (show Hid _ from g3); clear g3; clear g2) | (go_at_call 15; refine (whole_any _ _).mono ?_; rintro e w2 ⟨rfl, g2⟩; have g3 := gb_trans HG.out g2; clear HG; have HG := (show Hid _ from g3); clear g3; clear g2) | (go_at_call 17; refine (wakes_any _ (HT.out.keep HG.out)).mono ?_; rintro e w2 ⟨rfl, g2⟩; have g3 := gb_trans HG.out g2; clear HG; have HG := (show Hid _ from g3); clear g3; clear g2))
  go_ret
  exact ⟨rfl, HG.out⟩
set_option maxHeartbeats 1600000 in
set_option maxRecDepth 100000 in
theorem order_mmm2 (a b c : ByteArray) (w : World) (HT : Hid (Tabs w)) (HG : Hid (w.grownBy w none)) (h1 : R.cmp (bs a) (bs b) = (-1)) (h2 : R.cmp (bs b) (bs c) = (-1)) (h3 : R.cmp (bs a) (bs c) = (-1)) (h4 : R.cmp (bs b) (bs a) = 1) (h5 : R.cmp (bs a) (bs a) = 0) (he : (a.toList == b.toList) = false) (ha : R.whole (bs a) = true) (hb : R.whole (bs b) = true) (hl : Op.bytesLess a.toList b.toList = true) :
    Calls Tryd.prog 6 #[.string a, .string b, .string c] w fun e w' => e = .returned (.bool true) ∧ w.grownBy w' none := by
  go_enter Tryd.func6, Tryd.ntmps6
  go_wp2_with (first | (go_at_call 18; refine (compare_any _ _ _ (HT.out.keep HG.out)).mono ?_; rintro e w2 ⟨rfl, g2⟩; have g3 := gb_trans HG.out g2; clear HG; have HG := (show Hid _ from g3); clear g3; clear g2) | (go_at_call 15; refine (whole_any _ _).mono ?_; rintro e w2 ⟨rfl, g2⟩; have g3 := gb_trans HG.out g2; clear HG; have HG := (show Hid _ from g3); clear g3; clear g2) | (go_at_call 17; refine (wakes_any _ (HT.out.keep HG.out)).mono ?_; rintro e w2 ⟨rfl, g2⟩; have g3 := gb_trans HG.out g2; clear HG; have HG := (show Hid _ from g3); clear g3; clear g2))
  go_ret
  exact ⟨rfl, HG.out⟩
set_option maxHeartbeats 1600000 in
set_option maxRecDepth 100000 in
theorem order_mmz0 (a b c : ByteArray) (w : World) (HT : Hid (Tabs w)) (HG : Hid (w.grownBy w none)) (h1 : R.cmp (bs a) (bs b) = (-1)) (h2 : R.cmp (bs b) (bs c) = (-1)) (h3 : R.cmp (bs a) (bs c) = 0) (h4 : R.cmp (bs b) (bs a) = 1) (h5 : R.cmp (bs a) (bs a) = 0) (he : (a.toList == b.toList) = false) (ha : R.whole (bs a) = false) :
    Calls Tryd.prog 6 #[.string a, .string b, .string c] w fun e w' => e = .returned (.bool true) ∧ w.grownBy w' none := by
  go_enter Tryd.func6, Tryd.ntmps6
  go_wp2_with (first | (go_at_call 18; refine (compare_any _ _ _ (HT.out.keep HG.out)).mono ?_; rintro e w2 ⟨rfl, g2⟩; have g3 := gb_trans HG.out g2; clear HG; have HG := (show Hid _ from g3); clear g3; clear g2) | (go_at_call 15; refine (whole_any _ _).mono ?_; rintro e w2 ⟨rfl, g2⟩; have g3 := gb_trans HG.out g2; clear HG; have HG := (show Hid _ from g3); clear g3; clear g2) | (go_at_call 17; refine (wakes_any _ (HT.out.keep HG.out)).mono ?_; rintro e w2 ⟨rfl, g2⟩; have g3 := gb_trans HG.out g2; clear HG; have HG := (show Hid _ from g3); clear g3; clear g2))
  go_ret
  exact ⟨rfl, HG.out⟩
set_option maxHeartbeats 1600000 in
set_option maxRecDepth 100000 in
theorem order_mmz1 (a b c : ByteArray) (w : World) (HT : Hid (Tabs w)) (HG : Hid (w.grownBy w none)) (h1 : R.cmp (bs a) (bs b) = (-1)) (h2 : R.cmp (bs b) (bs c) = (-1)) (h3 : R.cmp (bs a) (bs c) = 0) (h4 : R.cmp (bs b) (bs a) = 1) (h5 : R.cmp (bs a) (bs a) = 0) (he : (a.toList == b.toList) = false) (ha : R.whole (bs a) = true) (hb : R.whole (bs b) = false) :
    Calls Tryd.prog 6 #[.string a, .string b, .string c] w fun e w' => e = .returned (.bool true) ∧ w.grownBy w' none := by
  go_enter Tryd.func6, Tryd.ntmps6
  go_wp2_with (first | (go_at_call 18; refine (compare_any _ _ _ (HT.out.keep HG.out)).mono ?_; rintro e w2 ⟨rfl, g2⟩; have g3 := gb_trans HG.out g2; clear HG; have HG := (show Hid _ from g3); clear g3; clear g2) | (go_at_call 15; refine (whole_any _ _).mono ?_; rintro e w2 ⟨rfl, g2⟩; have g3 := gb_trans HG.out g2; clear HG; have HG := (show Hid _ from g3); clear g3; clear g2) | (go_at_call 17; refine (wakes_any _ (HT.out.keep HG.out)).mono ?_; rintro e w2 ⟨rfl, g2⟩; have g3 := gb_trans HG.out g2; clear HG; have HG := (show Hid _ from g3); clear g3; clear g2))
  go_ret
  exact ⟨rfl, HG.out⟩
set_option maxHeartbeats 1600000 in
set_option maxRecDepth 100000 in
theorem order_mmz2 (a b c : ByteArray) (w : World) (HT : Hid (Tabs w)) (HG : Hid (w.grownBy w none)) (h1 : R.cmp (bs a) (bs b) = (-1)) (h2 : R.cmp (bs b) (bs c) = (-1)) (h3 : R.cmp (bs a) (bs c) = 0) (h4 : R.cmp (bs b) (bs a) = 1) (h5 : R.cmp (bs a) (bs a) = 0) (he : (a.toList == b.toList) = false) (ha : R.whole (bs a) = true) (hb : R.whole (bs b) = true) (hl : Op.bytesLess a.toList b.toList = true) :
    Calls Tryd.prog 6 #[.string a, .string b, .string c] w fun e w' => e = .returned (.bool true) ∧ w.grownBy w' none := by
  go_enter Tryd.func6, Tryd.ntmps6
  go_wp2_with (first | (go_at_call 18; refine (compare_any _ _ _ (HT.out.keep HG.out)).mono ?_; rintro e w2 ⟨rfl, g2⟩; have g3 := gb_trans HG.out g2; clear HG; have HG := (show Hid _ from g3); clear g3; clear g2) | (go_at_call 15; refine (whole_any _ _).mono ?_; rintro e w2 ⟨rfl, g2⟩; have g3 := gb_trans HG.out g2; clear HG; have HG := (show Hid _ from g3); clear g3; clear g2) | (go_at_call 17; refine (wakes_any _ (HT.out.keep HG.out)).mono ?_; rintro e w2 ⟨rfl, g2⟩; have g3 := gb_trans HG.out g2; clear HG; have HG := (show Hid _ from g3); clear g3; clear g2))
  go_ret
  exact ⟨rfl, HG.out⟩
set_option maxHeartbeats 1600000 in
set_option maxRecDepth 100000 in
theorem order_mzm0 (a b c : ByteArray) (w : World) (HT : Hid (Tabs w)) (HG : Hid (w.grownBy w none)) (h1 : R.cmp (bs a) (bs b) = (-1)) (h2 : R.cmp (bs b) (bs c) = 0) (h3 : R.cmp (bs a) (bs c) = (-1)) (h4 : R.cmp (bs b) (bs a) = 1) (h5 : R.cmp (bs a) (bs a) = 0) (he : (a.toList == b.toList) = false) (ha : R.whole (bs a) = false) :
    Calls Tryd.prog 6 #[.string a, .string b, .string c] w fun e w' => e = .returned (.bool true) ∧ w.grownBy w' none := by
  go_enter Tryd.func6, Tryd.ntmps6
  go_wp2_with (first | (go_at_call 18; refine (compare_any _ _ _ (HT.out.keep HG.out)).mono ?_; rintro e w2 ⟨rfl, g2⟩; have g3 := gb_trans HG.out g2; clear HG; have HG := (show Hid _ from g3); clear g3; clear g2) | (go_at_call 15; refine (whole_any _ _).mono ?_; rintro e w2 ⟨rfl, g2⟩; have g3 := gb_trans HG.out g2; clear HG; have HG := (show Hid _ from g3); clear g3; clear g2) | (go_at_call 17; refine (wakes_any _ (HT.out.keep HG.out)).mono ?_; rintro e w2 ⟨rfl, g2⟩; have g3 := gb_trans HG.out g2; clear HG; have HG := (show Hid _ from g3); clear g3; clear g2))
  go_ret
  exact ⟨rfl, HG.out⟩
set_option maxHeartbeats 1600000 in
set_option maxRecDepth 100000 in
theorem order_mzm1 (a b c : ByteArray) (w : World) (HT : Hid (Tabs w)) (HG : Hid (w.grownBy w none)) (h1 : R.cmp (bs a) (bs b) = (-1)) (h2 : R.cmp (bs b) (bs c) = 0) (h3 : R.cmp (bs a) (bs c) = (-1)) (h4 : R.cmp (bs b) (bs a) = 1) (h5 : R.cmp (bs a) (bs a) = 0) (he : (a.toList == b.toList) = false) (ha : R.whole (bs a) = true) (hb : R.whole (bs b) = false) :
    Calls Tryd.prog 6 #[.string a, .string b, .string c] w fun e w' => e = .returned (.bool true) ∧ w.grownBy w' none := by
  go_enter Tryd.func6, Tryd.ntmps6
  go_wp2_with (first | (go_at_call 18; refine (compare_any _ _ _ (HT.out.keep HG.out)).mono ?_; rintro e w2 ⟨rfl, g2⟩; have g3 := gb_trans HG.out g2; clear HG; have HG := (show Hid _ from g3); clear g3; clear g2) | (go_at_call 15; refine (whole_any _ _).mono ?_; rintro e w2 ⟨rfl, g2⟩; have g3 := gb_trans HG.out g2; clear HG; have HG := (show Hid _ from g3); clear g3; clear g2) | (go_at_call 17; refine (wakes_any _ (HT.out.keep HG.out)).mono ?_; rintro e w2 ⟨rfl, g2⟩; have g3 := gb_trans HG.out g2; clear HG; have HG := (show Hid _ from g3); clear g3; clear g2))
  go_ret
  exact ⟨rfl, HG.out⟩
set_option maxHeartbeats 1600000 in
set_option maxRecDepth 100000 in
theorem order_mzm2 (a b c : ByteArray) (w : World) (HT : Hid (Tabs w)) (HG : Hid (w.grownBy w none)) (h1 : R.cmp (bs a) (bs b) = (-1)) (h2 : R.cmp (bs b) (bs c) = 0) (h3 : R.cmp (bs a) (bs c) = (-1)) (h4 : R.cmp (bs b) (bs a) = 1) (h5 : R.cmp (bs a) (bs a) = 0) (he : (a.toList == b.toList) = false) (ha : R.whole (bs a) = true) (hb : R.whole (bs b) = true) (hl : Op.bytesLess a.toList b.toList = true) :
    Calls Tryd.prog 6 #[.string a, .string b, .string c] w fun e w' => e = .returned (.bool true) ∧ w.grownBy w' none := by
  go_enter Tryd.func6, Tryd.ntmps6
  go_wp2_with (first | (go_at_call 18; refine (compare_any _ _ _ (HT.out.keep HG.out)).mono ?_; rintro e w2 ⟨rfl, g2⟩; have g3 := gb_trans HG.out g2; clear HG; have HG := (show Hid _ from g3); clear g3; clear g2) | (go_at_call 15; refine (whole_any _ _).mono ?_; rintro e w2 ⟨rfl, g2⟩; have g3 := gb_trans HG.out g2; clear HG; have HG := (show Hid _ from g3); clear g3; clear g2) | (go_at_call 17; refine (wakes_any _ (HT.out.keep HG.out)).mono ?_; rintro e w2 ⟨rfl, g2⟩; have g3 := gb_trans HG.out g2; clear HG; have HG := (show Hid _ from g3); clear g3; clear g2))
  go_ret
  exact ⟨rfl, HG.out⟩
set_option maxHeartbeats 1600000 in
set_option maxRecDepth 100000 in
theorem order_mzz0 (a b c : ByteArray) (w : World) (HT : Hid (Tabs w)) (HG : Hid (w.grownBy w none)) (h1 : R.cmp (bs a) (bs b) = (-1)) (h2 : R.cmp (bs b) (bs c) = 0) (h3 : R.cmp (bs a) (bs c) = 0) (h4 : R.cmp (bs b) (bs a) = 1) (h5 : R.cmp (bs a) (bs a) = 0) (he : (a.toList == b.toList) = false) (ha : R.whole (bs a) = false) :
    Calls Tryd.prog 6 #[.string a, .string b, .string c] w fun e w' => e = .returned (.bool true) ∧ w.grownBy w' none := by
  go_enter Tryd.func6, Tryd.ntmps6
  go_wp2_with (first | (go_at_call 18; refine (compare_any _ _ _ (HT.out.keep HG.out)).mono ?_; rintro e w2 ⟨rfl, g2⟩; have g3 := gb_trans HG.out g2; clear HG; have HG := (show Hid _ from g3); clear g3; clear g2) | (go_at_call 15; refine (whole_any _ _).mono ?_; rintro e w2 ⟨rfl, g2⟩; have g3 := gb_trans HG.out g2; clear HG; have HG := (show Hid _ from g3); clear g3; clear g2) | (go_at_call 17; refine (wakes_any _ (HT.out.keep HG.out)).mono ?_; rintro e w2 ⟨rfl, g2⟩; have g3 := gb_trans HG.out g2; clear HG; have HG := (show Hid _ from g3); clear g3; clear g2))
  go_ret
  exact ⟨rfl, HG.out⟩
set_option maxHeartbeats 1600000 in
set_option maxRecDepth 100000 in
theorem order_mzz1 (a b c : ByteArray) (w : World) (HT : Hid (Tabs w)) (HG : Hid (w.grownBy w none)) (h1 : R.cmp (bs a) (bs b) = (-1)) (h2 : R.cmp (bs b) (bs c) = 0) (h3 : R.cmp (bs a) (bs c) = 0) (h4 : R.cmp (bs b) (bs a) = 1) (h5 : R.cmp (bs a) (bs a) = 0) (he : (a.toList == b.toList) = false) (ha : R.whole (bs a) = true) (hb : R.whole (bs b) = false) :
    Calls Tryd.prog 6 #[.string a, .string b, .string c] w fun e w' => e = .returned (.bool true) ∧ w.grownBy w' none := by
  go_enter Tryd.func6, Tryd.ntmps6
  go_wp2_with (first | (go_at_call 18; refine (compare_any _ _ _ (HT.out.keep HG.out)).mono ?_; rintro e w2 ⟨rfl, g2⟩; have g3 := gb_trans HG.out g2; clear HG; have HG := (show Hid _ from g3); clear g3; clear g2) | (go_at_call 15; refine (whole_any _ _).mono ?_; rintro e w2 ⟨rfl, g2⟩; have g3 := gb_trans HG.out g2; clear HG; have HG := (show Hid _ from g3); clear g3; clear g2) | (go_at_call 17; refine (wakes_any _ (HT.out.keep HG.out)).mono ?_; rintro e w2 ⟨rfl, g2⟩; have g3 := gb_trans HG.out g2; clear HG; have HG := (show Hid _ from g3); clear g3; clear g2))
  go_ret
  exact ⟨rfl, HG.out⟩
set_option maxHeartbeats 1600000 in
set_option maxRecDepth 100000 in
theorem order_mzz2 (a b c : ByteArray) (w : World) (HT : Hid (Tabs w)) (HG : Hid (w.grownBy w none)) (h1 : R.cmp (bs a) (bs b) = (-1)) (h2 : R.cmp (bs b) (bs c) = 0) (h3 : R.cmp (bs a) (bs c) = 0) (h4 : R.cmp (bs b) (bs a) = 1) (h5 : R.cmp (bs a) (bs a) = 0) (he : (a.toList == b.toList) = false) (ha : R.whole (bs a) = true) (hb : R.whole (bs b) = true) (hl : Op.bytesLess a.toList b.toList = true) :
    Calls Tryd.prog 6 #[.string a, .string b, .string c] w fun e w' => e = .returned (.bool true) ∧ w.grownBy w' none := by
  go_enter Tryd.func6, Tryd.ntmps6
  go_wp2_with (first | (go_at_call 18; refine (compare_any _ _ _ (HT.out.keep HG.out)).mono ?_; rintro e w2 ⟨rfl, g2⟩; have g3 := gb_trans HG.out g2; clear HG; have HG := (show Hid _ from g3); clear g3; clear g2) | (go_at_call 15; refine (whole_any _ _).mono ?_; rintro e w2 ⟨rfl, g2⟩; have g3 := gb_trans HG.out g2; clear HG; have HG := (show Hid _ from g3); clear g3; clear g2) | (go_at_call 17; refine (wakes_any _ (HT.out.keep HG.out)).mono ?_; rintro e w2 ⟨rfl, g2⟩; have g3 := gb_trans HG.out g2; clear HG; have HG := (show Hid _ from g3); clear g3; clear g2))
  go_ret
  exact ⟨rfl, HG.out⟩
set_option maxHeartbeats 1600000 in
set_option maxRecDepth 100000 in
theorem order_mpm0 (a b c : ByteArray) (w : World) (HT : Hid (Tabs w)) (HG : Hid (w.grownBy w none)) (h1 : R.cmp (bs a) (bs b) = (-1)) (h2 : R.cmp (bs b) (bs c) = 1) (h3 : R.cmp (bs a) (bs c) = (-1)) (h4 : R.cmp (bs b) (bs a) = 1) (h5 : R.cmp (bs a) (bs a) = 0) (he : (a.toList == b.toList) = false) (ha : R.whole (bs a) = false) :
    Calls Tryd.prog 6 #[.string a, .string b, .string c] w fun e w' => e = .returned (.bool true) ∧ w.grownBy w' none := by
  go_enter Tryd.func6, Tryd.ntmps6
  go_wp2_with (first | (go_at_call 18; refine (compare_any _ _ _ (HT.out.keep HG.out)).mono ?_; rintro e w2 ⟨rfl, g2⟩; have g3 := gb_trans HG.out g2; clear HG; have HG := (show Hid _ from g3); clear g3; clear g2) | (go_at_call 15; refine (whole_any _ _).mono ?_; rintro e w2 ⟨rfl, g2⟩; have g3 := gb_trans HG.out g2; clear HG; have HG := (show Hid _ from g3); clear g3; clear g2) | (go_at_call 17; refine (wakes_any _ (HT.out.keep HG.out)).mono ?_; rintro e w2 ⟨rfl, g2⟩; have g3 := gb_trans HG.out g2; clear HG; have HG := (show Hid _ from g3); clear g3; clear g2))
  go_ret
  exact ⟨rfl, HG.out⟩
set_option maxHeartbeats 1600000 in
set_option maxRecDepth 100000 in
theorem order_mpm1 (a b c : ByteArray) (w : World) (HT : Hid (Tabs w)) (HG : Hid (w.grownBy w none)) (h1 : R.cmp (bs a) (bs b) = (-1)) (h2 : R.cmp (bs b) (bs c) = 1) (h3 : R.cmp (bs a) (bs c) = (-1)) (h4 : R.cmp (bs b) (bs a) = 1) (h5 : R.cmp (bs a) (bs a) = 0) (he : (a.toList == b.toList) = false) (ha : R.whole (bs a) = true) (hb : R.whole (bs b) = false) :
    Calls Tryd.prog 6 #[.string a, .string b, .string c] w fun e w' => e = .returned (.bool true) ∧ w.grownBy w' none := by
  go_enter Tryd.func6, Tryd.ntmps6
  go_wp2_with (first | (go_at_call 18; refine (compare_any _ _ _ (HT.out.keep HG.out)).mono ?_; rintro e w2 ⟨rfl, g2⟩; have g3 := gb_trans HG.out g2; clear HG; have HG := (show Hid _ from g3); clear g3; clear g2) | (go_at_call 15; refine (whole_any _ _).mono ?_; rintro e w2 ⟨rfl, g2⟩; have g3 := gb_trans HG.out g2; clear HG; have HG := (show Hid _ from g3); clear g3; clear g2) | (go_at_call 17; refine (wakes_any _ (HT.out.keep HG.out)).mono ?_; rintro e w2 ⟨rfl, g2⟩; have g3 := gb_trans HG.out g2; clear HG; have HG := (show Hid _ from g3); clear g3; clear g2))
  go_ret
  exact ⟨rfl, HG.out⟩
set_option maxHeartbeats 1600000 in
set_option maxRecDepth 100000 in
theorem order_mpm2 (a b c : ByteArray) (w : World) (HT : Hid (Tabs w)) (HG : Hid (w.grownBy w none)) (h1 : R.cmp (bs a) (bs b) = (-1)) (h2 : R.cmp (bs b) (bs c) = 1) (h3 : R.cmp (bs a) (bs c) = (-1)) (h4 : R.cmp (bs b) (bs a) = 1) (h5 : R.cmp (bs a) (bs a) = 0) (he : (a.toList == b.toList) = false) (ha : R.whole (bs a) = true) (hb : R.whole (bs b) = true) (hl : Op.bytesLess a.toList b.toList = true) :
    Calls Tryd.prog 6 #[.string a, .string b, .string c] w fun e w' => e = .returned (.bool true) ∧ w.grownBy w' none := by
  go_enter Tryd.func6, Tryd.ntmps6
  go_wp2_with (first | (go_at_call 18; refine (compare_any _ _ _ (HT.out.keep HG.out)).mono ?_; rintro e w2 ⟨rfl, g2⟩; have g3 := gb_trans HG.out g2; clear HG; have HG := (show Hid _ from g3); clear g3; clear g2) | (go_at_call 15; refine (whole_any _ _).mono ?_; rintro e w2 ⟨rfl, g2⟩; have g3 := gb_trans HG.out g2; clear HG; have HG := (show Hid _ from g3); clear g3; clear g2) | (go_at_call 17; refine (wakes_any _ (HT.out.keep HG.out)).mono ?_; rintro e w2 ⟨rfl, g2⟩; have g3 := gb_trans HG.out g2; clear HG; have HG := (show Hid _ from g3); clear g3; clear g2))
  go_ret
  exact ⟨rfl, HG.out⟩
set_option maxHeartbeats 1600000 in
set_option maxRecDepth 100000 in
theorem order_mpz0 (a b c : ByteArray) (w : World) (HT : Hid (Tabs w)) (HG : Hid (w.grownBy w none)) (h1 : R.cmp (bs a) (bs b) = (-1)) (h2 : R.cmp (bs b) (bs c) = 1) (h3 : R.cmp (bs a) (bs c) = 0) (h4 : R.cmp (bs b) (bs a) = 1) (h5 : R.cmp (bs a) (bs a) = 0) (he : (a.toList == b.toList) = false) (ha : R.whole (bs a) = false) :
    Calls Tryd.prog 6 #[.string a, .string b, .string c] w fun e w' => e = .returned (.bool true) ∧ w.grownBy w' none := by
  go_enter Tryd.func6, Tryd.ntmps6
  go_wp2_with (first | (go_at_call 18; refine (compare_any _ _ _ (HT.out.keep HG.out)).mono ?_; rintro e w2 ⟨rfl, g2⟩; have g3 := gb_trans HG.out g2; clear HG; have HG := (show Hid _ from g3); clear g3; clear g2) | (go_at_call 15; refine (whole_any _ _).mono ?_; rintro e w2 ⟨rfl, g2⟩; have g3 := gb_trans HG.out g2; clear HG; have HG := (show Hid _ from g3); clear g3; clear g2) | (go_at_call 17; refine (wakes_any _ (HT.out.keep HG.out)).mono ?_; rintro e w2 ⟨rfl, g2⟩; have g3 := gb_trans HG.out g2; clear HG; have HG := (show Hid _ from g3); clear g3; clear g2))
  go_ret
  exact ⟨rfl, HG.out⟩
set_option maxHeartbeats 1600000 in
set_option maxRecDepth 100000 in
theorem order_mpz1 (a b c : ByteArray) (w : World) (HT : Hid (Tabs w)) (HG : Hid (w.grownBy w none)) (h1 : R.cmp (bs a) (bs b) = (-1)) (h2 : R.cmp (bs b) (bs c) = 1) (h3 : R.cmp (bs a) (bs c) = 0) (h4 : R.cmp (bs b) (bs a) = 1) (h5 : R.cmp (bs a) (bs a) = 0) (he : (a.toList == b.toList) = false) (ha : R.whole (bs a) = true) (hb : R.whole (bs b) = false) :
    Calls Tryd.prog 6 #[.string a, .string b, .string c] w fun e w' => e = .returned (.bool true) ∧ w.grownBy w' none := by
  go_enter Tryd.func6, Tryd.ntmps6
  go_wp2_with (first | (go_at_call 18; refine (compare_any _ _ _ (HT.out.keep HG.out)).mono ?_; rintro e w2 ⟨rfl, g2⟩; have g3 := gb_trans HG.out g2; clear HG; have HG := (show Hid _ from g3); clear g3; clear g2) | (go_at_call 15; refine (whole_any _ _).mono ?_; rintro e w2 ⟨rfl, g2⟩; have g3 := gb_trans HG.out g2; clear HG; have HG := (show Hid _ from g3); clear g3; clear g2) | (go_at_call 17; refine (wakes_any _ (HT.out.keep HG.out)).mono ?_; rintro e w2 ⟨rfl, g2⟩; have g3 := gb_trans HG.out g2; clear HG; have HG := (show Hid _ from g3); clear g3; clear g2))
  go_ret
  exact ⟨rfl, HG.out⟩
set_option maxHeartbeats 1600000 in
set_option maxRecDepth 100000 in
theorem order_mpz2 (a b c : ByteArray) (w : World) (HT : Hid (Tabs w)) (HG : Hid (w.grownBy w none)) (h1 : R.cmp (bs a) (bs b) = (-1)) (h2 : R.cmp (bs b) (bs c) = 1) (h3 : R.cmp (bs a) (bs c) = 0) (h4 : R.cmp (bs b) (bs a) = 1) (h5 : R.cmp (bs a) (bs a) = 0) (he : (a.toList == b.toList) = false) (ha : R.whole (bs a) = true) (hb : R.whole (bs b) = true) (hl : Op.bytesLess a.toList b.toList = true) :
    Calls Tryd.prog 6 #[.string a, .string b, .string c] w fun e w' => e = .returned (.bool true) ∧ w.grownBy w' none := by
  go_enter Tryd.func6, Tryd.ntmps6
  go_wp2_with (first | (go_at_call 18; refine (compare_any _ _ _ (HT.out.keep HG.out)).mono ?_; rintro e w2 ⟨rfl, g2⟩; have g3 := gb_trans HG.out g2; clear HG; have HG := (show Hid _ from g3); clear g3; clear g2) | (go_at_call 15; refine (whole_any _ _).mono ?_; rintro e w2 ⟨rfl, g2⟩; have g3 := gb_trans HG.out g2; clear HG; have HG := (show Hid _ from g3); clear g3; clear g2) | (go_at_call 17; refine (wakes_any _ (HT.out.keep HG.out)).mono ?_; rintro e w2 ⟨rfl, g2⟩; have g3 := gb_trans HG.out g2; clear HG; have HG := (show Hid _ from g3); clear g3; clear g2))
  go_ret
  exact ⟨rfl, HG.out⟩
set_option maxHeartbeats 1600000 in
set_option maxRecDepth 100000 in
theorem order_mpp0 (a b c : ByteArray) (w : World) (HT : Hid (Tabs w)) (HG : Hid (w.grownBy w none)) (h1 : R.cmp (bs a) (bs b) = (-1)) (h2 : R.cmp (bs b) (bs c) = 1) (h3 : R.cmp (bs a) (bs c) = 1) (h4 : R.cmp (bs b) (bs a) = 1) (h5 : R.cmp (bs a) (bs a) = 0) (he : (a.toList == b.toList) = false) (ha : R.whole (bs a) = false) :
    Calls Tryd.prog 6 #[.string a, .string b, .string c] w fun e w' => e = .returned (.bool true) ∧ w.grownBy w' none := by
  go_enter Tryd.func6, Tryd.ntmps6
  go_wp2_with (first | (go_at_call 18; refine (compare_any _ _ _ (HT.out.keep HG.out)).mono ?_; rintro e w2 ⟨rfl, g2⟩; have g3 := gb_trans HG.out g2; clear HG; have HG := (show Hid _ from g3); clear g3; clear g2) | (go_at_call 15; refine (whole_any _ _).mono ?_; rintro e w2 ⟨rfl, g2⟩; have g3 := gb_trans HG.out g2; clear HG; have HG := (show Hid _ from g3); clear g3; clear g2) | (go_at_call 17; refine (wakes_any _ (HT.out.keep HG.out)).mono ?_; rintro e w2 ⟨rfl, g2⟩; have g3 := gb_trans HG.out g2; clear HG; have HG := (show Hid _ from g3); clear g3; clear g2))
  go_ret
  exact ⟨rfl, HG.out⟩
set_option maxHeartbeats 1600000 in
set_option maxRecDepth 100000 in
theorem order_mpp1 (a b c : ByteArray) (w : World) (HT : Hid (Tabs w)) (HG : Hid (w.grownBy w none)) (h1 : R.cmp (bs a) (bs b) = (-1)) (h2 : R.cmp (bs b) (bs c) = 1) (h3 : R.cmp (bs a) (bs c) = 1) (h4 : R.cmp (bs b) (bs a) = 1) (h5 : R.cmp (bs a) (bs a) = 0) (he : (a.toList == b.toList) = false) (ha : R.whole (bs a) = true) (hb : R.whole (bs b) = false) :
    Calls Tryd.prog 6 #[.string a, .string b, .string c] w fun e w' => e = .returned (.bool true) ∧ w.grownBy w' none := by
  go_enter Tryd.func6, Tryd.ntmps6
  go_wp2_with (first | (go_at_call 18; refine (compare_any _ _ _ (HT.out.keep HG.out)).mono ?_; rintro e w2 ⟨rfl, g2⟩; have g3 := gb_trans HG.out g2; clear HG; have HG := (show Hid _ from g3); clear g3; clear g2) | (go_at_call 15; refine (whole_any _ _).mono ?_; rintro e w2 ⟨rfl, g2⟩; have g3 := gb_trans HG.out g2; clear HG; have HG := (show Hid _ from g3); clear g3; clear g2) | (go_at_call 17; refine (wakes_any _ (HT.out.keep HG.out)).mono ?_; rintro e w2 ⟨rfl, g2⟩; have g3 := gb_trans HG.out g2; clear HG; have HG := (show Hid _ from g3); clear g3; clear g2))
  go_ret
  exact ⟨rfl, HG.out⟩
set_option maxHeartbeats 1600000 in
set_option maxRecDepth 100000 in
theorem order_mpp2 (a b c : ByteArray) (w : World) (HT : Hid (Tabs w)) (HG : Hid (w.grownBy w none)) (h1 : R.cmp (bs a) (bs b) = (-1)) (h2 : R.cmp (bs b) (bs c) = 1) (h3 : R.cmp (bs a) (bs c) = 1) (h4 : R.cmp (bs b) (bs a) = 1) (h5 : R.cmp (bs a) (bs a) = 0) (he : (a.toList == b.toList) = false) (ha : R.whole (bs a) = true) (hb : R.whole (bs b) = true) (hl : Op.bytesLess a.toList b.toList = true) :
    Calls Tryd.prog 6 #[.string a, .string b, .string c] w fun e w' => e = .returned (.bool true) ∧ w.grownBy w' none := by
  go_enter Tryd.func6, Tryd.ntmps6
  go_wp2_with (first | (go_at_call 18; refine (compare_any _ _ _ (HT.out.keep HG.out)).mono ?_; rintro e w2 ⟨rfl, g2⟩; have g3 := gb_trans HG.out g2; clear HG; have HG := (show Hid _ from g3); clear g3; clear g2) | (go_at_call 15; refine (whole_any _ _).mono ?_; rintro e w2 ⟨rfl, g2⟩; have g3 := gb_trans HG.out g2; clear HG; have HG := (show Hid _ from g3); clear g3; clear g2) | (go_at_call 17; refine (wakes_any _ (HT.out.keep HG.out)).mono ?_; rintro e w2 ⟨rfl, g2⟩; have g3 := gb_trans HG.out g2; clear HG; have HG := (show Hid _ from g3); clear g3; clear g2))
  go_ret
  exact ⟨rfl, HG.out⟩
set_option maxHeartbeats 1600000 in
set_option maxRecDepth 100000 in
theorem order_zmm0 (a b c : ByteArray) (w : World) (HT : Hid (Tabs w)) (HG : Hid (w.grownBy w none)) (h1 : R.cmp (bs a) (bs b) = 0) (h2 : R.cmp (bs b) (bs c) = (-1)) (h3 : R.cmp (bs a) (bs c) = (-1)) (h4 : R.cmp (bs b) (bs a) = 0) (h5 : R.cmp (bs a) (bs a) = 0) (he : (a.toList == b.toList) = true) (ha : R.whole (bs a) = false) :
    Calls Tryd.prog 6 #[.string a, .string b, .string c] w fun e w' => e = .returned (.bool true) ∧ w.grownBy w' none := by
  go_enter Tryd.func6, Tryd.ntmps6
  go_wp2_with (first | (go_at_call 18; refine (compare_any _ _ _ (HT.out.keep HG.out)).mono ?_; rintro e w2 ⟨rfl, g2⟩; have g3 := gb_trans HG.out g2; clear HG; have HG := (show Hid _ from g3); clear g3; clear g2) | (go_at_call 15; refine (whole_any _ _).mono ?_; rintro e w2 ⟨rfl, g2⟩; have g3 := gb_trans HG.out g2; clear HG; have HG := (show Hid _ from g3); clear g3; clear g2) | (go_at_call 17; refine (wakes_any _ (HT.out.keep HG.out)).mono ?_; rintro e w2 ⟨rfl, g2⟩; have g3 := gb_trans HG.out g2; clear HG; have HG := (show Hid _ from g3); clear g3; clear g2))
  go_ret
  exact ⟨rfl, HG.out⟩
set_option maxHeartbeats 1600000 in
set_option maxRecDepth 100000 in
theorem order_zmm1 (a b c : ByteArray) (w : World) (HT : Hid (Tabs w)) (HG : Hid (w.grownBy w none)) (h1 : R.cmp (bs a) (bs b) = 0) (h2 : R.cmp (bs b) (bs c) = (-1)) (h3 : R.cmp (bs a) (bs c) = (-1)) (h4 : R.cmp (bs b) (bs a) = 0) (h5 : R.cmp (bs a) (bs a) = 0) (he : (a.toList == b.toList) = true) (ha : R.whole (bs a) = true) (hb : R.whole (bs b) = false) :
    Calls Tryd.prog 6 #[.string a, .string b, .string c] w fun e w' => e = .returned (.bool true) ∧ w.grownBy w' none := by
  go_enter Tryd.func6, Tryd.ntmps6
  go_wp2_with (first | (go_at_call 18; refine (compare_any _ _ _ (HT.out.keep HG.out)).mono ?_; rintro e w2 ⟨rfl, g2⟩; have g3 := gb_trans HG.out g2; clear HG; have HG := (show Hid _ from g3); clear g3; clear g2) | (go_at_call 15; refine (whole_any _ _).mono ?_; rintro e w2 ⟨rfl, g2⟩; have g3 := gb_trans HG.out g2; clear HG; have HG := (show Hid _ from g3); clear g3; clear g2) | (go_at_call 17; refine (wakes_any _ (HT.out.keep HG.out)).mono ?_; rintro e w2 ⟨rfl, g2⟩; have g3 := gb_trans HG.out g2; clear HG; have HG := (show Hid _ from g3); clear g3; clear g2))
  go_ret
  exact ⟨rfl, HG.out⟩
set_option maxHeartbeats 1600000 in
set_option maxRecDepth 100000 in
theorem order_zmm2 (a b c : ByteArray) (w : World) (HT : Hid (Tabs w)) (HG : Hid (w.grownBy w none)) (h1 : R.cmp (bs a) (bs b) = 0) (h2 : R.cmp (bs b) (bs c) = (-1)) (h3 : R.cmp (bs a) (bs c) = (-1)) (h4 : R.cmp (bs b) (bs a) = 0) (h5 : R.cmp (bs a) (bs a) = 0) (he : (a.toList == b.toList) = true) (ha : R.whole (bs a) = true) (hb : R.whole (bs b) = true) (hl : Op.bytesLess a.toList b.toList = false) :
    Calls Tryd.prog 6 #[.string a, .string b, .string c] w fun e w' => e = .returned (.bool true) ∧ w.grownBy w' none := by
  go_enter Tryd.func6, Tryd.ntmps6
  go_wp2_with (first | (go_at_call 18; refine (compare_any _ _ _ (HT.out.keep HG.out)).mono ?_; rintro e w2 ⟨rfl, g2⟩; have g3 := gb_trans HG.out g2; clear HG; have HG := (show Hid _ from g3); clear g3; clear g2) | (go_at_call 15; refine (whole_any _ _).mono ?_; rintro e w2 ⟨rfl, g2⟩; have g3 := gb_trans HG.out g2; clear HG; have HG := (show Hid _ from g3); clear g3; clear g2) | (go_at_call 17; refine (wakes_any _ (HT.out.keep HG.out)).mono ?_; rintro e w2 ⟨rfl, g2⟩; have g3 := gb_trans HG.out g2; clear HG; have HG := (show Hid _ from g3); clear g3; clear g2))
  go_ret
  exact ⟨rfl, HG.out⟩
set_option maxHeartbeats 1600000 in
set_option maxRecDepth 100000 in
theorem order_zzz0 (a b c : ByteArray) (w : World) (HT : Hid (Tabs w)) (HG : Hid (w.grownBy w none)) (h1 : R.cmp (bs a) (bs b) = 0) (h2 : R.cmp (bs b) (bs c) = 0) (h3 : R.cmp (bs a) (bs c) = 0) (h4 : R.cmp (bs b) (bs a) = 0) (h5 : R.cmp (bs a) (bs a) = 0) (he : (a.toList == b.toList) = true) (ha : R.whole (bs a) = false) :
    Calls Tryd.prog 6 #[.string a, .string b, .string c] w fun e w' => e = .returned (.bool true) ∧ w.grownBy w' none := by
  go_enter Tryd.func6, Tryd.ntmps6
  go_wp2_with (first | (go_at_call 18; refine (compare_any _ _ _ (HT.out.keep HG.out)).mono ?_; rintro e w2 ⟨rfl, g2⟩; have g3 := gb_trans HG.out g2; clear HG; have HG := (show Hid _ from g3); clear g3; clear g2) | (go_at_call 15; refine (whole_any _ _).mono ?_; rintro e w2 ⟨rfl, g2⟩; have g3 := gb_trans HG.out g2; clear HG; have HG := (show Hid _ from g3); clear g3; clear g2) | (go_at_call 17; refine (wakes_any _ (HT.out.keep HG.out)).mono ?_; rintro e w2 ⟨rfl, g2⟩; have g3 := gb_trans HG.out g2; clear HG; have HG := (show Hid _ from g3); clear g3; clear g2))
  go_ret
  exact ⟨rfl, HG.out⟩
set_option maxHeartbeats 1600000 in
set_option maxRecDepth 100000 in
theorem order_zzz1 (a b c : ByteArray) (w : World) (HT : Hid (Tabs w)) (HG : Hid (w.grownBy w none)) (h1 : R.cmp (bs a) (bs b) = 0) (h2 : R.cmp (bs b) (bs c) = 0) (h3 : R.cmp (bs a) (bs c) = 0) (h4 : R.cmp (bs b) (bs a) = 0) (h5 : R.cmp (bs a) (bs a) = 0) (he : (a.toList == b.toList) = true) (ha : R.whole (bs a) = true) (hb : R.whole (bs b) = false) :
    Calls Tryd.prog 6 #[.string a, .string b, .string c] w fun e w' => e = .returned (.bool true) ∧ w.grownBy w' none := by
  go_enter Tryd.func6, Tryd.ntmps6
  go_wp2_with (first | (go_at_call 18; refine (compare_any _ _ _ (HT.out.keep HG.out)).mono ?_; rintro e w2 ⟨rfl, g2⟩; have g3 := gb_trans HG.out g2; clear HG; have HG := (show Hid _ from g3); clear g3; clear g2) | (go_at_call 15; refine (whole_any _ _).mono ?_; rintro e w2 ⟨rfl, g2⟩; have g3 := gb_trans HG.out g2; clear HG; have HG := (show Hid _ from g3); clear g3; clear g2) | (go_at_call 17; refine (wakes_any _ (HT.out.keep HG.out)).mono ?_; rintro e w2 ⟨rfl, g2⟩; have g3 := gb_trans HG.out g2; clear HG; have HG := (show Hid _ from g3); clear g3; clear g2))
  go_ret
  exact ⟨rfl, HG.out⟩
set_option maxHeartbeats 1600000 in
set_option maxRecDepth 100000 in
theorem order_zzz2 (a b c : ByteArray) (w : World) (HT : Hid (Tabs w)) (HG : Hid (w.grownBy w none)) (h1 : R.cmp (bs a) (bs b) = 0) (h2 : R.cmp (bs b) (bs c) = 0) (h3 : R.cmp (bs a) (bs c) = 0) (h4 : R.cmp (bs b) (bs a) = 0) (h5 : R.cmp (bs a) (bs a) = 0) (he : (a.toList == b.toList) = true) (ha : R.whole (bs a) = true) (hb : R.whole (bs b) = true) (hl : Op.bytesLess a.toList b.toList = false) :
    Calls Tryd.prog 6 #[.string a, .string b, .string c] w fun e w' => e = .returned (.bool true) ∧ w.grownBy w' none := by
  go_enter Tryd.func6, Tryd.ntmps6
  go_wp2_with (first | (go_at_call 18; refine (compare_any _ _ _ (HT.out.keep HG.out)).mono ?_; rintro e w2 ⟨rfl, g2⟩; have g3 := gb_trans HG.out g2; clear HG; have HG := (show Hid _ from g3); clear g3; clear g2) | (go_at_call 15; refine (whole_any _ _).mono ?_; rintro e w2 ⟨rfl, g2⟩; have g3 := gb_trans HG.out g2; clear HG; have HG := (show Hid _ from g3); clear g3; clear g2) | (go_at_call 17; refine (wakes_any _ (HT.out.keep HG.out)).mono ?_; rintro e w2 ⟨rfl, g2⟩; have g3 := gb_trans HG.out g2; clear HG; have HG := (show Hid _ from g3); clear g3; clear g2))
  go_ret
  exact ⟨rfl, HG.out⟩
set_option maxHeartbeats 1600000 in
set_option maxRecDepth 100000 in
theorem order_zpp0 (a b c : ByteArray) (w : World) (HT : Hid (Tabs w)) (HG : Hid (w.grownBy w none)) (h1 : R.cmp (bs a) (bs b) = 0) (h2 : R.cmp (bs b) (bs c) = 1) (h3 : R.cmp (bs a) (bs c) = 1) (h4 : R.cmp (bs b) (bs a) = 0) (h5 : R.cmp (bs a) (bs a) = 0) (he : (a.toList == b.toList) = true) (ha : R.whole (bs a) = false) :
    Calls Tryd.prog 6 #[.string a, .string b, .string c] w fun e w' => e = .returned (.bool true) ∧ w.grownBy w' none := by
  go_enter Tryd.func6, Tryd.ntmps6
  go_wp2_with (first | (go_at_call 18; refine (compare_any _ _ _ (HT.out.keep HG.out)).mono ?_; rintro e w2 ⟨rfl, g2⟩; have g3 := gb_trans HG.out g2; clear HG; have HG := (show Hid _ from g3); clear g3; clear g2) | (go_at_call 15; refine (whole_any _ _).mono ?_; rintro e w2 ⟨rfl, g2⟩; have g3 := gb_trans HG.out g2; clear HG; have HG := (show Hid _ from g3); clear g3; clear g2) | (go_at_call 17; refine (wakes_any _ (HT.out.keep HG.out)).mono ?_; rintro e w2 ⟨rfl, g2⟩; have g3 := gb_trans HG.out g2; clear HG; have HG := (show Hid _ from g3); clear g3; clear g2))
  go_ret
  exact ⟨rfl, HG.out⟩
set_option maxHeartbeats 1600000 in
set_option maxRecDepth 100000 in
theorem order_zpp1 (a b c : ByteArray) (w : World) (HT : Hid (Tabs w)) (HG : Hid (w.grownBy w none)) (h1 : R.cmp (bs a) (bs b) = 0) (h2 : R.cmp (bs b) (bs c) = 1) (h3 : R.cmp (bs a) (bs c) = 1) (h4 : R.cmp (bs b) (bs a) = 0) (h5 : R.cmp (bs a) (bs a) = 0) (he : (a.toList == b.toList) = true) (ha : R.whole (bs a) = true) (hb : R.whole (bs b) = false) :
    Calls Tryd.prog 6 #[.string a, .string b, .string c] w fun e w' => e = .returned (.bool true) ∧ w.grownBy w' none := by
  go_enter Tryd.func6, Tryd.ntmps6
  go_wp2_with (first | (go_at_call 18; refine (compare_any _ _ _ (HT.out.keep HG.out)).mono ?_; rintro e w2 ⟨rfl, g2⟩; have g3 := gb_trans HG.out g2; clear HG; have HG := (show Hid _ from g3); clear g3; clear g2) | (go_at_call 15; refine (whole_any _ _).mono ?_; rintro e w2 ⟨rfl, g2⟩; have g3 := gb_trans HG.out g2; clear HG; have HG := (show Hid _ from g3); clear g3; clear g2) | (go_at_call 17; refine (wakes_any _ (HT.out.keep HG.out)).mono ?_; rintro e w2 ⟨rfl, g2⟩; have g3 := gb_trans HG.out g2; clear HG; have HG := (show Hid _ from g3); clear g3; clear g2))
  go_ret
  exact ⟨rfl, HG.out⟩
set_option maxHeartbeats 1600000 in
set_option maxRecDepth 100000 in
theorem order_zpp2 (a b c : ByteArray) (w : World) (HT : Hid (Tabs w)) (HG : Hid (w.grownBy w none)) (h1 : R.cmp (bs a) (bs b) = 0) (h2 : R.cmp (bs b) (bs c) = 1) (h3 : R.cmp (bs a) (bs c) = 1) (h4 : R.cmp (bs b) (bs a) = 0) (h5 : R.cmp (bs a) (bs a) = 0) (he : (a.toList == b.toList) = true) (ha : R.whole (bs a) = true) (hb : R.whole (bs b) = true) (hl : Op.bytesLess a.toList b.toList = false) :
    Calls Tryd.prog 6 #[.string a, .string b, .string c] w fun e w' => e = .returned (.bool true) ∧ w.grownBy w' none := by
  go_enter Tryd.func6, Tryd.ntmps6
  go_wp2_with (first | (go_at_call 18; refine (compare_any _ _ _ (HT.out.keep HG.out)).mono ?_; rintro e w2 ⟨rfl, g2⟩; have g3 := gb_trans HG.out g2; clear HG; have HG := (show Hid _ from g3); clear g3; clear g2) | (go_at_call 15; refine (whole_any _ _).mono ?_; rintro e w2 ⟨rfl, g2⟩; have g3 := gb_trans HG.out g2; clear HG; have HG := (show Hid _ from g3); clear g3; clear g2) | (go_at_call 17; refine (wakes_any _ (HT.out.keep HG.out)).mono ?_; rintro e w2 ⟨rfl, g2⟩; have g3 := gb_trans HG.out g2; clear HG; have HG := (show Hid _ from g3); clear g3; clear g2))
  go_ret
  exact ⟨rfl, HG.out⟩
set_option maxHeartbeats 1600000 in
set_option maxRecDepth 100000 in
theorem order_pmm0 (a b c : ByteArray) (w : World) (HT : Hid (Tabs w)) (HG : Hid (w.grownBy w none)) (h1 : R.cmp (bs a) (bs b) = 1) (h2 : R.cmp (bs b) (bs c) = (-1)) (h3 : R.cmp (bs a) (bs c) = (-1)) (h4 : R.cmp (bs b) (bs a) = (-1)) (h5 : R.cmp (bs a) (bs a) = 0) (he : (a.toList == b.toList) = false) (ha : R.whole (bs a) = false) :
    Calls Tryd.prog 6 #[.string a, .string b, .string c] w fun e w' => e = .returned (.bool true) ∧ w.grownBy w' none := by
  go_enter Tryd.func6, Tryd.ntmps6
  go_wp2_with (first | (go_at_call 18; refine (compare_any _ _ _ (HT.out.keep HG.out)).mono ?_; rintro e w2 ⟨rfl, g2⟩; have g3 := gb_trans HG.out g2; clear HG; have HG := (show Hid _ from g3); clear g3; clear g2) | (go_at_call 15; refine (whole_any _ _).mono ?_; rintro e w2 ⟨rfl, g2⟩; have g3 := gb_trans HG.out g2; clear HG; have HG := (show Hid _ from g3); clear g3; clear g2) | (go_at_call 17; refine (wakes_any _ (HT.out.keep HG.out)).mono ?_; rintro e w2 ⟨rfl, g2⟩; have g3 := gb_trans HG.out g2; clear HG; have HG := (show Hid _ from g3); clear g3; clear g2))
  go_ret
  exact ⟨rfl, HG.out⟩
set_option maxHeartbeats 1600000 in
set_option maxRecDepth 100000 in
theorem order_pmm1 (a b c : ByteArray) (w : World) (HT : Hid (Tabs w)) (HG : Hid (w.grownBy w none)) (h1 : R.cmp (bs a) (bs b) = 1) (h2 : R.cmp (bs b) (bs c) = (-1)) (h3 : R.cmp (bs a) (bs c) = (-1)) (h4 : R.cmp (bs b) (bs a) = (-1)) (h5 : R.cmp (bs a) (bs a) = 0) (he : (a.toList == b.toList) = false) (ha : R.whole (bs a) = true) (hb : R.whole (bs b) = false) :
    Calls Tryd.prog 6 #[.string a, .string b, .string c] w fun e w' => e = .returned (.bool true) ∧ w.grownBy w' none := by
  go_enter Tryd.func6, Tryd.ntmps6
  go_wp2_with (first | (go_at_call 18; refine (compare_any _ _ _ (HT.out.keep HG.out)).mono ?_; rintro e w2 ⟨rfl, g2⟩; have g3 := gb_trans HG.out g2; clear HG; have HG := (show Hid _ from g3); clear g3; clear g2) | (go_at_call 15; refine (whole_any _ _).mono ?_; rintro e w2 ⟨rfl, g2⟩; have g3 := gb_trans HG.out g2; clear HG; have HG := (show Hid _ from g3); clear g3; clear g2) | (go_at_call 17; refine (wakes_any _ (HT.out.keep HG.out)).mono ?_; rintro e w2 ⟨rfl, g2⟩; have g3 := gb_trans HG.out g2; clear HG; have HG := (show Hid _ from g3); clear g3; clear g2))
  go_ret
  exact ⟨rfl, HG.out⟩
set_option maxHeartbeats 1600000 in
set_option maxRecDepth 100000 in
theorem order_pmm2 (a b c : ByteArray) (w : World) (HT : Hid (Tabs w)) (HG : Hid (w.grownBy w none)) (h1 : R.cmp (bs a) (bs b) = 1) (h2 : R.cmp (bs b) (bs c) = (-1)) (h3 : R.cmp (bs a) (bs c) = (-1)) (h4 : R.cmp (bs b) (bs a) = (-1)) (h5 : R.cmp (bs a) (bs a) = 0) (he : (a.toList == b.toList) = false) (ha : R.whole (bs a) = true) (hb : R.whole (bs b) = true) (hl : Op.bytesLess a.toList b.toList = false) :
    Calls Tryd.prog 6 #[.string a, .string b, .string c] w fun e w' => e = .returned (.bool true) ∧ w.grownBy w' none := by
  go_enter Tryd.func6, Tryd.ntmps6
  go_wp2_with (first | (go_at_call 18; refine (compare_any _ _ _ (HT.out.keep HG.out)).mono ?_; rintro e w2 ⟨rfl, g2⟩; have g3 := gb_trans HG.out g2; clear HG; have HG := (show Hid _ from g3); clear g3; clear g2) | (go_at_call 15; refine (whole_any _ _).mono ?_; rintro e w2 ⟨rfl, g2⟩; have g3 := gb_trans HG.out g2; clear HG; have HG := (show Hid _ from g3); clear g3; clear g2) | (go_at_call 17; refine (wakes_any _ (HT.out.keep HG.out)).mono ?_; rintro e w2 ⟨rfl, g2⟩; have g3 := gb_trans HG.out g2; clear HG; have HG := (show Hid _ from g3); clear g3; clear g2))
  go_ret
  exact ⟨rfl, HG.out⟩
set_option maxHeartbeats 1600000 in
set_option maxRecDepth 100000 in
theorem order_pmz0 (a b c : ByteArray) (w : World) (HT : Hid (Tabs w)) (HG : Hid (w.grownBy w none)) (h1 : R.cmp (bs a) (bs b) = 1) (h2 : R.cmp (bs b) (bs c) = (-1)) (h3 : R.cmp (bs a) (bs c) = 0) (h4 : R.cmp (bs b) (bs a) = (-1)) (h5 : R.cmp (bs a) (bs a) = 0) (he : (a.toList == b.toList) = false) (ha : R.whole (bs a) = false) :
    Calls Tryd.prog 6 #[.string a, .string b, .string c] w fun e w' => e = .returned (.bool true) ∧ w.grownBy w' none := by
  go_enter Tryd.func6, Tryd.ntmps6
  go_wp2_with (first | (go_at_call 18; refine (compare_any _ _ _ (HT.out.keep HG.out)).mono ?_; rintro e w2 ⟨rfl, g2⟩; have g3 := gb_trans HG.out g2; clear HG; have HG := (show Hid _ from g3); clear g3; clear g2) | (go_at_call 15; refine (whole_any _ _).mono ?_; rintro e w2 ⟨rfl, g2⟩; have g3 := gb_trans HG.out g2; clear HG; have HG := (show Hid _ from g3); clear g3; clear g2) | (go_at_call 17; refine (wakes_any _ (HT.out.keep HG.out)).mono ?_; rintro e w2 ⟨rfl, g2⟩; have g3 := gb_trans HG.out g2; clear HG; have HG := (show Hid _ from g3); clear g3; clear g2))
  go_ret
  exact ⟨rfl, HG.out⟩
set_option maxHeartbeats 1600000 in
set_option maxRecDepth 100000 in
theorem order_pmz1 (a b c : ByteArray) (w : World) (HT : Hid (Tabs w)) (HG : Hid (w.grownBy w none)) (h1 : R.cmp (bs a) (bs b) = 1) (h2 : R.cmp (bs b) (bs c) = (-1)) (h3 : R.cmp (bs a) (bs c) = 0) (h4 : R.cmp (bs b) (bs a) = (-1)) (h5 : R.cmp (bs a) (bs a) = 0) (he : (a.toList == b.toList) = false) (ha : R.whole (bs a) = true) (hb : R.whole (bs b) = false) :
    Calls Tryd.prog 6 #[.string a, .string b, .string c] w fun e w' => e = .returned (.bool true) ∧ w.grownBy w' none := by
  go_enter Tryd.func6, Tryd.ntmps6
  go_wp2_with (first | (go_at_call 18; refine (compare_any _ _ _ (HT.out.keep HG.out)).mono ?_; rintro e w2 ⟨rfl, g2⟩; have g3 := gb_trans HG.out g2; clear HG; have HG := (show Hid _ from g3); clear g3; clear g2) | (go_at_call 15; refine (whole_any _ _).mono ?_; rintro e w2 ⟨rfl, g2⟩; have g3 := gb_trans HG.out g2; clear HG; have HG := (show Hid _ from g3); clear g3; clear g2) | (go_at_call 17; refine (wakes_any _ (HT.out.keep HG.out)).mono ?_; rintro e w2 ⟨rfl, g2⟩; have g3 := gb_trans HG.out g2; clear HG; have HG := (show Hid _ from g3); clear g3; clear g2))
  go_ret
  exact ⟨rfl, HG.out⟩
set_option maxHeartbeats 1600000 in
set_option maxRecDepth 100000 in
theorem order_pmz2 (a b c : ByteArray) (w : World) (HT : Hid (Tabs w)) (HG : Hid (w.grownBy w none)) (h1 : R.cmp (bs a) (bs b) = 1) (h2 : R.cmp (bs b) (bs c) = (-1)) (h3 : R.cmp (bs a) (bs c) = 0) (h4 : R.cmp (bs b) (bs a) = (-1)) (h5 : R.cmp (bs a) (bs a) = 0) (he : (a.toList == b.toList) = false) (ha : R.whole (bs a) = true) (hb : R.whole (bs b) = true) (hl : Op.bytesLess a.toList b.toList = false) :
    Calls Tryd.prog 6 #[.string a, .string b, .string c] w fun e w' => e = .returned (.bool true) ∧ w.grownBy w' none := by
  go_enter Tryd.func6, Tryd.ntmps6
  go_wp2_with (first | (go_at_call 18; refine (compare_any _ _ _ (HT.out.keep HG.out)).mono ?_; rintro e w2 ⟨rfl, g2⟩; have g3 := gb_trans HG.out g2; clear HG; have HG := (show Hid _ from g3); clear g3; clear g2) | (go_at_call 15; refine (whole_any _ _).mono ?_; rintro e w2 ⟨rfl, g2⟩; have g3 := gb_trans HG.out g2; clear HG; have HG := (show Hid _ from g3); clear g3; clear g2) | (go_at_call 17; refine (wakes_any _ (HT.out.keep HG.out)).mono ?_; rintro e w2 ⟨rfl, g2⟩; have g3 := gb_trans HG.out g2; clear HG; have HG := (show Hid _ from g3); clear g3; clear g2))
  go_ret
  exact ⟨rfl, HG.out⟩
set_option maxHeartbeats 1600000 in
set_option maxRecDepth 100000 in
theorem order_pmp0 (a b c : ByteArray) (w : World) (HT : Hid (Tabs w)) (HG : Hid (w.grownBy w none)) (h1 : R.cmp (bs a) (bs b) = 1) (h2 : R.cmp (bs b) (bs c) = (-1)) (h3 : R.cmp (bs a) (bs c) = 1) (h4 : R.cmp (bs b) (bs a) = (-1)) (h5 : R.cmp (bs a) (bs a) = 0) (he : (a.toList == b.toList) = false) (ha : R.whole (bs a) = false) :
    Calls Tryd.prog 6 #[.string a, .string b, .string c] w fun e w' => e = .returned (.bool true) ∧ w.grownBy w' none := by
  go_enter Tryd.func6, Tryd.ntmps6
  go_wp2_with (first | (go_at_call 18; refine (compare_any _ _ _ (HT.out.keep HG.out)).mono ?_; rintro e w2 ⟨rfl, g2⟩; have g3 := gb_trans HG.out g2; clear HG; have HG := (show Hid _ from g3); clear g3; clear g2) | (go_at_call 15; refine (whole_any _ _).mono ?_; rintro e w2 ⟨rfl, g2⟩; have g3 := gb_trans HG.out g2; clear HG; have HG := (show Hid _ from g3); clear g3; clear g2) | (go_at_call 17; refine (wakes_any _ (HT.out.keep HG.out)).mono ?_; rintro e w2 ⟨rfl, g2⟩; have g3 := gb_trans HG.out g2; clear HG; have HG := (show Hid _ from g3); clear g3; clear g2))
  go_ret
  exact ⟨rfl, HG.out⟩
set_option maxHeartbeats 1600000 in
set_option maxRecDepth 100000 in
theorem order_pmp1 (a b c : ByteArray) (w : World) (HT : Hid (Tabs w)) (HG : Hid (w.grownBy w none)) (h1 : R.cmp (bs a) (bs b) = 1) (h2 : R.cmp (bs b) (bs c) = (-1)) (h3 : R.cmp (bs a) (bs c) = 1) (h4 : R.cmp (bs b) (bs a) = (-1)) (h5 : R.cmp (bs a) (bs a) = 0) (he : (a.toList == b.toList) = false) (ha : R.whole (bs a) = true) (hb : R.whole (bs b) = false) :
    Calls Tryd.prog 6 #[.string a, .string b, .string c] w fun e w' => e = .returned (.bool true) ∧ w.grownBy w' none := by
  go_enter Tryd.func6, Tryd.ntmps6
  go_wp2_with (first | (go_at_call 18; refine (compare_any _ _ _ (HT.out.keep HG.out)).mono ?_; rintro e w2 ⟨rfl, g2⟩; have g3 := gb_trans HG.out g2; clear HG; have HG := (show Hid _ from g3); clear g3; clear g2) | (go_at_call 15; refine (whole_any _ _).mono ?_; rintro e w2 ⟨rfl, g2⟩; have g3 := gb_trans HG.out g2; clear HG; have HG := (show Hid _ from g3); clear g3; clear g2) | (go_at_call 17; refine (wakes_any _ (HT.out.keep HG.out)).mono ?_; rintro e w2 ⟨rfl, g2⟩; have g3 := gb_trans HG.out g2; clear HG; have HG := (show Hid _ from g3); clear g3; clear g2))
  go_ret
  exact ⟨rfl, HG.out⟩
set_option maxHeartbeats 1600000 in
set_option maxRecDepth 100000 in
theorem order_pmp2 (a b c : ByteArray) (w : World) (HT : Hid (Tabs w)) (HG : Hid (w.grownBy w none)) (h1 : R.cmp (bs a) (bs b) = 1) (h2 : R.cmp (bs b) (bs c) = (-1)) (h3 : R.cmp (bs a) (bs c) = 1) (h4 : R.cmp (bs b) (bs a) = (-1)) (h5 : R.cmp (bs a) (bs a) = 0) (he : (a.toList == b.toList) = false) (ha : R.whole (bs a) = true) (hb : R.whole (bs b) = true) (hl : Op.bytesLess a.toList b.toList = false) :
    Calls Tryd.prog 6 #[.string a, .string b, .string c] w fun e w' => e = .returned (.bool true) ∧ w.grownBy w' none := by
  go_enter Tryd.func6, Tryd.ntmps6
  go_wp2_with (first | (go_at_call 18; refine (compare_any _ _ _ (HT.out.keep HG.out)).mono ?_; rintro e w2 ⟨rfl, g2⟩; have g3 := gb_trans HG.out g2; clear HG; have HG := (show Hid _ from g3); clear g3; clear g2) | (go_at_call 15; refine (whole_any _ _).mono ?_; rintro e w2 ⟨rfl, g2⟩; have g3 := gb_trans HG.out g2; clear HG; have HG := (show Hid _ from g3); clear g3; clear g2) | (go_at_call 17; refine (wakes_any _ (HT.out.keep HG.out)).mono ?_; rintro e w2 ⟨rfl, g2⟩; have g3 := gb_trans HG.out g2; clear HG; have HG := (show Hid _ from g3); clear g3; clear g2))
  go_ret
  exact ⟨rfl, HG.out⟩
set_option maxHeartbeats 1600000 in
set_option maxRecDepth 100000 in
theorem order_pzz0 (a b c : ByteArray) (w : World) (HT : Hid (Tabs w)) (HG : Hid (w.grownBy w none)) (h1 : R.cmp (bs a) (bs b) = 1) (h2 : R.cmp (bs b) (bs c) = 0) (h3 : R.cmp (bs a) (bs c) = 0) (h4 : R.cmp (bs b) (bs a) = (-1)) (h5 : R.cmp (bs a) (bs a) = 0) (he : (a.toList == b.toList) = false) (ha : R.whole (bs a) = false) :
    Calls Tryd.prog 6 #[.string a, .string b, .string c] w fun e w' => e = .returned (.bool true) ∧ w.grownBy w' none := by
  go_enter Tryd.func6, Tryd.ntmps6
  go_wp2_with (first | (go_at_call 18; refine (compare_any _ _ _ (HT.out.keep HG.out)).mono ?_; rintro e w2 ⟨rfl, g2⟩; have g3 := gb_trans HG.out g2; clear HG; have HG := (show Hid _ from g3); clear g3; clear g2) | (go_at_call 15; refine (whole_any _ _).mono ?_; rintro e w2 ⟨rfl, g2⟩; have g3 := gb_trans HG.out g2; clear HG; have HG := (show Hid _ from g3); clear g3; clear g2) | (go_at_call 17; refine (wakes_any _ (HT.out.keep HG.out)).mono ?_; rintro e w2 ⟨rfl, g2⟩; have g3 := gb_trans HG.out g2; clear HG; have HG := (show Hid _ from g3); clear g3; clear g2))
  go_ret
  exact ⟨rfl, HG.out⟩
set_option maxHeartbeats 1600000 in
set_option maxRecDepth 100000 in
theorem order_pzz1 (a b c : ByteArray) (w : World) (HT : Hid (Tabs w)) (HG : Hid (w.grownBy w none)) (h1 : R.cmp (bs a) (bs b) = 1) (h2 : R.cmp (bs b) (bs c) = 0) (h3 : R.cmp (bs a) (bs c) = 0) (h4 : R.cmp (bs b) (bs a) = (-1)) (h5 : R.cmp (bs a) (bs a) = 0) (he : (a.toList == b.toList) = false) (ha : R.whole (bs a) = true) (hb : R.whole (bs b) = false) :
    Calls Tryd.prog 6 #[.string a, .string b, .string c] w fun e w' => e = .returned (.bool true) ∧ w.grownBy w' none := by
  go_enter Tryd.func6, Tryd.ntmps6
  go_wp2_with (first | (go_at_call 18; refine (compare_any _ _ _ (HT.out.keep HG.out)).mono ?_; rintro e w2 ⟨rfl, g2⟩; have g3 := gb_trans HG.out g2; clear HG; have HG := (show Hid _ from g3); clear g3; clear g2) | (go_at_call 15; refine (whole_any _ _).mono ?_; rintro e w2 ⟨rfl, g2⟩; have g3 := gb_trans HG.out g2; clear HG; have HG := (show Hid _ from g3); clear g3; clear g2) | (go_at_call 17; refine (wakes_any _ (HT.out.keep HG.out)).mono ?_; rintro e w2 ⟨rfl, g2⟩; have g3 := gb_trans HG.out g2; clear HG; have HG := (show Hid _ from g3); clear g3; clear g2))
  go_ret
  exact ⟨rfl, HG.out⟩
set_option maxHeartbeats 1600000 in
set_option maxRecDepth 100000 in
theorem order_pzz2 (a b c : ByteArray) (w : World) (HT : Hid (Tabs w)) (HG : Hid (w.grownBy w none)) (h1 : R.cmp (bs a) (bs b) = 1) (h2 : R.cmp (bs b) (bs c) = 0) (h3 : R.cmp (bs a) (bs c) = 0) (h4 : R.cmp (bs b) (bs a) = (-1)) (h5 : R.cmp (bs a) (bs a) = 0) (he : (a.toList == b.toList) = false) (ha : R.whole (bs a) = true) (hb : R.whole (bs b) = true) (hl : Op.bytesLess a.toList b.toList = false) :
    Calls Tryd.prog 6 #[.string a, .string b, .string c] w fun e w' => e = .returned (.bool true) ∧ w.grownBy w' none := by
  go_enter Tryd.func6, Tryd.ntmps6
  go_wp2_with (first | (go_at_call 18; refine (compare_any _ _ _ (HT.out.keep HG.out)).mono ?_; rintro e w2 ⟨rfl, g2⟩; have g3 := gb_trans HG.out g2; clear HG; have HG := (show Hid _ from g3); clear g3; clear g2) | (go_at_call 15; refine (whole_any _ _).mono ?_; rintro e w2 ⟨rfl, g2⟩; have g3 := gb_trans HG.out g2; clear HG; have HG := (show Hid _ from g3); clear g3; clear g2) | (go_at_call 17; refine (wakes_any _ (HT.out.keep HG.out)).mono ?_; rintro e w2 ⟨rfl, g2⟩; have g3 := gb_trans HG.out g2; clear HG; have HG := (show Hid _ from g3); clear g3; clear g2))
  go_ret
  exact ⟨rfl, HG.out⟩
set_option maxHeartbeats 1600000 in
set_option maxRecDepth 100000 in
theorem order_pzp0 (a b c : ByteArray) (w : World) (HT : Hid (Tabs w)) (HG : Hid (w.grownBy w none)) (h1 : R.cmp (bs a) (bs b) = 1) (h2 : R.cmp (bs b) (bs c) = 0) (h3 : R.cmp (bs a) (bs c) = 1) (h4 : R.cmp (bs b) (bs a) = (-1)) (h5 : R.cmp (bs a) (bs a) = 0) (he : (a.toList == b.toList) = false) (ha : R.whole (bs a) = false) :
    Calls Tryd.prog 6 #[.string a, .string b, .string c] w fun e w' => e = .returned (.bool true) ∧ w.grownBy w' none := by
  go_enter Tryd.func6, Tryd.ntmps6
  go_wp2_with (first | (go_at_call 18; refine (compare_any _ _ _ (HT.out.keep HG.out)).mono ?_; rintro e w2 ⟨rfl, g2⟩; have g3 := gb_trans HG.out g2; clear HG; have HG := (show Hid _ from g3); clear g3; clear g2) | (go_at_call 15; refine (whole_any _ _).mono ?_; rintro e w2 ⟨rfl, g2⟩; have g3 := gb_trans HG.out g2; clear HG; have HG := (show Hid _ from g3); clear g3; clear g2) | (go_at_call 17; refine (wakes_any _ (HT.out.keep HG.out)).mono ?_; rintro e w2 ⟨rfl, g2⟩; have g3 := gb_trans HG.out g2; clear HG; have HG := (show Hid _ from g3); clear g3; clear g2))
  go_ret
  exact ⟨rfl, HG.out⟩
set_option maxHeartbeats 1600000 in
set_option maxRecDepth 100000 in
theorem order_pzp1 (a b c : ByteArray) (w : World) (HT : Hid (Tabs w)) (HG : Hid (w.grownBy w none)) (h1 : R.cmp (bs a) (bs b) = 1) (h2 : R.cmp (bs b) (bs c) = 0) (h3 : R.cmp (bs a) (bs c) = 1) (h4 : R.cmp (bs b) (bs a) = (-1)) (h5 : R.cmp (bs a) (bs a) = 0) (he : (a.toList == b.toList) = false) (ha : R.whole (bs a) = true) (hb : R.whole (bs b) = false) :
    Calls Tryd.prog 6 #[.string a, .string b, .string c] w fun e w' => e = .returned (.bool true) ∧ w.grownBy w' none := by
  go_enter Tryd.func6, Tryd.ntmps6
  go_wp2_with (first | (go_at_call 18; refine (compare_any _ _ _ (HT.out.keep HG.out)).mono ?_; rintro e w2 ⟨rfl, g2⟩; have g3 := gb_trans HG.out g2; clear HG; have HG := (show Hid _ from g3); clear g3; clear g2) | (go_at_call 15; refine (whole_any _ _).mono ?_; rintro e w2 ⟨rfl, g2⟩; have g3 := gb_trans HG.out g2; clear HG; have HG := (show Hid _ from g3); clear g3; clear g2) | (go_at_call 17; refine (wakes_any _ (HT.out.keep HG.out)).mono ?_; rintro e w2 ⟨rfl, g2⟩; have g3 := gb_trans HG.out g2; clear HG; have HG := (show Hid _ from g3); clear g3; clear g2))
  go_ret
  exact ⟨rfl, HG.out⟩
set_option maxHeartbeats 1600000 in
set_option maxRecDepth 100000 in
theorem order_pzp2 (a b c : ByteArray) (w : World) (HT : Hid (Tabs w)) (HG : Hid (w.grownBy w none)) (h1 : R.cmp (bs a) (bs b) = 1) (h2 : R.cmp (bs b) (bs c) = 0) (h3 : R.cmp (bs a) (bs c) = 1) (h4 : R.cmp (bs b) (bs a) = (-1)) (h5 : R.cmp (bs a) (bs a) = 0) (he : (a.toList == b.toList) = false) (ha : R.whole (bs a) = true) (hb : R.whole (bs b) = true) (hl : Op.bytesLess a.toList b.toList = false) :
    Calls Tryd.prog 6 #[.string a, .string b, .string c] w fun e w' => e = .returned (.bool true) ∧ w.grownBy w' none := by
  go_enter Tryd.func6, Tryd.ntmps6
  go_wp2_with (first | (go_at_call 18; refine (compare_any _ _ _ (HT.out.keep HG.out)).mono ?_; rintro e w2 ⟨rfl, g2⟩; have g3 := gb_trans HG.out g2; clear HG; have HG := (show Hid _ from g3); clear g3; clear g2) | (go_at_call 15; refine (whole_any _ _).mono ?_; rintro e w2 ⟨rfl, g2⟩; have g3 := gb_trans HG.out g2; clear HG; have HG := (show Hid _ from g3); clear g3; clear g2) | (go_at_call 17; refine (wakes_any _ (HT.out.keep HG.out)).mono ?_; rintro e w2 ⟨rfl, g2⟩; have g3 := gb_trans HG.out g2; clear HG; have HG := (show Hid _ from g3); clear g3; clear g2))
  go_ret
  exact ⟨rfl, HG.out⟩
set_option maxHeartbeats 1600000 in
set_option maxRecDepth 100000 in
theorem order_ppz0 (a b c : ByteArray) (w : World) (HT : Hid (Tabs w)) (HG : Hid (w.grownBy w none)) (h1 : R.cmp (bs a) (bs b) = 1) (h2 : R.cmp (bs b) (bs c) = 1) (h3 : R.cmp (bs a) (bs c) = 0) (h4 : R.cmp (bs b) (bs a) = (-1)) (h5 : R.cmp (bs a) (bs a) = 0) (he : (a.toList == b.toList) = false) (ha : R.whole (bs a) = false) :
    Calls Tryd.prog 6 #[.string a, .string b, .string c] w fun e w' => e = .returned (.bool true) ∧ w.grownBy w' none := by
  go_enter Tryd.func6, Tryd.ntmps6
  go_wp2_with (first | (go_at_call 18; refine (compare_any _ _ _ (HT.out.keep HG.out)).mono ?_; rintro e w2 ⟨rfl, g2⟩; have g3 := gb_trans HG.out g2; clear HG; have HG := (show Hid _ from g3); clear g3; clear g2) | (go_at_call 15; refine (whole_any _ _).mono ?_; rintro e w2 ⟨rfl, g2⟩; have g3 := gb_trans HG.out g2; clear HG; have HG := (show Hid _ from g3); clear g3; clear g2) | (go_at_call 17; refine (wakes_any _ (HT.out.keep HG.out)).mono ?_; rintro e w2 ⟨rfl, g2⟩; have g3 := gb_trans HG.out g2; clear HG; have HG := (show Hid _ from g3); clear g3; clear g2))
  go_ret
  exact ⟨rfl, HG.out⟩
set_option maxHeartbeats 1600000 in
set_option maxRecDepth 100000 in
theorem order_ppz1 (a b c : ByteArray) (w : World) (HT : Hid (Tabs w)) (HG : Hid (w.grownBy w none)) (h1 : R.cmp (bs a) (bs b) = 1) (h2 : R.cmp (bs b) (bs c) = 1) (h3 : R.cmp (bs a) (bs c) = 0) (h4 : R.cmp (bs b) (bs a) = (-1)) (h5 : R.cmp (bs a) (bs a) = 0) (he : (a.toList == b.toList) = false) (ha : R.whole (bs a) = true) (hb : R.whole (bs b) = false) :
    Calls Tryd.prog 6 #[.string a, .string b, .string c] w fun e w' => e = .returned (.bool true) ∧ w.grownBy w' none := by
  go_enter Tryd.func6, Tryd.ntmps6
  go_wp2_with (first | (go_at_call 18; refine (compare_any _ _ _ (HT.out.keep HG.out)).mono ?_; rintro e w2 ⟨rfl, g2⟩; have g3 := gb_trans HG.out g2; clear HG; have HG := (show Hid _ from g3); clear g3; clear g2) | (go_at_call 15; refine (whole_any _ _).mono ?_; rintro e w2 ⟨rfl, g2⟩; have g3 := gb_trans HG.out g2; clear HG; have HG := (show Hid _ from g3); clear g3; clear g2) | (go_at_call 17; refine (wakes_any _ (HT.out.keep HG.out)).mono ?_; rintro e w2 ⟨rfl, g2⟩; have g3 := gb_trans HG.out g2; clear HG; have HG := (show Hid _ from g3); clear g3; clear g2))
  go_ret
  exact ⟨rfl, HG.out⟩
set_option maxHeartbeats 1600000 in
set_option maxRecDepth 100000 in
theorem order_ppz2 (a b c : ByteArray) (w : World) (HT : Hid (Tabs w)) (HG : Hid (w.grownBy w none)) (h1 : R.cmp (bs a) (bs b) = 1) (h2 : R.cmp (bs b) (bs c) = 1) (h3 : R.cmp (bs a) (bs c) = 0) (h4 : R.cmp (bs b) (bs a) = (-1)) (h5 : R.cmp (bs a) (bs a) = 0) (he : (a.toList == b.toList) = false) (ha : R.whole (bs a) = true) (hb : R.whole (bs b) = true) (hl : Op.bytesLess a.toList b.toList = false) :
    Calls Tryd.prog 6 #[.string a, .string b, .string c] w fun e w' => e = .returned (.bool true) ∧ w.grownBy w' none := by
  go_enter Tryd.func6, Tryd.ntmps6
  go_wp2_with (first | (go_at_call 18; refine (compare_any _ _ _ (HT.out.keep HG.out)).mono ?_; rintro e w2 ⟨rfl, g2⟩; have g3 := gb_trans HG.out g2; clear HG; have HG := (show Hid _ from g3); clear g3; clear g2) | (go_at_call 15; refine (whole_any _ _).mono ?_; rintro e w2 ⟨rfl, g2⟩; have g3 := gb_trans HG.out g2; clear HG; have HG := (show Hid _ from g3); clear g3; clear g2) | (go_at_call 17; refine (wakes_any _ (HT.out.keep HG.out)).mono ?_; rintro e w2 ⟨rfl, g2⟩; have g3 := gb_trans HG.out g2; clear HG; have HG := (show Hid _ from g3); clear g3; clear g2))
  go_ret
  exact ⟨rfl, HG.out⟩
set_option maxHeartbeats 1600000 in
set_option maxRecDepth 100000 in
theorem order_ppp0 (a b c : ByteArray) (w : World) (HT : Hid (Tabs w)) (HG : Hid (w.grownBy w none)) (h1 : R.cmp (bs a) (bs b) = 1) (h2 : R.cmp (bs b) (bs c) = 1) (h3 : R.cmp (bs a) (bs c) = 1) (h4 : R.cmp (bs b) (bs a) = (-1)) (h5 : R.cmp (bs a) (bs a) = 0) (he : (a.toList == b.toList) = false) (ha : R.whole (bs a) = false) :
    Calls Tryd.prog 6 #[.string a, .string b, .string c] w fun e w' => e = .returned (.bool true) ∧ w.grownBy w' none := by
  go_enter Tryd.func6, Tryd.ntmps6
  go_wp2_with (first | (go_at_call 18; refine (compare_any _ _ _ (HT.out.keep HG.out)).mono ?_; rintro e w2 ⟨rfl, g2⟩; have g3 := gb_trans HG.out g2; clear HG; have HG := (show Hid _ from g3); clear g3; clear g2) | (go_at_call 15; refine (whole_any _ _).mono ?_; rintro e w2 ⟨rfl, g2⟩; have g3 := gb_trans HG.out g2; clear HG; have HG := (show Hid _ from g3); clear g3; clear g2) | (go_at_call 17; refine (wakes_any _ (HT.out.keep HG.out)).mono ?_; rintro e w2 ⟨rfl, g2⟩; have g3 := gb_trans HG.out g2; clear HG; have HG := (show Hid _ from g3); clear g3; clear g2))
  go_ret
  exact ⟨rfl, HG.out⟩
set_option maxHeartbeats 1600000 in
set_option maxRecDepth 100000 in
theorem order_ppp1 (a b c : ByteArray) (w : World) (HT : Hid (Tabs w)) (HG : Hid (w.grownBy w none)) (h1 : R.cmp (bs a) (bs b) = 1) (h2 : R.cmp (bs b) (bs c) = 1) (h3 : R.cmp (bs a) (bs c) = 1) (h4 : R.cmp (bs b) (bs a) = (-1)) (h5 : R.cmp (bs a) (bs a) = 0) (he : (a.toList == b.toList) = false) (ha : R.whole (bs a) = true) (hb : R.whole (bs b) = false) :
    Calls Tryd.prog 6 #[.string a, .string b, .string c] w fun e w' => e = .returned (.bool true) ∧ w.grownBy w' none := by
  go_enter Tryd.func6, Tryd.ntmps6
  go_wp2_with (first | (go_at_call 18; refine (compare_any _ _ _ (HT.out.keep HG.out)).mono ?_; rintro e w2 ⟨rfl, g2⟩; have g3 := gb_trans HG.out g2; clear HG; have HG := (show Hid _ from g3); clear g3; clear g2) | (go_at_call 15; refine (whole_any _ _).mono ?_; rintro e w2 ⟨rfl, g2⟩; have g3 := gb_trans HG.out g2; clear HG; have HG := (show Hid _ from g3); clear g3; clear g2) | (go_at_call 17; refine (wakes_any _ (HT.out.keep HG.out)).mono ?_; rintro e w2 ⟨rfl, g2⟩; have g3 := gb_trans HG.out g2; clear HG; have HG := (show Hid _ from g3); clear g3; clear g2))
  go_ret
  exact ⟨rfl, HG.out⟩
set_option maxHeartbeats 1600000 in
set_option maxRecDepth 100000 in
theorem order_ppp2 (a b c : ByteArray) (w : World) (HT : Hid (Tabs w)) (HG : Hid (w.grownBy w none)) (h1 : R.cmp (bs a) (bs b) = 1) (h2 : R.cmp (bs b) (bs c) = 1) (h3 : R.cmp (bs a) (bs c) = 1) (h4 : R.cmp (bs b) (bs a) = (-1)) (h5 : R.cmp (bs a) (bs a) = 0) (he : (a.toList == b.toList) = false) (ha : R.whole (bs a) = true) (hb : R.whole (bs b) = true) (hl : Op.bytesLess a.toList b.toList = false) :
    Calls Tryd.prog 6 #[.string a, .string b, .string c] w fun e w' => e = .returned (.bool true) ∧ w.grownBy w' none := by
  go_enter Tryd.func6, Tryd.ntmps6
  go_wp2_with (first | (go_at_call 18; refine (compare_any _ _ _ (HT.out.keep HG.out)).mono ?_; rintro e w2 ⟨rfl, g2⟩; have g3 := gb_trans HG.out g2; clear HG; have HG := (show Hid _ from g3); clear g3; clear g2) | (go_at_call 15; refine (whole_any _ _).mono ?_; rintro e w2 ⟨rfl, g2⟩; have g3 := gb_trans HG.out g2; clear HG; have HG := (show Hid _ from g3); clear g3; clear g2) | (go_at_call 17; refine (wakes_any _ (HT.out.keep HG.out)).mono ?_; rintro e w2 ⟨rfl, g2⟩; have g3 := gb_trans HG.out g2; clear HG; have HG := (show Hid _ from g3); clear g3; clear g2))
  go_ret
  exact ⟨rfl, HG.out⟩
theorem namesOrder.walk (a b c : ByteArray) (w : World) (hT : Tabs w) :
    Calls Tryd.prog 6 #[.string a, .string b, .string c] w fun e w' => e = .returned (.bool true) ∧ w.grownBy w' none := by
  have HT : Hid (Tabs w) := hT
  have HG : Hid (w.grownBy w none) := World.grownBy.refl _ _
  have ho := R.cmp_order (bs a) (bs b) (bs c)
  have h4 := R.cmp_turn (bs a) (bs b)
  have h5 := R.cmp_refl (bs a)
  have he := eq_cmp a b
  rcases R.cmp_range (bs a) (bs b) with h1 | h1 | h1 <;> rcases R.cmp_range (bs b) (bs c) with h2 | h2 | h2 <;> rcases R.cmp_range (bs a) (bs c) with h3 | h3 | h3 <;> first | (exfalso; omega) | skip
  all_goals
    rw [h1] at h4 he
    clear ho
    cases ha : R.whole (bs a)
  all_goals try (cases hb : R.whole (bs b))
  all_goals first
    | exact order_mmm0 a b c w HT HG h1 h2 h3 h4 h5 he ha
    | exact order_mmm1 a b c w HT HG h1 h2 h3 h4 h5 he ha hb
    | exact order_mmm2 a b c w HT HG h1 h2 h3 h4 h5 he ha hb (by rw [less_cmp a b ha hb, h1]; rfl)
    | exact order_mmz0 a b c w HT HG h1 h2 h3 h4 h5 he ha
    | exact order_mmz1 a b c w HT HG h1 h2 h3 h4 h5 he ha hb
    | exact order_mmz2 a b c w HT HG h1 h2 h3 h4 h5 he ha hb (by rw [less_cmp a b ha hb, h1]; rfl)
    | exact order_mzm0 a b c w HT HG h1 h2 h3 h4 h5 he ha
    | exact order_mzm1 a b c w HT HG h1 h2 h3 h4 h5 he ha hb
    | exact order_mzm2 a b c w HT HG h1 h2 h3 h4 h5 he ha hb (by rw [less_cmp a b ha hb, h1]; rfl)
    | exact order_mzz0 a b c w HT HG h1 h2 h3 h4 h5 he ha
    | exact order_mzz1 a b c w HT HG h1 h2 h3 h4 h5 he ha hb
    | exact order_mzz2 a b c w HT HG h1 h2 h3 h4 h5 he ha hb (by rw [less_cmp a b ha hb, h1]; rfl)
    | exact order_mpm0 a b c w HT HG h1 h2 h3 h4 h5 he ha
    | exact order_mpm1 a b c w HT HG h1 h2 h3 h4 h5 he ha hb
    | exact order_mpm2 a b c w HT HG h1 h2 h3 h4 h5 he ha hb (by rw [less_cmp a b ha hb, h1]; rfl)
    | exact order_mpz0 a b c w HT HG h1 h2 h3 h4 h5 he ha
    | exact order_mpz1 a b c w HT HG h1 h2 h3 h4 h5 he ha hb
    | exact order_mpz2 a b c w HT HG h1 h2 h3 h4 h5 he ha hb (by rw [less_cmp a b ha hb, h1]; rfl)
    | exact order_mpp0 a b c w HT HG h1 h2 h3 h4 h5 he ha
    | exact order_mpp1 a b c w HT HG h1 h2 h3 h4 h5 he ha hb
    | exact order_mpp2 a b c w HT HG h1 h2 h3 h4 h5 he ha hb (by rw [less_cmp a b ha hb, h1]; rfl)
    | exact order_zmm0 a b c w HT HG h1 h2 h3 h4 h5 he ha
    | exact order_zmm1 a b c w HT HG h1 h2 h3 h4 h5 he ha hb
    | exact order_zmm2 a b c w HT HG h1 h2 h3 h4 h5 he ha hb (by rw [less_cmp a b ha hb, h1]; rfl)
    | exact order_zzz0 a b c w HT HG h1 h2 h3 h4 h5 he ha
    | exact order_zzz1 a b c w HT HG h1 h2 h3 h4 h5 he ha hb
    | exact order_zzz2 a b c w HT HG h1 h2 h3 h4 h5 he ha hb (by rw [less_cmp a b ha hb, h1]; rfl)
    | exact order_zpp0 a b c w HT HG h1 h2 h3 h4 h5 he ha
    | exact order_zpp1 a b c w HT HG h1 h2 h3 h4 h5 he ha hb
    | exact order_zpp2 a b c w HT HG h1 h2 h3 h4 h5 he ha hb (by rw [less_cmp a b ha hb, h1]; rfl)
    | exact order_pmm0 a b c w HT HG h1 h2 h3 h4 h5 he ha
    | exact order_pmm1 a b c w HT HG h1 h2 h3 h4 h5 he ha hb
    | exact order_pmm2 a b c w HT HG h1 h2 h3 h4 h5 he ha hb (by rw [less_cmp a b ha hb, h1]; rfl)
    | exact order_pmz0 a b c w HT HG h1 h2 h3 h4 h5 he ha
    | exact order_pmz1 a b c w HT HG h1 h2 h3 h4 h5 he ha hb
    | exact order_pmz2 a b c w HT HG h1 h2 h3 h4 h5 he ha hb (by rw [less_cmp a b ha hb, h1]; rfl)
    | exact order_pmp0 a b c w HT HG h1 h2 h3 h4 h5 he ha
    | exact order_pmp1 a b c w HT HG h1 h2 h3 h4 h5 he ha hb
    | exact order_pmp2 a b c w HT HG h1 h2 h3 h4 h5 he ha hb (by rw [less_cmp a b ha hb, h1]; rfl)
    | exact order_pzz0 a b c w HT HG h1 h2 h3 h4 h5 he ha
    | exact order_pzz1 a b c w HT HG h1 h2 h3 h4 h5 he ha hb
    | exact order_pzz2 a b c w HT HG h1 h2 h3 h4 h5 he ha hb (by rw [less_cmp a b ha hb, h1]; rfl)
    | exact order_pzp0 a b c w HT HG h1 h2 h3 h4 h5 he ha
    | exact order_pzp1 a b c w HT HG h1 h2 h3 h4 h5 he ha hb
    | exact order_pzp2 a b c w HT HG h1 h2 h3 h4 h5 he ha hb (by rw [less_cmp a b ha hb, h1]; rfl)
    | exact order_ppz0 a b c w HT HG h1 h2 h3 h4 h5 he ha
    | exact order_ppz1 a b c w HT HG h1 h2 h3 h4 h5 he ha hb
    | exact order_ppz2 a b c w HT HG h1 h2 h3 h4 h5 he ha hb (by rw [less_cmp a b ha hb, h1]; rfl)
    | exact order_ppp0 a b c w HT HG h1 h2 h3 h4 h5 he ha
    | exact order_ppp1 a b c w HT HG h1 h2 h3 h4 h5 he ha hb
    | exact order_ppp2 a b c w HT HG h1 h2 h3 h4 h5 he ha hb (by rw [less_cmp a b ha hb, h1]; rfl)
end Go.Proofs.YtfflpmcflpbopaaDoor
