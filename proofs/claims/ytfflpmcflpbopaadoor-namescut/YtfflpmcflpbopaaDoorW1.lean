/- The walks of NamesValid, NamesCompare and NamesCut. -/
import Derived.Test.YtfflpmcflpbopaaDoorWake
import Derived.Test.YtfflpmcflpbopaaDoorRVl
import Derived.Test.YtfflpmcflpbopaaDoorRCm
set_option linter.unusedVariables false
set_option linter.unusedSimpArgs false
namespace Go.Proofs.YtfflpmcflpbopaaDoor
open Go.RowKit

set_option maxHeartbeats 1600000 in
set_option maxRecDepth 100000 in
theorem namesValid.walk (s : ByteArray) (w : World) (hT : Tabs w) (hs : s.size * 4 ≤ 140737488355328) :
    Calls Tryd.prog 3 #[.string s] w fun e w' => e = .returned (.bool true) ∧ w.grownBy w' none := by
  have HT : Hid (Tabs w) := hT
  have HG : Hid (w.grownBy w none) := World.grownBy.refl _ _
  have c1 := fun W => valid_any s W
  have c2 := fun W => rvalid_any s W (by omega)
  have c3 := fun W => runes_any s W hs
  have c4 := fun W => rrunes_any s W hs
  have c5 := fun W => whole_any s W
  have c6 := fun W => rwhole_any s W (by omega)
  obtain ⟨V, hV⟩ : ∃ V, R.valid (bs s) = V := ⟨_, rfl⟩
  obtain ⟨X, hX⟩ : ∃ X, R.runes (bs s) = X := ⟨_, rfl⟩
  obtain ⟨B, hB⟩ : ∃ B, R.whole (bs s) = B := ⟨_, rfl⟩
  have hl : X.length ≤ 281474976710656 := by have := R.runes_len (bs s); rw [hX, bs_len] at this; omega
  simp only [hV] at c1 c2
  simp only [hX] at c3 c4
  simp only [hB] at c5 c6
  have C1 := (show Hid _ from c1)
  have C2 := (show Hid _ from c2)
  have C3 := (show Hid _ from c3)
  have C4 := (show Hid _ from c4)
  have C5 := (show Hid _ from c5)
  have C6 := (show Hid _ from c6)
  have HL : Hid (X.length ≤ 281474976710656) := hl
  clear c1 c2 c3 c4 c5 c6 hT hV hX hB hl hs
  go_enter Tryd.func3, Tryd.ntmps3
  go_wp2_with (first | (go_at_call 10; refine (C1.out _).mono ?_; rintro e w2 ⟨rfl, g2⟩; have g3 := gb_trans HG.out g2; clear HG; have HG := (show Hid _ from g3); clear g3; clear g2) | (go_at_call 11; refine (C2.out _).mono ?_; rintro e w2 ⟨rfl, rfl⟩) | (go_at_call 13; refine (C3.out _).mono ?_; rintro e w2 ⟨p, c, rfl, ro, g2⟩; have HR1 : Hid (RV w2 p X) := ro.rvw; have g3 := gb_trans HG.out g2; clear HG; have HG := (show Hid _ from g3); clear g3; clear g2 ro) | (go_at_call 14; refine (C4.out _).mono ?_; rintro e w2 ⟨q, d, rfl, ro, g2⟩; have HR2 : Hid (RV w2 q X) := ro.rvw; have hr1 := HR1.out.keep g2; clear HR1; have HR1 := (show Hid _ from hr1); have g3 := gb_trans HG.out g2; clear HG; have HG := (show Hid _ from g3); clear g3; clear g2 ro hr1) | (go_at_call 12; refine (same_any HR1.out HR2.out HL.out).mono ?_; rintro e w2 ⟨rfl, g2⟩; have g3 := gb_trans HG.out g2; clear HG; have HG := (show Hid _ from g3); clear g3; clear g2) | (go_at_call 15; refine (C5.out _).mono ?_; rintro e w2 ⟨rfl, g2⟩; have g3 := gb_trans HG.out g2; clear HG; have HG := (show Hid _ from g3); clear g3; clear g2) | (go_at_call 16; refine (C6.out _).mono ?_; rintro e w2 ⟨rfl, rfl⟩) | (go_at_call 17; refine (wakes_any _ (HT.out.keep HG.out)).mono ?_; rintro e w2 ⟨rfl, g2⟩; have g3 := gb_trans HG.out g2; clear HG; have HG := (show Hid _ from g3); clear g3; clear g2))
  go_ret
  exact ⟨rfl, HG.out⟩
set_option maxHeartbeats 1600000 in
set_option maxRecDepth 100000 in
theorem namesCompare.walk (a b : ByteArray) (w : World) (hT : Tabs w) (ha : a.size * 4 ≤ 140737488355328) (hb : b.size * 4 ≤ 140737488355328) :
    Calls Tryd.prog 4 #[.string a, .string b] w fun e w' => e = .returned (.bool true) ∧ w.grownBy w' none := by
  have HT : Hid (Tabs w) := hT
  have HG : Hid (w.grownBy w none) := World.grownBy.refl _ _
  have c1 := fun W h => compare_any a b W h
  have c2 := fun W => rcompare_any a b W ha hb
  obtain ⟨V, hV⟩ : ∃ V, R.cmp (bs a) (bs b) = V := ⟨_, rfl⟩
  simp only [hV] at c1 c2
  have C1 := (show Hid _ from c1)
  have C2 := (show Hid _ from c2)
  clear c1 c2 hT hV ha hb
  go_enter Tryd.func4, Tryd.ntmps4
  go_wp2_with (first | (go_at_call 18; refine (C1.out _ (HT.out.keep HG.out)).mono ?_; rintro e w2 ⟨rfl, g2⟩; have g3 := gb_trans HG.out g2; clear HG; have HG := (show Hid _ from g3); clear g3; clear g2) | (go_at_call 19; refine (C2.out _).mono ?_; rintro e w2 ⟨rfl, g2⟩; have g3 := gb_trans HG.out g2; clear HG; have HG := (show Hid _ from g3); clear g3; clear g2) | (go_at_call 17; refine (wakes_any _ (HT.out.keep HG.out)).mono ?_; rintro e w2 ⟨rfl, g2⟩; have g3 := gb_trans HG.out g2; clear HG; have HG := (show Hid _ from g3); clear g3; clear g2))
  go_ret
  exact ⟨rfl, HG.out⟩
set_option maxHeartbeats 1600000 in
set_option maxRecDepth 100000 in
theorem namesCut.walk (s : ByteArray) (n : Int) (w : World) (hT : Tabs w) (hs : s.size ≤ 281474976710656) :
    Calls Tryd.prog 5 #[.string s, .int .i64 n] w fun e w' => e = .returned (.bool true) ∧ w.grownBy w' none := by
  have HT : Hid (Tabs w) := hT
  have HG : Hid (w.grownBy w none) := World.grownBy.refl _ _
  have c1 := fun W => cut_any s n W hs
  have c2 := fun W => rcut_any s n W hs
  obtain ⟨V, hV⟩ : ∃ V, s.extract 0 (R.cut n.toNat (bs s)) = V := ⟨_, rfl⟩
  simp only [hV] at c1 c2
  have C1 := (show Hid _ from c1)
  have C2 := (show Hid _ from c2)
  clear c1 c2 hT hV hs
  go_enter Tryd.func5, Tryd.ntmps5
  go_wp2_with (first | (go_at_call 20; refine (C1.out _).mono ?_; rintro e w2 ⟨rfl, g2⟩; have g3 := gb_trans HG.out g2; clear HG; have HG := (show Hid _ from g3); clear g3; clear g2) | (go_at_call 21; refine (C2.out _).mono ?_; rintro e w2 ⟨rfl, rfl⟩) | (go_at_call 17; refine (wakes_any _ (HT.out.keep HG.out)).mono ?_; rintro e w2 ⟨rfl, g2⟩; have g3 := gb_trans HG.out g2; clear HG; have HG := (show Hid _ from g3); clear g3; clear g2))
  go_ret
  exact ⟨rfl, HG.out⟩
end Go.Proofs.YtfflpmcflpbopaaDoor
