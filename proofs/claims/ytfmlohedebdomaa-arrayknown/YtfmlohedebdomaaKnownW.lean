/- The walk of ArrayKnown. -/
import Derived.Test.YtfmlohedebdomaaNil6
set_option linter.unusedSimpArgs false
set_option linter.unusedVariables false
namespace Go.Proofs.Ytfmlohedebdomaa
open Go.RowKit
theorem off_at {F : Nat → Prop} {w : World} {a : Nat} {R : AM.Raw} (h : Is F w a R) {b : Bool} (hc : R.off = b) : Calls Try.prog 36 #[ptr a] w fun e w' => e = .returned (.bool b) ∧ w' = w := by
  subst hc; exact off_yes h
theorem aw_nil (F : Nat → Prop) (w : World) : Aw F w (.slice none 0 0) [] := ⟨(Own.nil 0 w).vec, fun g hg => by cases hg⟩
def B1 : AM.Raw := ((AM.Raw.new 2 4).lose 0).2
def B2 : AM.Raw := (B1.replace 0).2
def B3 : AM.Raw := B2.fused 2
def B4 : AM.Raw := (B3.writes 1 0 (fl 3)).2
def B5 : AM.Raw := B4.barrier.2
def B6 : AM.Raw := (B5.lose 1).2
def B7 : AM.Raw := (B6.replace 1).2
def B8 : AM.Raw := B7.crash [1]

namespace arrayKnown
set_option maxRecDepth 100000 in
set_option maxHeartbeats 6400000 in
theorem walk {w : World} : Calls Try.prog 8 #[] w fun e w' => e = .returned (.bool true) ∧ w.grownBy w' none := by
  go_enter Try.func8, Try.ntmps8
  go_wp2_with fail
  refine (new_at (w := w) (N := 2) (n := 4) (by decide) (by decide) (by decide) (by decide) rfl rfl).mono ?_
  rintro e w1 ⟨a, rfl, F1, hi, hb⟩
  have HI : Hid (Is F1 w1 a (AM.Raw.new 2 4)) := hi
  have HB : Hid (Base w F1 w1) := hb
  clear hi hb
  go_wp2_with fail
  refine (awake_yes w1).mono ?_
  rintro e w2 ⟨rfl, hg⟩
  have HIx : Hid (Is F1 w2 a (AM.Raw.new 2 4)) := HI.out.keep hg
  clear HI
  have HI := HIx
  clear HIx
  have HBx : Hid (Base w F1 w2) := HB.out.keep hg
  clear HB
  have HB := HBx
  clear HBx
  clear hg
  go_wp2_with fail
  refine (lose_at HI.out (by decide) (c := 0) (R' := B1) (by decide) rfl).mono ?_
  rintro e w3 ⟨rfl, F3, hi, hs⟩
  have HIx : Hid (Is F3 w3 a B1) := hi
  clear HI
  have HI := HIx
  clear HIx hi
  have HBx : Hid (Base w F3 w3) := HB.out.step hs
  clear HB
  have HB := HBx
  clear HBx
  clear hs
  go_wp2_with fail
  refine (read_at HI.out (c := 9) (xs := []) (by decide) (by decide)).mono ?_
  rintro e w4 ⟨p4, n4, m4, rfl, hv, hg⟩
  have HIx : Hid (Is F3 w4 a B1) := HI.out.keep hg
  clear HI
  have HI := HIx
  clear HIx
  have HBx : Hid (Base w F3 w4) := HB.out.keep hg
  clear HB
  have HB := HBx
  clear HBx
  clear hv hg
  go_wp2_with fail
  refine (replace_at HI.out (c := 0) (R' := B2) (by decide) rfl).mono ?_
  rintro e w5 ⟨rfl, F5, hi, hs⟩
  have HIx : Hid (Is F5 w5 a B2) := hi
  clear HI
  have HI := HIx
  clear HIx hi
  have HBx : Hid (Base w F5 w5) := HB.out.step hs
  clear HB
  have HB := HBx
  clear HBx
  clear hs
  go_wp2_with fail
  refine (replace_at HI.out (c := 1) (R' := B2) (by decide) rfl).mono ?_
  rintro e w6 ⟨rfl, F6, hi, hs⟩
  have HIx : Hid (Is F6 w6 a B2) := hi
  clear HI
  have HI := HIx
  clear HIx hi
  have HBx : Hid (Base w F6 w6) := HB.out.step hs
  clear HB
  have HB := HBx
  clear HBx
  clear hs
  go_wp2_with fail
  refine (read_at HI.out (c := 0) (xs := (fl 0)) (by decide) (by decide)).mono ?_
  rintro e w7 ⟨p7, n7, m7, rfl, hv, hg⟩
  have HIx : Hid (Is F6 w7 a B2) := HI.out.keep hg
  clear HI
  have HI := HIx
  clear HIx
  have HBx : Hid (Base w F6 w7) := HB.out.keep hg
  clear HB
  have HB := HBx
  clear HBx
  have HVx : Hid (Aw F6 w7 (.slice p7 n7 m7) (fl 0)) := hv
  clear hv hg
  go_wp2_with fail
  refine (fuse_at HI.out (by decide) (R' := B3) rfl).mono ?_
  rintro e w8 ⟨rfl, F8, hi, hs⟩
  have HIx : Hid (Is F8 w8 a B3) := hi
  clear HI
  have HI := HIx
  clear HIx hi
  have HVxx : Hid (Aw F8 w8 (.slice p7 n7 m7) (fl 0)) := HVx.out.step hs
  clear HVx
  have HVx := HVxx
  clear HVxx
  have HBx : Hid (Base w F8 w8) := HB.out.step hs
  clear HB
  have HB := HBx
  clear HBx
  clear hs
  go_wp2_with fail
  refine (full_at (F := F8) (w := w8) HI.out.lt (x := 3) (by decide) rfl).mono ?_
  rintro e w9 ⟨p9, rfl, hv, hg⟩
  have HIx : Hid (Is F8 w9 a B3) := HI.out.keep hg
  clear HI
  have HI := HIx
  clear HIx
  have HVxx : Hid (Aw F8 w9 (.slice p7 n7 m7) (fl 0)) := HVx.out.keep hg
  clear HVx
  have HVx := HVxx
  clear HVxx
  have HBx : Hid (Base w F8 w9) := HB.out.keep hg
  clear HB
  have HB := HBx
  clear HBx
  have HVf : Hid (Aw F8 w9 (.slice p9 64 64) (fl 3)) := hv
  clear hv hg
  go_wp2_with fail
  refine (write_at HI.out HVf.out (by decide) (c := 0) (R' := B4) (by decide) rfl).mono ?_
  rintro e w10 ⟨rfl, F10, hi, hs⟩
  have HIx : Hid (Is F10 w10 a B4) := hi
  clear HI
  have HI := HIx
  clear HIx hi
  have HVxx : Hid (Aw F10 w10 (.slice p7 n7 m7) (fl 0)) := HVx.out.step hs
  clear HVx
  have HVx := HVxx
  clear HVxx
  have HVfx : Hid (Aw F10 w10 (.slice p9 64 64) (fl 3)) := HVf.out.step hs
  clear HVf
  have HVf := HVfx
  clear HVfx
  have HBx : Hid (Base w F10 w10) := HB.out.step hs
  clear HB
  have HB := HBx
  clear HBx
  clear hs
  clear HVf
  go_wp2_with fail
  refine (barrier_at HI.out (c := 8) (R' := B5) (by decide) rfl).mono ?_
  rintro e w11 ⟨rfl, F11, hi, hs⟩
  have HIx : Hid (Is F11 w11 a B5) := hi
  clear HI
  have HI := HIx
  clear HIx hi
  have HVxx : Hid (Aw F11 w11 (.slice p7 n7 m7) (fl 0)) := HVx.out.step hs
  clear HVx
  have HVx := HVxx
  clear HVxx
  have HBx : Hid (Base w F11 w11) := HB.out.step hs
  clear HB
  have HB := HBx
  clear HBx
  clear hs
  go_wp2_with fail
  refine (read_at HI.out (c := 8) (xs := []) (by decide) (by decide)).mono ?_
  rintro e w12 ⟨p12, n12, m12, rfl, hv, hg⟩
  have HIx : Hid (Is F11 w12 a B5) := HI.out.keep hg
  clear HI
  have HI := HIx
  clear HIx
  have HVxx : Hid (Aw F11 w12 (.slice p7 n7 m7) (fl 0)) := HVx.out.keep hg
  clear HVx
  have HVx := HVxx
  clear HVxx
  have HBx : Hid (Base w F11 w12) := HB.out.keep hg
  clear HB
  have HB := HBx
  clear HBx
  clear hv hg
  go_wp2_with fail
  refine (read_nil _ _ _).mono ?_
  rintro e w9 ⟨rfl, hw⟩
  obtain rfl := hw.symm
  clear hw
  go_wp2_with fail
  refine (fuse_nil _ _).mono ?_
  rintro e w9 ⟨rfl, hw⟩
  obtain rfl := hw.symm
  clear hw
  go_wp2_with fail
  refine (crash_nil _ _).mono ?_
  rintro e w9 ⟨rfl, hw⟩
  obtain rfl := hw.symm
  clear hw
  go_wp2_with fail
  refine (lose_at HI.out (by decide) (c := 0) (R' := B6) (by decide) rfl).mono ?_
  rintro e w13 ⟨rfl, F13, hi, hs⟩
  have HIx : Hid (Is F13 w13 a B6) := hi
  clear HI
  have HI := HIx
  clear HIx hi
  have HVxx : Hid (Aw F13 w13 (.slice p7 n7 m7) (fl 0)) := HVx.out.step hs
  clear HVx
  have HVx := HVxx
  clear HVxx
  have HBx : Hid (Base w F13 w13) := HB.out.step hs
  clear HB
  have HB := HBx
  clear HBx
  clear hs
  go_wp2_with fail
  refine (replace_at HI.out (c := 0) (R' := B7) (by decide) rfl).mono ?_
  rintro e w14 ⟨rfl, F14, hi, hs⟩
  have HIx : Hid (Is F14 w14 a B7) := hi
  clear HI
  have HI := HIx
  clear HIx hi
  have HVxx : Hid (Aw F14 w14 (.slice p7 n7 m7) (fl 0)) := HVx.out.step hs
  clear HVx
  have HVx := HVxx
  clear HVxx
  have HBx : Hid (Base w F14 w14) := HB.out.step hs
  clear HB
  have HB := HBx
  clear HBx
  clear hs
  go_wp2_with fail
  refine (off_at HI.out (b := true) rfl).mono ?_
  rintro e w9 ⟨rfl, hw⟩
  obtain rfl := hw.symm
  clear hw
  go_wp2_with fail
  have hg : w14.grownBy (w14.alloc (.cells #[.int .u8 1] 5)) none := World.grownBy_alloc _ _ none
  have hv : Aw F14 (w14.alloc (.cells #[.int .u8 1] 5)) (.slice (some ⟨w14.heap.size, 0, none⟩) 1 1) [1] := (own_lit (B := w14.heap.size) (xs := [1]) (heap_alloc_new _ _) (Nat.le_refl _) rfl (by decide) (by decide)).aw HI.out.lt
  have HIx : Hid (Is F14 (w14.alloc (.cells #[.int .u8 1] 5)) a B7) := HI.out.keep hg
  clear HI
  have HI := HIx
  clear HIx
  have HVxx : Hid (Aw F14 (w14.alloc (.cells #[.int .u8 1] 5)) (.slice p7 n7 m7) (fl 0)) := HVx.out.keep hg
  clear HVx
  have HVx := HVxx
  clear HVxx
  have HBx : Hid (Base w F14 (w14.alloc (.cells #[.int .u8 1] 5))) := HB.out.keep hg
  clear HB
  have HB := HBx
  clear HBx
  have HVp : Hid (Aw F14 (w14.alloc (.cells #[.int .u8 1] 5)) (.slice (some ⟨w14.heap.size, 0, none⟩) 1 1) [1]) := hv
  clear hv hg
  go_wp2_with fail
  refine (crash_at HI.out (by decide) HVp.out (R' := B8) rfl).mono ?_
  rintro e w15 ⟨rfl, F15, hi, hs⟩
  have HIx : Hid (Is F15 w15 a B8) := hi
  clear HI
  have HI := HIx
  clear HIx hi
  have HVxx : Hid (Aw F15 w15 (.slice p7 n7 m7) (fl 0)) := HVx.out.step hs
  clear HVx
  have HVx := HVxx
  clear HVxx
  have HVpx : Hid (Aw F15 w15 (.slice (some ⟨w14.heap.size, 0, none⟩) 1 1) [1]) := HVp.out.step hs
  clear HVp
  have HVp := HVpx
  clear HVpx
  have HBx : Hid (Base w F15 w15) := HB.out.step hs
  clear HB
  have HB := HBx
  clear HBx
  clear hs
  clear HVp
  go_wp2_with fail
  refine (read_at HI.out (c := 0) (xs := (fl 0)) (by decide) (by decide)).mono ?_
  rintro e w16 ⟨p16, n16, m16, rfl, hv, hg⟩
  have HIx : Hid (Is F15 w16 a B8) := HI.out.keep hg
  clear HI
  have HI := HIx
  clear HIx
  have HVxx : Hid (Aw F15 w16 (.slice p7 n7 m7) (fl 0)) := HVx.out.keep hg
  clear HVx
  have HVx := HVxx
  clear HVxx
  have HBx : Hid (Base w F15 w16) := HB.out.keep hg
  clear HB
  have HB := HBx
  clear HBx
  have HVy : Hid (Aw F15 w16 (.slice p16 n16 m16) (fl 0)) := hv
  clear hv hg
  go_wp2_with fail
  refine (full_at (F := F15) (w := w16) HI.out.lt (x := 0) (by decide) rfl).mono ?_
  rintro e w17 ⟨p17, rfl, hv, hg⟩
  have HIx : Hid (Is F15 w17 a B8) := HI.out.keep hg
  clear HI
  have HI := HIx
  clear HIx
  have HVxx : Hid (Aw F15 w17 (.slice p7 n7 m7) (fl 0)) := HVx.out.keep hg
  clear HVx
  have HVx := HVxx
  clear HVxx
  have HVyx : Hid (Aw F15 w17 (.slice p16 n16 m16) (fl 0)) := HVy.out.keep hg
  clear HVy
  have HVy := HVyx
  clear HVyx
  have HBx : Hid (Base w F15 w17) := HB.out.keep hg
  clear HB
  have HB := HBx
  clear HBx
  have HVg : Hid (Aw F15 w17 (.slice p17 64 64) (fl 0)) := hv
  clear hv hg
  go_wp2_with fail
  refine (equal_at HVx.out.vec HVg.out.vec (by decide)).mono ?_
  rintro e w9 ⟨rfl, hw⟩
  obtain rfl := hw.symm
  clear hw
  clear HVx
  clear HVg
  go_wp2_with fail
  refine (full_at (F := F15) (w := w17) HI.out.lt (x := 0) (by decide) rfl).mono ?_
  rintro e w18 ⟨p18, rfl, hv, hg⟩
  have HIx : Hid (Is F15 w18 a B8) := HI.out.keep hg
  clear HI
  have HI := HIx
  clear HIx
  have HVyx : Hid (Aw F15 w18 (.slice p16 n16 m16) (fl 0)) := HVy.out.keep hg
  clear HVy
  have HVy := HVyx
  clear HVyx
  have HBx : Hid (Base w F15 w18) := HB.out.keep hg
  clear HB
  have HB := HBx
  clear HBx
  have HVh : Hid (Aw F15 w18 (.slice p18 64 64) (fl 0)) := hv
  clear hv hg
  go_wp2_with fail
  refine (equal_at HVy.out.vec HVh.out.vec (by decide)).mono ?_
  rintro e w9 ⟨rfl, hw⟩
  obtain rfl := hw.symm
  clear hw
  clear HVy
  clear HVh
  have HVn : Hid (Aw F15 w18 (.slice none 0 0) []) := aw_nil _ _
  go_wp2_with fail
  refine (write_at HI.out HVn.out (by decide) (c := 6) (R' := B8) (by decide) rfl).mono ?_
  rintro e w19 ⟨rfl, F19, hi, hs⟩
  have HIx : Hid (Is F19 w19 a B8) := hi
  clear HI
  have HI := HIx
  clear HIx hi
  have HVnx : Hid (Aw F19 w19 (.slice none 0 0) []) := HVn.out.step hs
  clear HVn
  have HVn := HVnx
  clear HVnx
  have HBx : Hid (Base w F19 w19) := HB.out.step hs
  clear HB
  have HB := HBx
  clear HBx
  clear hs
  go_wp2_with fail
  refine (write_at HI.out HVn.out (by decide) (c := 1) (R' := B8) (by decide) rfl).mono ?_
  rintro e w20 ⟨rfl, F20, hi, hs⟩
  have HIx : Hid (Is F20 w20 a B8) := hi
  clear HI
  have HI := HIx
  clear HIx hi
  have HVnx : Hid (Aw F20 w20 (.slice none 0 0) []) := HVn.out.step hs
  clear HVn
  have HVn := HVnx
  clear HVnx
  have HBx : Hid (Base w F20 w20) := HB.out.step hs
  clear HB
  have HB := HBx
  clear HBx
  clear hs
  clear HVn
  go_wp2_with fail
  refine (lose_at HI.out (by decide) (c := 6) (R' := B8) (by decide) rfl).mono ?_
  rintro e w21 ⟨rfl, F21, hi, hs⟩
  have HIx : Hid (Is F21 w21 a B8) := hi
  clear HI
  have HI := HIx
  clear HIx hi
  have HBx : Hid (Base w F21 w21) := HB.out.step hs
  clear HB
  have HB := HBx
  clear HBx
  clear hs
  go_wp2_with fail
  refine (replace_at HI.out (c := 6) (R' := B8) (by decide) rfl).mono ?_
  rintro e w22 ⟨rfl, F22, hi, hs⟩
  have HIx : Hid (Is F22 w22 a B8) := hi
  clear HI
  have HI := HIx
  clear HIx hi
  have HBx : Hid (Base w F22 w22) := HB.out.step hs
  clear HB
  have HB := HBx
  clear HBx
  clear hs
  go_wp2_with fail
  refine (full_at (F := F22) (w := w22) HI.out.lt (x := 0) (by decide) rfl).mono ?_
  rintro e w23 ⟨p23, rfl, hv, hg⟩
  have HIx : Hid (Is F22 w23 a B8) := HI.out.keep hg
  clear HI
  have HI := HIx
  clear HIx
  have HBx : Hid (Base w F22 w23) := HB.out.keep hg
  clear HB
  have HB := HBx
  clear HBx
  have HVq : Hid (Aw F22 w23 (.slice p23 64 64) (fl 0)) := hv
  clear hv hg
  clear HVq
  go_wp2_with fail
  refine (write_nil _ _ _ _).mono ?_
  rintro e w9 ⟨rfl, hw⟩
  obtain rfl := hw.symm
  clear hw
  go_wp2_with fail
  refine (barrier_nil _).mono ?_
  rintro e w9 ⟨rfl, hw⟩
  obtain rfl := hw.symm
  clear hw
  go_wp2_with fail
  refine (lose_nil _ _).mono ?_
  rintro e w24 ⟨rfl, hg⟩
  have HIx : Hid (Is F22 w24 a B8) := HI.out.keep hg
  clear HI
  have HI := HIx
  clear HIx
  have HBx : Hid (Base w F22 w24) := HB.out.keep hg
  clear HB
  have HB := HBx
  clear HBx
  clear hg
  go_wp2_with fail
  refine (replace_nil _ _).mono ?_
  rintro e w9 ⟨rfl, hw⟩
  obtain rfl := hw.symm
  clear hw
  go_wp2_with fail
  refine (disks_nil _).mono ?_
  rintro e w9 ⟨rfl, hw⟩
  obtain rfl := hw.symm
  clear hw
  go_wp2_with fail
  refine (sectors_nil _).mono ?_
  rintro e w9 ⟨rfl, hw⟩
  obtain rfl := hw.symm
  clear hw
  go_wp2_with fail
  refine (ons_nil _).mono ?_
  rintro e w9 ⟨rfl, hw⟩
  obtain rfl := hw.symm
  clear hw
  go_wp2_with fail
  refine (on_nil _).mono ?_
  rintro e w9 ⟨rfl, hw⟩
  obtain rfl := hw.symm
  clear hw
  go_wp2_with fail
  refine (flight_nil _).mono ?_
  rintro e w9 ⟨rfl, hw⟩
  obtain rfl := hw.symm
  clear hw
  go_wp2_with fail
  refine (off_nil _).mono ?_
  rintro e w9 ⟨rfl, hw⟩
  obtain rfl := hw.symm
  clear hw
  go_wp2_with fail
  refine (copy_nil _).mono ?_
  rintro e w9 ⟨rfl, hw⟩
  obtain rfl := hw.symm
  clear hw
  go_wp2
  go_ret
  exact ⟨rfl, HB.out.grown⟩
end arrayKnown
end Go.Proofs.Ytfmlohedebdomaa
