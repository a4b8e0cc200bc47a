/- The contract of awake. -/
import Derived.Test.YtfmlohedebdomaaBase6
set_option linter.unusedSimpArgs false
set_option linter.unusedVariables false
namespace Go.Proofs.Ytfmlohedebdomaa
open Go.RowKit

theorem equal_at {w : World} {a b : Value} {xs ys : List Nat} (ha : Vec w a xs) (hb : Vec w b ys) (h : xs = ys) : Calls Try.prog 17 #[a, b] w fun e w' => e = .returned (.bool true) ∧ w' = w := by
  have := equal_any ha hb
  rwa [decide_eq_true h] at this
section
variable {F : Nat → Prop} {w : World} {a : Nat} {R : AM.Raw}
theorem flight_at (h : Is F w a R) {c : Int} (hc : (R.L.length : Int) = c) : Calls Try.prog 35 #[ptr a] w fun e w' => e = .returned (.int .i64 c) ∧ w' = w := by
  subst hc; exact flight_yes h
theorem ons_at (h : Is F w a R) {c : Int} (hc : (R.ons : Int) = c) : Calls Try.prog 33 #[ptr a] w fun e w' => e = .returned (.int .i64 c) ∧ w' = w := by
  subst hc; exact ons_yes h
end
def A1 : AM.Raw := ((AM.Raw.new 2 4).writes 0 1 (fl 1)).2
def A2 : AM.Raw := (A1.writes 1 1 (fl 2)).2
def A3 : AM.Raw := A2.crash [1, 0]
def A4 : AM.Raw := (A3.lose 0).2

set_option maxRecDepth 100000 in
set_option maxHeartbeats 1600000 in
theorem awake_yes (w : World) : Calls Try.prog 9 #[] w fun e w' => e = .returned (.bool true) ∧ w.grownBy w' none := by
  go_enter Try.func9, Try.ntmps9
  go_wp2_with fail
  refine (new_at (w := w) (N := 2) (n := 4) (by decide) (by decide) (by decide) (by decide) rfl rfl).mono ?_
  rintro e w1 ⟨a, rfl, F1, hi, hb⟩
  have HI : Hid (Is F1 w1 a (AM.Raw.new 2 4)) := hi
  have HB : Hid (Base w F1 w1) := hb
  clear hi hb
  go_wp2_with fail
  refine (full_at (F := F1) (w := w1) HI.out.lt (x := 1) (by decide) rfl).mono ?_
  rintro e w2 ⟨p2, rfl, hv, hg⟩
  have HIx : Hid (Is F1 w2 a (AM.Raw.new 2 4)) := HI.out.keep hg
  clear HI
  have HI := HIx
  clear HIx
  have HBx : Hid (Base w F1 w2) := HB.out.keep hg
  clear HB
  have HB := HBx
  clear HBx
  have HVx : Hid (Aw F1 w2 (.slice p2 64 64) (fl 1)) := hv
  clear hv hg
  go_wp2_with fail
  refine (write_at HI.out HVx.out (by decide) (c := 0) (R' := A1) (by decide) rfl).mono ?_
  rintro e w3 ⟨rfl, F3, hi, hs⟩
  have HIx : Hid (Is F3 w3 a A1) := hi
  clear HI
  have HI := HIx
  clear HIx hi
  have HVxx : Hid (Aw F3 w3 (.slice p2 64 64) (fl 1)) := HVx.out.step hs
  clear HVx
  have HVx := HVxx
  clear HVxx
  have HBx : Hid (Base w F3 w3) := HB.out.step hs
  clear HB
  have HB := HBx
  clear HBx
  clear hs
  clear HVx
  go_wp2_with fail
  refine (full_at (F := F3) (w := w3) HI.out.lt (x := 2) (by decide) rfl).mono ?_
  rintro e w4 ⟨p4, rfl, hv, hg⟩
  have HIx : Hid (Is F3 w4 a A1) := HI.out.keep hg
  clear HI
  have HI := HIx
  clear HIx
  have HBx : Hid (Base w F3 w4) := HB.out.keep hg
  clear HB
  have HB := HBx
  clear HBx
  have HVy : Hid (Aw F3 w4 (.slice p4 64 64) (fl 2)) := hv
  clear hv hg
  go_wp2_with fail
  refine (write_at HI.out HVy.out (by decide) (c := 0) (R' := A2) (by decide) rfl).mono ?_
  rintro e w5 ⟨rfl, F5, hi, hs⟩
  have HIx : Hid (Is F5 w5 a A2) := hi
  clear HI
  have HI := HIx
  clear HIx hi
  have HVyx : Hid (Aw F5 w5 (.slice p4 64 64) (fl 2)) := HVy.out.step hs
  clear HVy
  have HVy := HVyx
  clear HVyx
  have HBx : Hid (Base w F5 w5) := HB.out.step hs
  clear HB
  have HB := HBx
  clear HBx
  clear hs
  clear HVy
  go_wp2_with fail
  refine (flight_at HI.out (c := 2) (by decide)).mono ?_
  rintro e w9 ⟨rfl, hw⟩
  obtain rfl := hw.symm
  clear hw
  go_wp2_with fail
  have hg : w5.grownBy (w5.alloc (.cells #[.int .u8 1, .int .u8 0] 5)) none := World.grownBy_alloc _ _ none
  have hv : Aw F5 (w5.alloc (.cells #[.int .u8 1, .int .u8 0] 5)) (.slice (some ⟨w5.heap.size, 0, none⟩) 2 2) [1, 0] := (own_lit (B := w5.heap.size) (xs := [1, 0]) (heap_alloc_new _ _) (Nat.le_refl _) rfl (by decide) (by decide)).aw HI.out.lt
  have HIx : Hid (Is F5 (w5.alloc (.cells #[.int .u8 1, .int .u8 0] 5)) a A2) := HI.out.keep hg
  clear HI
  have HI := HIx
  clear HIx
  have HBx : Hid (Base w F5 (w5.alloc (.cells #[.int .u8 1, .int .u8 0] 5))) := HB.out.keep hg
  clear HB
  have HB := HBx
  clear HBx
  have HVp : Hid (Aw F5 (w5.alloc (.cells #[.int .u8 1, .int .u8 0] 5)) (.slice (some ⟨w5.heap.size, 0, none⟩) 2 2) [1, 0]) := hv
  clear hv hg
  go_wp2_with fail
  refine (crash_at HI.out (by decide) HVp.out (R' := A3) rfl).mono ?_
  rintro e w6 ⟨rfl, F6, hi, hs⟩
  have HIx : Hid (Is F6 w6 a A3) := hi
  clear HI
  have HI := HIx
  clear HIx hi
  have HVpx : Hid (Aw F6 w6 (.slice (some ⟨w5.heap.size, 0, none⟩) 2 2) [1, 0]) := HVp.out.step hs
  clear HVp
  have HVp := HVpx
  clear HVpx
  have HBx : Hid (Base w F6 w6) := HB.out.step hs
  clear HB
  have HB := HBx
  clear HBx
  clear hs
  clear HVp
  go_wp2_with fail
  refine (read_at HI.out (c := 0) (xs := (fl 1)) (by decide) (by decide)).mono ?_
  rintro e w7 ⟨p7, n7, m7, rfl, hv, hg⟩
  have HIx : Hid (Is F6 w7 a A3) := HI.out.keep hg
  clear HI
  have HI := HIx
  clear HIx
  have HBx : Hid (Base w F6 w7) := HB.out.keep hg
  clear HB
  have HB := HBx
  clear HBx
  have HVr : Hid (Aw F6 w7 (.slice p7 n7 m7) (fl 1)) := hv
  clear hv hg
  go_wp2_with fail
  refine (read_at HI.out (c := 0) (xs := (fl 0)) (by decide) (by decide)).mono ?_
  rintro e w8 ⟨p8, n8, m8, rfl, hv, hg⟩
  have HIx : Hid (Is F6 w8 a A3) := HI.out.keep hg
  clear HI
  have HI := HIx
  clear HIx
  have HVrx : Hid (Aw F6 w8 (.slice p7 n7 m7) (fl 1)) := HVr.out.keep hg
  clear HVr
  have HVr := HVrx
  clear HVrx
  have HBx : Hid (Base w F6 w8) := HB.out.keep hg
  clear HB
  have HB := HBx
  clear HBx
  have HVs : Hid (Aw F6 w8 (.slice p8 n8 m8) (fl 0)) := hv
  clear hv hg
  go_wp2_with fail
  refine (full_at (F := F6) (w := w8) HI.out.lt (x := 1) (by decide) rfl).mono ?_
  rintro e w9 ⟨p9, rfl, hv, hg⟩
  have HIx : Hid (Is F6 w9 a A3) := HI.out.keep hg
  clear HI
  have HI := HIx
  clear HIx
  have HVrx : Hid (Aw F6 w9 (.slice p7 n7 m7) (fl 1)) := HVr.out.keep hg
  clear HVr
  have HVr := HVrx
  clear HVrx
  have HVsx : Hid (Aw F6 w9 (.slice p8 n8 m8) (fl 0)) := HVs.out.keep hg
  clear HVs
  have HVs := HVsx
  clear HVsx
  have HBx : Hid (Base w F6 w9) := HB.out.keep hg
  clear HB
  have HB := HBx
  clear HBx
  have HVf : Hid (Aw F6 w9 (.slice p9 64 64) (fl 1)) := hv
  clear hv hg
  go_wp2_with fail
  refine (equal_at HVr.out.vec HVf.out.vec (by decide)).mono ?_
  rintro e w9 ⟨rfl, hw⟩
  obtain rfl := hw.symm
  clear hw
  clear HVr
  clear HVf
  go_wp2_with fail
  refine (full_at (F := F6) (w := w9) HI.out.lt (x := 0) (by decide) rfl).mono ?_
  rintro e w10 ⟨p10, rfl, hv, hg⟩
  have HIx : Hid (Is F6 w10 a A3) := HI.out.keep hg
  clear HI
  have HI := HIx
  clear HIx
  have HVsx : Hid (Aw F6 w10 (.slice p8 n8 m8) (fl 0)) := HVs.out.keep hg
  clear HVs
  have HVs := HVsx
  clear HVsx
  have HBx : Hid (Base w F6 w10) := HB.out.keep hg
  clear HB
  have HB := HBx
  clear HBx
  have HVg : Hid (Aw F6 w10 (.slice p10 64 64) (fl 0)) := hv
  clear hv hg
  go_wp2_with fail
  refine (equal_at HVs.out.vec HVg.out.vec (by decide)).mono ?_
  rintro e w9 ⟨rfl, hw⟩
  obtain rfl := hw.symm
  clear hw
  clear HVs
  clear HVg
  go_wp2_with fail
  refine (lose_at HI.out (by decide) (c := 0) (R' := A4) (by decide) rfl).mono ?_
  rintro e w11 ⟨rfl, F11, hi, hs⟩
  have HIx : Hid (Is F11 w11 a A4) := hi
  clear HI
  have HI := HIx
  clear HIx hi
  have HBx : Hid (Base w F11 w11) := HB.out.step hs
  clear HB
  have HB := HBx
  clear HBx
  clear hs
  go_wp2_with fail
  refine (ons_at HI.out (c := 1) (by decide)).mono ?_
  rintro e w9 ⟨rfl, hw⟩
  obtain rfl := hw.symm
  clear hw
  go_wp2_with fail
  refine (full_at (F := F11) (w := w11) HI.out.lt (x := 1) (by decide) rfl).mono ?_
  rintro e w12 ⟨p12, rfl, hv, hg⟩
  have HIx : Hid (Is F11 w12 a A4) := HI.out.keep hg
  clear HI
  have HI := HIx
  clear HIx
  have HBx : Hid (Base w F11 w12) := HB.out.keep hg
  clear HB
  have HB := HBx
  clear HBx
  have HVh : Hid (Aw F11 w12 (.slice p12 64 64) (fl 1)) := hv
  clear hv hg
  go_wp2_with fail
  refine (write_at HI.out HVh.out (by decide) (c := 9) (R' := A4) (by decide) rfl).mono ?_
  rintro e w13 ⟨rfl, F13, hi, hs⟩
  have HIx : Hid (Is F13 w13 a A4) := hi
  clear HI
  have HI := HIx
  clear HIx hi
  have HVhx : Hid (Aw F13 w13 (.slice p12 64 64) (fl 1)) := HVh.out.step hs
  clear HVh
  have HVh := HVhx
  clear HVhx
  have HBx : Hid (Base w F13 w13) := HB.out.step hs
  clear HB
  have HB := HBx
  clear HBx
  clear hs
  clear HVh
  go_wp2
  go_ret
  exact ⟨rfl, HB.out.grown⟩
end Go.Proofs.Ytfmlohedebdomaa
