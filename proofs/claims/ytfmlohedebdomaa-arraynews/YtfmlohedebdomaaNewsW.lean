/- The walk of ArrayNews. -/
import Derived.Test.YtfmlohedebdomaaAwake6
set_option linter.unusedSimpArgs false
set_option linter.unusedVariables false
namespace Go.Proofs.Ytfmlohedebdomaa
open Go.RowKit
section
variable {F : Nat → Prop} {w : World} {a : Nat} {R : AM.Raw}
theorem disks_at (h : Is F w a R) {c : Int} (hc : (R.C.length : Int) = c) : Calls Try.prog 31 #[ptr a] w fun e w' => e = .returned (.int .i64 c) ∧ w' = w := by
  subst hc; exact disks_yes h
theorem sectors_at (h : Is F w a R) {c : Int} (hc : (R.n : Int) = c) : Calls Try.prog 32 #[ptr a] w fun e w' => e = .returned (.int .i64 c) ∧ w' = w := by
  subst hc; exact sectors_yes h
end
theorem new_at_d {N n d : Nat} (h : d < N) : (AM.Raw.new N n).C[d]? = some (some (AM.zs (n * 64))) := by simp [AM.Raw.new, h]
theorem new_on {N n : Nat} {d : Int} (h0 : 0 ≤ d) (h : d < (N : Int)) : (AM.Raw.new N n).on d = true := by
  have h1 : d.toNat < N := by omega
  simp only [AM.Raw.on, List.getD, new_at_d h1]
  simp [AM.Raw.new, h0, h]
theorem new_reach {N n : Nat} {d k : Int} (h0 : 0 ≤ d) (h : d < (N : Int)) (h1 : 0 ≤ k) (h2 : k < (n : Int)) : (AM.Raw.new N n).reach d k = 0 := by
  have e : (AM.Raw.new N n).C.length = N := by simp [AM.Raw.new]
  unfold AM.Raw.reach
  rw [new_on h0 h, e]
  simp [AM.Raw.new, h0, h, h1, h2]
theorem new_read {N n : Nat} {d k : Int} (h0 : 0 ≤ d) (h : d < (N : Int)) (h1 : 0 ≤ k) (h2 : k < (n : Int)) : (AM.Raw.new N n).read d k = fl 0 := by
  unfold AM.Raw.read
  rw [if_pos (new_reach h0 h h1 h2), AM.look_at _ (new_at_d (by omega)), AM.sec_zs (by omega)]
  rfl
theorem new_reach_no {N n : Nat} {d k : Int} (h : ¬ (0 ≤ d ∧ d < (N : Int) ∧ 0 ≤ k ∧ k < (n : Int))) : (AM.Raw.new N n).reach d k = 6 := by
  have e : (AM.Raw.new N n).C.length = N := by simp [AM.Raw.new]
  unfold AM.Raw.reach
  rw [e]
  show (if false = true then 8 else if 0 ≤ d ∧ d < (N : Int) ∧ 0 ≤ k ∧ k < (n : Int) then _ else 6) = 6
  rw [if_neg (by decide), if_neg h]
theorem new_ons (N n : Nat) : (AM.Raw.new N n).ons = N := by
  unfold AM.Raw.ons AM.Raw.new
  simp only
  rw [List.countP_eq_length.2 (fun x hx => by rw [(List.mem_replicate.1 hx).2]; rfl), List.length_replicate]

namespace arrayNews
set_option maxRecDepth 100000 in
set_option maxHeartbeats 3200000 in
theorem walk_made {w : World} {N n : Nat} (h1 : 1 ≤ N) (h2 : N ≤ 255) (h3 : 1 ≤ n) (h4 : n ≤ 4096) (hs : (N : Int) * (n : Int) ≤ 20000) : Calls Try.prog 4 #[.int .i64 (N : Int), .int .i64 (n : Int)] w fun e w' => e = .returned (.bool true) ∧ w.grownBy w' none := by
  have HR1 : Hid (((AM.Raw.new N n).reach ((N : Int) - 1) ((n : Int) - 1) : Int) = 0 ∧ (AM.Raw.new N n).read ((N : Int) - 1) ((n : Int) - 1) = fl 0) := ⟨by rw [new_reach (by omega) (by omega) (by omega) (by omega)]; rfl, new_read (by omega) (by omega) (by omega) (by omega)⟩
  have hr2 : (AM.Raw.new N n).reach (N : Int) 0 = 6 := new_reach_no (by omega)
  have hr3 : (AM.Raw.new N n).reach 0 (n : Int) = 6 := new_reach_no (by omega)
  have HR2 : Hid (((AM.Raw.new N n).reach (N : Int) 0 : Int) = 6 ∧ (AM.Raw.new N n).read (N : Int) 0 = []) := ⟨by rw [hr2]; rfl, by unfold AM.Raw.read; rw [if_neg (by rw [hr2]; decide)]⟩
  have HR3 : Hid (((AM.Raw.new N n).reach 0 (n : Int) : Int) = 6 ∧ (AM.Raw.new N n).read 0 (n : Int) = []) := ⟨by rw [hr3]; rfl, by unfold AM.Raw.read; rw [if_neg (by rw [hr3]; decide)]⟩
  have HD : Hid (((AM.Raw.new N n).C.length : Int) = (N : Int)) := by show _ = _; simp [AM.Raw.new]
  have HO : Hid (((AM.Raw.new N n).ons : Int) = (N : Int)) := by show _ = _; rw [new_ons]
  have g1 : (1 : Int) ≤ (N : Int) := by omega
  have g2 : (N : Int) ≤ 255 := by omega
  have g3 : (1 : Int) ≤ (n : Int) := by omega
  have g4 : (n : Int) ≤ 4096 := by omega
  have g5 : (0 : Int) ≤ (N : Int) * (n : Int) := Int.mul_nonneg (by omega) (by omega)
  have g6 : IntKind.i64.wrap ((N : Int) * (n : Int)) = (N : Int) * (n : Int) := IntWalk.i64_in _ (by omega)
  clear hr2 hr3
  go_enter Try.func4, Try.ntmps4
  go_wp2_with fail
  refine (awake_yes w).mono ?_
  rintro e w1 ⟨rfl, hg⟩
  have HG : Hid (w.grownBy w1 none) := hg
  clear hg
  go_wp2_with fail
  refine (new_yes (w := w1) h1 h2 h3 h4).mono ?_
  rintro e w2 ⟨a, rfl, ⟨F2, hi, hf⟩, hg⟩
  have HI : Hid (Is F2 w2 a (AM.Raw.new N n)) := hi
  have HB : Hid (Base w F2 w2) := ⟨grown_trans HG.out hg, fun i h => Nat.le_trans HG.out.size (hf i h)⟩
  clear hi hg hf
  go_wp2_with fail
  refine (read_at HI.out (c := 0) (xs := (fl 0)) HR1.out.1 HR1.out.2).mono ?_
  rintro e w3 ⟨p3, n3, m3, rfl, hv, hg⟩
  have HIx : Hid (Is F2 w3 a (AM.Raw.new N n)) := HI.out.keep hg
  clear HI
  have HI := HIx
  clear HIx
  have HBx : Hid (Base w F2 w3) := HB.out.keep hg
  clear HB
  have HB := HBx
  clear HBx
  have HVx : Hid (Aw F2 w3 (.slice p3 n3 m3) (fl 0)) := hv
  clear hv hg
  go_wp2_with fail
  refine (read_at HI.out (c := 6) (xs := []) HR2.out.1 HR2.out.2).mono ?_
  rintro e w4 ⟨p4, n4, m4, rfl, hv, hg⟩
  have HIx : Hid (Is F2 w4 a (AM.Raw.new N n)) := HI.out.keep hg
  clear HI
  have HI := HIx
  clear HIx
  have HVxx : Hid (Aw F2 w4 (.slice p3 n3 m3) (fl 0)) := HVx.out.keep hg
  clear HVx
  have HVx := HVxx
  clear HVxx
  have HBx : Hid (Base w F2 w4) := HB.out.keep hg
  clear HB
  have HB := HBx
  clear HBx
  clear hv hg
  go_wp2_with fail
  refine (read_at HI.out (c := 6) (xs := []) HR3.out.1 HR3.out.2).mono ?_
  rintro e w5 ⟨p5, n5, m5, rfl, hv, hg⟩
  have HIx : Hid (Is F2 w5 a (AM.Raw.new N n)) := HI.out.keep hg
  clear HI
  have HI := HIx
  clear HIx
  have HVxx : Hid (Aw F2 w5 (.slice p3 n3 m3) (fl 0)) := HVx.out.keep hg
  clear HVx
  have HVx := HVxx
  clear HVxx
  have HBx : Hid (Base w F2 w5) := HB.out.keep hg
  clear HB
  have HB := HBx
  clear HBx
  clear hv hg
  go_wp2_with fail
  refine (disks_at HI.out (c := (N : Int)) HD.out).mono ?_
  rintro e w9 ⟨rfl, hw⟩
  obtain rfl := hw.symm
  clear hw
  go_wp2_with fail
  refine (sectors_at HI.out (c := (n : Int)) rfl).mono ?_
  rintro e w9 ⟨rfl, hw⟩
  obtain rfl := hw.symm
  clear hw
  go_wp2_with fail
  refine (ons_at HI.out (c := (N : Int)) HO.out).mono ?_
  rintro e w9 ⟨rfl, hw⟩
  obtain rfl := hw.symm
  clear hw
  go_wp2_with fail
  refine (full_at (F := F2) (w := w5) HI.out.lt (x := 0) (by decide) rfl).mono ?_
  rintro e w6 ⟨p6, rfl, hv, hg⟩
  have HIx : Hid (Is F2 w6 a (AM.Raw.new N n)) := HI.out.keep hg
  clear HI
  have HI := HIx
  clear HIx
  have HVxx : Hid (Aw F2 w6 (.slice p3 n3 m3) (fl 0)) := HVx.out.keep hg
  clear HVx
  have HVx := HVxx
  clear HVxx
  have HBx : Hid (Base w F2 w6) := HB.out.keep hg
  clear HB
  have HB := HBx
  clear HBx
  have HVf : Hid (Aw F2 w6 (.slice p6 64 64) (fl 0)) := hv
  clear hv hg
  go_wp2_with fail
  refine (equal_at HVx.out.vec HVf.out.vec rfl).mono ?_
  rintro e w9 ⟨rfl, hw⟩
  obtain rfl := hw.symm
  clear hw
  clear HVx
  clear HVf
  go_wp2
  go_ret
  exact ⟨rfl, HB.out.grown⟩

set_option maxRecDepth 100000 in
theorem walk_great {w : World} {N n : Int} (h1 : 1 ≤ N) (h2 : N ≤ 255) (h3 : 1 ≤ n) (h4 : n ≤ 4096) (hs : 20000 < N * n) : Calls Try.prog 4 #[.int .i64 N, .int .i64 n] w fun e w' => e = .returned (.bool true) ∧ w.grownBy w' none := by
  have g5 : N * n ≤ 1044480 := by
    have a1 : N * n ≤ 255 * n := Int.mul_le_mul_of_nonneg_right h2 (by omega)
    omega
  have g6 : IntKind.i64.wrap (N * n) = N * n := IntWalk.i64_in _ (by omega)
  go_enter Try.func4, Try.ntmps4
  go_wp2_with (go_at_call 9; refine (awake_yes w).mono ?_; rintro e w1 ⟨rfl, hg⟩; have HG : Hid (w.grownBy w1 none) := hg; clear hg)
  go_ret
  exact ⟨rfl, HG.out⟩
theorem no_of {w : World} {N n : Int} (h : ¬ (1 ≤ N ∧ N ≤ 255 ∧ 1 ≤ n ∧ n ≤ 4096)) : ∀ w1 : World, Calls Try.prog 10 #[.int .i64 N, .int .i64 n] w1 fun e w' => e = .returned (.tuple #[.pointer none, .int .i64 1]) ∧ w' = w1 := fun w1 => new_no w1 h
set_option maxRecDepth 100000 in
theorem walk_no {w : World} {N n : Int} (h : ¬ (1 ≤ N ∧ N ≤ 255 ∧ 1 ≤ n ∧ n ≤ 4096)) : Calls Try.prog 4 #[.int .i64 N, .int .i64 n] w fun e w' => e = .returned (.bool true) ∧ w.grownBy w' none := by
  have HN : Hid (∀ w1 : World, Calls Try.prog 10 #[.int .i64 N, .int .i64 n] w1 fun e w' => e = .returned (.tuple #[.pointer none, .int .i64 1]) ∧ w' = w1) := fun w1 => new_no w1 h
  by_cases c1 : N < 1
  · clear h
    go_enter Try.func4, Try.ntmps4
    go_wp2_with (first | (go_at_call 9; refine (awake_yes w).mono ?_; rintro e w1 ⟨rfl, hg⟩; have HG : Hid (w.grownBy w1 none) := hg; clear hg) | (go_at_call 10; refine (HN.out _).mono ?_; rintro e w2 ⟨rfl, hw⟩; obtain rfl := hw.symm; clear hw))
    (go_ret)
    exact ⟨rfl, HG.out⟩
  · by_cases c2 : 255 < N
    · clear h
      go_enter Try.func4, Try.ntmps4
      go_wp2_with (first | (go_at_call 9; refine (awake_yes w).mono ?_; rintro e w1 ⟨rfl, hg⟩; have HG : Hid (w.grownBy w1 none) := hg; clear hg) | (go_at_call 10; refine (HN.out _).mono ?_; rintro e w2 ⟨rfl, hw⟩; obtain rfl := hw.symm; clear hw))
      (go_ret)
      exact ⟨rfl, HG.out⟩
    · by_cases c3 : n < 1
      · clear h
        go_enter Try.func4, Try.ntmps4
        go_wp2_with (first | (go_at_call 9; refine (awake_yes w).mono ?_; rintro e w1 ⟨rfl, hg⟩; have HG : Hid (w.grownBy w1 none) := hg; clear hg) | (go_at_call 10; refine (HN.out _).mono ?_; rintro e w2 ⟨rfl, hw⟩; obtain rfl := hw.symm; clear hw))
        (go_ret)
        exact ⟨rfl, HG.out⟩
      · have c4 : 4096 < n := by omega
        clear h
        go_enter Try.func4, Try.ntmps4
        go_wp2_with (first | (go_at_call 9; refine (awake_yes w).mono ?_; rintro e w1 ⟨rfl, hg⟩; have HG : Hid (w.grownBy w1 none) := hg; clear hg) | (go_at_call 10; refine (HN.out _).mono ?_; rintro e w2 ⟨rfl, hw⟩; obtain rfl := hw.symm; clear hw))
        (go_ret)
        exact ⟨rfl, HG.out⟩
theorem walk {w : World} {N n : Int} (_ : (Lit.int .i64 N).wf = true) (_ : (Lit.int .i64 n).wf = true) : Calls Try.prog 4 #[.int .i64 N, .int .i64 n] w fun e w' => e = .returned (.bool true) ∧ w.grownBy w' none := by
  by_cases h : 1 ≤ N ∧ N ≤ 255 ∧ 1 ≤ n ∧ n ≤ 4096
  · obtain ⟨h1, h2, h3, h4⟩ := h
    by_cases hs : 20000 < N * n
    · exact walk_great h1 h2 h3 h4 hs
    · obtain ⟨N', rfl⟩ : ∃ m : Nat, N = (m : Int) := ⟨N.toNat, by omega⟩
      obtain ⟨n', rfl⟩ : ∃ m : Nat, n = (m : Int) := ⟨n.toNat, by omega⟩
      exact walk_made (by omega) (by omega) (by omega) (by omega) (by omega)
  · exact walk_no h
end arrayNews
end Go.Proofs.Ytfmlohedebdomaa

