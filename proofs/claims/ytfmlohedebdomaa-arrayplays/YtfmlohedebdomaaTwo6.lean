/- The program's array beside the document's (Two); Alike. -/
import Derived.Test.YtfmlohedebdomaaRCopy6
import Derived.Test.YtfmlohedebdomaaRCr6
import Derived.Test.YtfmlohedebdomaaAwake6
import Derived.Deep.RegionHeld3
set_option linter.unusedSimpArgs false
set_option linter.unusedVariables false
namespace Go.Proofs.Ytfmlohedebdomaa
open Go.RowKit

/-- The program's array and the document's, apart from each other, both new since w0. -/
structure Two (F G : Nat → Prop) (w0 w : World) (a r : Nat) (R : AM.Raw) (A : AM.RA) : Prop where
  i : Is F w a R
  j : RIs G w r A
  ap : ∀ k, F k → G k → False
  bi : Base w0 F w
  bj : Base w0 G w

section
variable {F G F' G' : Nat → Prop} {w0 w w' : World} {a r : Nat} {R R' : AM.Raw} {A A' : AM.RA}
theorem Two.stepA (h : Two F G w0 w a r R A) (hi : Is F' w' a R') (s : Step F w F' w') : Two F' G w0 w' a r R' A := by
  obtain ⟨h1, h2⟩ := h.j.other s h.ap
  exact ⟨hi, h1, h2, h.bi.step s, (h.bi.step s).grown, h.bj.lo⟩
theorem Is.aside (h : Is F w a R) (s : Step G w G' w') (hs : ∀ k, F k → G k → False) : Is F w' a R ∧ ∀ k, F k → G' k → False := by
  obtain ⟨h1, h2, h3⟩ := s.other h.lt (fun k hg hf => hs k hf hg)
  exact ⟨h.same h1 h2, fun k hf hg => h3 k hg hf⟩
theorem Two.stepB (h : Two F G w0 w a r R A) (hj : RIs G' w' r A') (s : Step G w G' w') : Two F G' w0 w' a r R A' := by
  obtain ⟨h1, h2⟩ := h.i.aside s h.ap
  exact ⟨h1, hj, h2, ⟨(h.bj.step s).grown, h.bi.lo⟩, h.bj.step s⟩
theorem Two.keep (h : Two F G w0 w a r R A) (g : w.grownBy w' none) : Two F G w0 w' a r R A := ⟨h.i.keep g, h.j.keep g, h.ap, h.bi.keep g, h.bj.keep g⟩
theorem AM.Sim.fit {R : AM.Raw} {A : AM.RA} (h : AM.Sim R A) : A.Fit := fun l hl => by
  rw [h.L] at hl
  obtain ⟨x, hx, rfl⟩ := List.mem_map.1 hl
  have hw := h.ok.L x hx
  obtain ⟨xs, hxs⟩ := hw.on
  refine ⟨?_, by rw [h.n]; exact hw.k⟩
  rw [h.isSome]
  show (R.C.getD x.d none).isSome = true
  simp [List.getD, hxs]
theorem AM.Sim.llen {R : AM.Raw} {A : AM.RA} (h : AM.Sim R A) : A.L.length = R.L.length := by rw [h.L, List.length_map]
theorem AM.Sim.reads {R : AM.Raw} {A : AM.RA} (h : AM.Sim R A) (d k : Int) : A.read d k = R.read d k := h.read d k

set_option maxRecDepth 100000 in
set_option maxHeartbeats 3200000 in
theorem alike_yes (hI : Is F w a R) (hJ : RIs G w r A) (hS : AM.Sim R A) {v : Value} {ps : List Nat} (hv : Vec w v ps) (hL : R.L.length ≤ 1000000) : Calls Try.prog 30 #[ptr a, rptr r, v] w fun e w' => e = .returned (.bool true) ∧ w.grownBy w' none := by
  have HI : Hid (Is F w a R) := hI
  have HJ : Hid (RIs G w r A) := hJ
  have HSM : Hid (AM.Sim R A) := hS
  have HV : Hid (Vec w v ps) := hv
  have HL : Hid (R.L.length ≤ 1000000) := hL
  have HA : Hid (A.L.length ≤ 1000000) := by show _ ≤ _; rw [hS.llen]; exact hL
  have hn4 : R.n ≤ 4096 := hS.ok.n2
  have hN2 : R.C.length ≤ 255 := hS.ok.d2
  obtain ⟨dp, dc, ds, lp, lc, fs, hrl⟩ := hJ
  obtain ⟨z0, z1, z2, _, z4⟩ := hrl.topCells
  rw [hS.len] at z0
  rw [hS.n] at z1
  rw [hS.llen] at z2
  rw [hS.dark] at z4
  have gd := grown_drewN w 1
  have q1 := disks_yes (hI.keep gd)
  have q2 := sectors_yes (hI.keep gd)
  have q3 := ons_yes (hI.keep gd)
  have q4 := rons_yes (HJ.out.keep gd)
  have q5 := off_yes (hI.keep gd)
  have q6 := flight_yes (hI.keep gd)
  rw [hS.ons] at q4
  clear hI hS hv hrl
  obtain ⟨N, hN⟩ : ∃ N, N = R.C.length := ⟨_, rfl⟩
  obtain ⟨n, hn⟩ : ∃ n, n = R.n := ⟨_, rfl⟩
  obtain ⟨M, hM⟩ : ∃ M, M = R.L.length := ⟨_, rfl⟩
  obtain ⟨O, hO⟩ : ∃ O, O = R.ons := ⟨_, rfl⟩
  obtain ⟨K, hK⟩ : ∃ K, K = R.off := ⟨_, rfl⟩
  have HN : Hid (N = R.C.length ∧ n = R.n) := ⟨hN, hn⟩
  rw [← hN] at z0 q1 hN2
  rw [← hn] at z1 q2 hn4
  rw [← hM] at z2 q6 hL
  rw [← hO] at q3 q4
  rw [← hK] at z4 q5
  clear hN hn hM hO hK
  have Q1 : Hid (Calls Try.prog 31 #[ptr a] (w.drewN 1) fun e w' => e = .returned (.int .i64 (N : Int)) ∧ w' = w.drewN 1) := q1
  have Q2 : Hid (Calls Try.prog 32 #[ptr a] (w.drewN 1) fun e w' => e = .returned (.int .i64 (n : Int)) ∧ w' = w.drewN 1) := q2
  have Q3 : Hid (Calls Try.prog 33 #[ptr a] (w.drewN 1) fun e w' => e = .returned (.int .i64 (O : Int)) ∧ w' = w.drewN 1) := q3
  have Q4 : Hid (Calls Try.prog 54 #[rptr r] (w.drewN 1) fun e w' => e = .returned (.int .i64 (O : Int)) ∧ w' = w.drewN 1) := q4
  have Q5 : Hid (Calls Try.prog 36 #[ptr a] (w.drewN 1) fun e w' => e = .returned (.bool K) ∧ w' = w.drewN 1) := q5
  have Q6 : Hid (Calls Try.prog 35 #[ptr a] (w.drewN 1) fun e w' => e = .returned (.int .i64 (M : Int)) ∧ w' = w.drewN 1) := q6
  have HS : Hid (w.cell? ⟨r, 0, none⟩ = some (.slice dp N dc) ∧ w.cell? ⟨r, 1, none⟩ = some (.int .i64 (n : Int)) ∧ w.cell? ⟨r, 2, none⟩ = some (.slice lp M lc) ∧ w.cell? ⟨r, 4, none⟩ = some (.bool K)) := ⟨z0, z1, z2, z4⟩
  clear q1 q2 q3 q4 q5 q6 z0 z1 z2 z4 gd hL
  go_enter Try.func30, Try.ntmps30
  go_wp2_with fail
  go_region_held3 (fun w' => w'.cell? ⟨r, 0, none⟩ = some (.slice dp N dc) ∧ w'.cell? ⟨r, 1, none⟩ = some (.int .i64 (n : Int)) ∧ w'.cell? ⟨r, 2, none⟩ = some (.slice lp M lc) ∧ w'.cell? ⟨r, 4, none⟩ = some (.bool K)) (exact HS.out)
    ((first
      | (go_at_call 31; refine Q1.out.mono ?_; rintro e w9 ⟨rfl, hw⟩; obtain rfl := hw.symm; clear hw)
      | (go_at_call 32; refine Q2.out.mono ?_; rintro e w9 ⟨rfl, hw⟩; obtain rfl := hw.symm; clear hw)
      | (go_at_call 33; refine Q3.out.mono ?_; rintro e w9 ⟨rfl, hw⟩; obtain rfl := hw.symm; clear hw)
      | (go_at_call 54; refine Q4.out.mono ?_; rintro e w9 ⟨rfl, hw⟩; obtain rfl := hw.symm; clear hw)
      | (go_at_call 36; refine Q5.out.mono ?_; rintro e w9 ⟨rfl, hw⟩; obtain rfl := hw.symm; clear hw)
      | (go_at_call 35; refine Q6.out.mono ?_; rintro e w9 ⟨rfl, hw⟩; obtain rfl := hw.symm; clear hw)))
  go_wp2_with fail
  refine (copy_yes (HI.out.keep (grown_drewN w 1)) HL.out).mono ?_
  rintro e w1 ⟨x, F1, rfl, h1, h2, h3⟩
  have B1 : Hid (Base w F1 w1) := ⟨grown_trans (grown_drewN w 1) h3, h2⟩
  have X1 : Hid (Is F1 w1 x R) := h1
  clear h1 h2 h3
  go_wp2_with fail
  refine (rcopy_yes (HJ.out.keep B1.out.grown) HA.out).mono ?_
  rintro e w2 ⟨y, rfl, G2, h1, h2⟩
  have T2 : Hid (Two F1 G2 w w2 x y R A) := ⟨X1.out.keep h2.grown, h1, fun k hf hg => by
    have e1 := X1.out.lt k hf
    have e2 := h2.lo k hg
    omega, B1.out.keep h2.grown, grown_trans B1.out.grown h2.grown, fun k hk => Nat.le_trans B1.out.grown.size (h2.lo k hk)⟩
  clear h1 h2 B1 X1
  go_wp2_with fail
  refine (crash_at T2.out.i HL.out (T2.out.bi.aw HV.out) rfl).mono ?_
  rintro e w3 ⟨rfl, F3, h1, h2⟩
  have T3 : Hid (Two F3 G2 w w3 x y (R.crash ps) A) := T2.out.stepA h1 h2
  clear h1 h2 T2
  go_wp2_with fail
  refine (rcrash_any T3.out.j HSM.out.fit HA.out (T3.out.bj.aw HV.out).vec (T3.out.bj.aw HV.out).off).mono ?_
  rintro e w4 ⟨rfl, G4, h1, h2⟩
  have T4 : Hid (∃ F G, Two F G w w4 x y (R.crash ps) (A.crash ps)) := ⟨F3, G4, T3.out.stepB h1 h2⟩
  have HSC : Hid (AM.Sim (R.crash ps) (A.crash ps)) := HSM.out.crash ps
  have c0 : w4.cell? ⟨r, 0, none⟩ = some (.slice dp N dc) := by
    obtain ⟨_, _, ht⟩ := T4.out
    exact ht.bi.grown.cell HS.out.1 (by simp)
  clear h1 h2 T3
  go_wp2_with fail
  go_loopw [73] (fun td wr => ∃ d : Nat, d ≤ N ∧ td = .int .i64 (d : Int) ∧ Hid (∃ F G, Two F G w wr x y (R.crash ps) (A.crash ps))) (fun td _ => N - (intOf td).toNat)
  case atStart => exact ⟨0, by omega, rfl, T4.out⟩
  case round =>
    clear T4 c0
    obtain ⟨d, hd, rfl, HX⟩ := hrel
    by_cases hlt : d < N
    · have i1 : (d : Int) < (N : Int) := by omega
      have GW : Hid (w.grownBy wr none) := by obtain ⟨_, _, ht⟩ := HX.out; exact ht.bi.grown
      have a1 := on_yes (HI.out.keep GW.out) (d : Int)
      have a2 := ron_yes (HJ.out.keep GW.out) (d : Int)
      rw [HSM.out.on] at a2
      obtain ⟨k, hk⟩ : ∃ k, k = R.on (d : Int) := ⟨_, rfl⟩
      rw [← hk] at a1 a2
      have A1 : Hid (Calls Try.prog 37 #[ptr a, .int .i64 (d : Int)] wr fun e w' => e = .returned (.bool k) ∧ w' = wr) := a1
      have A2 : Hid (Calls Try.prog 56 #[rptr r, .int .i64 (d : Int)] wr fun e w' => e = .returned (.bool k) ∧ w' = wr) := a2
      have c1 : wr.cell? ⟨r, 1, none⟩ = some (.int .i64 (n : Int)) := GW.out.cell HS.out.2.1 (by simp)
      clear a1 a2 hk GW
      go_wp2_with (first
        | (go_at_call 37; refine A1.out.mono ?_; rintro e w9 ⟨rfl, hw⟩; obtain rfl := hw.symm; clear hw)
        | (go_at_call 56; refine A2.out.mono ?_; rintro e w9 ⟨rfl, hw⟩; obtain rfl := hw.symm; clear hw)
        | fail)
      obtain ⟨wa, hwa⟩ : ∃ wa, wa = wr := ⟨wr, rfl⟩
      subst hwa
      go_loopw [87] (fun tk wr => ∃ k : Nat, k ≤ n ∧ tk = .int .i64 (k : Int) ∧ Hid (∃ F G, Two F G w wr x y (R.crash ps) (A.crash ps))) (fun tk _ => n - (intOf tk).toNat)
      case atStart => exact ⟨0, by omega, rfl, HX.out⟩
      case round =>
        clear HX A1 A2 c1
        obtain ⟨k, hk, rfl, HY⟩ := hrel
        by_cases hlt2 : k < n
        · have i2 : (k : Int) < (n : Int) := by omega
          obtain ⟨F5, G5, ht⟩ := HY.out
          have T5 : Hid (Two F5 G5 w wr x y (R.crash ps) (A.crash ps)) := ht
          obtain ⟨c, hc⟩ : ∃ c : Int, ((R.crash ps).reach (d : Int) (k : Int) : Int) = c := ⟨_, rfl⟩
          obtain ⟨xs, hxs⟩ : ∃ xs, (R.crash ps).read (d : Int) (k : Int) = xs := ⟨_, rfl⟩
          have HC : Hid (((R.crash ps).reach (d : Int) (k : Int) : Int) = c ∧ (R.crash ps).read (d : Int) (k : Int) = xs) := ⟨hc, hxs⟩
          clear ht HY hc hxs
          go_wp2_with fail
          refine (read_at T5.out.i HC.out.1 HC.out.2).mono ?_
          rintro e w6 ⟨p6, n6, m6, rfl, hv6, g6⟩
          have V6 : Hid (Vec w6 (.slice p6 n6 m6) xs) := hv6.vec
          have T6 : Hid (Two F5 G5 w w6 x y (R.crash ps) (A.crash ps)) := T5.out.keep g6
          have R6 : Hid (Calls Try.prog 16 #[rptr y, .int .i64 (d : Int), .int .i64 (k : Int)] w6 fun e w' => ∃ p n c', e = .returned (.tuple #[.slice p n c', .int .i64 c]) ∧ Own w6.heap.size w' (.slice p n c') xs ∧ w6.grownBy w' none) := by
            have := rread_any T6.out.j (by simp [AM.RA.crash]) (d : Int) (k : Int)
            rw [HSC.out.why, HSC.out.reads, HC.out.1, HC.out.2] at this
            exact this
          clear hv6 g6 T5
          go_wp2_with fail
          refine R6.out.mono ?_
          rintro e w7 ⟨p7, n7, m7, rfl, ho7, g7⟩
          have V7 : Hid (Vec w7 (.slice p6 n6 m6) xs ∧ Vec w7 (.slice p7 n7 m7) xs) := ⟨V6.out.keep g7, ho7.vec⟩
          have T7 : Hid (∃ F G, Two F G w w7 x y (R.crash ps) (A.crash ps)) := ⟨F5, G5, T6.out.keep g7⟩
          clear ho7 g7 V6 T6 R6
          go_wp2_with (first
            | (go_at_call 17; refine (equal_at V7.out.1 V7.out.2 rfl).mono ?_; rintro e w9 ⟨rfl, hw⟩; obtain rfl := hw.symm; clear hw)
            | fail)
          go_roundw
          case rel => exact ⟨k + 1, by omega, by go_num, T7⟩
          case measure => simp [intOf]; omega
        · have i2 : ¬ (k : Int) < (n : Int) := by omega
          go_wp2
          go_roundw
          case rel => exact ⟨d + 1, by omega, by go_num, HY⟩
          case measure => simp [intOf]; omega
    · have i1 : ¬ (d : Int) < (N : Int) := by omega
      have GW : Hid (w.grownBy wr none) := by obtain ⟨_, _, ht⟩ := HX.out; exact ht.bi.grown
      go_wp2
      go_ret
      exact ⟨rfl, GW.out⟩
end
end Go.Proofs.Ytfmlohedebdomaa
