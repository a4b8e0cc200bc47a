/- The walk of ChunkBack. -/
import Derived.Test.YthmdidiojjmebaaSpo7
namespace Go.Proofs.Ythmdidiojjmebaa.chunkBack
open Go.ChangeShapes Go.WideShapes Go.ChangeAt Go.RowKit

/-- What Take tells of sectors that are none, and of such as are a chunk. -/
theorem take_none {w : World} {r : Value} {us : List Value} {X : List (List Nat)} (mr : Mat w r us X) (h : CM.yes X = false) :
    Calls Try.prog 12 #[r] w fun e w' => ∃ p c, e = .returned (.tuple #[.int .u64 0, .slice p 0 c, .bool false]) ∧ w.grownBy w' none := by
  have h1 := cTake_any mr
  rw [h, tN_no h, tL_no h] at h1
  refine h1.mono ?_
  rintro e w' ⟨u, he, ho, hg⟩
  obtain ⟨p, n, c, rfl, hn⟩ := ho.vec.opened
  subst hn
  exact ⟨p, c, he, hg⟩
theorem put_back {w : World} {v : Value} {X : List (List Nat)} (hs : ∀ j, j < X.length → ∀ x ∈ X.getD j [], x < 256) (h : CM.yes X = true) (hv : Vec w v (CM.tL X)) :
    Calls Try.prog 8 #[.int .u64 ((CM.tN X : Nat) : Int), v] w fun e w' => ∃ u us, e = .returned (.tuple #[u, .int .i64 0]) ∧ Mat w' u us X ∧ w.grownBy w' none := by
  have h1 := cPut_any (n := CM.tN X) hv
  obtain ⟨h2, h3⟩ := CM.take_put hs h
  rw [h3, (CM.putE_fit _ _).2 h2] at h1
  refine h1.mono ?_
  rintro e w' ⟨u, us, he, hm, hg⟩
  exact ⟨u, us, he, hm.mat, hg⟩
theorem put_none {w : World} {n : Nat} {v : Value} {xs : List Nat} (hv : Vec w v xs) (h : CM.fit n xs = false) :
    Calls Try.prog 8 #[.int .u64 (n : Int), v] w fun e w' => ∃ p c, e = .returned (.tuple #[.slice p 0 c, .int .i64 (CM.putE n xs)]) ∧ w.grownBy w' none := by
  have h1 := cPut_any (n := n) hv
  refine h1.mono ?_
  rintro e w' ⟨u, us, he, hm, hg⟩
  have hS : CM.putS n xs = [] := by unfold CM.putS; rw [h]; rfl
  rw [hS] at hm
  obtain ⟨p, m, c, rfl, hn⟩ := hm.mat.row.opened
  obtain rfl : m = 0 := by have := mat_n hm.mat; simp at this; omega
  exact ⟨p, c, he, hg⟩
theorem whole_none {w : World} {r : Value} {us : List Value} {X : List (List Nat)} (mr : Mat w r us X) (h : CM.yes X = false) :
    Calls Try.prog 14 #[r, .int .u64 0] w fun e w' => e = .returned (.bool false) ∧ w.grownBy w' none := by
  have h1 := whole_any 0 mr
  rw [h, Bool.false_and] at h1
  exact h1

set_option maxHeartbeats 8000000 in
theorem walk_nat {w : World} {n : Nat} {v lv : Value} {xs : List Nat} {vs : List Value} {Z : List (List Nat)} (hn : n < 18446744073709551616) (hv : Vec w v xs) (mz : Mat w lv vs Z) :
    Calls Try.prog 5 #[.int .u64 (n : Int), v, lv] w fun e w' => e = .returned (.bool true) ∧ w.grownBy w' none := by
  obtain ⟨q, N, cap, rfl, hN⟩ := hv.opened
  have hNl : N ≤ 140737488351232 := by rw [hN]; exact hv.len
  have HZ : Hid (∀ j, j < Z.length → ∀ x ∈ Z.getD j [], x < 256) := mz.small
  have MZ : Hid (∀ w', w.grownBy w' none → Mat w' lv vs Z) := fun w' g => mz.keep g
  have HV : Hid (∀ w', w.grownBy w' none → Vec w' (.slice q N cap) xs) := fun w' g => hv.keep g
  have HN : Hid (N = xs.length) := hN
  have HN64 : Hid (n < 18446744073709551616) := hn
  have HSM : Hid (∀ x ∈ xs, x < 256) := hv.small
  obtain ⟨r, hr⟩ : ∃ r, r = N % 56 := ⟨_, rfl⟩
  have hq : (N : Int) % 56 = (r : Int) := by omega
  have HR : Hid (r = N % 56) := hr
  clear hv mz hN hr
  by_cases hf : CM.fit n xs = true
  · have i0 : ((n : Int) != 0) = true := neb_yes (b := 0) (CM.fit_iff.1 hf).1
    have i1 : (0 : Int) < (N : Int) := by have := CM.fit_iff.1 hf; have := HN.out; omega
    have i2 : ((r : Int) == 0) = true := eqb_yes (b := 0) (by have := CM.fit_iff.1 hf; have := HN.out; have := HR.out; omega)
    have i3 : (N : Int) ≤ 3584 := by have := CM.fit_iff.1 hf; have := HN.out; omega
    have PY : Hid (Calls Try.prog 8 #[.int .u64 (n : Int), .slice q N cap] w fun e w' => ∃ u us, e = .returned (.tuple #[u, .int .i64 0]) ∧ RMat 53 w.heap.size w' u us (CM.putS n xs) ∧ w.grownBy w' none) := by
      have h := cPut_any (n := n) (HV.out _ (World.grownBy.refl _ _))
      rw [(CM.putE_fit n xs).2 hf] at h
      exact h
    have hpt := CM.put_take (n := n) (by have := HN64.out; omega) hf
    have TS : Hid (∀ (W : World) (u : Value) (us : List Value), Mat W u us (CM.putS n xs) → Calls Try.prog 12 #[u] W fun e w' => ∃ d, e = .returned (.tuple #[.int .u64 (n : Int), d, .bool true]) ∧ Own W.heap.size w' d xs ∧ W.grownBy w' none) := fun W u us m => by
      have h := cTake_any m
      rw [hpt.1, hpt.2.1, hpt.2.2] at h
      exact h
    have WS : Hid (∀ (W : World) (u : Value) (us : List Value) (k : Nat), Mat W u us (CM.putS n xs) → Calls Try.prog 14 #[u, .int .u64 (k : Int)] W fun e w' => e = .returned (.bool (decide (n = k))) ∧ W.grownBy w' none) := fun W u us k m => by
      have h := whole_any k m
      rw [hpt.1, hpt.2.1, Bool.true_and] at h
      exact h
    obtain ⟨k1, hk1⟩ : ∃ k1, k1 = (n + 1) % 18446744073709551616 := ⟨_, rfl⟩
    have HK1 : Hid (decide (n = k1) = false) := decide_eq_false (by have := HN64.out; omega)
    have hw1 : IntKind.u64.wrap ((n : Int) + 1) = (k1 : Int) := by
      rw [hk1]
      simp [IntKind.wrap, IntKind.signed, IntKind.bits]
    have hw2 : ((n : Int) + 1) % 18446744073709551616 = (k1 : Int) := by omega
    have hcmp := str_cmp HSM.out HSM.out
    rw [decide_eq_true rfl] at hcmp
    clear hf hpt hk1 hn
    by_cases hY : CM.yes Z = true
    · have HY : Hid (CM.yes Z = true) := hY
      clear hY
      go_enter Try.func5, Try.ntmps5
      go_wp2_with (first
        | (go_at_call_of 8 (Value.slice q N cap); refine PY.out.mono ?_; rintro e w1 ⟨u1, us1, rfl, m1, g1⟩; obtain ⟨ps, ns, cs, rfl, hz1⟩ := m1.mat.row.opened; clear hz1; have M1 : Hid (RMat 53 w.heap.size w1 (.slice ps ns cs) us1 (CM.putS n xs)) := m1; have G1 : Hid (w.grownBy w1 none) := g1; clear m1 g1)
        | (go_at_call_of 12 (Value.slice ps ns cs); refine (TS.out _ _ _ M1.out.mat).mono ?_; rintro e w2 ⟨u2, rfl, o2, g2⟩; have G2 : Hid (w.grownBy w2 none) := grown_trans G1.out g2; have M2 : Hid (RMat 53 w.heap.size w2 (.slice ps ns cs) us1 (CM.putS n xs)) := M1.out.keep g2; have v1 := convert_vec o2.vec; have v2 := convert_vec (HV.out _ G2.out); clear o2 g2)
        | (go_at_call_of 14 (Value.int IntKind.u64 (n : Int)); refine (WS.out _ _ _ n M2.out.mat).mono ?_; rintro e w7 ⟨rfl, g7⟩; rw [decide_eq_true rfl]; have G7 : Hid (w.grownBy w7 none) := grown_trans G2.out g7; have M7 : Hid (RMat 53 w.heap.size w7 (.slice ps ns cs) us1 (CM.putS n xs)) := M2.out.keep g7; clear g7)
        | (go_at_call_of 14 (Value.slice ps ns cs); refine (WS.out _ _ _ k1 M7.out.mat).mono ?_; rintro e w8 ⟨rfl, g8⟩; rw [HK1.out]; have GP : Hid (w.grownBy w8 none) := grown_trans G7.out g8; clear g8)
        | (go_at_call_of 12 lv; refine (cTake_any (MZ.out _ GP.out)).mono ?_; rintro e w3 ⟨u3, rfl, o3, g3⟩; rw [HY.out]; obtain ⟨p3, n3, c3, rfl, hz3⟩ := o3.vec.opened; clear hz3; have O3 : Hid (Vec w3 (.slice p3 n3 c3) (CM.tL Z)) := o3.vec; have G3 : Hid (w.grownBy w3 none) := grown_trans GP.out g3; have PB : Hid (Calls Try.prog 8 #[.int .u64 ((CM.tN Z : Nat) : Int), .slice p3 n3 c3] w3 fun e w' => ∃ u us, e = .returned (.tuple #[u, .int .i64 0]) ∧ Mat w' u us Z ∧ w3.grownBy w' none) := put_back HZ.out HY.out O3.out; clear o3 g3; generalize CM.tN Z = TZ at *)
        | (go_at_call_of 8 (Value.slice p3 n3 c3); refine PB.out.mono ?_; rintro e w4 ⟨u4, us4, rfl, m4, g4⟩; obtain ⟨p4, n4, c4, rfl, hz4⟩ := m4.row.opened; clear hz4; have G4 : Hid (w.grownBy w4 none) := grown_trans G3.out g4; have SA : Hid (Calls Try.prog 10 #[.slice p4 n4 c4, lv] w4 fun e w' => e = .returned (.bool true) ∧ w4.grownBy w' none) := (by have h := refSame_any m4 (MZ.out _ G4.out); rw [decide_eq_true rfl] at h; exact h); clear m4 g4)
        | (go_at_call 10; refine SA.out.mono ?_; rintro e w6 ⟨rfl, g6⟩; have G6 : Hid (w.grownBy w6 none) := grown_trans G4.out g6; clear g6)
        | (go_at_call 11; refine (wakes_any _).mono ?_; rintro e w5 ⟨rfl, g5⟩; have G5 : Hid (w.grownBy w5 none) := grown_trans G6.out g5; clear g5))
      go_ret
      exact ⟨rfl, G5.out⟩
    · have HY : Hid (CM.yes Z = false) := Bool.eq_false_iff.2 hY
      clear hY
      go_enter Try.func5, Try.ntmps5
      go_wp2_with (first
        | (go_at_call_of 8 (Value.slice q N cap); refine PY.out.mono ?_; rintro e w1 ⟨u1, us1, rfl, m1, g1⟩; obtain ⟨ps, ns, cs, rfl, hz1⟩ := m1.mat.row.opened; clear hz1; have M1 : Hid (RMat 53 w.heap.size w1 (.slice ps ns cs) us1 (CM.putS n xs)) := m1; have G1 : Hid (w.grownBy w1 none) := g1; clear m1 g1)
        | (go_at_call_of 12 (Value.slice ps ns cs); refine (TS.out _ _ _ M1.out.mat).mono ?_; rintro e w2 ⟨u2, rfl, o2, g2⟩; have G2 : Hid (w.grownBy w2 none) := grown_trans G1.out g2; have M2 : Hid (RMat 53 w.heap.size w2 (.slice ps ns cs) us1 (CM.putS n xs)) := M1.out.keep g2; have v1 := convert_vec o2.vec; have v2 := convert_vec (HV.out _ G2.out); clear o2 g2)
        | (go_at_call_of 14 (Value.int IntKind.u64 (n : Int)); refine (WS.out _ _ _ n M2.out.mat).mono ?_; rintro e w7 ⟨rfl, g7⟩; rw [decide_eq_true rfl]; have G7 : Hid (w.grownBy w7 none) := grown_trans G2.out g7; have M7 : Hid (RMat 53 w.heap.size w7 (.slice ps ns cs) us1 (CM.putS n xs)) := M2.out.keep g7; clear g7)
        | (go_at_call_of 14 (Value.slice ps ns cs); refine (WS.out _ _ _ k1 M7.out.mat).mono ?_; rintro e w8 ⟨rfl, g8⟩; rw [HK1.out]; have GP : Hid (w.grownBy w8 none) := grown_trans G7.out g8; clear g8)
        | (go_at_call_of 12 lv; refine (take_none (MZ.out _ GP.out) HY.out).mono ?_; rintro e w3 ⟨p3, c3, rfl, g3⟩; have G3 : Hid (w.grownBy w3 none) := grown_trans GP.out g3; clear g3)
        | (go_at_call_of 14 lv; refine (whole_none (MZ.out _ G3.out) HY.out).mono ?_; rintro e w4 ⟨rfl, g4⟩; have G4 : Hid (w.grownBy w4 none) := grown_trans G3.out g4; clear g4)
        | (go_at_call 11; refine (wakes_any _).mono ?_; rintro e w5 ⟨rfl, g5⟩; have G5 : Hid (w.grownBy w5 none) := grown_trans G4.out g5; clear g5))
      go_ret
      exact ⟨rfl, G5.out⟩
  · by_cases h0 : n = 0
    · have i0 : ((n : Int) != 0) = false := neb_no (b := 0) h0
      have HF : Hid (CM.fit n xs = false) := Bool.eq_false_iff.2 hf
      have PN : Hid (Calls Try.prog 8 #[.int .u64 (n : Int), .slice q N cap] w fun e w' => ∃ p c, e = .returned (.tuple #[.slice p 0 c, .int .i64 (CM.putE n xs)]) ∧ w.grownBy w' none) := put_none (HV.out _ (World.grownBy.refl _ _)) HF.out
      have hE0 : ¬ CM.putE n xs = 0 := fun e => hf ((CM.putE_fit n xs).1 e)
      generalize CM.putE n xs = E at *
      have e1 : (E == 0) = false := by simpa using hE0
      have e2 : (E != 0) = true := by simp [hE0]
      clear hE0 hf h0 hn
      by_cases hY : CM.yes Z = true
      · have HY : Hid (CM.yes Z = true) := hY
        clear hY
        go_enter Try.func5, Try.ntmps5
        go_wp2_with (first
          | (go_at_call_of 8 (Value.slice q N cap); refine PN.out.mono ?_; rintro e w1 ⟨p1, c1, rfl, g1⟩; have GP : Hid (w.grownBy w1 none) := g1; clear g1)
          | (go_at_call_of 12 lv; refine (cTake_any (MZ.out _ GP.out)).mono ?_; rintro e w3 ⟨u3, rfl, o3, g3⟩; rw [HY.out]; obtain ⟨p3, n3, c3, rfl, hz3⟩ := o3.vec.opened; clear hz3; have O3 : Hid (Vec w3 (.slice p3 n3 c3) (CM.tL Z)) := o3.vec; have G3 : Hid (w.grownBy w3 none) := grown_trans GP.out g3; have PB : Hid (Calls Try.prog 8 #[.int .u64 ((CM.tN Z : Nat) : Int), .slice p3 n3 c3] w3 fun e w' => ∃ u us, e = .returned (.tuple #[u, .int .i64 0]) ∧ Mat w' u us Z ∧ w3.grownBy w' none) := put_back HZ.out HY.out O3.out; clear o3 g3; generalize CM.tN Z = TZ at *)
          | (go_at_call_of 8 (Value.slice p3 n3 c3); refine PB.out.mono ?_; rintro e w4 ⟨u4, us4, rfl, m4, g4⟩; obtain ⟨p4, n4, c4, rfl, hz4⟩ := m4.row.opened; clear hz4; have G4 : Hid (w.grownBy w4 none) := grown_trans G3.out g4; have SA : Hid (Calls Try.prog 10 #[.slice p4 n4 c4, lv] w4 fun e w' => e = .returned (.bool true) ∧ w4.grownBy w' none) := (by have h := refSame_any m4 (MZ.out _ G4.out); rw [decide_eq_true rfl] at h; exact h); clear m4 g4)
          | (go_at_call 10; refine SA.out.mono ?_; rintro e w6 ⟨rfl, g6⟩; have G6 : Hid (w.grownBy w6 none) := grown_trans G4.out g6; clear g6)
          | (go_at_call 11; refine (wakes_any _).mono ?_; rintro e w5 ⟨rfl, g5⟩; have G5 : Hid (w.grownBy w5 none) := grown_trans G6.out g5; clear g5))
        go_ret
        exact ⟨rfl, G5.out⟩
      · have HY : Hid (CM.yes Z = false) := Bool.eq_false_iff.2 hY
        clear hY
        go_enter Try.func5, Try.ntmps5
        go_wp2_with (first
          | (go_at_call_of 8 (Value.slice q N cap); refine PN.out.mono ?_; rintro e w1 ⟨p1, c1, rfl, g1⟩; have GP : Hid (w.grownBy w1 none) := g1; clear g1)
          | (go_at_call_of 12 lv; refine (take_none (MZ.out _ GP.out) HY.out).mono ?_; rintro e w3 ⟨p3, c3, rfl, g3⟩; have G3 : Hid (w.grownBy w3 none) := grown_trans GP.out g3; clear g3)
          | (go_at_call_of 14 lv; refine (whole_none (MZ.out _ G3.out) HY.out).mono ?_; rintro e w4 ⟨rfl, g4⟩; have G4 : Hid (w.grownBy w4 none) := grown_trans G3.out g4; clear g4)
          | (go_at_call 11; refine (wakes_any _).mono ?_; rintro e w5 ⟨rfl, g5⟩; have G5 : Hid (w.grownBy w5 none) := grown_trans G4.out g5; clear g5))
        go_ret
        exact ⟨rfl, G5.out⟩
    · have i0 : ((n : Int) != 0) = true := neb_yes (b := 0) h0
      by_cases h1 : N = 0
      · have i1 : ¬ (0 : Int) < (N : Int) := by omega
        have HF : Hid (CM.fit n xs = false) := Bool.eq_false_iff.2 hf
        have PN : Hid (Calls Try.prog 8 #[.int .u64 (n : Int), .slice q N cap] w fun e w' => ∃ p c, e = .returned (.tuple #[.slice p 0 c, .int .i64 (CM.putE n xs)]) ∧ w.grownBy w' none) := put_none (HV.out _ (World.grownBy.refl _ _)) HF.out
        have hE0 : ¬ CM.putE n xs = 0 := fun e => hf ((CM.putE_fit n xs).1 e)
        generalize CM.putE n xs = E at *
        have e1 : (E == 0) = false := by simpa using hE0
        have e2 : (E != 0) = true := by simp [hE0]
        clear hE0 hf h0 h1 hn
        by_cases hY : CM.yes Z = true
        · have HY : Hid (CM.yes Z = true) := hY
          clear hY
          go_enter Try.func5, Try.ntmps5
          go_wp2_with (first
            | (go_at_call_of 8 (Value.slice q N cap); refine PN.out.mono ?_; rintro e w1 ⟨p1, c1, rfl, g1⟩; have GP : Hid (w.grownBy w1 none) := g1; clear g1)
            | (go_at_call_of 12 lv; refine (cTake_any (MZ.out _ GP.out)).mono ?_; rintro e w3 ⟨u3, rfl, o3, g3⟩; rw [HY.out]; obtain ⟨p3, n3, c3, rfl, hz3⟩ := o3.vec.opened; clear hz3; have O3 : Hid (Vec w3 (.slice p3 n3 c3) (CM.tL Z)) := o3.vec; have G3 : Hid (w.grownBy w3 none) := grown_trans GP.out g3; have PB : Hid (Calls Try.prog 8 #[.int .u64 ((CM.tN Z : Nat) : Int), .slice p3 n3 c3] w3 fun e w' => ∃ u us, e = .returned (.tuple #[u, .int .i64 0]) ∧ Mat w' u us Z ∧ w3.grownBy w' none) := put_back HZ.out HY.out O3.out; clear o3 g3; generalize CM.tN Z = TZ at *)
            | (go_at_call_of 8 (Value.slice p3 n3 c3); refine PB.out.mono ?_; rintro e w4 ⟨u4, us4, rfl, m4, g4⟩; obtain ⟨p4, n4, c4, rfl, hz4⟩ := m4.row.opened; clear hz4; have G4 : Hid (w.grownBy w4 none) := grown_trans G3.out g4; have SA : Hid (Calls Try.prog 10 #[.slice p4 n4 c4, lv] w4 fun e w' => e = .returned (.bool true) ∧ w4.grownBy w' none) := (by have h := refSame_any m4 (MZ.out _ G4.out); rw [decide_eq_true rfl] at h; exact h); clear m4 g4)
            | (go_at_call 10; refine SA.out.mono ?_; rintro e w6 ⟨rfl, g6⟩; have G6 : Hid (w.grownBy w6 none) := grown_trans G4.out g6; clear g6)
            | (go_at_call 11; refine (wakes_any _).mono ?_; rintro e w5 ⟨rfl, g5⟩; have G5 : Hid (w.grownBy w5 none) := grown_trans G6.out g5; clear g5))
          go_ret
          exact ⟨rfl, G5.out⟩
        · have HY : Hid (CM.yes Z = false) := Bool.eq_false_iff.2 hY
          clear hY
          go_enter Try.func5, Try.ntmps5
          go_wp2_with (first
            | (go_at_call_of 8 (Value.slice q N cap); refine PN.out.mono ?_; rintro e w1 ⟨p1, c1, rfl, g1⟩; have GP : Hid (w.grownBy w1 none) := g1; clear g1)
            | (go_at_call_of 12 lv; refine (take_none (MZ.out _ GP.out) HY.out).mono ?_; rintro e w3 ⟨p3, c3, rfl, g3⟩; have G3 : Hid (w.grownBy w3 none) := grown_trans GP.out g3; clear g3)
            | (go_at_call_of 14 lv; refine (whole_none (MZ.out _ G3.out) HY.out).mono ?_; rintro e w4 ⟨rfl, g4⟩; have G4 : Hid (w.grownBy w4 none) := grown_trans G3.out g4; clear g4)
            | (go_at_call 11; refine (wakes_any _).mono ?_; rintro e w5 ⟨rfl, g5⟩; have G5 : Hid (w.grownBy w5 none) := grown_trans G4.out g5; clear g5))
          go_ret
          exact ⟨rfl, G5.out⟩
      · have i1 : (0 : Int) < (N : Int) := by omega
        by_cases h2 : r = 0
        · have i2 : ((r : Int) == 0) = true := eqb_yes (b := 0) h2
          have i3 : ¬ (N : Int) ≤ 3584 := fun h => hf (CM.fit_iff.2 ⟨h0, by have := HN.out; omega, by have := HN.out; have := HR.out; omega, by have := HN.out; omega⟩)
          have HF : Hid (CM.fit n xs = false) := Bool.eq_false_iff.2 hf
          have PN : Hid (Calls Try.prog 8 #[.int .u64 (n : Int), .slice q N cap] w fun e w' => ∃ p c, e = .returned (.tuple #[.slice p 0 c, .int .i64 (CM.putE n xs)]) ∧ w.grownBy w' none) := put_none (HV.out _ (World.grownBy.refl _ _)) HF.out
          have hE0 : ¬ CM.putE n xs = 0 := fun e => hf ((CM.putE_fit n xs).1 e)
          generalize CM.putE n xs = E at *
          have e1 : (E == 0) = false := by simpa using hE0
          have e2 : (E != 0) = true := by simp [hE0]
          clear hE0 hf h0 h1 h2 hn
          by_cases hY : CM.yes Z = true
          · have HY : Hid (CM.yes Z = true) := hY
            clear hY
            go_enter Try.func5, Try.ntmps5
            go_wp2_with (first
              | (go_at_call_of 8 (Value.slice q N cap); refine PN.out.mono ?_; rintro e w1 ⟨p1, c1, rfl, g1⟩; have GP : Hid (w.grownBy w1 none) := g1; clear g1)
              | (go_at_call_of 12 lv; refine (cTake_any (MZ.out _ GP.out)).mono ?_; rintro e w3 ⟨u3, rfl, o3, g3⟩; rw [HY.out]; obtain ⟨p3, n3, c3, rfl, hz3⟩ := o3.vec.opened; clear hz3; have O3 : Hid (Vec w3 (.slice p3 n3 c3) (CM.tL Z)) := o3.vec; have G3 : Hid (w.grownBy w3 none) := grown_trans GP.out g3; have PB : Hid (Calls Try.prog 8 #[.int .u64 ((CM.tN Z : Nat) : Int), .slice p3 n3 c3] w3 fun e w' => ∃ u us, e = .returned (.tuple #[u, .int .i64 0]) ∧ Mat w' u us Z ∧ w3.grownBy w' none) := put_back HZ.out HY.out O3.out; clear o3 g3; generalize CM.tN Z = TZ at *)
              | (go_at_call_of 8 (Value.slice p3 n3 c3); refine PB.out.mono ?_; rintro e w4 ⟨u4, us4, rfl, m4, g4⟩; obtain ⟨p4, n4, c4, rfl, hz4⟩ := m4.row.opened; clear hz4; have G4 : Hid (w.grownBy w4 none) := grown_trans G3.out g4; have SA : Hid (Calls Try.prog 10 #[.slice p4 n4 c4, lv] w4 fun e w' => e = .returned (.bool true) ∧ w4.grownBy w' none) := (by have h := refSame_any m4 (MZ.out _ G4.out); rw [decide_eq_true rfl] at h; exact h); clear m4 g4)
              | (go_at_call 10; refine SA.out.mono ?_; rintro e w6 ⟨rfl, g6⟩; have G6 : Hid (w.grownBy w6 none) := grown_trans G4.out g6; clear g6)
              | (go_at_call 11; refine (wakes_any _).mono ?_; rintro e w5 ⟨rfl, g5⟩; have G5 : Hid (w.grownBy w5 none) := grown_trans G6.out g5; clear g5))
            go_ret
            exact ⟨rfl, G5.out⟩
          · have HY : Hid (CM.yes Z = false) := Bool.eq_false_iff.2 hY
            clear hY
            go_enter Try.func5, Try.ntmps5
            go_wp2_with (first
              | (go_at_call_of 8 (Value.slice q N cap); refine PN.out.mono ?_; rintro e w1 ⟨p1, c1, rfl, g1⟩; have GP : Hid (w.grownBy w1 none) := g1; clear g1)
              | (go_at_call_of 12 lv; refine (take_none (MZ.out _ GP.out) HY.out).mono ?_; rintro e w3 ⟨p3, c3, rfl, g3⟩; have G3 : Hid (w.grownBy w3 none) := grown_trans GP.out g3; clear g3)
              | (go_at_call_of 14 lv; refine (whole_none (MZ.out _ G3.out) HY.out).mono ?_; rintro e w4 ⟨rfl, g4⟩; have G4 : Hid (w.grownBy w4 none) := grown_trans G3.out g4; clear g4)
              | (go_at_call 11; refine (wakes_any _).mono ?_; rintro e w5 ⟨rfl, g5⟩; have G5 : Hid (w.grownBy w5 none) := grown_trans G4.out g5; clear g5))
            go_ret
            exact ⟨rfl, G5.out⟩
        · have i2 : ((r : Int) == 0) = false := eqb_no (b := 0) h2
          have HF : Hid (CM.fit n xs = false) := Bool.eq_false_iff.2 hf
          have PN : Hid (Calls Try.prog 8 #[.int .u64 (n : Int), .slice q N cap] w fun e w' => ∃ p c, e = .returned (.tuple #[.slice p 0 c, .int .i64 (CM.putE n xs)]) ∧ w.grownBy w' none) := put_none (HV.out _ (World.grownBy.refl _ _)) HF.out
          have hE0 : ¬ CM.putE n xs = 0 := fun e => hf ((CM.putE_fit n xs).1 e)
          generalize CM.putE n xs = E at *
          have e1 : (E == 0) = false := by simpa using hE0
          have e2 : (E != 0) = true := by simp [hE0]
          clear hE0 hf h0 h1 h2 hn
          by_cases hY : CM.yes Z = true
          · have HY : Hid (CM.yes Z = true) := hY
            clear hY
            go_enter Try.func5, Try.ntmps5
            go_wp2_with (first
              | (go_at_call_of 8 (Value.slice q N cap); refine PN.out.mono ?_; rintro e w1 ⟨p1, c1, rfl, g1⟩; have GP : Hid (w.grownBy w1 none) := g1; clear g1)
              | (go_at_call_of 12 lv; refine (cTake_any (MZ.out _ GP.out)).mono ?_; rintro e w3 ⟨u3, rfl, o3, g3⟩; rw [HY.out]; obtain ⟨p3, n3, c3, rfl, hz3⟩ := o3.vec.opened; clear hz3; have O3 : Hid (Vec w3 (.slice p3 n3 c3) (CM.tL Z)) := o3.vec; have G3 : Hid (w.grownBy w3 none) := grown_trans GP.out g3; have PB : Hid (Calls Try.prog 8 #[.int .u64 ((CM.tN Z : Nat) : Int), .slice p3 n3 c3] w3 fun e w' => ∃ u us, e = .returned (.tuple #[u, .int .i64 0]) ∧ Mat w' u us Z ∧ w3.grownBy w' none) := put_back HZ.out HY.out O3.out; clear o3 g3; generalize CM.tN Z = TZ at *)
              | (go_at_call_of 8 (Value.slice p3 n3 c3); refine PB.out.mono ?_; rintro e w4 ⟨u4, us4, rfl, m4, g4⟩; obtain ⟨p4, n4, c4, rfl, hz4⟩ := m4.row.opened; clear hz4; have G4 : Hid (w.grownBy w4 none) := grown_trans G3.out g4; have SA : Hid (Calls Try.prog 10 #[.slice p4 n4 c4, lv] w4 fun e w' => e = .returned (.bool true) ∧ w4.grownBy w' none) := (by have h := refSame_any m4 (MZ.out _ G4.out); rw [decide_eq_true rfl] at h; exact h); clear m4 g4)
              | (go_at_call 10; refine SA.out.mono ?_; rintro e w6 ⟨rfl, g6⟩; have G6 : Hid (w.grownBy w6 none) := grown_trans G4.out g6; clear g6)
              | (go_at_call 11; refine (wakes_any _).mono ?_; rintro e w5 ⟨rfl, g5⟩; have G5 : Hid (w.grownBy w5 none) := grown_trans G6.out g5; clear g5))
            go_ret
            exact ⟨rfl, G5.out⟩
          · have HY : Hid (CM.yes Z = false) := Bool.eq_false_iff.2 hY
            clear hY
            go_enter Try.func5, Try.ntmps5
            go_wp2_with (first
              | (go_at_call_of 8 (Value.slice q N cap); refine PN.out.mono ?_; rintro e w1 ⟨p1, c1, rfl, g1⟩; have GP : Hid (w.grownBy w1 none) := g1; clear g1)
              | (go_at_call_of 12 lv; refine (take_none (MZ.out _ GP.out) HY.out).mono ?_; rintro e w3 ⟨p3, c3, rfl, g3⟩; have G3 : Hid (w.grownBy w3 none) := grown_trans GP.out g3; clear g3)
              | (go_at_call_of 14 lv; refine (whole_none (MZ.out _ G3.out) HY.out).mono ?_; rintro e w4 ⟨rfl, g4⟩; have G4 : Hid (w.grownBy w4 none) := grown_trans G3.out g4; clear g4)
              | (go_at_call 11; refine (wakes_any _).mono ?_; rintro e w5 ⟨rfl, g5⟩; have G5 : Hid (w.grownBy w5 none) := grown_trans G4.out g5; clear g5))
            go_ret
            exact ⟨rfl, G5.out⟩

theorem walk {w : World} {n : Int} {v lv : Value} {xs : List Nat} {vs : List Value} {Z : List (List Nat)} (h0 : 0 ≤ n) (h1 : n < 18446744073709551616) (hv : Vec w v xs) (mz : Mat w lv vs Z) :
    Calls Try.prog 5 #[.int .u64 n, v, lv] w fun e w' => e = .returned (.bool true) ∧ w.grownBy w' none := by
  obtain ⟨k, rfl⟩ := Int.eq_ofNat_of_zero_le h0
  exact walk_nat (by omega) hv mz
end Go.Proofs.Ythmdidiojjmebaa.chunkBack
