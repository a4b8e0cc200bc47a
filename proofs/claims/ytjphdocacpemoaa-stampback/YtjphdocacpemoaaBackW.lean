/- The walk of StampBack. -/
import Derived.Test.YtjphdocacpemoaaLift5
import Derived.Test.YtjphdocacpemoaaAll5
namespace Go.Proofs.Ytjphdocacpemoaa.stampBack
open Go.ChangeShapes Go.WideShapes Go.ChangeAt Go.RowKit

theorem sec_drop (n : Nat) (ld : List Nat) : (SM.sec n ld).drop 8 = ld ++ SM.z (56 - ld.length) := by
  unfold SM.sec
  rw [List.drop_append, SM.mk_len, List.drop_eq_nil_of_le (by rw [SM.mk_len]; exact Nat.le_refl _)]
  simp
theorem load_get {ld : List Nat} {i : Nat} (h : ld.length ≤ i) : (ld ++ SM.z (56 - ld.length)).getD i 0 = 0 := by
  have h1 := SM.z_get (56 - ld.length) (i - ld.length)
  simp only [List.getD] at h1 ⊢
  rw [List.getElem?_append_right h]
  exact h1
theorem cap_of {w : World} {p : Option Addr} {n cap : Nat} {xs : List Nat} (h : Vec w (.slice p n cap) xs) : n ≤ cap ∧ cap ≤ 9223372036854775807 := by
  obtain ⟨_, _, p', cap', e, h3, h4, _⟩ := h
  injection e with _ e2 e3
  unfold maxLen at h4
  omega

set_option maxHeartbeats 8000000 in
set_option maxRecDepth 100000 in
theorem walk_nat {w : World} {n : Nat} {v b : Value} {ld xs : List Nat} (hn : n < 18446744073709551616) (hv : Vec w v ld) (hb : Vec w b xs) :
    Calls Try.prog 5 #[.int .u64 (n : Int), v, b] w fun e w' => e = .returned (.bool true) ∧ w.grownBy w' none := by
  obtain ⟨q, N, cap, rfl, hN⟩ := hv.opened
  obtain ⟨q2, N2, cap2, rfl, hN2⟩ := hb.opened
  have k1 := cap_of hv
  have k2 := cap_of hb
  have HN : Hid (N = ld.length) := hN
  have HN2 : Hid (N2 = xs.length) := hN2
  have HV : Hid (∀ w', w.grownBy w' none → Vec w' (.slice q N cap) ld) := fun w' g => hv.keep g
  have HB : Hid (∀ w', w.grownBy w' none → Vec w' (.slice q2 N2 cap2) xs) := fun w' g => hb.keep g
  have HS : Hid (∀ x ∈ ld, x < 256) := hv.small
  have HSB : Hid (∀ x ∈ xs, x < 256) := hb.small
  clear hv hb hN hN2
  by_cases hl : N ≤ 56
  · have i1 : (N : Int) ≤ 56 := by omega
    have HL : Hid (ld.length ≤ 56) := by show _ ≤ _; rw [← HN.out]; exact hl
    go_enter Try.func5, Try.ntmps5
    go_wp2_with fail
    refine (put_yes (n := n) (HV.out _ (World.grownBy.refl _ _)) HL.out).mono ?_
    rintro e w1 ⟨p1, rfl, o1, g1⟩
    have O1 : Hid (∀ w', w1.grownBy w' none → Vec w' (.slice p1 64 64) (SM.sec n ld)) := fun w' g => o1.vec.keep g
    have G1 : Hid (w.grownBy w1 none) := g1
    clear o1 g1
    go_wp2_with fail
    refine (take_yes (O1.out _ (World.grownBy.refl _ _)) (SM.sec_len HL.out)).mono ?_
    rintro e w2 ⟨p2, rfl, o2, g2⟩
    rw [SM.val_sec hn]
    have S2 : Hid (Vec w2 (.slice p1 64 64) (SM.sec n ld)) := O1.out _ g2
    have G2 : Hid (w.grownBy w2 none) := grown_trans G1.out g2
    have V2 : Hid (Vec w2 (.slice p2 56 56) (ld ++ SM.z (56 - ld.length))) := by
      have h := o2.vec
      rw [sec_drop] at h
      exact h
    clear o2 g2 O1 G1
    obtain ⟨g, og, rfl, _⟩ := V2.out.spot (k := 0) (by rw [List.length_append, SM.z_len]; have := HL.out; omega)
    go_wp2_with fail
    have HK : Hid (∀ w', w2.grownBy w' none → (convert 23 9 (.slice (some ⟨g, og, none⟩) N 56)).run Try.prog w' = .ok (.string (strOf ld)) w' ∧ (convert 23 9 (.slice q N cap)).run Try.prog w' = .ok (.string (strOf ld)) w') := fun w' h =>
      ⟨by
        have h1 := (V2.out.keep h).cut (n := N) (by rw [List.length_append, HN.out]; omega)
        rw [HN.out, List.take_append_of_le_length (Nat.le_refl _), List.take_of_length_le (Nat.le_refl _), ← HN.out] at h1
        exact convert_vec h1, convert_vec (HV.out _ (grown_trans G2.out h))⟩
    have HI : Hid (Calls Try.prog 13 #[.slice p1 64 64, .int .u64 (n : Int)] w2.drew fun e w' => e = .returned (.bool true) ∧ w' = w2.drew) := by
      have h := is_yes n (S2.out.keep (grown_drewN w2 1)) (SM.sec_len HL.out)
      rw [SM.val_sec hn, decide_eq_true rfl] at h
      exact h
    go_region_held3 (fun w' => (convert 23 9 (.slice (some ⟨g, og, none⟩) N 56)).run Try.prog w' = .ok (.string (strOf ld)) w' ∧ (convert 23 9 (.slice q N cap)).run Try.prog w' = .ok (.string (strOf ld)) w')
      (exact HK.out _ (grown_drewN w2 1))
      ((go_at_call 13; refine HI.out.mono ?_; rintro e w3 ⟨rfl, hw⟩; obtain rfl := hw.symm; clear hw))
    have G3 : Hid (w.grownBy w2.drew none) := gb_drew G2.out
    have V3 : Hid (Vec w2.drew (.slice (some ⟨g, og, none⟩) 56 56) (ld ++ SM.z (56 - ld.length))) := V2.out.keep (grown_drewN w2 1)
    clear HK HI S2 V2 G2
    generalize w2.drew = W at *
    go_wp2
    go_loop [12] (fun ti => ∃ i : Nat, N ≤ i ∧ i ≤ 56 ∧ ti = .int .i64 i) (fun ti => 56 - (intOf ti).toNat)
    case atStart => exact ⟨N, Nat.le_refl _, hl, rfl⟩
    case round =>
      obtain ⟨i, hi1, hi2, rfl⟩ := hrel
      by_cases hlt : i < 56
      · have j1 : (i : Int) < 56 := by omega
        obtain ⟨g', og', e', hc, _⟩ := V3.out.spot (k := i) (by rw [List.length_append, SM.z_len]; have := HL.out; omega)
        injection e' with e'
        injection e' with e1 e2
        subst e1
        subst e2
        rw [load_get (by rw [← HN.out]; exact hi1)] at hc
        have hc0 : W.cell? ⟨g, og + i, none⟩ = some (.int .u8 0) := hc
        clear hc
        go_wp2
        go_round
        case rel => exact ⟨i + 1, by omega, by omega, by go_num⟩
        case measure => simp [intOf]; omega
      · have j0 : ¬ (i : Int) < 56 := by omega
        clear V3
        have HBW : Hid (Vec W (.slice q2 N2 cap2) xs) := HB.out _ G3.out
        rcases Nat.lt_trichotomy N2 64 with hb | hb | hb
        · have j1 : (N2 : Int) < 64 := by omega
          have j2 : ((N2 : Int) != 64) = true := by simp; omega
          have j3 : decide ((64 : Int) < (N2 : Int)) = false := decide_eq_false (by omega)
          go_wp2_with fail
          refine (take_short HBW.out (by have := HN2.out; omega)).mono ?_
          rintro e wt ⟨rfl, hw⟩
          obtain rfl := hw.symm
          clear hw
          have HI : Hid (Calls Try.prog 13 #[.slice q2 N2 cap2, .int .u64 0] W fun e w' => e = .returned (.bool false) ∧ w' = W) := is_no 0 HBW.out (by have := HN2.out; omega)
          go_wp2_with (first
            | (go_at_call 13; refine HI.out.mono ?_; rintro e wi ⟨rfl, hw⟩; obtain rfl := hw.symm; clear hw)
            | (go_at_call 10; refine (wakes_any _).mono ?_; rintro e wk ⟨rfl, gk⟩))
          go_ret
          exact ⟨rfl, grown_trans G3.out gk⟩
        · subst hb
          obtain ⟨b2, off2, rfl, _⟩ := HBW.out.spot (k := 0) (by have := HN2.out; omega)
          go_wp2_with fail
          refine (take_yes HBW.out HN2.out.symm).mono ?_
          rintro e wt ⟨pt, rfl, ot, gt⟩
          have OT : Hid (Own W.heap.size wt (.slice pt 56 56) (xs.drop 8)) := ot
          have GT : Hid (w.grownBy wt none) := grown_trans G3.out gt
          clear ot gt HBW
          go_wp2_with fail
          refine (put_yes (n := SM.val xs 8) OT.out.vec (by rw [List.length_drop, ← HN2.out]; decide)).mono ?_
          rintro e wu ⟨pu, rfl, ou, gu⟩
          have GU : Hid (w.grownBy wu none) := grown_trans GT.out gu
          have VU : Hid (Vec wu (.slice pu 64 64) xs) := by
            have h := ou.vec
            rw [SM.sec_back HSB.out HN2.out.symm] at h
            exact h
          have VB : Hid (Vec wu (.slice (some ⟨b2, off2, none⟩) 64 cap2) xs) := HB.out _ GU.out
          have c1 := convert_vec VU.out
          have c2 := convert_vec VB.out
          have HI : Hid (Calls Try.prog 13 #[.slice (some ⟨b2, off2, none⟩) 64 cap2, .int .u64 ((SM.val xs 8 : Nat) : Int)] wu fun e w' => e = .returned (.bool true) ∧ w' = wu) := by
            have h := is_yes (SM.val xs 8) VB.out HN2.out.symm
            rw [decide_eq_true rfl] at h
            exact h
          clear ou gu GT VU VB OT
          go_wp2_with (first
            | (go_at_call 13; refine HI.out.mono ?_; rintro e wi ⟨rfl, hw⟩; obtain rfl := hw.symm; clear hw)
            | (go_at_call 10; refine (wakes_any _).mono ?_; rintro e wk ⟨rfl, gk⟩))
          go_ret
          exact ⟨rfl, grown_trans GU.out gk⟩
        · have j1 : decide ((N2 : Int) < 64) = false := decide_eq_false (by omega)
          have j2 : ((N2 : Int) != 64) = true := by simp; omega
          have j3 : (64 : Int) < (N2 : Int) := by omega
          go_wp2_with fail
          refine (take_long HBW.out (by have := HN2.out; omega)).mono ?_
          rintro e wt ⟨rfl, hw⟩
          obtain rfl := hw.symm
          clear hw
          have HI : Hid (Calls Try.prog 13 #[.slice q2 N2 cap2, .int .u64 0] W fun e w' => e = .returned (.bool false) ∧ w' = W) := is_no 0 HBW.out (by have := HN2.out; omega)
          go_wp2_with (first
            | (go_at_call 13; refine HI.out.mono ?_; rintro e wi ⟨rfl, hw⟩; obtain rfl := hw.symm; clear hw)
            | (go_at_call 10; refine (wakes_any _).mono ?_; rintro e wk ⟨rfl, gk⟩))
          go_ret
          exact ⟨rfl, grown_trans G3.out gk⟩
  · have i1 : ¬ (N : Int) ≤ 56 := by omega
    go_enter Try.func5, Try.ntmps5
    go_wp2_with fail
    refine (put_long (n := n) (HV.out _ (World.grownBy.refl _ _)) (by have := HN.out; omega)).mono ?_
    rintro e w1 ⟨rfl, hw⟩
    obtain rfl := hw.symm
    clear hw
    have G1 : Hid (w.grownBy w none) := World.grownBy.refl _ _
    have HBW : Hid (Vec w (.slice q2 N2 cap2) xs) := HB.out _ G1.out
    rcases Nat.lt_trichotomy N2 64 with hb | hb | hb
    · have j1 : (N2 : Int) < 64 := by omega
      have j2 : ((N2 : Int) != 64) = true := by simp; omega
      have j3 : decide ((64 : Int) < (N2 : Int)) = false := decide_eq_false (by omega)
      go_wp2_with fail
      refine (take_short HBW.out (by have := HN2.out; omega)).mono ?_
      rintro e wt ⟨rfl, hw⟩
      obtain rfl := hw.symm
      clear hw
      have HI : Hid (Calls Try.prog 13 #[.slice q2 N2 cap2, .int .u64 0] w fun e w' => e = .returned (.bool false) ∧ w' = w) := is_no 0 HBW.out (by have := HN2.out; omega)
      go_wp2_with (first
        | (go_at_call 13; refine HI.out.mono ?_; rintro e wi ⟨rfl, hw⟩; obtain rfl := hw.symm; clear hw)
        | (go_at_call 10; refine (wakes_any _).mono ?_; rintro e wk ⟨rfl, gk⟩))
      go_ret
      exact ⟨rfl, grown_trans G1.out gk⟩
    · subst hb
      obtain ⟨b2, off2, rfl, _⟩ := HBW.out.spot (k := 0) (by have := HN2.out; omega)
      go_wp2_with fail
      refine (take_yes HBW.out HN2.out.symm).mono ?_
      rintro e wt ⟨pt, rfl, ot, gt⟩
      have OT : Hid (Own w.heap.size wt (.slice pt 56 56) (xs.drop 8)) := ot
      have GT : Hid (w.grownBy wt none) := grown_trans G1.out gt
      clear ot gt HBW
      go_wp2_with fail
      refine (put_yes (n := SM.val xs 8) OT.out.vec (by rw [List.length_drop, ← HN2.out]; decide)).mono ?_
      rintro e wu ⟨pu, rfl, ou, gu⟩
      have GU : Hid (w.grownBy wu none) := grown_trans GT.out gu
      have VU : Hid (Vec wu (.slice pu 64 64) xs) := by
        have h := ou.vec
        rw [SM.sec_back HSB.out HN2.out.symm] at h
        exact h
      have VB : Hid (Vec wu (.slice (some ⟨b2, off2, none⟩) 64 cap2) xs) := HB.out _ GU.out
      have c1 := convert_vec VU.out
      have c2 := convert_vec VB.out
      have HI : Hid (Calls Try.prog 13 #[.slice (some ⟨b2, off2, none⟩) 64 cap2, .int .u64 ((SM.val xs 8 : Nat) : Int)] wu fun e w' => e = .returned (.bool true) ∧ w' = wu) := by
        have h := is_yes (SM.val xs 8) VB.out HN2.out.symm
        rw [decide_eq_true rfl] at h
        exact h
      clear ou gu GT VU VB OT
      go_wp2_with (first
        | (go_at_call 13; refine HI.out.mono ?_; rintro e wi ⟨rfl, hw⟩; obtain rfl := hw.symm; clear hw)
        | (go_at_call 10; refine (wakes_any _).mono ?_; rintro e wk ⟨rfl, gk⟩))
      go_ret
      exact ⟨rfl, grown_trans GU.out gk⟩
    · have j1 : decide ((N2 : Int) < 64) = false := decide_eq_false (by omega)
      have j2 : ((N2 : Int) != 64) = true := by simp; omega
      have j3 : (64 : Int) < (N2 : Int) := by omega
      go_wp2_with fail
      refine (take_long HBW.out (by have := HN2.out; omega)).mono ?_
      rintro e wt ⟨rfl, hw⟩
      obtain rfl := hw.symm
      clear hw
      have HI : Hid (Calls Try.prog 13 #[.slice q2 N2 cap2, .int .u64 0] w fun e w' => e = .returned (.bool false) ∧ w' = w) := is_no 0 HBW.out (by have := HN2.out; omega)
      go_wp2_with (first
        | (go_at_call 13; refine HI.out.mono ?_; rintro e wi ⟨rfl, hw⟩; obtain rfl := hw.symm; clear hw)
        | (go_at_call 10; refine (wakes_any _).mono ?_; rintro e wk ⟨rfl, gk⟩))
      go_ret
      exact ⟨rfl, grown_trans G1.out gk⟩

theorem walk {w : World} {n : Int} {v b : Value} {ld xs : List Nat} (h0 : 0 ≤ n) (h1 : n < 18446744073709551616) (hv : Vec w v ld) (hb : Vec w b xs) :
    Calls Try.prog 5 #[.int .u64 n, v, b] w fun e w' => e = .returned (.bool true) ∧ w.grownBy w' none := by
  obtain ⟨m, rfl⟩ := Int.eq_ofNat_of_zero_le h0
  exact walk_nat (by omega) hv hb
end Go.Proofs.Ytjphdocacpemoaa.stampBack
