/- The walk of StampOrders. -/
import Derived.Test.YtjphdocacpemoaaLift5
import Derived.Test.YtjphdocacpemoaaAll5
namespace Go.Proofs.Ytjphdocacpemoaa.stampOrders
open Go.ChangeShapes Go.WideShapes Go.ChangeAt Go.RowKit

set_option maxHeartbeats 4000000 in
theorem walk_nat {w : World} {n m : Nat} {v : Value} {ld : List Nat} (hn : n < 18446744073709551616) (hm : m < 18446744073709551616) (hv : Vec w v ld) :
    Calls Try.prog 6 #[.int .u64 (n : Int), .int .u64 (m : Int), v] w fun e w' => e = .returned (.bool true) ∧ w.grownBy w' none := by
  obtain ⟨q, N, cap, rfl, hN⟩ := hv.opened
  have hcap : N ≤ cap := by
    obtain ⟨p', cap', e, h3, _⟩ := hv.form
    injection e with e1 e2 e3
    omega
  have hcm : cap ≤ 9223372036854775807 := by
    obtain ⟨p', cap', e, _, h4, _⟩ := hv.form
    injection e with e1 e2 e3
    unfold maxLen at h4
    omega
  have HC : Hid (Vec w (.slice q (min N 56) cap) (ld.take (min N 56))) := hv.cut (by omega)
  have HLN : Hid ((ld.take (min N 56)).length ≤ 56) := by show _ ≤ _; simp; omega
  have HM : ∀ ts t W, (Builtin.min_ ts t #[.int .i64 (N : Int), .int .i64 56]).run Try.prog W = .ok (.int .i64 ((min N 56 : Nat) : Int)) W := by
    intro ts t W
    rw [run_min_int2]
    congr 2
    split <;> omega
  have hmin : min N 56 ≤ cap := by omega
  generalize min N 56 = L at *
  generalize ld.take L = ls at *
  clear hv hN
  go_enter Try.func6, Try.ntmps6
  go_wp2_with fail
  clear HM
  refine (put_yes (n := n) HC.out HLN.out).mono ?_
  rintro e w1 ⟨p1, rfl, oa, g1⟩
  have OA : Hid (∀ w', w1.grownBy w' none → Vec w' (.slice p1 64 64) (SM.sec n ls)) := fun w' g => oa.vec.keep g
  have G1 : Hid (w.grownBy w1 none) := g1
  have HS : Hid (∀ x ∈ ls, x < 256) := HC.out.small
  clear oa g1
  go_wp2_with fail
  refine (put_yes (n := m) (HC.out.keep G1.out) HLN.out).mono ?_
  rintro e w2 ⟨p2, rfl, ob, g2⟩
  have A2 : Hid (Vec w2 (.slice p1 64 64) (SM.sec n ls)) := OA.out _ g2
  have B2 : Hid (Vec w2 (.slice p2 64 64) (SM.sec m ls)) := ob.vec
  have G2 : Hid (w.grownBy w2 none) := grown_trans G1.out g2
  have c1 := convert_vec A2.out
  have c2 := convert_vec B2.out
  have HI : Hid (Calls Try.prog 13 #[.slice p1 64 64, .int .u64 (m : Int)] w2 fun e w' => e = .returned (.bool (decide (n = m))) ∧ w' = w2) := by
    have h := is_yes m A2.out (SM.sec_len HLN.out)
    rw [SM.val_sec hn] at h
    exact h
  have q1 : Op.bytesLess (strOf (SM.sec n ls)).toList (strOf (SM.sec m ls)).toList = decide (n < m) := by rw [str_list, str_list, SM.less_sec hn hm]
  have q2 : ((strOf (SM.sec n ls)).toList == (strOf (SM.sec m ls)).toList) = decide (n = m) := by
    rw [str_cmp (SM.sec_small HS.out) (SM.sec_small HS.out), Bool.eq_iff_iff]
    simp only [decide_eq_true_eq]
    exact ⟨fun h => SM.sec_inj hn hm h, fun h => by rw [h]⟩
  clear ob g2 OA G1 A2 B2
  generalize strOf (SM.sec n ls) = s1 at *
  generalize strOf (SM.sec m ls) = s2 at *
  rcases Nat.lt_trichotomy n m with h | h | h
  · have i1 : (n : Int) < (m : Int) := by omega
    have i2 : ((n : Int) == (m : Int)) = false := by simp; omega
    have i3 : ¬ n = m := by omega
    rw [decide_eq_true h] at q1
    rw [decide_eq_false i3] at q2 HI
    clear i3 h
    go_wp2_with (first
      | (go_at_call 13; refine HI.out.mono ?_; rintro e w3 ⟨rfl, hw⟩; obtain rfl := hw.symm; clear hw)
      | (go_at_call 10; refine (wakes_any _).mono ?_; rintro e w5 ⟨rfl, g5⟩))
    go_ret
    exact ⟨rfl, grown_trans G2.out g5⟩
  · have i1 : ¬ (n : Int) < (m : Int) := by omega
    have i2 : ((n : Int) == (m : Int)) = true := by simp; omega
    have i3 : ¬ n < m := by omega
    rw [decide_eq_false i3] at q1
    rw [decide_eq_true h] at q2 HI
    have i5 : decide (n < m) = false := decide_eq_false i3
    clear i3 h i1
    go_wp2_with (first
      | (go_at_call 13; refine HI.out.mono ?_; rintro e w3 ⟨rfl, hw⟩; obtain rfl := hw.symm; clear hw)
      | (go_at_call 10; refine (wakes_any _).mono ?_; rintro e w5 ⟨rfl, g5⟩))
    go_ret
    exact ⟨rfl, grown_trans G2.out g5⟩
  · have i1 : ¬ (n : Int) < (m : Int) := by omega
    have i2 : ((n : Int) == (m : Int)) = false := by simp; omega
    have i3 : ¬ n < m := by omega
    have i4 : ¬ n = m := by omega
    rw [decide_eq_false i3] at q1
    rw [decide_eq_false i4] at q2 HI
    have i5 : decide (n < m) = false := decide_eq_false i3
    clear i3 i4 h i1
    go_wp2_with (first
      | (go_at_call 13; refine HI.out.mono ?_; rintro e w3 ⟨rfl, hw⟩; obtain rfl := hw.symm; clear hw)
      | (go_at_call 10; refine (wakes_any _).mono ?_; rintro e w5 ⟨rfl, g5⟩))
    go_ret
    exact ⟨rfl, grown_trans G2.out g5⟩

theorem walk {w : World} {n m : Int} {v : Value} {ld : List Nat} (h0 : 0 ≤ n) (h1 : n < 18446744073709551616) (h2 : 0 ≤ m) (h3 : m < 18446744073709551616) (hv : Vec w v ld) :
    Calls Try.prog 6 #[.int .u64 n, .int .u64 m, v] w fun e w' => e = .returned (.bool true) ∧ w.grownBy w' none := by
  obtain ⟨a, rfl⟩ := Int.eq_ofNat_of_zero_le h0
  obtain ⟨b, rfl⟩ := Int.eq_ofNat_of_zero_le h2
  exact walk_nat (by omega) (by omega) hv
end Go.Proofs.Ytjphdocacpemoaa.stampOrders
