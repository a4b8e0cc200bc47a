/- The walk of StampTakes. -/
import Derived.Test.YtjphdocacpemoaaLift5
import Derived.Test.YtjphdocacpemoaaAll5
namespace Go.Proofs.Ytjphdocacpemoaa.stampTakes
open Go.ChangeShapes Go.WideShapes Go.ChangeAt Go.RowKit

theorem xor_one {y : Nat} (h : y < 256) : ∃ z : Nat, z < 256 ∧ bits .xor .u8 (y : Int) 1 = (z : Int) :=
  ⟨y ^^^ 1, Nat.xor_lt_two_pow (n := 8) h (by decide), u8_xor_nat y 1 h (by decide)⟩
theorem is_is (xs : List Nat) (n : Nat) : isB xs n = ((takeE xs == 0) && (((takeN xs : Nat) : Int) == (n : Int))) := by
  unfold isB takeE takeN
  by_cases h : xs.length = 64
  · rw [if_pos h, if_pos h, decide_eq_true h, Bool.true_and]
    rw [Bool.eq_iff_iff]
    simp only [decide_eq_true_eq, Bool.and_eq_true, beq_iff_eq, true_and]
    omega
  · rw [if_neg h, decide_eq_false h, Bool.false_and]
    by_cases h2 : xs.length < 64
    · rw [if_pos h2]; rfl
    · rw [if_neg h2]; rfl

set_option maxHeartbeats 4000000 in
theorem walk_nat {w : World} {n : Nat} {v : Value} {xs : List Nat} (hv : Vec w v xs) :
    Calls Try.prog 4 #[v, .int .u64 (n : Int)] w fun e w' => e = .returned (.bool true) ∧ w.grownBy w' none := by
  have HV : Hid (∀ w', w.grownBy w' none → Vec w' v xs) := fun w' g => hv.keep g
  have HL : Hid (xs.length ≤ 140737488351232) := hv.len
  clear hv
  go_enter Try.func4, Try.ntmps4
  go_wp2_with (first
    | (at_builtin; refine wpList_append_vec rfl _ _ rfl _ _ rfl rfl (Own.nil w.heap.size w) (HV.out _ (World.grownBy.refl _ _)) (Nat.le_refl _) (by simpa using HL.out) ?_; intro x w1 o1 g1; rw [List.nil_append] at o1; have O1 : Hid (Own w.heap.size w1 x xs) := o1; have G1 : Hid (w.grownBy w1 none) := g1; clear o1 g1)
    | fail)
  refine (take_all O1.out.vec).mono ?_
  rintro e w2 ⟨p, k, rfl, oa, g2⟩
  have OA : Hid (Own w1.heap.size w2 (.slice p k k) (takeL xs)) := oa
  have O2 : Hid (Own w.heap.size w2 x xs) := O1.out.keep g2
  have G2 : Hid (w.grownBy w2 none) := grown_trans G1.out g2
  have AP : Hid (x.ownBlock = none ∨ x.ownBlock ≠ (Value.slice p k k).ownBlock) := apart_of O1.out.hi oa.lo
  have LO : Hid (Lo w.heap.size (.slice p k k)) := oa.lo.mono G1.out.size
  clear oa g2 O1 G1
  have HB : Hid (isB xs n = ((takeE xs == 0) && (((takeN xs : Nat) : Int) == (n : Int)))) := is_is xs n
  generalize hE : takeE xs = E at *
  generalize hN : takeN xs = T at *
  have HE : Hid (takeE xs = E ∧ takeN xs = T) := ⟨hE, hN⟩
  clear hE hN
  go_wp2_with fail
  refine (refTake_all (HV.out _ G2.out)).mono ?_
  rintro e w3 ⟨u, rfl, ob, g3⟩
  rw [HE.out.1, HE.out.2]
  have O3 : Hid (Own w.heap.size w3 x xs) := O2.out.keep g3
  have A3 : Hid (Own w1.heap.size w3 (.slice p k k) (takeL xs)) := OA.out.keep g3
  have G3 : Hid (w.grownBy w3 none) := grown_trans G2.out g3
  have c1 := convert_vec A3.out.vec
  have c2 := convert_vec ob.vec
  have KK : Hid (k = (takeL xs).length) := by
    obtain ⟨p', cap', e, _⟩ := A3.out.vec.form
    injection e with e1 e2 e3
  have hkk : k ≤ 140737488351232 := by rw [KK.out]; exact A3.out.len
  clear ob g3 O2 OA G2 HE
  obtain ⟨S, hS⟩ : ∃ S, S = takeL xs := ⟨_, rfl⟩
  rw [← hS] at c1 c2 A3 KK
  clear hS
  have HI : Hid (Calls Try.prog 13 #[x, .int .u64 (n : Int)] w3 fun e w' => e = .returned (.bool ((E == 0) && ((T : Int) == (n : Int)))) ∧ w' = w3) := by
    have h := is_all n O3.out.vec
    rw [HB.out] at h
    exact h
  clear HB
  rcases Bool.eq_false_or_eq_true (E == 0) with e1 | e1 <;> rcases Bool.eq_false_or_eq_true ((T : Int) == (n : Int)) with e2 | e2 <;> rw [e1, e2] at HI
  all_goals
    go_wp2_with (go_at_call 13; refine HI.out.mono ?_; rintro e w4 ⟨rfl, hw⟩; obtain rfl := hw.symm; clear hw)
    clear c1 c2 e1 e2 HI
    go_loopw [13] (fun ti wr => ∃ j : Nat, j ≤ k ∧ ti = .int .i64 j ∧ Hid (∃ ys, ys.length = k ∧ Own w1.heap.size wr (.slice p k k) ys) ∧ Hid (Own w.heap.size wr x xs) ∧ Hid (w.grownBy wr none)) (fun ti _ => k - (intOf ti).toNat)
    case atStart => exact ⟨0, by omega, rfl, ⟨S, KK.out.symm, A3.out⟩, O3, G3⟩
    case round =>
      clear A3 O3 G3 KK
      obtain ⟨j, hj, rfl, AK, OK, GK⟩ := hrel
      by_cases hlt : j < k
      · have i1 : (j : Int) < (k : Int) := by omega
        obtain ⟨ys, hys, ay⟩ := AK.out
        obtain ⟨g, rfl, hz, hc, hf, h1, hset, hgr⟩ := ay.spot (k := j) (by omega)
        clear hz
        generalize hy : ys.getD j 0 = y at *
        obtain ⟨z, hz1, hz2⟩ := xor_one h1
        have HA : Hid (∃ ys, ys.length = k ∧ Own w1.heap.size (wr.setCell ⟨g, j, none⟩ (.int .u8 (z : Int))) (.slice (some ⟨g, 0, none⟩) k k) ys) := ⟨ys.set j z, by rw [List.length_set]; exact hys, hset z hz1⟩
        have HO : Hid (Own w.heap.size (wr.setCell ⟨g, j, none⟩ (.int .u8 (z : Int))) x xs) := OK.out.kept (hgr _) AP.out
        have HG : Hid (w.grownBy (wr.setCell ⟨g, j, none⟩ (.int .u8 (z : Int))) none) := grown_new GK.out (hgr _) LO.out
        clear hset hgr ay hys AK OK GK hy
        go_wp2
        go_roundw
        case rel => exact ⟨j + 1, by omega, by go_num, HA, HO, HG⟩
        case measure => simp [intOf]; omega
      · have i1 : ¬ (j : Int) < (k : Int) := by omega
        have c3 := convert_vec OK.out.vec
        have c4 := convert_vec (HV.out _ GK.out)
        clear AK OK
        go_wp2_with (go_at_call 10; refine (wakes_any _).mono ?_; rintro e w5 ⟨rfl, g5⟩)
        go_ret
        exact ⟨rfl, grown_trans GK.out g5⟩

theorem walk {w : World} {n : Int} {v : Value} {xs : List Nat} (hv : Vec w v xs) (h0 : 0 ≤ n) (_h1 : n < 18446744073709551616) :
    Calls Try.prog 4 #[v, .int .u64 n] w fun e w' => e = .returned (.bool true) ∧ w.grownBy w' none := by
  obtain ⟨m, rfl⟩ := Int.eq_ofNat_of_zero_le h0
  exact walk_nat hv
end Go.Proofs.Ytjphdocacpemoaa.stampTakes
