/- The walk of ChunkPuts. -/
import Derived.Test.YthmdidiojjmebaaSpo7
namespace Go.Proofs.Ythmdidiojjmebaa.chunkPuts
open Go.ChangeShapes Go.WideShapes Go.ChangeAt Go.RowKit

set_option maxHeartbeats 4000000 in
theorem walk_nat {w : World} {n : Nat} {v : Value} {ld : List Nat} (hn : n < 18446744073709551616) (hv : Vec w v ld) :
    Calls Try.prog 3 #[.int .u64 (n : Int), v] w fun e w' => e = .returned (.bool true) ∧ w.grownBy w' none := by
  have HV : Hid (∀ w', w.grownBy w' none → Vec w' v ld) := fun w' g => hv.keep g
  have HL : Hid (ld.length ≤ 140737488351232) := hv.len
  have hcmp := str_cmp hv.small hv.small
  rw [decide_eq_true rfl] at hcmp
  clear hv
  go_enter Try.func3, Try.ntmps3
  go_wp2_with (first
    | (at_builtin; refine wpList_append_vec rfl _ _ rfl _ _ rfl rfl (Own.nil w.heap.size w) (HV.out _ (World.grownBy.refl _ _)) (Nat.le_refl _) (by simpa using HL.out) ?_; intro x w1 o1 g1; rw [List.nil_append] at o1; have O1 : Hid (Own w.heap.size w1 x ld) := o1; have G1 : Hid (w.grownBy w1 none) := g1; clear o1 g1)
    | fail)
  refine (cPut_any (n := n) O1.out.vec).mono ?_
  rintro e w2 ⟨u, us, rfl, ma, g2⟩
  generalize hE : CM.putE n ld = E at *
  have HE : Hid (CM.putE n ld = E) := hE
  clear hE
  obtain ⟨q, N, cap, rfl, hN⟩ := ma.mat.row.opened
  have MA : Hid (RMat 53 w1.heap.size w2 (.slice q N cap) us (CM.putS n ld)) := ma
  have G2 : Hid (w1.grownBy w2 none) := g2
  have HN : Hid (N = us.length) := hN
  have hNl : N ≤ 140737488351232 := by have := ma.len; omega
  clear ma g2 hN
  go_wp2_with fail
  refine (refPut7 hn (HV.out _ (grown_trans G1.out G2.out))).mono ?_
  rintro e w3 ⟨u2, us2, rfl, mb, g3⟩
  rw [HE.out]
  obtain ⟨q2, N2, cap2, rfl, hN2⟩ := mb.mat.row.opened
  clear hN2
  have MA3 : Hid (RMat 53 w1.heap.size w3 (.slice q N cap) us (CM.putS n ld)) := MA.out.keep g3
  have MB3 : Hid (Mat w3 (.slice q2 N2 cap2) us2 (CM.putS n ld)) := mb.mat
  have G3 : Hid (w1.grownBy w3 none) := grown_trans G2.out g3
  have SM3 : Hid (Calls Try.prog 10 #[.slice q N cap, .slice q2 N2 cap2] w3 fun e w' => e = .returned (.bool true) ∧ w3.grownBy w' none) := by
    have h := refSame_any MA3.out.mat MB3.out
    rw [decide_eq_true rfl] at h
    exact h
  clear mb g3 MA G2 HE
  go_wp2_with (go_at_call 10; refine SM3.out.mono ?_; rintro e w4 ⟨rfl, g4⟩; have SP : Hid (Spo 53 w1 w1.heap.size w4 (.slice q N cap) us) := (MA3.out.keep g4).spo (putS_64 n ld) (Nat.le_refl _) (grown_trans G3.out g4); clear g4)
  clear SM3 MA3 MB3
  go_loopw [11] (fun ti wr => ∃ j : Nat, j ≤ N ∧ ti = .int .i64 j ∧ Hid (Spo 53 w1 w1.heap.size wr (.slice q N cap) us)) (fun ti _ => N - (intOf ti).toNat)
  case atStart => exact ⟨0, by omega, rfl, SP⟩
  case round =>
    clear SP
    obtain ⟨j, hj, rfl, SK⟩ := hrel
    by_cases hlt : j < N
    · have i1 : (j : Int) < (N : Int) := by omega
      have i3 : (0 : Int) ≤ (j : Int) := by omega
      obtain ⟨b, off, rfl, hr⟩ := SK.out.cells.spot (k := j) (by have := HN.out; omega)
      obtain ⟨ys, hyl, oy⟩ := SK.out.vec j (by have := HN.out; omega)
      obtain ⟨pk, nk, ck, ek, hnk⟩ := oy.vec.opened
      obtain ⟨g, y, rfl, rfl, hy, hc, hf, hset⟩ := SK.out.poke (by decide) (k := j) (by have := HN.out; omega) ek (j := 9) (by decide)
      rw [ek] at hr
      obtain ⟨z, hz1, hz2⟩ := xor_one hy
      have HS : Hid (Spo 53 w1 w1.heap.size (wr.setCell ⟨g, 9, none⟩ (.int .u8 (z : Int))) (.slice (some ⟨b, off, none⟩) N cap) us) := hset z hz1
      clear hset oy hyl hnk ek SK
      go_wp2
      go_roundw
      case rel => exact ⟨j + 1, by omega, by go_num, HS⟩
      case measure => simp [intOf]; omega
    · have i1 : ¬ (j : Int) < (N : Int) := by omega
      have c3 := convert_vec (O1.out.keep SK.out.gr).vec
      have c4 := convert_vec (HV.out _ (grown_trans G1.out SK.out.gr))
      have GK : Hid (w.grownBy wr none) := grown_trans G1.out SK.out.gr
      clear SK
      go_wp2_with (go_at_call 11; refine (wakes_any _).mono ?_; rintro e w5 ⟨rfl, g5⟩)
      go_ret
      exact ⟨rfl, grown_trans GK.out g5⟩

theorem walk {w : World} {n : Int} {v : Value} {ld : List Nat} (h0 : 0 ≤ n) (h1 : n < 18446744073709551616) (hv : Vec w v ld) :
    Calls Try.prog 3 #[.int .u64 n, v] w fun e w' => e = .returned (.bool true) ∧ w.grownBy w' none := by
  obtain ⟨k, rfl⟩ := Int.eq_ofNat_of_zero_le h0
  exact walk_nat (by omega) hv
end Go.Proofs.Ythmdidiojjmebaa.chunkPuts
