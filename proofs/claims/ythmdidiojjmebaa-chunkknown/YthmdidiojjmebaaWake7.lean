/- The contract of hayricklaw07.wakes. -/
import Derived.Test.YthmdidiojjmebaaCPut7
namespace Go.Proofs.Ythmdidiojjmebaa
open Go.RowKit

/-- The row of wakes. -/
def dat : List Nat := (List.replicate 112 0).set 60 9
theorem dat_fit : CM.fit 3 dat = true := by decide
theorem dat_len : dat.length = 112 := by decide
theorem dat_yes : CM.yes (CM.putS 3 dat) = true ∧ CM.tN (CM.putS 3 dat) = 3 ∧ CM.tL (CM.putS 3 dat) = dat := CM.put_take (by decide) dat_fit
theorem dat_secs : (CM.putS 3 dat).length = 2 := by unfold CM.putS; rw [if_pos dat_fit, CM.secs_len, dat_len]
theorem dat_57 : CM.putE 3 (dat.take 57) = 4 := by decide

set_option maxHeartbeats 1600000 in
theorem wakes_any (w : World) : Calls Try.prog 11 #[] w fun e w' => e = .returned (.bool true) ∧ w.grownBy w' none := by
  go_enter Try.func11, Try.ntmps11
  go_wp2_with (at_make; refine wpList_make_vec rfl _ _ rfl 112 rfl rfl (by decide) ?_; intro w1 p ou g1; obtain ⟨g, rfl, hz, hc, hf, h256, hset, hgr⟩ := ou.spot (k := 60) (by simp); clear hz h256; have HS : Hid (Own w.heap.size (w1.setCell ⟨g, 60, none⟩ (.int .u8 9)) (.slice (some ⟨g, 0, none⟩) 112 112) dat) := hset 9 (by decide); have HG : Hid (w.grownBy (w1.setCell ⟨g, 60, none⟩ (.int .u8 9)) none) := grown_new g1 (hgr _) (fun i e => ou.lo i e); clear hset hgr ou g1)
  clear hc hf
  generalize w1.setCell ⟨g, 60, none⟩ (.int .u8 9) = W at *
  have P1 : Hid (Calls Try.prog 8 #[.int .u64 3, .slice (some ⟨g, 0, none⟩) 112 112] W fun e w' => ∃ u us, e = .returned (.tuple #[u, .int .i64 0]) ∧ RMat 53 W.heap.size w' u us (CM.putS 3 dat) ∧ W.grownBy w' none) := by
    have h := cPut_any (n := 3) HS.out.vec
    rw [(CM.putE_fit 3 dat).2 dat_fit] at h
    exact h
  refine P1.out.mono ?_
  rintro e w2 ⟨u, us, rfl, m2, g2⟩
  obtain ⟨q, N, cap, rfl, hN⟩ := m2.mat.row.opened
  obtain rfl : N = 2 := by have := mat_n m2.mat; have := dat_secs; omega
  have MM : Hid (∀ w', w2.grownBy w' none → Mat w' (.slice q 2 cap) us (CM.putS 3 dat)) := fun w' g => (m2.keep g).mat
  have G2 : Hid (w.grownBy w2 none) := grown_trans HG.out g2
  have HD : Hid (∀ w', w2.grownBy w' none → Vec w' (.slice (some ⟨g, 0, none⟩) 112 112) dat) := fun w' g => (HS.out.keep (grown_trans g2 g)).vec
  have HT : Hid (Calls Try.prog 12 #[.slice q 2 cap] w2 fun e w' => ∃ d, e = .returned (.tuple #[.int .u64 3, d, .bool true]) ∧ Own w2.heap.size w' d dat ∧ w2.grownBy w' none) := by
    have h := cTake_any (MM.out _ (World.grownBy.refl _ _))
    rw [dat_yes.1, dat_yes.2.1, dat_yes.2.2] at h
    exact h
  have HW : Hid (∀ w' (k : Nat), w2.grownBy w' none → Calls Try.prog 14 #[.slice q 2 cap, .int .u64 (k : Int)] w' fun e w'' => e = .returned (.bool (decide (3 = k))) ∧ w'.grownBy w'' none) := fun w' k g => by
    have h := whole_any k (MM.out _ g)
    rw [dat_yes.1, dat_yes.2.1, Bool.true_and] at h
    exact h
  have HP : Hid (∀ w', w2.grownBy w' none → Calls Try.prog 8 #[.int .u64 3, .slice (some ⟨g, 0, none⟩) 57 112] w' fun e w'' => ∃ u, e = .returned (.tuple #[u, .int .i64 4]) ∧ w'.grownBy w'' none) := fun w' g => by
    have h := cPut_any (n := 3) ((HD.out _ g).cut (n := 57) (by rw [dat_len]; decide))
    rw [dat_57] at h
    exact h.mono fun e w' ⟨u, us, h1, _, h2⟩ => ⟨u, h1, h2⟩
  have hcmp := str_cmp (HD.out _ (World.grownBy.refl _ _)).small (HD.out _ (World.grownBy.refl _ _)).small
  rw [decide_eq_true rfl] at hcmp
  clear P1 HS HG m2 g2 hN MM
  generalize dat = Dt at *
  go_wp2_with (first
    | (go_at_call 12; refine HT.out.mono ?_; rintro e w3 ⟨d, rfl, o3, g3⟩; have O3 : Hid (Own w2.heap.size w3 d Dt) := o3; have G3 : Hid (w2.grownBy w3 none) := g3; clear o3 g3)
    | (go_at_call 8; refine (HP.out _ G3.out).mono ?_; rintro e w4 ⟨u4, rfl, g4⟩; have G4 : Hid (w2.grownBy w4 none) := grown_trans G3.out g4; have v1 := convert_vec (O3.out.keep g4).vec; have v2 := convert_vec (HD.out _ G4.out); clear g4)
    | (go_at_call_of 14 (Value.int IntKind.u64 3); refine (HW.out _ 3 G4.out).mono ?_; rintro e w5 ⟨rfl, g5⟩; have G5 : Hid (w2.grownBy w5 none) := grown_trans G4.out g5; clear g5)
    | (go_at_call_of 14 (Value.int IntKind.u64 4); refine (HW.out _ 4 G5.out).mono ?_; rintro e w6 ⟨rfl, g6⟩; have G6 : Hid (w2.grownBy w6 none) := grown_trans G5.out g6; clear g6))
  go_ret
  exact ⟨rfl, grown_trans G2.out G6.out⟩
end Go.Proofs.Ythmdidiojjmebaa
