/- Contracts of package hayrickref07: the document's own answers on chunks. -/
import Derived.Test.YthmdidiojjmebaaRows7
import Derived.Deep.RegionHeld3
namespace Go.Proofs.Ythmdidiojjmebaa
open Go.RowKit

set_option maxHeartbeats 1600000 in
theorem refSame_any {w : World} {r s : Value} {us vs : List Value} {X Y : List (List Nat)} (mr : Mat w r us X) (ms : Mat w s vs Y) :
    Calls Try.prog 10 #[r, s] w fun e w' => e = .returned (.bool (decide (X = Y))) ∧ w.grownBy w' none := by
  obtain ⟨q, N, cap, rfl, hN⟩ := mr.row.opened
  obtain ⟨q', N', cap', rfl, hN'⟩ := ms.row.opened
  have hs := mr.same
  have hs' := ms.same
  have hNl : N ≤ 140737488351232 := by have := mr.row.len; omega
  by_cases h0 : N = N'
  · have hb : ((N : Int) != (N' : Int)) = false := by simp [h0]
    have MR : Hid (Mat w (.slice q N cap) us X) := mr
    have MS : Hid (Mat w (.slice q' N' cap') vs Y) := ms
    have HN : Hid (N = us.length ∧ N = X.length ∧ N' = vs.length ∧ N' = Y.length ∧ N = N') := ⟨hN, by omega, hN', by omega, h0⟩
    clear hN hN' hs hs' mr ms h0
    go_enter Try.func10, Try.ntmps10
    go_wp2_with fail
    go_loopw [5] (fun ti wr => ∃ k : Nat, k ≤ N ∧ ti = .int .i64 k ∧ Hid (∀ j, j < k → X.getD j [] = Y.getD j []) ∧ Hid (w.grownBy wr none)) (fun ti _ => N - (intOf ti).toNat)
    case atStart => exact ⟨0, by omega, rfl, fun j hj => by omega, World.grownBy.refl _ _⟩
    case round =>
      obtain ⟨k, hk, rfl, HE, GK⟩ := hrel
      by_cases hlt : k < N
      · obtain ⟨b, off, rfl, hr⟩ := MR.out.row.spot (k := k) (by have := HN.out; omega)
        obtain ⟨b', off', rfl, ht⟩ := MS.out.row.spot (k := k) (by have := HN.out; omega)
        obtain ⟨pk, nk, ck, ek, hnk⟩ := (MR.out.vec k (by have := HN.out; omega)).opened
        obtain ⟨qk, mk, dk, fk, hmk⟩ := (MS.out.vec k (by have := HN.out; omega)).opened
        have VX : Hid (Vec w (.slice pk nk ck) (X.getD k [])) := by rw [← ek]; exact MR.out.vec k (by have := HN.out; omega)
        have VY : Hid (Vec w (.slice qk mk dk) (Y.getD k [])) := by rw [← fk]; exact MS.out.vec k (by have := HN.out; omega)
        rw [ek] at hr
        rw [fk] at ht
        have HY : Hid (∀ w', w.grownBy w' none → w'.cell? ⟨b, off + k, none⟩ = some (.slice pk nk ck) ∧ (convert 23 9 (.slice pk nk ck)).run Try.prog w' = .ok (.string (strOf (X.getD k []))) w' ∧
            w'.cell? ⟨b', off' + k, none⟩ = some (.slice qk mk dk) ∧ (convert 23 9 (.slice qk mk dk)).run Try.prog w' = .ok (.string (strOf (Y.getD k []))) w') := fun w' g =>
          ⟨g.cell hr (by simp), convert_vec (VX.out.keep g), g.cell ht (by simp), convert_vec (VY.out.keep g)⟩
        have i1 : (k : Int) < (N : Int) := by omega
        have i2 : (k : Int) < (N' : Int) := by have := HN.out; omega
        have i3 : (0 : Int) ≤ (k : Int) := by omega
        have hcmp := str_cmp VX.out.small VY.out.small
        clear ek fk hr ht hnk hmk
        by_cases he : X.getD k [] = Y.getD k []
        · have hd : decide (X.getD k [] = Y.getD k []) = true := decide_eq_true he
          rw [hd] at hcmp
          have HE' : Hid (∀ j, j < k + 1 → X.getD j [] = Y.getD j []) := fun j hj => by
            by_cases e : j = k
            · subst e; exact he
            · exact HE.out j (by omega)
          clear he hd HE VX VY
          generalize X.getD k [] = XK at *
          generalize Y.getD k [] = YK at *
          go_wp2_with fail
          go_region_held3 (fun w' => w'.cell? ⟨b, off + k, none⟩ = some (.slice pk nk ck) ∧ (convert 23 9 (.slice pk nk ck)).run Try.prog w' = .ok (.string (strOf XK)) w' ∧
              w'.cell? ⟨b', off' + k, none⟩ = some (.slice qk mk dk) ∧ (convert 23 9 (.slice qk mk dk)).run Try.prog w' = .ok (.string (strOf YK)) w')
            (first | exact HY.out _ (grown_trans GK.out (grown_drewN _ 1))) (fail)
          clear HY
          go_wp2
          go_roundw
          case rel => exact ⟨k + 1, by omega, by go_num, HE', grown_trans GK.out (grown_drewN _ 1)⟩
          case measure => simp [intOf]; omega
        · have hd : decide (X.getD k [] = Y.getD k []) = false := decide_eq_false he
          rw [hd] at hcmp
          have HNE : Hid (decide (X = Y) = false) := decide_eq_false fun e => he (by rw [e])
          clear he hd HE VX VY
          generalize X.getD k [] = XK at *
          generalize Y.getD k [] = YK at *
          go_wp2_with fail
          go_region_held3 (fun w' => w'.cell? ⟨b, off + k, none⟩ = some (.slice pk nk ck) ∧ (convert 23 9 (.slice pk nk ck)).run Try.prog w' = .ok (.string (strOf XK)) w' ∧
              w'.cell? ⟨b', off' + k, none⟩ = some (.slice qk mk dk) ∧ (convert 23 9 (.slice qk mk dk)).run Try.prog w' = .ok (.string (strOf YK)) w')
            (first | exact HY.out _ (grown_trans GK.out (grown_drewN _ 1))) (fail)
          clear HY
          go_wp2
          go_ret
          exact ⟨by rw [HNE.out]; rfl, grown_trans GK.out (grown_drewN _ 1)⟩
      · go_wp2
        go_ret
        have e : X = Y := list_ext (by have := HN.out; omega) (fun j hj => HE.out j (by have := HN.out; omega))
        exact ⟨by rw [decide_eq_true e]; rfl, GK.out⟩
  · have hb : ((N : Int) != (N' : Int)) = true := by simp; omega
    have HNE : Hid (decide (X = Y) = false) := decide_eq_false fun e => h0 (by rw [e] at hs; omega)
    clear hN hN' hs hs' mr ms h0
    go_enter Try.func10, Try.ntmps10
    go_wp2
    go_ret
    exact ⟨by rw [HNE.out]; rfl, World.grownBy.refl _ _⟩

/-- The first k places told by f, the others as they were. -/
def mix (f : Nat → Nat) (xs : List Nat) (k : Nat) : List Nat := (List.range xs.length).map fun j => if j < k then f j else xs.getD j 0
end Go.Proofs.Ythmdidiojjmebaa
