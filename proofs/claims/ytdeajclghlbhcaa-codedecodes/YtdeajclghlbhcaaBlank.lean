/- Contracts of matrix.within, May, blank, Identity. -/
import Derived.Test.YtdeajclghlbhcaaGrid
import Derived.Test.YtdeajclghlbhcaaRefMat
namespace Go.Proofs.Ytdeajclghlbhcaa
open Go.RowKit

theorem within_any (n : Int) (w : World) {b : Bool} (hb : (decide (1 ≤ n) && decide (n ≤ 255)) = b) :
    Calls Try.prog 60 #[.int .i64 n] w fun e w' => e = .returned (.bool b) ∧ w' = w := by
  subst hb
  by_cases h : 1 ≤ n
  all_goals
    go_enter Try.func60, Try.ntmps60
    go_wp2
    go_ret
    exact ⟨by first | (simp [h]; done) | (simp; omega), rfl⟩

theorem mayTo_all {X : List (List Nat)} {n k : Nat} (h1 : 1 ≤ n) (h2 : n ≤ 255) (h : ∀ j, j < k → (X.getD j []).length = n) : mayTo X n k = true := by
  unfold mayTo
  rw [decide_eq_true h1, decide_eq_true h2]
  simp only [Bool.true_and, List.all_eq_true, List.mem_range, beq_iff_eq]
  exact h
theorem mayTo_not {X : List (List Nat)} {n k j : Nat} (hj : j < k) (h : (X.getD j []).length ≠ n) : mayTo X n k = false := by
  unfold mayTo
  have : ((List.range k).all fun j => (X.getD j []).length == n) = false := by
    rw [Bool.eq_false_iff]
    intro e
    have := List.all_eq_true.1 e j (List.mem_range.2 hj)
    exact h (by simpa using this)
  rw [this]; simp

set_option maxHeartbeats 1600000 in
theorem may_any {w : World} {r : Value} {vs : List Value} {X : List (List Nat)} (mr : Mat w r vs X) :
    Calls Try.prog 56 #[r] w fun e w' => e = .returned (.bool (mayB X)) ∧ w' = w := by
  obtain ⟨q, N, cap, rfl, hN⟩ := mr.row.opened
  have hs := mr.same
  have hNl : N ≤ 140737488351232 := by have := mr.row.len; omega
  by_cases h0 : 1 ≤ N ∧ N ≤ 255
  · have hb : (decide (1 ≤ (N : Int)) && decide ((N : Int) ≤ 255)) = true := by simp; omega
    obtain ⟨b, off, rfl, hc⟩ := mr.row.spot (k := 0) (by omega)
    obtain ⟨p0, n0, c0, e0, hn0⟩ := (mr.vec 0 (by omega)).opened
    rw [e0] at hc
    have hc0 : w.cell? ⟨b, off, none⟩ = some (.slice p0 n0 c0) := hc
    have hpos : (0 : Int) < (N : Int) := by omega
    have hn0l : n0 ≤ 140737488351232 := by rw [hn0]; exact (mr.vec 0 (by omega)).len
    have MR : Hid (Mat w (.slice (some ⟨b, off, none⟩) N cap) vs X) := mr
    have HN : Hid (N = vs.length ∧ N = X.length ∧ n0 = (X.getD 0 []).length) := ⟨hN, by omega, hn0⟩
    have HR : Hid (mayB X = mayTo X n0 N) := by
      unfold mayB
      rw [show decide (1 ≤ X.length) = true from decide_eq_true (by omega), show decide (X.length ≤ 255) = true from decide_eq_true (by omega), ← hn0, ← hs, ← hN]
      rfl
    rw [HR.out]
    have WN : Hid (∀ r w, r = Value.int .i64 (N : Int) → Calls Try.prog 60 #[r] w fun e w' => e = .returned (.bool true) ∧ w' = w) := fun r w e => e ▸ within_any _ w hb
    by_cases h1 : 1 ≤ n0 ∧ n0 ≤ 255
    · have WM : Hid (∀ r w, r = Value.int .i64 (n0 : Int) → Calls Try.prog 60 #[r] w fun e w' => e = .returned (.bool true) ∧ w' = w) := fun r w e => e ▸ within_any _ w (by simp; omega)
      have H1 : Hid (1 ≤ n0 ∧ n0 ≤ 255) := h1
      clear hc e0 hn0 hN hs mr h0 hb h1
      go_enter Try.func56, Try.ntmps56
      go_wp2_with (go_at_call 60; (first | refine (WN.out _ _ (by with_reducible rfl)).mono ?_ | refine (WM.out _ _ (by with_reducible rfl)).mono ?_); rintro e w1 ⟨rfl, hw⟩; obtain rfl := hw.symm; clear hw)
      go_loop [19] (fun ti => ∃ k : Nat, k ≤ N ∧ ti = .int .i64 k ∧ Hid (∀ j, j < k → (X.getD j []).length = n0)) (fun ti => N - (intOf ti).toNat)
      case atStart => exact ⟨0, by omega, rfl, fun j hj => by omega⟩
      case round =>
        obtain ⟨k, hk, rfl, HA⟩ := hrel
        by_cases hlt : k < N
        · obtain ⟨b1, o1, e1, hr⟩ := MR.out.row.spot (k := k) (by have := HN.out; omega)
          obtain ⟨rfl, rfl⟩ : b = b1 ∧ off = o1 := by
            injection e1 with e1
            injection e1 with e2 e3
            exact ⟨e2, e3⟩
          obtain ⟨pk, nk, ck, ek, hnk⟩ := (MR.out.vec k (by have := HN.out; omega)).opened
          rw [ek] at hr
          clear e1 ek
          have i2 : (k : Int) < (N : Int) := by omega
          have i3 : (0 : Int) ≤ (k : Int) := by omega
          by_cases he : nk = n0
          · have hne : ((nk : Int) != (n0 : Int)) = false := by simp [he]
            have HA' : Hid (∀ j, j < k + 1 → (X.getD j []).length = n0) := fun j hj => by
              by_cases e : j = k
              · subst e; omega
              · exact HA.out j (by omega)
            clear he hnk
            go_wp2
            go_round
            case rel => exact ⟨k + 1, by omega, by go_num, HA'⟩
            case measure => simp [intOf]; omega
          · have hne : ((nk : Int) != (n0 : Int)) = true := by simp; omega
            have HM : Hid (mayTo X n0 N = false) := mayTo_not (j := k) hlt (by omega)
            clear he hnk
            go_wp2
            go_ret
            exact ⟨by rw [HM.out]; rfl, rfl⟩
        · have HM : Hid (mayTo X n0 N = true) := mayTo_all H1.out.1 H1.out.2 (fun j hj => HA.out j (by omega))
          go_wp2
          go_ret
          exact ⟨by rw [HM.out]; rfl, rfl⟩
    · have WM : Hid (∀ r w, r = Value.int .i64 (n0 : Int) → Calls Try.prog 60 #[r] w fun e w' => e = .returned (.bool false) ∧ w' = w) := fun r w e => e ▸ within_any _ w (by simp; omega)
      have HM : Hid (mayTo X n0 N = false) := by
        show _ = _
        unfold mayTo
        by_cases h : 1 ≤ n0
        · rw [show decide (n0 ≤ 255) = false from decide_eq_false (by omega)]; simp
        · rw [show decide (1 ≤ n0) = false from decide_eq_false h]; simp
      clear hc e0 hn0 hN hs mr h0 hb
      go_enter Try.func56, Try.ntmps56
      go_wp2_with (go_at_call 60; (first | refine (WN.out _ _ (by with_reducible rfl)).mono ?_ | refine (WM.out _ _ (by with_reducible rfl)).mono ?_); rintro e w1 ⟨rfl, hw⟩; obtain rfl := hw.symm; clear hw)
      go_ret
      exact ⟨by rw [HM.out]; rfl, rfl⟩
  · have hz : mayB X = false := by
      unfold mayB
      by_cases h : 1 ≤ X.length
      · rw [show decide (X.length ≤ 255) = false from decide_eq_false (by omega)]; simp
      · rw [show decide (1 ≤ X.length) = false from decide_eq_false h]; simp
    rw [hz]
    have WN : Hid (∀ w, Calls Try.prog 60 #[.int .i64 (N : Int)] w fun e w' => e = .returned (.bool false) ∧ w' = w) := fun w => within_any _ w (by simp; omega)
    clear h0 hN hs mr hz
    go_enter Try.func56, Try.ntmps56
    go_wp2_with (go_at_call 60; refine (WN.out _).mono ?_; rintro e w1 ⟨rfl, hw⟩; obtain rfl := hw.symm; clear hw)
    go_ret
    exact ⟨rfl, rfl⟩

theorem rep_set {α : Type} (a b : α) (k n : Nat) : (List.replicate k a ++ List.replicate (n + 1) b).set k a = List.replicate (k + 1) a ++ List.replicate n b := by
  rw [List.set_append_right _ _ (by simp)]
  simp only [List.length_replicate, Nat.sub_self, List.replicate_succ, List.set_cons_zero]
  rw [← List.replicate_succ, List.replicate_succ', List.append_assoc]; rfl

set_option maxHeartbeats 1600000 in
theorem blank_any (n m : Nat) (w : World) (hn : n ≤ 255) (hm : m ≤ 510) :
    Calls Try.prog 65 #[.int .i64 (n : Int), .int .i64 (m : Int)] w fun e w' => ∃ v us, e = .returned v ∧ OwnMat w.heap.size w' v us (List.replicate n (List.replicate m 0)) ∧ Sep us ∧ w.grownBy w' none := by
  go_enter Try.func65, Try.ntmps65
  go_wp2_with (at_make; refine wpList_make_rows rfl _ _ rfl n rfl rfl (by omega) ?_; intro w1 p om g1; have OM : Hid (OwnMat w.heap.size w1 (.slice p n n) (List.replicate n (.slice none 0 0)) (List.replicate n [])) := om; have G1 : Hid (w.grownBy w1 none) := g1; clear om g1)
  go_loopw [11] (fun ti wr => ∃ (k : Nat) (us : List Value), k ≤ n ∧ ti = .int .i64 k ∧ Hid (OwnMat w.heap.size wr (.slice p n n) us (List.replicate k (List.replicate m 0) ++ List.replicate (n - k) [])) ∧ Hid (Sep us) ∧ Hid (w.grownBy wr none)) (fun ti _ => n - (intOf ti).toNat)
  case atStart =>
    have h0 : OwnMat w.heap.size w1 (.slice p n n) (List.replicate n (.slice none 0 0)) (List.replicate 0 (List.replicate m 0) ++ List.replicate (n - 0) []) := by simpa using OM.out
    exact ⟨0, _, by omega, rfl, h0, Sep.nils n, G1.out⟩
  case round =>
    clear OM G1
    obtain ⟨k, us, hk, rfl, OK, SK, GK⟩ := hrel
    by_cases hlt : k < n
    · have i1 : (k : Int) < (n : Int) := by omega
      have i3 : (0 : Int) ≤ (k : Int) := by omega
      have HX : Hid ((List.replicate k (List.replicate m 0) ++ List.replicate (n - k) ([] : List Nat)).set k (List.replicate m 0) = List.replicate (k + 1) (List.replicate m 0) ++ List.replicate (n - (k + 1)) []) := by
        have := rep_set (List.replicate m 0) ([] : List Nat) k (n - (k + 1))
        rw [show n - (k + 1) + 1 = n - k from by omega] at this
        exact this
      have HL : Hid (k < (List.replicate k (List.replicate m 0) ++ List.replicate (n - k) ([] : List Nat)).length) := by show _ < _; simp; omega
      generalize List.replicate k (List.replicate m 0) ++ List.replicate (n - k) ([] : List Nat) = XK at *
      obtain ⟨g, rfl, _⟩ := OK.out.place (k := k) HL.out
      go_wp2_with (first
        | (at_make; refine wpList_make_vec rfl _ _ rfl m rfl rfl (by omega) ?_; intro w2 pu ou g2; obtain ⟨g', e', hb, hc, hf, hput, hown, hgr⟩ := (OK.out.keep g2).place (k := k) HL.out; obtain rfl : g = g' := (by injection e' with e'; injection e' with e'); have OU : Hid (Own wr.heap.size w2 (.slice pu m m) (List.replicate m 0)) := ou; have G2 : Hid (wr.grownBy w2 none) := g2; have PUT : Hid _ := hput; have GR : Hid _ := hgr; have HB : Hid (w.heap.size ≤ g) := hb; clear ou g2 e' hput hgr hown hb))
      have R : Hid (OwnMat w.heap.size (w2.setCell ⟨g, k, none⟩ (.slice pu m m)) (.slice (some ⟨g, 0, none⟩) n n) (us.set k (.slice pu m m)) (List.replicate (k + 1) (List.replicate m 0) ++ List.replicate (n - (k + 1)) []) ∧ Sep (us.set k (.slice pu m m)) ∧ w.grownBy (w2.setCell ⟨g, k, none⟩ (.slice pu m m)) none) := by
        refine ⟨?_, SK.out.put (H := wr.heap.size) (OK.out.hiRow) OU.out.lo k, ?_⟩
        · rw [← HX.out]
          exact PUT.out _ _ (OU.out.down GK.out.size)
        · exact grown_new (grown_trans GK.out G2.out) (GR.out _) (fun i e => by have := Option.some.inj e; have := HB.out; omega)
      clear OK SK GK OU G2 PUT GR HX HL HB
      go_roundw
      case rel => exact ⟨k + 1, us.set k (.slice pu m m), by omega, by go_num, R.out.1, R.out.2.1, R.out.2.2⟩
      case measure => simp [intOf]; omega
    · have hkn : n = k := by omega
      subst hkn
      go_wp2
      go_ret
      have h0 := OK.out
      rw [Nat.sub_self, List.replicate_zero, List.append_nil] at h0
      exact ⟨_, us, rfl, h0, SK.out, GK.out⟩
end Go.Proofs.Ytdeajclghlbhcaa
