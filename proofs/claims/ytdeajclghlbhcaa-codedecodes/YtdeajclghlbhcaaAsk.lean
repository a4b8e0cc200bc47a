/- Contracts of code.May, asLong, fits and of the document's May and Even. -/
import Derived.Test.YtdeajclghlbhcaaMulM
namespace Go.Proofs.Ytdeajclghlbhcaa
open Go.RowKit

/-- Whether a shape may be. -/
def mayI (k n : Int) : Bool := decide (1 ≤ k) && (decide (k < n) && decide (n ≤ 255))
theorem mayI_iff {k n : Int} : mayI k n = true ↔ 1 ≤ k ∧ k < n ∧ n ≤ 255 := by unfold mayI; simp
theorem mayI_not {k n : Int} (h : ¬ (1 ≤ k ∧ k < n ∧ n ≤ 255)) : mayI k n = false := by
  rw [Bool.eq_false_iff]
  exact fun e => h (mayI_iff.1 e)

theorem codeMay_any (k n : Int) (w : World) : Calls Try.prog 10 #[.int .i64 k, .int .i64 n] w fun e w' => e = .returned (.bool (mayI k n)) ∧ w' = w := by
  by_cases h1 : 1 ≤ k
  · by_cases h2 : k < n
    · by_cases h3 : n ≤ 255
      · have HE : Hid (mayI k n = true) := mayI_iff.2 ⟨by omega, h2, by omega⟩
        go_enter Try.func10, Try.ntmps10
        go_wp2
        go_ret
        exact ⟨by rw [HE.out]; first | rfl | (rw [decide_eq_true h3]), rfl⟩
      · have HE : Hid (mayI k n = false) := mayI_not (by omega)
        go_enter Try.func10, Try.ntmps10
        go_wp2
        go_ret
        exact ⟨by rw [HE.out]; first | rfl | (rw [decide_eq_false h3]), rfl⟩
    · have HE : Hid (mayI k n = false) := mayI_not (by omega)
      go_enter Try.func10, Try.ntmps10
      go_wp2
      go_ret
      exact ⟨by rw [HE.out]; rfl, rfl⟩
  · have HE : Hid (mayI k n = false) := mayI_not (by omega)
    go_enter Try.func10, Try.ntmps10
    go_wp2
    go_ret
    exact ⟨by rw [HE.out]; rfl, rfl⟩

theorem refMay4_any (k n : Int) (w : World) : Calls Try.prog 11 #[.int .i64 k, .int .i64 n] w fun e w' => e = .returned (.bool (mayI k n)) ∧ w' = w := by
  by_cases h1 : 0 < k
  · by_cases h2 : k < n
    · by_cases h3 : n < 256
      · have HE : Hid (mayI k n = true) := mayI_iff.2 ⟨by omega, h2, by omega⟩
        go_enter Try.func11, Try.ntmps11
        go_wp2
        go_ret
        exact ⟨by rw [HE.out]; first | rfl | (rw [decide_eq_true h3]), rfl⟩
      · have HE : Hid (mayI k n = false) := mayI_not (by omega)
        go_enter Try.func11, Try.ntmps11
        go_wp2
        go_ret
        exact ⟨by rw [HE.out]; first | rfl | (rw [decide_eq_false h3]), rfl⟩
    · have HE : Hid (mayI k n = false) := mayI_not (by omega)
      go_enter Try.func11, Try.ntmps11
      go_wp2
      go_ret
      exact ⟨by rw [HE.out]; rfl, rfl⟩
  · have HE : Hid (mayI k n = false) := mayI_not (by omega)
    go_enter Try.func11, Try.ntmps11
    go_wp2
    go_ret
    exact ⟨by rw [HE.out]; rfl, rfl⟩

/-- Whether chunks are all as long. -/
def evenB (X : List (List Nat)) : Bool := (List.range X.length).all fun j => (X.getD j []).length == (X.getD 0 []).length
theorem evenB_iff {X : List (List Nat)} : evenB X = true ↔ ∀ j, j < X.length → (X.getD j []).length = (X.getD 0 []).length := by
  unfold evenB
  simp only [List.all_eq_true, List.mem_range, beq_iff_eq]
theorem evenB_not {X : List (List Nat)} {j : Nat} (hj : j < X.length) (h : (X.getD j []).length ≠ (X.getD 0 []).length) : evenB X = false := by
  rw [Bool.eq_false_iff]
  exact fun e => h (evenB_iff.1 e j hj)
theorem even_shape {X : List (List Nat)} (h : evenB X = true) : Shape X X.length (X.getD 0 []).length := ⟨rfl, evenB_iff.1 h⟩

set_option maxHeartbeats 1600000 in
theorem asLong_any {w : World} {r : Value} {vs : List Value} {X : List (List Nat)} (mr : Mat w r vs X) :
    Calls Try.prog 33 #[r] w fun e w' => e = .returned (.bool (evenB X)) ∧ w' = w := by
  obtain ⟨q, N, cap, rfl, hN⟩ := mr.row.opened
  have hs := mr.same
  have hNl : N ≤ 140737488351232 := by have := mr.row.len; omega
  by_cases h0 : N = 0
  · subst h0
    have HE : Hid (evenB X = true) := evenB_iff.2 fun j hj => by omega
    clear hN hs mr
    go_enter Try.func33, Try.ntmps33
    go_wp2_with fail
    go_loop [7] (fun ti => ti = .int .i64 0) (fun _ => 0)
    case atStart => exact rfl
    case round =>
      obtain rfl := hrel
      go_wp2
      go_ret
      exact ⟨by rw [HE.out]; rfl, rfl⟩
  · obtain ⟨b, off, rfl, hc⟩ := mr.row.spot (k := 0) (by omega)
    obtain ⟨p0, n0, c0, e0, hn0⟩ := (mr.vec 0 (by omega)).opened
    rw [e0, Nat.add_zero] at hc
    have HN : Hid (N = X.length ∧ n0 = (X.getD 0 []).length) := ⟨by omega, hn0⟩
    have MR : Hid (Mat w (.slice (some ⟨b, off, none⟩) N cap) vs X) := mr
    have hN0 : (0 : Int) < (N : Int) := by omega
    clear e0 hn0 hN hs mr
    go_enter Try.func33, Try.ntmps33
    go_wp2_with fail
    go_loop [7] (fun ti => ∃ k : Nat, k ≤ N ∧ ti = .int .i64 k ∧ Hid (∀ j, j < k → (X.getD j []).length = n0)) (fun ti => N - (intOf ti).toNat)
    case atStart => exact ⟨0, by omega, rfl, fun j hj => by omega⟩
    case round =>
      obtain ⟨k, hk, rfl, HA⟩ := hrel
      by_cases hlt : k < N
      · obtain ⟨b1, o1, e1, hr⟩ := MR.out.row.spot (k := k) (by have := HN.out; have := MR.out.same; omega)
        obtain ⟨rfl, rfl⟩ : b = b1 ∧ off = o1 := by
          injection e1 with e1
          injection e1 with e2 e3
          exact ⟨e2, e3⟩
        obtain ⟨pk, nk, ck, ek, hnk⟩ := (MR.out.vec k (by have := HN.out; omega)).opened
        rw [ek] at hr
        clear e1 ek
        have i2 : (k : Int) < (N : Int) := by omega
        have i3 : (0 : Int) ≤ (k : Int) := by omega
        by_cases he : nk = n0
        · have hne : ((nk : Int) != (n0 : Int)) = false := by simp [he]
          have HA' : Hid (∀ j, j < k + 1 → (X.getD j []).length = n0) := fun j hj => by
            by_cases e : j = k
            · subst e; omega
            · exact HA.out j (by omega)
          clear he hnk
          go_wp2
          go_round
          case rel => exact ⟨k + 1, by omega, by go_num, HA'⟩
          case measure => simp [intOf]; omega
        · have hne : ((nk : Int) != (n0 : Int)) = true := by simp; omega
          have HM : Hid (evenB X = false) := evenB_not (j := k) (by have := HN.out; omega) (by have := HN.out; omega)
          clear he hnk
          go_wp2
          go_ret
          exact ⟨by rw [HM.out]; rfl, rfl⟩
      · have HM : Hid (evenB X = true) := evenB_iff.2 fun j hj => by rw [HA.out j (by have := HN.out; omega)]; exact HN.out.2
        go_wp2
        go_ret
        exact ⟨by rw [HM.out]; rfl, rfl⟩

set_option maxHeartbeats 1600000 in
theorem refEven_any {w : World} {r : Value} {vs : List Value} {X : List (List Nat)} (mr : Mat w r vs X) :
    Calls Try.prog 31 #[r] w fun e w' => e = .returned (.bool (evenB X)) ∧ w.grownBy w' none := by
  obtain ⟨q, N, cap, rfl, hN⟩ := mr.row.opened
  have hs := mr.same
  have hNl : N ≤ 140737488351232 := by have := mr.row.len; omega
  have HN : Hid (N = X.length) := by show _ = _; omega
  have MR : Hid (∀ w', w.grownBy w' none → Mat w' (.slice q N cap) vs X) := fun w' g => mr.keep g
  clear hN hs mr
  go_enter Try.func31, Try.ntmps31
  go_wp2_with fail
  go_loopw [3] (fun ti wr => ∃ k : Nat, 1 ≤ k ∧ (k ≤ N ∨ k = 1) ∧ ti = .int .i64 k ∧ Hid (w.grownBy wr none) ∧ Hid (∀ j, j < k → (X.getD j []).length = (X.getD 0 []).length)) (fun ti _ => N - (intOf ti).toNat)
  case atStart => exact ⟨1, by omega, by omega, rfl, World.grownBy.refl _ _, fun j hj => by rw [show j = 0 from by omega]⟩
  case round =>
    obtain ⟨k, hk1, hk, rfl, GK, HA⟩ := hrel
    by_cases hlt : k < N
    · have GD : w.grownBy wr.drew none := grown_trans GK.out (grown_drewN _ 1)
      have MK := MR.out _ GD
      obtain ⟨b, off, rfl, hc⟩ := MK.row.spot (k := 0) (by have := HN.out; have := MK.same; omega)
      obtain ⟨p0, n0, c0, e0, hn0⟩ := (MK.vec 0 (by have := HN.out; omega)).opened
      rw [e0, Nat.add_zero] at hc
      obtain ⟨b1, o1, e1, hr⟩ := MK.row.spot (k := k) (by have := HN.out; have := MK.same; omega)
      obtain ⟨rfl, rfl⟩ : b = b1 ∧ off = o1 := by
        injection e1 with e1
        injection e1 with e2 e3
        exact ⟨e2, e3⟩
      obtain ⟨pk, nk, ck, ek, hnk⟩ := (MK.vec k (by have := HN.out; omega)).opened
      rw [ek] at hr
      clear e1 ek e0 MK
      have i1 : (0 : Int) < (N : Int) := by omega
      have i4 : 0 < N := by omega
      have i2 : (k : Int) < (N : Int) := by omega
      have i3 : (0 : Int) ≤ (k : Int) := by omega
      have GD' : Hid (w.grownBy wr.drew none) := GD
      clear GD
      by_cases he : nk = n0
      · have hne : ((nk : Int) != (n0 : Int)) = false := by simp [he]
        have HA' : Hid (∀ j, j < k + 1 → (X.getD j []).length = (X.getD 0 []).length) := fun j hj => by
          by_cases e : j = k
          · subst e; omega
          · exact HA.out j (by omega)
        clear he hnk hn0
        go_wp2_with fail
        go_region
        all_goals
          go_wp2
          go_roundw
          case rel => exact ⟨k + 1, by omega, by omega, by go_num, GD'.out, HA'⟩
          case measure => simp [intOf]; omega
      · have hne : ((nk : Int) != (n0 : Int)) = true := by simp; omega
        have HM : Hid (evenB X = false) := evenB_not (j := k) (by have := HN.out; omega) (by omega)
        clear he hnk hn0
        go_wp2_with fail
        go_region
        all_goals
          go_wp2
          go_ret
          exact ⟨by rw [HM.out]; rfl, GD'.out⟩
    · have HM : Hid (evenB X = true) := evenB_iff.2 fun j hj => HA.out j (by have := HN.out; omega)
      go_wp2
      go_ret
      exact ⟨by rw [HM.out]; rfl, GK.out⟩

/-- Whether data are of a shape that may be. -/
def fitsB (k n : Int) (X : List (List Nat)) : Bool := mayI k n && (decide ((X.length : Int) = k) && evenB X)
theorem fitsB_iff {k n : Int} {X : List (List Nat)} : fitsB k n X = true ↔ (1 ≤ k ∧ k < n ∧ n ≤ 255) ∧ (X.length : Int) = k ∧ evenB X = true := by
  unfold fitsB
  rw [Bool.and_eq_true, Bool.and_eq_true, mayI_iff, decide_eq_true_iff]

theorem fits_any {k n : Int} {w : World} {r : Value} {vs : List Value} {X : List (List Nat)} (mr : Mat w r vs X) :
    Calls Try.prog 29 #[.int .i64 k, .int .i64 n, r] w fun e w' => e = .returned (.bool (fitsB k n X)) ∧ w' = w := by
  obtain ⟨q, N, cap, rfl, hN⟩ := mr.row.opened
  have hs := mr.same
  have hNl : N ≤ 140737488351232 := by have := mr.row.len; omega
  have HN : Hid (N = X.length) := by show _ = _; omega
  have HF : Hid (fitsB k n X = (mayI k n && (decide ((N : Int) = k) && evenB X))) := by show _ = _; unfold fitsB; rw [HN.out]
  have MM : Hid (∀ w, Calls Try.prog 10 #[.int .i64 k, .int .i64 n] w fun e w' => e = .returned (.bool (mayI k n)) ∧ w' = w) := fun w => codeMay_any k n w
  have AA : Hid (Calls Try.prog 33 #[.slice q N cap] w fun e w' => e = .returned (.bool (evenB X)) ∧ w' = w) := asLong_any mr
  clear hN hs mr
  generalize evenB X = be at *
  generalize mayI k n = bm at *
  by_cases hk : (N : Int) = k
  all_goals
    cases bm
    all_goals
      go_enter Try.func29, Try.ntmps29
      go_wp2_with (first
        | (go_at_call 10; refine (MM.out _).mono ?_; rintro e w1 ⟨rfl, hw⟩; obtain rfl := hw.symm; clear hw)
        | (go_at_call 33; refine AA.out.mono ?_; rintro e w1 ⟨rfl, hw⟩; obtain rfl := hw.symm; clear hw))
      go_ret
      exact ⟨by rw [HF.out]; first | rfl | (rw [decide_eq_true hk]; rfl) | (rw [decide_eq_false hk]; rfl) | (rw [decide_eq_true hk]; simp), rfl⟩
end Go.Proofs.Ytdeajclghlbhcaa
