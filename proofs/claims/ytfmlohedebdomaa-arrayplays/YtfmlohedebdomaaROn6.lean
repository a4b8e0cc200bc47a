/- The document's array: Write, whatever it is handed; On, Ons. -/
import Derived.Test.YtfmlohedebdomaaRWr6
set_option linter.unusedSimpArgs false
set_option linter.unusedVariables false
namespace Go.Proofs.Ytfmlohedebdomaa
open Go.RowKit
section
variable {G : Nat → Prop} {w : World} {r : Nat} {A : AM.RA}
theorem rwrite_no (h : RIs G w r A) {d k : Int} {v : Value} (hr : A.why d k ≠ 0) : Calls Try.prog 14 #[rptr r, .int .i64 d, .int .i64 k, v] w fun e w' => e = .returned (.int .i64 (A.why d k : Int)) ∧ w' = w := by
  have HC : Hid (Calls Try.prog 42 #[rptr r, .int .i64 d, .int .i64 k] w fun e w' => e = .returned (.int .i64 (A.why d k : Int)) ∧ w' = w) := rwhy_yes h d k
  have hne : ¬ (A.why d k : Int) = 0 := by omega
  clear h hr
  generalize (A.why d k : Int) = z at *
  go_enter Try.func14, Try.ntmps14
  go_wp2_with (go_at_call 42; refine HC.out.mono ?_; rintro e w1 ⟨rfl, hw⟩; obtain rfl := hw.symm; clear hw)
  go_ret
  exact ⟨rfl, rfl⟩
theorem rwrite_arg (h : RIs G w r A) {d k : Int} {v : Value} {b : List Nat} (hr : A.why d k = 0) (hv : Vec w v b) (hb : b.length ≠ 64) : Calls Try.prog 14 #[rptr r, .int .i64 d, .int .i64 k, v] w fun e w' => e = .returned (.int .i64 1) ∧ w' = w := by
  have HC : Hid (Calls Try.prog 42 #[rptr r, .int .i64 d, .int .i64 k] w fun e w' => e = .returned (.int .i64 0) ∧ w' = w) := by have := rwhy_yes h d k; rw [hr] at this; exact this
  obtain ⟨p, n, cap, rfl, hn⟩ := hv.opened
  have hne : ¬ (n : Int) = 64 := by omega
  clear h hr hv hb hn
  go_enter Try.func14, Try.ntmps14
  go_wp2_with (go_at_call 42; refine HC.out.mono ?_; rintro e w1 ⟨rfl, hw⟩; obtain rfl := hw.symm; clear hw)
  go_ret
  exact ⟨rfl, rfl⟩
theorem rwrite_off (h : RIs G w r A) {d k : Int} {v : Value} {b : List Nat} (hr : A.why d k = 0) (hv : Vec w v b) (hb : b.length = 64) (hbu : A.burns = true) : Calls Try.prog 14 #[rptr r, .int .i64 d, .int .i64 k, v] w fun e w' => e = .returned (.int .i64 8) ∧ RIs G w' r A.burnt ∧ Step G w G w' := by
  have HC : Hid (Calls Try.prog 42 #[rptr r, .int .i64 d, .int .i64 k] w fun e w' => e = .returned (.int .i64 0) ∧ w' = w) := by have := rwhy_yes h d k; rw [hr] at this; exact this
  have HB : Hid (Calls Try.prog 43 #[rptr r] w fun e w' => e = .returned (.bool true) ∧ RIs G w' r A.burnt ∧ Step G w G w') := by have := rgoes_yes h (rwhy_zero hr).1; rw [hbu] at this; exact this
  obtain ⟨p, n, cap, rfl, hn⟩ := hv.opened
  obtain rfl : n = 64 := by omega
  clear h hr hv hb hn hbu
  go_enter Try.func14, Try.ntmps14
  go_wp2_with (first
    | (go_at_call 42; refine HC.out.mono ?_; rintro e w1 ⟨rfl, hw⟩; obtain rfl := hw.symm; clear hw)
    | (go_at_call 43; refine HB.out.mono ?_; rintro e w1 ⟨rfl, hi1, hs1⟩; have HI1 : Hid (RIs G w1 r A.burnt ∧ Step G w G w1) := ⟨hi1, hs1⟩; clear hi1 hs1))
  go_ret
  exact ⟨rfl, HI1.out⟩
theorem rwrite_any (h : RIs G w r A) (d k : Int) {v : Value} {b : List Nat} (hv : Vec w v b) (hvF : b ≠ [] → ∀ g, v.ownBlock = some g → ¬ G g) (hL : A.L.length ≤ 1000000) :
    Calls Try.prog 14 #[rptr r, .int .i64 d, .int .i64 k, v] w fun e w' => e = .returned (.int .i64 ((A.writes d k b).1 : Int)) ∧ ∃ G', RIs G' w' r (A.writes d k b).2 ∧ Step G w G' w' := by
  by_cases hr : A.why d k = 0
  · by_cases hb : b.length = 64
    · cases hbu : A.burns with
      | true =>
        refine (rwrite_off h hr hv hb hbu).mono ?_
        rintro e w' ⟨rfl, h1, h2⟩
        simp only [AM.RA.writes, hr, hb, hbu]
        exact ⟨rfl, G, h1, h2⟩
      | false =>
        obtain ⟨_, d1, _, k1, _, _⟩ := rwhy_zero hr
        obtain ⟨D, rfl⟩ : ∃ D : Nat, d = (D : Int) := ⟨d.toNat, by omega⟩
        obtain ⟨K, rfl⟩ : ∃ K : Nat, k = (K : Int) := ⟨k.toNat, by omega⟩
        refine (rwrite_fly h hr hv hvF hb hbu hL).mono ?_
        rintro e w' ⟨rfl, G', h1, h2⟩
        simp only [AM.RA.writes, hr, hb, hbu]
        exact ⟨rfl, G', h1, h2⟩
    · refine (rwrite_arg h hr hv hb).mono ?_
      rintro e w' ⟨rfl, rfl⟩
      simp only [AM.RA.writes, hr]
      rw [if_neg (by simp), if_pos hb]
      exact ⟨rfl, G, h, Step.refl G w'⟩
  · refine (rwrite_no h hr).mono ?_
    rintro e w' ⟨rfl, rfl⟩
    simp only [AM.RA.writes, if_pos hr]
    exact ⟨trivial, G, h, Step.refl G w'⟩

theorem rgone_cell (h : RIs G w r A) {i : Nat} (hi : i < A.D.length) : ∃ dg dc, w.cell? ⟨r, 0, none⟩ = some (.slice (some ⟨dg, 0, none⟩) A.D.length dc) ∧ w.cell? ⟨dg, i * 2 + 1, none⟩ = some (.bool (!(A.D.getD i none).isSome)) := by
  obtain ⟨dp, dc, ds, lp, lc, fs, h⟩ := h
  obtain ⟨c0, _⟩ := h.topCells
  obtain ⟨dg, v, rfl, _, _, e1, _⟩ := h.disk hi
  refine ⟨dg, dc, c0, ?_⟩
  rw [e1]
  simp [List.getD, hi]
theorem ron_yes (h : RIs G w r A) (d : Int) : Calls Try.prog 56 #[rptr r, .int .i64 d] w fun e w' => e = .returned (.bool (A.on d)) ∧ w' = w := by
  by_cases hin : 0 ≤ d ∧ d < (A.D.length : Int)
  · obtain ⟨i1, i2⟩ := hin
    obtain ⟨i, rfl⟩ : ∃ n : Nat, d = (n : Int) := ⟨d.toNat, by omega⟩
    obtain ⟨dg, dc, c0, e1⟩ := rgone_cell h (i := i) (by omega)
    have hD2 : A.D.length ≤ 255 := by obtain ⟨_, _, _, _, _, _, h⟩ := h; exact h.d2
    have HR : Hid (A.on (i : Int) = (A.D.getD i none).isSome) := by show _ = _; unfold AM.RA.on; rw [decide_eq_true i1, decide_eq_true i2]; simp
    clear h
    generalize A.D.length = N at *
    cases hg : (A.D.getD i none).isSome with
    | true =>
      rw [hg] at e1 HR
      have e1 : w.cell? ⟨dg, i * 2 + 1, none⟩ = some (.bool false) := e1
      clear hg
      go_enter Try.func56, Try.ntmps56
      go_wp2
      go_ret
      exact ⟨by rw [HR.out]; rfl, rfl⟩
    | false =>
      rw [hg] at e1 HR
      have e1 : w.cell? ⟨dg, i * 2 + 1, none⟩ = some (.bool true) := e1
      clear hg
      go_enter Try.func56, Try.ntmps56
      go_wp2
      go_ret
      exact ⟨by rw [HR.out]; rfl, rfl⟩
  · have HR : Hid (A.on d = false) := by
      show _ = _
      unfold AM.RA.on
      by_cases h0 : 0 ≤ d
      · rw [decide_eq_false (p := d < (A.D.length : Int)) (fun c => hin ⟨h0, c⟩)]; simp
      · rw [decide_eq_false h0]; simp
    obtain ⟨dp, dc, ds, lp, lc, fs, h⟩ := h
    obtain ⟨c0, _⟩ := h.topCells
    clear h
    generalize A.D.length = N at *
    by_cases h0 : d < 0
    · clear hin
      go_enter Try.func56, Try.ntmps56
      go_wp2
      go_ret
      exact ⟨by rw [HR.out]; rfl, rfl⟩
    · have h1 : (N : Int) ≤ d := by omega
      clear hin
      go_enter Try.func56, Try.ntmps56
      go_wp2
      go_ret
      exact ⟨by rw [HR.out]; rfl, rfl⟩

def rcnt (A : AM.RA) (k : Nat) : Nat := (A.D.take k).countP (·.isSome)
theorem rcnt_step {A : AM.RA} {k : Nat} (h : k < A.D.length) : rcnt A (k + 1) = rcnt A k + (if (A.D.getD k none).isSome then 1 else 0) := by
  unfold rcnt
  rw [List.take_succ_eq_append_getElem h, List.countP_append]
  simp [List.countP_cons, List.getD, h]
theorem rcnt_le (A : AM.RA) (k : Nat) : rcnt A k ≤ k := Nat.le_trans List.countP_le_length (by simp; omega)
theorem rons_yes (h : RIs G w r A) : Calls Try.prog 54 #[rptr r] w fun e w' => e = .returned (.int .i64 (A.ons : Int)) ∧ w' = w := by
  have H : Hid (RIs G w r A) := h
  have hD2 : A.D.length ≤ 255 := by obtain ⟨_, _, _, _, _, _, h⟩ := h; exact h.d2
  obtain ⟨N, hN⟩ : ∃ N, N = A.D.length := ⟨_, rfl⟩
  have HN : Hid (N = A.D.length) := hN
  rw [← hN] at hD2
  obtain ⟨dp, dc, ds, lp, lc, fs, h⟩ := h
  obtain ⟨z0, _⟩ := h.topCells
  have HC : Hid (w.cell? ⟨r, 0, none⟩ = some (.slice dp N dc)) := by rw [hN]; exact z0
  clear h hN z0
  go_enter Try.func54, Try.ntmps54
  go_wp2
  go_loop [3, 4] (fun tc ti => ∃ k : Nat, k ≤ N ∧ ti = .int .i64 (k : Int) ∧ tc = .int .i64 (rcnt A k : Int)) (fun _ ti => N - (intOf ti).toNat)
  case atStart => exact ⟨0, by omega, rfl, by simp [rcnt]⟩
  case round =>
    obtain ⟨k, hk, rfl, rfl⟩ := hrel
    by_cases hlt : k < N
    · have i1 : (k : Int) < (N : Int) := by omega
      have hkl : k < A.D.length := by rw [← HN.out]; exact hlt
      have hs := rcnt_step hkl
      have hcl := rcnt_le A k
      obtain ⟨dg, dc2, c0, e1⟩ := rgone_cell H.out hkl
      rw [← HN.out] at c0
      cases hg : (A.D.getD k none).isSome with
      | true =>
        rw [hg] at e1 hs
        have e1 : w.cell? ⟨dg, k * 2 + 1, none⟩ = some (.bool false) := e1
        have HS : Hid (rcnt A (k + 1) = rcnt A k + 1) := hs
        clear hs hg
        generalize rcnt A k = c at *
        go_wp2
        go_round
        case rel => exact ⟨k + 1, by omega, by go_num, by rw [HS.out]; go_num⟩
        case measure => simp [intOf]; omega
      | false =>
        rw [hg] at e1 hs
        have e1 : w.cell? ⟨dg, k * 2 + 1, none⟩ = some (.bool true) := e1
        have HS : Hid (rcnt A (k + 1) = rcnt A k) := hs
        clear hs hg
        generalize rcnt A k = c at *
        go_wp2
        go_round
        case rel => exact ⟨k + 1, by omega, by go_num, by rw [HS.out]⟩
        case measure => simp [intOf]; omega
    · have i1 : ¬ (k : Int) < (N : Int) := by omega
      have c0 := HC.out
      have HE : Hid (rcnt A k = A.ons) := by
        have e : k = A.D.length := by have := HN.out; omega
        show _ = _
        rw [e]
        simp [rcnt, AM.RA.ons]
      go_wp2
      go_ret
      exact ⟨by rw [HE.out]; rfl, rfl⟩
end
end Go.Proofs.Ytfmlohedebdomaa
