/- The document's array: the contract of Read. -/
import Derived.Test.YtfmlohedebdomaaSimM
set_option linter.unusedSimpArgs false
set_option linter.unusedVariables false
namespace Go.Proofs.Ytfmlohedebdomaa
open Go.RowKit

theorem last_step (L : List AM.Fl) (d k : Nat) (b : List Nat) {i : Nat} (hi : i < L.length) : AM.RA.last (L.take (i + 1)) d k b = if L[i].d = d ∧ L[i].k = k then L[i].b else AM.RA.last (L.take i) d k b := by
  unfold AM.RA.last
  rw [List.take_succ_eq_append_getElem hi, List.foldl_append]
  rfl
theorem rwhy_zero {A : AM.RA} {d k : Int} (h : A.why d k = 0) : A.dark = false ∧ 0 ≤ d ∧ d < A.D.length ∧ 0 ≤ k ∧ k < A.n ∧ ∃ ss, A.D[d.toNat]? = some (some ss) := by
  unfold AM.RA.why at h
  cases hd : A.dark with
  | true => rw [hd] at h; simp at h
  | false =>
    rw [hd] at h
    simp only [Bool.false_eq_true, if_false] at h
    by_cases c : 0 ≤ d ∧ d < A.D.length ∧ 0 ≤ k ∧ k < A.n
    · rw [if_pos c] at h
      refine ⟨rfl, c.1, c.2.1, c.2.2.1, c.2.2.2, ?_⟩
      simp only [List.getD] at h
      cases hq : A.D[d.toNat]? with
      | none => simp [hq] at h
      | some o => cases o with
        | none => simp [hq] at h
        | some ss => exact ⟨ss, rfl⟩
    · rw [if_neg c] at h; simp at h

section
variable {G : Nat → Prop} {w : World} {r : Nat} {A : AM.RA}
set_option maxHeartbeats 800000 in
theorem rread_any (h : RIs G w r A) (hL : A.L.length ≤ 1000000) (d k : Int) : Calls Try.prog 16 #[rptr r, .int .i64 d, .int .i64 k] w fun e w' => ∃ p n c, e = .returned (.tuple #[.slice p n c, .int .i64 (A.why d k : Int)]) ∧ Own w.heap.size w' (.slice p n c) (A.read d k) ∧ w.grownBy w' none := by
  have HC : Hid (Calls Try.prog 42 #[rptr r, .int .i64 d, .int .i64 k] w fun e w' => e = .returned (.int .i64 (A.why d k : Int)) ∧ w' = w) := rwhy_yes h d k
  by_cases hr : A.why d k = 0
  · obtain ⟨_, d1, d2, k1, k2, ss, hss⟩ := rwhy_zero hr
    obtain ⟨i, rfl⟩ : ∃ n : Nat, d = (n : Int) := ⟨d.toNat, by omega⟩
    obtain ⟨j, rfl⟩ : ∃ n : Nat, k = (n : Int) := ⟨k.toNat, by omega⟩
    have HRD : Hid (A.read (i : Int) (j : Int) = AM.RA.last (A.L.take A.L.length) i j (ss.getD j [])) := by
      show _ = _
      unfold AM.RA.read
      rw [if_pos hr, List.take_length]
      simp only [Int.toNat_natCast] at hss ⊢
      congr 1
      simp [List.getD, hss]
    rw [hr] at HC
    rw [Int.toNat_natCast] at hss
    have hil : i < A.D.length := by omega
    obtain ⟨dp, dc, ds, lp, lc, fs, h⟩ := h
    have H : Hid (RL G w r dp dc ds lp lc fs A) := h
    obtain ⟨c0, _, c2, _, _⟩ := h.topCells
    obtain ⟨dg, v, rfl, hv, e0, hx1, hx2⟩ := h.disk hil
    clear hx1 hx2
    obtain ⟨sg, cs, u, b, rfl, cu, _, hb, hu, _, _⟩ := h.place (k := j) hv hss (by omega)
    have hb' : ss.getD j [] = b := by simp [List.getD, hb]
    rw [hb'] at HRD
    obtain ⟨pu, nu, mu, rfl, hnu⟩ := hu.vec.opened
    have HU : Hid (Vec w (.slice pu nu mu) b) := hu.vec
    have HY : Hid (A.why (i : Int) (j : Int) = 0) := hr
    have hD2 := h.d2
    have hn2 := h.n2
    obtain ⟨N, hN⟩ : ∃ N, N = A.D.length := ⟨_, rfl⟩
    obtain ⟨M, hM⟩ : ∃ M, M = A.L.length := ⟨_, rfl⟩
    obtain ⟨n, hn⟩ : ∃ n, n = A.n := ⟨_, rfl⟩
    have HM : Hid (M = A.L.length) := hM
    rw [← hN] at c0 hD2 d2
    rw [← hM] at c2 hL
    rw [← hn] at e0 hn2 k2
    clear h hr hss hv hb hu hnu hb' hil hN hM hn
    go_enter Try.func16, Try.ntmps16
    go_wp2_with (go_at_call 42; refine HC.out.mono ?_; rintro e w1 ⟨rfl, hw⟩; obtain rfl := hw.symm; clear hw)
    go_loop [9, 10] (fun tb ti => ∃ (q : Nat) (p : Option Addr) (m c : Nat), q ≤ M ∧ ti = .int .i64 (q : Int) ∧ tb = .slice p m c ∧ Hid (Vec w (.slice p m c) (AM.RA.last (A.L.take q) i j b))) (fun _ ti => M - (intOf ti).toNat)
    case atStart => exact ⟨0, _, _, _, by omega, rfl, rfl, HU⟩
    case round =>
      obtain ⟨q, p, m, c, hq, rfl, rfl, HV⟩ := hrel
      by_cases hlt : q < M
      · have i1 : (q : Int) < (M : Int) := by omega
        have hql : q < A.L.length := by rw [← HM.out]; exact hlt
        have hst := last_step A.L i j b hql
        obtain ⟨lg, u2, rfl, _, f0, f1, f2, hu2, _⟩ := H.out.flight hql
        obtain ⟨p2, n2, m2, rfl, hz2⟩ := hu2.vec.opened
        clear hz2
        have HU2 : Hid (Vec w (.slice p2 n2 m2) A.L[q].b) := hu2.vec
        generalize A.L[q].d = D at *
        generalize A.L[q].k = K at *
        by_cases g1 : D = i
        · by_cases g2 : K = j
          · subst g1
            subst g2
            have HV2 : Hid (Vec w (.slice p2 n2 m2) (AM.RA.last (A.L.take (q + 1)) D K b)) := by rw [hst, if_pos ⟨rfl, rfl⟩]; exact HU2
            clear hst hu2
            go_wp2
            go_round
            case rel => exact ⟨q + 1, p2, n2, m2, by omega, by go_num, rfl, HV2⟩
            case measure => simp [intOf]; omega
          · subst g1
            have i3 : ¬ (K : Int) = (j : Int) := by omega
            have HV2 : Hid (Vec w (.slice p m c) (AM.RA.last (A.L.take (q + 1)) D j b)) := by rw [hst, if_neg (fun h => g2 h.2)]; exact HV
            clear hst hu2
            go_wp2
            go_round
            case rel => exact ⟨q + 1, p, m, c, by omega, by go_num, rfl, HV2⟩
            case measure => simp [intOf]; omega
        · have i2 : ¬ (D : Int) = (i : Int) := by omega
          have HV2 : Hid (Vec w (.slice p m c) (AM.RA.last (A.L.take (q + 1)) i j b)) := by rw [hst, if_neg (fun h => g1 h.1)]; exact HV
          clear hst hu2
          go_wp2
          go_round
          case rel => exact ⟨q + 1, p, m, c, by omega, by go_num, rfl, HV2⟩
          case measure => simp [intOf]; omega
      · have i1 : ¬ (q : Int) < (M : Int) := by omega
        obtain rfl : q = M := by omega
        have HV2 : Hid (Vec w (.slice p m c) (A.read (i : Int) (j : Int))) := by rw [HRD.out, ← HM.out]; exact HV
        go_wp2_with (go_at_call 44; refine (own_any HV2.out).mono ?_; rintro e w9 ⟨p9, n9, c9, rfl, ho, hg⟩; have HO : Hid (Own w.heap.size w9 (.slice p9 n9 c9) (A.read (i : Int) (j : Int)) ∧ w.grownBy w9 none) := ⟨ho, hg⟩; clear ho hg)
        go_ret2
        exact ⟨p9, n9, c9, by rw [HY.out]; rfl, HO.out⟩
  · have HRD : Hid (A.read d k = []) := by show _ = _; unfold AM.RA.read; rw [if_neg hr]
    have hne : ¬ (A.why d k : Int) = 0 := by omega
    clear h hr
    generalize (A.why d k : Int) = z at *
    go_enter Try.func16, Try.ntmps16
    go_wp2_with (go_at_call 42; refine HC.out.mono ?_; rintro e w1 ⟨rfl, hw⟩; obtain rfl := hw.symm; clear hw)
    go_ret2
    exact ⟨none, 0, 0, rfl, by rw [HRD.out]; exact Own.nil _ _, World.grownBy.refl _ _⟩
end
end Go.Proofs.Ytfmlohedebdomaa
