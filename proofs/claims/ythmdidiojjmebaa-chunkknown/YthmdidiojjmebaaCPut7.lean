/- The contract of chunk.Put; the contract of hayricklaw07.wakes. -/
import Derived.Test.YthmdidiojjmebaaCut7
import Derived.Test.YthmdidiojjmebaaCTake7
namespace Go.Proofs.Ythmdidiojjmebaa
open Go.RowKit

set_option maxHeartbeats 1600000 in
theorem cPut_any {w : World} {n : Nat} {v : Value} {xs : List Nat} (hv : Vec w v xs) :
    Calls Try.prog 8 #[.int .u64 (n : Int), v] w fun e w' => ∃ u us, e = .returned (.tuple #[u, .int .i64 (CM.putE n xs)]) ∧ RMat 53 w.heap.size w' u us (CM.putS n xs) ∧ w.grownBy w' none := by
  obtain ⟨q, N, cap, rfl, hN⟩ := hv.opened
  have hNl : N ≤ 140737488351232 := by rw [hN]; exact hv.len
  by_cases h0 : n = 0
  · have i0 : ((n : Int) == 0) = true := eqb_yes (b := 0) h0
    have hE : CM.putE n xs = 1 := by simp [CM.putE, h0]
    have hS : CM.putS n xs = [] := by simp [CM.putS, CM.fit, h0]
    rw [hE, hS]
    clear hv hN h0 hE hS
    go_enter Try.func8, Try.ntmps8
    go_wp2
    go_ret2
    exact ⟨_, _, rfl, RMat.nil _ _ _, World.grownBy.refl _ _⟩
  · have i0 : ((n : Int) == 0) = false := eqb_no (b := 0) h0
    by_cases h1 : N = 0
    · have i1 : ((N : Int) == 0) = true := eqb_yes (b := 0) h1
      have hx : xs.length = 0 ∨ xs.length % 56 ≠ 0 := by omega
      have hE : CM.putE n xs = 4 := by unfold CM.putE; rw [if_neg h0, if_pos hx]
      have hS : CM.putS n xs = [] := by unfold CM.putS; rw [if_neg (fun h => by have := CM.fit_iff.1 h; omega)]
      rw [hE, hS]
      clear hv hN h0 hE hS h1 hx
      go_enter Try.func8, Try.ntmps8
      go_wp2
      go_ret2
      exact ⟨_, _, rfl, RMat.nil _ _ _, World.grownBy.refl _ _⟩
    · have i1 : ((N : Int) == 0) = false := eqb_no (b := 0) h1
      obtain ⟨r, hr⟩ : ∃ r, r = N % 56 := ⟨_, rfl⟩
      have hq : (N : Int) % 56 = (r : Int) := by omega
      by_cases h2 : r = 0
      · have i2 : ((r : Int) != 0) = false := neb_no (b := 0) h2
        have hx : ¬ (xs.length = 0 ∨ xs.length % 56 ≠ 0) := by omega
        by_cases h3 : 3584 < N
        · have i3 : (3584 : Int) < (N : Int) := by omega
          have hE : CM.putE n xs = 3 := by unfold CM.putE; rw [if_neg h0, if_neg hx, if_pos (by omega)]
          have hS : CM.putS n xs = [] := by unfold CM.putS; rw [if_neg (fun h => by have := CM.fit_iff.1 h; omega)]
          rw [hE, hS]
          clear hv hN h0 hE hS h1 hx h2 h3 hr
          go_enter Try.func8, Try.ntmps8
          go_wp2
          go_ret2
          exact ⟨_, _, rfl, RMat.nil _ _ _, World.grownBy.refl _ _⟩
        · have i3 : ¬ (3584 : Int) < (N : Int) := by omega
          have hf : CM.fit n xs = true := CM.fit_iff.2 ⟨h0, by omega, by omega, by omega⟩
          have hE : CM.putE n xs = 0 := (CM.putE_fit n xs).2 hf
          have hS : CM.putS n xs = CM.secs n xs (N / 56) := by unfold CM.putS; rw [if_pos hf, ← hN]
          rw [hE, hS]
          obtain ⟨b, off, rfl, _⟩ := hv.spot (k := 0) (by omega)
          have hcap : N ≤ cap := by
            obtain ⟨p', cap', e, h3, _⟩ := hv.form
            injection e with e1 e2 e3
            omega
          have HC : Hid (Calls Try.prog 15 #[.int .u64 (n : Int), .slice (some ⟨b, off, none⟩) N cap] w fun e w' => ∃ u us, e = .returned u ∧ RMat 53 w.heap.size w' u us (CM.secs n xs (N / 56)) ∧ w.grownBy w' none) :=
            cut_any hv (by omega) (by omega) (by omega) (by omega) hcap
          clear hv hN h0 hE hS h1 hx h2 h3 hr hf hcap
          generalize CM.secs n xs (N / 56) = S at *
          go_enter Try.func8, Try.ntmps8
          go_wp2_with (go_at_call 15; refine HC.out.mono ?_; rintro e w1 ⟨u, us, rfl, m1, g1⟩; have M1 : Hid (RMat 53 w.heap.size w1 u us S) := m1; have G1 : Hid (w.grownBy w1 none) := g1; clear m1 g1)
          go_ret2
          exact ⟨_, _, rfl, M1.out, G1.out⟩
      · have i2 : ((r : Int) != 0) = true := neb_yes (b := 0) h2
        have hx : xs.length = 0 ∨ xs.length % 56 ≠ 0 := by omega
        have hE : CM.putE n xs = 4 := by unfold CM.putE; rw [if_neg h0, if_pos hx]
        have hS : CM.putS n xs = [] := by unfold CM.putS; rw [if_neg (fun h => by have := CM.fit_iff.1 h; omega)]
        rw [hE, hS]
        clear hv hN h0 hE hS h1 hx h2 hr
        go_enter Try.func8, Try.ntmps8
        go_wp2
        go_ret2
        exact ⟨_, _, rfl, RMat.nil _ _ _, World.grownBy.refl _ _⟩
end Go.Proofs.Ythmdidiojjmebaa
