/- The document's Put (hayrickref07). -/
import Derived.Test.YthmdidiojjmebaaRTake7
namespace Go.Proofs.Ythmdidiojjmebaa
open Go.RowKit

theorem slice_lh {b off n c lo hi : Nat} (h1 : lo ≤ hi) (h2 : hi ≤ c) (h3 : lo < c) (W : World) : (Instr.slice 23 (.slice (some ⟨b, off, none⟩) n c) (some (.int .i64 (lo : Int))) (some (.int .i64 (hi : Int))) none).run Try.prog W = .ok (.slice (some ⟨b, off + lo, none⟩) (hi - lo) (c - lo)) W := by
  obtain ⟨i0, hi0, hz0, hz1, hz2⟩ := info_parts Try.info5
  have e1 : (Instr.sliceBound (.int .i64 (hi : Int)) c .sliceAcap).run Try.prog W = .ok hi W := by
    have := run_sliceBound (P := Try.prog) W .i64 (hi : Int) c .sliceAcap (by omega) (by omega)
    simpa using this
  have e2 : (Instr.sliceBound (.int .i64 (lo : Int)) hi .sliceB).run Try.prog W = .ok lo W := by
    have := run_sliceBound (P := Try.prog) W .i64 (lo : Int) hi .sliceB (by omega) (by omega)
    simpa using this
  have h4 : ¬ c = lo := by omega
  simp [Instr.slice, run_underlying Try.underlying23, Instr.sliceBounds, e1, e2, sizeOf, typeInfo, hi0, hz1, h4, add_off]

set_option maxHeartbeats 1600000 in
theorem refPut7 {w : World} {n : Nat} {v : Value} {xs : List Nat} (hn : n < 18446744073709551616) (hv : Vec w v xs) :
    Calls Try.prog 9 #[.int .u64 (n : Int), v] w fun e w' => ∃ u us, e = .returned (.tuple #[u, .int .i64 (CM.putE n xs)]) ∧ RMat 5 w.heap.size w' u us (CM.putS n xs) ∧ w.grownBy w' none := by
  obtain ⟨q, N, cap, rfl, hN⟩ := hv.opened
  have hNl : N ≤ 140737488351232 := by rw [hN]; exact hv.len
  by_cases h0 : n = 0
  · have i0 : ((n : Int) == 0) = true := eqb_yes (b := 0) h0
    have hE : CM.putE n xs = 1 := by simp [CM.putE, h0]
    have hS : CM.putS n xs = [] := by simp [CM.putS, CM.fit, h0]
    rw [hE, hS]
    clear hv hN h0 hE hS
    go_enter Try.func9, Try.ntmps9
    go_wp2
    go_ret2
    exact ⟨_, _, rfl, RMat.nil _ _ _, World.grownBy.refl _ _⟩
  · have i0 : ((n : Int) == 0) = false := eqb_no (b := 0) h0
    obtain ⟨m, hm⟩ : ∃ m, m = N / 56 := ⟨_, rfl⟩
    have hq : (N : Int) / 56 = (m : Int) := by omega
    by_cases h1 : m = 0
    · have i1 : ((m : Int) == 0) = true := eqb_yes (b := 0) h1
      have hx : xs.length = 0 ∨ xs.length % 56 ≠ 0 := by omega
      have hE : CM.putE n xs = 4 := by unfold CM.putE; rw [if_neg h0, if_pos hx]
      have hS : CM.putS n xs = [] := by unfold CM.putS; rw [if_neg (fun h => by have := CM.fit_iff.1 h; omega)]
      rw [hE, hS]
      clear hv hN h0 hE hS h1 hm hx
      go_enter Try.func9, Try.ntmps9
      go_wp2
      go_ret2
      exact ⟨_, _, rfl, RMat.nil _ _ _, World.grownBy.refl _ _⟩
    · have i1 : ((m : Int) == 0) = false := eqb_no (b := 0) h1
      by_cases h2 : 56 * m = N
      · have i2 : (56 * (m : Int) != (N : Int)) = false := by have := neb_no h2; rwa [Int.natCast_mul] at this
        have hx : ¬ (xs.length = 0 ∨ xs.length % 56 ≠ 0) := by omega
        by_cases h3 : 64 < m
        · have i3 : (64 : Int) < (m : Int) := by omega
          have hE : CM.putE n xs = 3 := by unfold CM.putE; rw [if_neg h0, if_neg hx, if_pos (by omega)]
          have hS : CM.putS n xs = [] := by unfold CM.putS; rw [if_neg (fun h => by have := CM.fit_iff.1 h; omega)]
          rw [hE, hS]
          clear hv hN h0 hE hS h1 hm hx h2 h3
          go_enter Try.func9, Try.ntmps9
          go_wp2
          go_ret2
          exact ⟨_, _, rfl, RMat.nil _ _ _, World.grownBy.refl _ _⟩
        · have i3 : ¬ (64 : Int) < (m : Int) := by omega
          have hf : CM.fit n xs = true := CM.fit_iff.2 ⟨h0, by omega, by omega, by omega⟩
          have hE : CM.putE n xs = 0 := (CM.putE_fit n xs).2 hf
          have hS : CM.putS n xs = CM.secs n xs m := by unfold CM.putS; rw [if_pos hf, ← hN, hm]
          rw [hE, hS]
          obtain ⟨b, off, rfl, _⟩ := hv.spot (k := 0) (by omega)
          have hcap : N ≤ cap := by
            obtain ⟨p', cap', e, h3, _⟩ := hv.form
            injection e with e1 e2 e3
            omega
          have HV : Hid (Vec w (.slice (some ⟨b, off, none⟩) N cap) xs) := hv
          have HN : Hid (56 * m = N ∧ N = xs.length ∧ N ≤ cap) := ⟨h2, hN, hcap⟩
          have hm64 : m ≤ 64 := by omega
          clear hv hN h0 hE hS h1 hm hx h2 h3 hf hcap
          go_enter Try.func9, Try.ntmps9
          go_wp2_with fail
          go_loopw [7, 8] (fun tl ti wr => ∃ k : Nat, k ≤ m ∧ ti = .int .i64 k ∧ Hid (∃ us, RMat 5 w.heap.size wr tl us (CM.secs n xs k)) ∧ Hid (w.grownBy wr none)) (fun _ ti _ => m - (intOf ti).toNat)
          case atStart => exact ⟨0, by omega, rfl, ⟨_, RMat.nil _ _ _⟩, World.grownBy.refl _ _⟩
          case round =>
            obtain ⟨k, hk, rfl, OK, GK⟩ := hrel
            by_cases hlt : k < m
            · have i4 : (k : Int) < (m : Int) := by omega
              have hsl := fun W => slice_lh (b := b) (off := off) (n := N) (c := cap) (lo := 56 * k) (hi := 56 * k + 56) (by omega) (by have := HN.out; omega) (by have := HN.out; omega) W
              have e56 : 56 * k + 56 - 56 * k = 56 := by omega
              rw [e56] at hsl
              have VL : Hid (Vec wr (.slice (some ⟨b, off + 56 * k, none⟩) 56 (cap - 56 * k)) (CM.ld xs k)) := by
                have h1 := ((HV.out.keep GK.out).tail (n := 56 * k) (by have := HN.out; omega)).cut (n := 56) (by rw [List.length_drop]; have := HN.out; omega)
                exact h1
              have RP : Hid (∃ p, True ∧ p = p) := ⟨0, trivial, rfl⟩
              have RPc := refPut_yes (n := n) hn VL.out (by rw [CM.ld_len (by have := HN.out; omega)]; exact Nat.le_refl _)
              have RQ : Hid (Calls Try.prog 16 #[.int .u64 (n : Int), .slice (some ⟨b, off + 56 * k, none⟩) 56 (cap - 56 * k)] wr fun e w' => ∃ p, e = .returned (.tuple #[.slice p 64 64, .int .i64 0]) ∧ Own wr.heap.size w' (.slice p 64 64) (SM.sec n (CM.ld xs k)) ∧ wr.grownBy w' none) := RPc
              clear VL RPc RP e56
              rw [show ((56 * k + 56 : Nat) : Int) = 56 * (k : Int) + 56 by omega, show ((56 * k : Nat) : Int) = 56 * (k : Int) by omega] at hsl
              obtain ⟨us, OM⟩ := OK.out
              have MK : Hid (RMat 5 w.heap.size wr u7 us (CM.secs n xs k)) := OM
              have HS : Hid (CM.secs n xs (k + 1) = CM.secs n xs k ++ [SM.sec n (CM.ld xs k)]) := by show _ = _; simp [CM.secs, List.range_succ]
              have HL : Hid ((us.length + 1) * 24 ≤ 140737488351232) := by show _ ≤ _; rw [OM.same, CM.secs_len]; omega
              clear OM OK
              generalize CM.secs n xs k = XK at *
              generalize SM.sec n (CM.ld xs k) = SK at *
              go_wp2_with (first
                | (go_at_call 16; refine RQ.out.mono ?_; rintro e w1 ⟨p, rfl, op, g1⟩; have OP : Hid (Arr 5 w.heap.size w1 (.slice p 64 64) SK) := op.arr.down GK.out.size; have M1 : Hid (RMat 5 w.heap.size w1 u7 us XK) := MK.out.keep g1; have G1 : Hid (w.grownBy w1 none) := grown_trans GK.out g1; clear op g1)
                | (at_builtin; refine wpList_append_row rfl _ _ rfl _ ⟨w1.heap.size, 0, none⟩ rfl rfl (M1.out.keep (World.grownBy_alloc w1 _ none)).row (cell_new1 _ _ rfl) rfl (gb_alloc G1.out _).size HL.out ?_; intro v2 w2 r2 g2 at2; have M2 : Hid (RMat 5 w.heap.size w2 v2 (us ++ [.slice p 64 64]) (XK ++ [SK])) := (M1.out.keep (World.grownBy_alloc w1 _ none)).more (by decide) (OP.out.keep (World.grownBy_alloc w1 _ none)) HL.out r2 g2; have G2 : Hid (w.grownBy w2 none) := grown_new (gb_alloc G1.out _) g2 (fun i e => M1.out.lo i e); clear r2 g2 at2))
              go_roundw
              case rel => exact ⟨k + 1, by omega, by go_num, ⟨_, by rw [HS.out]; exact M2.out⟩, G2⟩
              case measure => simp [intOf]; omega
            · have hkm : k = m := by omega
              subst hkm
              obtain ⟨us, OM⟩ := OK.out
              have MK : Hid (RMat 5 w.heap.size wr u7 us (CM.secs n xs k)) := OM
              clear OM OK
              go_wp2
              go_ret2
              exact ⟨_, _, rfl, MK.out, GK.out⟩
      · have i2 : (56 * (m : Int) != (N : Int)) = true := by have := neb_yes h2; rwa [Int.natCast_mul] at this
        have hx : xs.length = 0 ∨ xs.length % 56 ≠ 0 := by omega
        have hE : CM.putE n xs = 4 := by unfold CM.putE; rw [if_neg h0, if_pos hx]
        have hS : CM.putS n xs = [] := by unfold CM.putS; rw [if_neg (fun h => by have := CM.fit_iff.1 h; omega)]
        rw [hE, hS]
        clear hv hN h0 hE hS h1 hm hx h2
        go_enter Try.func9, Try.ntmps9
        go_wp2
        go_ret2
        exact ⟨_, _, rfl, RMat.nil _ _ _, World.grownBy.refl _ _⟩
end Go.Proofs.Ythmdidiojjmebaa
