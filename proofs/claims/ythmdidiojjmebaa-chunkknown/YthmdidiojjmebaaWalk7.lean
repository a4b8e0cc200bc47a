/- Contracts of chunk.walk, chunk.Take and chunk.Whole. -/
import Derived.Test.YthmdidiojjmebaaTak7
namespace Go.Proofs.Ythmdidiojjmebaa
open Go.RowKit

set_option maxHeartbeats 1600000 in
theorem walk_any {w0 w : World} {A D : Nat} {dv r : Value} {us : List Value} {X : List (List Nat)} (mr : Mat w0 r us X) (T : Tak w0 A D w 0 dv []) (hX : X.length ≤ 64) :
    Calls Try.prog 17 #[r, .func (.func 18) #[] #[.pointer (some ⟨A, 0, none⟩), .pointer (some ⟨D, 0, none⟩)]] w fun e w' =>
      (CM.okTo X X.length ∧ e = .returned (.bool true) ∧ ∃ dv', Tak w0 A D w' (stAt X X.length) dv' (CM.loads X X.length)) ∨ (¬ CM.okTo X X.length ∧ e = .returned (.bool false) ∧ w0.grownBy w' none) := by
  obtain ⟨q, N, cap, rfl, hN⟩ := mr.row.opened
  have hs := mr.same
  have hNl : N ≤ 64 := by omega
  have MR : Hid (Mat w0 (.slice q N cap) us X) := mr
  have HN : Hid (N = us.length ∧ N = X.length ∧ N ≤ 64) := ⟨hN, by omega, hNl⟩
  have T0 : Hid (Tak w0 A D w 0 dv []) := T
  clear mr hN hs hX T
  go_enter Try.func17, Try.ntmps17
  go_wp2_with fail
  go_loopw [12] (fun ti wr => ∃ k : Nat, k ≤ N ∧ ti = .int .i64 k ∧ Hid (CM.okTo X k) ∧ Hid (∃ dv', Tak w0 A D wr (stAt X k) dv' (CM.loads X k))) (fun ti _ => N - (intOf ti).toNat)
  case atStart => exact ⟨0, by omega, rfl, fun j hj => by omega, ⟨dv, by rw [CM.loads_zero]; exact T0.out⟩⟩
  case round =>
    clear T0
    obtain ⟨k, hk, rfl, OK, TX⟩ := hrel
    obtain ⟨d1, TK1⟩ := TX.out
    have TK : Hid (Tak w0 A D wr (stAt X k) d1 (CM.loads X k)) := TK1
    clear TX TK1
    by_cases hlt : k < N
    · have i3 : (k : Int) < (N : Int) := by omega
      have i4 : (0 : Int) ≤ (k : Int) := by omega
      obtain ⟨b, off, rfl, hr⟩ := (MR.out.keep TK.out.gr).row.spot (k := k) (by have := HN.out; omega)
      obtain ⟨pk, nk, ck, ek, hnk⟩ := ((MR.out.keep TK.out.gr).vec k (by have := HN.out; omega)).opened
      rw [ek] at hr
      have VX : Hid (Vec wr (.slice pk nk ck) (X.getD k [])) := by rw [← ek]; exact (MR.out.keep TK.out.gr).vec k (by have := HN.out; omega)
      clear ek hnk
      by_cases h64 : (X.getD k []).length = 64
      · have RT : Hid (Calls Try.prog 22 #[.slice pk nk ck] wr fun e w' => ∃ p, e = .returned (.tuple #[.int .u64 ((SM.val (X.getD k []) 8 : Nat) : Int), .slice p 56 56, .int .i64 0]) ∧ Own wr.heap.size w' (.slice p 56 56) ((X.getD k []).drop 8) ∧ wr.grownBy w' none) := take_yes VX.out h64
        have HLL : Hid ((CM.loads X k).length + ((X.getD k []).drop 8).length ≤ 140737488351232) := by
          show _ ≤ _
          rw [CM.loads_len (k := k) (by have := HN.out; omega) (fun j hj => (OK.out j hj).1), List.length_drop, h64]; omega
        by_cases hgo : SM.val (X.getD k []) 8 ≠ 0 ∧ (k = 0 ∨ SM.val (X.getD k []) 8 = SM.val (X.getD 0 []) 8)
        · have OK' : Hid (CM.okTo X (k + 1)) := okTo_more OK.out h64 hgo.1 hgo.2
          have SN : Hid (stAt X (k + 1) = SM.val (X.getD k []) 8) := stAt_next hgo.2
          have HL : Hid (CM.loads X (k + 1) = CM.loads X k ++ (X.getD k []).drop 8) := CM.loads_succ X (k := k) (by have := HN.out; omega)
          have HZ : Hid (SM.val (X.getD k []) 8 ≠ 0 ∧ (stAt X k = 0 ∨ stAt X k = SM.val (X.getD k []) 8)) := ⟨hgo.1, by
            unfold stAt
            by_cases e : k = 0
            · exact .inl (by rw [if_pos e])
            · rcases hgo.2 with h | h
              · exact absurd h e
              · rw [if_neg e]; exact .inr h.symm⟩
          clear h64 hgo OK VX
          generalize SM.val (X.getD k []) 8 = V at *
          generalize stAt X k = S at *
          generalize (X.getD k []).drop 8 = L at *
          generalize CM.loads X k = P at *
          go_wp2_with (first
            | (go_at_call 22; refine RT.out.mono ?_; rintro e w1 ⟨p, rfl, ou, g1⟩; have OU : Hid (Own wr.heap.size w1 (.slice p 56 56) L) := ou; have T1 : Hid (Tak w0 A D w1 S d1 P) := TK.out.keep g1; clear ou g1)
            | (go_at_call 18; refine (tk_yes T1.out OU.out HLL.out HZ.out.1 HZ.out.2).mono ?_; rintro e w2 ⟨rfl, d2, t2⟩; have T2 : Hid (Tak w0 A D w2 V d2 (P ++ L)) := t2; clear t2))
          go_roundw
          case rel => exact ⟨k + 1, by omega, by go_num, OK', ⟨d2, by rw [SN.out, HL.out]; exact T2.out⟩⟩
          case measure => simp [intOf]; omega
        · have HNO : Hid (¬ CM.okTo X X.length) := fun h => by
            have h1 := h k (by have := HN.out; omega)
            exact hgo ⟨h1.2.2, .inr h1.2.1⟩
          have HZ : Hid (SM.val (X.getD k []) 8 = 0 ∨ (stAt X k ≠ 0 ∧ stAt X k ≠ SM.val (X.getD k []) 8)) := by
            show _ ∨ _
            by_cases e : SM.val (X.getD k []) 8 = 0
            · exact .inl e
            · refine .inr ?_
              have hk0 : ¬ k = 0 := fun h => hgo ⟨e, .inl h⟩
              have h2 : ¬ SM.val (X.getD k []) 8 = SM.val (X.getD 0 []) 8 := fun h => hgo ⟨e, .inr h⟩
              unfold stAt
              rw [if_neg hk0]
              exact ⟨(OK.out 0 (by omega)).2.2, fun h => h2 h.symm⟩
          clear h64 hgo OK VX
          generalize SM.val (X.getD k []) 8 = V at *
          generalize stAt X k = S at *
          generalize (X.getD k []).drop 8 = L at *
          generalize CM.loads X k = P at *
          go_wp2_with (first
            | (go_at_call 22; refine RT.out.mono ?_; rintro e w1 ⟨p, rfl, ou, g1⟩; have OU : Hid (Own wr.heap.size w1 (.slice p 56 56) L) := ou; have T1 : Hid (Tak w0 A D w1 S d1 P) := TK.out.keep g1; clear ou g1)
            | (go_at_call 18; refine (tk_no T1.out OU.out HLL.out HZ.out).mono ?_; rintro e w2 ⟨rfl, g2⟩; have G2 : Hid (w0.grownBy w2 none) := g2; clear g2))
          go_ret
          exact .inr ⟨HNO.out, rfl, G2.out⟩
      · have HNO : Hid (¬ CM.okTo X X.length) := fun h => h64 (h k (by have := HN.out; omega)).1
        have hE : (takeE (X.getD k []) != 0) = true := by
          unfold takeE
          rw [if_neg h64]
          split <;> decide
        have RT : Hid (Calls Try.prog 22 #[.slice pk nk ck] wr fun e w' => ∃ p k2, e = .returned (.tuple #[.int .u64 ((takeN (X.getD k []) : Nat) : Int), .slice p k2 k2, .int .i64 (takeE (X.getD k []))]) ∧ wr.grownBy w' none) := (take_all VX.out).mono fun e w' ⟨p, k2, h1, _, h2⟩ => ⟨p, k2, h1, h2⟩
        clear h64 VX
        generalize takeE (X.getD k []) = E at *
        generalize takeN (X.getD k []) = V at *
        go_wp2_with (go_at_call 22; refine RT.out.mono ?_; rintro e w1 ⟨p, k2, rfl, g1⟩; have G1 : Hid (w0.grownBy w1 none) := grown_trans TK.out.gr g1; clear g1)
        go_ret
        exact .inr ⟨HNO.out, rfl, G1.out⟩
    · have hkN : k = X.length := by have := HN.out; omega
      subst hkN
      go_wp2
      go_ret
      exact .inl ⟨OK.out, rfl, _, TK.out⟩
end Go.Proofs.Ythmdidiojjmebaa
