/- The document's Take (hayrickref07). -/
import Derived.Test.YthmdidiojjmebaaRows7
import Derived.Deep.RegionHeld3
namespace Go.Proofs.Ythmdidiojjmebaa
open Go.RowKit


theorem eqb_no {a b : Nat} (h : a ≠ b) : ((a : Int) == (b : Int)) = false := by simp; omega
theorem eqb_yes {a b : Nat} (h : a = b) : ((a : Int) == (b : Int)) = true := by simp; omega
theorem neb_yes {a b : Nat} (h : a ≠ b) : ((a : Int) != (b : Int)) = true := by simp; omega
theorem neb_no {a b : Nat} (h : a = b) : ((a : Int) != (b : Int)) = false := by simp; omega
theorem yes_no_at {X : List (List Nat)} {k : Nat} (hk : k < X.length) (h : ¬ CM.okTo X (k + 1)) : CM.yes X = false := by
  cases e : CM.yes X with
  | false => rfl
  | true => exact absurd (fun j hj => (CM.yes_iff.1 e).2.2 j (by omega)) h
theorem tN_no {X : List (List Nat)} (h : CM.yes X = false) : CM.tN X = 0 := by simp [CM.tN, h]
theorem tL_no {X : List (List Nat)} (h : CM.yes X = false) : CM.tL X = [] := by simp [CM.tL, h]
/-- The stamp behind k sectors. -/
def stAt (X : List (List Nat)) (k : Nat) : Nat := if k = 0 then 0 else SM.val (X.getD 0 []) 8
theorem okTo_more {X : List (List Nat)} {k : Nat} (h : CM.okTo X k) (h1 : (X.getD k []).length = 64) (h2 : SM.val (X.getD k []) 8 ≠ 0) (h3 : k = 0 ∨ SM.val (X.getD k []) 8 = SM.val (X.getD 0 []) 8) : CM.okTo X (k + 1) := fun j hj => by
  by_cases e : j = k
  · subst e
    refine ⟨h1, ?_, h2⟩
    rcases h3 with h3 | h3
    · subst h3; rfl
    · exact h3
  · exact h j (by omega)
theorem stAt_next {X : List (List Nat)} {k : Nat} (h3 : k = 0 ∨ SM.val (X.getD k []) 8 = SM.val (X.getD 0 []) 8) : stAt X (k + 1) = SM.val (X.getD k []) 8 := by
  unfold stAt
  rw [if_neg (by omega)]
  rcases h3 with h3 | h3
  · subst h3; rfl
  · exact h3.symm

set_option maxHeartbeats 1600000 in
theorem refTake7 {w : World} {r : Value} {us : List Value} {X : List (List Nat)} (mr : Mat w r us X) :
    Calls Try.prog 13 #[r] w fun e w' => ∃ u, e = .returned (.tuple #[.int .u64 ((CM.tN X : Nat) : Int), u, .bool (CM.yes X)]) ∧ Own w.heap.size w' u (CM.tL X) ∧ w.grownBy w' none := by
  obtain ⟨q, N, cap, rfl, hN⟩ := mr.row.opened
  have hs := mr.same
  have hNl : N ≤ 140737488351232 := by have := mr.row.len; omega
  by_cases h0 : N < 1
  · have i1 : (N : Int) < 1 := by omega
    have hy : CM.yes X = false := by unfold CM.yes; rw [show decide (1 ≤ X.length) = false from decide_eq_false (by omega)]; rfl
    rw [hy, tN_no hy, tL_no hy]
    clear h0 hN hs mr hy
    go_enter Try.func13, Try.ntmps13
    go_wp2
    go_ret3
    exact ⟨_, rfl, Own.nil _ _, World.grownBy.refl _ _⟩
  · by_cases h1 : 64 < N
    · have i1 : ¬ (N : Int) < 1 := by omega
      have i2 : (64 : Int) < (N : Int) := by omega
      have hy : CM.yes X = false := by unfold CM.yes; rw [show decide (X.length ≤ 64) = false from decide_eq_false (by omega)]; simp
      rw [hy, tN_no hy, tL_no hy]
      clear h0 h1 hN hs mr hy
      go_enter Try.func13, Try.ntmps13
      go_wp2
      go_ret3
      exact ⟨_, rfl, Own.nil _ _, World.grownBy.refl _ _⟩
    · have i1 : ¬ (N : Int) < 1 := by omega
      have i2 : ¬ (64 : Int) < (N : Int) := by omega
      have MR : Hid (Mat w (.slice q N cap) us X) := mr
      have HN : Hid (N = us.length ∧ N = X.length ∧ 1 ≤ N ∧ N ≤ 64) := ⟨hN, by omega, by omega, by omega⟩
      have hn64 : N ≤ 64 := by omega
      clear hN hs mr h0 h1
      go_enter Try.func13, Try.ntmps13
      go_wp2_with fail
      go_loopw [5, 6, 7] (fun ts td ti wr => ∃ k : Nat, k ≤ N ∧ ts = .int .u64 ((stAt X k : Nat) : Int) ∧ ti = .int .i64 k ∧ Hid (CM.okTo X k) ∧ Hid (Own w.heap.size wr td (CM.loads X k)) ∧ Hid (w.grownBy wr none)) (fun _ _ ti _ => N - (intOf ti).toNat)
      case atStart => exact ⟨0, by omega, rfl, rfl, fun j hj => by omega, by rw [CM.loads_zero]; exact Own.nil _ _, World.grownBy.refl _ _⟩
      case round =>
        obtain ⟨k, hk, rfl, rfl, OK, OD, GK⟩ := hrel
        by_cases hlt : k < N
        · have i3 : (k : Int) < (N : Int) := by omega
          have i4 : (0 : Int) ≤ (k : Int) := by omega
          obtain ⟨b, off, rfl, hr⟩ := (MR.out.keep GK.out).row.spot (k := k) (by have := HN.out; omega)
          obtain ⟨pk, nk, ck, ek, hnk⟩ := ((MR.out.keep GK.out).vec k (by have := HN.out; omega)).opened
          rw [ek] at hr
          have VX : Hid (Vec wr (.slice pk nk ck) (X.getD k [])) := by rw [← ek]; exact (MR.out.keep GK.out).vec k (by have := HN.out; omega)
          clear ek hnk
          by_cases h64 : (X.getD k []).length = 64
          · have RT := refTake_yes VX.out h64
            by_cases hz : SM.val (X.getD k []) 8 = 0
            · have hy : CM.yes X = false := yes_no_at (k := k) (by have := HN.out; omega) (fun h => (h k (by omega)).2.2 hz)
              rw [hz] at RT
              have HY : Hid (CM.yes X = false) := hy
              have RT' : Hid (Calls Try.prog 19 #[.slice pk nk ck] wr fun e w' => ∃ u, e = .returned (.tuple #[.int .u64 0, u, .int .i64 0]) ∧ wr.grownBy w' none) := RT.mono fun e w' ⟨u, h1, _, h2⟩ => ⟨u, h1, h2⟩
              clear RT hz hy h64
              go_wp2_with (go_at_call 19; refine RT'.out.mono ?_; rintro e w1 ⟨u, rfl, g1⟩)
              go_ret3
              rw [HY.out, tN_no HY.out, tL_no HY.out]
              exact ⟨_, rfl, Own.nil _ _, grown_trans GK.out g1⟩
            · have hzb : (((SM.val (X.getD k []) 8 : Nat) : Int) == 0) = false := eqb_no (b := 0) hz
              by_cases h3 : k = 0 ∨ SM.val (X.getD k []) 8 = SM.val (X.getD 0 []) 8
              · have OK' : Hid (CM.okTo X (k + 1)) := okTo_more OK.out h64 hz h3
                have SN : Hid (stAt X (k + 1) = SM.val (X.getD k []) 8) := stAt_next h3
                have HL : Hid (CM.loads X (k + 1) = CM.loads X k ++ (X.getD k []).drop 8) := CM.loads_succ X (k := k) (by have := HN.out; omega)
                have HLL : Hid ((CM.loads X k).length + ((X.getD k []).drop 8).length ≤ 140737488351232) := by
                  show _ ≤ _
                  rw [CM.loads_len (k := k) (by have := HN.out; omega) (fun j hj => (OK.out j hj).1), List.length_drop, h64]; omega
                have RT' : Hid (Calls Try.prog 19 #[.slice pk nk ck] wr fun e w' => ∃ u, e = .returned (.tuple #[.int .u64 ((SM.val (X.getD k []) 8 : Nat) : Int), u, .int .i64 0]) ∧ Own wr.heap.size w' u ((X.getD k []).drop 8) ∧ wr.grownBy w' none) := RT
                have hd : 0 < k → (((SM.val (X.getD k []) 8 : Nat) : Int) != ((stAt X k : Nat) : Int)) = false := fun hk => by
                  unfold stAt
                  rw [if_neg (by omega)]
                  rcases h3 with h3 | h3
                  · omega
                  · rw [h3]; simp
                clear RT hz h64 h3 OK VX
                generalize SM.val (X.getD k []) 8 = V at *
                generalize stAt X k = S at *
                generalize (X.getD k []).drop 8 = L at *
                generalize CM.loads X k = P at *
                by_cases hk0 : 0 < k
                · have hd' := hd hk0
                  have i5 : (0 : Int) < (k : Int) := by omega
                  clear hd
                  go_wp2_with (first
                    | (go_at_call 19; refine RT'.out.mono ?_; rintro e w1 ⟨u, rfl, ou, g1⟩; have OU : Hid (Own wr.heap.size w1 u L) := ou; have OD1 : Hid (Own w.heap.size w1 u6 P) := OD.out.keep g1; have G1 : Hid (w.grownBy w1 none) := grown_trans GK.out g1; clear ou g1)
                    | (at_builtin; refine wpList_append_vec rfl _ _ rfl _ _ rfl rfl OD1.out OU.out.vec G1.out.size HLL.out ?_; intro v2 w2 o2 g2; have O2 : Hid (Own w.heap.size w2 v2 (P ++ L)) := o2; have G2 : Hid (w.grownBy w2 none) := grown_new G1.out g2 (fun i e => OD1.out.lo i e); clear o2 g2))
                  go_roundw
                  case rel => exact ⟨k + 1, by omega, by rw [SN.out], by go_num, OK', by rw [HL.out]; exact O2, G2⟩
                  case measure => simp [intOf]; omega
                · have i5 : ¬ (0 : Int) < (k : Int) := by omega
                  clear hd
                  go_wp2_with (first
                    | (go_at_call 19; refine RT'.out.mono ?_; rintro e w1 ⟨u, rfl, ou, g1⟩; have OU : Hid (Own wr.heap.size w1 u L) := ou; have OD1 : Hid (Own w.heap.size w1 u6 P) := OD.out.keep g1; have G1 : Hid (w.grownBy w1 none) := grown_trans GK.out g1; clear ou g1)
                    | (at_builtin; refine wpList_append_vec rfl _ _ rfl _ _ rfl rfl OD1.out OU.out.vec G1.out.size HLL.out ?_; intro v2 w2 o2 g2; have O2 : Hid (Own w.heap.size w2 v2 (P ++ L)) := o2; have G2 : Hid (w.grownBy w2 none) := grown_new G1.out g2 (fun i e => OD1.out.lo i e); clear o2 g2))
                  go_roundw
                  case rel => exact ⟨k + 1, by omega, by rw [SN.out], by go_num, OK', by rw [HL.out]; exact O2, G2⟩
                  case measure => simp [intOf]; omega
              · have hk0 : 0 < k := by omega
                have hy : CM.yes X = false := yes_no_at (k := k) (by have := HN.out; omega) (fun h => h3 (.inr (h k (by omega)).2.1))
                have i5 : (0 : Int) < (k : Int) := by omega
                have hd : (((SM.val (X.getD k []) 8 : Nat) : Int) != ((stAt X k : Nat) : Int)) = true := by
                  unfold stAt
                  rw [if_neg (by omega)]
                  exact neb_yes fun e => h3 (.inr e)
                have HY : Hid (CM.yes X = false) := hy
                have RT' : Hid (Calls Try.prog 19 #[.slice pk nk ck] wr fun e w' => ∃ u, e = .returned (.tuple #[.int .u64 ((SM.val (X.getD k []) 8 : Nat) : Int), u, .int .i64 0]) ∧ wr.grownBy w' none) := RT.mono fun e w' ⟨u, h1, _, h2⟩ => ⟨u, h1, h2⟩
                clear RT hz hy h64 h3 OK VX
                generalize SM.val (X.getD k []) 8 = V at *
                generalize stAt X k = S at *
                go_wp2_with (go_at_call 19; refine RT'.out.mono ?_; rintro e w1 ⟨u, rfl, g1⟩)
                go_ret3
                rw [HY.out, tN_no HY.out, tL_no HY.out]
                exact ⟨_, rfl, Own.nil _ _, grown_trans GK.out g1⟩
          · have hy : CM.yes X = false := yes_no_at (k := k) (by have := HN.out; omega) (fun h => h64 (h k (by omega)).1)
            have HY : Hid (CM.yes X = false) := hy
            have hE : (takeE (X.getD k []) != 0) = true := by
              unfold takeE
              rw [if_neg h64]
              split <;> decide
            have RT' : Hid (Calls Try.prog 19 #[.slice pk nk ck] wr fun e w' => ∃ u, e = .returned (.tuple #[.int .u64 ((takeN (X.getD k []) : Nat) : Int), u, .int .i64 (takeE (X.getD k []))]) ∧ wr.grownBy w' none) := (refTake_all VX.out).mono fun e w' ⟨u, h1, _, h2⟩ => ⟨u, h1, h2⟩
            clear hy h64 VX
            generalize takeE (X.getD k []) = E at *
            generalize takeN (X.getD k []) = V at *
            go_wp2_with (go_at_call 19; refine RT'.out.mono ?_; rintro e w1 ⟨u, rfl, g1⟩)
            go_ret3
            rw [HY.out, tN_no HY.out, tL_no HY.out]
            exact ⟨_, rfl, Own.nil _ _, grown_trans GK.out g1⟩
        · have hkN : k = X.length := by have := HN.out; omega
          subst hkN
          have hy : CM.yes X = true := CM.yes_iff.2 ⟨by have := HN.out; omega, by have := HN.out; omega, OK.out⟩
          have HT : Hid (CM.yes X = true ∧ CM.tN X = stAt X X.length ∧ CM.tL X = CM.loads X X.length) := ⟨hy, by unfold CM.tN stAt; rw [if_pos hy, if_neg (by have := HN.out; omega)], by unfold CM.tL; rw [if_pos hy]⟩
          clear hy OK
          generalize stAt X X.length = S at *
          go_wp2
          go_ret3
          rw [HT.out.1, HT.out.2.1, HT.out.2.2]
          exact ⟨_, rfl, OD.out, GK.out⟩
end Go.Proofs.Ythmdidiojjmebaa
