/- Contracts of chunk.Take and chunk.Whole. -/
import Derived.Test.YthmdidiojjmebaaWalk7
namespace Go.Proofs.Ythmdidiojjmebaa
open Go.RowKit

theorem tak_start {w w1 : World} {v : Value} (o : Own (w.alloc (.cells #[.int .u64 0] 22)).heap.size w1 v []) (g : (w.alloc (.cells #[.int .u64 0] 22)).grownBy w1 none) :
    Tak w w.heap.size w1.heap.size (w1.alloc (.cells #[v] 23)) 0 v [] := by
  have h1 : Boxed (w.alloc (.cells #[.int .u64 0] 22)) w.heap.size 22 (.int .u64 ((0 : Nat) : Int)) := Boxed.new w _ _
  have h2 := g.size
  simp at h2
  exact ⟨(h1.kept g (by simp)).alloc _, Boxed.new w1 _ _, (o.down (by simp)).keep (World.grownBy_alloc _ _ none), Nat.le_refl _, by omega, gb_alloc (grown_trans (World.grownBy_alloc w _ none) g) _⟩
theorem yes_of {X : List (List Nat)} (h1 : 1 ≤ X.length) (h2 : X.length ≤ 64) (h : CM.okTo X X.length) : CM.yes X = true ∧ CM.tN X = stAt X X.length ∧ CM.tL X = CM.loads X X.length := by
  have hy := CM.yes_iff.2 ⟨h1, h2, h⟩
  exact ⟨hy, by unfold CM.tN stAt; rw [if_pos hy, if_neg (by omega)], by unfold CM.tL; rw [if_pos hy]⟩
theorem no_of {X : List (List Nat)} (h : ¬ CM.okTo X X.length) : CM.yes X = false := by
  cases e : CM.yes X with
  | false => rfl
  | true => exact absurd (CM.yes_iff.1 e).2.2 h

set_option maxHeartbeats 1600000 in
theorem cTake_any {w : World} {r : Value} {us : List Value} {X : List (List Nat)} (mr : Mat w r us X) :
    Calls Try.prog 12 #[r] w fun e w' => ∃ u, e = .returned (.tuple #[.int .u64 ((CM.tN X : Nat) : Int), u, .bool (CM.yes X)]) ∧ Own w.heap.size w' u (CM.tL X) ∧ w.grownBy w' none := by
  obtain ⟨q, N, cap, rfl, hN⟩ := mr.row.opened
  have hs := mr.same
  have hNl : N ≤ 140737488351232 := by have := mr.row.len; omega
  by_cases h0 : N < 1
  · have i1 : (N : Int) < 1 := by omega
    have hy : CM.yes X = false := by unfold CM.yes; rw [show decide (1 ≤ X.length) = false from decide_eq_false (by omega)]; rfl
    rw [hy, tN_no hy, tL_no hy]
    clear h0 hN hs mr hy
    go_enter Try.func12, Try.ntmps12
    go_wp2
    go_ret3
    exact ⟨_, rfl, Own.nil _ _, World.grownBy.refl _ _⟩
  · by_cases h1 : 64 < N
    · have i1 : ¬ (N : Int) < 1 := by omega
      have i2 : (64 : Int) < (N : Int) := by omega
      have hy : CM.yes X = false := by unfold CM.yes; rw [show decide (X.length ≤ 64) = false from decide_eq_false (by omega)]; simp
      rw [hy, tN_no hy, tL_no hy]
      clear h0 h1 hN hs mr hy
      go_enter Try.func12, Try.ntmps12
      go_wp2
      go_ret3
      exact ⟨_, rfl, Own.nil _ _, World.grownBy.refl _ _⟩
    · have i1 : ¬ (N : Int) < 1 := by omega
      have i2 : ¬ (64 : Int) < (N : Int) := by omega
      have MR : Hid (Mat w (.slice q N cap) us X) := mr
      have HN : Hid (N = us.length ∧ N = X.length ∧ 1 ≤ N ∧ N ≤ 64) := ⟨hN, by omega, by omega, by omega⟩
      clear hN hs mr h0 h1
      by_cases hok : CM.okTo X X.length
      · have HY : Hid (CM.yes X = true ∧ CM.tN X = stAt X X.length ∧ CM.tL X = CM.loads X X.length) := yes_of (by have := HN.out; omega) (by have := HN.out; omega) hok
        rw [HY.out.1, HY.out.2.1, HY.out.2.2]
        have HW : Hid (∀ w2 A D v, Tak w A D w2 0 v [] → Calls Try.prog 17 #[.slice q N cap, .func (.func 18) #[] #[.pointer (some ⟨A, 0, none⟩), .pointer (some ⟨D, 0, none⟩)]] w2 fun e w' => e = .returned (.bool true) ∧ ∃ dv', Tak w A D w' (stAt X X.length) dv' (CM.loads X X.length)) := fun w2 A D v T => (walk_any MR.out T (by have := HN.out; omega)).mono fun e w' h => by
          rcases h with ⟨_, h1, h2⟩ | ⟨h1, _⟩
          · exact ⟨h1, h2⟩
          · exact absurd hok h1
        clear HY hok
        generalize stAt X X.length = S at *
        generalize CM.loads X X.length = L at *
        go_enter Try.func12, Try.ntmps12
        go_wp2_with (first
          | (at_make; refine wpList_make_room rfl _ _ rfl (N * 56) rfl rfl (by omega) ?_; intro w1 o1 g1; have O1 : Hid (Own (w.alloc (.cells #[.int .u64 0] 22)).heap.size w1 (.slice (some ⟨(w.alloc (.cells #[.int .u64 0] 22)).heap.size, 0, none⟩) 0 (N * 56)) []) := o1; have G1 : Hid ((w.alloc (.cells #[.int .u64 0] 22)).grownBy w1 none) := g1; clear o1 g1)
          | (go_at_call 17; have T1 := tak_start O1.out G1.out; rw [World.size_alloc] at T1; refine (HW.out _ _ _ _ T1).mono ?_; clear T1; rintro e w3 ⟨rfl, d3, t3⟩; have T3 : Hid (Tak w w.heap.size w1.heap.size w3 S d3 L) := t3; clear t3))
        have HC : Hid (∀ w', w3.grownBy w' none → w'.cell? ⟨w.heap.size, 0, none⟩ = some (.int .u64 (S : Int)) ∧ w'.cell? ⟨w1.heap.size, 0, none⟩ = some d3) := fun w' g => ⟨g.cell T3.out.ca.cell (by simp), g.cell T3.out.cd.cell (by simp)⟩
        go_region_held3 (fun w' => w'.cell? ⟨w.heap.size, 0, none⟩ = some (.int .u64 (S : Int)) ∧ w'.cell? ⟨w1.heap.size, 0, none⟩ = some d3) (first | exact HC.out _ (grown_drewN _ 1)) (fail)
        go_wp2
        go_ret3
        exact ⟨_, rfl, T3.out.own.keep (grown_drewN _ 1), gb_drew T3.out.gr⟩
      · have HY : Hid (CM.yes X = false) := no_of hok
        rw [HY.out, tN_no HY.out, tL_no HY.out]
        have HW : Hid (∀ w2 A D v, Tak w A D w2 0 v [] → Calls Try.prog 17 #[.slice q N cap, .func (.func 18) #[] #[.pointer (some ⟨A, 0, none⟩), .pointer (some ⟨D, 0, none⟩)]] w2 fun e w' => e = .returned (.bool false) ∧ w.grownBy w' none) := fun w2 A D v T => (walk_any MR.out T (by have := HN.out; omega)).mono fun e w' h => by
          rcases h with ⟨h1, _⟩ | ⟨_, h1⟩
          · exact absurd h1 hok
          · exact h1
        clear HY hok
        go_enter Try.func12, Try.ntmps12
        go_wp2_with (first
          | (at_make; refine wpList_make_room rfl _ _ rfl (N * 56) rfl rfl (by omega) ?_; intro w1 o1 g1; have O1 : Hid (Own (w.alloc (.cells #[.int .u64 0] 22)).heap.size w1 (.slice (some ⟨(w.alloc (.cells #[.int .u64 0] 22)).heap.size, 0, none⟩) 0 (N * 56)) []) := o1; have G1 : Hid ((w.alloc (.cells #[.int .u64 0] 22)).grownBy w1 none) := g1; clear o1 g1)
          | (go_at_call 17; have T1 := tak_start O1.out G1.out; rw [World.size_alloc] at T1; refine (HW.out _ _ _ _ T1).mono ?_; clear T1; rintro e w3 ⟨rfl, t3⟩; have T3 : Hid (w.grownBy w3 none) := t3; clear t3))
        go_ret3
        exact ⟨_, rfl, Own.nil _ _, T3.out⟩

theorem whole_any {w : World} {r : Value} {us : List Value} {X : List (List Nat)} (n : Nat) (mr : Mat w r us X) :
    Calls Try.prog 14 #[r, .int .u64 (n : Int)] w fun e w' => e = .returned (.bool (CM.yes X && decide (CM.tN X = n))) ∧ w.grownBy w' none := by
  have HT : Hid (∀ s, s = r → Calls Try.prog 12 #[s] w fun e w' => ∃ u, e = .returned (.tuple #[.int .u64 ((CM.tN X : Nat) : Int), u, .bool (CM.yes X)]) ∧ w.grownBy w' none) := fun s e => by subst e; exact (cTake_any mr).mono fun e w' ⟨u, h1, _, h2⟩ => ⟨u, h1, h2⟩
  have HC : Hid (decide (CM.tN X = n) = (((CM.tN X : Nat) : Int) == (n : Int))) := by
    show _ = _
    by_cases e : CM.tN X = n
    · rw [decide_eq_true e, eqb_yes e]
    · rw [decide_eq_false e, eqb_no e]
  rw [HC.out]
  clear mr HC
  generalize CM.tN X = T at *
  generalize CM.yes X = Y at *
  cases Y
  · go_enter Try.func14, Try.ntmps14
    go_wp2_with (go_at_call 12; refine (HT.out _ rfl).mono ?_; rintro e w1 ⟨u, rfl, g1⟩)
    go_ret
    exact ⟨rfl, g1⟩
  · go_enter Try.func14, Try.ntmps14
    go_wp2_with (go_at_call 12; refine (HT.out _ rfl).mono ?_; rintro e w1 ⟨u, rfl, g1⟩)
    go_ret
    exact ⟨by simp, g1⟩
end Go.Proofs.Ythmdidiojjmebaa
