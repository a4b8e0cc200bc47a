/- The document's array: the contracts of goes, why, On, Ons, Fuse. -/
import Derived.Test.YtfmlohedebdomaaRRef6
set_option linter.unusedSimpArgs false
set_option linter.unusedVariables false
namespace Go.Proofs.Ytfmlohedebdomaa
open Go.RowKit

namespace AM.RA
def on (A : RA) (d : Int) : Bool := decide (0 ≤ d) && decide (d < A.D.length) && (A.D.getD d.toNat none).isSome
def why (A : RA) (d k : Int) : Nat := if A.dark then 8 else if 0 ≤ d ∧ d < A.D.length ∧ 0 ≤ k ∧ k < A.n then (if (A.D.getD d.toNat none).isSome then 0 else 9) else 6
def burns (A : RA) : Bool := A.left == 1
def burnt (A : RA) : RA := if A.left = 0 then A else { A with left := A.left - 1, dark := A.left == 1 }
end AM.RA

section
variable {G : Nat → Prop} {w : World} {r : Nat} {A : AM.RA}

theorem rgoes_yes (h : RIs G w r A) (hd : A.dark = false) : Calls Try.prog 43 #[rptr r] w fun e w' => e = .returned (.bool A.burns) ∧ RIs G w' r A.burnt ∧ Step G w G w' := by
  obtain ⟨dp, dc, ds, lp, lc, fs, h⟩ := h
  have H : Hid (RL G w r dp dc ds lp lc fs A) := h
  have hf := h.left
  have ht := h.top
  obtain ⟨_, _, _, c3, c4⟩ := h.topCells
  have f3 := topFrozen 3 ht
  have f4 := topFrozen 4 ht
  have HT : Hid (w.heap[r]? = some (.cells #[.slice dp A.D.length dc, .int .i64 (A.n : Int), .slice lp A.L.length lc, .int .i64 (A.left : Int), .bool A.dark] 70 (0, 0))) := ht
  rw [hd] at c4
  clear h ht
  by_cases h0 : A.left = 0
  · have HB : Hid (A.burns = false ∧ A.burnt = A) := ⟨by simp [AM.RA.burns, h0], by simp [AM.RA.burnt, h0]⟩
    rw [h0] at c3
    have c3 : w.cell? ⟨r, 3, none⟩ = some (.int .i64 0) := c3
    clear hf c4 f3 f4 h0 hd
    go_enter Try.func43, Try.ntmps43
    go_wp2
    go_ret
    exact ⟨by rw [HB.out.1]; rfl, by rw [HB.out.2]; exact H.out.is, Step.refl G w⟩
  · obtain ⟨m, hm⟩ : ∃ m, A.left = m + 1 := ⟨A.left - 1, by omega⟩
    have HB : Hid (A.burns = decide (m = 0) ∧ A.burnt = { A with left := m, dark := decide (m = 0) }) := ⟨by simp [AM.RA.burns, hm, beq_dec], by
      unfold AM.RA.burnt
      rw [if_neg h0, hm]
      simp [beq_dec]⟩
    have hmb : m < 9223372036854775807 := by omega
    have i1 : ((((m : Nat) : Int) + 1) == 0) = false := by simp; omega
    rw [hm, Int.natCast_add, Int.natCast_one] at c3
    by_cases hz : m = 0
    · subst hz
      have HI : Hid (RIs G ((w.setCell ⟨r, 3, none⟩ (.int .i64 0)).setCell ⟨r, 4, none⟩ (.bool true)) r A.burnt) := by
        rw [HB.out.2]
        refine (H.out.turn (l' := 0) (k' := true) (grown_set2 (grown_set w r 3 _) 4 _) (by decide) ?_).is
        rw [heap_setCell_same _ _ _ _ _ _ (heap_setCell_same _ _ _ _ _ _ HT.out)]
        rfl
      have HS : Hid (Step G w G ((w.setCell ⟨r, 3, none⟩ (.int .i64 0)).setCell ⟨r, 4, none⟩ (.bool true))) := Step.of (grown_set2 (grown_set w r 3 _) 4 _) (fun i e => by obtain rfl := Option.some.inj e; exact H.out.Gr)
      have HB1 : Hid (A.burns = true) := HB.out.1
      clear HB HT H hf h0 hm hd
      go_enter Try.func43, Try.ntmps43
      go_wp2
      go_ret
      exact ⟨by rw [HB1.out]; rfl, HI.out, HS.out⟩
    · have i2 : (((m : Nat) : Int) == 0) = false := by simp; omega
      have e2 : decide (m = 0) = false := by simp [hz]
      rw [e2] at HB
      have HI : Hid (RIs G (w.setCell ⟨r, 3, none⟩ (.int .i64 (m : Int))) r A.burnt) := by
        rw [HB.out.2]
        refine (H.out.turn (l' := m) (k' := false) (grown_set w r 3 _) (by omega) ?_).is
        rw [heap_setCell_same _ _ _ _ _ _ HT.out, hd]
        rfl
      have HS : Hid (Step G w G (w.setCell ⟨r, 3, none⟩ (.int .i64 (m : Int)))) := Step.of (grown_set w r 3 _) (fun i e => by obtain rfl := Option.some.inj e; exact H.out.Gr)
      have HB1 : Hid (A.burns = false) := HB.out.1
      have hzi : ¬ (m : Int) = 0 := by omega
      clear HB HT H hf h0 hm hd e2
      go_enter Try.func43, Try.ntmps43
      go_wp2
      go_ret
      exact ⟨by rw [HB1.out]; rfl, HI.out, HS.out⟩

theorem rfuse_yes (h : RIs G w r A) {n : Int} (hn : n < 9223372036854775808) : Calls Try.prog 25 #[rptr r, .int .i64 n] w fun e w' => e = .returned (.tuple #[]) ∧ RIs G w' r { A with left := n.toNat } ∧ Step G w G w' := by
  obtain ⟨dp, dc, ds, lp, lc, fs, h⟩ := h
  have ht := h.top
  obtain ⟨_, _, _, c3, _⟩ := h.topCells
  have f3 := topFrozen 3 ht
  have H : Hid (RL G w r dp dc ds lp lc fs A) := h
  by_cases h0 : 0 < n
  · have e : (n.toNat : Int) = n := by omega
    have HI : Hid (RIs G ((w.setCell ⟨r, 3, none⟩ (.int .i64 0)).setCell ⟨r, 3, none⟩ (.int .i64 n)) r { A with left := n.toNat }) := by
      refine (H.out.turn (l' := n.toNat) (k' := A.dark) (grown_set2 (grown_set w r 3 _) 3 _) (by omega) ?_).is
      rw [heap_setCell_same _ _ _ _ _ _ (heap_setCell_same _ _ _ _ _ _ ht), e]
      rfl
    have HS : Hid (Step G w G ((w.setCell ⟨r, 3, none⟩ (.int .i64 0)).setCell ⟨r, 3, none⟩ (.int .i64 n))) := Step.of (grown_set2 (grown_set w r 3 _) 3 _) (fun i e => by obtain rfl := Option.some.inj e; exact H.out.Gr)
    have HI2 : Hid (RIs G (w.setCell ⟨r, 3, none⟩ (.int .i64 n)) r { A with left := n.toNat }) := by
      refine (H.out.turn (l' := n.toNat) (k' := A.dark) (grown_set w r 3 _) (by omega) ?_).is
      rw [heap_setCell_same _ _ _ _ _ _ ht, e]
      rfl
    have HS2 : Hid (Step G w G (w.setCell ⟨r, 3, none⟩ (.int .i64 n))) := Step.of (grown_set w r 3 _) (fun i e => by obtain rfl := Option.some.inj e; exact H.out.Gr)
    clear h ht H e
    go_enter Try.func25, Try.ntmps25
    go_wp2
    go_end0
    first | exact ⟨rfl, HI.out, HS.out⟩ | exact ⟨rfl, HI2.out, HS2.out⟩
  · have e : n.toNat = 0 := by omega
    have HI : Hid (RIs G (w.setCell ⟨r, 3, none⟩ (.int .i64 0)) r { A with left := n.toNat }) := by
      rw [e]
      refine (H.out.turn (l' := 0) (k' := A.dark) (grown_set w r 3 _) (by decide) ?_).is
      rw [heap_setCell_same _ _ _ _ _ _ ht]
      rfl
    have HS : Hid (Step G w G (w.setCell ⟨r, 3, none⟩ (.int .i64 0))) := Step.of (grown_set w r 3 _) (fun i e => by obtain rfl := Option.some.inj e; exact H.out.Gr)
    clear h ht H e
    go_enter Try.func25, Try.ntmps25
    go_wp2
    go_end0
    exact ⟨rfl, HI.out, HS.out⟩
theorem rwhy_yes (h : RIs G w r A) (d k : Int) : Calls Try.prog 42 #[rptr r, .int .i64 d, .int .i64 k] w fun e w' => e = .returned (.int .i64 (A.why d k : Int)) ∧ w' = w := by
  obtain ⟨dp, dc, ds, lp, lc, fs, h⟩ := h
  have hD2 := h.d2
  obtain ⟨c0, c1, _, _, c4⟩ := h.topCells
  cases hd : A.dark with
  | true =>
    rw [hd] at c4
    have HR : Hid ((A.why d k : Int) = 8) := by show _ = _; simp [AM.RA.why, hd]
    clear h hd
    go_enter Try.func42, Try.ntmps42
    go_wp2
    go_ret
    exact ⟨by rw [HR.out]; rfl, rfl⟩
  | false =>
    rw [hd] at c4
    by_cases hin : 0 ≤ d ∧ d < (A.D.length : Int) ∧ 0 ≤ k ∧ k < (A.n : Int)
    · obtain ⟨i1, i2, i3, i4⟩ := hin
      obtain ⟨i, rfl⟩ : ∃ n : Nat, d = (n : Int) := ⟨d.toNat, by omega⟩
      have hil : i < A.D.length := by omega
      obtain ⟨dg, v, rfl, hv, e0, e1, _⟩ := h.disk hil
      have n2 := h.n2
      cases hg : A.D[i] with
      | none =>
        rw [hg] at e1
        have e1 : w.cell? ⟨dg, i * 2 + 1, none⟩ = some (.bool true) := e1
        have HR : Hid ((A.why (i : Int) k : Int) = 9) := by show _ = _; simp [AM.RA.why, hd, i2, i3, i4, List.getD, hil, hg]
        clear h hd hv e0 hg
        generalize A.D.length = N at *
        generalize A.n = M at *
        go_enter Try.func42, Try.ntmps42
        go_wp2
        go_ret
        exact ⟨by rw [HR.out]; rfl, rfl⟩
      | some ss =>
        rw [hg] at e1
        have e1 : w.cell? ⟨dg, i * 2 + 1, none⟩ = some (.bool false) := e1
        have HR : Hid ((A.why (i : Int) k : Int) = 0) := by show _ = _; simp [AM.RA.why, hd, i2, i3, i4, List.getD, hil, hg]
        clear h hd hv e0 hg
        generalize A.D.length = N at *
        generalize A.n = M at *
        go_enter Try.func42, Try.ntmps42
        go_wp2
        go_ret
        exact ⟨by rw [HR.out]; rfl, rfl⟩
    · have HR : Hid ((A.why d k : Int) = 6) := by show _ = _; unfold AM.RA.why; rw [hd, if_neg (by decide), if_neg hin]; rfl
      clear h hd
      generalize A.D.length = N at *
      generalize A.n = M at *
      by_cases a1 : d < 0
      · clear hin
        go_enter Try.func42, Try.ntmps42
        go_wp2
        go_ret
        exact ⟨by rw [HR.out]; rfl, rfl⟩
      · by_cases a2 : (N : Int) ≤ d
        · clear hin
          go_enter Try.func42, Try.ntmps42
          go_wp2
          go_ret
          exact ⟨by rw [HR.out]; rfl, rfl⟩
        · by_cases a3 : k < 0
          · clear hin
            go_enter Try.func42, Try.ntmps42
            go_wp2
            go_ret
            exact ⟨by rw [HR.out]; rfl, rfl⟩
          · have a4 : (M : Int) ≤ k := by omega
            clear hin
            go_enter Try.func42, Try.ntmps42
            go_wp2
            go_ret
            exact ⟨by rw [HR.out]; rfl, rfl⟩
end
end Go.Proofs.Ytfmlohedebdomaa
