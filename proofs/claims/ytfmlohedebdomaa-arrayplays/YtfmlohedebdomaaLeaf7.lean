/- Contracts of Ons, reach, burns, Fuse, Barrier. -/
import Derived.Test.YtfmlohedebdomaaLeaf6
set_option linter.unusedSimpArgs false
set_option linter.unusedVariables false
namespace Go.Proofs.Ytfmlohedebdomaa
open Go.RowKit

section
variable {F : Nat → Prop} {w : World} {a : Nat} {R : AM.Raw}

def cnt (R : AM.Raw) (k : Nat) : Nat := (R.C.take k).countP (·.isSome)
theorem cnt_zero (R : AM.Raw) : cnt R 0 = 0 := by simp [cnt]
theorem cnt_all (R : AM.Raw) : cnt R R.C.length = R.ons := by simp [cnt, AM.Raw.ons]
theorem cnt_step {R : AM.Raw} {k : Nat} (h : k < R.C.length) : cnt R (k + 1) = cnt R k + (if R.on (k : Int) then 1 else 0) := by
  unfold cnt
  rw [List.take_succ_eq_append_getElem h, List.countP_append]
  congr 1
  have hon : R.on (k : Int) = R.C[k].isSome := by
    simp only [AM.Raw.on, Int.toNat_natCast, List.getD, List.getElem?_eq_getElem h, Option.getD_some]
    simp; omega
  rw [hon]
  simp [List.countP_cons]
theorem cnt_le (R : AM.Raw) (k : Nat) : cnt R k ≤ k := Nat.le_trans List.countP_le_length (by simp; omega)

theorem ons_yes (h : Is F w a R) : Calls Try.prog 33 #[ptr a] w fun e w' => e = .returned (.int .i64 (R.ons : Int)) ∧ w' = w := by
  have H : Hid (Is F w a R) := h
  have hN : R.C.length ≤ 255 := h.ok.d2
  obtain ⟨N, hNe⟩ : ∃ N, N = R.C.length := ⟨_, rfl⟩
  have HN : Hid (N = R.C.length) := hNe
  have HD : Hid (Calls Try.prog 31 #[ptr a] w fun e w' => e = .returned (.int .i64 (N : Int)) ∧ w' = w) := by rw [hNe]; exact disks_yes h
  rw [← hNe] at hN
  clear h hNe
  go_enter Try.func33, Try.ntmps33
  go_wp2_with (go_at_call 31; refine HD.out.mono ?_; rintro e w1 ⟨rfl, hw⟩; obtain rfl := hw.symm; clear hw)
  go_loop [3, 7] (fun tc ti => ∃ k : Nat, k ≤ N ∧ ti = .int .i64 (k : Int) ∧ tc = .int .i64 (cnt R k : Int)) (fun _ ti => N - (intOf ti).toNat)
  case atStart => exact ⟨0, by omega, rfl, by rw [cnt_zero]; rfl⟩
  case round =>
    obtain ⟨k, hk, rfl, rfl⟩ := hrel
    by_cases hlt : k < N
    · have i1 : (k : Int) < (N : Int) := by omega
      have hs := cnt_step (R := R) (k := k) (by rw [← HN.out]; exact hlt)
      have hcl := cnt_le R k
      have hc := on_yes H.out (k : Int)
      cases ho : R.on (k : Int) with
      | true =>
        rw [ho] at hc hs
        have HC : Hid (Calls Try.prog 37 #[ptr a, .int .i64 (k : Int)] w fun e w' => e = .returned (.bool true) ∧ w' = w) := hc
        have HS : Hid (cnt R (k + 1) = cnt R k + 1) := hs
        clear hc hs ho
        generalize cnt R k = c at *
        go_wp2_with (go_at_call 37; refine HC.out.mono ?_; rintro e w1 ⟨rfl, hw⟩; obtain rfl := hw.symm; clear hw)
        go_round
        case rel => exact ⟨k + 1, by omega, by go_num, by rw [HS.out]; go_num⟩
        case measure => simp [intOf]; omega
      | false =>
        rw [ho] at hc hs
        have HC : Hid (Calls Try.prog 37 #[ptr a, .int .i64 (k : Int)] w fun e w' => e = .returned (.bool false) ∧ w' = w) := hc
        have HS : Hid (cnt R (k + 1) = cnt R k) := hs
        clear hc hs ho
        generalize cnt R k = c at *
        go_wp2_with (go_at_call 37; refine HC.out.mono ?_; rintro e w1 ⟨rfl, hw⟩; obtain rfl := hw.symm; clear hw)
        go_round
        case rel => exact ⟨k + 1, by omega, by go_num, by rw [HS.out]⟩
        case measure => simp [intOf]; omega
    · have i1 : ¬ (k : Int) < (N : Int) := by omega
      have HE : Hid (cnt R k = R.ons) := by
        have e : k = R.C.length := by have := HN.out; omega
        show _ = _
        rw [e, cnt_all]
      go_wp2
      go_ret
      exact ⟨by rw [HE.out]; rfl, rfl⟩

theorem reach_yes (h : Is F w a R) (d k : Int) : Calls Try.prog 39 #[ptr a, .int .i64 d, .int .i64 k] w fun e w' => e = .returned (.int .i64 (R.reach d k : Int)) ∧ w' = w := by
  have H : Hid (Is F w a R) := h
  have hp := power_yes h
  obtain ⟨dg, fp, fc, ht⟩ := h.top
  have c1 : w.cell? ⟨a, 1, none⟩ = some (.int .i64 (R.n : Int)) := topCell (j := 1) ht rfl
  clear ht
  cases hoff : R.off with
  | true =>
    rw [AM.Raw.power, hoff] at hp
    have HP : Hid (Calls Try.prog 45 #[ptr a] w fun e w' => e = .returned (.int .i64 8) ∧ w' = w) := hp
    have HR : Hid ((R.reach d k : Int) = 8) := by show _ = _; simp [AM.Raw.reach, hoff]
    clear hp h hoff c1
    go_enter Try.func39, Try.ntmps39
    go_wp2_with (go_at_call 45; refine HP.out.mono ?_; rintro e w1 ⟨rfl, hw⟩; obtain rfl := hw.symm; clear hw)
    go_ret
    exact ⟨by rw [HR.out]; rfl, rfl⟩
  | false =>
    rw [AM.Raw.power, hoff] at hp
    have HP : Hid (Calls Try.prog 45 #[ptr a] w fun e w' => e = .returned (.int .i64 0) ∧ w' = w) := hp
    have hc := has_yes h d
    cases hh : hasD R d with
    | false =>
      rw [hh] at hc
      have HC : Hid (Calls Try.prog 57 #[ptr a, .int .i64 d] w fun e w' => e = .returned (.bool false) ∧ w' = w) := hc
      have HR : Hid ((R.reach d k : Int) = 6) := by
        show _ = _
        have : ¬ (0 ≤ d ∧ d < (R.C.length : Int) ∧ 0 ≤ k ∧ k < (R.n : Int)) := fun c => by simp [hasD, c.1, c.2.1] at hh
        simp [AM.Raw.reach, hoff, this]
      clear hp h hoff hh hc c1
      go_enter Try.func39, Try.ntmps39
      go_wp2_with (first
        | (go_at_call 45; refine HP.out.mono ?_; rintro e w1 ⟨rfl, hw⟩; obtain rfl := hw.symm; clear hw)
        | (go_at_call 57; refine HC.out.mono ?_; rintro e w1 ⟨rfl, hw⟩; obtain rfl := hw.symm; clear hw))
      go_ret
      exact ⟨by rw [HR.out]; rfl, rfl⟩
    | true =>
      rw [hh] at hc
      have HC : Hid (Calls Try.prog 57 #[ptr a, .int .i64 d] w fun e w' => e = .returned (.bool true) ∧ w' = w) := hc
      simp only [hasD, Bool.and_eq_true, decide_eq_true_eq] at hh
      by_cases hk : 0 ≤ k ∧ k < (R.n : Int)
      · have ho := on_yes h d
        cases hon : R.on d with
        | true =>
          rw [hon] at ho
          have HO : Hid (Calls Try.prog 37 #[ptr a, .int .i64 d] w fun e w' => e = .returned (.bool true) ∧ w' = w) := ho
          have HR : Hid ((R.reach d k : Int) = 0) := by show _ = _; simp [AM.Raw.reach, hoff, hh.1, hh.2, hk.1, hk.2, hon]
          clear hp h hoff hh hc ho hon
          obtain ⟨k1, k2⟩ := hk
          go_enter Try.func39, Try.ntmps39
          go_wp2_with (first
            | (go_at_call 45; refine HP.out.mono ?_; rintro e w1 ⟨rfl, hw⟩; obtain rfl := hw.symm; clear hw)
            | (go_at_call 57; refine HC.out.mono ?_; rintro e w1 ⟨rfl, hw⟩; obtain rfl := hw.symm; clear hw)
            | (go_at_call 37; refine HO.out.mono ?_; rintro e w1 ⟨rfl, hw⟩; obtain rfl := hw.symm; clear hw))
          go_ret
          exact ⟨by rw [HR.out]; rfl, rfl⟩
        | false =>
          rw [hon] at ho
          have HO : Hid (Calls Try.prog 37 #[ptr a, .int .i64 d] w fun e w' => e = .returned (.bool false) ∧ w' = w) := ho
          have HR : Hid ((R.reach d k : Int) = 9) := by show _ = _; simp [AM.Raw.reach, hoff, hh.1, hh.2, hk.1, hk.2, hon]
          clear hp h hoff hh hc ho hon
          obtain ⟨k1, k2⟩ := hk
          go_enter Try.func39, Try.ntmps39
          go_wp2_with (first
            | (go_at_call 45; refine HP.out.mono ?_; rintro e w1 ⟨rfl, hw⟩; obtain rfl := hw.symm; clear hw)
            | (go_at_call 57; refine HC.out.mono ?_; rintro e w1 ⟨rfl, hw⟩; obtain rfl := hw.symm; clear hw)
            | (go_at_call 37; refine HO.out.mono ?_; rintro e w1 ⟨rfl, hw⟩; obtain rfl := hw.symm; clear hw))
          go_ret
          exact ⟨by rw [HR.out]; rfl, rfl⟩
      · have HR : Hid ((R.reach d k : Int) = 6) := by
          show _ = _
          have : ¬ (0 ≤ d ∧ d < (R.C.length : Int) ∧ 0 ≤ k ∧ k < (R.n : Int)) := fun c => hk c.2.2
          simp [AM.Raw.reach, hoff, this]
        clear hp h hoff hh hc
        by_cases k1 : k < 0
        · clear hk
          go_enter Try.func39, Try.ntmps39
          go_wp2_with (first
            | (go_at_call 45; refine HP.out.mono ?_; rintro e w1 ⟨rfl, hw⟩; obtain rfl := hw.symm; clear hw)
            | (go_at_call 57; refine HC.out.mono ?_; rintro e w1 ⟨rfl, hw⟩; obtain rfl := hw.symm; clear hw))
          go_ret
          exact ⟨by rw [HR.out]; rfl, rfl⟩
        · have k2 : (R.n : Int) ≤ k := by omega
          clear hk
          go_enter Try.func39, Try.ntmps39
          go_wp2_with (first
            | (go_at_call 45; refine HP.out.mono ?_; rintro e w1 ⟨rfl, hw⟩; obtain rfl := hw.symm; clear hw)
            | (go_at_call 57; refine HC.out.mono ?_; rintro e w1 ⟨rfl, hw⟩; obtain rfl := hw.symm; clear hw))
          go_ret
          exact ⟨by rw [HR.out]; rfl, rfl⟩

/-- The block of an array turned at one of its last two cells. -/
theorem grown_set (w : World) (a j : Nat) (v : Value) : w.grownBy (w.setCell ⟨a, j, none⟩ v) (some a) := ⟨rfl, rfl, rfl, by simp, fun i _ hne => Below.heap_setCell _ _ _ _ (by simpa using hne)⟩
theorem grown_set2 {w w' : World} {a : Nat} (g : w.grownBy w' (some a)) (j : Nat) (v : Value) : w.grownBy (w'.setCell ⟨a, j, none⟩ v) (some a) := grown_trans g (grown_set w' a j v)
theorem topFrozen {w : World} {a : Nat} {c : Array Value} {t : TypeId} (j : Nat) (h : w.heap[a]? = some (.cells c t (0, 0))) : w.frozen? ⟨a, j, none⟩ = false := by simp [World.frozen?, h]

theorem beq_dec (m : Nat) : (m == 0) = decide (m = 0) := by cases m <;> rfl
theorem burns_yes (h : Is F w a R) (hoff : R.off = false) : Calls Try.prog 40 #[ptr a] w fun e w' => e = .returned (.bool R.burns) ∧ Is F w' a R.burnt ∧ Step F w F w' := by
  obtain ⟨dg, dv, fp, fc, h⟩ := h
  have H : Hid (Lies F w a dg dv fp fc R) := h
  have hf := h.ok.fuse
  have ht := h.top
  have c3 : w.cell? ⟨a, 3, none⟩ = some (.int .i64 (R.fuse : Int)) := topCell (j := 3) ht rfl
  have c4 : w.cell? ⟨a, 4, none⟩ = some (.bool R.off) := topCell (j := 4) ht rfl
  have f3 := topFrozen 3 ht
  have f4 := topFrozen 4 ht
  have HT : Hid (w.heap[a]? = some (.cells #[.slice (some ⟨dg, 0, none⟩) R.C.length R.C.length, .int .i64 (R.n : Int), .slice fp R.L.length fc, .int .i64 (R.fuse : Int), .bool R.off] 64 (0, 0))) := ht
  clear h ht
  by_cases h0 : R.fuse = 0
  · have HB : Hid (R.burns = false ∧ R.burnt = R) := ⟨by simp [AM.Raw.burns, h0], by simp [AM.Raw.burnt, h0]⟩
    rw [h0] at c3
    have c3 : w.cell? ⟨a, 3, none⟩ = some (.int .i64 0) := c3
    clear hf c4 f3 f4 h0
    go_enter Try.func40, Try.ntmps40
    go_wp2
    go_ret
    exact ⟨by rw [HB.out.1]; rfl, by rw [HB.out.2]; exact H.out.is, Step.refl F w⟩
  · obtain ⟨m, hm⟩ : ∃ m, R.fuse = m + 1 := ⟨R.fuse - 1, by omega⟩
    have HB : Hid (R.burns = decide (m = 0) ∧ R.burnt = { R with fuse := m, off := decide (m = 0) }) := ⟨by simp [AM.Raw.burns, hm, beq_dec], by
      unfold AM.Raw.burnt
      rw [if_neg h0, hm]
      simp [beq_dec]⟩
    have HT' : Hid (((w.setCell ⟨a, 3, none⟩ (.int .i64 (m : Int))).setCell ⟨a, 4, none⟩ (.bool (decide (m = 0)))).heap[a]? = some (.cells #[.slice (some ⟨dg, 0, none⟩) R.C.length R.C.length, .int .i64 (R.n : Int), .slice fp R.L.length fc, .int .i64 (m : Int), .bool (decide (m = 0))] 64 (0, 0))) := by
      show _ = _
      rw [heap_setCell_same _ _ _ _ _ _ (heap_setCell_same _ _ _ _ _ _ HT.out)]
      rfl
    have hmb : m < 9223372036854775807 := by omega
    have HI : Hid (Is F ((w.setCell ⟨a, 3, none⟩ (.int .i64 (m : Int))).setCell ⟨a, 4, none⟩ (.bool (decide (m = 0)))) a R.burnt) := by
      rw [HB.out.2]
      exact (H.out.turn (R' := { R with fuse := m, off := decide (m = 0) }) (grown_set2 (grown_set w a 3 _) 4 _) rfl rfl rfl (by show m < _; omega) HT'.out).is
    have HS : Hid (Step F w F ((w.setCell ⟨a, 3, none⟩ (.int .i64 (m : Int))).setCell ⟨a, 4, none⟩ (.bool (decide (m = 0))))) := Step.of (grown_set2 (grown_set w a 3 _) 4 _) (fun i e => by obtain rfl := Option.some.inj e; exact H.out.Fa)
    have HB1 : Hid (R.burns = decide (m = 0)) := HB.out.1
    have i1 : ((((m : Nat) : Int) + 1) == 0) = false := by simp; omega
    rw [hm, Int.natCast_add, Int.natCast_one] at c3
    clear HB HT' HT H hf h0 hm
    by_cases hz : m = 0
    · subst hz
      go_enter Try.func40, Try.ntmps40
      go_wp2
      go_ret
      exact ⟨by rw [HB1.out]; rfl, HI.out, HS.out⟩
    · have i2 : (((m : Nat) : Int) == 0) = false := by simp; omega
      have e2 : decide (m = 0) = false := by simp [hz]
      rw [e2] at HI HS HB1
      clear e2
      go_enter Try.func40, Try.ntmps40
      go_wp2
      go_ret
      exact ⟨by rw [HB1.out]; rfl, HI.out, HS.out⟩
end
end Go.Proofs.Ytfmlohedebdomaa
