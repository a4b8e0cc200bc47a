/- The document's Valid: what it answers of any text. -/
import Derived.Test.YtfflpmcflpbopaaDoorRWh
import Derived.Test.YtfflpmcflpbopaaDoorVal
set_option linter.unusedVariables false
namespace Go.Proofs.YtfflpmcflpbopaaDoor
open Go.RowKit

theorem all_next {l : List Nat} {i : Nat} (h : i < l.length) : (l.drop i).all R.fitB = (R.fitB (l.getD i 0) && (l.drop (i + 1)).all R.fitB) := by
  rw [List.drop_eq_getElem_cons h, List.all_cons]
  simp [List.getD, h]
set_option maxRecDepth 100000 in
theorem rvalid_any (s : ByteArray) (w : World) (hlim : s.size ≤ 281474976710656) :
    Calls Tryd.prog 11 #[.string s] w fun e w' => e = .returned (.bool (R.valid (bs s))) ∧ w' = w := by
  have hW := rwhole_any s w hlim
  by_cases h1 : s.size = 0
  · have hv : R.valid (bs s) = false := by unfold R.valid; rw [bs_empty s h1]; rfl
    have e1 : (s.size : Int) = 0 := by omega
    rw [hv]
    go_enter Tryd.func11, Tryd.ntmps11
    go_wp2
    go_ret
    exact ⟨rfl, rfl⟩
  have e1 : ¬ (s.size : Int) = 0 := by omega
  have h1' : bs s ≠ [] := fun e => h1 ((bs_nil_iff s).1 e)
  by_cases h2 : 24 < s.size
  · have hv : R.valid (bs s) = false := by unfold R.valid; rw [bs_len]; simp; omega
    have e2 : (24 : Int) < (s.size : Int) := by omega
    rw [hv]
    go_enter Tryd.func11, Tryd.ntmps11
    go_wp2
    go_ret
    exact ⟨rfl, rfl⟩
  have e2 : ¬ (24 : Int) < (s.size : Int) := by omega
  cases hw : R.whole (bs s)
  · have hv : R.valid (bs s) = false := by unfold R.valid; rw [R.all_fit, hw]; simp
    rw [hv]
    rw [hw] at hW
    go_enter Tryd.func11, Tryd.ntmps11
    go_wp2_with (go_at_call 16; refine hW.mono ?_; rintro e w1 ⟨rfl, rfl⟩)
    go_ret
    exact ⟨rfl, rfl⟩
  rw [hw] at hW
  by_cases h3 : bs s = [46]
  · have hv : R.valid (bs s) = false := by unfold R.valid; simp [h3]
    have e3 : (s.toList == [46]) = true := by have := dot_bs s; rw [h3] at this; simpa using this
    rw [hv]
    go_enter Tryd.func11, Tryd.ntmps11
    go_wp2_with (go_at_call 16; refine hW.mono ?_; rintro e w1 ⟨rfl, rfl⟩)
    go_ret
    exact ⟨rfl, rfl⟩
  have e3 : (s.toList == [46]) = false := by have := dot_bs s; simp only [h3, decide_false] at this; simpa using this
  by_cases h4 : bs s = [46, 46]
  · have hv : R.valid (bs s) = false := by unfold R.valid; simp [h4]
    have e4 : (s.toList == [46, 46]) = true := by have := dots_bs s; rw [h4] at this; simpa using this
    rw [hv]
    go_enter Tryd.func11, Tryd.ntmps11
    go_wp2_with (go_at_call 16; refine hW.mono ?_; rintro e w1 ⟨rfl, rfl⟩)
    go_ret
    exact ⟨rfl, rfl⟩
  have e4 : (s.toList == [46, 46]) = false := by have := dots_bs s; simp only [h4, decide_false] at this; simpa using this
  have hv : R.valid (bs s) = (bs s).all R.fitB := by unfold R.valid; rw [R.all_fit, hw, bs_len]; simp [h1', h3, h4]; intro; omega
  rw [hv]
  clear hv hw
  obtain ⟨B, hB⟩ : ∃ B, (bs s).all R.fitB = B := ⟨_, rfl⟩
  rw [hB]
  go_enter Tryd.func11, Tryd.ntmps11
  go_wp2_with (go_at_call 16; refine hW.mono ?_; rintro e w1 ⟨rfl, hw1⟩; obtain rfl := hw1.symm; clear hw1)
  clear hW
  go_loopw [3] (fun u3 wr => ∃ p : Nat, wr = w ∧ u3 = .int .i64 (p : Int) ∧ p ≤ s.size ∧ ((bs s).drop p).all R.fitB = B) (fun u3 _ => s.size - (intOf u3).toNat)
  case atStart => exact ⟨0, rfl, rfl, Nat.zero_le _, hB⟩
  case round =>
    obtain ⟨p, rfl, rfl, hp, hw⟩ := hrel
    by_cases hlt : p < s.size
    · have hz : (p : Int) < (s.size : Int) := by omega
      have hz0 : (0 : Int) ≤ (p : Int) := by omega
      rw [all_next (by rw [bs_len]; exact hlt)] at hw
      obtain ⟨x, hx⟩ : ∃ x, s[p]'hlt = x := ⟨_, rfl⟩
      have hg := bs_get s p hlt
      rw [hx] at hg
      rw [← hg] at hw
      have hf : R.fitB x.toNat = decide (x.toNat ≠ 47 ∧ 32 ≤ x.toNat ∧ x.toNat ≠ 127) := rfl
      rw [hf] at hw
      clear hg hf hB
      by_cases c1 : (x.toNat : Int) = 47
      · rw [decide_eq_false (by omega), Bool.false_and] at hw
        subst hw
        go_wp2
        go_ret
        exact ⟨rfl, rfl⟩
      have b1 : ((x.toNat : Int) == 47) = false := beq_eq_false_iff_ne.2 c1
      by_cases c2 : (x.toNat : Int) < 32
      · rw [decide_eq_false (by omega), Bool.false_and] at hw
        subst hw
        go_wp2
        go_ret
        exact ⟨rfl, rfl⟩
      by_cases c3 : (x.toNat : Int) = 127
      · rw [decide_eq_false (by omega), Bool.false_and] at hw
        subst hw
        go_wp2
        go_ret
        exact ⟨rfl, rfl⟩
      have b3 : ((x.toNat : Int) == 127) = false := beq_eq_false_iff_ne.2 c3
      rw [decide_eq_true (by omega), Bool.true_and] at hw
      go_wp2
      go_roundw
      case rel => exact ⟨p + 1, by first | trivial | rfl, by go_num, by omega, hw⟩
      case measure => simp [intOf]; omega
    · have hz : ¬ (p : Int) < (s.size : Int) := by omega
      have hnil : (bs s).drop p = [] := List.drop_of_length_le (by rw [bs_len]; omega)
      rw [hnil] at hw
      obtain rfl := hw
      go_wp2
      go_ret
      exact ⟨rfl, rfl⟩
end Go.Proofs.YtfflpmcflpbopaaDoor
