/- Contracts of strings.HasPrefix at fffd, fits, stray. -/
import Derived.Test.YtfflpmcflpbopaaDoorByt
import Derived.WalkSpells
import Derived.WalkLawsBesides
set_option linter.unusedVariables false
namespace Go.Proofs.YtfflpmcflpbopaaDoor
open Go.RowKit

theorem fits_any (r : Nat) (w : World) :
    Calls Tryd.prog 22 #[.int .i32 (r : Int)] w fun e w' => e = .returned (.bool (R.fit r)) ∧ w' = w := by
  have h : ∀ b : Bool, (b = true ↔ (r ≠ 47 ∧ 32 ≤ r ∧ r ≠ 127)) → R.fit r = b := fun b hb => by
    unfold R.fit
    cases b
    · simp only [decide_eq_false_iff_not]; exact fun e => Bool.false_ne_true (hb.2 e)
    · simp only [decide_eq_true_eq]; exact hb.1 rfl
  by_cases h1 : (r : Int) = 47
  · rw [h false (by simp; omega)]
    go_enter Tryd.func22, Tryd.ntmps22
    go_wp2
    go_ret
    exact ⟨rfl, rfl⟩
  by_cases h2 : (r : Int) < 32
  · have h2' : ¬ (32 : Int) ≤ (r : Int) := by omega
    rw [h false (by simp; omega)]
    go_enter Tryd.func22, Tryd.ntmps22
    go_wp2
    go_ret
    exact ⟨rfl, rfl⟩
  have h2' : (32 : Int) ≤ (r : Int) := by omega
  by_cases h3 : (r : Int) = 127
  · rw [h false (by simp; omega)]
    go_enter Tryd.func22, Tryd.ntmps22
    go_wp2
    go_ret
    exact ⟨rfl, rfl⟩
  rw [h true (by simp; omega)]
  have b1 : ((r : Int) != 47) = true := bne_iff_ne.2 h1
  have b3 : ((r : Int) != 127) = true := bne_iff_ne.2 h3
  go_enter Tryd.func22, Tryd.ntmps22
  go_wp2
  go_ret
  exact ⟨rfl, rfl⟩
theorem hasPrefix_in (s p : ByteArray) (w : World) :
    Calls Tryd.prog 34 #[.string s, .string p] w fun e w' => e = .returned (.bool (Lib.hasPrefix s.data.toList p.data.toList)) ∧ w' = w := by
  have h := Lib.hasPrefix_raw s p
  by_cases hl : p.size ≤ s.size
  · have hz : (p.size : Int) ≤ (s.size : Int) := by omega
    have hz2 : ¬ (s.size : Int) < (p.size : Int) := by omega
    have hz3 : ¬ s.size < p.size := by omega
    simp only [hl, decide_true, Bool.true_and] at h
    go_enter Tryd.func34, Tryd.ntmps34
    go_wp2
    go_ret
    exact ⟨rfl, rfl⟩
  · have hz : ¬ (p.size : Int) ≤ (s.size : Int) := by omega
    simp only [hl, decide_false, Bool.false_and] at h
    rw [← h]
    clear h
    go_enter Tryd.func34, Tryd.ntmps34
    go_wp2
    go_ret
    exact ⟨rfl, rfl⟩
theorem hasPrefix_any (s p : ByteArray) (w : World) :
    Calls Tryd.prog 29 #[.string s, .string p] w fun e w' => e = .returned (.bool (Lib.hasPrefix s.data.toList p.data.toList)) ∧ w' = w := by
  go_enter Tryd.func29, Tryd.ntmps29
  go_wp2_with (go_at_call 34; refine (hasPrefix_in _ _ _).mono ?_; rintro e w' ⟨rfl, rfl⟩)
  go_ret
  exact ⟨rfl, rfl⟩
theorem stray_any (s : ByteArray) (p : Nat) (hp : p < s.size) (w : World) :
    Calls Tryd.prog 23 #[.string s, .int .i64 (p : Int), .int .i32 (R.rn ((bs s).drop p) : Int)] w fun e w' => e = .returned (.bool (R.bad ((bs s).drop p))) ∧ w' = w := by
  by_cases hr : R.rn ((bs s).drop p) = 65533
  · have hd : s.data.toList.drop p ≠ [] := fun e => by
      have := ne_bs hp
      unfold bs at this
      rw [← List.map_drop, e] at this
      exact this rfl
    have hpre := prefix_bs (s.data.toList.drop p) hd (by rw [List.map_drop]; exact hr)
    rw [List.map_drop] at hpre
    have hsl : (p : Int) ≤ (s.size : Int) := by omega
    have hb : R.bad ((bs s).drop p) = !Lib.hasPrefix ((s.extract p s.size).data.toList) [239, 191, 189] := by
      rw [Lib.extract_data, List.take_of_length_le (by rw [List.length_drop, ← Lib.size_eq]; exact Nat.le_refl _), hpre, Bool.not_not]; rfl
    rw [hr, hb]
    clear hb hpre hr hd
    go_enter Tryd.func23, Tryd.ntmps23
    go_wp2_with (go_at_call 29; refine (hasPrefix_any _ _ _).mono ?_; rintro e w' ⟨rfl, rfl⟩)
    go_ret
    refine ⟨?_, rfl⟩
    rw [Lib.extract_data]
    rfl
  · have hb : R.bad ((bs s).drop p) = false := by unfold R.bad; simp [hr]
    have hz : ¬ ((R.rn ((bs s).drop p) : Nat) : Int) = 65533 := by omega
    rw [hb]
    obtain ⟨x, hx⟩ : ∃ x : Int, ((R.rn ((bs s).drop p) : Nat) : Int) = x := ⟨_, rfl⟩
    rw [hx] at hz ⊢
    go_enter Tryd.func23, Tryd.ntmps23
    go_wp2
    go_ret
    exact ⟨rfl, rfl⟩
end Go.Proofs.YtfflpmcflpbopaaDoor
