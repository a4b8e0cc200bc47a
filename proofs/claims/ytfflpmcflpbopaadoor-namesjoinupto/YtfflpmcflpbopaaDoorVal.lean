/- names.Valid: what it answers of any text. -/
import Derived.Test.YtfflpmcflpbopaaDoorWhl
set_option linter.unusedVariables false
namespace Go.Proofs.YtfflpmcflpbopaaDoor
open Go.RowKit

theorem empty_bs (s : ByteArray) : s.toList.isEmpty = decide (bs s = []) := by
  rw [Lib.toList_data]
  unfold bs
  cases s.data.toList <;> simp
theorem dot_bs (s : ByteArray) : (s.toList == (ByteArray.mk #[46]).toList) = decide (bs s = [46]) := by
  rw [bs_eq]; rfl
theorem dots_bs (s : ByteArray) : (s.toList == (ByteArray.mk #[46, 46]).toList) = decide (bs s = [46, 46]) := by
  rw [bs_eq]; rfl
set_option maxRecDepth 100000 in
theorem valid_any (s : ByteArray) (w : World) :
    Calls Tryd.prog 10 #[.string s] w fun e w' => e = .returned (.bool (R.valid (bs s))) ∧ w.grownBy w' none := by
  by_cases h1 : bs s = []
  · have hv : R.valid (bs s) = false := by unfold R.valid; simp [h1]
    have e1 : s.toList.isEmpty = true := by rw [empty_bs]; simp [h1]
    rw [hv]
    go_enter Tryd.func10, Tryd.ntmps10
    go_wp2
    go_ret
    exact ⟨rfl, World.grownBy.refl _ _⟩
  have e1 : s.toList.isEmpty = false := by rw [empty_bs]; simp [h1]
  by_cases h2 : 24 < s.size
  · have hv : R.valid (bs s) = false := by unfold R.valid; rw [bs_len]; simp; omega
    have e2 : (24 : Int) < (s.size : Int) := by omega
    rw [hv]
    go_enter Tryd.func10, Tryd.ntmps10
    go_wp2
    go_ret
    exact ⟨rfl, World.grownBy.refl _ _⟩
  have e2 : ¬ (24 : Int) < (s.size : Int) := by omega
  by_cases h3 : bs s = [46]
  · have hv : R.valid (bs s) = false := by unfold R.valid; simp [h3]
    have e3 : (s.toList == [46]) = true := by have := dot_bs s; rw [h3] at this; simpa using this
    rw [hv]
    go_enter Tryd.func10, Tryd.ntmps10
    go_wp2
    go_ret
    exact ⟨rfl, World.grownBy.refl _ _⟩
  have e3 : (s.toList == [46]) = false := by have := dot_bs s; simp only [h3, decide_false] at this; simpa using this
  by_cases h4 : bs s = [46, 46]
  · have hv : R.valid (bs s) = false := by unfold R.valid; simp [h4]
    have e4 : (s.toList == [46, 46]) = true := by have := dots_bs s; rw [h4] at this; simpa using this
    rw [hv]
    go_enter Tryd.func10, Tryd.ntmps10
    go_wp2
    go_ret
    exact ⟨rfl, World.grownBy.refl _ _⟩
  have e4 : (s.toList == [46, 46]) = false := by have := dots_bs s; simp only [h4, decide_false] at this; simpa using this
  have hv : R.valid (bs s) = R.all R.fitb (bs s) := by unfold R.valid; rw [bs_len]; simp [h1, h3, h4]; intro; omega
  rw [hv]
  clear hv
  go_enter Tryd.func10, Tryd.ntmps10
  go_wp2
  go_loopw [] (fun wr => ∃ p, It w wr s p ∧ R.all R.fitb (bs s) = R.all R.fitb ((bs s).drop p)) (fun wr => s.size - wr.iterPos w.heap.size)
  case atStart => exact ⟨0, It.start w s, rfl⟩
  case round =>
    obtain ⟨p, hI, hw⟩ := hrel
    have hpos := hI.pos
    by_cases hlt : p < s.size
    · have hnx : ∀ ty, (Instr.next (.pointer (some ⟨w.heap.size, 0, none⟩)) true ty).run Tryd.prog wr = _ := fun ty => next_bs wr w.heap.size s p ty hI.at_ hlt
      have hI2 := hI.next hlt
      have hpos2 := hI2.pos
      have hwd := width_bs hlt
      have hc := R.all_cons R.fitb _ (ne_bs hlt)
      rw [List.drop_drop] at hc
      cases hf : R.fit (R.rn ((bs s).drop p))
      · have hff : R.fitb ((bs s).drop p) = false := by unfold R.fitb; rw [hf]; rfl
        rw [hff] at hc
        go_wp2_with (go_at_call 22; refine (fits_any _ _).mono ?_; rintro e w1 ⟨rfl, rfl⟩; rw [hf])
        go_ret
        exact ⟨by rw [hw, hc]; rfl, hI2.gr⟩
      · cases hb : R.bad ((bs s).drop p)
        · have hff : R.fitb ((bs s).drop p) = true := by unfold R.fitb; rw [hf, hb]; rfl
          rw [hff] at hc
          go_wp2_with (first | (go_at_call 22; refine (fits_any _ _).mono ?_; rintro e w1 ⟨rfl, rfl⟩; rw [hf]) | (go_at_call 23; refine (stray_any s p hlt _).mono ?_; rintro e w1 ⟨rfl, rfl⟩; rw [hb]))
          go_roundw
          case rel => exact ⟨_, hI2, by rw [hw, hc]; rfl⟩
          case measure => rw [hpos, hpos2]; omega
        · have hff : R.fitb ((bs s).drop p) = false := by unfold R.fitb; rw [hf, hb]; rfl
          rw [hff] at hc
          go_wp2_with (first | (go_at_call 22; refine (fits_any _ _).mono ?_; rintro e w1 ⟨rfl, rfl⟩; rw [hf]) | (go_at_call 23; refine (stray_any s p hlt _).mono ?_; rintro e w1 ⟨rfl, rfl⟩; rw [hb]))
          go_ret
          exact ⟨by rw [hw, hc]; rfl, hI2.gr⟩
    · have hnx : ∀ ty, (Instr.next (.pointer (some ⟨w.heap.size, 0, none⟩)) true ty).run Tryd.prog wr = _ := fun ty => next_bs_end wr w.heap.size s p ty hI.at_ hlt
      have hnil : (bs s).drop p = [] := List.drop_of_length_le (by rw [bs_len]; omega)
      go_wp2
      go_ret
      exact ⟨by rw [hw, hnil]; rfl, hI.gr⟩
end Go.Proofs.YtfflpmcflpbopaaDoor
