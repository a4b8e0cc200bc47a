/- names.Whole and names.Valid: what they answer of any text. -/
import Derived.Test.YtfflpmcflpbopaaDoorPre
set_option linter.unusedVariables false
namespace Go.Proofs.YtfflpmcflpbopaaDoor
open Go.RowKit

/-- What a range over a string keeps. -/
structure It (w wr : World) (s : ByteArray) (p : Nat) : Prop where
  le : p ≤ s.size
  at_ : wr.heap[w.heap.size]? = some (.stringIter s p)
  gr : w.grownBy wr none
theorem It.start (w : World) (s : ByteArray) : It w (w.iter s 0) s 0 := ⟨Nat.zero_le _, World.iter_heap w s 0, World.grownBy_alloc w _ none⟩
theorem It.next {w wr : World} {s : ByteArray} {p : Nat} (h : It w wr s p) (hp : p < s.size) : It w (wr.iterAt w.heap.size s (p + R.wd ((bs s).drop p))) s (p + R.wd ((bs s).drop p)) :=
  ⟨(width_bs hp).2.2, Lib.iterAt_heap wr _ s p _ h.at_, gb_iter h.gr (Nat.le_refl _) s _⟩
theorem It.keep {w wr w' : World} {s : ByteArray} {p : Nat} (h : It w wr s p) (g : wr.grownBy w' none) : It w w' s p := ⟨h.le, gb_heap g h.at_, gb_trans h.gr g⟩
theorem It.pos {w wr : World} {s : ByteArray} {p : Nat} (h : It w wr s p) : wr.iterPos w.heap.size = p := iterPos_at h.at_

set_option maxRecDepth 100000 in
theorem whole_any (s : ByteArray) (w : World) :
    Calls Tryd.prog 15 #[.string s] w fun e w' => e = .returned (.bool (R.whole (bs s))) ∧ w.grownBy w' none := by
  go_enter Tryd.func15, Tryd.ntmps15
  go_wp2
  go_loopw [] (fun wr => ∃ p, It w wr s p ∧ R.whole (bs s) = R.whole ((bs s).drop p)) (fun wr => s.size - wr.iterPos w.heap.size)
  case atStart => exact ⟨0, It.start w s, rfl⟩
  case round =>
    obtain ⟨p, hI, hw⟩ := hrel
    have hpos := hI.pos
    by_cases hlt : p < s.size
    · have hnx : ∀ ty, (Instr.next (.pointer (some ⟨w.heap.size, 0, none⟩)) true ty).run Tryd.prog wr = _ := fun ty => next_bs wr w.heap.size s p ty hI.at_ hlt
      have hI2 := hI.next hlt
      have hpos2 := hI2.pos
      have hwd := width_bs hlt
      have hc := R.whole_cons _ (ne_bs hlt)
      rw [List.drop_drop] at hc
      cases hb : R.bad ((bs s).drop p)
      · rw [hb] at hc
        go_wp2_with (go_at_call 23; refine (stray_any s p hlt _).mono ?_; rintro e w1 ⟨rfl, rfl⟩; rw [hb])
        go_roundw
        case rel => exact ⟨_, hI2, by rw [hw, hc]; rfl⟩
        case measure => rw [hpos, hpos2]; omega
      · rw [hb] at hc
        go_wp2_with (go_at_call 23; refine (stray_any s p hlt _).mono ?_; rintro e w1 ⟨rfl, rfl⟩; rw [hb])
        go_ret
        exact ⟨by rw [hw, hc]; rfl, hI2.gr⟩
    · have hnx : ∀ ty, (Instr.next (.pointer (some ⟨w.heap.size, 0, none⟩)) true ty).run Tryd.prog wr = _ := fun ty => next_bs_end wr w.heap.size s p ty hI.at_ hlt
      have hnil : (bs s).drop p = [] := List.drop_of_length_le (by rw [bs_len]; omega)
      go_wp2
      go_ret
      exact ⟨by rw [hw, hnil]; rfl, hI.gr⟩
end Go.Proofs.YtfflpmcflpbopaaDoor
