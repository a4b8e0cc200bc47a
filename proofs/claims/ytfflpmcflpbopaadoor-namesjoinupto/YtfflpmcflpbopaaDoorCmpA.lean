/- names.Compare: what it answers of any two texts. -/
import Derived.Test.YtfflpmcflpbopaaDoorWhl
import Derived.Test.YtfflpmcflpbopaaDoorVal
import Derived.Test.YtfflpmcflpbopaaDoorCmp
import Derived.Test.YtfflpmcflpbopaaDoorDcd
set_option linter.unusedVariables false
namespace Go.Proofs.YtfflpmcflpbopaaDoor
open Go.RowKit

theorem cmp_of {a b : List Nat} {x : Int} (h : R.lex (R.runes a) (R.runes b) = x) (hx : x ≠ 0) : R.cmp a b = x := by
  unfold R.cmp
  rw [h, if_neg hx]
theorem cmp_of_zero {a b : List Nat} (h : R.lex (R.runes a) (R.runes b) = 0) : R.cmp a b = R.lex a b := by
  unfold R.cmp
  rw [if_pos h]
set_option maxRecDepth 100000 in
theorem compare_any (a b : ByteArray) (w : World) (hT : Tabs w) :
    Calls Tryd.prog 18 #[.string a, .string b] w fun e w' => e = .returned (.int .i64 (R.cmp (bs a) (bs b))) ∧ w.grownBy w' none := by
  obtain ⟨C, hC⟩ : ∃ C, R.cmp (bs a) (bs b) = C := ⟨_, rfl⟩
  rw [hC]
  go_enter Tryd.func18, Tryd.ntmps18
  go_wp2
  go_loopw [5] (fun u5 wr => ∃ (p : Nat) (r : ByteArray), It w wr a p ∧ u5 = .string r ∧ R.lex (R.runes (bs a)) (R.runes (bs b)) = R.lex (R.runes ((bs a).drop p)) (R.runes (bs r))) (fun u5 wr => a.size - wr.iterPos w.heap.size)
  case atStart => exact ⟨0, b, It.start w a, rfl, rfl⟩
  case round =>
    obtain ⟨p, r, hI, rfl, hc⟩ := hrel
    have hpos := hI.pos
    by_cases hlt : p < a.size
    · have hnx : ∀ ty, (Instr.next (.pointer (some ⟨w.heap.size, 0, none⟩)) true ty).run Tryd.prog wr = _ := fun ty => next_bs wr w.heap.size a p ty hI.at_ hlt
      have hI2 := hI.next hlt
      have hpos2 := hI2.pos
      have hwd := width_bs hlt
      by_cases hr : bs r = []
      · have er : r.toList.isEmpty = true := by rw [empty_bs]; simp [hr]
        have hx : R.cmp (bs a) (bs b) = 1 := cmp_of (by rw [hc, hr, R.runes_cons _ (ne_bs hlt)]; rfl) (by decide)
        obtain rfl := hC.symm.trans hx
        go_wp2
        go_ret
        exact ⟨rfl, hI2.gr⟩
      · have er : r.toList.isEmpty = false := by rw [empty_bs]; simp [hr]
        have hr0 : r.size ≠ 0 := fun e => hr (bs_empty r e)
        have hwr := R.wd_pos _ hr
        rw [bs_len] at hwr
        rw [R.lex_cons _ _ (ne_bs hlt) hr, List.drop_drop] at hc
        have hdec := decode_any r (wr.iterAt w.heap.size a (p + R.wd ((bs a).drop p))) (hT.keep hI2.gr) hr0
        obtain ⟨K, hK⟩ : ∃ K, R.wd (bs r) = K := ⟨_, rfl⟩
        obtain ⟨X, hX⟩ : ∃ X, R.rn ((bs a).drop p) = X := ⟨_, rfl⟩
        obtain ⟨Y, hY⟩ : ∃ Y, R.rn (bs r) = Y := ⟨_, rfl⟩
        rw [hK] at hwr hc
        rw [hX, hY] at hc
        rw [hK, hY] at hdec
        rw [hX] at hnx
        have hkz : (K : Int) ≤ (r.size : Int) := by omega
        by_cases he : (X : Int) = (Y : Int)
        · rw [if_neg (by omega), if_neg (by omega)] at hc
          go_wp2_with (go_at_call 25; refine hdec.mono ?_; rintro e w1 ⟨rfl, g1⟩)
          go_roundw
          case rel => exact ⟨_, _, hI2.keep g1, rfl, by rw [hc, bs_drop _ _ _ (Nat.le_refl _)]⟩
          case measure => rw [hpos, (hI2.keep g1).pos]; omega
        · have hx : R.cmp (bs a) (bs b) = cmpRune X Y := by
            refine cmp_of ?_ (by unfold cmpRune; split; decide; split; decide; omega)
            rw [hc]
            unfold cmpRune
            by_cases h1 : X < Y
            · rw [if_pos h1, if_pos (by omega)]
            · rw [if_neg h1, if_pos (by omega), if_neg (by omega), if_pos (by omega)]
          obtain rfl := hC.symm.trans hx
          go_wp2_with (first | (go_at_call 25; refine hdec.mono ?_; rintro e w1 ⟨rfl, g1⟩) | (go_at_call 26; refine (compareRune_any _ _ _).mono ?_; rintro e w2 ⟨rfl, rfl⟩))
          go_ret
          exact ⟨rfl, gb_trans hI2.gr g1⟩
    · have hnx : ∀ ty, (Instr.next (.pointer (some ⟨w.heap.size, 0, none⟩)) true ty).run Tryd.prog wr = _ := fun ty => next_bs_end wr w.heap.size a p ty hI.at_ hlt
      have hnil : (bs a).drop p = [] := List.drop_of_length_le (by rw [bs_len]; omega)
      rw [hnil] at hc
      by_cases hr : bs r = []
      · have er : r.toList.isEmpty = true := by rw [empty_bs]; simp [hr]
        rw [hr] at hc
        obtain rfl := hC.symm.trans (cmp_of_zero hc)
        go_wp2_with (go_at_call 27; refine (compareText_any _ _ _).mono ?_; rintro e w1 ⟨rfl, rfl⟩)
        go_ret
        exact ⟨rfl, hI.gr⟩
      · have er : r.toList.isEmpty = false := by rw [empty_bs]; simp [hr]
        have hx : R.cmp (bs a) (bs b) = -1 := cmp_of (by rw [hc, R.runes_cons _ hr]; rfl) (by decide)
        obtain rfl := hC.symm.trans hx
        go_wp2
        go_ret
        exact ⟨rfl, hI.gr⟩
end Go.Proofs.YtfflpmcflpbopaaDoor
