/- names.Cut: what it answers of any text. -/
import Derived.Test.YtfflpmcflpbopaaDoorWhl
import Derived.Test.YtfflpmcflpbopaaDoorClo
set_option linter.unusedVariables false
namespace Go.Proofs.YtfflpmcflpbopaaDoor
open Go.RowKit

/-- The rounds of Cut: where the last rune begins that was seen, and where the next one does. -/
def CutI (l : List Nat) (N e p : Nat) : Prop := (p = 0 ∧ e = 0) ∨ (e < l.length ∧ p = e + R.wd (l.drop e) ∧ e ≤ N ∧ R.cut N l = e + R.cut (N - e) (l.drop e))
theorem CutI.go {l : List Nat} {N e p : Nat} (h : CutI l N e p) (hp : p < l.length) (hN : p ≤ N) : CutI l N p (p + R.wd (l.drop p)) := by
  refine .inr ⟨hp, rfl, hN, ?_⟩
  rcases h with ⟨rfl, rfl⟩ | ⟨he, rfl, hn, hc⟩
  · simp
  · rw [hc, R.cut_yes (R.ne_nil he) (by omega), List.drop_drop, ← Nat.sub_sub]
    omega
theorem CutI.stop {l : List Nat} {N e p : Nat} (h : CutI l N e p) (h0 : p = 0 → N = 0 ∨ l = []) (h1 : p ≠ 0 → N < p) : R.cut N l = e := by
  rcases h with ⟨rfl, rfl⟩ | ⟨he, rfl, hn, hc⟩
  · rcases h0 rfl with rfl | rfl
    · exact R.cut_zero l
    · rfl
  · have := R.wd_pos _ (R.ne_nil he)
    rw [hc, R.cut_no (R.ne_nil he) (by have := h1 (by omega); omega)]
    rfl
theorem extract_all (s : ByteArray) : s.extract 0 s.size = s := bs_inj (by rw [bs_take, ← bs_len, List.take_length])
set_option maxRecDepth 100000 in
theorem cut_any (s : ByteArray) (n : Int) (w : World) (hlim : s.size ≤ 281474976710656) :
    Calls Tryd.prog 20 #[.string s, .int .i64 n] w fun e w' => e = .returned (.string (s.extract 0 (R.cut n.toNat (bs s)))) ∧ w.grownBy w' none := by
  by_cases hn : (s.size : Int) ≤ n
  · rw [R.cut_all_room (bs s) n.toNat (by rw [bs_len]; omega), bs_len, extract_all]
    go_enter Tryd.func20, Tryd.ntmps20
    go_wp2_with (go_at_call 28; refine (clone_any _ _ hlim).mono ?_; rintro e w1 ⟨rfl, g1⟩)
    go_ret
    exact ⟨rfl, g1⟩
  obtain ⟨C, hC⟩ : ∃ C, R.cut n.toNat (bs s) = C := ⟨_, rfl⟩
  rw [hC]
  have hcl : (s.extract 0 C).size ≤ 281474976710656 := by
    rw [← bs_len, bs_take, List.length_take, bs_len]
    omega
  go_enter Tryd.func20, Tryd.ntmps20
  go_wp2
  go_loopw [5] (fun u5 wr => ∃ p e : Nat, It w wr s p ∧ u5 = .int .i64 (e : Int) ∧ CutI (bs s) n.toNat e p) (fun u5 wr => s.size - wr.iterPos w.heap.size)
  case atStart => exact ⟨0, 0, It.start w s, rfl, .inl ⟨rfl, rfl⟩⟩
  case round =>
    obtain ⟨p, e, hI, rfl, hc⟩ := hrel
    have hpos := hI.pos
    by_cases hlt : p < s.size
    · have hnx : ∀ ty, (Instr.next (.pointer (some ⟨w.heap.size, 0, none⟩)) true ty).run Tryd.prog wr = _ := fun ty => next_bs wr w.heap.size s p ty hI.at_ hlt
      have hI2 := hI.next hlt
      have hpos2 := hI2.pos
      have hwd := width_bs hlt
      by_cases hp : n < (p : Int)
      · have hs := hc.stop (by omega) (by omega)
        rw [hC] at hs
        subst hs
        have hle := (R.cut_le (bs s) n.toNat).2
        rw [hC, bs_len] at hle
        have hle2 : (C : Int) ≤ (s.size : Int) := by omega
        go_wp2_with (go_at_call 28; refine (clone_any _ _ hcl).mono ?_; rintro e w1 ⟨rfl, g1⟩)
        go_ret
        exact ⟨rfl, gb_trans hI2.gr g1⟩
      · have hgo := hc.go (by rw [bs_len]; exact hlt) (by omega)
        go_wp2
        go_roundw
        case rel => exact ⟨_, _, hI2, rfl, hgo⟩
        case measure => rw [hpos, hpos2]; omega
    · have hnx : ∀ ty, (Instr.next (.pointer (some ⟨w.heap.size, 0, none⟩)) true ty).run Tryd.prog wr = _ := fun ty => next_bs_end wr w.heap.size s p ty hI.at_ hlt
      have hle := hI.le
      have hs := hc.stop (fun h => .inr (bs_empty s (by omega))) (by omega)
      rw [hC] at hs
      subst hs
      have hle := (R.cut_le (bs s) n.toNat).2
      rw [hC, bs_len] at hle
      have hle2 : (C : Int) ≤ (s.size : Int) := by omega
      go_wp2_with (go_at_call 28; refine (clone_any _ _ hcl).mono ?_; rintro e w1 ⟨rfl, g1⟩)
      go_ret
      exact ⟨rfl, gb_trans hI.gr g1⟩
end Go.Proofs.YtfflpmcflpbopaaDoor
