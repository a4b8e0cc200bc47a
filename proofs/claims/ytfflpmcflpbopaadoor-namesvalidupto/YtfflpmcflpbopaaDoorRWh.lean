/- The document's Whole, Cut and Runes: what they answer of any text. -/
import Derived.Test.YtfflpmcflpbopaaDoorRRn
import Derived.Test.YtfflpmcflpbopaaDoorRow
set_option linter.unusedVariables false
namespace Go.Proofs.YtfflpmcflpbopaaDoor
open Go.RowKit

theorem bs_tail (s : ByteArray) (p : Nat) : bs (s.extract p s.size) = (bs s).drop p := bs_drop s p s.size (Nat.le_refl _)
theorem tail_size (s : ByteArray) {p : Nat} (h : p < s.size) : (s.extract p s.size).size ≠ 0 := by
  rw [← bs_len, bs_tail, List.length_drop, bs_len]
  omega
/-- The document's Rune at a place. -/
theorem rune_at (s : ByteArray) {p : Nat} (h : p < s.size) (w : World) :
    Calls Tryd.prog 24 #[.string (s.extract p s.size)] w fun e w' => e = .returned (.tuple #[.int .i32 (R.rn ((bs s).drop p) : Int), .int .i64 (R.wd ((bs s).drop p) : Int), .bool (R.bad ((bs s).drop p))]) ∧ w' = w := by
  have := rune_any (s.extract p s.size) w (tail_size s h)
  rw [bs_tail] at this
  exact this
set_option maxRecDepth 100000 in
theorem rwhole_any (s : ByteArray) (w : World) (hlim : s.size ≤ 281474976710656) :
    Calls Tryd.prog 16 #[.string s] w fun e w' => e = .returned (.bool (R.whole (bs s))) ∧ w' = w := by
  obtain ⟨B, hB⟩ : ∃ B, R.whole (bs s) = B := ⟨_, rfl⟩
  rw [hB]
  go_enter Tryd.func16, Tryd.ntmps16
  go_wp2
  go_loopw [3] (fun u3 wr => ∃ p : Nat, wr = w ∧ u3 = .int .i64 (p : Int) ∧ p ≤ s.size ∧ R.whole ((bs s).drop p) = B) (fun u3 _ => s.size - (intOf u3).toNat)
  case atStart => exact ⟨0, rfl, rfl, Nat.zero_le _, hB⟩
  case round =>
    obtain ⟨p, rfl, rfl, hp, hw⟩ := hrel
    by_cases hlt : p < s.size
    · have hz : (p : Int) < (s.size : Int) := by omega
      have hz2 : (p : Int) ≤ (s.size : Int) := by omega
      have hwd := width_bs hlt
      have hR := rune_at s hlt wr
      rw [R.whole_cons _ (ne_bs hlt), List.drop_drop] at hw
      obtain ⟨K, hK⟩ : ∃ K, R.wd ((bs s).drop p) = K := ⟨_, rfl⟩
      rw [hK] at hR hw hwd
      clear hK
      cases hb : R.bad ((bs s).drop p)
      · rw [hb] at hR hw
        clear hb
        go_wp2_with (go_at_call 24; refine hR.mono ?_; rintro e w1 ⟨rfl, rfl⟩)
        go_roundw
        case rel => exact ⟨p + K, by first | trivial | rfl, by go_num, by omega, hw⟩
        case measure => simp [intOf]; omega
      · rw [hb] at hR hw
        obtain rfl := hw
        clear hb
        go_wp2_with (go_at_call 24; refine hR.mono ?_; rintro e w1 ⟨rfl, rfl⟩)
        go_ret
        exact ⟨rfl, rfl⟩
    · have hz : ¬ (p : Int) < (s.size : Int) := by omega
      have hnil : (bs s).drop p = [] := List.drop_of_length_le (by rw [bs_len]; omega)
      rw [hnil, R.whole_nil] at hw
      subst hw
      go_wp2
      go_ret
      exact ⟨rfl, rfl⟩
set_option maxRecDepth 100000 in
theorem rcut_any (s : ByteArray) (n : Int) (w : World) (hlim : s.size ≤ 281474976710656) :
    Calls Tryd.prog 21 #[.string s, .int .i64 n] w fun e w' => e = .returned (.string (s.extract 0 (R.cut n.toNat (bs s)))) ∧ w' = w := by
  obtain ⟨C, hC⟩ : ∃ C, R.cut n.toNat (bs s) = C := ⟨_, rfl⟩
  have hCl := (R.cut_le (bs s) n.toNat).2
  rw [hC, bs_len] at hCl
  rw [hC]
  go_enter Tryd.func21, Tryd.ntmps21
  go_wp2
  go_loopw [5] (fun u5 wr => ∃ p : Nat, wr = w ∧ u5 = .int .i64 (p : Int) ∧ p ≤ s.size ∧ (p : Int) ≤ max 0 n ∧ p + R.cut (n.toNat - p) ((bs s).drop p) = C) (fun u5 _ => s.size - (intOf u5).toNat)
  case atStart => exact ⟨0, rfl, rfl, Nat.zero_le _, by omega, by simpa using hC⟩
  case round =>
    obtain ⟨p, rfl, rfl, hp, hpn, hc⟩ := hrel
    by_cases hlt : p < s.size
    · have hz : (p : Int) < (s.size : Int) := by omega
      have hz2 : (p : Int) ≤ (s.size : Int) := by omega
      have hwd := width_bs hlt
      have hR := rune_at s hlt wr
      have hne := ne_bs hlt
      obtain ⟨K, hK⟩ : ∃ K, R.wd ((bs s).drop p) = K := ⟨_, rfl⟩
      rw [hK] at hR hwd
      by_cases hn : n < (p : Int) + (K : Int)
      · rw [R.cut_no hne (by rw [hK]; omega), Nat.add_zero] at hc
        subst hc
        clear hK
        go_wp2_with (go_at_call 24; refine hR.mono ?_; rintro e w1 ⟨rfl, rfl⟩)
        go_ret
        exact ⟨rfl, rfl⟩
      · rw [R.cut_yes hne (by rw [hK]; omega), hK, List.drop_drop, ← Nat.add_assoc, Nat.sub_sub] at hc
        clear hK
        go_wp2_with (go_at_call 24; refine hR.mono ?_; rintro e w1 ⟨rfl, rfl⟩)
        go_roundw
        case rel => exact ⟨p + K, by first | trivial | rfl, by go_num, by omega, by omega, hc⟩
        case measure => simp [intOf]; omega
    · have hz : ¬ (p : Int) < (s.size : Int) := by omega
      have hz2 : (p : Int) ≤ (s.size : Int) := by omega
      have hnil : (bs s).drop p = [] := List.drop_of_length_le (by rw [bs_len]; omega)
      rw [hnil, R.cut_nil, Nat.add_zero] at hc
      subst hc
      go_wp2
      go_ret
      exact ⟨rfl, rfl⟩
set_option maxRecDepth 100000 in
theorem rrunes_any (s : ByteArray) (w : World) (hlim : s.size * 4 ≤ 140737488355328) :
    Calls Tryd.prog 14 #[.string s] w fun e w' => ∃ p c, e = .returned (.slice p (R.runes (bs s)).length c) ∧ ROwn w.heap.size w' (.slice p (R.runes (bs s)).length c) (R.runes (bs s)) ∧ w.grownBy w' none := by
  have hlen : (R.runes (bs s)).length ≤ s.size := by have := R.runes_len (bs s); rw [bs_len] at this; exact this
  obtain ⟨L, hL⟩ : ∃ L, R.runes (bs s) = L := ⟨_, rfl⟩
  rw [hL] at hlen ⊢
  go_enter Tryd.func14, Tryd.ntmps14
  go_wp2
  go_loopw [3, 4] (fun u3 u4 wr => ∃ (p : Nat) (ls : List Nat), Hid (w.grownBy wr none) ∧ u4 = .int .i64 (p : Int) ∧ p ≤ s.size ∧ L = ls ++ R.runes ((bs s).drop p) ∧ Hid (ROwn w.heap.size wr u3 ls)) (fun _ u4 _ => s.size - (intOf u4).toNat)
  case atStart => exact ⟨0, [], World.grownBy.refl _ _, rfl, Nat.zero_le _, by rw [← hL]; rfl, ROwn.nil _ _⟩
  case round =>
    obtain ⟨p, ls, GK, rfl, hp, hc, OK⟩ := hrel
    obtain ⟨ap, ac, e3⟩ := OK.out.opened
    subst e3
    by_cases hlt : p < s.size
    · have hz : (p : Int) < (s.size : Int) := by omega
      have hz2 : (p : Int) ≤ (s.size : Int) := by omega
      have hwd := width_bs hlt
      have hR := rune_at s hlt wr
      rw [R.runes_cons _ (ne_bs hlt), List.drop_drop] at hc
      have HL : Hid ((ls.length + 1) * 4 ≤ 140737488355328) := by
        show _ ≤ _
        rw [hc] at hlen
        simp only [List.length_append, List.length_cons] at hlen
        omega
      obtain ⟨K, hK⟩ : ∃ K, R.wd ((bs s).drop p) = K := ⟨_, rfl⟩
      obtain ⟨X, hX⟩ : ∃ X, R.rn ((bs s).drop p) = X := ⟨_, rfl⟩
      obtain ⟨Z, hZ⟩ : ∃ Z, R.bad ((bs s).drop p) = Z := ⟨_, rfl⟩
      rw [hK, hX, hZ] at hR
      rw [hX, hK] at hc
      rw [hK] at hwd
      clear hK hX hZ
      have OA : Hid (ROwn w.heap.size (wr.alloc (.cells #[.int .i32 (X : Int)] 21)) (.slice ap ls.length ac) ls) := OK.out.keep (World.grownBy_alloc wr _ none)
      have HC : Hid (L = ls ++ X :: R.runes ((bs s).drop (p + K))) := hc
      clear hc
      go_wp2_with (first | (go_at_call 24; refine hR.mono ?_; rintro e w1 ⟨rfl, rfl⟩) | (at_builtin; refine wpList_append_rune rfl _ _ rfl _ ⟨_, 0, none⟩ rfl rfl OA.out (cell_new1 _ _ rfl) (gb_alloc GK.out _).size HL.out ?_; intro v2 w2 o2 g2 a2; have O3 : Hid (ROwn w.heap.size w2 v2 (ls ++ [X])) := o2; have G2 : Hid (w.grownBy w2 none) := gb_new (gb_alloc GK.out _) g2 (fun i e => OA.out.lo i e); clear o2 g2 a2))
      go_roundw
      case rel => exact ⟨p + K, ls ++ [X], G2, by go_num, by omega, by rw [HC.out, List.append_assoc]; rfl, O3⟩
      case measure => simp [intOf]; omega
    · have hz : ¬ (p : Int) < (s.size : Int) := by omega
      have hnil : (bs s).drop p = [] := List.drop_of_length_le (by rw [bs_len]; omega)
      rw [hnil, R.runes_nil, List.append_nil] at hc
      subst hc
      go_wp2
      go_ret
      exact ⟨_, _, rfl, OK.out, GK.out⟩
end Go.Proofs.YtfflpmcflpbopaaDoor
