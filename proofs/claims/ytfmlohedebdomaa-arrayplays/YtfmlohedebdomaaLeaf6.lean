/- Contracts of the calls of package array that only look: made, Disks, Sectors, Flight, Off, has, On, Ons, power, find, reach; of a nil array. -/
import Derived.Test.YtfmlohedebdomaaRep6
set_option linter.unusedSimpArgs false
set_option linter.unusedVariables false
namespace Go.Proofs.Ytfmlohedebdomaa
open Go.RowKit

abbrev ptr (a : Nat) : Value := .pointer (some ⟨a, 0, none⟩)

section
variable {F : Nat → Prop} {w : World} {a : Nat} {R : AM.Raw}

theorem made_yes (h : Is F w a R) : Calls Try.prog 49 #[ptr a] w fun e w' => e = .returned (.bool true) ∧ w' = w := by
  obtain ⟨dg, fp, fc, ht⟩ := h.top
  have c0 := topCell (j := 0) ht rfl
  clear h ht
  go_enter Try.func49, Try.ntmps49
  go_wp2
  go_ret
  exact ⟨rfl, rfl⟩
theorem made_nil (w : World) : Calls Try.prog 49 #[.pointer none] w fun e w' => e = .returned (.bool false) ∧ w' = w := by
  go_enter Try.func49, Try.ntmps49
  go_wp2
  go_ret
  exact ⟨rfl, rfl⟩

theorem disks_yes (h : Is F w a R) : Calls Try.prog 31 #[ptr a] w fun e w' => e = .returned (.int .i64 (R.C.length : Int)) ∧ w' = w := by
  obtain ⟨dg, fp, fc, ht⟩ := h.top
  have c0 := topCell (j := 0) ht rfl
  have H : Hid (Is F w a R) := h
  clear h ht
  go_enter Try.func31, Try.ntmps31
  go_wp2_with (go_at_call 49; refine (made_yes H.out).mono ?_; rintro e w1 ⟨rfl, hw⟩; obtain rfl := hw.symm; clear hw)
  go_ret
  exact ⟨rfl, rfl⟩
theorem sectors_yes (h : Is F w a R) : Calls Try.prog 32 #[ptr a] w fun e w' => e = .returned (.int .i64 (R.n : Int)) ∧ w' = w := by
  obtain ⟨dg, fp, fc, ht⟩ := h.top
  have c1 := topCell (j := 1) ht rfl
  have H : Hid (Is F w a R) := h
  clear h ht
  go_enter Try.func32, Try.ntmps32
  go_wp2_with (go_at_call 49; refine (made_yes H.out).mono ?_; rintro e w1 ⟨rfl, hw⟩; obtain rfl := hw.symm; clear hw)
  go_ret
  exact ⟨rfl, rfl⟩
theorem flight_yes (h : Is F w a R) : Calls Try.prog 35 #[ptr a] w fun e w' => e = .returned (.int .i64 (R.L.length : Int)) ∧ w' = w := by
  obtain ⟨dg, fp, fc, ht⟩ := h.top
  have c2 := topCell (j := 2) ht rfl
  have H : Hid (Is F w a R) := h
  clear h ht
  go_enter Try.func35, Try.ntmps35
  go_wp2_with (go_at_call 49; refine (made_yes H.out).mono ?_; rintro e w1 ⟨rfl, hw⟩; obtain rfl := hw.symm; clear hw)
  go_ret
  exact ⟨rfl, rfl⟩
theorem off_yes (h : Is F w a R) : Calls Try.prog 36 #[ptr a] w fun e w' => e = .returned (.bool R.off) ∧ w' = w := by
  obtain ⟨dg, fp, fc, ht⟩ := h.top
  have c4 := topCell (j := 4) ht rfl
  have H : Hid (Is F w a R) := h
  clear h ht
  go_enter Try.func36, Try.ntmps36
  go_wp2_with (go_at_call 49; refine (made_yes H.out).mono ?_; rintro e w1 ⟨rfl, hw⟩; obtain rfl := hw.symm; clear hw)
  go_ret
  exact ⟨rfl, rfl⟩
theorem power_yes (h : Is F w a R) : Calls Try.prog 45 #[ptr a] w fun e w' => e = .returned (.int .i64 (R.power : Int)) ∧ w' = w := by
  obtain ⟨dg, fp, fc, ht⟩ := h.top
  have c4 := topCell (j := 4) ht rfl
  have H : Hid (Is F w a R) := h
  clear h ht
  cases ho : R.off with
  | true =>
    rw [ho] at c4
    have hp : Hid ((R.power : Int) = 8) := by show _ = _; simp [AM.Raw.power, ho]
    clear ho
    go_enter Try.func45, Try.ntmps45
    go_wp2_with (go_at_call 49; refine (made_yes H.out).mono ?_; rintro e w1 ⟨rfl, hw⟩; obtain rfl := hw.symm; clear hw)
    go_ret
    exact ⟨by rw [hp.out]; rfl, rfl⟩
  | false =>
    rw [ho] at c4
    have hp : Hid ((R.power : Int) = 0) := by show _ = _; simp [AM.Raw.power, ho]
    clear ho
    go_enter Try.func45, Try.ntmps45
    go_wp2_with (go_at_call 49; refine (made_yes H.out).mono ?_; rintro e w1 ⟨rfl, hw⟩; obtain rfl := hw.symm; clear hw)
    go_ret
    exact ⟨by rw [hp.out]; rfl, rfl⟩

/-- Whether there is such a disk. -/
def hasD (R : AM.Raw) (d : Int) : Bool := decide (0 ≤ d) && decide (d < (R.C.length : Int))
theorem has_yes (h : Is F w a R) (d : Int) : Calls Try.prog 57 #[ptr a, .int .i64 d] w fun e w' => e = .returned (.bool (hasD R d)) ∧ w' = w := by
  have H : Hid (Is F w a R) := h
  clear h
  by_cases h1 : 0 ≤ d
  · have hv : Hid (hasD R d = decide (d < (R.C.length : Int))) := by show _ = _; simp [hasD, h1]
    go_enter Try.func57, Try.ntmps57
    go_wp2_with (go_at_call 31; refine (disks_yes H.out).mono ?_; rintro e w1 ⟨rfl, hw⟩; obtain rfl := hw.symm; clear hw)
    go_ret
    exact ⟨by rw [hv.out]; rfl, rfl⟩
  · have hv : Hid (hasD R d = false) := by show _ = _; simp [hasD, h1]
    go_enter Try.func57, Try.ntmps57
    go_wp2
    go_ret
    exact ⟨by rw [hv.out]; rfl, rfl⟩
theorem find_yes (h : Is F w a R) (d : Int) : Calls Try.prog 46 #[ptr a, .int .i64 d] w fun e w' => e = .returned (.int .i64 (R.find d : Int)) ∧ w' = w := by
  have H : Hid (Is F w a R) := h
  clear h
  cases hh : hasD R d with
  | true =>
    have hp : Hid ((R.find d : Int) = 0) := by
      show _ = _
      simp only [hasD, Bool.and_eq_true, decide_eq_true_eq] at hh
      simp [AM.Raw.find, hh.1, hh.2]
    have hc := has_yes H.out d
    rw [hh] at hc
    have HC : Hid (Calls Try.prog 57 #[ptr a, .int .i64 d] w fun e w' => e = .returned (.bool true) ∧ w' = w) := hc
    clear hh hc
    go_enter Try.func46, Try.ntmps46
    go_wp2_with (first
      | (go_at_call 49; refine (made_yes H.out).mono ?_; rintro e w1 ⟨rfl, hw⟩; obtain rfl := hw.symm; clear hw)
      | (go_at_call 57; refine HC.out.mono ?_; rintro e w1 ⟨rfl, hw⟩; obtain rfl := hw.symm; clear hw))
    go_ret
    exact ⟨by rw [hp.out]; rfl, rfl⟩
  | false =>
    have hp : Hid ((R.find d : Int) = 6) := by
      show _ = _
      have : ¬ (0 ≤ d ∧ d < (R.C.length : Int)) := fun c => by simp [hasD, c.1, c.2] at hh
      simp [AM.Raw.find, this]
    have hc := has_yes H.out d
    rw [hh] at hc
    have HC : Hid (Calls Try.prog 57 #[ptr a, .int .i64 d] w fun e w' => e = .returned (.bool false) ∧ w' = w) := hc
    clear hh hc
    go_enter Try.func46, Try.ntmps46
    go_wp2_with (first
      | (go_at_call 49; refine (made_yes H.out).mono ?_; rintro e w1 ⟨rfl, hw⟩; obtain rfl := hw.symm; clear hw)
      | (go_at_call 57; refine HC.out.mono ?_; rintro e w1 ⟨rfl, hw⟩; obtain rfl := hw.symm; clear hw))
    go_ret
    exact ⟨by rw [hp.out]; rfl, rfl⟩

/-- The drive at a place. -/
theorem Is.drive (h : Is F w a R) {d : Nat} (hd : d < R.C.length) : ∃ dg v, (w.cell? ⟨a, 0, none⟩ = some (.slice (some ⟨dg, 0, none⟩) R.C.length R.C.length)) ∧ w.cell? ⟨dg, d, none⟩ = some v ∧
    ((R.C[d]? = some none ∧ v = .slice none 0 0) ∨ ∃ xs g c, R.C[d]? = some (some xs) ∧ v = .slice (some ⟨g, 0, none⟩) R.n c) := by
  obtain ⟨dg, dv, fp, fc, h⟩ := h
  have hl : d < dv.length := by rw [h.len]; exact hd
  refine ⟨dg, dv[d], topCell (j := 0) h.top rfl, topCell h.dsk (by simp [hl]), ?_⟩
  rcases h.drv d dv[d] (List.getElem?_eq_getElem hl) with h1 | ⟨xs, h1, h2⟩
  · exact .inl h1
  · rcases h2.2 with ⟨h3, h4⟩ | ⟨g, cap, cur, h3, _⟩
    · have := h.ok.n1; omega
    · exact .inr ⟨xs, g, cap, h1, h3⟩

theorem on_yes (h : Is F w a R) (d : Int) : Calls Try.prog 37 #[ptr a, .int .i64 d] w fun e w' => e = .returned (.bool (R.on d)) ∧ w' = w := by
  have H : Hid (Is F w a R) := h
  cases hh : hasD R d with
  | true =>
    have hc := has_yes h d
    rw [hh] at hc
    have HC : Hid (Calls Try.prog 57 #[ptr a, .int .i64 d] w fun e w' => e = .returned (.bool true) ∧ w' = w) := hc
    simp only [hasD, Bool.and_eq_true, decide_eq_true_eq] at hh
    obtain ⟨h1, h2⟩ := hh
    obtain ⟨k, rfl⟩ : ∃ k : Nat, d = (k : Int) := ⟨d.toNat, by omega⟩
    have hk : k < R.C.length := by omega
    obtain ⟨dg, v, c0, cv, hv⟩ := h.drive hk
    have hb := h.ok.d2
    clear hc h
    rcases hv with ⟨hn, rfl⟩ | ⟨xs, g, c, hn, rfl⟩
    · have ho : Hid (R.on (k : Int) = false) := by show _ = _; simp [AM.Raw.on, List.getD, hn]
      clear hn
      generalize R.C.length = N at *
      go_enter Try.func37, Try.ntmps37
      go_wp2_with (go_at_call 57; refine HC.out.mono ?_; rintro e w1 ⟨rfl, hw⟩; obtain rfl := hw.symm; clear hw)
      go_ret
      exact ⟨by rw [ho.out]; rfl, rfl⟩
    · have ho : Hid (R.on (k : Int) = true) := by show _ = _; simp [AM.Raw.on, List.getD, hn, h1, h2]
      clear hn
      generalize R.C.length = N at *
      go_enter Try.func37, Try.ntmps37
      go_wp2_with (go_at_call 57; refine HC.out.mono ?_; rintro e w1 ⟨rfl, hw⟩; obtain rfl := hw.symm; clear hw)
      go_ret
      exact ⟨by rw [ho.out]; rfl, rfl⟩
  | false =>
    have hc := has_yes h d
    rw [hh] at hc
    have HC : Hid (Calls Try.prog 57 #[ptr a, .int .i64 d] w fun e w' => e = .returned (.bool false) ∧ w' = w) := hc
    have ho : Hid (R.on d = false) := by
      show _ = _
      have : (decide (0 ≤ d) && decide (d < (R.C.length : Int))) = false := hh
      simp only [AM.Raw.on, this, Bool.false_and]
    clear hh hc h
    go_enter Try.func37, Try.ntmps37
    go_wp2_with (go_at_call 57; refine HC.out.mono ?_; rintro e w1 ⟨rfl, hw⟩; obtain rfl := hw.symm; clear hw)
    go_ret
    exact ⟨by rw [ho.out]; rfl, rfl⟩
end
end Go.Proofs.Ytfmlohedebdomaa
