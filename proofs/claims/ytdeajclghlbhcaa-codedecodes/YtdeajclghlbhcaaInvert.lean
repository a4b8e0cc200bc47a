/- The contract of matrix.Invert. -/
import Derived.Test.YtdeajclghlbhcaaInver
import Derived.Deep.RegionHeld3
namespace Go.Proofs.Ytdeajclghlbhcaa
open Go.RowKit

/-- The world in which Invert works: its argument lies in a cell of its own. -/
abbrev boxed (w : World) (m : Value) : World := w.alloc (.cells #[m] 25)

set_option maxHeartbeats 1600000 in
theorem invert_bad {w : World} {m : Value} {vs : List Value} {X : List (List Nat)} (mr : Mat w m vs X) (h : ¬ (mayB X = true ∧ X.length = (X.getD 0 []).length)) :
    Calls Try.prog 55 #[m] w fun e w' => e = .returned (.tuple #[.slice none 0 0, .int .i64 1]) ∧ w.grownBy w' none := by
  obtain ⟨q, N, cap, rfl, hN⟩ := mr.row.opened
  have hb := (cellOf_alloc w (.slice q N cap) 25).1
  have MA : ∀ w', w.grownBy w' none → Calls Try.prog 56 #[.slice q N cap] w' fun e w'' => e = .returned (.bool (mayB X)) ∧ w'' = w' := fun w' g => may_any (mr.keep g)
  have G1 : Hid (w.grownBy (w.alloc (.cells #[.slice q N cap] 25)).drew none) := grown_trans (World.grownBy_alloc _ _ none) (grown_drewN _ 1)
  cases hx : mayB X with
  | false =>
    rw [hx] at MA
    have HA : Hid (∀ r w', r = Value.slice q N cap → w.grownBy w' none → Calls Try.prog 56 #[r] w' fun e w'' => e = .returned (.bool false) ∧ w'' = w') := fun r w' e g => e ▸ MA w' g
    clear MA hN h mr
    go_enter Try.func55, Try.ntmps55
    go_wp2_with fail
    go_region_with (go_at_call 56; refine (HA.out _ _ (by with_reducible rfl) G1.out).mono ?_; rintro e w1 ⟨rfl, hw⟩; obtain rfl := hw.symm; clear hw)
    all_goals
      go_wp2
      go_ret2
      exact ⟨rfl, G1.out⟩
  | true =>
    rw [hx] at MA
    have HA : Hid (∀ r w', r = Value.slice q N cap → w.grownBy w' none → Calls Try.prog 56 #[r] w' fun e w'' => e = .returned (.bool true) ∧ w'' = w') := fun r w' e g => e ▸ MA w' g
    have sx := may_spec hx
    have hsa := mr.same
    obtain ⟨b0, off, rfl, hc⟩ := mr.row.spot (k := 0) (by omega)
    obtain ⟨p0, n0, c0, e0, hn0⟩ := (mr.vec 0 (by omega)).opened
    rw [e0] at hc
    have hc1 := alloc_cell (.cells #[.slice (some ⟨b0, off, none⟩) N cap] 25) (show w.cell? ⟨b0, off, none⟩ = some (.slice p0 n0 c0) from hc)
    have hpos : (0 : Int) < (N : Int) := by omega
    have hposN : 0 < N := by omega
    have hne : ((N : Int) != (n0 : Int)) = true := by
      have : ¬ X.length = (X.getD 0 []).length := fun e => h ⟨hx, e⟩
      simp; omega
    clear MA hN h mr hc e0 hn0 hsa sx
    go_enter Try.func55, Try.ntmps55
    go_wp2_with fail
    go_region_held3 (fun w' => w'.cell? ⟨w.heap.size, 0, none⟩ = some (.slice (some ⟨b0, off, none⟩) N cap) ∧ w'.cell? ⟨b0, off, none⟩ = some (.slice p0 n0 c0)) (exact ⟨hb, hc1⟩) (first | (go_at_call 56; refine (HA.out _ _ (by with_reducible rfl) G1.out).mono ?_; rintro e w1 ⟨rfl, hw⟩; obtain rfl := hw.symm; clear hw))
    all_goals
      go_wp2
      go_ret2
      exact ⟨rfl, G1.out⟩

set_option maxHeartbeats 1600000 in
theorem invert_ok {w : World} {m : Value} {vs : List Value} {X : List (List Nat)} (mr : Mat w m vs X) (hx : mayB X = true) (hsq : X.length = (X.getD 0 []).length) {R : Ending → World → Prop}
    (h : Calls Try.prog 57 #[.func (.func 58) #[] #[.pointer (some ⟨w.heap.size, 0, none⟩)]] (boxed w m).drew fun e w' => ∃ a b, e = .returned (.tuple #[a, b]) ∧ R e w') :
    Calls Try.prog 55 #[m] w fun e w' => R e w' := by
  have hmf : ∀ (fn : Fn) (first cap : Array Value) (w : World), (Instr.makeFunc fn first cap).run Try.prog w = .ok (.func fn first cap) w := fun _ _ _ _ => rfl
  obtain ⟨q, N, cap, rfl, hN⟩ := mr.row.opened
  have hb := (cellOf_alloc w (.slice q N cap) 25).1
  have MA : ∀ w', w.grownBy w' none → Calls Try.prog 56 #[.slice q N cap] w' fun e w'' => e = .returned (.bool (mayB X)) ∧ w'' = w' := fun w' g => may_any (mr.keep g)
  have G1 : Hid (w.grownBy (w.alloc (.cells #[.slice q N cap] 25)).drew none) := grown_trans (World.grownBy_alloc _ _ none) (grown_drewN _ 1)
  rw [hx] at MA
  have HA : Hid (∀ r w', r = Value.slice q N cap → w.grownBy w' none → Calls Try.prog 56 #[r] w' fun e w'' => e = .returned (.bool true) ∧ w'' = w') := fun r w' e g => e ▸ MA w' g
  have sx := may_spec hx
  have hsa := mr.same
  obtain ⟨b0, off, rfl, hc⟩ := mr.row.spot (k := 0) (by omega)
  obtain ⟨p0, n0, c0, e0, hn0⟩ := (mr.vec 0 (by omega)).opened
  rw [e0] at hc
  have hc1 := alloc_cell (.cells #[.slice (some ⟨b0, off, none⟩) N cap] 25) (show w.cell? ⟨b0, off, none⟩ = some (.slice p0 n0 c0) from hc)
  have hpos : (0 : Int) < (N : Int) := by omega
  have hposN : 0 < N := by omega
  have hposZ : (0 : Int) ≤ 0 := by omega
  have hne : ((N : Int) != (n0 : Int)) = false := by simp; omega
  have AT : Hid (∀ r, r = Value.func (.func 58) #[] #[.pointer (some ⟨w.heap.size, 0, none⟩)] → Calls Try.prog 57 #[r] (w.alloc (.cells #[.slice (some ⟨b0, off, none⟩) N cap] 25)).drew fun e w' => ∃ a b, e = .returned (.tuple #[a, b]) ∧ R e w') := fun r e => e ▸ h
  clear MA hN h mr hc e0 hn0 hsa sx hsq
  go_enter Try.func55, Try.ntmps55
  go_wp2_with fail
  go_region_held3 (fun w' => w'.cell? ⟨w.heap.size, 0, none⟩ = some (.slice (some ⟨b0, off, none⟩) N cap) ∧ w'.cell? ⟨b0, off, none⟩ = some (.slice p0 n0 c0)) (exact ⟨hb, hc1⟩) (first | (go_at_call 56; refine (HA.out _ _ (by with_reducible rfl) G1.out).mono ?_; rintro e w1 ⟨rfl, hw⟩; obtain rfl := hw.symm; clear hw))
  all_goals
    go_wp2_with (go_at_call 57; refine (AT.out _ (by with_reducible rfl)).mono ?_; rintro e w1 ⟨ra, rb, rfl, hr⟩; have HR : Hid (R (.returned (.tuple #[ra, rb])) w1) := hr; clear hr)
    exact HR.out

theorem invert_yes {w : World} {m : Value} {vs : List Value} {X : List (List Nat)} (mr : Mat w m vs X) (hx : mayB X = true) (hsq : X.length = (X.getD 0 []).length) (hi : ¬ NoInv X.length (at2 X)) :
    Calls Try.prog 55 #[m] w fun e w' => ∃ p k c us Y, e = .returned (.tuple #[.slice p k c, .int .i64 0]) ∧ Ans X.length X w w' (.slice p k c) us Y := by
  have sx := may_spec hx
  have hs : Shape X X.length X.length := by have := sx.2.2.2.2; rw [← hsq] at this; exact this
  have g1 : w.grownBy (boxed w m).drew none := grown_trans (World.grownBy_alloc _ _ none) (grown_drewN _ 1)
  refine invert_ok mr hx hsq (R := fun e w' => ∃ p k c us Y, e = .returned (.tuple #[.slice p k c, .int .i64 0]) ∧ Ans X.length X w w' (.slice p k c) us Y) ?_
  refine (attempt_yes (m := m) (show (boxed w m).drew.cell? _ = _ from (cellOf_alloc w m 25).1) (mr.keep g1) hs sx.1 sx.2.1 hi).mono ?_
  rintro e w' ⟨p, k, c, us, Y, rfl, an⟩
  exact ⟨_, _, rfl, p, k, c, us, Y, rfl, ⟨an.om.down g1.size, an.sep, an.shape, an.inv, grown_trans g1 an.grown⟩⟩

theorem invert_no {w : World} {m : Value} {vs : List Value} {X : List (List Nat)} (mr : Mat w m vs X) (hx : mayB X = true) (hsq : X.length = (X.getD 0 []).length) (hi : NoInv X.length (at2 X)) :
    Calls Try.prog 55 #[m] w fun e w' => e = .returned (.tuple #[.slice none 0 0, .int .i64 22]) ∧ w.grownBy w' none := by
  have sx := may_spec hx
  have hs : Shape X X.length X.length := by have := sx.2.2.2.2; rw [← hsq] at this; exact this
  have g1 : w.grownBy (boxed w m).drew none := grown_trans (World.grownBy_alloc _ _ none) (grown_drewN _ 1)
  refine invert_ok mr hx hsq (R := fun e w' => e = .returned (.tuple #[.slice none 0 0, .int .i64 22]) ∧ w.grownBy w' none) ?_
  refine (attempt_no (m := m) (show (boxed w m).drew.cell? _ = _ from (cellOf_alloc w m 25).1) (mr.keep g1) hs sx.1 sx.2.1 hi).mono ?_
  rintro e w' ⟨rfl, g⟩
  exact ⟨_, _, rfl, rfl, grown_trans g1 g⟩
end Go.Proofs.Ytdeajclghlbhcaa
