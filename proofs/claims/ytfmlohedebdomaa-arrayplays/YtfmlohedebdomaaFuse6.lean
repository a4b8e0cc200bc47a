/- Contracts of Fuse, Barrier, Read. -/
import Derived.Test.YtfmlohedebdomaaLay6
set_option linter.unusedSimpArgs false
set_option linter.unusedVariables false
namespace Go.Proofs.Ytfmlohedebdomaa
open Go.RowKit

section
variable {F : Nat → Prop} {w : World} {a : Nat} {R : AM.Raw}

theorem wrow_nil : wrow [] = [] := rfl
theorem Lies.cleared {dg : Nat} {dv : List Value} {fp : Option Addr} {fc : Nat} (h : Lies F w a dg dv fp fc R) : Lies F (w.setCell ⟨a, 2, none⟩ (.slice none 0 0)) a dg dv none 0 { R with L := [] } :=
  h.flown (fun _ h => h) h.lt (World.grownBy.refl w _) (L' := []) (World.ownsRow_nil w 0 79 130) (fun g hg => by cases hg) (by simp) rfl

theorem fuse_yes (h : Is F w a R) {n : Int} (hn : n < 9223372036854775808) : Calls Try.prog 24 #[ptr a, .int .i64 n] w fun e w' => e = .returned (.tuple #[]) ∧ Is F w' a (R.fused n) ∧ Step F w F w' := by
  have HI : Hid (Is F w a R) := h
  obtain ⟨dg, dv, fp, fc, h⟩ := h
  have ht := h.top
  have c3 : w.cell? ⟨a, 3, none⟩ = some (.int .i64 (R.fuse : Int)) := topCell (j := 3) ht rfl
  have f3 := topFrozen 3 ht
  have HT' : (w.setCell ⟨a, 3, none⟩ (.int .i64 (n.toNat : Int))).heap[a]? = some (.cells #[.slice (some ⟨dg, 0, none⟩) R.C.length R.C.length, .int .i64 (R.n : Int), .slice fp R.L.length fc, .int .i64 (n.toNat : Int), .bool R.off] 64 (0, 0)) := by
    rw [heap_setCell_same _ _ _ _ _ _ ht]; rfl
  have HR : Hid (Is F (w.setCell ⟨a, 3, none⟩ (.int .i64 (n.toNat : Int))) a (R.fused n)) := (h.turn (R' := R.fused n) (grown_set w a 3 _) rfl rfl rfl (by show n.toNat < _; omega) HT').is
  have HS : Hid (Step F w F (w.setCell ⟨a, 3, none⟩ (.int .i64 (n.toNat : Int)))) := Step.of (grown_set w a 3 _) (fun i e => by obtain rfl := Option.some.inj e; exact h.Fa)
  clear h ht HT'
  by_cases h0 : 0 ≤ n
  · have e : (n.toNat : Int) = n := by omega
    rw [e] at HR HS
    go_enter Try.func24, Try.ntmps24
    go_wp2_with (go_at_call 49; refine (made_yes HI.out).mono ?_; rintro e w1 ⟨rfl, hw⟩; obtain rfl := hw.symm; clear hw)
    go_end0
    exact ⟨rfl, HR.out, HS.out⟩
  · have e : (n.toNat : Int) = 0 := by omega
    rw [e] at HR HS
    go_enter Try.func24, Try.ntmps24
    go_wp2_with (go_at_call 49; refine (made_yes HI.out).mono ?_; rintro e w1 ⟨rfl, hw⟩; obtain rfl := hw.symm; clear hw)
    go_end0
    exact ⟨rfl, HR.out, HS.out⟩

/-- What a Barrier leaves, and tells. -/
theorem barrier_yes (h : Is F w a R) : Calls Try.prog 18 #[ptr a] w fun e w' => e = .returned (.int .i64 (R.barrier.1 : Int)) ∧ Is F w' a R.barrier.2 ∧ Step F w F w' := by
  have HI : Hid (Is F w a R) := h
  have hp := power_yes h
  clear h
  cases hoff : R.off with
  | true =>
    rw [AM.Raw.power, hoff] at hp
    have HP : Hid (Calls Try.prog 45 #[ptr a] w fun e w' => e = .returned (.int .i64 8) ∧ w' = w) := hp
    have HB : Hid (R.barrier = (8, R)) := by show _ = _; simp [AM.Raw.barrier, hoff]
    clear hp hoff
    go_enter Try.func18, Try.ntmps18
    go_wp2_with (go_at_call 45; refine HP.out.mono ?_; rintro e w1 ⟨rfl, hw⟩; obtain rfl := hw.symm; clear hw)
    go_ret
    exact ⟨by rw [HB.out]; rfl, by rw [HB.out]; exact HI.out, Step.refl F w⟩
  | false =>
    rw [AM.Raw.power, hoff] at hp
    have HP : Hid (Calls Try.prog 45 #[ptr a] w fun e w' => e = .returned (.int .i64 0) ∧ w' = w) := hp
    have hb := burns_yes HI.out hoff
    cases hbu : R.burns with
    | true =>
      rw [hbu] at hb
      have HB : Hid (Calls Try.prog 40 #[ptr a] w fun e w' => e = .returned (.bool true) ∧ Is F w' a R.burnt ∧ Step F w F w') := hb
      have HV : Hid (R.barrier = (8, R.burnt)) := by show _ = _; simp [AM.Raw.barrier, hoff, hbu]
      clear hp hoff hb hbu
      go_enter Try.func18, Try.ntmps18
      go_wp2_with (first
        | (go_at_call 45; refine HP.out.mono ?_; rintro e w1 ⟨rfl, hw⟩; obtain rfl := hw.symm; clear hw)
        | (go_at_call 40; refine HB.out.mono ?_; rintro e w1 ⟨rfl, hi1, hs1⟩; have HI1 : Hid (Is F w1 a R.burnt) := hi1; have HS1 : Hid (Step F w F w1) := hs1; clear hi1 hs1))
      go_ret
      exact ⟨by rw [HV.out]; rfl, by rw [HV.out]; exact HI1.out, HS1.out⟩
    | false =>
      rw [hbu] at hb
      have HB : Hid (Calls Try.prog 40 #[ptr a] w fun e w' => e = .returned (.bool false) ∧ Is F w' a R.burnt ∧ Step F w F w') := hb
      have HV : Hid (R.barrier = (0, { R.burnt with L := [] })) := by show _ = _; simp [AM.Raw.barrier, hoff, hbu]
      clear hp hoff hb hbu
      go_enter Try.func18, Try.ntmps18
      go_wp2_with (first
        | (go_at_call 45; refine HP.out.mono ?_; rintro e w1 ⟨rfl, hw⟩; obtain rfl := hw.symm; clear hw)
        | (go_at_call 40; refine HB.out.mono ?_; rintro e w1 ⟨rfl, ⟨dg, dv, fp, fc, h1⟩, hs1⟩; have c2 : w1.cell? ⟨a, 2, none⟩ = some (.slice fp R.burnt.L.length fc) := topCell (j := 2) h1.top rfl; have f2 := topFrozen 2 h1.top; have HI1 : Hid (Lies F w1 a dg dv fp fc R.burnt) := h1; have HS1 : Hid (Step F w F w1) := hs1; clear h1 hs1))
      go_ret
      exact ⟨by rw [HV.out]; rfl, by rw [HV.out]; exact HI1.out.cleared.is, HS1.out.trans (Step.of (grown_set w1 a 2 _) (fun i e => by obtain rfl := Option.some.inj e; exact HI1.out.Fa))⟩

/-- What a Read tells. -/
theorem read_no (h : Is F w a R) {d k : Int} (hr : R.reach d k ≠ 0) : Calls Try.prog 15 #[ptr a, .int .i64 d, .int .i64 k] w fun e w' => e = .returned (.tuple #[.slice none 0 0, .int .i64 (R.reach d k : Int)]) ∧ w' = w := by
  have HC : Hid (Calls Try.prog 39 #[ptr a, .int .i64 d, .int .i64 k] w fun e w' => e = .returned (.int .i64 (R.reach d k : Int)) ∧ w' = w) := reach_yes h d k
  have hne : ¬ (R.reach d k : Int) = 0 := by omega
  clear h hr
  generalize (R.reach d k : Int) = z at *
  go_enter Try.func15, Try.ntmps15
  go_wp2_with (go_at_call 39; refine HC.out.mono ?_; rintro e w1 ⟨rfl, hw⟩; obtain rfl := hw.symm; clear hw)
  go_ret2
  exact ⟨rfl, rfl⟩
theorem read_yes (h : Is F w a R) {d k : Nat} (hr : R.reach d k = 0) : Calls Try.prog 15 #[ptr a, .int .i64 (d : Int), .int .i64 (k : Int)] w fun e w' => ∃ p, e = .returned (.tuple #[.slice p 64 64, .int .i64 0]) ∧ Own w.heap.size w' (.slice p 64 64) (AM.look R.C d k) ∧ w.grownBy w' none := by
  have HC : Hid (Calls Try.prog 39 #[ptr a, .int .i64 (d : Int), .int .i64 (k : Int)] w fun e w' => e = .returned (.int .i64 0) ∧ w' = w) := by have := reach_yes h (d : Int) (k : Int); rw [hr] at this; exact this
  obtain ⟨_, _, d2, _, k2, xs, hon⟩ := AM.reach_zero hr
  rw [Int.toNat_natCast] at hon
  have hk : k < R.n := by omega
  obtain ⟨dg, dv, fp, fc, h⟩ := h
  obtain ⟨g, c, hdv, cd, hrow, hxl, hxs, ga, gd, hdl⟩ := h.drive hon
  have c0 : w.cell? ⟨a, 0, none⟩ = some (.slice (some ⟨dg, 0, none⟩) R.C.length R.C.length) := topCell (j := 0) h.top rfl
  have hN := h.ok.d2
  have hn2 := h.ok.n2
  have HV : Hid (∀ w', w.grownBy w' none → Vec w' (.slice (some ⟨g, k * 64, none⟩) 64 64) (AM.look R.C d k)) := fun w' gw => by
    rw [AM.look_at k hon]
    exact (sector_vec hrow hxs hxl hk).keep gw
  have HL : Hid ((AM.look R.C d k).length = 64) := by
    show _ = _
    rw [AM.look_at k hon]
    have hf := AM.fits hk
    exact AM.sec_len (by omega)
  clear h hon hdv hrow hxl hxs ga gd hr
  generalize AM.look R.C d k = ys at *
  generalize R.C.length = N at *
  generalize R.n = M at *
  have H0 : Hid (w.cell? ⟨a, 0, none⟩ = some (.slice (some ⟨dg, 0, none⟩) N N) ∧ w.cell? ⟨dg, d, none⟩ = some (.slice (some ⟨g, 0, none⟩) M c)) := ⟨c0, cd⟩
  clear c0 cd
  go_enter Try.func15, Try.ntmps15
  go_wp2_with (first
    | (go_at_call 39; refine HC.out.mono ?_; rintro e w1 ⟨rfl, hw⟩; obtain rfl := hw.symm; clear hw)
    | (at_make; refine wpList_make_vec rfl _ _ rfl 64 rfl rfl (by decide) ?_; intro w1 p ou g1; have OU : Hid (Own w.heap.size w1 (.slice p 64 64) (AM.zs 64)) := ou; have G1 : Hid (w.grownBy w1 none) := g1; have c0 := g1.cell H0.out.1 (by simp); have cd := g1.cell H0.out.2 (by simp); clear ou g1)
    | (refine wpList_copy_vec rfl _ _ rfl _ _ rfl rfl OU.out (HV.out _ G1.out) (by rw [AM.zs_len]; exact HL.out) ?_; intro w2 o2 g2; have O2 : Hid (Own w.heap.size w2 (.slice p 64 64) ys) := o2; have G2 : Hid (w.grownBy w2 none) := grown_new G1.out g2 (fun i e => OU.out.lo i e); clear o2 g2))
  go_ret2
  exact ⟨p, rfl, O2.out, G2.out⟩
end
end Go.Proofs.Ytfmlohedebdomaa
