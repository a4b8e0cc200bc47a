/- The whole contract of Write; a blank drive; the contract of Replace. -/
import Derived.Test.YtfmlohedebdomaaWrite6
set_option linter.unusedSimpArgs false
set_option linter.unusedVariables false
namespace Go.Proofs.Ytfmlohedebdomaa
open Go.RowKit

section
variable {F : Nat → Prop} {w : World} {a : Nat} {R : AM.Raw}

theorem write_no (h : Is F w a R) {d k : Int} {v : Value} (hr : R.reach d k ≠ 0) : Calls Try.prog 13 #[ptr a, .int .i64 d, .int .i64 k, v] w fun e w' => e = .returned (.int .i64 (R.reach d k : Int)) ∧ w' = w := by
  have HC : Hid (Calls Try.prog 39 #[ptr a, .int .i64 d, .int .i64 k] w fun e w' => e = .returned (.int .i64 (R.reach d k : Int)) ∧ w' = w) := reach_yes h d k
  have hne : ¬ (R.reach d k : Int) = 0 := by omega
  clear h hr
  generalize (R.reach d k : Int) = z at *
  go_enter Try.func13, Try.ntmps13
  go_wp2_with (go_at_call 39; refine HC.out.mono ?_; rintro e w1 ⟨rfl, hw⟩; obtain rfl := hw.symm; clear hw)
  go_ret
  exact ⟨rfl, rfl⟩
theorem write_arg (h : Is F w a R) {d k : Int} {v : Value} {b : List Nat} (hr : R.reach d k = 0) (hv : Vec w v b) (hb : b.length ≠ 64) : Calls Try.prog 13 #[ptr a, .int .i64 d, .int .i64 k, v] w fun e w' => e = .returned (.int .i64 1) ∧ w' = w := by
  have HC : Hid (Calls Try.prog 39 #[ptr a, .int .i64 d, .int .i64 k] w fun e w' => e = .returned (.int .i64 0) ∧ w' = w) := by have := reach_yes h d k; rw [hr] at this; exact this
  obtain ⟨p, n, cap, rfl, hn⟩ := hv.opened
  have hne : ¬ (n : Int) = 64 := by omega
  clear h hr hv hb hn
  go_enter Try.func13, Try.ntmps13
  go_wp2_with (go_at_call 39; refine HC.out.mono ?_; rintro e w1 ⟨rfl, hw⟩; obtain rfl := hw.symm; clear hw)
  go_ret
  exact ⟨rfl, rfl⟩
theorem write_off (h : Is F w a R) {d k : Int} {v : Value} {b : List Nat} (hr : R.reach d k = 0) (hv : Vec w v b) (hb : b.length = 64) (hbu : R.burns = true) : Calls Try.prog 13 #[ptr a, .int .i64 d, .int .i64 k, v] w fun e w' => e = .returned (.int .i64 8) ∧ Is F w' a R.burnt ∧ Step F w F w' := by
  have HC : Hid (Calls Try.prog 39 #[ptr a, .int .i64 d, .int .i64 k] w fun e w' => e = .returned (.int .i64 0) ∧ w' = w) := by have := reach_yes h d k; rw [hr] at this; exact this
  have HB : Hid (Calls Try.prog 40 #[ptr a] w fun e w' => e = .returned (.bool true) ∧ Is F w' a R.burnt ∧ Step F w F w') := by have := burns_yes h (AM.reach_zero hr).1; rw [hbu] at this; exact this
  obtain ⟨p, n, cap, rfl, hn⟩ := hv.opened
  obtain rfl : n = 64 := by omega
  clear h hr hv hb hn hbu
  go_enter Try.func13, Try.ntmps13
  go_wp2_with (first
    | (go_at_call 39; refine HC.out.mono ?_; rintro e w1 ⟨rfl, hw⟩; obtain rfl := hw.symm; clear hw)
    | (go_at_call 40; refine HB.out.mono ?_; rintro e w1 ⟨rfl, hi1, hs1⟩; have HI1 : Hid (Is F w1 a R.burnt ∧ Step F w F w1) := ⟨hi1, hs1⟩; clear hi1 hs1))
  go_ret
  exact ⟨rfl, HI1.out⟩

/-- Write, whatever it is handed. -/
theorem write_any (h : Is F w a R) (d k : Int) {v : Value} {b : List Nat} (hv : Vec w v b) (hvF : b ≠ [] → ∀ g, v.ownBlock = some g → ¬ F g) (hL : R.L.length ≤ 1000000) :
    Calls Try.prog 13 #[ptr a, .int .i64 d, .int .i64 k, v] w fun e w' => e = .returned (.int .i64 ((R.writes d k b).1 : Int)) ∧ ∃ F', Is F' w' a (R.writes d k b).2 ∧ Step F w F' w' := by
  by_cases hr : R.reach d k = 0
  · by_cases hb : b.length = 64
    · cases hbu : R.burns with
      | true =>
        refine (write_off h hr hv hb hbu).mono ?_
        rintro e w' ⟨rfl, h1, h2⟩
        simp only [AM.Raw.writes, hr, hb, hbu]
        exact ⟨rfl, F, h1, h2⟩
      | false =>
        obtain ⟨_, d1, _, k1, _, _⟩ := AM.reach_zero hr
        obtain ⟨D, rfl⟩ : ∃ D : Nat, d = (D : Int) := ⟨d.toNat, by omega⟩
        obtain ⟨K, rfl⟩ : ∃ K : Nat, k = (K : Int) := ⟨k.toNat, by omega⟩
        refine (write_fly h hr hv hvF hb hbu hL).mono ?_
        rintro e w' ⟨rfl, F', h1, h2⟩
        simp only [AM.Raw.writes, hr, hb, hbu]
        exact ⟨rfl, F', h1, h2⟩
    · refine (write_arg h hr hv hb).mono ?_
      rintro e w' ⟨rfl, rfl⟩
      simp only [AM.Raw.writes, hr]
      rw [if_neg (by simp), if_pos hb]
      exact ⟨rfl, F, h, Step.refl F w'⟩
  · refine (write_no h hr).mono ?_
    rintro e w' ⟨rfl, rfl⟩
    simp only [AM.Raw.writes, if_pos hr]
    exact ⟨trivial, F, h, Step.refl F w'⟩

theorem zeroSec : (Try.prog.info? 77).map (fun i => (i.zero, i.size, i.bytes)) = some (some (.agg (rowOf (AM.zs 64))), 64, 64) := by kernel_rfl
theorem made_rowOf (n : Nat) : madeCells (rowOf (AM.zs 64)) (n * 64) = rowOf (AM.zs (n * 64)) := by
  apply Array.ext_getElem?
  intro i
  by_cases hi : i < n * 64
  · rw [rowOf_get _ (by rw [AM.zs_len]; exact hi)]
    have hm : i % 64 < 64 := Nat.mod_lt _ (by decide)
    have hz : (rowOf (AM.zs 64))[i % 64]! = .int .u8 0 := by
      have h1 := rowOf_get (AM.zs 64) (i := i % 64) (by rw [AM.zs_len]; exact hm)
      have h2 : (AM.zs 64).getD (i % 64) 0 = 0 := by
        have : ∀ j, j < 64 → (AM.zs 64).getD j 0 = 0 := fun j hj => by unfold AM.zs; rw [List.getD, List.getElem?_replicate, if_pos hj]; rfl
        exact this _ hm
      rw [h2] at h1
      rw [getElem!_def, h1]
      rfl
    have hd : (AM.zs (n * 64)).getD i 0 = 0 := by simp [AM.zs, List.getD, hi]
    simp only [madeCells, rowOf_size, AM.zs_len, Array.getElem?_map, hd]
    rw [Array.getElem?_range, if_pos hi]
    simp [hz]
  · rw [Array.getElem?_eq_none (by simp [madeCells]; omega), Array.getElem?_eq_none (by rw [rowOf_size, AM.zs_len]; omega)]
theorem run_make_drv (W : World) {n : Nat} (hn : n ≤ 4096) : (Instr.makeSlice 66 (.int .i64 (n : Int)) (.int .i64 (n : Int))).run Try.prog W = .ok (.slice (some ⟨W.heap.size, 0, none⟩) n n) (W.alloc (.cells (rowOf (AM.zs (n * 64))) 77)) := by
  obtain ⟨i, hi, h0, h1, h2⟩ := info_parts zeroSec
  have hr := run_make (P := Try.prog) W 66 77 i _ Try.underlying66 hi h0 .i64 .i64 n n (by omega) (Int.le_refl _) (by rw [h2]; omega) (by omega)
  rw [h1] at hr
  simp only [Int.toNat_natCast, Value.cells] at hr
  rw [hr, made_rowOf]
theorem blank_row {W : World} {n : Nat} (hn : n ≤ 4096) {g : Nat} (h : W.heap[g]? = some (.cells (rowOf (AM.zs (n * 64))) 77 (0, 0))) : W.ownsRow 0 77 64 (.slice (some ⟨g, 0, none⟩) n n) n ((AM.zs (n * 64)).map bv) := by
  refine ⟨by rw [List.length_map, AM.zs_len], .inr ⟨g, n, _, rfl, Nat.zero_le _, h, Nat.le_refl _, by unfold maxLen; omega, by rw [rowOf_size, AM.zs_len], ?_⟩⟩
  rw [List.take_of_length_le (by simp [rowOf, AM.zs_len])]
  simp [rowOf]

set_option maxHeartbeats 800000 in
theorem replace_blank (h : Is F w a R) {d : Nat} (hd : d < R.C.length) (hoff : R.C[d]? = some none) : Calls Try.prog 22 #[ptr a, .int .i64 (d : Int)] w fun e w' => e = .returned (.int .i64 0) ∧ ∃ F', Is F' w' a (R.blank d) ∧ Step F w F' w' := by
  have hfi : R.find (d : Int) = 0 := by simp [AM.Raw.find]; omega
  have hon : R.on (d : Int) = false := by simp [AM.Raw.on, List.getD, hoff]
  have HC : Hid (Calls Try.prog 46 #[ptr a, .int .i64 (d : Int)] w fun e w' => e = .returned (.int .i64 0) ∧ w' = w) := by have := find_yes h (d : Int); rw [hfi] at this; exact this
  have HO : Hid (Calls Try.prog 37 #[ptr a, .int .i64 (d : Int)] w fun e w' => e = .returned (.bool false) ∧ w' = w) := by have := on_yes h (d : Int); rw [hon] at this; exact this
  have hok := h.ok.blank d
  obtain ⟨dg, dv, fp, fc, h⟩ := h
  have hn2 := h.ok.n2
  have hN := h.ok.d2
  have c0 : w.cell? ⟨a, 0, none⟩ = some (.slice (some ⟨dg, 0, none⟩) R.C.length R.C.length) := topCell (j := 0) h.top rfl
  have c1 : w.cell? ⟨a, 1, none⟩ = some (.int .i64 (R.n : Int)) := topCell (j := 1) h.top rfl
  have hdl : d < dv.length := by rw [h.len]; exact hd
  have hdv : dv[d]? = some dv[d] := List.getElem?_eq_getElem hdl
  have cd : w.cell? ⟨dg, d, none⟩ = some dv[d] := topCell h.dsk (by rw [List.getElem?_toArray]; exact hdv)
  have fd := topFrozen d h.dsk
  obtain ⟨N, hNe⟩ : ∃ N, N = R.C.length := ⟨_, rfl⟩
  obtain ⟨M, hMe⟩ : ∃ M, M = R.n := ⟨_, rfl⟩
  have hmk : ∀ W : World, (Instr.makeSlice 66 (.int .i64 (M : Int)) (.int .i64 (M : Int))).run Try.prog W = .ok (.slice (some ⟨W.heap.size, 0, none⟩) M M) (W.alloc (.cells (rowOf (AM.zs (M * 64))) 77)) := fun W => run_make_drv W (by rw [hMe]; exact hn2)
  have FIN : Hid (∃ F', Is F' ((w.drew.alloc (.cells (rowOf (AM.zs (M * 64))) 77)).setCell ⟨dg, d, none⟩ (.slice (some ⟨w.heap.size, 0, none⟩) M M)) a (R.blank d) ∧ Step F w F' ((w.drew.alloc (.cells (rowOf (AM.zs (M * 64))) 77)).setCell ⟨dg, d, none⟩ (.slice (some ⟨w.heap.size, 0, none⟩) M M))) := by
    have g1 : w.grownBy (w.drew.alloc (.cells (rowOf (AM.zs (M * 64))) 77)) none := gb_alloc (gb_drew (World.grownBy.refl w none)) _
    have hrow : (w.drew.alloc (.cells (rowOf (AM.zs (M * 64))) 77)).ownsRow 0 77 64 (.slice (some ⟨w.heap.size, 0, none⟩) R.n R.n) R.n ((AM.zs (R.n * 64)).map bv) := by
      rw [hMe]
      exact blank_row hn2 (heap_alloc_new w.drew _)
    have hl := h.drove (F' := fun i => F i ∨ i = w.heap.size) (w1 := w.drew.alloc (.cells (rowOf (AM.zs (M * 64))) 77)) (w' := (w.drew.alloc (.cells (rowOf (AM.zs (M * 64))) 77)).setCell ⟨dg, d, none⟩ (.slice (some ⟨w.heap.size, 0, none⟩) R.n R.n)) (fun i h => .inl h)
      (fun i hi => by
        rcases hi with hi | rfl
        · exact Nat.lt_of_lt_of_le (h.lt i hi) g1.size
        · simp) g1 hd (D := some (AM.zs (R.n * 64))) (.inr ⟨_, rfl, hrow⟩) (fun g hg => by
        obtain rfl : w.heap.size = g := Option.some.inj hg
        exact ⟨.inr rfl, fun hf => Nat.lt_irrefl _ (h.lt _ hf)⟩) hok rfl
    rw [hMe] at hl ⊢
    refine ⟨_, hl.is, ⟨⟨rfl, rfl, rfl, by simp, fun i hi hn => ?_⟩, fun i hi => ?_⟩⟩
    · rw [Below.heap_setCell _ _ _ _ (by intro e; rw [e] at hn; exact hn h.Fd)]
      rw [hMe] at g1
      exact g1.block i hi (by simp)
    · rcases hi with hi | rfl
      · exact .inl hi
      · exact .inr (Nat.le_refl _)
  have HNE : Hid (a ≠ dg ∧ a < w.heap.size) := ⟨h.a_dg, h.lt a h.Fa⟩
  rw [← hNe] at c0 hN hd
  rw [← hMe] at c1 hn2
  have hdi : (d : Int) < (N : Int) := by omega
  obtain ⟨ov, hov⟩ : ∃ ov, ov = dv[d] := ⟨_, rfl⟩
  rw [← hov] at cd
  have hlt : dg < w.heap.size := h.lt dg h.Fd
  have cd1 : (w.alloc (.cells (rowOf (AM.zs (M * 64))) 77)).cell? ⟨dg, d, none⟩ = some ov := (World.grownBy_alloc w _ none).cell cd (by simp)
  have fd1 : (w.alloc (.cells (rowOf (AM.zs (M * 64))) 77)).frozen? ⟨dg, d, none⟩ = false := by rw [World.frozen?_of_block (w := w) ((World.grownBy_alloc w _ none).block dg hlt (by simp))]; exact fd
  have HS : Hid (w.cell? ⟨a, 0, none⟩ = some (.slice (some ⟨dg, 0, none⟩) N N) ∧ w.cell? ⟨a, 1, none⟩ = some (.int .i64 (M : Int))) := ⟨c0, c1⟩
  have HK1 : Hid ((w.alloc (.cells (rowOf (AM.zs (M * 64))) 77)).cell? ⟨a, 0, none⟩ = some (.slice (some ⟨dg, 0, none⟩) N N) ∧ (w.alloc (.cells (rowOf (AM.zs (M * 64))) 77)).cell? ⟨a, 1, none⟩ = some (.int .i64 (M : Int))) := ⟨(World.grownBy_alloc w _ none).cell c0 (by simp), (World.grownBy_alloc w _ none).cell c1 (by simp)⟩
  have HK2 : Hid (∀ v, ((w.alloc (.cells (rowOf (AM.zs (M * 64))) 77)).setCell ⟨dg, d, none⟩ v).cell? ⟨a, 0, none⟩ = some (.slice (some ⟨dg, 0, none⟩) N N) ∧ ((w.alloc (.cells (rowOf (AM.zs (M * 64))) 77)).setCell ⟨dg, d, none⟩ v).cell? ⟨a, 1, none⟩ = some (.int .i64 (M : Int))) := fun v => ⟨by rw [World.cell?_setCell_far _ _ _ _ (Ne.symm HNE.out.1)]; exact HK1.out.1, by rw [World.cell?_setCell_far _ _ _ _ (Ne.symm HNE.out.1)]; exact HK1.out.2⟩
  clear h hok hon hfi hoff hdv hov hdl hNe hMe cd fd hlt
  go_enter Try.func22, Try.ntmps22
  go_wp2_with (first
    | (go_at_call 46; refine HC.out.mono ?_; rintro e w1 ⟨rfl, hw⟩; obtain rfl := hw.symm; clear hw)
    | (go_at_call 37; refine HO.out.mono ?_; rintro e w1 ⟨rfl, hw⟩; obtain rfl := hw.symm; clear hw))
  go_region_held3 (fun w' => w'.cell? ⟨a, 0, none⟩ = some (.slice (some ⟨dg, 0, none⟩) N N) ∧ w'.cell? ⟨a, 1, none⟩ = some (.int .i64 (M : Int))) (first | exact HS.out | exact HK1.out | exact HK2.out _) (fail)
  go_wp2
  go_ret
  exact ⟨rfl, FIN.out⟩

theorem replace_any (h : Is F w a R) (d : Int) : Calls Try.prog 22 #[ptr a, .int .i64 d] w fun e w' => e = .returned (.int .i64 ((R.replace d).1 : Int)) ∧ ∃ F', Is F' w' a (R.replace d).2 ∧ Step F w F' w' := by
  by_cases hf : R.find d = 0
  · have hb : 0 ≤ d ∧ d < (R.C.length : Int) := by
      refine Classical.byContradiction fun c => ?_
      simp [AM.Raw.find, c] at hf
    cases ho : R.on d with
    | true =>
      have HC : Hid (Calls Try.prog 46 #[ptr a, .int .i64 d] w fun e w' => e = .returned (.int .i64 0) ∧ w' = w) := by have := find_yes h d; rw [hf] at this; exact this
      have HO : Hid (Calls Try.prog 37 #[ptr a, .int .i64 d] w fun e w' => e = .returned (.bool true) ∧ w' = w) := by have := on_yes h d; rw [ho] at this; exact this
      have HI : Hid (Is F w a R) := h
      have HR : Hid (R.replace d = (1, R)) := by show _ = _; simp [AM.Raw.replace, hf, ho]
      clear h hb hf ho
      go_enter Try.func22, Try.ntmps22
      go_wp2_with (first
        | (go_at_call 46; refine HC.out.mono ?_; rintro e w1 ⟨rfl, hw⟩; obtain rfl := hw.symm; clear hw)
        | (go_at_call 37; refine HO.out.mono ?_; rintro e w1 ⟨rfl, hw⟩; obtain rfl := hw.symm; clear hw))
      go_ret
      exact ⟨by rw [HR.out]; rfl, F, by rw [HR.out]; exact HI.out, Step.refl F w⟩
    | false =>
      obtain ⟨D, rfl⟩ : ∃ D : Nat, d = (D : Int) := ⟨d.toNat, by omega⟩
      have hlt : D < R.C.length := by omega
      have hn : R.C[D]? = some none := by
        rw [List.getElem?_eq_getElem hlt]
        cases hq : R.C[D] with
        | none => rfl
        | some xs => simp [AM.Raw.on, List.getD, List.getElem?_eq_getElem hlt, hq] at ho; omega
      refine (replace_blank h hlt hn).mono ?_
      rintro e w' ⟨rfl, h2⟩
      simp only [AM.Raw.replace, hf, ho]
      exact ⟨rfl, h2⟩
  · have HC : Hid (Calls Try.prog 46 #[ptr a, .int .i64 d] w fun e w' => e = .returned (.int .i64 (R.find d : Int)) ∧ w' = w) := find_yes h d
    have hne : ¬ (R.find d : Int) = 0 := by omega
    have HI : Hid (Is F w a R) := h
    have HR : Hid (R.replace d = (R.find d, R)) := by show _ = _; simp [AM.Raw.replace, hf]
    rw [HR.out]
    clear h hf HR
    show Calls Try.prog 22 #[ptr a, .int .i64 d] w fun e w' => e = .returned (.int .i64 (R.find d : Int)) ∧ ∃ F', Is F' w' a R ∧ Step F w F' w'
    generalize (R.find d : Int) = z at *
    go_enter Try.func22, Try.ntmps22
    go_wp2_with (go_at_call 46; refine HC.out.mono ?_; rintro e w1 ⟨rfl, hw⟩; obtain rfl := hw.symm; clear hw)
    go_ret
    exact ⟨rfl, F, HI.out, Step.refl F w⟩
end
end Go.Proofs.Ytfmlohedebdomaa
