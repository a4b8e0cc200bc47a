/- Contract of Lose. -/
import Derived.Test.YtfmlohedebdomaaDel6
set_option linter.unusedSimpArgs false
set_option linter.unusedVariables false
namespace Go.Proofs.Ytfmlohedebdomaa
open Go.RowKit

section
variable {F : Nat → Prop} {w : World} {a : Nat} {R : AM.Raw}

/-- A disk is gone, with all that is in flight for it. -/
theorem Lies.gone {dg : Nat} {dv : List Value} {fp : Option Addr} {fc : Nat} (h : Lies F w a dg dv fp fc R) {d : Nat} (hd : d < R.C.length) {w' : World} (hsz : ∀ i, F i → i < w'.heap.size)
    (hoth : ∀ i, F i → i ≠ a → i ≠ dg → (Value.slice fp R.L.length fc).ownBlock ≠ some i → w'.heap[i]? = w.heap[i]?)
    (ha : w'.heap[a]? = some (.cells #[.slice (some ⟨dg, 0, none⟩) R.C.length R.C.length, .int .i64 (R.n : Int), .slice fp (R.lost d).L.length fc, .int .i64 (R.fuse : Int), .bool R.off] 64 (0, 0)))
    (hdg : w'.heap[dg]? = some (.cells (dv.set d (.slice none 0 0)).toArray 66 (0, 0)))
    (hrow : w'.ownsRow 0 79 130 (.slice fp (R.lost d).L.length fc) (R.lost d).L.length (wrow (R.lost d).L)) : Lies F w' a dg (dv.set d (.slice none 0 0)) fp fc (R.lost d) := by
  have hdl : d < dv.length := by rw [h.len]; exact hd
  have hlen : (R.lost d).C.length = R.C.length := by simp [AM.Raw.lost]
  have hsplit : ∀ (i : Nat) (u : Value), (dv.set d (.slice none 0 0))[i]? = some u → (i = d ∧ u = .slice none 0 0) ∨ (i ≠ d ∧ dv[i]? = some u) := fun i u hu => by
    by_cases c : d = i
    · subst c
      rw [List.getElem?_set, if_pos rfl, if_pos hdl] at hu
      exact .inl ⟨rfl, (Option.some.inj hu).symm⟩
    · rw [List.getElem?_set, if_neg c] at hu
      exact .inr ⟨Ne.symm c, hu⟩
  have hfb : ∀ L' : List AM.Wr, (Value.slice fp L'.length fc).ownBlock = (Value.slice fp R.L.length fc).ownBlock := fun L' => by cases fp <;> rfl
  refine ⟨h.ok.lost d, hsz, by rw [hlen]; exact ha, hdg, by rw [hlen, List.length_set]; exact h.len, ?_, hrow, h.Fa, h.Fd, ?_, fun g hg => h.Ff g (by rw [← hfb]; exact hg), ?_⟩
  · intro i u hu
    rcases hsplit i u hu with ⟨rfl, rfl⟩ | ⟨hne, hu⟩
    · exact .inl ⟨by show (R.C.set i none)[i]? = _; rw [List.getElem?_set, if_pos rfl, if_pos hd], rfl⟩
    · have e : (R.lost d).C[i]? = R.C[i]? := by show (R.C.set d none)[i]? = _; rw [List.getElem?_set, if_neg (Ne.symm hne)]
      rcases h.drv i u hu with ⟨h1, h2⟩ | ⟨xs, h1, h2⟩
      · exact .inl ⟨by rw [e]; exact h1, h2⟩
      · refine .inr ⟨xs, by rw [e]; exact h1, ownsRow_same h2 (fun g hg => ?_)⟩
        obtain ⟨c, hc⟩ := h.drvBlock hu hg
        refine hoth g (h.Fv i u hu g hg) (ne_ty hc h.top (by decide)) (ne_ty hc h.dsk (by decide)) (fun e => ?_)
        obtain ⟨c', hc'⟩ := rowBlock h.fly e
        exact ne_ty hc hc' (by decide) rfl
  · intro i u hu g hg
    rcases hsplit i u hu with ⟨rfl, rfl⟩ | ⟨hne, hu⟩
    · cases hg
    · exact h.Fv i u hu g hg
  · intro i j u v hu hv g hg hg'
    rcases hsplit i u hu with ⟨rfl, rfl⟩ | ⟨hne, hi⟩
    · cases hg
    · rcases hsplit j v hv with ⟨rfl, rfl⟩ | ⟨hne', hj⟩
      · cases hg'
      · exact h.ap i j u v hi hj g hg hg'

set_option maxHeartbeats 1600000 in
theorem lose_on (h : Is F w a R) {d : Nat} (hon : R.on (d : Int) = true) (hL : R.L.length ≤ 1000000) : Calls Try.prog 20 #[ptr a, .int .i64 (d : Int)] w fun e w' => e = .returned (.int .i64 0) ∧ Is F w' a (R.lost d) ∧ Step F w F w' := by
  obtain ⟨_, hd, xs, hx⟩ := AM.on_iff hon
  have hd : d < R.C.length := by omega
  have hfi : R.find (d : Int) = 0 := by simp [AM.Raw.find]; omega
  have gB : w.grownBy (w.alloc (.cells #[.int .i64 (d : Int)] 3)) none := World.grownBy_alloc _ _ none
  have hB := h.keep gB
  have HC : Hid (Calls Try.prog 46 #[ptr a, .int .i64 (d : Int)] (w.alloc (.cells #[.int .i64 (d : Int)] 3)) fun e w' => e = .returned (.int .i64 0) ∧ w' = (w.alloc (.cells #[.int .i64 (d : Int)] 3))) := by have := find_yes hB (d : Int); rw [hfi] at this; exact this
  have HO : Hid (Calls Try.prog 37 #[ptr a, .int .i64 (d : Int)] (w.alloc (.cells #[.int .i64 (d : Int)] 3)) fun e w' => e = .returned (.bool true) ∧ w' = (w.alloc (.cells #[.int .i64 (d : Int)] 3))) := by have := on_yes hB (d : Int); rw [hon] at this; exact this
  obtain ⟨dg, dv, fp, fc, h⟩ := h
  have hN := h.ok.d2
  have c0 : w.cell? ⟨a, 0, none⟩ = some (.slice (some ⟨dg, 0, none⟩) R.C.length R.C.length) := topCell (j := 0) h.top rfl
  have hdl : d < dv.length := by rw [h.len]; exact hd
  have hdv : dv[d]? = some dv[d] := List.getElem?_eq_getElem hdl
  have cd : w.cell? ⟨dg, d, none⟩ = some dv[d] := topCell h.dsk (by rw [List.getElem?_toArray]; exact hdv)
  have fd := topFrozen d h.dsk
  have hdlt : dg < w.heap.size := h.lt dg h.Fd
  have halt : a < w.heap.size := h.lt a h.Fa
  obtain ⟨WA, hWA⟩ : ∃ WA, WA = (w.drew.alloc (.cells #[.int .i64 (d : Int)] 3)).setCell ⟨dg, d, none⟩ (.slice none 0 0) := ⟨_, rfl⟩
  have gA : w.grownBy WA (some dg) := by
    rw [hWA]
    exact grown_trans (grown_any (gb_alloc (gb_drew (World.grownBy.refl w none)) _) _) (grown_set _ dg d _)
  have hblk : ∀ i, i < w.heap.size → i ≠ dg → WA.heap[i]? = w.heap[i]? := fun i hi hne => gA.block i hi (fun e => hne (Option.some.inj e))
  have hdA : WA.heap[dg]? = some (.cells (dv.set d (.slice none 0 0)).toArray 66 (0, 0)) := by
    rw [hWA, heap_setCell_same _ _ _ _ _ _ (show (w.drew.alloc (.cells #[.int .i64 (d : Int)] 3)).heap[dg]? = some (.cells dv.toArray 66 (0, 0)) from ((gb_alloc (gb_drew (World.grownBy.refl w none)) _ : w.grownBy (w.drew.alloc (.cells #[.int .i64 (d : Int)] 3)) none).block dg hdlt (by simp)).trans h.dsk)]
    simp
  have hfA : WA.ownsRow 0 79 130 (.slice fp R.L.length fc) R.L.length (wrow R.L) := ownsRow_same h.fly (fun g hg => by
    obtain ⟨c, hc⟩ := rowBlock h.fly hg
    exact hblk g (h.lt g (h.Ff g hg)) (ne_ty hc h.dsk (by decide)))
  have htA : WA.heap[a]? = some (.cells #[.slice (some ⟨dg, 0, none⟩) R.C.length R.C.length, .int .i64 (R.n : Int), .slice fp R.L.length fc, .int .i64 (R.fuse : Int), .bool R.off] 64 (0, 0)) := by rw [hblk a halt h.a_dg]; exact h.top
  have hcA : WA.cell? ⟨w.heap.size, 0, none⟩ = some (.int .i64 (d : Int)) := by
    rw [hWA, World.cell?_setCell_far _ _ _ _ (by show dg ≠ w.heap.size; omega)]
    exact topCell (heap_alloc_new w.drew _) rfl
  have HD : Hid (Calls Try.prog 47 #[.slice fp R.L.length fc, .func (.func 48) #[] #[.pointer (some ⟨w.heap.size, 0, none⟩)]] WA fun e w' => e = .returned (.slice fp (R.lost d).L.length fc) ∧ w'.ownsRow 0 79 130 (.slice fp (R.lost d).L.length fc) (R.lost d).L.length (wrow (R.lost d).L) ∧ WA.grownBy w' (Value.slice fp R.L.length fc).ownBlock) :=
    del_any hfA (fun l hl => ⟨(h.ok.L l hl).was, (h.ok.L l hl).now⟩) hL hcA (fun g hg e => by have := h.lt g (h.Ff g hg); omega)
  have c2A : WA.cell? ⟨a, 2, none⟩ = some (.slice fp R.L.length fc) := topCell (j := 2) htA rfl
  have FIN : Hid (∀ w3 : World, w3.ownsRow 0 79 130 (.slice fp (R.lost d).L.length fc) (R.lost d).L.length (wrow (R.lost d).L) → WA.grownBy w3 (Value.slice fp R.L.length fc).ownBlock →
      w3.cell? ⟨a, 2, none⟩ = some (.slice fp R.L.length fc) ∧ w3.frozen? ⟨a, 2, none⟩ = false ∧ Is F (w3.setCell ⟨a, 2, none⟩ (.slice fp (R.lost d).L.length fc)) a (R.lost d) ∧ Step F w F (w3.setCell ⟨a, 2, none⟩ (.slice fp (R.lost d).L.length fc))) := fun w3 hr3 g3 => by
    have hAs : w.heap.size ≤ WA.heap.size := gA.size
    have hna : ∀ i c, w.heap[i]? = some c → ∀ t cc, c = .cells cc t (0, 0) → t ≠ 79 → some i ≠ (Value.slice fp R.L.length fc).ownBlock := fun i c hi t cc hc ht e => by
      obtain ⟨c', hc'⟩ := rowBlock h.fly e.symm
      rw [hc] at hi
      exact ne_ty hi hc' ht rfl
    have ht3 : w3.heap[a]? = some (.cells #[.slice (some ⟨dg, 0, none⟩) R.C.length R.C.length, .int .i64 (R.n : Int), .slice fp R.L.length fc, .int .i64 (R.fuse : Int), .bool R.off] 64 (0, 0)) := (g3.block a (by omega) (hna a _ h.top _ _ rfl (by decide))).trans htA
    have hd3 : w3.heap[dg]? = some (.cells (dv.set d (.slice none 0 0)).toArray 66 (0, 0)) := (g3.block dg (by omega) (hna dg _ h.dsk _ _ rfl (by decide))).trans hdA
    have hb4 : ∀ i, i ≠ a → (w3.setCell ⟨a, 2, none⟩ (.slice fp (R.lost d).L.length fc)).heap[i]? = w3.heap[i]? := fun i hne => Below.heap_setCell _ _ _ _ hne
    have g34 : WA.heap.size ≤ w3.heap.size := g3.size
    refine ⟨topCell (j := 2) ht3 rfl, topFrozen 2 ht3, Lies.is (h.gone hd (fun i hi => ?_) (fun i hi h1 h2 h3 => ?_) ?_ ?_ ?_), ⟨⟨?_, ?_, ?_, ?_, ?_⟩, fun _ h => .inl h⟩⟩
    · have := h.lt i hi; simp; omega
    · rw [hb4 i h1, g3.block i (by have := h.lt i hi; omega) (Ne.symm h3), hblk i (h.lt i hi) h2]
    · rw [heap_setCell_same _ _ _ _ _ _ ht3]; rfl
    · rw [hb4 dg (Ne.symm h.a_dg)]; exact hd3
    · refine ownsRow_same hr3 (fun g hg => hb4 g ?_)
      obtain ⟨c, hc⟩ := rowBlock hr3 hg
      exact ne_ty hc ht3 (by decide)
    · exact g3.os.trans gA.os
    · exact g3.tape.trans gA.tape
    · exact g3.output.trans gA.output
    · simp; omega
    · intro i hi hn
      rw [hb4 i (fun e => hn (by rw [e]; exact h.Fa)), g3.block i (by omega) (fun e => hn (h.Ff i e.symm)), hblk i hi (fun e => hn (by rw [e]; exact h.Fd))]
  obtain ⟨N, hNe⟩ : ∃ N, N = R.C.length := ⟨_, rfl⟩
  have HS : Hid ((w.alloc (.cells #[.int .i64 (d : Int)] 3)).cell? ⟨a, 0, none⟩ = some (.slice (some ⟨dg, 0, none⟩) N N) ∧ (w.alloc (.cells #[.int .i64 (d : Int)] 3)).cell? ⟨w.heap.size, 0, none⟩ = some (.int .i64 (d : Int))) := ⟨by rw [hNe]; exact gB.cell c0 (by simp), topCell (heap_alloc_new w _) rfl⟩
  have HK2 : Hid (∀ v, ((w.alloc (.cells #[.int .i64 (d : Int)] 3)).setCell ⟨dg, d, none⟩ v).cell? ⟨a, 0, none⟩ = some (.slice (some ⟨dg, 0, none⟩) N N) ∧ ((w.alloc (.cells #[.int .i64 (d : Int)] 3)).setCell ⟨dg, d, none⟩ v).cell? ⟨w.heap.size, 0, none⟩ = some (.int .i64 (d : Int))) := fun v => ⟨by rw [World.cell?_setCell_far _ _ _ _ (by show dg ≠ a; exact Ne.symm h.a_dg)]; exact HS.out.1, by rw [World.cell?_setCell_far _ _ _ _ (by show dg ≠ w.heap.size; omega)]; exact HS.out.2⟩
  have cB : (w.alloc (.cells #[.int .i64 (d : Int)] 3)).cell? ⟨w.heap.size, 0, none⟩ = some (.int .i64 (d : Int)) := HS.out.2
  obtain ⟨ov, hov⟩ : ∃ ov, ov = dv[d] := ⟨_, rfl⟩
  rw [← hov] at cd
  have cd1 : (w.alloc (.cells #[.int .i64 (d : Int)] 3)).cell? ⟨dg, d, none⟩ = some ov := gB.cell cd (by simp)
  have fd1 : (w.alloc (.cells #[.int .i64 (d : Int)] 3)).frozen? ⟨dg, d, none⟩ = false := by rw [World.frozen?_of_block (w := w) (gB.block dg hdlt (by simp))]; exact fd
  rw [← hNe] at hN hd
  have hdi : (d : Int) < (N : Int) := by omega
  obtain ⟨M, hM⟩ : ∃ M, M = R.L.length := ⟨_, rfl⟩
  obtain ⟨K, hK⟩ : ∃ K, K = (R.lost d).L.length := ⟨_, rfl⟩
  rw [← hM] at c2A hL
  have HD2 : Hid (Calls Try.prog 47 #[.slice fp M fc, .func (.func 48) #[] #[.pointer (some ⟨w.heap.size, 0, none⟩)]] WA fun e w' => e = .returned (.slice fp K fc) ∧ w'.cell? ⟨a, 2, none⟩ = some (.slice fp M fc) ∧ w'.frozen? ⟨a, 2, none⟩ = false ∧ Is F (w'.setCell ⟨a, 2, none⟩ (.slice fp K fc)) a (R.lost d) ∧ Step F w F (w'.setCell ⟨a, 2, none⟩ (.slice fp K fc))) := by
    rw [hM, hK]
    refine HD.out.mono ?_
    rintro e w3 ⟨rfl, hr3, g3⟩
    obtain ⟨f1, f2, f3, f4⟩ := FIN.out w3 hr3 g3
    exact ⟨rfl, f1, f2, f3, f4⟩
  clear h hov hdv hdl hNe cd fd hdlt halt gA hblk hdA hfA htA hcA HD FIN hB gB hM hK hon hfi hx c0 xs
  go_enter Try.func20, Try.ntmps20
  go_wp2_with (first
    | (go_at_call 46; refine HC.out.mono ?_; rintro e w1 ⟨rfl, hw⟩; obtain rfl := hw.symm; clear hw)
    | (go_at_call 37; refine HO.out.mono ?_; rintro e w1 ⟨rfl, hw⟩; obtain rfl := hw.symm; clear hw))
  go_region_held3 (fun w' => w'.cell? ⟨a, 0, none⟩ = some (.slice (some ⟨dg, 0, none⟩) N N) ∧ w'.cell? ⟨w.heap.size, 0, none⟩ = some (.int .i64 (d : Int))) (first | exact HS.out | exact HK2.out _) (fail)
  have eWA : ((w.alloc (.cells #[.int .i64 (d : Int)] 3)).setCell ⟨dg, d, none⟩ (.slice none 0 0)).drew = WA := by rw [hWA]; rfl
  rw [eWA]
  clear eWA hWA HS HK2 HC HO cB cd1 fd1
  go_wp2_with (go_at_call 47; refine HD2.out.mono ?_; rintro e w3 ⟨rfl, f1, f2, f3, f4⟩; have HF3 : Hid (Is F (w3.setCell ⟨a, 2, none⟩ (.slice fp K fc)) a (R.lost d)) := f3; have HF4 : Hid (Step F w F (w3.setCell ⟨a, 2, none⟩ (.slice fp K fc))) := f4; clear f3 f4)
  go_ret
  exact ⟨rfl, HF3.out, HF4.out⟩

theorem lose_any (h : Is F w a R) (d : Int) (hL : R.L.length ≤ 1000000) : Calls Try.prog 20 #[ptr a, .int .i64 d] w fun e w' => e = .returned (.int .i64 ((R.lose d).1 : Int)) ∧ Is F w' a (R.lose d).2 ∧ Step F w F w' := by
  by_cases hf : R.find d = 0
  · by_cases hon : R.on d = true
    · obtain ⟨h0, _, _⟩ := AM.on_iff hon
      obtain ⟨n, rfl⟩ : ∃ n : Nat, d = (n : Int) := ⟨d.toNat, by omega⟩
      refine (lose_on h hon hL).mono ?_
      rintro e w' ⟨rfl, h1, h2⟩
      have e : R.lose (n : Int) = (0, R.lost n) := by simp [AM.Raw.lose, hf, hon]
      rw [e]
      exact ⟨rfl, h1, h2⟩
    · have hon : R.on d = false := by simpa using hon
      have e : R.lose d = (9, R) := by simp [AM.Raw.lose, hf, hon]
      rw [e]
      have gB : w.grownBy (w.alloc (.cells #[.int .i64 d] 3)) none := World.grownBy_alloc _ _ none
      have hB := h.keep gB
      have HI : Hid (Is F (w.alloc (.cells #[.int .i64 d] 3)) a R) := hB
      have HG : Hid (Step F w F (w.alloc (.cells #[.int .i64 d] 3))) := Step.new gB
      have HC : Hid (Calls Try.prog 46 #[ptr a, .int .i64 d] (w.alloc (.cells #[.int .i64 d] 3)) fun e w' => e = .returned (.int .i64 0) ∧ w' = (w.alloc (.cells #[.int .i64 d] 3))) := by have := find_yes hB d; rw [hf] at this; exact this
      have HO : Hid (Calls Try.prog 37 #[ptr a, .int .i64 d] (w.alloc (.cells #[.int .i64 d] 3)) fun e w' => e = .returned (.bool false) ∧ w' = (w.alloc (.cells #[.int .i64 d] 3))) := by have := on_yes hB d; rw [hon] at this; exact this
      have cB : (w.alloc (.cells #[.int .i64 d] 3)).cell? ⟨w.heap.size, 0, none⟩ = some (.int .i64 d) := topCell (heap_alloc_new w _) rfl
      clear h hB gB e hf hon
      go_enter Try.func20, Try.ntmps20
      go_wp2_with (first
        | (go_at_call 46; refine HC.out.mono ?_; rintro e w1 ⟨rfl, hw⟩; obtain rfl := hw.symm; clear hw)
        | (go_at_call 37; refine HO.out.mono ?_; rintro e w1 ⟨rfl, hw⟩; obtain rfl := hw.symm; clear hw))
      go_ret
      exact ⟨rfl, HI.out, HG.out⟩
  · have e : R.lose d = (R.find d, R) := by simp [AM.Raw.lose, hf]
    rw [e]
    have gB : w.grownBy (w.alloc (.cells #[.int .i64 d] 3)) none := World.grownBy_alloc _ _ none
    have hB := h.keep gB
    have HI : Hid (Is F (w.alloc (.cells #[.int .i64 d] 3)) a R) := hB
    have HG : Hid (Step F w F (w.alloc (.cells #[.int .i64 d] 3))) := Step.new gB
    have HC : Hid (Calls Try.prog 46 #[ptr a, .int .i64 d] (w.alloc (.cells #[.int .i64 d] 3)) fun e w' => e = .returned (.int .i64 (R.find d : Int)) ∧ w' = (w.alloc (.cells #[.int .i64 d] 3))) := find_yes hB d
    have cB : (w.alloc (.cells #[.int .i64 d] 3)).cell? ⟨w.heap.size, 0, none⟩ = some (.int .i64 d) := topCell (heap_alloc_new w _) rfl
    have hfi : ¬ (R.find d : Int) = 0 := by omega
    clear h hB gB e hf
    generalize R.find d = q at *
    go_enter Try.func20, Try.ntmps20
    go_wp2_with (go_at_call 46; refine HC.out.mono ?_; rintro e w1 ⟨rfl, hw⟩; obtain rfl := hw.symm; clear hw)
    go_ret
    exact ⟨rfl, HI.out, HG.out⟩
end
end Go.Proofs.Ytfmlohedebdomaa
