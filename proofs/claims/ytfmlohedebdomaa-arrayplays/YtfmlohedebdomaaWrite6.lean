/- The contract of Write. -/
import Derived.Test.YtfmlohedebdomaaBld6
set_option linter.unusedSimpArgs false
set_option linter.unusedVariables false
namespace Go.Proofs.Ytfmlohedebdomaa
open Go.RowKit

section
variable {F : Nat → Prop} {w : World} {a : Nat} {R : AM.Raw}

theorem wfill (d k : Nat) (was b : List Nat) (hw : was.length = 64) (hb : b.length = 64) : ((wcells ⟨d, k, was, AM.zs 64⟩).toArray.toList.take 66 ++ b.map bv ++ (wcells ⟨d, k, was, AM.zs 64⟩).toArray.toList.drop (66 + b.length)).toArray = (wcells ⟨d, k, was, b⟩).toArray := by
  have h1 : (was.map bv).length = 64 := by simpa using hw
  have h2 : ((AM.zs 64).map bv).length = 64 := by rw [List.length_map, AM.zs_len]
  unfold wcells
  simp only [hb]
  generalize was.map bv = A at *
  generalize (AM.zs 64).map bv = Z at *
  congr 1
  simp [h1, h2]

theorem now_vec {w : World} {bk d k : Nat} {was b : List Nat} (h : w.heap[bk]? = some (.cells (wcells ⟨d, k, was, b⟩).toArray 79 (0, 0))) (hw : was.length = 64) (hb : b.length = 64) (hs : ∀ x ∈ b, x < 256) : Vec w (.slice (some ⟨bk, 66, none⟩) 64 64) b := by
  refine ⟨hs, by omega, _, _, by rw [hb], by omega, by decide, fun _ => ⟨bk, 66, rfl, fun j hj => ?_⟩⟩
  refine topCell h ?_
  rw [List.getElem?_toArray]
  have h1 : (was.map bv).length = 64 := by simpa using hw
  have e : 66 + j = 2 + (64 + j) := by omega
  rw [e, Nat.add_comm 2]
  unfold wcells
  rw [List.getElem?_cons_succ, List.getElem?_cons_succ]
  show (List.map bv was ++ List.map bv b)[64 + j]? = _
  rw [List.getElem?_append_right (by omega), h1, Nat.add_sub_cancel_left, getD_map_bv b j hj]

set_option maxHeartbeats 1600000 in
set_option maxRecDepth 100000 in
theorem write_fly (h : Is F w a R) {d k : Nat} {v : Value} {b : List Nat} (hr : R.reach d k = 0) (hv : Vec w v b) (hvF : b ≠ [] → ∀ g, v.ownBlock = some g → ¬ F g) (hb : b.length = 64) (hbu : R.burns = false) (hL : R.L.length ≤ 1000000) :
    Calls Try.prog 13 #[ptr a, .int .i64 (d : Int), .int .i64 (k : Int), v] w fun e w' => e = .returned (.int .i64 0) ∧ ∃ F', Is F' w' a (R.burnt.fly d k b) ∧ Step F w F' w' := by
  have HC : Hid (Calls Try.prog 39 #[ptr a, .int .i64 (d : Int), .int .i64 (k : Int)] w fun e w' => e = .returned (.int .i64 0) ∧ w' = w) := by have := reach_yes h (d : Int) (k : Int); rw [hr] at this; exact this
  obtain ⟨hoff, _, d2, _, k2, xs, hon⟩ := AM.reach_zero hr
  rw [Int.toNat_natCast] at hon
  have HB : Hid (Calls Try.prog 40 #[ptr a] w fun e w' => e = .returned (.bool false) ∧ Is F w' a R.burnt ∧ Step F w F w') := by have := burns_yes h hoff; rw [hbu] at this; exact this
  have eC : R.burnt.C = R.C := by unfold AM.Raw.burnt; split <;> rfl
  have en : R.burnt.n = R.n := by unfold AM.Raw.burnt; split <;> rfl
  have eL : R.burnt.L = R.L := by unfold AM.Raw.burnt; split <;> rfl
  rw [← eC] at hon d2
  rw [← en] at k2
  rw [← eL] at hL
  obtain ⟨p, n, cap, rfl, hn⟩ := hv.opened
  obtain rfl : n = 64 := by omega
  have HV : Hid (∀ w', Upd F w w' → Vec w' (.slice p 64 cap) b) := fun w' u => hv.upd u hvF
  have HBL : Hid (b.length = 64 ∧ b ≠ [] ∧ ∀ x ∈ b, x < 256) := ⟨hb, (by intro e; rw [e] at hb; cases hb), hv.small⟩
  clear h hr hv hvF hb hbu eC en eL hoff hn
  go_enter Try.func13, Try.ntmps13
  go_wp2_with (go_at_call 39; refine HC.out.mono ?_; rintro e w1 ⟨rfl, hw⟩; obtain rfl := hw.symm; clear hw)
  refine HB.out.mono ?_
  rintro e w1 ⟨rfl, hi1, hs1⟩
  have hok := hi1.ok
  obtain ⟨dg, dv, fp, fc, h1⟩ := hi1
  obtain ⟨g, c, hdv, cd, hrow, hxl, hxs, ga, gd, hdl⟩ := h1.drive hon
  have c0 : w1.cell? ⟨a, 0, none⟩ = some (.slice (some ⟨dg, 0, none⟩) R.burnt.C.length R.burnt.C.length) := topCell (j := 0) h1.top rfl
  have hN := hok.d2
  have hn2 := hok.n2
  have hkn : k < R.burnt.n := by omega
  have hsv := sector_vec hrow hxs hxl hkn
  rw [← AM.look_at k hon] at hsv
  have hlk := AM.look_ok hok.C ⟨xs, hon⟩ hkn
  have HRG : Hid (w1.rangeAt g (k * 64) ((AM.look R.burnt.C d k).map bv)) := fun j u hj => by
    obtain ⟨x, hx, rfl⟩ := bv_map_get hj
    have hjl : j < (AM.look R.burnt.C d k).length := (List.getElem?_eq_some_iff.1 hx).1
    obtain ⟨b', o', e', hcell, _⟩ := hsv.spot hjl
    injection e' with e'
    injection e' with e1 e2
    subst e1
    subst e2
    rw [hcell]
    simp [List.getD, hx]
  have HLK : Hid ((AM.look R.burnt.C d k).length = 64 ∧ ∀ x ∈ AM.look R.burnt.C d k, x < 256) := hlk
  have HI1 : Hid (Is F w1 a R.burnt) := h1.is
  have HS1 : Hid (Step F w F w1) := hs1
  have HOK : Hid (R.burnt.Ok) := hok
  have HON : Hid ((∃ xs, R.burnt.C[d]? = some (some xs)) ∧ k < R.burnt.n) := ⟨⟨xs, hon⟩, hkn⟩
  have zW := run_zeroW
  obtain ⟨was, hwas⟩ : ∃ was, was = AM.look R.burnt.C d k := ⟨_, rfl⟩
  rw [← hwas] at HRG HLK
  have HW : Hid (was = AM.look R.burnt.C d k) := hwas
  obtain ⟨N, hNe⟩ : ∃ N, N = R.burnt.C.length := ⟨_, rfl⟩
  obtain ⟨M, hMe⟩ : ∃ M, M = R.burnt.n := ⟨_, rfl⟩
  rw [← hNe] at c0 hN hdl d2
  rw [← hMe] at cd hkn hn2 k2
  have hsz1 : (Try.prog.info? 77).map (·.size) = some (was.map bv).length := by rw [List.length_map, HLK.out.1]; exact Try.sizeSec
  have HSZ : Hid ((Try.prog.info? 77).map (·.size) = some (was.map bv).length) := hsz1
  obtain ⟨AR, hAR⟩ : ∃ AR, AR = (wcells ⟨d, k, was, AM.zs 64⟩).toArray := ⟨_, rfl⟩
  have HARL : Hid (AR.size = 130 ∧ AR.all (·.oneCell') = true) := by
    rw [hAR]
    exact ⟨by rw [List.size_toArray, wcells_len (by exact HLK.out.1) (AM.zs_len _)], all_oneCell_toArray (wcells_one _)⟩
  have HAR : Hid (AR = (wcells ⟨d, k, was, AM.zs 64⟩).toArray) := hAR
  obtain ⟨ZR, hZR⟩ : ∃ ZR, ZR = (wcells ⟨0, 0, AM.zs 64, AM.zs 64⟩).toArray := ⟨_, rfl⟩
  rw [← hZR] at zW
  have HINF : Hid ((Try.prog.info? 79).map (·.size) = some AR.size) := by rw [HARL.out.1]; exact Try.sizeWr
  have HZR : Hid (ZR.size = 130) := by show _ = _; rw [hZR, List.size_toArray, wcells_len (AM.zs_len _) (AM.zs_len _)]
  clear hs1 hdv hrow hxl hxs ga gd hsv hlk hok h1 hwas hNe hMe hsz1 hAR hon xs HB HC hZR
  go_wp2_with (first
    | (refine wpList_load_mid rfl 77 (.tmp 33) rfl g (k * 64) rfl (was.map bv) _ HRG.out Try.underlying77 rfl HSZ.out ?_)
    | (refine wpList_build_wr rfl (.tmp 23) (.tmp 24) (.tmp 34) rfl rfl rfl rfl HLK.out.1 HAR.out ?_)
    | (refine wpList_store_row rfl 79 (.tmp 10) (.tmp 35) rfl w1.heap.size AR rfl rfl 79 ZR (heap_alloc_new w1 _) HINF.out (by rw [HZR.out, HARL.out.1]) HARL.out.2 ?_; rw [World.setRow_alloc_new]; have HBK : Hid ((w1.alloc (.cells AR 79)).heap[w1.heap.size]? = some (.cells AR 79 (0, 0)) ∧ Step F w F (w1.alloc (.cells AR 79)) ∧ Is F (w1.alloc (.cells AR 79)) a R.burnt ∧ (∀ i, F i → i < w1.heap.size) ∧ w.heap.size ≤ w1.heap.size) := ⟨heap_alloc_new w1 _, HS1.out.trans (Step.new (World.grownBy_alloc _ _ none)), HI1.out.keep (World.grownBy_alloc _ _ none), HI1.out.lt, HS1.out.upd.size⟩; clear HS1 HI1; generalize w1.alloc (.cells AR 79) = W at *; have HFB : Hid (∀ i, F i → i < w1.heap.size) := HBK.out.2.2.2.1; generalize w1.heap.size = bk at *)
    | (refine wpList_copy_cells rfl _ _ rfl _ (T := 79) (g := bk) (f := 66) (cur := AR) (ys := b) rfl rfl HBK.out.1 (HV.out _ HBK.out.2.1.upd) HBL.out.2.1 (by rw [HBL.out.1]; exact Nat.le_refl _) (by rw [HBL.out.1, HARL.out.1]; exact Nat.le_refl _) ?_; intro w2 h2 g2; rw [HAR.out, wfill d k was b HLK.out.1 HBL.out.1] at h2; have H2 : Hid (w2.heap[bk]? = some (.cells (wcells ⟨d, k, was, b⟩).toArray 79 (0, 0))) := h2; have e0 : w2.cell? ⟨bk, 0, none⟩ = some (.int .i64 (d : Int)) := topCell h2 rfl; have e1 : w2.cell? ⟨bk, 1, none⟩ = some (.int .i64 (k : Int)) := topCell h2 rfl; have HI2 : Hid (Is F w2 a R.burnt ∧ Step F w F w2) := ⟨HBK.out.2.2.1.apart g2 (fun hf => Nat.lt_irrefl _ (HBK.out.2.2.2.1 _ hf)), HBK.out.2.1.fresh g2 HBK.out.2.2.2.2⟩; have HV2 : Hid (Vec w2 (.slice (some ⟨bk, 66, none⟩) 64 64) b) := now_vec h2 HLK.out.1 HBL.out.1 HBL.out.2.2; clear h2 g2 HBK)
    | (go_at_call 41; refine (lay_yes HI2.out.1 HON.out.1 HON.out.2 HV2.out HBL.out.1).mono ?_; rintro e w3 ⟨rfl, hi3, hs3, g3, c3, hg3, ht3⟩; have H3 : Hid (w3.heap[bk]? = some (.cells (wcells ⟨d, k, was, b⟩).toArray 79 (0, 0))) := (hg3.block bk (Array.getElem?_eq_some_iff.1 H2.out).1 (fun e => ne_ty H2.out ht3 (by decide) (Option.some.inj e))).trans H2.out; have HI3 : Hid (Is F w3 a (R.burnt.lay d k b)) := hi3; have HS3 : Hid (Step F w F w3) := HI2.out.2.trans hs3; clear hi3 hs3 hg3 ht3 H2 HI2 HV2)
    | fail)
  obtain ⟨dg3, dv3, fp3, fc3, h3⟩ := HI3.out
  have HL3 : Hid (Lies F w3 a dg3 dv3 fp3 fc3 (R.burnt.lay d k b)) := h3
  have HT : Hid (w3.heap[a]? = some (.cells #[.slice (some ⟨dg3, 0, none⟩) (R.burnt.lay d k b).C.length (R.burnt.lay d k b).C.length, .int .i64 ((R.burnt.lay d k b).n : Int), .slice fp3 R.burnt.L.length fc3, .int .i64 ((R.burnt.lay d k b).fuse : Int), .bool (R.burnt.lay d k b).off] 64 (0, 0))) := h3.top
  have HFl : Hid (w3.ownsRow 0 79 130 (.slice fp3 R.burnt.L.length fc3) R.burnt.L.length (wrow R.burnt.L)) := h3.fly
  have c2 : w3.cell? ⟨a, 2, none⟩ = some (.slice fp3 R.burnt.L.length fc3) := topCell (j := 2) h3.top rfl
  have HLW : Hid ((wcells ⟨d, k, was, b⟩).length = 130) := wcells_len HLK.out.1 HBL.out.1
  obtain ⟨CW, hCW⟩ : ∃ CW, CW = wcells ⟨d, k, was, b⟩ := ⟨_, rfl⟩
  have HCW : Hid (CW = wcells ⟨d, k, was, b⟩) := hCW
  rw [← hCW] at H3 HLW
  have HRW : Hid (∀ W : World, W.heap[bk]? = some (.cells CW.toArray 79 (0, 0)) → W.rangeAt bk 0 CW) := fun W hW j u hj => by rw [Nat.zero_add]; exact topCell hW (by rw [List.getElem?_toArray]; exact hj)
  have HSW : Hid ((Try.prog.info? 79).map (·.size) = some CW.length) := by rw [HLW.out]; exact Try.sizeWr
  have HFn : Hid (∀ i, (Value.slice fp3 R.burnt.L.length fc3).ownBlock = some i → F i ∧ i ≠ a) := fun i hi => ⟨h3.Ff i hi, fun e => by
    obtain ⟨cc, hcc⟩ := rowBlock h3.fly hi
    exact ne_ty hcc h3.top (by decide) e⟩
  have HFa : Hid (F a) := h3.Fa
  have c2a : (w3.alloc (.cells CW.toArray 79)).cell? ⟨a, 2, none⟩ = some (.slice fp3 R.burnt.L.length fc3) := (World.grownBy_alloc w3 _ none).cell c2 (by simp)
  have FIN : Hid (∀ g5 cap5 w5, w5.ownsRow 0 79 130 (.slice (some ⟨g5, 0, none⟩) (R.burnt.L.length + 1) cap5) (R.burnt.L.length + 1) (wrow R.burnt.L ++ wcells ⟨d, k, was, b⟩) → (w3.alloc (.cells CW.toArray 79)).grownBy w5 (Value.slice fp3 R.burnt.L.length fc3).ownBlock → ((Value.slice fp3 R.burnt.L.length fc3).ownBlock = some g5 ∨ g5 = (w3.alloc (.cells CW.toArray 79)).heap.size) →
      w5.heap[bk]? = some (.cells CW.toArray 79 (0, 0)) ∧ w5.cell? ⟨a, 2, none⟩ = some (.slice fp3 R.burnt.L.length fc3) ∧ w5.frozen? ⟨a, 2, none⟩ = false ∧ (w5.setCell ⟨a, 2, none⟩ (.slice (some ⟨g5, 0, none⟩) (R.burnt.L.length + 1) cap5)).heap[bk]? = some (.cells CW.toArray 79 (0, 0)) ∧
        ∃ F', Is F' (w5.setCell ⟨a, 2, none⟩ (.slice (some ⟨g5, 0, none⟩) (R.burnt.L.length + 1) cap5)) a (R.burnt.fly d k b) ∧ Step F w F' (w5.setCell ⟨a, 2, none⟩ (.slice (some ⟨g5, 0, none⟩) (R.burnt.L.length + 1) cap5))) := by
    intro g5 cap5 w5 o5 gr5 hw5
    have gA : w3.grownBy (w3.alloc (.cells CW.toArray 79)) none := World.grownBy_alloc _ _ none
    have g35 : w3.grownBy w5 (Value.slice fp3 R.burnt.L.length fc3).ownBlock := grown_trans (grown_any gA _) gr5
    have hbk : w5.heap[bk]? = some (.cells CW.toArray 79 (0, 0)) := (g35.block bk (Array.getElem?_eq_some_iff.1 H3.out).1 (fun e => by have := HFB.out _ (HFn.out bk e.symm).1; omega)).trans H3.out
    have ha5 : w5.heap[a]? = w3.heap[a]? := g35.block a (h3.lt a h3.Fa) (fun e => (HFn.out a e.symm).2 rfl)
    have hab : a < bk := HFB.out a HFa.out
    have hlt5 : g5 < w5.heap.size := by
      obtain ⟨cc, hcc⟩ := rowBlock o5 (g := g5) rfl
      exact (Array.getElem?_eq_some_iff.1 hcc).1
    have hokw : (R.burnt.fly d k b).Ok := h3.ok |> fun _ => AM.Raw.Ok.fly HOK.out HON.out.1 HON.out.2 HBL.out.1 HBL.out.2.2
    have hLies := h3.flown (F' := fun i => F i ∨ i = g5) (w1 := w5) (w' := w5.setCell ⟨a, 2, none⟩ (.slice (some ⟨g5, 0, none⟩) (R.burnt.L.length + 1) cap5)) (fun i h => .inl h)
      (fun i h => by rcases h with h | rfl; exact Nat.lt_of_lt_of_le (h3.lt i h) g35.size; exact hlt5) g35 (L' := R.burnt.L ++ [⟨d, k, was, b⟩]) (fp' := some ⟨g5, 0, none⟩) (fc' := cap5)
      (by rw [List.length_append]; simpa [wrow] using o5) (fun i h => .inr (Option.some.inj h).symm) (fun l hl => by rw [HW.out] at hl; exact hokw.L l hl) (by rw [List.length_append]; rfl)
    refine ⟨hbk, ?_, ?_, ?_, fun i => F i ∨ i = g5, ?_, HS3.out.trans ⟨⟨?_, ?_, ?_, ?_, ?_⟩, ?_⟩⟩
    · exact topCell (j := 2) (ha5.trans h3.top) rfl
    · exact topFrozen 2 (ha5.trans h3.top)
    · rw [Below.heap_setCell _ _ _ _ (by show bk ≠ a; omega)]; exact hbk
    · have e : R.burnt.fly d k b = { R.burnt.lay d k b with L := R.burnt.L ++ [⟨d, k, was, b⟩] } := by rw [HW.out]; rfl
      rw [e]
      exact hLies.is
    · exact g35.os
    · exact g35.tape
    · exact g35.output
    · have := g35.size; simpa using this
    · intro i hi hn
      rw [Below.heap_setCell _ _ _ _ (by intro e; rw [e] at hn; exact hn HFa.out)]
      exact g35.block i hi (fun e => hn (HFn.out i e.symm).1)
    · intro i hi
      rcases hi with h | rfl
      · exact .inl h
      · rcases hw5 with h | h
        · exact .inl (HFn.out _ h).1
        · exact .inr (by rw [h]; simp)
  clear hCW h3 HI3
  go_wp2_with fail
  refine wp_region_noPanic ?_
  refine wp_region_held_drew (S := fun w' => w'.rangeAt bk 0 CW) (by kernel_rfl) ?_ (fun hHeld => ?_)
  · exact HRW.out _ H3.out
  refine wpAnyH_take (i := 0) (v := ?_) rfl (by kernel_rfl) (by kernel_rfl) (by kernel_rfl) (fun _ _ _ h => h) (Or.inl ⟨by rfl, ?_⟩) (by assumption) ?_
  rotate_left
  · intro w hSw; (try dsimp only at hSw); first | (go_simp; done) | (go_simp; with_reducible rfl)
  simp only [Act.put, List.getElem_toArray, List.getElem_cons_succ, List.getElem_cons_zero, List.setIfInBounds_toArray, List.set_cons_zero, List.set_cons_succ]
  refine wpAnyH_take (i := 1) (v := ?_) rfl (by kernel_rfl) (by kernel_rfl) (by kernel_rfl) (fun _ _ _ h => h) (Or.inl ⟨by rfl, ?_⟩) (by assumption) ?_
  rotate_left
  · intro w hSw; (try dsimp only at hSw); first | (go_simp; done) | (go_simp; with_reducible rfl)
  simp only [Act.put, List.getElem_toArray, List.getElem_cons_succ, List.getElem_cons_zero, List.setIfInBounds_toArray, List.set_cons_zero, List.set_cons_succ]
  refine wpAnyH_take (i := 2) (v := ?_) rfl (by kernel_rfl) (by kernel_rfl) (by kernel_rfl) (fun _ _ _ h => h) (Or.inl ⟨by rfl, ?_⟩) (by assumption) ?_
  rotate_left
  · intro w hSw; (try dsimp only at hSw); first | (go_simp; done) | (go_simp; with_reducible rfl)
  simp only [Act.put, List.getElem_toArray, List.getElem_cons_succ, List.getElem_cons_zero, List.setIfInBounds_toArray, List.set_cons_zero, List.set_cons_succ]
  refine wpAnyH_take (i := 3) (v := ?_) rfl (by kernel_rfl) (by kernel_rfl) (by kernel_rfl) (fun _ _ _ h => h) (Or.inl ⟨by rfl, ?_⟩) (by assumption) ?_
  rotate_left
  · intro w hSw; (try dsimp only at hSw); first | (go_simp; done) | (go_simp; with_reducible rfl)
  simp only [Act.put, List.getElem_toArray, List.getElem_cons_succ, List.getElem_cons_zero, List.setIfInBounds_toArray, List.set_cons_zero, List.set_cons_succ]
  refine wpAnyH_take (i := 5) (v := .agg CW.toArray) rfl (by kernel_rfl) (by kernel_rfl) (by kernel_rfl) (fun _ _ _ h => h) (yieldsIf_load_mid (by rfl) 79 (.tmp 10) rfl bk 0 rfl CW _ (fun w h => h) Try.underlying79 rfl HSW.out) (by assumption) ?_
  simp only [Act.put, List.getElem_toArray, List.getElem_cons_succ, List.getElem_cons_zero, List.setIfInBounds_toArray, List.set_cons_zero, List.set_cons_succ]
  refine wpAnyH_ready (rs := [4, 6]) (by kernel_rfl) (by simp) ?_
  refine AllReadyH.cons rfl (fun K hK => ?_) (AllReadyH.cons rfl (fun K hK => ?_) AllReadyH.nil)
  · have c2d : w3.drew.cell? ⟨a, 2, none⟩ = some (.slice fp3 R.burnt.L.length fc3) := c2
    go_simp
    refine hK.out _ _ (HRW.out _ H3.out) (fun hHeld => ?_)
    clear hK K c2d
    refine wpAnyH_ready (rs := [6]) (by kernel_rfl) (by simp) ?_
    refine AllReadyH.cons rfl (fun K hK => ?_) AllReadyH.nil
    refine step_buildSlice_wr (by rfl) (.tmp 52) (by rfl) (by rfl) (by rw [HCW.out]) HLK.out.1 HBL.out.1 ?_
    refine hK.out _ _ (HRW.out _ (heap_old _ _ H3.out)) (fun hHeld => ?_)
    clear hK K
    simp only [Act.put, List.getElem_toArray, List.getElem_cons_succ, List.getElem_cons_zero, List.setIfInBounds_toArray, List.set_cons_zero, List.set_cons_succ]
    refine wpAnyH_ready (rs := [7]) (by kernel_rfl) (by simp) ?_
    refine AllReadyH.cons rfl (fun K hK => ?_) AllReadyH.nil
    refine step_append_wr (by rfl) _ _ (by rfl) (.slice fp3 R.burnt.L.length fc3) (g := w3.heap.size) (l := ⟨d, k, was, b⟩) (by rfl) (by rfl) (HFl.out.alloc _) (by rw [← HCW.out]; exact heap_alloc_new w3 _) HLK.out.1 HBL.out.1 hL ?_
    intro g5 cap5 w5 o5 gr5 hw5
    obtain ⟨hb5, c5, f5, hb6, hfin⟩ := FIN.out g5 cap5 w5 o5 ⟨gr5.os, gr5.tape, gr5.output, gr5.size, gr5.block⟩ hw5
    have H6 : Hid ((w5.setCell ⟨a, 2, none⟩ (.slice (some ⟨g5, 0, none⟩) (R.burnt.L.length + 1) cap5)).heap[bk]? = some (.cells CW.toArray 79 (0, 0))) := hb6
    have HFIN : Hid (∃ F', Is F' (w5.setCell ⟨a, 2, none⟩ (.slice (some ⟨g5, 0, none⟩) (R.burnt.L.length + 1) cap5)) a (R.burnt.fly d k b) ∧ Step F w F' (w5.setCell ⟨a, 2, none⟩ (.slice (some ⟨g5, 0, none⟩) (R.burnt.L.length + 1) cap5))) := hfin
    refine hK.out _ _ (HRW.out _ hb5) (fun hHeld => ?_)
    clear hK K o5 gr5 hw5 hb5 hb6 hfin FIN
    simp only [Act.put, List.getElem_toArray, List.getElem_cons_succ, List.getElem_cons_zero, List.setIfInBounds_toArray, List.set_cons_zero, List.set_cons_succ]
    refine wpAnyH_take (i := 8) (v := ?_) rfl (by kernel_rfl) (by kernel_rfl) (by kernel_rfl) (fun _ _ _ h => h) (Or.inl ⟨by rfl, ?_⟩) (by assumption) ?_
    rotate_left
    · intro w hSw; (try dsimp only at hSw); first | (go_simp; done) | (go_simp; with_reducible rfl)
    simp only [Act.put, List.getElem_toArray, List.getElem_cons_succ, List.getElem_cons_zero, List.setIfInBounds_toArray, List.set_cons_zero, List.set_cons_succ]
    refine wpAnyH_take (i := 9) (v := ?_) rfl (by kernel_rfl) (by kernel_rfl) (by kernel_rfl) (fun _ _ _ h => h) (Or.inl ⟨by rfl, ?_⟩) (by assumption) ?_
    rotate_left
    · intro w hSw; (try dsimp only at hSw); first | (go_simp; done) | (go_simp; with_reducible rfl)
    simp only [Act.put, List.getElem_toArray, List.getElem_cons_succ, List.getElem_cons_zero, List.setIfInBounds_toArray, List.set_cons_zero, List.set_cons_succ]
    refine wpAnyH_ready (rs := [10]) (by kernel_rfl) (by simp) ?_
    refine AllReadyH.cons rfl (fun K hK => ?_) AllReadyH.nil
    go_simp
    refine hK.out _ _ (HRW.out _ H6.out) (fun hHeld => ?_)
    clear hK K
    refine wpAnyH_done (by kernel_rfl) ?_ _
    refine NoPanic.normal ?_
    go_wp2
    go_ret
    exact ⟨rfl, HFIN.out⟩
  · refine step_buildSlice_wr (by rfl) (.tmp 52) (by rfl) (by rfl) (by rw [HCW.out]) HLK.out.1 HBL.out.1 ?_
    refine hK.out _ _ (HRW.out _ (heap_old _ _ H3.out)) (fun hHeld => ?_)
    clear hK K
    refine wpAnyH_ready (rs := [4]) (by kernel_rfl) (by simp) ?_
    refine AllReadyH.cons rfl (fun K hK => ?_) AllReadyH.nil
    go_simp
    refine hK.out _ _ (HRW.out _ (heap_old _ _ H3.out)) (fun hHeld => ?_)
    clear hK K
    try simp only [Act.put, List.getElem_toArray, List.getElem_cons_succ, List.getElem_cons_zero, List.setIfInBounds_toArray, List.set_cons_zero, List.set_cons_succ]
    refine wpAnyH_ready (rs := [7]) (by kernel_rfl) (by simp) ?_
    refine AllReadyH.cons rfl (fun K hK => ?_) AllReadyH.nil
    refine step_append_wr (by rfl) _ _ (by rfl) (.slice fp3 R.burnt.L.length fc3) (g := w3.heap.size) (l := ⟨d, k, was, b⟩) (by rfl) (by rfl) (HFl.out.alloc _) (by rw [← HCW.out]; exact heap_alloc_new w3 _) HLK.out.1 HBL.out.1 hL ?_
    intro g5 cap5 w5 o5 gr5 hw5
    obtain ⟨hb5, c5, f5, hb6, hfin⟩ := FIN.out g5 cap5 w5 o5 ⟨gr5.os, gr5.tape, gr5.output, gr5.size, gr5.block⟩ hw5
    have H6 : Hid ((w5.setCell ⟨a, 2, none⟩ (.slice (some ⟨g5, 0, none⟩) (R.burnt.L.length + 1) cap5)).heap[bk]? = some (.cells CW.toArray 79 (0, 0))) := hb6
    have HFIN : Hid (∃ F', Is F' (w5.setCell ⟨a, 2, none⟩ (.slice (some ⟨g5, 0, none⟩) (R.burnt.L.length + 1) cap5)) a (R.burnt.fly d k b) ∧ Step F w F' (w5.setCell ⟨a, 2, none⟩ (.slice (some ⟨g5, 0, none⟩) (R.burnt.L.length + 1) cap5))) := hfin
    refine hK.out _ _ (HRW.out _ hb5) (fun hHeld => ?_)
    clear hK K o5 gr5 hw5 hb5 hb6 hfin FIN
    simp only [Act.put, List.getElem_toArray, List.getElem_cons_succ, List.getElem_cons_zero, List.setIfInBounds_toArray, List.set_cons_zero, List.set_cons_succ]
    refine wpAnyH_take (i := 8) (v := ?_) rfl (by kernel_rfl) (by kernel_rfl) (by kernel_rfl) (fun _ _ _ h => h) (Or.inl ⟨by rfl, ?_⟩) (by assumption) ?_
    rotate_left
    · intro w hSw; (try dsimp only at hSw); first | (go_simp; done) | (go_simp; with_reducible rfl)
    simp only [Act.put, List.getElem_toArray, List.getElem_cons_succ, List.getElem_cons_zero, List.setIfInBounds_toArray, List.set_cons_zero, List.set_cons_succ]
    refine wpAnyH_take (i := 9) (v := ?_) rfl (by kernel_rfl) (by kernel_rfl) (by kernel_rfl) (fun _ _ _ h => h) (Or.inl ⟨by rfl, ?_⟩) (by assumption) ?_
    rotate_left
    · intro w hSw; (try dsimp only at hSw); first | (go_simp; done) | (go_simp; with_reducible rfl)
    simp only [Act.put, List.getElem_toArray, List.getElem_cons_succ, List.getElem_cons_zero, List.setIfInBounds_toArray, List.set_cons_zero, List.set_cons_succ]
    refine wpAnyH_ready (rs := [10]) (by kernel_rfl) (by simp) ?_
    refine AllReadyH.cons rfl (fun K hK => ?_) AllReadyH.nil
    go_simp
    refine hK.out _ _ (HRW.out _ H6.out) (fun hHeld => ?_)
    clear hK K
    refine wpAnyH_done (by kernel_rfl) ?_ _
    refine NoPanic.normal ?_
    go_wp2
    go_ret
    exact ⟨rfl, HFIN.out⟩
end
end Go.Proofs.Ytfmlohedebdomaa
