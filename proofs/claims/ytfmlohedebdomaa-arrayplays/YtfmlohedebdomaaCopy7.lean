/- The contract of Copy. -/
import Derived.Test.YtfmlohedebdomaaCopy6
import Derived.Deep.RegionHeld3
set_option linter.unusedSimpArgs false
set_option linter.unusedVariables false
namespace Go.Proofs.Ytfmlohedebdomaa
open Go.RowKit

/-- A copy that has its first k drives. -/
structure Half (w0 w : World) (a2 dg2 : Nat) (dv : List Value) (k : Nat) (R : AM.Raw) (fp : Option Addr) (fc : Nat) : Prop where
  top : w.heap[a2]? = some (.cells #[.slice (some ⟨dg2, 0, none⟩) R.C.length R.C.length, .int .i64 (R.n : Int), .slice fp R.L.length fc, .int .i64 (R.fuse : Int), .bool R.off] 64 (0, 0))
  dsk : w.heap[dg2]? = some (.cells dv.toArray 66 (0, 0))
  len : dv.length = R.C.length
  a_lo : w0.heap.size ≤ a2
  d_lo : w0.heap.size ≤ dg2
  don : ∀ (i : Nat) (v : Value), dv[i]? = some v → i < k → (R.C[i]? = some none ∧ v = .slice none 0 0) ∨ ∃ xs, R.C[i]? = some (some xs) ∧ w.ownsRow w0.heap.size 77 64 v R.n (xs.map bv)
  ap : ∀ (i j : Nat) (u v : Value), i < k → j < k → dv[i]? = some u → dv[j]? = some v → ∀ g, u.ownBlock = some g → v.ownBlock = some g → i = j
  grown : w0.grownBy w none

section
variable {w0 w : World} {a2 dg2 : Nat} {dv : List Value} {k : Nat} {R : AM.Raw} {fp : Option Addr} {fc : Nat}
theorem rows_blk {w : World} {B e size n : Nat} {v : Value} {xs : List Value} (h : w.ownsRow B e size v n xs) {g : Nat} (hg : v.ownBlock = some g) : B ≤ g ∧ g < w.heap.size ∧ ∃ c, w.heap[g]? = some (.cells c e (0, 0)) := by
  rcases h.2 with ⟨rfl, _⟩ | ⟨g', cap, cur, rfl, h1, h2, _⟩
  · cases hg
  · obtain rfl : g' = g := Option.some.inj hg
    exact ⟨h1, (Array.getElem?_eq_some_iff.1 h2).1, cur, h2⟩
theorem Half.a_lt (h : Half w0 w a2 dg2 dv k R fp fc) : a2 < w.heap.size := (Array.getElem?_eq_some_iff.1 h.top).1
theorem Half.d_lt (h : Half w0 w a2 dg2 dv k R fp fc) : dg2 < w.heap.size := (Array.getElem?_eq_some_iff.1 h.dsk).1
theorem Half.keep (h : Half w0 w a2 dg2 dv k R fp fc) {w' : World} (g : w.grownBy w' none) : Half w0 w' a2 dg2 dv k R fp fc := by
  refine ⟨by rw [g.block a2 h.a_lt (by simp)]; exact h.top, by rw [g.block dg2 h.d_lt (by simp)]; exact h.dsk, h.len, h.a_lo, h.d_lo, fun i v hv hi => ?_, h.ap, grown_trans h.grown g⟩
  rcases h.don i v hv hi with h1 | ⟨xs, h1, h2⟩
  · exact .inl h1
  · exact .inr ⟨xs, h1, ownsRow_same h2 (fun b hb => g.block b (rows_blk h2 hb).2.1 (by simp))⟩
theorem Half.put (h : Half w0 w a2 dg2 dv k R fp fc) (hk : k < R.C.length) {w1 : World} (g1 : w.grownBy w1 none) {v : Value}
    (hv : (R.C[k]? = some none ∧ v = .slice none 0 0) ∨ ∃ xs, R.C[k]? = some (some xs) ∧ w1.ownsRow w.heap.size 77 64 v R.n (xs.map bv)) : Half w0 (w1.setCell ⟨dg2, k, none⟩ v) a2 dg2 (dv.set k v) (k + 1) R fp fc := by
  have h1 := h.keep g1
  have hdl : k < dv.length := by rw [h.len]; exact hk
  have hb : ∀ i, i ≠ dg2 → (w1.setCell ⟨dg2, k, none⟩ v).heap[i]? = w1.heap[i]? := fun i hne => Below.heap_setCell _ _ _ _ hne
  have hsplit : ∀ (i : Nat) (u : Value), (dv.set k v)[i]? = some u → i < k + 1 → (i = k ∧ u = v) ∨ (i < k ∧ dv[i]? = some u) := fun i u hu hi => by
    by_cases c : k = i
    · subst c
      rw [List.getElem?_set, if_pos rfl, if_pos hdl] at hu
      exact .inl ⟨rfl, (Option.some.inj hu).symm⟩
    · rw [List.getElem?_set, if_neg c] at hu
      exact .inr ⟨by omega, hu⟩
  have hnew : ∀ g, v.ownBlock = some g → w.heap.size ≤ g := fun g hg => by
    rcases hv with ⟨_, rfl⟩ | ⟨xs, _, h2⟩
    · cases hg
    · exact (rows_blk h2 hg).1
  have hold : ∀ (i : Nat) (u : Value), dv[i]? = some u → i < k → ∀ g, u.ownBlock = some g → g < w.heap.size := fun i u hu hi g hg => by
    rcases h.don i u hu hi with ⟨_, rfl⟩ | ⟨xs, _, h2⟩
    · cases hg
    · exact (rows_blk h2 hg).2.1
  refine ⟨?_, ?_, by simpa using h.len, h.a_lo, h.d_lo, fun i u hu hi => ?_, fun i j u u' hi hj hu hu' g hg hg' => ?_, ?_⟩
  · rw [hb a2 (ne_ty h1.top h1.dsk (by decide))]; exact h1.top
  · rw [heap_setCell_same _ _ _ _ _ _ h1.dsk]; simp
  · rcases hsplit i u hu hi with ⟨rfl, rfl⟩ | ⟨hlt, hu⟩
    · rcases hv with h2 | ⟨xs, h2, h3⟩
      · exact .inl h2
      · refine .inr ⟨xs, h2, ownsRow_down (ownsRow_same h3 (fun g hg => hb g ?_)) h.grown.size⟩
        obtain ⟨_, _, c, hc⟩ := rows_blk h3 hg
        exact ne_ty hc h1.dsk (by decide)
    · rcases h1.don i u hu hlt with h2 | ⟨xs, h2, h3⟩
      · exact .inl h2
      · refine .inr ⟨xs, h2, ownsRow_same h3 (fun g hg => hb g ?_)⟩
        obtain ⟨_, _, c, hc⟩ := rows_blk h3 hg
        exact ne_ty hc h1.dsk (by decide)
  · rcases hsplit i u hu hi with ⟨e1, e2⟩ | ⟨hlt, hu2⟩
    · rcases hsplit j u' hu' hj with ⟨e3, e4⟩ | ⟨hlt', hu3⟩
      · omega
      · have := hnew g (by rw [← e2]; exact hg); have := hold j u' hu3 hlt' g hg'; omega
    · rcases hsplit j u' hu' hj with ⟨e3, e4⟩ | ⟨hlt', hu3⟩
      · have := hnew g (by rw [← e4]; exact hg'); have := hold i u hu2 hlt g hg; omega
      · exact h.ap i j u u' hlt hlt' hu2 hu3 g hg hg'
  · exact gb_setCell h1.grown h.d_lo v
theorem Half.fin (h : Half w0 w a2 dg2 dv R.C.length R fp fc) (hok : R.Ok) {w1 : World} (g1 : w.grownBy w1 none) {fp2 : Option Addr} {fc2 : Nat} (hrow : w1.ownsRow w0.heap.size 79 130 (.slice fp2 R.L.length fc2) R.L.length (wrow R.L)) :
    Is (fun i => w0.heap.size ≤ i ∧ i < w1.heap.size) (w1.setCell ⟨a2, 2, none⟩ (.slice fp2 R.L.length fc2)) a2 R ∧ w0.grownBy (w1.setCell ⟨a2, 2, none⟩ (.slice fp2 R.L.length fc2)) none := by
  have h1 := h.keep g1
  have hb : ∀ i, i ≠ a2 → (w1.setCell ⟨a2, 2, none⟩ (.slice fp2 R.L.length fc2)).heap[i]? = w1.heap[i]? := fun i hne => Below.heap_setCell _ _ _ _ hne
  have hdi : ∀ (i : Nat) (v : Value), dv[i]? = some v → i < R.C.length := fun i v hv => by
    have := (List.getElem?_eq_some_iff.1 hv).1
    rw [h.len] at this
    exact this
  refine ⟨⟨dg2, dv, fp2, fc2, ⟨hok, fun i hi => by simpa using hi.2, ?_, ?_, h.len, fun i v hv => ?_, ?_, ⟨h1.a_lo, h1.a_lt⟩, ⟨h1.d_lo, h1.d_lt⟩, fun i v hv g hg => ?_, fun g hg => ?_, fun i j u v hu hv => h.ap i j u v (hdi i u hu) (hdi j v hv) hu hv⟩⟩, gb_setCell h1.grown h.a_lo _⟩
  · rw [heap_setCell_same _ _ _ _ _ _ h1.top]; rfl
  · rw [hb dg2 (ne_ty h1.dsk h1.top (by decide))]; exact h1.dsk
  · rcases h1.don i v hv (hdi i v hv) with h2 | ⟨xs, h2, h3⟩
    · exact .inl h2
    · refine .inr ⟨xs, h2, ownsRow_down (ownsRow_same h3 (fun g hg => hb g ?_)) (Nat.zero_le _)⟩
      obtain ⟨_, _, c, hc⟩ := rows_blk h3 hg
      exact ne_ty hc h1.top (by decide)
  · refine ownsRow_down (ownsRow_same hrow (fun g hg => hb g ?_)) (Nat.zero_le _)
    obtain ⟨_, _, c, hc⟩ := rows_blk hrow hg
    exact ne_ty hc h1.top (by decide)
  · rcases h1.don i v hv (hdi i v hv) with ⟨_, rfl⟩ | ⟨xs, h2, h3⟩
    · cases hg
    · exact ⟨(rows_blk h3 hg).1, (rows_blk h3 hg).2.1⟩
  · exact ⟨(rows_blk hrow hg).1, (rows_blk hrow hg).2.1⟩
end
theorem zeroArr : (Try.prog.info? 64).map (fun i => (i.zero, i.size, i.bytes)) = some (some (.agg #[.slice none 0 0, .int .i64 0, .slice none 0 0, .int .i64 0, .bool false]), 5, 72) := by kernel_rfl
theorem run_zeroArr (w : World) : (zeroValue 64).run Try.prog w = .ok (.agg #[.slice none 0 0, .int .i64 0, .slice none 0 0, .int .i64 0, .bool false]) w := by
  obtain ⟨i, hi, h0, h1, h2⟩ := info_parts zeroArr
  simp [zeroValue, typeInfo, hi, h0]
theorem Try.sizeArr : (Try.prog.info? 64).map (·.size) = some 5 := by kernel_rfl

theorem wpList_load_arr {w : World} {ops : Array Oper} {rest : List Oper} {op : Oper} {a : Act} {Q : Exit → Act → World → Prop} (hgd : op.guard = none) (x : Operand) (ho : op.op = .load 64 x) {b : Nat} {AR : Array Value} (hx : a.eval x = .pointer (some ⟨b, 0, none⟩)) (hr : w.rangeAt b 0 AR.toList) (hs : (Try.prog.info? 64).map (·.size) = some AR.toList.length)
    (h : wpList Try.prog ops Q rest (a.put op.dst (.agg AR)) w) : wpList Try.prog ops Q (op :: rest) a w := by
  refine wpList_load_mid hgd 64 x ho b 0 hx AR.toList _ hr Try.underlying64 rfl hs ?_
  simpa using h
set_option maxRecDepth 100000 in
set_option maxHeartbeats 1600000 in
theorem copy_yes {F : Nat → Prop} {w : World} {a : Nat} {R : AM.Raw} (h : Is F w a R) (hL : R.L.length ≤ 1000000) : Calls Try.prog 28 #[ptr a] w fun e w' => ∃ a' F', e = .returned (ptr a') ∧ Is F' w' a' R ∧ (∀ i, F' i → w.heap.size ≤ i) ∧ w.grownBy w' none := by
  have HI : Hid (Is F w a R) := h
  have HLL : Hid (R.L.length ≤ 1000000) := hL
  obtain ⟨dg, dv, fp, fc, h⟩ := h
  have HLI : Hid (Lies F w a dg dv fp fc R) := h
  have hN := h.ok.d2
  have c0 : w.cell? ⟨a, 0, none⟩ = some (.slice (some ⟨dg, 0, none⟩) R.C.length R.C.length) := topCell (j := 0) h.top rfl
  have c1 : w.cell? ⟨a, 1, none⟩ = some (.int .i64 (R.n : Int)) := topCell (j := 1) h.top rfl
  have c2 : w.cell? ⟨a, 2, none⟩ = some (.slice fp R.L.length fc) := topCell (j := 2) h.top rfl
  have c3 : w.cell? ⟨a, 3, none⟩ = some (.int .i64 (R.fuse : Int)) := topCell (j := 3) h.top rfl
  have c4 : w.cell? ⟨a, 4, none⟩ = some (.bool R.off) := topCell (j := 4) h.top rfl
  have hmd : ∀ W : World, (Instr.makeSlice 61 (.int .i64 (R.C.length : Int)) (.int .i64 (R.C.length : Int))).run Try.prog W = .ok (.slice (some ⟨W.heap.size, 0, none⟩) R.C.length R.C.length) (W.alloc (.cells (List.replicate R.C.length (Value.slice none 0 0)).toArray 66)) := fun W => run_make_drvs W hN
  obtain ⟨AR, hAR⟩ : ∃ AR : Array Value, AR = #[.slice (some ⟨dg, 0, none⟩) R.C.length R.C.length, .int .i64 (R.n : Int), .slice fp R.L.length fc, .int .i64 (R.fuse : Int), .bool R.off] := ⟨_, rfl⟩
  obtain ⟨ZD, hZD⟩ : ∃ ZD : Array Value, ZD = (List.replicate R.C.length (Value.slice none 0 0)).toArray := ⟨_, rfl⟩
  rw [← hZD] at hmd
  have zA := run_zeroArr
  obtain ⟨ZR, hZR⟩ : ∃ ZR : Array Value, ZR = #[.slice none 0 0, .int .i64 0, .slice none 0 0, .int .i64 0, .bool false] := ⟨_, rfl⟩
  rw [← hZR] at zA
  have HZR : Hid (ZR.size = 5) := by show _ = _; rw [hZR]; rfl
  have HAR : Hid (AR = #[.slice (some ⟨dg, 0, none⟩) R.C.length R.C.length, .int .i64 (R.n : Int), .slice fp R.L.length fc, .int .i64 (R.fuse : Int), .bool R.off]) := hAR
  have HARS : Hid (AR.size = 5 ∧ AR.all (·.oneCell') = true) := by
    rw [hAR]
    refine ⟨rfl, ?_⟩
    simp [Value.oneCell']
  have HINF : Hid ((Try.prog.info? 64).map (·.size) = some AR.size) := by rw [HARS.out.1]; exact Try.sizeArr
  have HRG : Hid (w.rangeAt a 0 AR.toList) := fun j u hj => by
    rw [Nat.zero_add]
    exact topCell h.top (by rw [← hAR]; simpa using hj)
  have HSZ : Hid ((Try.prog.info? 64).map (·.size) = some AR.toList.length) := by rw [Array.length_toList]; exact HINF.out
  -- the world behind the head
  obtain ⟨W3, hW3⟩ : ∃ W3 : World, W3 = (w.alloc (.cells (AR.setIfInBounds 0 (.slice (some ⟨w.heap.size + 1, 0, none⟩) R.C.length R.C.length)) 64)).alloc (.cells ZD 66) := ⟨_, rfl⟩
  have HH : Hid (Half w W3 w.heap.size (w.heap.size + 1) (List.replicate R.C.length (Value.slice none 0 0)) 0 R fp fc) := by
    have g1 : w.grownBy W3 none := by rw [hW3]; exact gb_alloc (World.grownBy_alloc _ _ none) _
    refine ⟨?_, ?_, by simp, Nat.le_refl _, by omega, fun i v hv hi => by omega, fun i j u v hi => by omega, g1⟩
    · rw [hW3, heap_old _ _ (heap_alloc_new w _), hAR]; rfl
    · rw [hW3, hZD]
      exact heap_new _ _ _ (by simp)
  have HFN : Hid (∀ k : Nat, k < R.C.length → ∃ v, w.cell? ⟨dg, k, none⟩ = some v ∧ ((R.C[k]? = some none ∧ v = .slice none 0 0) ∨ ∃ xs g c, R.C[k]? = some (some xs) ∧ v = .slice (some ⟨g, 0, none⟩) R.n c ∧ w.ownsRow 0 77 64 v R.n (xs.map bv))) := fun k hk => by
    have hdl : k < dv.length := by rw [h.len]; exact hk
    have hdv : dv[k]? = some dv[k] := List.getElem?_eq_getElem hdl
    refine ⟨dv[k], topCell h.dsk (by rw [List.getElem?_toArray]; exact hdv), ?_⟩
    rcases h.drv k _ hdv with h1 | ⟨xs, h1, h2⟩
    · exact .inl h1
    · rcases h2.2 with ⟨_, e2⟩ | ⟨g, c, cur, e, _⟩
      · have := h.ok.n1; omega
      · exact .inr ⟨xs, g, c, h1, e, h2⟩
  have ha3 : W3.cell? ⟨a, 0, none⟩ = some (.slice (some ⟨dg, 0, none⟩) R.C.length R.C.length) := HH.out.grown.cell c0 (by simp)
  have HOK : Hid (R.Ok) := h.ok
  have hn4 := h.ok.n2
  have hAL : Hid (a < w.heap.size) := h.lt a h.Fa
  have ca0 : (w.alloc (.cells AR 64)).cell? ⟨a, 0, none⟩ = some (.slice (some ⟨dg, 0, none⟩) R.C.length R.C.length) := (World.grownBy_alloc w _ none).cell c0 (by simp)
  have ht : ((w.alloc (.cells AR 64)).alloc (.cells ZD 66)).heap[w.heap.size]? = some (.cells AR 64 (0, 0)) := heap_old _ _ (heap_alloc_new w _)
  have cb0 : ((w.alloc (.cells AR 64)).alloc (.cells ZD 66)).cell? ⟨w.heap.size, 0, none⟩ = some (.slice (some ⟨dg, 0, none⟩) R.C.length R.C.length) := topCell ht (by rw [hAR]; rfl)
  have fb0 := topFrozen 0 ht
  have HW3 : Hid (W3 = (w.alloc (.cells (AR.setIfInBounds 0 (.slice (some ⟨w.heap.size + 1, 0, none⟩) R.C.length R.C.length)) 64)).alloc (.cells ZD 66)) := hW3
  rw [hW3] at ha3
  obtain ⟨N, hNe⟩ : ∃ N, N = R.C.length := ⟨_, rfl⟩
  have HN : Hid (N = R.C.length) := hNe
  rw [← hNe] at c0 hmd ha3 ca0 cb0 hN HW3
  have HC2 : Hid (w.cell? ⟨a, 2, none⟩ = some (.slice fp R.L.length fc)) := c2
  clear h hL hAR hZD hZR hW3 ht hNe c1 c2 c3 c4
  go_enter Try.func28, Try.ntmps28
  go_wp2_with (first
    | (go_at_call 49; refine (made_yes HI.out).mono ?_; rintro e w1 ⟨rfl, hw⟩; obtain rfl := hw.symm; clear hw)
    | (refine wpList_load_arr rfl (.tmp 10) rfl rfl HRG.out HSZ.out ?_)
    | (refine wpList_store_row rfl 64 (.tmp 3) (.tmp 11) rfl w.heap.size AR rfl rfl 64 ZR (heap_alloc_new w _) HINF.out (by rw [HZR.out, HARS.out.1]) HARS.out.2 ?_; rw [World.setRow_alloc_new])
    | fail)
  rw [← HW3.out]
  clear ca0 cb0 fb0 ha3 HW3 HRG HSZ hmd zA HINF HARS HZR HAR
  obtain ⟨a2, ha2⟩ : ∃ a2, a2 = w.heap.size := ⟨_, rfl⟩
  obtain ⟨d2, hd2⟩ : ∃ d2, d2 = w.heap.size + 1 := ⟨_, rfl⟩
  rw [← hd2, ← ha2] at HH
  rw [← ha2]
  clear ha2 hd2
  go_loopw [24] (fun ti wr => ∃ k : Nat, k ≤ N ∧ ti = .int .i64 (k : Int) ∧ Hid (∃ dv2, Half w wr a2 d2 dv2 k R fp fc)) (fun ti _ => N - (intOf ti).toNat)
  case atStart => exact ⟨0, by omega, rfl, _, HH.out⟩
  case round =>
    clear HH
    obtain ⟨k, hk, rfl, HX⟩ := hrel
    by_cases hlt : k < N
    · have i1 : (k : Int) < (N : Int) := by omega
      obtain ⟨dv2, hh⟩ := HX.out
      have hkN : k < R.C.length := by rw [← HN.out]; exact hlt
      have HKN : Hid (k < R.C.length) := hkN
      have HH : Hid (Half w wr a2 d2 dv2 k R fp fc) := hh
      have hkd : k < dv2.length := by rw [hh.len]; exact hkN
      obtain ⟨ov, hov⟩ : ∃ ov, ov = dv2[k] := ⟨_, rfl⟩
      have HCO : Hid (∀ W, wr.grownBy W none → W.cell? ⟨d2, k, none⟩ = some ov ∧ W.frozen? ⟨d2, k, none⟩ = false) := fun W g => ⟨topCell (hh.keep g).dsk (by rw [List.getElem?_toArray, hov]; exact List.getElem?_eq_getElem hkd), topFrozen k (hh.keep g).dsk⟩
      have HA0 : Hid (∀ W, wr.grownBy W none → W.cell? ⟨a2, 0, none⟩ = some (.slice (some ⟨d2, 0, none⟩) N N)) := fun W g => by rw [HN.out]; exact topCell (j := 0) (hh.keep g).top rfl
      have HAS : Hid (∀ W v, wr.grownBy W none → (W.setCell ⟨d2, k, none⟩ v).cell? ⟨a2, 0, none⟩ = some (.slice (some ⟨d2, 0, none⟩) N N)) := fun W v g => by
        rw [World.cell?_setCell_far _ _ _ _ (by show d2 ≠ a2; exact ne_ty hh.dsk hh.top (by decide))]
        exact HA0.out W g
      obtain ⟨fv, cfv, hfv⟩ := HFN.out k hkN
      have cfw : wr.cell? ⟨dg, k, none⟩ = some fv := hh.grown.cell cfv (by simp)
      have HN4 : Hid (R.n ≤ 4096) := hn4
      rcases hfv with ⟨hC, rfl⟩ | ⟨xs, g, c, hC, rfl, how⟩
      · clear hh hkN hkd hov cfv HX
        go_wp2_with fail
        go_region_held3 (fun w' => w'.cell? ⟨a2, 0, none⟩ = some (.slice (some ⟨d2, 0, none⟩) N N)) (first | exact HA0.out _ (by first | exact World.grownBy.refl _ _ | exact gb_drew (World.grownBy.refl _ _) | exact gb_drew (gb_drew (World.grownBy.refl _ _))) | exact HA0.out _ HGF.out | exact HA0.out _ (gb_drew HGF.out) | exact HAS.out _ _ HGF.out | exact HAS.out _ _ (gb_drew HGF.out))
          ((go_at_call 51; refine (clone_drv_nil _).mono ?_; rintro e w8 ⟨rfl, hw⟩; have HGF : Hid (wr.grownBy w8 none) := (by rw [hw]; exact (by first | exact World.grownBy.refl _ _ | exact gb_drew (World.grownBy.refl _ _) | exact gb_drew (gb_drew (World.grownBy.refl _ _)))); clear hw; have co := (HCO.out _ HGF.out).1; have fo := (HCO.out _ HGF.out).2; have HP : Hid (Half w (w8.setCell ⟨d2, k, none⟩ (.slice none 0 0)) a2 d2 (dv2.set k (.slice none 0 0)) (k + 1) R fp fc) := HH.out.put HKN.out HGF.out (.inl ⟨hC, rfl⟩)))
        go_wp2
        go_roundw
        case rel => exact ⟨k + 1, by omega, by go_num, _, by first | exact HP.out | exact HP.out.keep (grown_drewN _ 1)⟩
        case measure => simp [intOf]; omega
      · have HOW : Hid (w.ownsRow 0 77 64 (.slice (some ⟨g, 0, none⟩) R.n c) R.n (xs.map bv)) := how
        have HOB : Hid (∀ W, wr.grownBy W none → ∀ b, (Value.slice (some ⟨g, 0, none⟩) R.n c).ownBlock = some b → W.heap[b]? = w.heap[b]?) := fun W gw b hb => (grown_trans HH.out.grown gw).block b (rows_blk how hb).2.1 (by simp)
        clear hh hkN hkd hov cfv HX how
        go_wp2_with fail
        go_region_held3 (fun w' => w'.cell? ⟨a2, 0, none⟩ = some (.slice (some ⟨d2, 0, none⟩) N N)) (first | exact HA0.out _ (by first | exact World.grownBy.refl _ _ | exact gb_drew (World.grownBy.refl _ _) | exact gb_drew (gb_drew (World.grownBy.refl _ _))) | exact HA0.out _ HGF.out | exact HA0.out _ (gb_drew HGF.out) | exact HAS.out _ _ HGF.out | exact HAS.out _ _ (gb_drew HGF.out))
          ((go_at_call 51; refine (clone_drv_yes (ownsRow_same HOW.out (fun g hg => HOB.out _ (by first | exact World.grownBy.refl _ _ | exact gb_drew (World.grownBy.refl _ _) | exact gb_drew (gb_drew (World.grownBy.refl _ _))) g hg)) HN4.out).mono ?_; rintro e w8 ⟨p8, c8, rfl, ho8, hg8⟩; have HGF : Hid (wr.grownBy w8 none) := grown_trans (by first | exact World.grownBy.refl _ _ | exact gb_drew (World.grownBy.refl _ _) | exact gb_drew (gb_drew (World.grownBy.refl _ _))) hg8; have co := (HCO.out _ HGF.out).1; have fo := (HCO.out _ HGF.out).2; have HP : Hid (Half w (w8.setCell ⟨d2, k, none⟩ (.slice p8 R.n c8)) a2 d2 (dv2.set k (.slice p8 R.n c8)) (k + 1) R fp fc) := HH.out.put HKN.out HGF.out (.inr ⟨xs, hC, ho8⟩); clear ho8 hg8))
        go_wp2
        go_roundw
        case rel => exact ⟨k + 1, by omega, by go_num, _, by first | exact HP.out | exact HP.out.keep (grown_drewN _ 1)⟩
        case measure => simp [intOf]; omega
    · have i1 : ¬ (k : Int) < (N : Int) := by omega
      obtain ⟨dv2, hh⟩ := HX.out
      have ek : k = R.C.length := by have := HN.out; omega
      rw [ek] at hh
      have cF : wr.cell? ⟨a, 2, none⟩ = some (.slice fp R.L.length fc) := hh.grown.cell HC2.out (by simp)
      have HH : Hid (Half w wr a2 d2 dv2 R.C.length R fp fc) := hh
      obtain ⟨M, hM⟩ : ∃ M, M = R.L.length := ⟨_, rfl⟩
      have HCO : Hid (∀ W, wr.grownBy W none → W.cell? ⟨a2, 2, none⟩ = some (.slice fp M fc) ∧ W.frozen? ⟨a2, 2, none⟩ = false) := fun W g => ⟨by rw [hM]; exact topCell (j := 2) (hh.keep g).top rfl, topFrozen 2 (hh.keep g).top⟩
      have HFI : Hid (∀ (w8 : World) (p8 : Option Addr) (c8 : Nat), wr.grownBy w8 none → w8.ownsRow wr.heap.size 79 130 (.slice p8 M c8) M (wrow R.L) → Is (fun i => w.heap.size ≤ i ∧ i < w8.heap.size) (w8.setCell ⟨a2, 2, none⟩ (.slice p8 M c8)) a2 R ∧ w.grownBy (w8.setCell ⟨a2, 2, none⟩ (.slice p8 M c8)) none) := fun w8 p8 c8 g hr => by
        rw [hM] at hr ⊢
        exact HH.out.fin HOK.out g (ownsRow_down hr HH.out.grown.size)
      have hfl := HLI.out.fly
      rw [← hM] at cF hfl
      have HM : Hid (M ≤ 1000000) := by show _ ≤ _; rw [hM]; exact HLL.out
      rcases hfl.2 with ⟨e, e2⟩ | ⟨g, cap, cur, e, hr2⟩
      · injection e with e1 e3 e4
        subst e1
        subst e4
        have hM0 : M = 0 := e3
        subst hM0
        have HFI2 : Hid (Is (fun i => w.heap.size ≤ i ∧ i < wr.heap.size) (wr.setCell ⟨a2, 2, none⟩ (.slice none 0 0)) a2 R ∧ w.grownBy (wr.setCell ⟨a2, 2, none⟩ (.slice none 0 0)) none) := HFI.out wr none 0 (World.grownBy.refl _ _) (by
          have hL0 : R.L = [] := List.eq_nil_of_length_eq_zero hM.symm
          rw [hL0]
          exact World.ownsRow_nil wr _ _ _)
        have co := (HCO.out wr (World.grownBy.refl _ _)).1
        have fo := (HCO.out wr (World.grownBy.refl _ _)).2
        clear hh ek hM hfl e2 e3 HFI HCO HX
        go_wp2_with (first | (go_at_call 52; refine (clone_wr_nil _).mono ?_; rintro e w8 ⟨rfl, hw⟩; obtain rfl := hw.symm; clear hw) | fail)
        go_ret
        exact ⟨a2, _, rfl, HFI2.out.1, fun i h => h.1, HFI2.out.2⟩
      · injection e with e1 e3 e4
        subst e1
        have HROW : Hid (wr.ownsRow 0 79 130 (.slice (some ⟨g, 0, none⟩) M fc) M (wrow R.L)) := ownsRow_same hfl (fun b hb => hh.grown.block b (rows_blk hfl hb).2.1 (by simp))
        have HONE : Hid (∀ u ∈ wrow R.L, u.oneCell' = true) := fun u hu => by
          obtain ⟨l, _, hu⟩ := List.mem_flatMap.1 hu
          exact wcells_one l u hu
        clear hh ek hM hfl hr2 e3 e4 HX
        go_wp2_with (first | (go_at_call 52; refine (clone_wr_yes HROW.out HM.out HONE.out).mono ?_; rintro e w8 ⟨p8, c8, rfl, ho8, hg8⟩; have HIS : Hid (Is (fun i => w.heap.size ≤ i ∧ i < w8.heap.size) (w8.setCell ⟨a2, 2, none⟩ (.slice p8 M c8)) a2 R ∧ w.grownBy (w8.setCell ⟨a2, 2, none⟩ (.slice p8 M c8)) none) := HFI.out w8 p8 c8 hg8 ho8; have co := (HCO.out _ hg8).1; have fo := (HCO.out _ hg8).2; clear ho8 hg8) | fail)
        go_ret
        exact ⟨a2, _, rfl, HIS.out.1, fun i h => h.1, HIS.out.2⟩
end Go.Proofs.Ytfmlohedebdomaa
