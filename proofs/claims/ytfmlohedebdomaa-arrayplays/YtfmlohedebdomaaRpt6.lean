/- Slices that lie at the head of a block (Part); contracts of bytes.Repeat of one byte 64 times, and of Full. -/
import Derived.Test.YtfmlohedebdomaaCrash6
import Derived.Lib.MakeNoZero
set_option linter.unusedSimpArgs false
set_option linter.unusedVariables false
namespace Go.Proofs.Ytfmlohedebdomaa
open Go.RowKit

/-- The slice v lies at the head of a block of bytes, from B on, and has the elements xs. -/
structure Part (B : Nat) (w : World) (v : Value) (xs : List Nat) : Prop where
  small : ∀ x ∈ xs, x < 256
  len : xs.length ≤ 140737488351232
  form : (v = .slice none 0 0 ∧ xs = []) ∨ ∃ g cap cur, v = .slice (some ⟨g, 0, none⟩) xs.length cap ∧ B ≤ g ∧ w.heap[g]? = some (.cells cur 5 (0, 0)) ∧ xs.length ≤ cap ∧ cap ≤ maxLen ∧ xs.length ≤ cur.size ∧ cur.toList.take xs.length = xs.map bv

theorem Part.same {B : Nat} {w w' : World} {v : Value} {xs : List Nat} (h : Part B w v xs) (hb : ∀ g, v.ownBlock = some g → w'.heap[g]? = w.heap[g]?) : Part B w' v xs := by
  refine ⟨h.small, h.len, ?_⟩
  rcases h.form with h | ⟨g, cap, cur, rfl, h1, h2, h3⟩
  · exact .inl h
  · exact .inr ⟨g, cap, cur, rfl, h1, by rw [hb g rfl]; exact h2, h3⟩
theorem Part.lt {B : Nat} {w : World} {v : Value} {xs : List Nat} (h : Part B w v xs) {g : Nat} (hg : v.ownBlock = some g) : B ≤ g ∧ g < w.heap.size := by
  rcases h.form with ⟨rfl, _⟩ | ⟨g', cap, cur, rfl, h1, h2, h3⟩
  · cases hg
  · obtain rfl : g' = g := Option.some.inj hg
    exact ⟨h1, (Array.getElem?_eq_some_iff.1 h2).1⟩
theorem Part.ty {B : Nat} {w : World} {v : Value} {xs : List Nat} (h : Part B w v xs) {g : Nat} (hg : v.ownBlock = some g) : ∃ c, w.heap[g]? = some (.cells c 5 (0, 0)) := by
  rcases h.form with ⟨rfl, _⟩ | ⟨g', cap, cur, rfl, h1, h2, h3⟩
  · cases hg
  · obtain rfl : g' = g := Option.some.inj hg
    exact ⟨cur, h2⟩
theorem Part.keep {B : Nat} {w w' : World} {v : Value} {xs : List Nat} (h : Part B w v xs) (g : w.grownBy w' none) : Part B w' v xs :=
  h.same (fun i hi => g.block i (h.lt hi).2 (by simp))
theorem Part.down {B B' : Nat} {w : World} {v : Value} {xs : List Nat} (h : Part B' w v xs) (hB : B ≤ B') : Part B w v xs := by
  refine ⟨h.small, h.len, ?_⟩
  rcases h.form with h | ⟨g, cap, cur, rfl, h1, h2, h3⟩
  · exact .inl h
  · exact .inr ⟨g, cap, cur, rfl, by omega, h2, h3⟩
theorem Own.part {B : Nat} {w : World} {v : Value} {xs : List Nat} (h : Own B w v xs) : Part B w v xs := by
  refine ⟨h.small, h.len, ?_⟩
  rcases h.row.2 with ⟨rfl, hn⟩ | ⟨g, cap, cur, rfl, hb, hg, hc, hm, hs, ht⟩
  · exact .inl ⟨rfl, List.eq_nil_of_length_eq_zero hn⟩
  · exact .inr ⟨g, cap, cur, rfl, hb, hg, hc, hm, by omega, by rw [Nat.mul_one] at ht; exact ht⟩
theorem Part.vec {B : Nat} {w : World} {v : Value} {xs : List Nat} (h : Part B w v xs) : Vec w v xs := by
  refine ⟨h.small, h.len, ?_⟩
  rcases h.form with ⟨rfl, rfl⟩ | ⟨g, cap, cur, rfl, h1, h2, h3, h4, h5, h6⟩
  · exact ⟨none, 0, rfl, Nat.le_refl _, by decide, fun h => absurd rfl h⟩
  · refine ⟨some ⟨g, 0, none⟩, cap, rfl, h3, h4, fun _ => ⟨g, 0, rfl, fun j hj => ?_⟩⟩
    refine topCell h2 ?_
    have := getD_map_bv xs j hj
    rw [← h6, List.getElem?_take, if_pos hj] at this
    rw [Nat.zero_add]
    simpa using this
theorem Part.spot {B : Nat} {w : World} {p : Option Addr} {n cap : Nat} {xs : List Nat} (h : Part B w (.slice p n cap) xs) {k : Nat} (hk : k < xs.length) :
    ∃ g, p = some ⟨g, 0, none⟩ ∧ n = xs.length ∧ w.cell? ⟨g, k, none⟩ = some (.int .u8 ((xs.getD k 0 : Nat) : Int)) ∧ w.frozen? ⟨g, k, none⟩ = false ∧ xs.getD k 0 < 256 ∧
      (∀ z : Nat, z < 256 → Part B (w.setCell ⟨g, k, none⟩ (.int .u8 (z : Int))) (.slice (some ⟨g, 0, none⟩) n cap) (xs.set k z)) ∧ ∀ u, w.grownBy (w.setCell ⟨g, k, none⟩ u) (some g) := by
  have hv := h.vec.at hk
  rcases h.form with ⟨_, e⟩ | ⟨g, cap', cur, e, hb, hg, hc, hm, hs, ht⟩
  · subst e; simp at hk
  · injection e with e1 e2 e3
    subst e1
    subst e2
    subst e3
    obtain ⟨b, off, c2, e4, hcell, hsm⟩ := hv
    injection e4 with e5 _ _
    injection e5 with e5
    injection e5 with e6 e7
    subst e6
    subst e7
    rw [Nat.zero_add] at hcell
    refine ⟨g, rfl, rfl, hcell, by simp [World.frozen?, hg], hsm, fun z hz => ⟨fun x hx => ?_, by simpa using h.len, .inr ⟨g, cap, cur.setIfInBounds k (.int .u8 (z : Int)), by simp, hb, ?_, by simpa using hc, hm, by simpa using hs, ?_⟩⟩, fun u => ⟨rfl, rfl, rfl, by simp, fun i hi hne => Below.heap_setCell _ _ _ _ (by simpa using hne)⟩⟩
    · rcases List.mem_or_eq_of_mem_set hx with h1 | h1
      · exact h.small x h1
      · rw [h1]; exact hz
    · rw [setCell_eq_setRow w g k cur 5 (0, 0) _ hg]
      exact setRow_heap w g cur _ 5 _ hg
    · simp only [Array.toList_setIfInBounds, List.length_set, List.map_set]
      rw [← ht, List.take_set]

theorem step_copy_cells {ops : Array Oper} {o : Oper} {a : Act} {w : World} {K : Act → World → Prop} {Q : Exit → Act → World → Prop} {E : Prop} (hgd : o.guard = none) (d s : Operand)
    (ho : o.op = .call { callee := .builtin .copy, args := #[d, s], argTypes := #[32, 32] }) (sv : Value) {T : TypeId} {g f dLen dCap : Nat} {cur : Array Value} {ys : List Nat} (hed : a.eval d = .slice (some ⟨g, f, none⟩) dLen dCap) (hes : a.eval s = sv)
    (hg : w.heap[g]? = some (.cells cur T (0, 0))) (hs : Vec w sv ys) (hy : ys ≠ []) (hd : ys.length ≤ dLen) (hf : f + ys.length ≤ cur.size)
    (h : ∀ w', w'.heap[g]? = some (.cells (cur.toList.take f ++ ys.map bv ++ cur.toList.drop (f + ys.length)).toArray T (0, 0)) → w.grownBy w' (some g) → K (a.put o.dst (goInt ys.length)) w') :
    if Region.wanted o (yielded ops a.tmps) = true then Oper.wp Try.prog o a w K Q else E := by
  have hw : Region.wanted o (yielded ops a.tmps) = true := by simp [Region.wanted, hgd]
  rw [if_pos hw]
  obtain ⟨w', hrun, r1, r2⟩ := run_copy_cells (dCap := dCap) hg hs hy hd hf o.type
  unfold Oper.wp
  simp [execOp, ho, resolve, invoke, builtin, hed, hes, hrun, Result.andThen]
  exact h _ r1 r2

theorem mul64_yes (w : World) : Calls Try.prog 62 #[.int .u64 1, .int .u64 64] w fun e w' => e = .returned (.tuple #[.int .u64 0, .int .u64 64]) ∧ w' = w := by
  go_enter Try.func62, Try.ntmps62
  go_wp2
  go_ret2
  exact ⟨rfl, rfl⟩
theorem mul_yes (w : World) : Calls Try.prog 59 #[.int .u64 1, .int .u64 64] w fun e w' => e = .returned (.tuple #[.int .u64 0, .int .u64 64]) ∧ w' = w := by
  go_enter Try.func59, Try.ntmps59
  go_wp2_with (go_at_call 62; refine (mul64_yes w).mono ?_; rintro e w1 ⟨rfl, hw⟩; obtain rfl := hw.symm; clear hw)
  go_ret2
  exact ⟨rfl, rfl⟩

/-- A sector of one byte. -/
def fl (x : Nat) : List Nat := List.replicate 64 x
theorem fl_len (x : Nat) : (fl x).length = 64 := by simp [fl]
theorem fl_small {x : Nat} (h : x < 256) : ∀ y ∈ fl x, y < 256 := fun y hy => by rw [(List.mem_replicate.1 hy).2]; exact h

theorem makeNo (w : World) : ∃ cs : Array Value, (callFunc 60 #[.int .i64 64]).run Try.prog w = .ok (.value (.slice (some ⟨w.heap.size, 0, none⟩) 64 cs.size)) ((w.alloc (.cells cs 5)).drewN 2) ∧ 64 ≤ cs.size ∧ cs.size ≤ maxLen := by
  obtain ⟨cs, hrun, h1, h2⟩ := Lib.run_makeNoZero (P := Try.prog) w #[3] 32 5 Try.underlying32 64 (by decide)
  refine ⟨cs, ?_, h1, h2 (by decide)⟩
  rw [run_callFunc_extern Try.func60 (by kernel_rfl) (by kernel_rfl) (by kernel_rfl) (e := Extern.BytealgMakeNoZero.makeNoZero #[3] #[32]) (by kernel_rfl)]
  have e : (Extern.BytealgMakeNoZero.makeNoZero #[3] #[32] #[.int .i64 64]).run Try.prog w = .ok (.slice (some ⟨w.heap.size, 0, none⟩) 64 cs.size) (w.drew.drew.alloc (.cells cs 5)) := hrun
  rw [e]
  rfl

theorem slice_lo5 {g p : Nat} (h : p < 64) (W : World) : (Instr.slice 32 (.slice (some ⟨g, 0, none⟩) 64 64) (some (.int .i64 (p : Int))) none none).run Try.prog W = .ok (.slice (some ⟨g, p, none⟩) (64 - p) (64 - p)) W := by
  obtain ⟨i0, hi, hz0, hz1, hz2⟩ := info_parts Try.info5
  have h1 : (Instr.sliceBound (.int .i64 (p : Int)) 64 .sliceB).run Try.prog W = .ok p W := by
    have := run_sliceBound (P := Try.prog) W .i64 (p : Int) 64 .sliceB (by omega) (by omega)
    simpa using this
  have e : ¬ 64 = p := by omega
  simp [Instr.slice, run_underlying Try.underlying32, Instr.sliceBounds, h1, sizeOf, typeInfo, hi, hz1, e, add_off]
theorem slice_hi5 {g p : Nat} (h : p ≤ 64) (W : World) : (Instr.slice 32 (.slice (some ⟨g, 0, none⟩) 64 64) none (some (.int .i64 (p : Int))) none).run Try.prog W = .ok (.slice (some ⟨g, 0, none⟩) p 64) W := by
  obtain ⟨i0, hi, hz0, hz1, hz2⟩ := info_parts Try.info5
  have h1 : (Instr.sliceBound (.int .i64 (p : Int)) 64 .sliceAcap).run Try.prog W = .ok p W := by
    have := run_sliceBound (P := Try.prog) W .i64 (p : Int) 64 .sliceAcap (by omega) (by omega)
    simpa using this
  simp [Instr.slice, run_underlying Try.underlying32, Instr.sliceBounds, h1, sizeOf, typeInfo, hi, hz1, add_off]

/-- Its first m places are the byte x. -/
def Filled (w : World) (g m x : Nat) : Prop := ∃ cur, w.heap[g]? = some (.cells cur 5 (0, 0)) ∧ 64 ≤ cur.size ∧ cur.toList.take m = List.replicate m (bv x)
theorem Filled.vec {w : World} {g m x : Nat} (h : Filled w g m x) (hx : x < 256) (hm : m ≤ 64) : Vec w (.slice (some ⟨g, 0, none⟩) m 64) (List.replicate m x) := by
  obtain ⟨cur, h1, h2, h3⟩ := h
  refine ⟨fun y hy => by rw [(List.mem_replicate.1 hy).2]; exact hx, by simp; omega, _, _, by rw [List.length_replicate], by simp; omega, by decide, fun _ => ⟨g, 0, rfl, fun j hj => ?_⟩⟩
  rw [List.length_replicate] at hj
  refine topCell h1 ?_
  have h4 : (cur.toList.take m)[j]? = some (bv x) := by rw [h3]; simp [hj]
  rw [List.getElem?_take, if_pos hj] at h4
  rw [Nat.zero_add]
  simpa [List.getD, hj] using h4
theorem filled_step {c : List Value} {m : Nat} {v : Value} (h : c.take m = List.replicate m v) (hm : m ≤ c.length) : (c.take m ++ List.replicate m v ++ c.drop (m + m)).take (m + m) = List.replicate (m + m) v := by
  rw [h, List.replicate_append_replicate, List.take_append_of_le_length (by simp)]
  simp

set_option maxRecDepth 100000 in
theorem repeat_yes {w : World} {v : Value} {x : Nat} (hv : Vec w v [x]) : Calls Try.prog 53 #[v, .int .i64 64] w fun e w' => ∃ g, e = .returned (.slice (some ⟨g, 0, none⟩) 64 64) ∧ Part w.heap.size w' (.slice (some ⟨g, 0, none⟩) 64 64) (fl x) ∧ w.grownBy w' none := by
  obtain ⟨p, n, cap, rfl, hn⟩ := hv.opened
  obtain rfl : n = 1 := hn
  have hx : x < 256 := hv.small x (by simp)
  obtain ⟨cs, hrun, hc1, hc2⟩ := makeNo w
  have hs : ∀ W : World, (Instr.slice 32 (.slice (some ⟨w.heap.size, 0, none⟩) 64 cs.size) none (some (.int .i64 64)) (some (.int .i64 64))).run Try.prog W = .ok (.slice (some ⟨w.heap.size, 0, none⟩) 64 64) W := fun W => by
    obtain ⟨i0, hi, hz0, hz1, hz2⟩ := info_parts Try.info5
    have e := run_sliceBound (P := Try.prog) W .i64 64 cs.size .slice3Acap (by omega) (by omega)
    have e2 := run_sliceBound (P := Try.prog) W .i64 64 64 .slice3B (by omega) (by omega)
    simp [Instr.slice, run_underlying Try.underlying32, Instr.sliceBounds, e, e2, sizeOf, typeInfo, hi, hz1, add_off]
  have gA : w.grownBy ((w.alloc (.cells cs 5)).drewN 2) none := grown_trans (World.grownBy_alloc _ _ none) (grown_drewN _ 2)
  have HB : Hid (((w.alloc (.cells cs 5)).drewN 2).heap[w.heap.size]? = some (.cells cs 5 (0, 0))) := heap_alloc_new w _
  have HV : Hid (Vec ((w.alloc (.cells cs 5)).drewN 2) (.slice p 1 cap) [x]) := hv.keep gA
  have HG : Hid (w.grownBy ((w.alloc (.cells cs 5)).drewN 2) none) := gA
  have HC : Hid (64 ≤ cs.size) := hc1
  have HX : Hid (x < 256) := hx
  clear hv gA hc1 hc2 hx
  generalize hWA : (w.alloc (.cells cs 5)).drewN 2 = WA at *
  generalize hgg : w.heap.size = g at *
  have HGG : Hid (w.heap.size = g) := hgg
  clear hWA hgg
  go_enter Try.func53, Try.ntmps53
  go_wp2_with (first
    | (go_at_call 59; refine (mul_yes w).mono ?_; rintro e w1 ⟨rfl, hw⟩; obtain rfl := hw.symm; clear hw)
    | (refine wpList_copy_cells rfl _ _ rfl _ (T := 5) (g := g) (f := 0) (cur := cs) (ys := [x]) rfl rfl HB.out HV.out (by simp) (by simp) (by have := HC.out; simp; omega) ?_; intro w2 h2 g2; have H2 : Hid (Filled w2 g 1 x ∧ w.grownBy w2 none) := ⟨⟨_, h2, by have := HC.out; simp; omega, by simp⟩, grown_new HG.out g2 (fun i e => by have := Option.some.inj e; have := HGG.out; omega)⟩; clear h2 g2 hrun hs HB HV HG HC))
  go_loopw [10] (fun ti wr => ∃ m : Nat, ti = .int .i64 (m : Int) ∧ (m = 1 ∨ m = 2 ∨ m = 4 ∨ m = 8 ∨ m = 16 ∨ m = 32 ∨ m = 64) ∧ Hid (Filled wr g m x ∧ w.grownBy wr none)) (fun ti _ => 64 - (intOf ti).toNat)
  case atStart => exact ⟨1, rfl, .inl rfl, H2⟩
  case round =>
    clear H2
    obtain ⟨m, rfl, hm, HI⟩ := hrel
    by_cases hlt : m < 64
    · have i1 : (m : Int) < 64 := by omega
      obtain ⟨k, hk, hmin⟩ := min_run m 64
      obtain rfl : m = k := by omega
      clear hk
      have i2 := slice_lo5 (g := g) hlt
      have i3 := slice_hi5 (g := g) (Nat.le_of_lt hlt)
      have HM : Hid (m ≤ 32 ∧ 0 < m) := by constructor <;> omega
      obtain ⟨cur, hc1, hc2, hc3⟩ := HI.out.1
      have HC : Hid (wr.heap[g]? = some (.cells cur 5 (0, 0)) ∧ 64 ≤ cur.size ∧ cur.toList.take m = List.replicate m (bv x)) := ⟨hc1, hc2, hc3⟩
      have hmi : m < 64 := hlt
      obtain ⟨m2, hm2⟩ : ∃ m2, m2 = m + m := ⟨_, rfl⟩
      have i4 : IntKind.i64.wrap ((m : Int) + (m : Int)) = (m2 : Int) := by
        have : (m : Int) + (m : Int) = (m2 : Int) := by omega
        rw [this]
        exact IntWalk.i64_in _ (by omega)
      have HM2 : Hid (m2 = m + m) := hm2
      clear hm2
      clear hc1 hc2 hc3
      go_wp2_with fail
      go_region_held3 (fun w' => w.grownBy w' none) (first | exact HI.out.2 | exact gb_drew HI.out.2 | exact H3.out.2)
        ((refine step_copy_cells rfl _ _ rfl _ (T := 5) (g := g) (f := m) (cur := cur) (ys := List.replicate m x) rfl rfl HC.out.1 ((HI.out.1.vec HX.out (by have := HM.out.1; omega)).keep (grown_drewN _ 1)) (by have := HM.out.2; intro e; have := congrArg List.length e; simp at this; omega) (by have := HM.out.1; simp; omega) (by have := HM.out.1; have := HC.out.2.1; simp; omega) ?_; intro w3 h3 g3; rw [List.length_replicate, List.map_replicate] at h3; have H3 : Hid (Filled w3 g (m + m) x ∧ w.grownBy w3 none) := ⟨⟨_, h3, by have := HM.out.1; have := HC.out.2.1; simp; omega, filled_step HC.out.2.2 (by have := HM.out.1; have := HC.out.2.1; simp; omega)⟩, grown_new (gb_drew HI.out.2) g3 (fun i e => by have := Option.some.inj e; have := HGG.out; omega)⟩; clear h3 g3; rw [List.length_replicate]))
      go_wp2
      go_roundw
      case rel => exact ⟨m2, rfl, by have := HM2.out; omega, by rw [HM2.out]; exact H3⟩
      case measure => have := HM2.out; have := HM.out; simp [intOf]; omega
    · have i1 : ¬ (m : Int) < 64 := by omega
      obtain rfl : m = 64 := by omega
      go_wp2
      go_ret
      obtain ⟨cur, hc1, hc2, hc3⟩ := HI.out.1
      exact ⟨g, rfl, ⟨fl_small HX.out, by rw [fl_len]; decide, .inr ⟨g, 64, cur, by rw [fl_len], by have := HGG.out; omega, hc1, by rw [fl_len]; exact Nat.le_refl _, by decide, by rw [fl_len]; exact hc2, by rw [fl_len, hc3]; simp [fl]⟩⟩, HI.out.2⟩

theorem full_yes {w : World} {x : Nat} (hx : x < 256) : Calls Try.prog 29 #[.int .u8 (x : Int)] w fun e w' => ∃ g, e = .returned (.slice (some ⟨g, 0, none⟩) 64 64) ∧ Part w.heap.size w' (.slice (some ⟨g, 0, none⟩) 64 64) (fl x) ∧ w.grownBy w' none := by
  have HG : Hid (w.grownBy (w.alloc (.cells #[.int .u8 (x : Int)] 5)) none) := World.grownBy_alloc _ _ none
  have HO : Hid (Vec (w.alloc (.cells #[.int .u8 (x : Int)] 5)) (.slice (some ⟨w.heap.size, 0, none⟩) 1 1) [x]) := (own_lit (B := 0) (xs := [x]) (heap_alloc_new w _) (by omega) rfl (by simpa using hx) (by simp)).vec
  clear hx
  go_enter Try.func29, Try.ntmps29
  go_wp2_with (go_at_call 53; refine (repeat_yes HO.out).mono ?_; rintro e w1 ⟨g, rfl, hp, hg⟩; have HP : Hid (Part w.heap.size w1 (.slice (some ⟨g, 0, none⟩) 64 64) (fl x) ∧ w.grownBy w1 none) := ⟨hp.down (by simp), grown_trans HG.out hg⟩; clear hp hg)
  go_ret
  exact ⟨g, rfl, HP.out⟩
end Go.Proofs.Ytfmlohedebdomaa
