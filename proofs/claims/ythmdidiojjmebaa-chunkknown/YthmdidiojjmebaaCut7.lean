/- The contract of chunk.cut: a loop over slices.Chunk. -/
import Derived.Test.YthmdidiojjmebaaIter7
import Derived.Maps.OwnIn
namespace Go.Proofs.Ythmdidiojjmebaa
open Go.RowKit Go.Shelf
attribute [local go_sem] Oper.semAt_some

theorem chunk_stops (n : Nat) (hn : 1 ≤ n) (Bs Bn b off N cap m : Nat) (hN : N = 56 * m) (hm : m ≤ 64) (hcap : N ≤ cap) (w : World) (hBs : Boxed w Bs 23 (.slice (some ⟨b, off, none⟩) N cap)) (hBn : Boxed w Bn 3 (.int .i64 56)) :
    SeqStopsK Fence.wide n Try.prog 23 #[.pointer (some ⟨Bs, 0, none⟩), .pointer (some ⟨Bn, 0, none⟩)] (fun x : Nat => encL b off m x) (Kp7 Bs Bn) (fun ys => ys = List.range m) (fun pre => ∃ k, k ≤ m ∧ pre = List.range k) m w := fun l J Jx W hW hJ _ hY h0 =>
  chunk1_in n hn l Bs Bn b off N cap m hN hm hcap J Jx hY W ((hW.block Bs hBs.lt).trans hBs) ((hW.block Bn hBn.lt).trans hBn) (fun pre W h => hJ pre W _ none h (grown_drewN W 1) (by simp)) h0

/-- The rows behind the rounds pre. -/
def rowsOf (n : Nat) (xs : List Nat) (m : Nat) (pre : List Nat) : List (List Nat) := pre.map fun i => SM.sec n (CM.ld xs (cl m i))
theorem rowsOf_all (n : Nat) (xs : List Nat) (m : Nat) : rowsOf n xs m (List.range m) = CM.secs n xs m := by
  unfold rowsOf CM.secs
  refine List.map_congr_left fun i hi => ?_
  rw [cl_self (List.mem_range.1 hi)]

/-- What stands between two rounds. -/
structure CutI (w : World) (n m : Nat) (xs : List Nat) (M b off N cap : Nat) (pre : List Nat) (W : World) (dv : Value) (us : List Value) : Prop where
  made : Boxed W M 24 dv
  mat : RMat 53 w.heap.size W dv us (rowsOf n xs m pre)
  num : Boxed W w.heap.size 22 (.int .u64 (n : Int))
  bs : Boxed W (M + 1) 23 (.slice (some ⟨b, off, none⟩) N cap)
  bn : Boxed W (M + 2) 3 (.int .i64 56)
  ne : dv.ownBlock ≠ some (M + 1)
  lM : w.heap.size ≤ M
  gr : w.grownBy W none

theorem CutI.kept {w : World} {n m : Nat} {xs : List Nat} {M b off N cap : Nat} {pre : List Nat} {W W' : World} {dv : Value} {us : List Value} {row : Option Nat} (h : CutI w n m xs M b off N cap pre W dv us) (g : W.grownBy W' row)
    (hr : ∀ r, row = some r → w.heap.size ≤ r ∧ ∃ o : Obj, W.heap[r]? = some o ∧ o.isCells = false) : CutI w n m xs M b off N cap pre W' dv us := by
  have bx : ∀ {B : Nat} {t : TypeId} {v : Value}, Boxed W B t v → Boxed W' B t v := fun hb => hb.kept g fun e => by
    obtain ⟨_, o, ho, hc⟩ := hr _ e.symm
    rw [show W.heap[_]? = _ from hb] at ho
    cases ho; cases hc
  refine ⟨bx h.made, h.mat.kept g (fun r e c f => ?_), bx h.num, bx h.bs, bx h.bn, h.ne, h.lM, grown_new h.gr g (fun r e => (hr r e).1)⟩
  obtain ⟨_, o, ho, hc⟩ := hr r e
  rw [ho]
  constructor <;> (intro e2; injection e2 with e2; subst e2; cases hc)
theorem CutI.own (w : World) (n m : Nat) (xs : List Nat) (M b off N cap B : Nat) (hB : w.heap.size ≤ B) : OwnFrom B (fun (pre : List Nat) W => ∃ dv us, CutI w n m xs M b off N cap pre W dv us) :=
  fun _ _ _ _ ⟨dv, us, h⟩ g hr => ⟨dv, us, h.kept g fun r e => ⟨Nat.le_trans hB (hr r e).1, (hr r e).2⟩⟩

theorem RMat.notBox {T t : TypeId} (h1 : t ≠ 23) {B D : Nat} {w : World} {v u : Value} {us : List Value} {X : List (List Nat)} (h : RMat T B w v us X) (hb : Boxed w D t u) : some D ≠ v.ownBlock := hb.not_row h1 h.row

/-- A row more: the append, and the store into the variable. -/
theorem CutI.more {w : World} {n m : Nat} {xs : List Nat} {M b off N cap : Nat} {pre : List Nat} {W w5 : World} {dv v' u : Value} {us : List Value} {x : Nat} (C : CutI w n m xs M b off N cap pre W dv us)
    (o : Arr 53 w.heap.size W u (SM.sec n (CM.ld xs (cl m x)))) (hl : (us.length + 1) * 24 ≤ 140737488351232) (r5 : w5.ownsRow w.heap.size 23 1 v' (us.length + 1) (us ++ [u])) (g5 : W.grownBy w5 dv.ownBlock) (at5 : v'.ownBlock = dv.ownBlock ∨ v'.ownBlock = some W.heap.size) :
    Boxed w5 M 24 dv ∧ CutI w n m xs M b off N cap (pre ++ [x]) (w5.setCell ⟨M, 0, none⟩ v') v' (us ++ [u]) ∧ KeepsOthers W (w5.setCell ⟨M, 0, none⟩ v') := by
  have b1 : Boxed w5 M 24 dv := C.made.kept g5 (C.mat.notBox (by decide) C.made)
  have m5 := C.mat.more (by decide) o hl r5 g5
  have gs := grownBy_setCell' w5 M v'
  have lm := C.bs.lt
  have ln := C.lM
  refine ⟨b1, ⟨b1.set _, ?_, ((C.num.kept g5 (C.mat.notBox (by decide) C.num)).kept gs ?_), ((C.bs.kept g5 (fun e => C.ne e.symm)).kept gs (by simp)), ((C.bn.kept g5 (C.mat.notBox (by decide) C.bn)).kept gs (by simp)), ?_, C.lM, ?_⟩, ?_⟩
  · have e : rowsOf n xs m (pre ++ [x]) = rowsOf n xs m pre ++ [SM.sec n (CM.ld xs (cl m x))] := by simp [rowsOf]
    rw [e]
    refine m5.kept gs (fun r e c f => ?_)
    obtain rfl := Option.some.inj e
    rw [show w5.heap[M]? = _ from b1]
    constructor <;> (intro e2; simp at e2)
  · intro e
    have h1 := Option.some.inj e
    have h2 := C.num
    rw [h1] at h2
    have h3 := (show W.heap[M]? = _ from h2).symm.trans (show W.heap[M]? = _ from C.made)
    simp at h3
  · rcases at5 with e | e
    · rw [e]; exact C.ne
    · rw [e]; intro e2; have := Option.some.inj e2; omega
  · exact grown_new (grown_new C.gr g5 C.mat.lo) gs (fun i e => by have := Option.some.inj e; omega)
  · refine (KeepsOthers.of_grownBy g5 fun j o' ej hj => ?_).trans (KeepsOthers.setCell _ _ _)
    rcases C.mat.row.2 with ⟨rfl, _⟩ | ⟨g, cp, cur, rfl, _, hgb, _⟩
    · simp [Value.ownBlock] at ej
    · obtain rfl : g = j := by simpa [Value.ownBlock] using ej
      rw [hgb] at hj; cases hj; rfl

theorem Vec.room {w : World} {p : Option Addr} {n c c' : Nat} {xs : List Nat} (h : Vec w (.slice p n c) xs) (h1 : n ≤ c') (h2 : c' ≤ maxLen) : Vec w (.slice p n c') xs := by
  obtain ⟨a1, a2, p', cap', e, a3, a4, a5⟩ := h
  injection e with e1 e2 e3
  subst e1
  subst e2
  exact ⟨a1, a2, p, c', rfl, h1, h2, a5⟩

set_option maxRecDepth 100000 in
set_option maxHeartbeats 2000000 in
theorem cut_any {w : World} {n m b off N cap : Nat} {xs : List Nat} (hv : Vec w (.slice (some ⟨b, off, none⟩) N cap) xs) (hN : N = 56 * m) (hx : xs.length = 56 * m) (hm0 : 0 < m) (hm : m ≤ 64) (hcap : N ≤ cap) :
    Calls Try.prog 15 #[.int .u64 (n : Int), .slice (some ⟨b, off, none⟩) N cap] w fun e w' => ∃ u us, e = .returned u ∧ RMat 53 w.heap.size w' u us (CM.secs n xs m) ∧ w.grownBy w' none := by
  have HN : Hid (N = 56 * m ∧ xs.length = 56 * m ∧ 0 < m ∧ m ≤ 64 ∧ N ≤ cap) := ⟨hN, hx, hm0, hm, hcap⟩
  have hq : (N : Int) / 56 = (m : Int) := by omega
  obtain ⟨w1, hmk, hrow, g1⟩ := run_make_rows0 (w.alloc (.cells #[.int .u64 (n : Int)] 22)) (n := m) (by omega)
  have HR : Hid (w1.ownsRow (w.alloc (.cells #[.int .u64 (n : Int)] 22)).heap.size 23 1 (.slice (some ⟨(w.alloc (.cells #[.int .u64 (n : Int)] 22)).heap.size, 0, none⟩) 0 m) 0 []) := hrow
  have HG : Hid ((w.alloc (.cells #[.int .u64 (n : Int)] 22)).grownBy w1 none) := g1
  have HV : Hid (Vec w (.slice (some ⟨b, off, none⟩) N cap) xs) := hv
  clear hv hN hx hm0 hcap hrow g1
  rw [World.size_alloc] at hmk
  refine (callsIn_wide (n := 5)).1 ?_
  refine callsIn_of_wp_marks Try.func15 rfl trivial ?_ rfl
  simp only [Try.ntmps15, List.size_toArray, List.length_cons, List.length_nil, Nat.reduceAdd, Nat.reduceSub, Array.replicate_succ, Array.replicate_zero, List.push_toArray, List.append_toArray, List.nil_append, List.cons_append]
  gi_wp2_with (refine ⟨trivial, ?_⟩; gi_at_call 20; refine (callsIn_wide.2 (chunk_any _ _ _ _)).mono ?_; rintro e w2 ⟨rfl, rfl⟩)
  have I0 : CutI w n m xs w1.heap.size b off N cap [] (((w1.alloc (.cells #[.slice (some ⟨w.heap.size + 1, 0, none⟩) 0 m] 24)).alloc (.cells #[.slice (some ⟨b, off, none⟩) N cap] 23)).alloc (.cells #[.int .i64 56] 3)) (.slice (some ⟨w.heap.size + 1, 0, none⟩) 0 m) [] := by
    have hR := HR.out
    rw [World.size_alloc] at hR
    have hlt := hR.lt (w.heap.size + 1) rfl
    have hsz := HG.out.size
    have ga := World.grownBy_alloc w1 (.cells #[.slice (some ⟨w.heap.size + 1, 0, none⟩) 0 m] 24) none
    have gb := gb_alloc ga (.cells #[.slice (some ⟨b, off, none⟩) N cap] 23)
    have gc := gb_alloc gb (.cells #[.int .i64 56] 3)
    refine ⟨((Boxed.new w1 _ _).alloc _).alloc _, ⟨by simp, ?_, rfl, by simp [rowsOf]⟩, (((Boxed.new w 22 (.int .u64 (n : Int))).kept HG.out (by simp)).kept gc (by simp)), ?_, ?_, ?_, ?_, grown_trans (grown_trans (World.grownBy_alloc w _ none) HG.out) gc⟩
    · have h1 := hR.kept gc (.inr (by simp [Value.ownBlock]))
      exact ⟨h1.1, by
        rcases h1.2 with h | ⟨g, cp, cur, a1, a2, a3⟩
        · exact .inl h
        · exact .inr ⟨g, cp, cur, a1, by omega, a3⟩⟩
    · have h1 := Boxed.new (w1.alloc (.cells #[.slice (some ⟨w.heap.size + 1, 0, none⟩) 0 m] 24)) 23 (.slice (some ⟨b, off, none⟩) N cap)
      rw [World.size_alloc] at h1
      exact h1.alloc _
    · have h1 := Boxed.new ((w1.alloc (.cells #[.slice (some ⟨w.heap.size + 1, 0, none⟩) 0 m] 24)).alloc (.cells #[.slice (some ⟨b, off, none⟩) N cap] 23)) 3 (.int .i64 56)
      rw [World.size_alloc, World.size_alloc] at h1
      exact h1
    · simp only [Value.ownBlock]; intro e; have := Option.some.inj e; omega
    · simp at hsz; omega
  have HI0 : Hid (CutI w n m xs w1.heap.size b off N cap [] (((w1.alloc (.cells #[.slice (some ⟨w.heap.size + 1, 0, none⟩) 0 m] 24)).alloc (.cells #[.slice (some ⟨b, off, none⟩) N cap] 23)).alloc (.cells #[.int .i64 56] 3)) (.slice (some ⟨w.heap.size + 1, 0, none⟩) 0 m) []) := I0
  clear I0 hmk HR HG
  generalize w1.heap.size = M at *
  generalize ((w1.alloc (.cells #[.slice (some ⟨w.heap.size + 1, 0, none⟩) 0 m] 24)).alloc (.cells #[.slice (some ⟨b, off, none⟩) N cap] 23)).alloc (.cells #[.int .i64 56] 3) = W0 at *
  have hWs : w.heap.size ≤ W0.heap.size := HI0.out.gr.size
  refine wpIn_rangeFunc_ownG rfl (by decide) (gf := 23) (lb := #[.pointer (some ⟨M + 1, 0, none⟩), .pointer (some ⟨M + 2, 0, none⟩)]) rfl trivial (enters_of Try.func23 (by kernel_rfl) rfl)
    (chunk_stops 4 (by decide) (M + 1) (M + 2) b off N cap m HN.out.1 HN.out.2.2.2.1 HN.out.2.2.2.2 W0 HI0.out.bs HI0.out.bn)
    (fun h k => ⟨k.1.trans h.1, k.2.trans h.2⟩) (fun W l o o' hl h _ _ => ⟨World.putObj_heap_other (by have := HI0.out.bs.lt; omega), World.putObj_heap_other (by have := HI0.out.bn.lt; omega)⟩) (Below.refl _ _) (fun _ => rfl)
    (fun pre W => ∃ dv us, CutI w n m xs M b off N cap pre W dv us) (fun _ _ _ => False)
    (CutI.own w n m xs M b off N cap _ hWs) (fun _ _ _ _ _ hs _ _ => hs) ⟨_, _, HI0.out⟩
    (fun x => { tmps := #[.int .u64 (n : Int), .slice (some ⟨b, off, none⟩) N cap, .pointer (some ⟨w.heap.size, 0, none⟩), undef, .slice none 0 0, .pointer (some ⟨M, 0, none⟩), .slice (some ⟨b, off + 56 * cl m x, none⟩) 56 56, undef, undef,
      .slice (some ⟨b, off, none⟩) N cap, .int .i64 (N : Int), .int .i64 (m : Int), .slice (some ⟨w.heap.size + 1, 0, none⟩) 0 m, .slice (some ⟨b, off, none⟩) N cap,
      .func (.func 23) #[] #[.pointer (some ⟨M + 1, 0, none⟩), .pointer (some ⟨M + 1 + 1, 0, none⟩)], .slice (some ⟨b, off + 56 * cl m x, none⟩) 56 56, undef, undef, undef, undef, undef, undef, undef, undef, undef, undef, undef], defers := [] }) ?assign ?body ?done ?stop
  case assign =>
    intro l x W K hK
    dsimp only [encL]
    gi_wp2
    exact hK
  case body =>
    rintro l pre x W ⟨dv, us, C⟩ hlen
    obtain ⟨i0, hi, hz0, hz1, hz2⟩ := info_parts Try.info22
    have hd : 1 ≤ 5 - 1 - 1 := by decide
    have cN := C.num.cell
    have HC : Hid (CutI w n m xs M b off N cap pre W dv us) := C
    have hxm := cl_lt (x := x) HN.out.2.2.1
    have VL : Hid (Vec W (.slice (some ⟨b, off + 56 * cl m x, none⟩) 56 56) (CM.ld xs (cl m x))) := by
      have h1 := ((HV.out.keep C.gr).tail (n := 56 * cl m x) (by have := HN.out; omega)).cut (n := 56) (by rw [List.length_drop]; have := HN.out; omega)
      exact h1.room (Nat.le_refl _) (by decide)
    have LL : Hid ((CM.ld xs (cl m x)).length ≤ 56 ∧ (us.length + 1) * 24 ≤ 140737488351232 ∧ w.heap.size ≤ W.heap.size) := ⟨by rw [CM.ld_len (by have := HN.out; omega)]; exact Nat.le_refl _, by
      have h1 := C.mat.same
      simp only [rowsOf, List.length_map] at h1
      have := HN.out
      omega, C.gr.size⟩
    clear C hxm
    gi_wp2_with (first
      | (refine ⟨trivial, ?_⟩; gi_at_call 21; refine (CallsIn.inRound l (callsIn_wide.2 (put_yes (n := n) VL.out LL.out.1))).mono ?_; rintro e w4 ⟨p, rfl, op, g4⟩; have HO : Hid (Arr 53 w.heap.size w4 (.slice p 64 64) (SM.sec n (CM.ld xs (cl m x)))) := op.down LL.out.2.2; have C4 : Hid (CutI w n m xs M b off N cap pre w4 dv us) := HC.out.kept g4 (by simp); have G4 : Hid (W.grownBy w4 none) := g4; have cM := C4.out.made.cell; clear op g4)
      | (gi_at_builtin; refine wpListIn_append_own_at _ rfl _ _ 24 rfl w.heap.size 23 i0 (.slice none 0 0) 1 24 Try.underlying24 hi hz0 hz1 hz2 rfl (by decide) dv us.length us rfl (C4.out.kept (World.grownBy_alloc w4 (.cells #[.slice p 64 64] 23) none) (by simp)).mat.row ⟨w4.heap.size, 0, none⟩ 1 1 [.slice p 64 64] rfl rfl (cell_one_new _ _ _) (by simp [Value.oneCell']) (by have := LL.out.2.1; unfold maxLen; omega) (by have := LL.out.2.1; omega) (by have := LL.out.2.2; have := G4.out.size; simp; omega) ?_; intro v' w5 r5 g5 hz5 at5; obtain ⟨g', cap', rfl⟩ := ownsRow_succ r5; clear hz5
         obtain ⟨k1, k2, k3⟩ := CutI.more (x := x) (C4.out.kept (World.grownBy_alloc w4 (.cells #[.slice p 64 64] 23) none) (by simp)) (HO.out.keep (World.grownBy_alloc w4 (.cells #[.slice p 64 64] 23) none)) LL.out.2.1 r5 g5 at5
         have K2 : Hid (CutI w n m xs M b off N cap (pre ++ [x]) (w5.setCell ⟨M, 0, none⟩ (.slice (some ⟨g', 0, none⟩) (us.length + 1) cap')) (.slice (some ⟨g', 0, none⟩) (us.length + 1) cap') (us ++ [.slice p 64 64])) := k2
         have K3 : Hid (KeepsOthers W (w5.setCell ⟨M, 0, none⟩ (.slice (some ⟨g', 0, none⟩) (us.length + 1) cap'))) := ((KeepsOthers.of_grownBy G4.out (fun j o e _ => by cases e)).trans (KeepsOthers.alloc _ _)).trans k3
         have c5 := k1.cell
         have f5 := k1.frozen
         clear r5 g5 at5 k1 k2 k3))
    exact ⟨K3.out.from _, ⟨K2.out.bs.trans HC.out.bs.symm, K2.out.bn.trans HC.out.bn.symm⟩, _, _, K2.out⟩
  case done =>
    rintro D ys W hD rfl ⟨dv, us, C⟩ hK
    have cM := C.made.cell
    have HC : Hid (CutI w n m xs M b off N cap (List.range m) W dv us) := C
    have HD : Hid (w.heap.size ≤ D) := Nat.le_trans hWs hD
    have HK : Hid (W.heap[D]? = some (.deferred (some []))) := hK
    clear C
    gi_wp2
    refine ⟨by simp, .inl ⟨_, _, rfl, run_takeDeferred HK.out, ?_⟩⟩
    have gp := grownBy_putObj' W D (.deferred none)
    refine ⟨_, results_tmp rfl _ _ _, _, us, rfl, ?_, grown_new HC.out.gr gp (fun i e => by have := Option.some.inj e; have := HD.out; omega)⟩
    rw [← rowsOf_all]
    exact (HC.out.kept gp (fun r e => by have := Option.some.inj e; subst this; exact ⟨HD.out, _, HK.out, rfl⟩)).mat
  case stop =>
    rintro D c pre W _ _ h _
    exact h.elim
end Go.Proofs.Ythmdidiojjmebaa
