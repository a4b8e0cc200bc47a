/- The contract of field.tables: the two arrays that it returns. -/
import Derived.Test.YtdeajclghlbhcaaLeaf
import Derived.Test.YtdeajclghlbhcaaVec
import Derived.RegionTactic
import Derived.BigRegion
namespace Go.Proofs.Ytdeajclghlbhcaa
open Go.RowKit

theorem gb_alloc {a b : World} (h : a.grownBy b none) (o : Obj) : a.grownBy (b.alloc o) none := grown_trans h (World.grownBy_alloc _ _ none)
theorem gb_drew {a b : World} (h : a.grownBy b none) : a.grownBy b.drew none := grown_trans h (grown_drewN _ 1)
theorem gb_setCell {a b : World} (h : a.grownBy b none) {g k : Nat} (hg : a.heap.size ≤ g) (v : Value) : a.grownBy (b.setCell ⟨g, k, none⟩ v) none :=
  grown_new h (row := some g) ⟨rfl, rfl, rfl, by simp, fun i hi hne => Below.heap_setCell _ _ _ _ (by simpa using hne)⟩ (fun i e => by have := Option.some.inj e; omega)

/-- The array of the powers behind k rounds. -/
def powTo (k : Nat) : Array Value := Array.ofFn (n := 255) fun i => .int .u8 ((if i.1 < k then M.pw i.1 else 0 : Nat) : Int)
/-- The array of the logarithms behind k rounds. -/
def logTo (k : Nat) : Array Value := Array.ofFn (n := 256) fun i => .int .u8 ((M.lgTo k i.1 : Nat) : Int)

theorem powTo_size (k : Nat) : (powTo k).size = 255 := by simp [powTo]
theorem logTo_size (k : Nat) : (logTo k).size = 256 := by simp [logTo]

theorem powTo_get (k i : Nat) (h : i < 255) : (powTo k)[i]? = some (.int .u8 ((if i < k then M.pw i else 0 : Nat) : Int)) := by simp [powTo, h]
theorem logTo_get (k i : Nat) (h : i < 256) : (logTo k)[i]? = some (.int .u8 ((M.lgTo k i : Nat) : Int)) := by simp [logTo, h]

theorem powTo_succ (k : Nat) : (powTo k).setIfInBounds k (.int .u8 ((M.pw k : Nat) : Int)) = powTo (k + 1) := by
  apply Array.ext_getElem?
  intro i
  by_cases h : i < 255
  · rw [powTo_get _ _ h, Array.getElem?_setIfInBounds]
    by_cases hk : k = i
    · subst hk; simp [powTo_size, h]
    · rw [if_neg hk, powTo_get _ _ h]
      have : (i < k + 1) = (i < k) := by apply propext; omega
      simp [this]
  · have h1 : ((powTo k).setIfInBounds k (.int .u8 ((M.pw k : Nat) : Int)))[i]? = none := by simp [powTo_size]; omega
    have h2 : (powTo (k + 1))[i]? = none := by simp [powTo_size]; omega
    rw [h1, h2]

theorem logTo_succ (k : Nat) : (logTo k).setIfInBounds (M.pw k) (.int .u8 (k : Int)) = logTo (k + 1) := by
  apply Array.ext_getElem?
  intro i
  by_cases h : i < 256
  · rw [logTo_get _ _ h, Array.getElem?_setIfInBounds]
    by_cases hk : M.pw k = i
    · subst hk; simp [logTo_size, h, M.lgTo]
    · rw [if_neg hk, logTo_get _ _ h]
      simp [M.lgTo, hk]
  · have h1 : ((logTo k).setIfInBounds (M.pw k) (.int .u8 (k : Int)))[i]? = none := by simp [logTo_size]; omega
    have h2 : (logTo (k + 1))[i]? = none := by simp [logTo_size]; omega
    rw [h1, h2]

theorem zero43 (w : World) : (zeroValue 83).run Try.prog w = .ok (.agg (powTo 0)) w := by
  have h : (Try.prog.info? 83).map (fun i => (i.zero, i.size)) = some (some (.agg (powTo 0)), 255) := by kernel_rfl
  cases hq : Try.prog.info? 83 with
  | none => simp [hq] at h
  | some i => simp [hq] at h; simp [zeroValue, typeInfo, hq, h.1]
theorem zero44 (w : World) : (zeroValue 84).run Try.prog w = .ok (.agg (logTo 0)) w := by
  have h : (Try.prog.info? 84).map (fun i => (i.zero, i.size)) = some (some (.agg (logTo 0)), 256) := by kernel_rfl
  cases hq : Try.prog.info? 84 with
  | none => simp [hq] at h
  | some i => simp [hq] at h; simp [zeroValue, typeInfo, hq, h.1]

/-- Two results that lie in memory, each a whole array. -/
theorem results_rows2 {P : Program} {fn : Func} {p q : Tmp} {ty tz : TypeId} (h : fn.results = #[.cell p ty, .cell q tz]) (tmps : Array Value) (w : World) (g k : Nat) (t u : TypeId) (cs ds : Array Value) (fr fs : Nat × Nat) (d e : TypeDesc)
    (hp : tmps.getD p undef = .pointer (some ⟨g, 0, none⟩)) (hq : tmps.getD q undef = .pointer (some ⟨k, 0, none⟩)) (hg : w.heap[g]? = some (.cells cs t fr)) (hk : w.heap[k]? = some (.cells ds u fs))
    (hu : P.underlying ty = some d) (hv : P.underlying tz = some e) (hd : (match d with | .struct _ | .array _ _ => true | _ => false) = true) (he : (match e with | .struct _ | .array _ _ => true | _ => false) = true)
    (hi : (P.info? ty).map (·.size) = some cs.size) (hj : (P.info? tz).map (·.size) = some ds.size) :
    (results fn tmps).run P w = .ok (.tuple #[.agg cs, .agg ds]) w := by
  have hp' : tmps[p]?.getD undef = .pointer (some ⟨g, 0, none⟩) := by simpa using hp
  have hq' : tmps[q]?.getD undef = .pointer (some ⟨k, 0, none⟩) := by simpa using hq
  simp [results, h, hp', hq', asAddr, run_loadVar_row w g t ty cs fr d hg hu hd hi, run_loadVar_row w k u tz ds fs e hk hv he hj]

/-- One step of a region that draws: a whole array is read. -/
theorem step_load_row {P : Program} {ops : Array Oper} {o : Oper} {a : Act} {w : World} {K : Act → World → Prop} {Q : Exit → Act → World → Prop} {E : Prop}
    (hgd : o.guard = none) (ty : TypeId) (x : Operand) (ho : o.op = .load ty x) (g : Nat) (hx : a.eval x = .pointer (some ⟨g, 0, none⟩)) (t : TypeId) (cs : Array Value) (fr : Nat × Nat) (d : TypeDesc)
    (hg : w.heap[g]? = some (.cells cs t fr)) (hu : P.underlying ty = some d) (hd : (match d with | .struct _ | .array _ _ => true | _ => false) = true) (hi : (P.info? ty).map (·.size) = some cs.size)
    (h : K (a.put o.dst (.agg cs)) w) : if Region.wanted o (yielded ops a.tmps) = true then Oper.wp P o a w K Q else E := by
  rw [if_pos (by simp [Region.wanted, hgd])]
  exact wp_load_row ty x ho g hx t cs fr d hg hu hd hi h

/-- One step of a region that draws: a whole array is laid where it lies already. -/
theorem step_store_same {P : Program} {ops : Array Oper} {o : Oper} {a : Act} {w : World} {K : Act → World → Prop} {Q : Exit → Act → World → Prop} {E : Prop}
    (hgd : o.guard = none) (ty : TypeId) (x y : Operand) (ho : o.op = .store ty x y) (g : Nat) (cells : Array Value) (hx : a.eval x = .pointer (some ⟨g, 0, none⟩)) (hy : a.eval y = .agg cells)
    (t : TypeId) (hg : w.heap[g]? = some (.cells cells t (0, 0))) (hi : (P.info? ty).map (·.size) = some cells.size) (h1 : cells.all (·.oneCell') = true)
    (h : K (a.put o.dst undef) w) : if Region.wanted o (yielded ops a.tmps) = true then Oper.wp P o a w K Q else E := by
  rw [if_pos (by simp [Region.wanted, hgd])]
  exact wp_store_row ty x y ho g cells hx hy t cells hg hi rfl h1 (by rw [setRow_self w g cells t (0, 0) hg]; exact h)

theorem powTo_one (k : Nat) : (powTo k).all (·.oneCell') = true := by
  rw [Array.all_eq_true_iff_forall_mem]
  intro v hv
  obtain ⟨i, _, rfl⟩ := Array.mem_ofFn.1 hv
  rfl
theorem logTo_one (k : Nat) : (logTo k).all (·.oneCell') = true := by
  rw [Array.all_eq_true_iff_forall_mem]
  intro v hv
  obtain ⟨i, _, rfl⟩ := Array.mem_ofFn.1 hv
  rfl

theorem info43 (k : Nat) : (Try.prog.info? 83).map (·.size) = some (powTo k).size := by rw [powTo_size]; kernel_rfl
theorem info44 (k : Nat) : (Try.prog.info? 84).map (·.size) = some (logTo k).size := by rw [logTo_size]; kernel_rfl

set_option maxHeartbeats 800000 in
set_option maxRecDepth 100000 in
theorem tables_any (w : World) :
    Calls Try.prog 51 #[] w fun e w' => e = .returned (.tuple #[.agg (powTo 255), .agg (logTo 255)]) ∧ w.grownBy w' none := by
  have z43 := zero43
  have z44 := zero44
  go_enter Try.func51, Try.ntmps51
  go_wp2
  clear z43 z44
  go_loopw [2, 4] (fun tp ti wr => ∃ k : Nat, k ≤ 255 ∧ tp = .int .u8 (M.pw k : Nat) ∧ ti = .int .i64 k ∧ wr.heap[w.heap.size]? = some (.cells (powTo k) 83 (0, 0)) ∧ wr.heap[w.heap.size + 1]? = some (.cells (logTo k) 84 (0, 0)) ∧ w.grownBy wr none) (fun _ ti _ => 255 - (intOf ti).toNat)
  case atStart => 
    refine ⟨0, by omega, rfl, rfl, ?_, ?_, ?_⟩
    · exact heap_alloc2_old w _ _
    · exact heap_alloc2_new w _ _
    · exact gb_alloc (gb_alloc (World.grownBy.refl _ _) _) _
  case round =>
    obtain ⟨k, hk, rfl, rfl, hp, hl, hG⟩ := hrel
    have HP : Hid (wr.heap[w.heap.size]? = some (.cells (powTo k) 83 (0, 0))) := hp
    have HL : Hid (wr.heap[w.heap.size + 1]? = some (.cells (logTo k) 84 (0, 0))) := hl
    have HG : Hid (w.grownBy wr none) := hG
    have hpw : M.pw k < 256 := M.pw_lt k
    by_cases hlt : k < 255
    · have hc1 : wr.cell? ⟨w.heap.size, k, none⟩ = some (.int .u8 ((if k < k then M.pw k else 0 : Nat) : Int)) := by rw [cell_of_row _ _ _ _ _ _ hp, powTo_get _ _ hlt]
      have hf1 : wr.frozen? ⟨w.heap.size, k, none⟩ = false := frozen_of_row _ _ _ _ _ hp
      have hc2 : wr.cell? ⟨w.heap.size + 1, M.pw k, none⟩ = some (.int .u8 ((M.lgTo k (M.pw k) : Nat) : Int)) := by rw [cell_of_row _ _ _ _ _ _ hl, logTo_get _ _ hpw]
      have hf2 : wr.frozen? ⟨w.heap.size + 1, M.pw k, none⟩ = false := frozen_of_row _ _ _ _ _ hl
      clear hp hl hG
      go_wp2_with (go_at_call 41; refine (double_any _ _ (by omega) (by omega)).mono ?_; rintro e w' ⟨rfl, rfl⟩)
      go_roundw
      case rel =>
        refine ⟨k + 1, by omega, rfl, by go_num, ?_, ?_, ?_⟩
        · rw [heap_setCell_other _ _ _ _ (by simp), heap_setCell_same _ _ _ _ _ _ HP.out, powTo_succ]
        · rw [heap_setCell_same _ _ _ (logTo k) 84 _ (by rw [heap_setCell_other _ _ _ _ (by simp)]; exact HL.out), logTo_succ]
        · exact gb_setCell (gb_setCell HG.out (by simp) _) (by simp) _
      case measure => simp [intOf]; omega
    · obtain rfl : k = 255 := by omega
      have hG' : w.grownBy wr.drew none := gb_drew hG
      have hp' : wr.drew.heap[w.heap.size]? = some (.cells (powTo 255) 83 (0, 0)) := hp
      have hl' : wr.drew.heap[w.heap.size + 1]? = some (.cells (logTo 255) 84 (0, 0)) := hl
      clear hp hl hG hpw
      go_wp2_with fail
      refine wp_region_any (by kernel_rfl) ?_
      change wpAny _ _ _ _ _ _ _ (World.drew _)
      generalize wr.drew = wd at *
      have L0 := fun ops o a K Q E h1 h2 h3 => @step_load_row Try.prog ops o a wd K Q E h1 83 (.tmp 0) h2 w.heap.size h3 83 (powTo 255) (0, 0) _ hp' Try.underlying83 rfl (info43 255)
      have L1 := fun ops o a K Q E h1 h2 h3 => @step_load_row Try.prog ops o a wd K Q E h1 84 (.tmp 1) h2 (w.heap.size + 1) h3 84 (logTo 255) (0, 0) _ hl' Try.underlying84 rfl (info44 255)
      have S0 := fun ops o a K Q E h1 h2 h3 h4 => @step_store_same Try.prog ops o a wd K Q E h1 83 (.tmp 0) (.tmp 17) h2 w.heap.size (powTo 255) h3 h4 83 hp' (info43 255) (powTo_one 255)
      have S1 := fun ops o a K Q E h1 h2 h3 h4 => @step_store_same Try.prog ops o a wd K Q E h1 84 (.tmp 1) (.tmp 18) h2 (w.heap.size + 1) (logTo 255) h3 h4 84 hl' (info44 255) (logTo_one 255)
      have fin : ∀ a : Act, a.defers = [] → a.tmps.getD 0 undef = .pointer (some ⟨w.heap.size, 0, none⟩) → a.tmps.getD 1 undef = .pointer (some ⟨w.heap.size + 1, 0, none⟩) → bodyPost Try.prog Try.f51 (fun e w' => e = .returned (.tuple #[.agg (powTo 255), .agg (logTo 255)]) ∧ w.grownBy w' none) .ret a wd := by
        intro a hd h0 h1
        exact bodyPost_ret (results_rows2 rfl a.tmps wd _ _ 83 84 _ _ _ _ _ _ h0 h1 hp' hl' Try.underlying83 Try.underlying84 rfl rfl (info43 255) (info44 255)) hd ⟨rfl, hG'⟩
      refine wpAny_ready (rs := [0, 1]) (by kernel_rfl) (by simp) ?_
      refine AllReady.cons rfl (fun K hK => ?_) (AllReady.cons rfl (fun K hK => ?_) AllReady.nil)
      · refine L0 _ _ _ _ _ _ rfl rfl rfl ?_
        refine hK _ _ ?_
        clear hK K
        refine wpAny_ready (rs := [1, 2]) (by kernel_rfl) (by simp) ?_
        refine AllReady.cons rfl (fun K hK => ?_) (AllReady.cons rfl (fun K hK => ?_) AllReady.nil)
        · refine L1 _ _ _ _ _ _ rfl rfl rfl ?_
          refine hK _ _ ?_
          clear hK K
          refine wpAny_ready (rs := [2]) (by kernel_rfl) (by simp) ?_
          refine AllReady.cons rfl (fun K hK => ?_) AllReady.nil
          · refine S0 _ _ _ _ _ _ rfl rfl rfl rfl ?_
            refine hK _ _ ?_
            clear hK K
            refine wpAny_ready (rs := [3]) (by kernel_rfl) (by simp) ?_
            refine AllReady.cons rfl (fun K hK => ?_) AllReady.nil
            · refine S1 _ _ _ _ _ _ rfl rfl rfl rfl ?_
              refine hK _ _ ?_
              clear hK K
              refine wpAny_done (by kernel_rfl) ?_ _
              clear L0 L1 S0 S1 hp' hl' hG'
              go_wp2
              exact fin _ rfl rfl rfl
        · refine S0 _ _ _ _ _ _ rfl rfl rfl rfl ?_
          refine hK _ _ ?_
          clear hK K
          refine wpAny_ready (rs := [1]) (by kernel_rfl) (by simp) ?_
          refine AllReady.cons rfl (fun K hK => ?_) AllReady.nil
          · refine L1 _ _ _ _ _ _ rfl rfl rfl ?_
            refine hK _ _ ?_
            clear hK K
            refine wpAny_ready (rs := [3]) (by kernel_rfl) (by simp) ?_
            refine AllReady.cons rfl (fun K hK => ?_) AllReady.nil
            · refine S1 _ _ _ _ _ _ rfl rfl rfl rfl ?_
              refine hK _ _ ?_
              clear hK K
              refine wpAny_done (by kernel_rfl) ?_ _
              clear L0 L1 S0 S1 hp' hl' hG'
              go_wp2
              exact fin _ rfl rfl rfl
      · refine L1 _ _ _ _ _ _ rfl rfl rfl ?_
        refine hK _ _ ?_
        clear hK K
        refine wpAny_ready (rs := [0]) (by kernel_rfl) (by simp) ?_
        refine AllReady.cons rfl (fun K hK => ?_) AllReady.nil
        · refine L0 _ _ _ _ _ _ rfl rfl rfl ?_
          refine hK _ _ ?_
          clear hK K
          refine wpAny_ready (rs := [2]) (by kernel_rfl) (by simp) ?_
          refine AllReady.cons rfl (fun K hK => ?_) AllReady.nil
          · refine S0 _ _ _ _ _ _ rfl rfl rfl rfl ?_
            refine hK _ _ ?_
            clear hK K
            refine wpAny_ready (rs := [3]) (by kernel_rfl) (by simp) ?_
            refine AllReady.cons rfl (fun K hK => ?_) AllReady.nil
            · refine S1 _ _ _ _ _ _ rfl rfl rfl rfl ?_
              refine hK _ _ ?_
              clear hK K
              refine wpAny_done (by kernel_rfl) ?_ _
              clear L0 L1 S0 S1 hp' hl' hG'
              go_wp2
              exact fin _ rfl rfl rfl
end Go.Proofs.Ytdeajclghlbhcaa
