/- A write as a value: build, and its zero. -/
import Derived.Test.YtfmlohedebdomaaFuse6
set_option linter.unusedSimpArgs false
set_option linter.unusedVariables false
namespace Go.Proofs.Ytfmlohedebdomaa
open Go.RowKit

theorem seg_step {α : Type} (l : List α) (k : Nat) (v : α) (rest : List α) (hk : k + (rest.length + 1) ≤ l.length) :
    (l.set k v).take (k + 1) ++ rest ++ (l.set k v).drop (k + 1 + rest.length) = l.take k ++ (v :: rest) ++ l.drop (k + (rest.length + 1)) := by
  have h1 : (l.set k v).take (k + 1) = l.take k ++ [v] := by
    rw [List.take_succ_eq_append_getElem (by simp; omega)]
    simp [List.take_set_of_le]
  have h2 : (l.set k v).drop (k + 1 + rest.length) = l.drop (k + (rest.length + 1)) := by
    rw [List.drop_set_of_lt (by omega)]
    congr 1
    omega
  rw [h1, h2]
  simp

theorem fold_set (vs : List Value) : ∀ (i off : Nat) (cs : Array Value), off + i + vs.length ≤ cs.size →
    (vs.zipIdx i).foldl (fun cs (x : Value × Nat) => cs.setIfInBounds (off + x.2) x.1) cs = (cs.toList.take (off + i) ++ vs ++ cs.toList.drop (off + i + vs.length)).toArray := by
  induction vs with
  | nil => intro i off cs h; simp
  | cons v r ih =>
    intro i off cs h
    simp only [List.zipIdx_cons, List.foldl_cons]
    rw [ih (i + 1) off _ (by simp at h ⊢; omega)]
    congr 1
    have := seg_step cs.toList (off + i) v r (by simp at h ⊢; omega)
    rw [List.length_cons, ← this, Array.toList_setIfInBounds]
    simp only [Nat.add_assoc]

theorem fill_one {place : Nat → Option (Nat × Nat)} {cells : Array Value} {i off size : Nat} {v : Value} {rest : List (Nat × Value)} (hp : place i = some (off, size)) {cs : List Value} (hc : v.cells = cs.toArray) (hs : cs.length = size) (hl : off + cs.length ≤ cells.size) {out : List Value} (e : cells.toList.take off ++ cs ++ cells.toList.drop (off + cs.length) = out) :
    Instr.fill place cells ((i, v) :: rest) = Instr.fill place out.toArray rest := by
  subst e
  rw [Instr.fill, hp]
  have hsz : v.cells.size = size := by rw [hc]; simpa using hs
  simp only [hsz]
  rw [if_neg (by simp; omega), hc]
  congr 1
  have := fold_set cs 0 off cells (by omega)
  simpa using this

theorem zeroW : (Try.prog.info? 79).map (fun i => (i.zero, i.size, i.bytes)) = some (some (.agg (wcells ⟨0, 0, AM.zs 64, AM.zs 64⟩).toArray), 130, 144) := by kernel_rfl
theorem run_zeroW (w : World) : (zeroValue 79).run Try.prog w = .ok (.agg (wcells ⟨0, 0, AM.zs 64, AM.zs 64⟩).toArray) w := by
  obtain ⟨i, hi, h0, h1, h2⟩ := info_parts zeroW
  simp [zeroValue, typeInfo, hi, h0]
theorem Try.sizeInt : (Try.prog.info? 3).map (·.size) = some 1 := by kernel_rfl
theorem Try.sizeSec : (Try.prog.info? 77).map (·.size) = some 64 := by kernel_rfl
theorem Try.sizeWr : (Try.prog.info? 79).map (·.size) = some 130 := by kernel_rfl
theorem run_size {t n : Nat} (h : (Try.prog.info? t).map (·.size) = some n) (w : World) : (sizeOf t).run Try.prog w = .ok n w := by
  cases hq : Try.prog.info? t with
  | none => simp [hq] at h
  | some i => simp [hq] at h; simp [sizeOf, typeInfo, hq, h]

theorem run_build_wr (w : World) (d k : Nat) (was : List Nat) (h : was.length = 64) :
    (Instr.build 79 #[(0, .int .i64 (d : Int)), (1, .int .i64 (k : Int)), (2, .agg (was.map bv).toArray)]).run Try.prog w = .ok (.agg (wcells ⟨d, k, was, AM.zs 64⟩).toArray) w := by
  have hZ : ((AM.zs 64).map bv).length = 64 := by rw [List.length_map, AM.zs_len]
  have hW : (was.map bv).length = 64 := by rw [List.length_map, h]
  have hf : Instr.fill (fun x => ([(0, 1), (1, 1), (2, 64), (66, 64)] : List (Nat × Nat))[x]?) (wcells ⟨0, 0, AM.zs 64, AM.zs 64⟩).toArray [(0, .int .i64 (d : Int)), (1, .int .i64 (k : Int)), (2, .agg (was.map bv).toArray)] = some (wcells ⟨d, k, was, AM.zs 64⟩).toArray := by
    unfold wcells
    simp only
    generalize (AM.zs 64).map bv = Z at hZ
    rw [fill_one (cs := [.int .i64 (d : Int)]) (out := .int .i64 (d : Int) :: .int .i64 ((0 : Nat) : Int) :: (Z ++ Z)) rfl rfl rfl (by simp) rfl,
      fill_one (cs := [.int .i64 (k : Int)]) (out := .int .i64 (d : Int) :: .int .i64 (k : Int) :: (Z ++ Z)) rfl rfl rfl (by simp) rfl,
      fill_one (cs := was.map bv) (out := .int .i64 (d : Int) :: .int .i64 (k : Int) :: (was.map bv ++ Z)) rfl rfl hW (by simp [hZ, h]) (by rw [hW]; simp [hZ])]
    rfl
  simp [Instr.build, run_zeroW, run_underlying Try.underlying79, run_size Try.sizeInt, run_size Try.sizeSec, Value.cells, hf]

theorem run_buildSlice_wr (w : World) (l : AM.Wr) (h1 : l.was.length = 64) (h2 : l.now.length = 64) :
    (Instr.buildSlice 62 1 #[(0, .agg (wcells l).toArray)]).run Try.prog w = .ok (.slice (some ⟨w.heap.size, 0, none⟩) 1 1) (w.alloc (.cells (wcells l).toArray 79)) := by
  have hl := wcells_len h1 h2
  have hf : ∀ z : Array Value, z.size = 130 → Instr.fill (fun i => some (i * 130, 130)) z [(0, .agg (wcells l).toArray)] = some (wcells l).toArray := by
    intro z hz
    rw [fill_one (cs := wcells l) (out := wcells l) rfl rfl hl (by rw [hl]; omega) (by rw [hl]; simp [hz])]
    rfl
  simp [Instr.buildSlice, run_underlying Try.underlying62, run_size Try.sizeWr, run_zeroW, newRow, hf]

/-- append to an own row, with the place of what is told: as it was, or a new one. -/
theorem run_append_at {w : World} {t ty e : TypeId} {z : Value} {size bytes : Nat} (hu : Try.prog.underlying t = some (.slice e)) (hinfo : (Try.prog.info? e).map (fun i => (i.zero, i.size, i.bytes)) = some (some z, size, bytes)) (hzs : z.cells.size = size) (hsz : 0 < size)
    {v : Value} {n : Nat} {xs : List Value} (hown : w.ownsRow 0 e size v n xs) {a : Addr} {m c : Nat} {news : List Value} (hm : 0 < m) (hl : news.length = m * size) (hnews : ∀ j u, news[j]? = some u → w.cell? (a.add j) = some u) (h1 : ∀ u ∈ news, u.oneCell' = true)
    (h63 : n + m ≤ maxLen) (hbytes : (n + m) * bytes ≤ 140737488355328) :
    ∃ g cap w', (Builtin.append_ #[t, t] ty #[v, .slice (some a) m c]).run Try.prog w = .ok (.slice (some ⟨g, 0, none⟩) (n + m) cap) w' ∧ w'.ownsRow 0 e size (.slice (some ⟨g, 0, none⟩) (n + m) cap) (n + m) (xs ++ news) ∧ w.grownBy w' v.ownBlock ∧ (v.ownBlock = some g ∨ g = w.heap.size) := by
  obtain ⟨i, hi, hz0, hz1, hz2⟩ := info_parts hinfo
  obtain ⟨v', w', hr, h2, h3, _⟩ := run_append_own (P := Try.prog) w 0 t ty e i z size bytes hu hi hz0 hz1 hz2 hzs hsz v n xs hown a m c news hl hnews h1 h63 hbytes (Nat.zero_le _)
  rcases h2.2 with ⟨_, h4⟩ | ⟨g, cap, cur, h4, _⟩
  · omega
  · subst h4
    refine ⟨g, cap, w', hr, h2, h3, ?_⟩
    subst hz1
    subst hz2
    rcases hown.2 with ⟨rfl, rfl⟩ | ⟨g0, cap0, cur0, rfl, _, hg0, hnc, hcm, hcs, htake⟩
    · have hr2 := run_append_nil (P := Try.prog) w t ty e i z hu hi hz0 a m c news hl hnews hm (by simp only [maxLen] at h63; omega) (by have hb := hbytes; simp only [Nat.zero_add] at hb; omega)
      rw [hr] at hr2
      injection hr2 with hr2 _
      injection hr2 with hr2 _ _
      injection hr2 with hr2
      injection hr2 with hr2 _
      exact .inr hr2
    · by_cases hroom : n + m ≤ cap0
      · have hfit : n * i.size + news.length ≤ cur0.size := by rw [hl, hcs, ← Nat.add_mul]; exact Nat.mul_le_mul_right _ hroom
        have hr2 := run_append_room (P := Try.prog) w t ty e i hu hi g0 n cap0 cur0 hg0 a m c news hl hnews h1 hroom hfit
        rw [hr] at hr2
        injection hr2 with hr2 _
        injection hr2 with hr2 _ _
        injection hr2 with hr2
        injection hr2 with hr2 _
        exact .inl (by rw [hr2]; rfl)
      · have holds : ∀ j u, xs[j]? = some u → w.cell? ((⟨g0, 0, none⟩ : Addr).add j) = some u := hown.cells (g := g0) rfl
        have hr2 := run_append_grow (P := Try.prog) w t ty e i z hu hi hz0 ⟨g0, 0, none⟩ n cap0 xs hown.1 holds a m c news hl hnews (by omega) (by simp only [maxLen] at h63; omega) (growslice_fits (by omega) hbytes)
        rw [hr] at hr2
        injection hr2 with hr2 _
        injection hr2 with hr2 _ _
        injection hr2 with hr2
        injection hr2 with hr2 _
        exact .inr hr2

/-- copy of bytes into whatever block. -/
theorem run_copy_cells {w : World} {T : TypeId} {g o dLen dCap : Nat} {s : Value} {cur : Array Value} {ys : List Nat} (hg : w.heap[g]? = some (.cells cur T (0, 0))) (hs : Vec w s ys) (hy : ys ≠ []) (hd : ys.length ≤ dLen) (hf : o + ys.length ≤ cur.size) (ty : TypeId) :
    ∃ w', (Builtin.copy_ #[32, 32] ty #[.slice (some ⟨g, o, none⟩) dLen dCap, s]).run Try.prog w = .ok (goInt ys.length) w' ∧ w'.heap[g]? = some (.cells (cur.toList.take o ++ ys.map bv ++ cur.toList.drop (o + ys.length)).toArray T (0, 0)) ∧ w.grownBy w' (some g) := by
  obtain ⟨s1, s2, p, cap, rfl, s3, s4, s5⟩ := hs
  obtain ⟨b, off, rfl, hc⟩ := s5 hy
  have hr := run_copy_row (P := Try.prog) w 32 32 ty 5 g o dLen dCap ⟨b, off, none⟩ ys.length cap cur T (ys.map bv) Try.underlying32 Try.size5 hg (by rw [List.length_map]; exact (Nat.min_eq_left hd).symm)
    (fun j v hj => by
      have hj' : j < ys.length := by
        have := (List.getElem?_eq_some_iff.1 hj).1
        simpa using this
      rw [getD_map_bv ys j hj'] at hj
      rw [add_off, hc j hj']; exact hj) (by simpa using hf) (fun v hv => by obtain ⟨x, _, rfl⟩ := List.mem_map.1 hv; rfl)
  refine ⟨w.setRow g (cur.toList.take o ++ ys.map bv ++ cur.toList.drop (o + ys.length)).toArray, ?_, setRow_heap w g _ _ T _ hg, ⟨rfl, rfl, rfl, by simp, fun k _ hk => setRow_other w g k _ (fun e => hk (by simp [e]))⟩⟩
  rw [hr]
  simp
theorem wpList_copy_cells {w : World} {ops : Array Oper} {rest : List Oper} {o : Oper} {a : Act} {Q : Exit → Act → World → Prop} (hgd : o.guard = none) (d s : Operand)
    (ho : o.op = .call { callee := .builtin .copy, args := #[d, s], argTypes := #[32, 32] }) (sv : Value) {T : TypeId} {g f dLen dCap : Nat} {cur : Array Value} {ys : List Nat} (hed : a.eval d = .slice (some ⟨g, f, none⟩) dLen dCap) (hes : a.eval s = sv)
    (hg : w.heap[g]? = some (.cells cur T (0, 0))) (hs : Vec w sv ys) (hy : ys ≠ []) (hd : ys.length ≤ dLen) (hf : f + ys.length ≤ cur.size)
    (h : ∀ w', w'.heap[g]? = some (.cells (cur.toList.take f ++ ys.map bv ++ cur.toList.drop (f + ys.length)).toArray T (0, 0)) → w.grownBy w' (some g) → wpList Try.prog ops Q rest (a.put o.dst (goInt ys.length)) w') : wpList Try.prog ops Q (o :: rest) a w := by
  refine wpList_plain hgd fun K hK => ?_
  obtain ⟨w', hrun, r1, r2⟩ := run_copy_cells (dCap := dCap) hg hs hy hd hf o.type
  unfold Oper.wp
  simp [execOp, ho, resolve, invoke, builtin, hed, hes, hrun, Result.andThen]
  exact hK _ _ (h _ r1 r2)

theorem wcells_one (l : AM.Wr) : ∀ u ∈ wcells l, u.oneCell' = true := by
  intro u hu
  simp only [wcells, List.mem_cons, List.mem_append, List.mem_map] at hu
  rcases hu with rfl | rfl | ⟨x, _, rfl⟩ | ⟨x, _, rfl⟩ <;> rfl
theorem step_append_wr {ops : Array Oper} {o : Oper} {ac : Act} {w : World} {K : Act → World → Prop} {Q : Exit → Act → World → Prop} {E : Prop} (hgd : o.guard = none) (d s : Operand)
    (ho : o.op = .call { callee := .builtin .append, args := #[d, s], argTypes := #[62, 62] }) (dv : Value) {g c : Nat} {L : List AM.Wr} {l : AM.Wr} (hed : ac.eval d = dv) (hes : ac.eval s = .slice (some ⟨g, 0, none⟩) 1 c)
    (hr : w.ownsRow 0 79 130 dv L.length (wrow L)) (hg : w.heap[g]? = some (.cells (wcells l).toArray 79 (0, 0))) (h1 : l.was.length = 64) (h2 : l.now.length = 64) (hL : L.length ≤ 1000000)
    (h : ∀ g' cap w', w'.ownsRow 0 79 130 (.slice (some ⟨g', 0, none⟩) (L.length + 1) cap) (L.length + 1) (wrow L ++ wcells l) → w.grownBy w' dv.ownBlock → (dv.ownBlock = some g' ∨ g' = w.heap.size) → K (ac.put o.dst (.slice (some ⟨g', 0, none⟩) (L.length + 1) cap)) w') :
    if Region.wanted o (yielded ops ac.tmps) = true then Oper.wp Try.prog o ac w K Q else E := by
  have hw : Region.wanted o (yielded ops ac.tmps) = true := by simp [Region.wanted, hgd]
  rw [if_pos hw]
  obtain ⟨g', cap, w', hrun, r1, r2, r3⟩ := run_append_at (ty := o.type) (c := c) Try.underlying62 zeroW (by simp [Value.cells, wcells, AM.zs_len]) (by decide) hr (a := ⟨g, 0, none⟩) (m := 1) (news := wcells l) (by decide) (by rw [wcells_len h1 h2]) (fun j u hj => by rw [add_at, Nat.zero_add]; exact topCell hg (by rw [List.getElem?_toArray]; exact hj)) (wcells_one l) (by unfold maxLen; omega) (by omega)
  unfold Oper.wp
  simp [execOp, ho, resolve, invoke, builtin, hed, hes, hrun, Result.andThen]
  exact h _ _ _ r1 r2 r3
theorem Vec.upd {F : Nat → Prop} {w w' : World} {v : Value} {xs : List Nat} (h : Vec w v xs) (u : Upd F w w') (hF : xs ≠ [] → ∀ g, v.ownBlock = some g → ¬ F g) : Vec w' v xs := by
  obtain ⟨h1, h2, p, cap, rfl, h3, h4, h5⟩ := h
  refine ⟨h1, h2, p, cap, rfl, h3, h4, fun hx => ?_⟩
  obtain ⟨b, off, rfl, hc⟩ := h5 hx
  refine ⟨b, off, rfl, fun j hj => ?_⟩
  have hcell := hc j hj
  have hlt := World.block_lt_of_cell? w _ hcell
  rw [World.cell?_of_block (w := w) (u.block b hlt (hF hx b rfl))]
  exact hcell
theorem wpList_build_wr {w : World} {ops : Array Oper} {rest : List Oper} {o : Oper} {a : Act} {Q : Exit → Act → World → Prop} (hgd : o.guard = none) (x y z : Operand) (ho : o.op = .build 79 #[(0, x), (1, y), (2, z)]) {d k : Nat} {was : List Nat} {AR : Array Value}
    (hx : a.eval x = .int .i64 (d : Int)) (hy : a.eval y = .int .i64 (k : Int)) (hz : a.eval z = .agg (was.map bv).toArray) (hw : was.length = 64) (hA : AR = (wcells ⟨d, k, was, AM.zs 64⟩).toArray)
    (h : wpList Try.prog ops Q rest (a.put o.dst (.agg AR)) w) : wpList Try.prog ops Q (o :: rest) a w := by
  refine wpList_plain hgd fun K hK => ?_
  have hrun := run_build_wr w d k was hw
  rw [← hA] at hrun
  unfold Oper.wp execOp
  simp [ho, hx, hy, hz, hrun, Result.andThen]
  exact hK _ _ h
theorem step_buildSlice_wr {ops : Array Oper} {o : Oper} {ac : Act} {w : World} {K : Act → World → Prop} {Q : Exit → Act → World → Prop} {E : Prop} (hgd : o.guard = none) (x : Operand)
    (ho : o.op = .buildSlice 62 1 #[(0, x)]) {l : AM.Wr} {AR : Array Value} (hx : ac.eval x = .agg AR) (hA : AR = (wcells l).toArray) (h1 : l.was.length = 64) (h2 : l.now.length = 64)
    (h : K (ac.put o.dst (.slice (some ⟨w.heap.size, 0, none⟩) 1 1)) (w.alloc (.cells AR 79))) :
    if Region.wanted o (yielded ops ac.tmps) = true then Oper.wp Try.prog o ac w K Q else E := by
  have hw : Region.wanted o (yielded ops ac.tmps) = true := by simp [Region.wanted, hgd]
  rw [if_pos hw]
  have hrun := run_buildSlice_wr w l h1 h2
  rw [← hA] at hrun
  unfold Oper.wp execOp
  simp [ho, hx, hrun, Result.andThen]
  exact h
end Go.Proofs.Ytfmlohedebdomaa
