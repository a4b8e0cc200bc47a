/- The document's array: a disk of noughts. -/
import Derived.Test.YtfmlohedebdomaaRLose6
import Derived.Test.YtfmlohedebdomaaLate
set_option linter.unusedSimpArgs false
set_option linter.unusedVariables false
namespace Go.Proofs.Ytfmlohedebdomaa
open Go.RowKit

/-- append of own rows, as a step of a region that draws. -/
theorem step_append_rows {ops : Array Oper} {o : Oper} {ac : Act} {w : World} {K : Act → World → Prop} {Q : Exit → Act → World → Prop} {E : Prop} (hgd : o.guard = none) (d s : Operand) {B : Nat} {t e : TypeId} {z : Value} {size bytes : Nat}
    (ho : o.op = .call { callee := .builtin .append, args := #[d, s], argTypes := #[t, t] }) (hu : Try.prog.underlying t = some (.slice e)) (hinfo : (Try.prog.info? e).map (fun i => (i.zero, i.size, i.bytes)) = some (some z, size, bytes)) (hzs : z.cells.size = size) (hsz : 0 < size)
    {v : Value} {n : Nat} {xs : List Value} {a : Addr} {m c : Nat} {news : List Value} (hed : ac.eval d = v) (hes : ac.eval s = .slice (some a) m c) (hown : w.ownsRow B e size v n xs) (hl : news.length = m * size) (hnews : ∀ j u, news[j]? = some u → w.cell? (a.add j) = some u) (h1 : ∀ u ∈ news, u.oneCell' = true)
    (h63 : n + m ≤ maxLen) (hbytes : (n + m) * bytes ≤ 140737488355328) (hB : B ≤ w.heap.size)
    (h : ∀ v' w', w'.ownsRow B e size v' (n + m) (xs ++ news) → w.grownBy w' v.ownBlock → K (ac.put o.dst v') w') : if Region.wanted o (yielded ops ac.tmps) = true then Oper.wp Try.prog o ac w K Q else E := by
  have hw : Region.wanted o (yielded ops ac.tmps) = true := by simp [Region.wanted, hgd]
  rw [if_pos hw]
  obtain ⟨v', w', hrun, r1, r2⟩ := run_append_rows (ty := o.type) (c := c) hu hinfo hzs hsz hown hl hnews h1 h63 hbytes hB
  unfold Oper.wp
  simp [execOp, ho, resolve, invoke, builtin, hed, hes, hrun, Result.andThen]
  exact h _ _ r1 r2

/-- A disk in the making: v has its first k sectors. -/
structure Blk (w0 w : World) (b2 b3 k : Nat) (v : Value) (vs : List Value) (bs : List (List Nat)) (gone : Bool) : Prop where
  grown : w0.grownBy w none
  lo2 : w0.heap.size ≤ b2
  lo3 : w0.heap.size ≤ b3
  ne : b2 ≠ b3
  res : w.heap[b2]? = some (.cells #[.slice none 0 0, .bool false] 73 (0, 0))
  top : w.heap[b3]? = some (.cells #[v, .bool gone] 73 (0, 0))
  row : w.ownsRow w0.heap.size 32 1 v k vs
  len : bs.length = k
  own : ∀ (i : Nat) (u : Value) (b : List Nat), vs[i]? = some u → bs[i]? = some b → Own w0.heap.size w u b

section
variable {w0 w : World} {b2 b3 k : Nat} {v : Value} {vs : List Value} {bs : List (List Nat)} {gone : Bool}
theorem Own.sameB {B : Nat} {w w' : World} {u : Value} {b : List Nat} (h : Own B w u b) (hb : ∀ g, u.ownBlock = some g → w'.heap[g]? = w.heap[g]?) : Own B w' u b := ⟨h.small, h.len, ownsRow_same h.row hb⟩
theorem Blk.next (h : Blk w0 w b2 b3 k v vs bs gone) {w1 : World} (g1 : w.grownBy w1 none) {u : Value} {b : List Nat} (hu : Own w0.heap.size w1 u b) {v' : Value} {w5 : World} (hr : w5.ownsRow w0.heap.size 32 1 v' (k + 1) (vs ++ [u])) (g5 : w1.grownBy w5 v.ownBlock) :
    Blk w0 (w5.setCell ⟨b3, 0, none⟩ v') b2 b3 (k + 1) v' (vs ++ [u]) (bs ++ [b]) gone ∧ w5.cell? ⟨b3, 0, none⟩ = some v ∧ w5.frozen? ⟨b3, 0, none⟩ = false := by
  have l3 : b3 < w.heap.size := (Array.getElem?_eq_some_iff.1 h.top).1
  have l2 : b2 < w.heap.size := (Array.getElem?_eq_some_iff.1 h.res).1
  have hty : ∀ (i : Nat) (c : Array Value) (t : TypeId), w.heap[i]? = some (.cells c t (0, 0)) → t ≠ 32 → w5.heap[i]? = w.heap[i]? := fun i c t hi ht => by
    have hlt := (Array.getElem?_eq_some_iff.1 hi).1
    rw [g5.block i (Nat.lt_of_lt_of_le hlt g1.size) (fun e => by
      obtain ⟨_, _, c', hc'⟩ := rows_blk h.row e.symm
      exact ne_ty hi hc' ht rfl), g1.block i hlt (by simp)]
  have t5 := (hty b3 _ _ h.top (by decide)).trans h.top
  have r5 := (hty b2 _ _ h.res (by decide)).trans h.res
  have g05 : w0.grownBy w5 none := grown_new (grown_trans h.grown g1) g5 (fun i e => (rows_blk h.row e).1)
  have hs : ∀ i, i ≠ b3 → (w5.setCell ⟨b3, 0, none⟩ v').heap[i]? = w5.heap[i]? := fun i hi => Below.heap_setCell _ _ _ _ hi
  refine ⟨⟨gb_setCell g05 h.lo3 _, h.lo2, h.lo3, h.ne, by rw [hs b2 h.ne]; exact r5, by rw [heap_setCell_same _ _ _ _ _ _ t5]; rfl, ownsRow_same hr (fun g hg => ?_), by simp [h.len], fun i x y hx hy => ?_⟩, topCell (j := 0) t5 rfl, topFrozen 0 t5⟩
  · obtain ⟨_, _, c, hc⟩ := rows_blk hr hg
    exact hs g (ne_ty hc t5 (by decide))
  · have hvl : vs.length = k := by have := h.row.1; omega
    by_cases c : i < k
    · rw [List.getElem?_append_left (by omega)] at hx
      rw [List.getElem?_append_left (by rw [h.len]; exact c)] at hy
      have q := h.own i x y hx hy
      refine q.sameB (fun g hg => ?_)
      obtain ⟨_, _, c, hc⟩ := rows_blk q.row hg
      have e := hty g _ _ hc (by decide)
      rw [hs g (ne_ty (e.trans hc) t5 (by decide)), e]
    · have hi : i = k := by
        have := (List.getElem?_eq_some_iff.1 hx).1
        simp at this
        omega
      subst hi
      rw [← hvl, List.getElem?_append_right (Nat.le_refl _), Nat.sub_self] at hx
      rw [← h.len, List.getElem?_append_right (Nat.le_refl _), Nat.sub_self] at hy
      obtain rfl := Option.some.inj hx
      obtain rfl := Option.some.inj hy
      refine hu.sameB (fun g hg => ?_)
      obtain ⟨_, hlt, c, hc⟩ := rows_blk hu.row hg
      have e : w5.heap[g]? = w1.heap[g]? := g5.block g hlt (fun e => by
        obtain ⟨_, _, c', hc'⟩ := rows_blk h.row e.symm
        have hc2 := (g1.block g (by obtain ⟨_, l, _⟩ := rows_blk h.row e.symm; exact l) (by simp)).trans hc'
        exact ne_ty hc hc2 (by decide) rfl)
      rw [hs g (ne_ty (e.trans hc) t5 (by decide)), e]
end

theorem Try.infoBys : (Try.prog.info? 32).map (fun i => (i.zero, i.size, i.bytes)) = some (some (.slice none 0 0), 1, 24) := by kernel_rfl
theorem Try.sizeDsk : (Try.prog.info? 73).map (·.size) = some 2 := by kernel_rfl
theorem Try.infoBy : (Try.prog.info? 5).map (fun i => (i.zero, i.size, i.bytes)) = some (some (.int .u8 0), 1, 1) := by kernel_rfl
theorem run_make_sec (W : World) : (Instr.makeSlice 32 (.int .i64 64) (.int .i64 64)).run Try.prog W = .ok (.slice (some ⟨W.heap.size, 0, none⟩) 64 64) (W.alloc (.cells (madeCells #[.int .u8 0] 64) 5)) :=
  run_make_row' (P := Try.prog) 32 5 _ 1 Try.underlying32 Try.infoBy rfl .i64 .i64 64 (by decide) (by decide) W
theorem made_sec (w : World) : Own w.heap.size (w.alloc (.cells (madeCells #[.int .u8 0] 64) 5)) (.slice (some ⟨w.heap.size, 0, none⟩) 64 64) (AM.zs 64) := made_own (by decide) rfl

set_option maxRecDepth 100000 in
theorem rblank_yes (w : World) {n : Nat} (hn : n ≤ 4096) : Calls Try.prog 38 #[.int .i64 (n : Int)] w fun e w' => ∃ p c vs, e = .returned (.agg #[.slice p n c, .bool false]) ∧ w'.ownsRow w.heap.size 32 1 (.slice p n c) n vs ∧ (∀ (k : Nat) (u : Value), vs[k]? = some u → Own w.heap.size w' u (AM.zs 64)) ∧ w.grownBy w' none := by
  have hmk := run_make_sec
  go_enter Try.func38, Try.ntmps38
  go_wp2
  have h0 : Blk w ((w.alloc (.cells #[.slice none 0 0, .bool false] 73)).alloc (.cells #[.slice none 0 0, .bool false] 73)) w.heap.size (w.heap.size + 1) 0 (.slice none 0 0) [] (List.replicate 0 (AM.zs 64)) false :=
    ⟨gb_alloc (gb_alloc (World.grownBy.refl _ _) _) _, Nat.le_refl _, Nat.le_succ _, by omega, heap_old _ _ (heap_alloc_new w _), heap_new _ _ _ (by simp), World.ownsRow_nil _ _ _ _, rfl, fun i u b hu => by simp at hu⟩
  have H0 : Hid (∃ vs, Blk w ((w.alloc (.cells #[.slice none 0 0, .bool false] 73)).alloc (.cells #[.slice none 0 0, .bool false] 73)) w.heap.size (w.heap.size + 1) 0 (.slice none 0 0) vs (List.replicate 0 (AM.zs 64)) false) := ⟨[], h0⟩
  clear h0
  generalize (w.alloc (.cells #[.slice none 0 0, .bool false] 73)).alloc (.cells #[.slice none 0 0, .bool false] 73) = W0 at *
  obtain ⟨b3, hb3⟩ : ∃ b3, b3 = w.heap.size + 1 := ⟨_, rfl⟩
  obtain ⟨b2, hb2⟩ : ∃ b2, b2 = w.heap.size := ⟨_, rfl⟩
  rw [← hb3, ← hb2] at H0 ⊢
  clear hb3 hb2
  go_loopw [4] (fun ti wr => ∃ k : Nat, k ≤ n ∧ ti = .int .i64 (k : Int) ∧ Hid (∃ p c vs, Blk w wr b2 b3 k (.slice p k c) vs (List.replicate k (AM.zs 64)) false)) (fun ti _ => n - (intOf ti).toNat)
  case atStart => exact ⟨0, by omega, rfl, none, 0, H0.out⟩
  case round =>
    clear H0
    obtain ⟨k, hk, rfl, HX⟩ := hrel
    obtain ⟨p, c, vs, h⟩ := HX.out
    by_cases hlt : k < n
    · have i1 : (k : Int) < (n : Int) := by omega
      have H : Hid (Blk w wr b2 b3 k (.slice p k c) vs (List.replicate k (AM.zs 64)) false) := h
      have HC : Hid (wr.cell? ⟨b3, 0, none⟩ = some (.slice p k c)) := topCell (j := 0) h.top rfl
      have l3 : b3 < wr.heap.size := (Array.getElem?_eq_some_iff.1 h.top).1
      have G1 : Hid (wr.grownBy (wr.drew.alloc (.cells (madeCells #[.int .u8 0] 64) 5)) none) := gb_alloc (gb_drew (World.grownBy.refl _ _)) _
      have G2 : Hid (wr.grownBy ((wr.drew.alloc (.cells (madeCells #[.int .u8 0] 64) 5)).alloc (.cells #[.slice (some ⟨wr.heap.size, 0, none⟩) 64 64] 32)) none) := gb_alloc G1.out _
      have HCK : Hid (∀ W, wr.grownBy W none → W.cell? ⟨b3, 0, none⟩ = some (.slice p k c)) := fun W g => g.cell HC.out (by simp)
      have HOU : Hid (Own w.heap.size ((wr.drew.alloc (.cells (madeCells #[.int .u8 0] 64) 5)).alloc (.cells #[.slice (some ⟨wr.heap.size, 0, none⟩) 64 64] 32)) (.slice (some ⟨wr.heap.size, 0, none⟩) 64 64) (AM.zs 64)) := ((made_sec wr.drew).keep (World.grownBy_alloc _ _ none)).down h.grown.size
      have HRW : Hid (((wr.drew.alloc (.cells (madeCells #[.int .u8 0] 64) 5)).alloc (.cells #[.slice (some ⟨wr.heap.size, 0, none⟩) 64 64] 32)).ownsRow w.heap.size 32 1 (.slice p k c) k vs) := ownsRow_same h.row (fun g hg => G2.out.block g (rows_blk h.row hg).2.1 (by simp))
      have HCE : Hid (∀ j u, ([.slice (some ⟨wr.heap.size, 0, none⟩) 64 64] : List Value)[j]? = some u → ((wr.drew.alloc (.cells (madeCells #[.int .u8 0] 64) 5)).alloc (.cells #[.slice (some ⟨wr.heap.size, 0, none⟩) 64 64] 32)).cell? ((⟨wr.heap.size + 1, 0, none⟩ : Addr).add j) = some u) := fun j u hj => by
        rw [add_at, Nat.zero_add]
        exact topCell (heap_new _ _ _ (by simp)) (by simpa using hj)
      have HSZ : Hid (w.heap.size ≤ ((wr.drew.alloc (.cells (madeCells #[.int .u8 0] 64) 5)).alloc (.cells #[.slice (some ⟨wr.heap.size, 0, none⟩) 64 64] 32)).heap.size) := Nat.le_trans h.grown.size G2.out.size
      have HK : Hid (k ≤ 4096) := Nat.le_trans hk hn
      clear h HX
      go_wp2_with fail
      refine region_late (S := (fun w' => w'.cell? ⟨b3, 0, none⟩ = some (.slice p k c))) (by simp only [List.pop_toArray, List.dropLast]; exact rfl) (by rfl) (by kernel_rfl) (by kernel_rfl) ?_ (fun hHeld => ?_)
      · exact HC.out
      refine wpAnyH_take (i := 0) (v := ?_) rfl (by kernel_rfl) (by kernel_rfl) (by kernel_rfl) (fun _ _ _ h => h) (Or.inl ⟨by rfl, ?_⟩) (by assumption) ?_
      rotate_left
      · intro w hSw; (try dsimp only at hSw); first | (go_simp; done) | (go_simp; with_reducible rfl)
      simp only [Act.put, List.getElem_toArray, List.getElem_cons_succ, List.getElem_cons_zero, List.setIfInBounds_toArray, List.set_cons_zero, List.set_cons_succ]
      refine wpAnyH_take (i := 1) (v := ?_) rfl (by kernel_rfl) (by kernel_rfl) (by kernel_rfl) (fun _ _ _ h => h) (Or.inl ⟨by rfl, ?_⟩) (by assumption) ?_
      rotate_left
      · intro w hSw; (try dsimp only at hSw); first | (go_simp; done) | (go_simp; with_reducible rfl)
      simp only [Act.put, List.getElem_toArray, List.getElem_cons_succ, List.getElem_cons_zero, List.setIfInBounds_toArray, List.set_cons_zero, List.set_cons_succ]
      refine wpAnyH_ready (rs := [2]) (by kernel_rfl) (by simp) ?_
      refine AllReadyH.cons rfl (fun K hK => ?_) AllReadyH.nil
      go_simp
      refine hK.out _ _ (HCK.out _ G1.out) (fun hHeld => ?_)
      clear hK K
      (try simp only [Act.put, List.getElem_toArray, List.getElem_cons_succ, List.getElem_cons_zero, List.setIfInBounds_toArray, List.set_cons_zero, List.set_cons_succ])
      refine wpAnyH_ready (rs := [3]) (by kernel_rfl) (by simp) ?_
      refine AllReadyH.cons rfl (fun K hK => ?_) AllReadyH.nil
      go_simp
      refine hK.out _ _ (HCK.out _ G2.out) (fun hHeld => ?_)
      clear hK K
      (try simp only [Act.put, List.getElem_toArray, List.getElem_cons_succ, List.getElem_cons_zero, List.setIfInBounds_toArray, List.set_cons_zero, List.set_cons_succ])
      refine wpAnyH_ready (rs := [4]) (by kernel_rfl) (by simp) ?_
      refine AllReadyH.cons rfl (fun K hK => ?_) AllReadyH.nil
      refine step_append_rows (by rfl) _ _ (by rfl) Try.underlying71 Try.infoBys rfl (by decide) (by rfl) (by rfl) HRW.out (news := [.slice (some ⟨wr.heap.size, 0, none⟩) 64 64]) rfl HCE.out (by intro u hu; simp at hu; subst hu; rfl) (by have := HK.out; unfold maxLen; omega) (by have := HK.out; omega) HSZ.out ?_
      intro v5 w5 o5 g5
      obtain ⟨q1, q2, q3⟩ := H.out.next G2.out HOU.out o5 g5
      obtain ⟨p5, c5, rfl⟩ := rows_slice o5
      have HN : Hid (∃ p c vs, Blk w (w5.setCell ⟨b3, 0, none⟩ (.slice p5 (k + 1) c5)) b2 b3 (k + 1) (.slice p (k + 1) c) vs (List.replicate (k + 1) (AM.zs 64)) false) := ⟨p5, c5, _, by rw [List.replicate_succ']; exact q1⟩
      clear q1 o5 g5
      refine hK.out _ _ (q2) (fun hHeld => ?_)
      clear hK K
      (try simp only [Act.put, List.getElem_toArray, List.getElem_cons_succ, List.getElem_cons_zero, List.setIfInBounds_toArray, List.set_cons_zero, List.set_cons_succ])
      refine wpAnyH_take (i := 5) (v := ?_) rfl (by kernel_rfl) (by kernel_rfl) (by kernel_rfl) (fun _ _ _ h => h) (Or.inl ⟨by rfl, ?_⟩) (by assumption) ?_
      rotate_left
      · intro w hSw; (try dsimp only at hSw); first | (go_simp; done) | (go_simp; with_reducible rfl)
      simp only [Act.put, List.getElem_toArray, List.getElem_cons_succ, List.getElem_cons_zero, List.setIfInBounds_toArray, List.set_cons_zero, List.set_cons_succ]
      refine wpAnyH_done (by kernel_rfl) ?_ _
      refine lastQ_normal ?_
      go_wp2
      go_roundw
      case rel => exact ⟨k + 1, by omega, by go_num, HN⟩
      case measure => simp [intOf]; omega
    · have i1 : ¬ (k : Int) < (n : Int) := by omega
      obtain rfl : k = n := by omega
      have c30 : wr.cell? ⟨b3, 0, none⟩ = some (.slice p k c) := topCell (j := 0) h.top rfl
      have c31 : wr.cell? ⟨b3, 1, none⟩ = some (.bool false) := topCell (j := 1) h.top rfl
      have c20 : wr.cell? ⟨b2, 0, none⟩ = some (.slice none 0 0) := topCell (j := 0) h.res rfl
      have c21 : wr.cell? ⟨b2, 1, none⟩ = some (.bool false) := topCell (j := 1) h.res rfl
      have f20 := topFrozen 0 h.res
      have f21 := topFrozen 1 h.res
      have hst : ∀ i, i ≠ b2 → ((wr.setCell ⟨b2, 0, none⟩ (.slice p k c)).setCell ⟨b2, 1, none⟩ (.bool false)).heap[i]? = wr.heap[i]? := fun i hi => by rw [Below.heap_setCell _ _ _ _ hi, Below.heap_setCell _ _ _ _ hi]
      have HF : Hid (((wr.setCell ⟨b2, 0, none⟩ (.slice p k c)).setCell ⟨b2, 1, none⟩ (.bool false)).ownsRow w.heap.size 32 1 (.slice p k c) k vs ∧ (∀ (i : Nat) (u : Value), vs[i]? = some u → Own w.heap.size ((wr.setCell ⟨b2, 0, none⟩ (.slice p k c)).setCell ⟨b2, 1, none⟩ (.bool false)) u (AM.zs 64)) ∧ w.grownBy ((wr.setCell ⟨b2, 0, none⟩ (.slice p k c)).setCell ⟨b2, 1, none⟩ (.bool false)) none) := by
        refine ⟨ownsRow_same h.row (fun g hg => ?_), fun i u hu => ?_, gb_setCell (gb_setCell h.grown h.lo2 _) h.lo2 _⟩
        · obtain ⟨_, _, c, hc⟩ := rows_blk h.row hg
          exact hst g (ne_ty hc h.res (by decide))
        · have hik : i < k := by
            have h1 := (List.getElem?_eq_some_iff.1 hu).1
            have h2 := h.row.1
            omega
          have q := h.own i u (AM.zs 64) hu (by rw [List.getElem?_replicate, if_pos hik])
          refine q.sameB (fun g hg => ?_)
          obtain ⟨_, _, c, hc⟩ := rows_blk q.row hg
          exact hst g (ne_ty hc h.res (by decide))
      have HP : Hid (((wr.setCell ⟨b2, 0, none⟩ (.slice p k c)).setCell ⟨b2, 1, none⟩ (.bool false)).heap[b2]? = some (.cells #[.slice p k c, .bool false] 73 (0, 0))) := by
        show _ = _
        rw [heap_setCell_same _ _ _ _ _ _ (heap_setCell_same _ _ _ _ _ _ h.res)]
        rfl
      clear h HX hst
      go_wp2
      (try simp only [Exit.inBlock, Exit.then])
      exact bodyPost_ret (results_cell_row rfl _ _ b2 73 #[.slice p k c, .bool false] (0, 0) _ rfl HP.out Try.underlying73 rfl Try.sizeDsk) rfl ⟨p, c, rfl, vs, HF.out⟩
end Go.Proofs.Ytfmlohedebdomaa
