/- The document's array: the contract of Write. -/
import Derived.Test.YtfmlohedebdomaaRBar6
import Derived.Test.YtfmlohedebdomaaRRead6
import Derived.Deep.RegionHeld3
set_option linter.unusedSimpArgs false
set_option linter.unusedVariables false
namespace Go.Proofs.Ytfmlohedebdomaa
open Go.RowKit

theorem zeroFly : (Try.prog.info? 84).map (fun i => (i.zero, i.size, i.bytes)) = some (some (.agg #[.int .i64 0, .int .i64 0, .slice none 0 0]), 3, 40) := by kernel_rfl
theorem run_zeroFly (w : World) : (zeroValue 84).run Try.prog w = .ok (.agg #[.int .i64 0, .int .i64 0, .slice none 0 0]) w := by
  obtain ⟨i, hi, h0, h1, h2⟩ := info_parts zeroFly
  simp [zeroValue, typeInfo, hi, h0]
theorem Try.sizeFly : (Try.prog.info? 84).map (·.size) = some 3 := by kernel_rfl
theorem lit_fly (w : World) (d k : Int) (p : Option Addr) (n c : Nat) : (Instr.buildSlice 68 1 #[(0, .agg #[.int .i64 d, .int .i64 k, .slice p n c])]).run Try.prog w = .ok (.slice (some ⟨w.heap.size, 0, none⟩) 1 1) (w.alloc (.cells #[.int .i64 d, .int .i64 k, .slice p n c] 84)) := by
  have hf : ∀ z : Array Value, z.size = 3 → Instr.fill (fun i => some (i * 3, 3)) z [(0, .agg #[.int .i64 d, .int .i64 k, .slice p n c])] = some #[.int .i64 d, .int .i64 k, .slice p n c] := by
    intro z hz
    rw [fill_one (cs := [.int .i64 d, .int .i64 k, .slice p n c]) (out := [.int .i64 d, .int .i64 k, .slice p n c]) rfl rfl rfl (by simp; omega) (by simp [hz])]
    rfl
  simp [Instr.buildSlice, run_underlying Try.underlying68, run_size Try.sizeFly, run_zeroFly, newRow, hf]
theorem frow_app {fs : List Value} {L : List AM.Fl} (h : fs.length = L.length) (u : Value) (x : AM.Fl) : frow (fs ++ [u]) (L ++ [x]) = frow fs L ++ [.int .i64 (x.d : Int), .int .i64 (x.k : Int), u] := by
  unfold frow
  rw [List.zip_append h, List.flatMap_append]
  rfl
theorem step_append_fly {ops : Array Oper} {o : Oper} {ac : Act} {w : World} {K : Act → World → Prop} {Q : Exit → Act → World → Prop} {E : Prop} (hgd : o.guard = none) (d s : Operand)
    (ho : o.op = .call { callee := .builtin .append, args := #[d, s], argTypes := #[68, 68] }) (dv : Value) {g c M : Nat} {xs : List Value} {a b : Int} {p : Option Addr} {n m : Nat} (hed : ac.eval d = dv) (hes : ac.eval s = .slice (some ⟨g, 0, none⟩) 1 c)
    (hr : w.ownsRow 0 84 3 dv M xs) (hg : w.heap[g]? = some (.cells #[.int .i64 a, .int .i64 b, .slice p n m] 84 (0, 0))) (hL : M ≤ 1000000)
    (h : ∀ g' cap w', w'.ownsRow 0 84 3 (.slice (some ⟨g', 0, none⟩) (M + 1) cap) (M + 1) (xs ++ [.int .i64 a, .int .i64 b, .slice p n m]) → w.grownBy w' dv.ownBlock → (dv.ownBlock = some g' ∨ g' = w.heap.size) → K (ac.put o.dst (.slice (some ⟨g', 0, none⟩) (M + 1) cap)) w') :
    if Region.wanted o (yielded ops ac.tmps) = true then Oper.wp Try.prog o ac w K Q else E := by
  have hw : Region.wanted o (yielded ops ac.tmps) = true := by simp [Region.wanted, hgd]
  rw [if_pos hw]
  obtain ⟨g', cap, w', hrun, r1, r2, r3⟩ := run_append_at (ty := o.type) (c := c) Try.underlying68 zeroFly rfl (by decide) hr (a := ⟨g, 0, none⟩) (m := 1) (news := [.int .i64 a, .int .i64 b, .slice p n m]) (by decide) rfl (fun j u hj => by rw [add_at, Nat.zero_add]; exact topCell hg (by simpa using hj)) (by intro u hu; simp at hu; rcases hu with rfl | rfl | rfl <;> rfl) (by unfold maxLen; omega) (by omega)
  unfold Oper.wp
  simp [execOp, ho, resolve, invoke, builtin, hed, hes, hrun, Result.andThen]
  exact h _ _ _ r1 r2 r3

section
variable {G : Nat → Prop} {w : World} {r : Nat} {A : AM.RA}
theorem RL.flew {dp : Option Addr} {dc : Nat} {ds : List Value} {lp : Option Addr} {lc : Nat} {fs : List Value} (h : RL G w r dp dc ds lp lc fs A) {w8 : World} {u : Value} {b : List Nat} (g8 : w.grownBy w8 none) (hu : Own w.heap.size w8 u b) {d k : Nat} {C : Array Value} {g5 cap5 : Nat} {w5 : World}
    (o5 : w5.ownsRow 0 84 3 (.slice (some ⟨g5, 0, none⟩) (A.L.length + 1) cap5) (A.L.length + 1) (frow fs A.L ++ [.int .i64 (d : Int), .int .i64 (k : Int), u])) (g : (w8.alloc (.cells C 84)).grownBy w5 (Value.slice lp A.L.length lc).ownBlock) (hw : (Value.slice lp A.L.length lc).ownBlock = some g5 ∨ g5 = (w8.alloc (.cells C 84)).heap.size) :
    w5.cell? ⟨r, 2, none⟩ = some (.slice lp A.L.length lc) ∧ w5.frozen? ⟨r, 2, none⟩ = false ∧ w.heap.size ≤ w5.heap.size ∧ ∃ G', RIs G' (w5.setCell ⟨r, 2, none⟩ (.slice (some ⟨g5, 0, none⟩) (A.L.length + 1) cap5)) r (A.fly d k b) ∧ Step G w G' (w5.setCell ⟨r, 2, none⟩ (.slice (some ⟨g5, 0, none⟩) (A.L.length + 1) cap5)) := by
  have gw : w.grownBy w5 (Value.slice lp A.L.length lc).ownBlock := grown_trans (grown_any (gb_alloc g8 _) _) g
  have hne : ∀ (i : Nat) (c : Array Value) (t : TypeId), i < w.heap.size → w.heap[i]? = some (.cells c t (0, 0)) → t ≠ 84 → w5.heap[i]? = w.heap[i]? := fun i c t hi hc ht => gw.block i hi (fun e => by
    obtain ⟨c', hc'⟩ := rowBlock h.fly e.symm
    exact ht (heap_ty hc hc'))
  have hr5 := (hne r _ _ (h.lt r h.Gr) h.top (by decide)).trans h.top
  have hu5 : Own 0 w5 u b := (hu.down (Nat.zero_le _)).same0 (fun x hx => by
    obtain ⟨h1, h2, c, hc⟩ := rows_blk hu.row hx
    have e1 : (w8.alloc (.cells C 84)).heap[x]? = w8.heap[x]? := Below.heap_alloc w8 _ x h2
    rw [g.block x (by simp; omega) (fun e => by
      have := h.lt x (h.Gl x e.symm)
      omega), e1])
  have hlt5 : g5 < w5.heap.size := (rows_blk o5 rfl).2.1
  refine ⟨topCell (j := 2) hr5 rfl, topFrozen 2 hr5, gw.size, fun i => G i ∨ (w.heap.size ≤ i ∧ i < w5.heap.size), ?_, ⟨⟨gw.os, gw.tape, gw.output, by simpa using gw.size, fun i hi hn => ?_⟩, fun i hi => ?_⟩⟩
  · have := h.flown (G' := fun i => G i ∨ (w.heap.size ≤ i ∧ i < w5.heap.size)) (w1 := w5) (fun i hi => .inl hi) (fun i hi => by
      rcases hi with hi | hi
      · exact Nat.lt_of_lt_of_le (h.lt i hi) gw.size
      · exact hi.2) gw (fun x e => e) (L' := A.L ++ [⟨d, k, b⟩]) (fs' := fs ++ [u]) (lp' := some ⟨g5, 0, none⟩) (lc' := cap5) (by rw [frow_app h.flen, List.length_append]; exact o5) (by simp [h.flen]) (fun x hx => by
        obtain rfl : g5 = x := Option.some.inj hx
        rcases hw with hw | hw
        · exact .inl (h.Gl _ hw)
        · exact .inr ⟨by rw [hw]; exact Nat.le_trans g8.size (by simp), hlt5⟩) (fun i u' x hu' hx => ?_) (w' := w5.setCell ⟨r, 2, none⟩ (.slice (some ⟨g5, 0, none⟩) (A.L.length + 1) cap5)) (by simp)
    · exact this.is
    · by_cases hi : i < fs.length
      · rw [List.getElem?_append_left hi] at hu'
        rw [List.getElem?_append_left (by rw [← h.flen]; exact hi)] at hx
        obtain ⟨q1, q2⟩ := h.fv i u' x hu' hx
        exact ⟨q1.same0 (fun y hy => by
          obtain ⟨c, hc⟩ := rowBlock q1.row hy
          exact hne y c _ (h.lt y (q2 y hy)) hc (by decide)), fun y hy => .inl (q2 y hy)⟩
      · have hie : i = fs.length := by
          have := (List.getElem?_eq_some_iff.1 hu').1
          simp at this
          omega
        rw [hie, List.getElem?_append_right (Nat.le_refl _), Nat.sub_self] at hu'
        rw [hie, h.flen, List.getElem?_append_right (Nat.le_refl _), Nat.sub_self] at hx
        obtain rfl : u = u' := Option.some.inj hu'
        obtain rfl := Option.some.inj hx
        exact ⟨hu5, fun y hy => .inr ⟨(rows_blk hu.row hy).1, (rows_blk hu5.row hy).2.1⟩⟩
  · rw [Below.heap_setCell _ _ _ _ (by intro e; have e : i = r := e; rw [e] at hn; exact hn h.Gr)]
    exact gw.block i hi (fun e => hn (h.Gl i e.symm))
  · rcases hi with hi | hi
    · exact .inl hi
    · exact .inr hi.1

set_option maxHeartbeats 3200000 in
set_option maxRecDepth 100000 in
theorem rwrite_fly (h : RIs G w r A) {d k : Nat} {v : Value} {b : List Nat} (hr : A.why (d : Int) (k : Int) = 0) (hv : Vec w v b) (hvF : b ≠ [] → ∀ g, v.ownBlock = some g → ¬ G g) (hb : b.length = 64) (hbu : A.burns = false) (hL : A.L.length ≤ 1000000) :
    Calls Try.prog 14 #[rptr r, .int .i64 (d : Int), .int .i64 (k : Int), v] w fun e w' => e = .returned (.int .i64 0) ∧ ∃ G', RIs G' w' r (A.burnt.fly d k b) ∧ Step G w G' w' := by
  have HC : Hid (Calls Try.prog 42 #[rptr r, .int .i64 (d : Int), .int .i64 (k : Int)] w fun e w' => e = .returned (.int .i64 0) ∧ w' = w) := by have := rwhy_yes h (d : Int) (k : Int); rw [hr] at this; exact this
  have HGO : Hid (Calls Try.prog 43 #[rptr r] w fun e w' => e = .returned (.bool false) ∧ RIs G w' r A.burnt ∧ Step G w G w') := by have := rgoes_yes h (rwhy_zero hr).1; rw [hbu] at this; exact this
  obtain ⟨pv, nv, cv, rfl, hnv⟩ := hv.opened
  obtain rfl : nv = 64 := by omega
  have HVU : Hid (∀ W, Upd G w W → Vec W (.slice pv 64 cv) b) := fun W u => hv.upd u hvF
  obtain ⟨_, _, b3⟩ := AM.rburnt_D A
  rw [← b3] at hL
  obtain ⟨A1, hA1⟩ : ∃ A1, A1 = A.burnt := ⟨_, rfl⟩
  rw [← hA1] at HGO hL ⊢
  clear h hr hv hvF hbu hnv b3 hA1 hb
  go_enter Try.func14, Try.ntmps14
  go_wp2_with (first
    | (go_at_call 42; refine HC.out.mono ?_; rintro e w1 ⟨rfl, hw⟩; obtain rfl := hw.symm; clear hw)
    | (go_at_call 43; refine HGO.out.mono ?_; rintro e w1 ⟨rfl, hi1, hs1⟩; have HI1 : Hid (RIs G w1 r A1 ∧ Step G w G w1) := ⟨hi1, hs1⟩; clear hi1 hs1)
    | fail)
  obtain ⟨dp, dc, ds, lp, lc, fs, h1⟩ := HI1.out.1
  have HVB : Hid (Vec w1.drew (.slice pv 64 cv) b) := (HVU.out w1 HI1.out.2.upd).keep (grown_drewN _ 1)
  obtain ⟨M, hM⟩ : ∃ M, M = A1.L.length := ⟨_, rfl⟩
  obtain ⟨_, _, zc2, _, _⟩ := h1.topCells
  have c2 : w1.cell? ⟨r, 2, none⟩ = some (.slice lp M lc) := by rw [hM]; exact zc2
  have HC8 : Hid (∀ W, w1.grownBy W none → W.cell? ⟨r, 2, none⟩ = some (.slice lp M lc)) := fun W g => g.cell c2 (by simp)
  have HFL8 : Hid (∀ (W : World), w1.grownBy W none → ∀ C : Array Value, (W.alloc (.cells C 84)).ownsRow 0 84 3 (.slice lp M lc) M (frow fs A1.L)) := fun W g C => by
    rw [hM]
    exact ownsRow_same h1.fly (fun x hx => (gb_alloc g _).block x (h1.lt x (h1.Gl x hx)) (by simp))
  obtain ⟨z, hz⟩ : ∃ z, z = w1.heap.size := ⟨_, rfl⟩
  have HZ : Hid (z ≤ w1.drew.heap.size) := by show z ≤ w1.heap.size; omega
  have HZ8 : Hid (∀ W : World, w1.grownBy W none → z ≤ W.heap.size) := fun W g => by have := g.size; omega
  have FIN : Hid (∀ (w8 : World) (u : Value), w1.grownBy w8 none → Own w1.heap.size w8 u b → ∀ (g5 cap5 : Nat) (w5 : World), w5.ownsRow 0 84 3 (.slice (some ⟨g5, 0, none⟩) (M + 1) cap5) (M + 1) (frow fs A1.L ++ [.int .i64 (d : Int), .int .i64 (k : Int), u]) → (w8.alloc (.cells #[.int .i64 (d : Int), .int .i64 (k : Int), u] 84)).grownBy w5 (Value.slice lp M lc).ownBlock → ((Value.slice lp M lc).ownBlock = some g5 ∨ g5 = (w8.alloc (.cells #[.int .i64 (d : Int), .int .i64 (k : Int), u] 84)).heap.size) →
      w5.cell? ⟨r, 2, none⟩ = some (.slice lp M lc) ∧ w5.frozen? ⟨r, 2, none⟩ = false ∧ z ≤ w5.heap.size ∧ z ≤ (w5.setCell ⟨r, 2, none⟩ (.slice (some ⟨g5, 0, none⟩) (M + 1) cap5)).heap.size ∧ ∃ G', RIs G' (w5.setCell ⟨r, 2, none⟩ (.slice (some ⟨g5, 0, none⟩) (M + 1) cap5)) r (A1.fly d k b) ∧ Step G w G' (w5.setCell ⟨r, 2, none⟩ (.slice (some ⟨g5, 0, none⟩) (M + 1) cap5))) := fun w8 u g8 hu g5 cap5 w5 o5 gr5 hw5 => by
    rw [hM] at o5 gr5 hw5 ⊢
    obtain ⟨q1, q2, q3, G', q4, q5⟩ := h1.flew g8 hu (d := d) (k := k) o5 gr5 hw5
    exact ⟨q1, q2, by omega, by simp; omega, G', q4, HI1.out.2.trans q5⟩
  rw [← hM] at hL
  clear h1 hM hz zc2 HI1 HVU HGO HC
  refine wp_region_noPanic ?_
  refine wp_region_held_drew (S := fun w' => z ≤ w'.heap.size) (by kernel_rfl) ?_ (fun hHeld => ?_)
  · exact HZ.out
  refine wpAnyH_take (i := 0) (v := ?_) rfl (by kernel_rfl) (by kernel_rfl) (by kernel_rfl) (fun _ _ _ h => h) (Or.inl ⟨by rfl, ?_⟩) (by assumption) ?_
  rotate_left
  · intro w hSw; (try dsimp only at hSw); first | (go_simp; done) | (go_simp; with_reducible rfl)
  simp only [Act.put, List.getElem_toArray, List.getElem_cons_succ, List.getElem_cons_zero, List.setIfInBounds_toArray, List.set_cons_zero, List.set_cons_succ]
  refine wpAnyH_take (i := 1) (v := ?_) rfl (by kernel_rfl) (by kernel_rfl) (by kernel_rfl) (fun _ _ _ h => h) (Or.inl ⟨by rfl, ?_⟩) (by assumption) ?_
  rotate_left
  · intro w hSw; (try dsimp only at hSw); first | (go_simp; done) | (go_simp; with_reducible rfl)
  simp only [Act.put, List.getElem_toArray, List.getElem_cons_succ, List.getElem_cons_zero, List.setIfInBounds_toArray, List.set_cons_zero, List.set_cons_succ]
  refine wpAnyH_take (i := 2) (v := ?_) rfl (by kernel_rfl) (by kernel_rfl) (by kernel_rfl) (fun _ _ _ h => h) (Or.inl ⟨by rfl, ?_⟩) (by assumption) ?_
  rotate_left
  · intro w hSw; (try dsimp only at hSw); first | (go_simp; done) | (go_simp; with_reducible rfl)
  simp only [Act.put, List.getElem_toArray, List.getElem_cons_succ, List.getElem_cons_zero, List.setIfInBounds_toArray, List.set_cons_zero, List.set_cons_succ]
  refine wpAnyH_take (i := 3) (v := ?_) rfl (by kernel_rfl) (by kernel_rfl) (by kernel_rfl) (fun _ _ _ h => h) (Or.inl ⟨by rfl, ?_⟩) (by assumption) ?_
  rotate_left
  · intro w hSw; (try dsimp only at hSw); first | (go_simp; done) | (go_simp; with_reducible rfl)
  simp only [Act.put, List.getElem_toArray, List.getElem_cons_succ, List.getElem_cons_zero, List.setIfInBounds_toArray, List.set_cons_zero, List.set_cons_succ]
  refine wpAnyH_take (i := 5) (v := ?_) rfl (by kernel_rfl) (by kernel_rfl) (by kernel_rfl) (fun _ _ _ h => h) (Or.inl ⟨by rfl, ?_⟩) (by assumption) ?_
  rotate_left
  · intro w hSw; (try dsimp only at hSw); first | (go_simp; done) | (go_simp; with_reducible rfl)
  simp only [Act.put, List.getElem_toArray, List.getElem_cons_succ, List.getElem_cons_zero, List.setIfInBounds_toArray, List.set_cons_zero, List.set_cons_succ]
  refine wpAnyH_take (i := 6) (v := ?_) rfl (by kernel_rfl) (by kernel_rfl) (by kernel_rfl) (fun _ _ _ h => h) (Or.inl ⟨by rfl, ?_⟩) (by assumption) ?_
  rotate_left
  · intro w hSw; (try dsimp only at hSw); first | (go_simp; done) | (go_simp; with_reducible rfl)
  simp only [Act.put, List.getElem_toArray, List.getElem_cons_succ, List.getElem_cons_zero, List.setIfInBounds_toArray, List.set_cons_zero, List.set_cons_succ]
  refine wpAnyH_take (i := 7) (v := ?_) rfl (by kernel_rfl) (by kernel_rfl) (by kernel_rfl) (fun _ _ _ h => h) (Or.inl ⟨by rfl, ?_⟩) (by assumption) ?_
  rotate_left
  · intro w hSw; (try dsimp only at hSw); first | (go_simp; done) | (go_simp; with_reducible rfl)
  simp only [Act.put, List.getElem_toArray, List.getElem_cons_succ, List.getElem_cons_zero, List.setIfInBounds_toArray, List.set_cons_zero, List.set_cons_succ]
  refine wpAnyH_ready (rs := [4, 8]) (by kernel_rfl) (by simp) ?_
  refine AllReadyH.cons rfl (fun K hK => ?_) (AllReadyH.cons rfl (fun K hK => ?_) AllReadyH.nil)
  · skip
    have c2d := (show w1.drew.cell? ⟨r, 2, none⟩ = some (.slice lp M lc) from c2)
    go_simp
    refine hK.out _ _ (HZ.out) (fun hHeld => ?_)
    clear hK K
    clear c2d
    (try simp only [Act.put, List.getElem_toArray, List.getElem_cons_succ, List.getElem_cons_zero, List.setIfInBounds_toArray, List.set_cons_zero, List.set_cons_succ])
    refine wpAnyH_ready (rs := [8]) (by kernel_rfl) (by simp) ?_
    refine AllReadyH.cons rfl (fun K hK => ?_) AllReadyH.nil
    go_simp
    refine (own_any HVB.out).mono ?_
    rintro e w8 ⟨p8, n8, c8, rfl, ho8, hg8⟩
    have HO8 : Hid (Own w1.heap.size w8 (.slice p8 n8 c8) b ∧ w1.grownBy w8 none) := ⟨ho8, grown_trans (grown_drewN _ 1) hg8⟩
    clear ho8 hg8
    refine hK.out _ _ (HZ8.out w8 HO8.out.2) (fun hHeld => ?_)
    clear hK K
    (try simp only [Act.put, List.getElem_toArray, List.getElem_cons_succ, List.getElem_cons_zero, List.setIfInBounds_toArray, List.set_cons_zero, List.set_cons_succ])
    refine wpAnyH_take (i := 9) (v := ?_) rfl (by kernel_rfl) (by kernel_rfl) (by kernel_rfl) (fun _ _ _ h => h) (Or.inl ⟨by rfl, ?_⟩) (by assumption) ?_
    rotate_left
    · intro w hSw; (try dsimp only at hSw); first | (go_simp; done) | (go_simp; with_reducible rfl)
    simp only [Act.put, List.getElem_toArray, List.getElem_cons_succ, List.getElem_cons_zero, List.setIfInBounds_toArray, List.set_cons_zero, List.set_cons_succ]
    refine wpAnyH_ready (rs := [10]) (by kernel_rfl) (by simp) ?_
    refine AllReadyH.cons rfl (fun K hK => ?_) AllReadyH.nil
    have hlit := lit_fly w8 (d : Int) (k : Int) p8 n8 c8
    go_simp
    refine hK.out _ _ (HZ8.out _ (gb_alloc HO8.out.2 _)) (fun hHeld => ?_)
    clear hK K
    clear hlit
    (try simp only [Act.put, List.getElem_toArray, List.getElem_cons_succ, List.getElem_cons_zero, List.setIfInBounds_toArray, List.set_cons_zero, List.set_cons_succ])
    refine wpAnyH_ready (rs := [11]) (by kernel_rfl) (by simp) ?_
    refine AllReadyH.cons rfl (fun K hK => ?_) AllReadyH.nil
    refine step_append_fly (by rfl) _ _ (by rfl) (.slice lp M lc) (g := w8.heap.size) (by rfl) (by rfl) (HFL8.out w8 HO8.out.2 _) (heap_alloc_new w8 _) hL ?_
    intro g5 cap5 w5 o5 gr5 hw5
    obtain ⟨cc5, ff5, hz5, hz6, hfin⟩ := FIN.out w8 (.slice p8 n8 c8) HO8.out.2 HO8.out.1 g5 cap5 w5 o5 ⟨gr5.os, gr5.tape, gr5.output, gr5.size, gr5.block⟩ hw5
    have HFIN : Hid (∃ G', RIs G' (w5.setCell ⟨r, 2, none⟩ (.slice (some ⟨g5, 0, none⟩) (M + 1) cap5)) r (A1.fly d k b) ∧ Step G w G' (w5.setCell ⟨r, 2, none⟩ (.slice (some ⟨g5, 0, none⟩) (M + 1) cap5))) := hfin
    have HZ6 : Hid (z ≤ (w5.setCell ⟨r, 2, none⟩ (.slice (some ⟨g5, 0, none⟩) (M + 1) cap5)).heap.size) := hz6
    refine hK.out _ _ (hz5) (fun hHeld => ?_)
    clear hK K
    clear o5 gr5 hw5 hz5 hz6 hfin FIN
    (try simp only [Act.put, List.getElem_toArray, List.getElem_cons_succ, List.getElem_cons_zero, List.setIfInBounds_toArray, List.set_cons_zero, List.set_cons_succ])
    refine wpAnyH_take (i := 12) (v := ?_) rfl (by kernel_rfl) (by kernel_rfl) (by kernel_rfl) (fun _ _ _ h => h) (Or.inl ⟨by rfl, ?_⟩) (by assumption) ?_
    rotate_left
    · intro w hSw; (try dsimp only at hSw); first | (go_simp; done) | (go_simp; with_reducible rfl)
    simp only [Act.put, List.getElem_toArray, List.getElem_cons_succ, List.getElem_cons_zero, List.setIfInBounds_toArray, List.set_cons_zero, List.set_cons_succ]
    refine wpAnyH_take (i := 13) (v := ?_) rfl (by kernel_rfl) (by kernel_rfl) (by kernel_rfl) (fun _ _ _ h => h) (Or.inl ⟨by rfl, ?_⟩) (by assumption) ?_
    rotate_left
    · intro w hSw; (try dsimp only at hSw); first | (go_simp; done) | (go_simp; with_reducible rfl)
    simp only [Act.put, List.getElem_toArray, List.getElem_cons_succ, List.getElem_cons_zero, List.setIfInBounds_toArray, List.set_cons_zero, List.set_cons_succ]
    refine wpAnyH_ready (rs := [14]) (by kernel_rfl) (by simp) ?_
    refine AllReadyH.cons rfl (fun K hK => ?_) AllReadyH.nil
    go_simp
    refine hK.out _ _ (HZ6.out) (fun hHeld => ?_)
    clear hK K
    refine wpAnyH_done (by kernel_rfl) ?_ _
    refine NoPanic.normal ?_
    go_wp2
    go_ret
    exact ⟨rfl, HFIN.out⟩
  · skip
    go_simp
    refine (own_any HVB.out).mono ?_
    rintro e w8 ⟨p8, n8, c8, rfl, ho8, hg8⟩
    have HO8 : Hid (Own w1.heap.size w8 (.slice p8 n8 c8) b ∧ w1.grownBy w8 none) := ⟨ho8, grown_trans (grown_drewN _ 1) hg8⟩
    clear ho8 hg8
    refine hK.out _ _ (HZ8.out w8 HO8.out.2) (fun hHeld => ?_)
    clear hK K
    (try simp only [Act.put, List.getElem_toArray, List.getElem_cons_succ, List.getElem_cons_zero, List.setIfInBounds_toArray, List.set_cons_zero, List.set_cons_succ])
    refine wpAnyH_take (i := 9) (v := ?_) rfl (by kernel_rfl) (by kernel_rfl) (by kernel_rfl) (fun _ _ _ h => h) (Or.inl ⟨by rfl, ?_⟩) (by assumption) ?_
    rotate_left
    · intro w hSw; (try dsimp only at hSw); first | (go_simp; done) | (go_simp; with_reducible rfl)
    simp only [Act.put, List.getElem_toArray, List.getElem_cons_succ, List.getElem_cons_zero, List.setIfInBounds_toArray, List.set_cons_zero, List.set_cons_succ]
    refine wpAnyH_ready (rs := [4, 10]) (by kernel_rfl) (by simp) ?_
    refine AllReadyH.cons rfl (fun K hK => ?_) (AllReadyH.cons rfl (fun K hK => ?_) AllReadyH.nil)
    · skip
      have c2d := (HC8.out w8 HO8.out.2)
      go_simp
      refine hK.out _ _ (HZ8.out w8 HO8.out.2) (fun hHeld => ?_)
      clear hK K
      clear c2d
      (try simp only [Act.put, List.getElem_toArray, List.getElem_cons_succ, List.getElem_cons_zero, List.setIfInBounds_toArray, List.set_cons_zero, List.set_cons_succ])
      refine wpAnyH_ready (rs := [10]) (by kernel_rfl) (by simp) ?_
      refine AllReadyH.cons rfl (fun K hK => ?_) AllReadyH.nil
      have hlit := lit_fly w8 (d : Int) (k : Int) p8 n8 c8
      go_simp
      refine hK.out _ _ (HZ8.out _ (gb_alloc HO8.out.2 _)) (fun hHeld => ?_)
      clear hK K
      clear hlit
      (try simp only [Act.put, List.getElem_toArray, List.getElem_cons_succ, List.getElem_cons_zero, List.setIfInBounds_toArray, List.set_cons_zero, List.set_cons_succ])
      refine wpAnyH_ready (rs := [11]) (by kernel_rfl) (by simp) ?_
      refine AllReadyH.cons rfl (fun K hK => ?_) AllReadyH.nil
      refine step_append_fly (by rfl) _ _ (by rfl) (.slice lp M lc) (g := w8.heap.size) (by rfl) (by rfl) (HFL8.out w8 HO8.out.2 _) (heap_alloc_new w8 _) hL ?_
      intro g5 cap5 w5 o5 gr5 hw5
      obtain ⟨cc5, ff5, hz5, hz6, hfin⟩ := FIN.out w8 (.slice p8 n8 c8) HO8.out.2 HO8.out.1 g5 cap5 w5 o5 ⟨gr5.os, gr5.tape, gr5.output, gr5.size, gr5.block⟩ hw5
      have HFIN : Hid (∃ G', RIs G' (w5.setCell ⟨r, 2, none⟩ (.slice (some ⟨g5, 0, none⟩) (M + 1) cap5)) r (A1.fly d k b) ∧ Step G w G' (w5.setCell ⟨r, 2, none⟩ (.slice (some ⟨g5, 0, none⟩) (M + 1) cap5))) := hfin
      have HZ6 : Hid (z ≤ (w5.setCell ⟨r, 2, none⟩ (.slice (some ⟨g5, 0, none⟩) (M + 1) cap5)).heap.size) := hz6
      refine hK.out _ _ (hz5) (fun hHeld => ?_)
      clear hK K
      clear o5 gr5 hw5 hz5 hz6 hfin FIN
      (try simp only [Act.put, List.getElem_toArray, List.getElem_cons_succ, List.getElem_cons_zero, List.setIfInBounds_toArray, List.set_cons_zero, List.set_cons_succ])
      refine wpAnyH_take (i := 12) (v := ?_) rfl (by kernel_rfl) (by kernel_rfl) (by kernel_rfl) (fun _ _ _ h => h) (Or.inl ⟨by rfl, ?_⟩) (by assumption) ?_
      rotate_left
      · intro w hSw; (try dsimp only at hSw); first | (go_simp; done) | (go_simp; with_reducible rfl)
      simp only [Act.put, List.getElem_toArray, List.getElem_cons_succ, List.getElem_cons_zero, List.setIfInBounds_toArray, List.set_cons_zero, List.set_cons_succ]
      refine wpAnyH_take (i := 13) (v := ?_) rfl (by kernel_rfl) (by kernel_rfl) (by kernel_rfl) (fun _ _ _ h => h) (Or.inl ⟨by rfl, ?_⟩) (by assumption) ?_
      rotate_left
      · intro w hSw; (try dsimp only at hSw); first | (go_simp; done) | (go_simp; with_reducible rfl)
      simp only [Act.put, List.getElem_toArray, List.getElem_cons_succ, List.getElem_cons_zero, List.setIfInBounds_toArray, List.set_cons_zero, List.set_cons_succ]
      refine wpAnyH_ready (rs := [14]) (by kernel_rfl) (by simp) ?_
      refine AllReadyH.cons rfl (fun K hK => ?_) AllReadyH.nil
      go_simp
      refine hK.out _ _ (HZ6.out) (fun hHeld => ?_)
      clear hK K
      refine wpAnyH_done (by kernel_rfl) ?_ _
      refine NoPanic.normal ?_
      go_wp2
      go_ret
      exact ⟨rfl, HFIN.out⟩
    · skip
      have hlit := lit_fly w8 (d : Int) (k : Int) p8 n8 c8
      go_simp
      refine hK.out _ _ (HZ8.out _ (gb_alloc HO8.out.2 _)) (fun hHeld => ?_)
      clear hK K
      clear hlit
      (try simp only [Act.put, List.getElem_toArray, List.getElem_cons_succ, List.getElem_cons_zero, List.setIfInBounds_toArray, List.set_cons_zero, List.set_cons_succ])
      refine wpAnyH_ready (rs := [4]) (by kernel_rfl) (by simp) ?_
      refine AllReadyH.cons rfl (fun K hK => ?_) AllReadyH.nil
      have c2d := (HC8.out _ (gb_alloc HO8.out.2 (.cells #[.int .i64 (d : Int), .int .i64 (k : Int), .slice p8 n8 c8] 84)))
      go_simp
      refine hK.out _ _ (HZ8.out _ (gb_alloc HO8.out.2 _)) (fun hHeld => ?_)
      clear hK K
      clear c2d
      (try simp only [Act.put, List.getElem_toArray, List.getElem_cons_succ, List.getElem_cons_zero, List.setIfInBounds_toArray, List.set_cons_zero, List.set_cons_succ])
      refine wpAnyH_ready (rs := [11]) (by kernel_rfl) (by simp) ?_
      refine AllReadyH.cons rfl (fun K hK => ?_) AllReadyH.nil
      refine step_append_fly (by rfl) _ _ (by rfl) (.slice lp M lc) (g := w8.heap.size) (by rfl) (by rfl) (HFL8.out w8 HO8.out.2 _) (heap_alloc_new w8 _) hL ?_
      intro g5 cap5 w5 o5 gr5 hw5
      obtain ⟨cc5, ff5, hz5, hz6, hfin⟩ := FIN.out w8 (.slice p8 n8 c8) HO8.out.2 HO8.out.1 g5 cap5 w5 o5 ⟨gr5.os, gr5.tape, gr5.output, gr5.size, gr5.block⟩ hw5
      have HFIN : Hid (∃ G', RIs G' (w5.setCell ⟨r, 2, none⟩ (.slice (some ⟨g5, 0, none⟩) (M + 1) cap5)) r (A1.fly d k b) ∧ Step G w G' (w5.setCell ⟨r, 2, none⟩ (.slice (some ⟨g5, 0, none⟩) (M + 1) cap5))) := hfin
      have HZ6 : Hid (z ≤ (w5.setCell ⟨r, 2, none⟩ (.slice (some ⟨g5, 0, none⟩) (M + 1) cap5)).heap.size) := hz6
      refine hK.out _ _ (hz5) (fun hHeld => ?_)
      clear hK K
      clear o5 gr5 hw5 hz5 hz6 hfin FIN
      (try simp only [Act.put, List.getElem_toArray, List.getElem_cons_succ, List.getElem_cons_zero, List.setIfInBounds_toArray, List.set_cons_zero, List.set_cons_succ])
      refine wpAnyH_take (i := 12) (v := ?_) rfl (by kernel_rfl) (by kernel_rfl) (by kernel_rfl) (fun _ _ _ h => h) (Or.inl ⟨by rfl, ?_⟩) (by assumption) ?_
      rotate_left
      · intro w hSw; (try dsimp only at hSw); first | (go_simp; done) | (go_simp; with_reducible rfl)
      simp only [Act.put, List.getElem_toArray, List.getElem_cons_succ, List.getElem_cons_zero, List.setIfInBounds_toArray, List.set_cons_zero, List.set_cons_succ]
      refine wpAnyH_take (i := 13) (v := ?_) rfl (by kernel_rfl) (by kernel_rfl) (by kernel_rfl) (fun _ _ _ h => h) (Or.inl ⟨by rfl, ?_⟩) (by assumption) ?_
      rotate_left
      · intro w hSw; (try dsimp only at hSw); first | (go_simp; done) | (go_simp; with_reducible rfl)
      simp only [Act.put, List.getElem_toArray, List.getElem_cons_succ, List.getElem_cons_zero, List.setIfInBounds_toArray, List.set_cons_zero, List.set_cons_succ]
      refine wpAnyH_ready (rs := [14]) (by kernel_rfl) (by simp) ?_
      refine AllReadyH.cons rfl (fun K hK => ?_) AllReadyH.nil
      go_simp
      refine hK.out _ _ (HZ6.out) (fun hHeld => ?_)
      clear hK K
      refine wpAnyH_done (by kernel_rfl) ?_ _
      refine NoPanic.normal ?_
      go_wp2
      go_ret
      exact ⟨rfl, HFIN.out⟩
end
end Go.Proofs.Ytfmlohedebdomaa
