/- Contracts of code.locate and of the method looked. -/
import Derived.Test.YtdeajclghlbhcaaOwn4
set_option linter.unusedVariables false
namespace Go.Proofs.Ytdeajclghlbhcaa
open Go.RowKit

/-- Where a number stands among the first j, counted from 1; 0 is nowhere. -/
def wh (ls : List Int) : Nat → Nat → Nat
  | 0, _ => 0
  | j + 1, x => if ls.getD j 0 = (x : Int) then j + 1 else wh ls j x
theorem wh_le (ls : List Int) : ∀ j x, wh ls j x ≤ j
  | 0, _ => Nat.le_refl _
  | j + 1, x => by
    unfold wh
    split
    · exact Nat.le_refl _
    · have := wh_le ls j x; omega
theorem wh_pos {ls : List Int} : ∀ {j x : Nat}, wh ls j x ≠ 0 → wh ls j x - 1 < j ∧ ls.getD (wh ls j x - 1) 0 = (x : Int)
  | 0, x, h => absurd rfl h
  | j + 1, x, h => by
    unfold wh at h ⊢
    split
    · exact ⟨by omega, by simpa using ‹ls.getD j 0 = (x : Int)›⟩
    · rename_i e
      rw [if_neg e] at h
      have := wh_pos h
      exact ⟨by omega, this.2⟩
/-- The first j numbers are from 0 to n - 1, and different. -/
def goodAt (n : Nat) (ls : List Int) (j : Nat) : Prop := ∀ i, i < j → 0 ≤ ls.getD i 0 ∧ ls.getD i 0 < n ∧ ∀ i', i' < i → ls.getD i' 0 ≠ ls.getD i 0
theorem wh_zero {ls : List Int} : ∀ {j x : Nat}, (∀ i, i < j → ls.getD i 0 ≠ (x : Int)) → wh ls j x = 0
  | 0, _, _ => rfl
  | j + 1, x, h => by
    unfold wh
    rw [if_neg (h j (by omega))]
    exact wh_zero fun i hi => h i (by omega)
theorem wh_at {n : Nat} {ls : List Int} : ∀ {j i x : Nat}, goodAt n ls j → i < j → ls.getD i 0 = (x : Int) → wh ls j x = i + 1
  | 0, _, _, _, h, _ => absurd h (by omega)
  | j + 1, i, x, hg, hi, he => by
    unfold wh
    by_cases e : i = j
    · subst e; rw [if_pos he]
    · have hij : i < j := by omega
      rw [if_neg (fun c => (hg j (by omega)).2.2 i hij (by rw [he, c]))]
      exact wh_at (fun a ha => hg a (by omega)) hij he

/-- The array of such places. -/
def placesOf (f : Nat → Nat) : Array Value := Array.ofFn (n := 255) fun i => .int .i64 ((f i.1 : Nat) : Int)
theorem placesOf_size (f : Nat → Nat) : (placesOf f).size = 255 := by simp [placesOf]
theorem placesOf_get (f : Nat → Nat) (i : Nat) (h : i < 255) : (placesOf f)[i]? = some (.int .i64 ((f i : Nat) : Int)) := by simp [placesOf, h]
theorem placesOf_set (ls : List Int) (j x : Nat) (hx : x < 255) (he : ls.getD j 0 = (x : Int)) : (placesOf (wh ls j)).setIfInBounds x (.int .i64 ((j : Int) + 1)) = placesOf (wh ls (j + 1)) := by
  apply Array.ext_getElem?
  intro i
  by_cases h : i < 255
  · rw [placesOf_get _ _ h, Array.getElem?_setIfInBounds]
    by_cases e : x = i
    · subst e
      rw [if_pos rfl, if_pos (by rw [placesOf_size]; exact hx)]
      have : wh ls (j + 1) x = j + 1 := by
        show (if ls.getD j 0 = (x : Int) then j + 1 else wh ls j x) = _
        rw [if_pos he]
      rw [this]
      simp
    · rw [if_neg e, placesOf_get _ _ h]
      have : wh ls (j + 1) i = wh ls j i := by
        show (if ls.getD j 0 = (i : Int) then j + 1 else wh ls j i) = _
        rw [if_neg (by rw [he]; omega)]
      rw [this]
  · have h1 : ((placesOf (wh ls j)).setIfInBounds x (.int .i64 ((j : Int) + 1)))[i]? = none := by simp [placesOf_size]; omega
    have h2 : (placesOf (wh ls (j + 1)))[i]? = none := by simp [placesOf_size]; omega
    rw [h1, h2]
theorem placesOf_one (f : Nat → Nat) : (placesOf f).all (·.oneCell') = true := by
  rw [Array.all_eq_true_iff_forall_mem]
  intro v hv
  obtain ⟨i, _, rfl⟩ := Array.mem_ofFn.1 hv
  rfl
theorem infoL (f : Nat → Nat) : (Try.prog.info? 66).map (·.size) = some (placesOf f).size := by rw [placesOf_size]; kernel_rfl
theorem zeroL (w : World) : (zeroValue 66).run Try.prog w = .ok (.agg (placesOf (fun _ => 0))) w := by
  have h : (Try.prog.info? 66).map (fun i => (i.zero, i.size)) = some (some (.agg (placesOf (fun _ => 0))), 255) := by kernel_rfl
  cases hq : Try.prog.info? 66 with
  | none => simp [hq] at h
  | some i => simp [hq] at h; simp [zeroValue, typeInfo, hq, h.1]

/-- Two results: a whole array that lies in memory, and a value. -/
theorem results_row_tmp {P : Program} {fn : Func} {p q : Tmp} {ty : TypeId} (h : fn.results = #[.cell p ty, .tmp q]) (tmps : Array Value) (w : World) (g : Nat) (t : TypeId) (cs : Array Value) (fr : Nat × Nat) (d : TypeDesc) (v : Value)
    (hp : tmps.getD p undef = .pointer (some ⟨g, 0, none⟩)) (hq : tmps.getD q undef = v) (hg : w.heap[g]? = some (.cells cs t fr))
    (hu : P.underlying ty = some d) (hd : (match d with | .struct _ | .array _ _ => true | _ => false) = true) (hi : (P.info? ty).map (·.size) = some cs.size) :
    (results fn tmps).run P w = .ok (.tuple #[.agg cs, v]) w := by
  have hp' : tmps[p]?.getD undef = .pointer (some ⟨g, 0, none⟩) := by simpa using hp
  have hq' : tmps[q]?.getD undef = v := by simpa using hq
  simp [results, h, hp', hq', asAddr, run_loadVar_row w g t ty cs fr d hg hu hd hi]

theorem storeL {w : World} {g : Nat} {f f' : Nat → Nat} (h : w.heap[g]? = some (.cells (placesOf f) 66 (0, 0))) : (storeCells ⟨g, 0, none⟩ (placesOf f').toList).run Try.prog w = .ok () (w.setRow g (placesOf f')) := by
  have := run_storeCells_from (P := Try.prog) g 66 (placesOf f').toList 0 (placesOf f) w h (by simp [placesOf_size]) (mem_one (placesOf_one f'))
  simpa using this

set_option maxHeartbeats 1600000 in
set_option maxRecDepth 100000 in
theorem locate_all {w : World} {v : Value} {ls : List Int} {n : Nat} (hv : IVec w v ls) (hn : n ≤ 255) :
    Calls Try.prog 34 #[.int .i64 (n : Int), v] w fun e w' => w.grownBy w' none ∧ ((goodAt n ls ls.length ∧ e = .returned (.tuple #[.agg (placesOf (wh ls ls.length)), .bool true])) ∨ (¬ goodAt n ls ls.length ∧ e = .returned (.tuple #[.agg (placesOf (fun _ => 0)), .bool false]))) := by
  obtain ⟨q, N, cap, rfl, hN⟩ := hv.opened
  have hNl : N ≤ 140737488351232 := by rw [hN]; exact hv.len
  have HN : Hid (N = ls.length) := hN
  have KV : Hid (∀ w', w.grownBy w' none → IVec w' (.slice q N cap) ls) := fun w' g => hv.keep g
  clear hN hv
  have zL := zeroL
  go_enter Try.func34, Try.ntmps34
  go_wp2
  clear zL
  go_loopw [10] (fun ti wr => ∃ j : Nat, j ≤ N ∧ ti = .int .i64 j ∧ Hid (wr.heap[w.heap.size]? = some (.cells (placesOf (wh ls j)) 66 (0, 0))) ∧ Hid (w.grownBy wr none) ∧ Hid (goodAt n ls j)) (fun ti _ => N - (intOf ti).toNat)
  case atStart => exact ⟨0, by omega, rfl, heap_alloc_new w _, gb_alloc (World.grownBy.refl _ _) _, fun i hi => by omega⟩
  case round =>
    obtain ⟨j, hj, rfl, HM, HG, HA⟩ := hrel
    by_cases hlt : j < N
    · have i1 : (j : Int) < (N : Int) := by omega
      have i3 : (0 : Int) ≤ (j : Int) := by omega
      obtain ⟨b, off, rfl, hc⟩ := (KV.out _ HG.out).spot (k := j) (by have := HN.out; omega)
      by_cases c1 : 0 ≤ ls.getD j 0 ∧ ls.getD j 0 < n
      · obtain ⟨x, hx⟩ := Int.eq_ofNat_of_zero_le c1.1
        have hx' : ls.getD j 0 = (x : Int) := hx
        rw [hx'] at hc
        have hxn : x < n := by omega
        have j1 : ¬ (x : Int) < 0 := by omega
        have j2 : ¬ (n : Int) ≤ (x : Int) := by omega
        have j3 : (x : Int) < 255 := by omega
        have hcx : wr.cell? ⟨w.heap.size, x, none⟩ = some (.int .i64 ((wh ls j x : Nat) : Int)) := by rw [cell_of_row _ _ _ _ _ _ HM.out, placesOf_get _ _ (by omega)]
        have hfx : wr.frozen? ⟨w.heap.size, x, none⟩ = false := frozen_of_row _ _ _ _ _ HM.out
        by_cases c2 : wh ls j x = 0
        · rw [c2] at hcx
          have HA' : Hid (goodAt n ls (j + 1)) := fun i hi => by
            by_cases e : i = j
            · subst e
              refine ⟨c1.1, c1.2, fun i' hi' he => ?_⟩
              have := wh_at (x := x) HA.out hi' (by rw [he, hx'])
              omega
            · exact HA.out i (by omega)
          have HP : Hid ((wr.setCell ⟨w.heap.size, x, none⟩ (.int .i64 ((j : Int) + 1))).heap[w.heap.size]? = some (.cells (placesOf (wh ls (j + 1))) 66 (0, 0))) := by
            show _ = _
            rw [heap_setCell_same _ _ _ _ _ _ HM.out, placesOf_set ls j x (by omega) hx']
          have HGN : Hid (w.grownBy (wr.setCell ⟨w.heap.size, x, none⟩ (.int .i64 ((j : Int) + 1))) none) := gb_setCell HG.out (by simp) _
          clear c1 hx hx' c2 HM HG HA
          go_wp2
          go_roundw
          case rel => exact ⟨j + 1, by omega, by go_num, HP, HGN, HA'⟩
          case measure => simp [intOf]; omega
        · have hne : (((wh ls j x : Nat) : Int) != 0) = true := by simp; omega
          have NG : Hid (¬ goodAt n ls ls.length) := fun hg => by
            have h1 := wh_pos c2
            exact (hg j (by have := HN.out; omega)).2.2 _ h1.1 (by rw [h1.2, hx'])
          generalize wh ls j x = y at *
          have sL := storeL (f' := fun _ => 0) HM.out
          have pL := placesOf_size (fun _ => 0)
          have zL := zeroL
          have HR : Hid ((wr.setRow w.heap.size (placesOf fun _ => 0)).heap[w.heap.size]? = some (.cells (placesOf fun _ => 0) 66 (0, 0))) := setRow_heap _ _ _ _ _ _ HM.out
          have HGR : Hid (w.grownBy (wr.setRow w.heap.size (placesOf fun _ => 0)) none) := grown_new HG.out (row := some w.heap.size) ⟨rfl, rfl, rfl, by simp, fun k _ hk => setRow_other wr w.heap.size k _ (fun e => hk (by simp [e]))⟩ (fun i e => by have := Option.some.inj e; omega)
          have HI : Hid ((Try.prog.info? 66).map (·.size) = some (placesOf fun _ => 0).size) := infoL _
          clear c1 hx hx' HM HG HA
          go_wp2
          exact bodyPost_ret (results_row_tmp rfl _ _ w.heap.size 66 (placesOf fun _ => 0) (0, 0) _ _ rfl rfl HR.out Try.underlying66 rfl HI.out) rfl ⟨HGR.out, .inr ⟨NG.out, rfl⟩⟩
      · have NG : Hid (¬ goodAt n ls ls.length) := fun hg => by
          have h1 := hg j (by have := HN.out; omega)
          exact c1 ⟨h1.1, h1.2.1⟩
        generalize ls.getD j 0 = z at *
        by_cases c2 : z < 0
        · have sL := storeL (f' := fun _ => 0) HM.out
          have pL := placesOf_size (fun _ => 0)
          have zL := zeroL
          have HR : Hid ((wr.setRow w.heap.size (placesOf fun _ => 0)).heap[w.heap.size]? = some (.cells (placesOf fun _ => 0) 66 (0, 0))) := setRow_heap _ _ _ _ _ _ HM.out
          have HGR : Hid (w.grownBy (wr.setRow w.heap.size (placesOf fun _ => 0)) none) := grown_new HG.out (row := some w.heap.size) ⟨rfl, rfl, rfl, by simp, fun k _ hk => setRow_other wr w.heap.size k _ (fun e => hk (by simp [e]))⟩ (fun i e => by have := Option.some.inj e; omega)
          have HI : Hid ((Try.prog.info? 66).map (·.size) = some (placesOf fun _ => 0).size) := infoL _
          clear c1 HM HG HA
          go_wp2
          exact bodyPost_ret (results_row_tmp rfl _ _ w.heap.size 66 (placesOf fun _ => 0) (0, 0) _ _ rfl rfl HR.out Try.underlying66 rfl HI.out) rfl ⟨HGR.out, .inr ⟨NG.out, rfl⟩⟩
        · have c3 : (n : Int) ≤ z := by omega
          have sL := storeL (f' := fun _ => 0) HM.out
          have pL := placesOf_size (fun _ => 0)
          have zL := zeroL
          have HR : Hid ((wr.setRow w.heap.size (placesOf fun _ => 0)).heap[w.heap.size]? = some (.cells (placesOf fun _ => 0) 66 (0, 0))) := setRow_heap _ _ _ _ _ _ HM.out
          have HGR : Hid (w.grownBy (wr.setRow w.heap.size (placesOf fun _ => 0)) none) := grown_new HG.out (row := some w.heap.size) ⟨rfl, rfl, rfl, by simp, fun k _ hk => setRow_other wr w.heap.size k _ (fun e => hk (by simp [e]))⟩ (fun i e => by have := Option.some.inj e; omega)
          have HI : Hid ((Try.prog.info? 66).map (·.size) = some (placesOf fun _ => 0).size) := infoL _
          clear c1 HM HG HA
          go_wp2
          exact bodyPost_ret (results_row_tmp rfl _ _ w.heap.size 66 (placesOf fun _ => 0) (0, 0) _ _ rfl rfl HR.out Try.underlying66 rfl HI.out) rfl ⟨HGR.out, .inr ⟨NG.out, rfl⟩⟩
    · obtain rfl : j = N := by omega
      have HM' : wr.heap[w.heap.size]? = some (.cells (placesOf (wh ls ls.length)) 66 (0, 0)) := by rw [← HN.out]; exact HM.out
      have HA' : Hid (goodAt n ls ls.length) := by show goodAt _ _ _; rw [← HN.out]; exact HA.out
      clear HM HA
      go_wp2
      refine wp_load_row 66 (.tmp 4) rfl w.heap.size rfl 66 (placesOf (wh ls ls.length)) (0, 0) _ HM' Try.underlying66 rfl (infoL _) ?_
      have sL : (storeCells ⟨w.heap.size, 0, none⟩ (placesOf (wh ls ls.length)).toList).run Try.prog wr = .ok () wr := by
        have := storeL (f' := wh ls ls.length) HM'
        rwa [setRow_self wr w.heap.size _ _ _ HM'] at this
      have pL := placesOf_size (wh ls ls.length)
      have HP : Hid (wr.heap[w.heap.size]? = some (.cells (placesOf (wh ls ls.length)) 66 (0, 0))) := HM'
      have HI : Hid ((Try.prog.info? 66).map (·.size) = some (placesOf (wh ls ls.length)).size) := infoL _
      clear HM'
      obtain ⟨AR, hAR⟩ : ∃ AR, AR = placesOf (wh ls ls.length) := ⟨_, rfl⟩
      rw [← hAR] at sL pL HP HI
      rw [← hAR]
      have HAR : Hid (AR = placesOf (wh ls ls.length)) := hAR
      clear hAR
      go_wp2
      exact bodyPost_ret (results_row_tmp rfl _ _ w.heap.size 66 AR (0, 0) _ _ rfl rfl HP.out Try.underlying66 rfl HI.out) rfl ⟨HG.out, .inl ⟨HA'.out, by rw [HAR.out]; rfl⟩⟩

theorem locate_yes {w : World} {v : Value} {ls : List Int} {n : Nat} (hv : IVec w v ls) (hn : n ≤ 255) (h : goodAt n ls ls.length) :
    Calls Try.prog 34 #[.int .i64 (n : Int), v] w fun e w' => e = .returned (.tuple #[.agg (placesOf (wh ls ls.length)), .bool true]) ∧ w.grownBy w' none :=
  (locate_all hv hn).mono fun e w' ⟨g, k⟩ => by
    rcases k with ⟨_, k⟩ | ⟨k, _⟩
    · exact ⟨k, g⟩
    · exact absurd h k
theorem locate_no {w : World} {v : Value} {ls : List Int} {n : Nat} (hv : IVec w v ls) (hn : n ≤ 255) (h : ¬ goodAt n ls ls.length) :
    Calls Try.prog 34 #[.int .i64 (n : Int), v] w fun e w' => e = .returned (.tuple #[.agg (placesOf (fun _ => 0)), .bool false]) ∧ w.grownBy w' none :=
  (locate_all hv hn).mono fun e w' ⟨g, k⟩ => by
    rcases k with ⟨k, _⟩ | ⟨_, k⟩
    · exact absurd k h
    · exact ⟨k, g⟩

/-- Whether a number is looked at. -/
def lk (f : Nat → Nat) (k x : Nat) : Bool := decide (1 ≤ f x) && decide (f x ≤ k)

set_option maxRecDepth 100000 in
theorem looked_any {w : World} {f : Nat → Nat} {x k : Nat} (hx : x < 255) :
    Calls Try.prog 46 #[.agg (placesOf f), .int .i64 (x : Int), .int .i64 (k : Int)] w fun e w' => e = .returned (.bool (lk f k x)) ∧ w.grownBy w' none := by
  have j3 : (x : Int) < 255 := by omega
  have j4 : (0 : Int) ≤ (x : Int) := by omega
  have pL := placesOf_size f
  have hcx : (w.alloc (.cells (placesOf f) 66)).cell? ⟨w.heap.size, x, none⟩ = some (.int .i64 ((f x : Nat) : Int)) := by rw [cell_of_row _ _ _ _ _ _ (heap_alloc_new w _), placesOf_get _ _ hx]
  have HL : Hid (lk f k x = (decide (1 ≤ f x) && decide (f x ≤ k))) := rfl
  have HGA : Hid (w.grownBy (w.alloc (.cells (placesOf f) 66)) none) := gb_alloc (World.grownBy.refl _ _) _
  generalize lk f k x = bl at *
  generalize f x = y at *
  generalize placesOf f = AR at *
  by_cases c : 1 ≤ y
  · go_enter Try.func46, Try.ntmps46
    go_wp2
    go_ret
    exact ⟨by rw [HL.out, decide_eq_true c]; rfl, HGA.out⟩
  · go_enter Try.func46, Try.ntmps46
    go_wp2
    go_ret
    exact ⟨by rw [HL.out, decide_eq_false c]; rfl, HGA.out⟩
end Go.Proofs.Ytdeajclghlbhcaa
