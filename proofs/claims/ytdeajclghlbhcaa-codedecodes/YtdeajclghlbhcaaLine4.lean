/- The contract of code.lineUp: the numbers that are looked at, data's at their own places. -/
import Derived.Test.YtdeajclghlbhcaaLoc4
set_option linter.unusedVariables false
namespace Go.Proofs.Ytdeajclghlbhcaa
open Go.RowKit

/-- How many below n are so. -/
def cnt (p : Nat → Bool) (n : Nat) : Nat := ((List.range n).filter p).length
theorem cnt_succ (p : Nat → Bool) (n : Nat) : cnt p (n + 1) = cnt p n + if p n then 1 else 0 := by
  unfold cnt
  rw [List.range_succ, List.filter_append, List.length_append]
  by_cases h : p n = true
  · simp [h]
  · simp [h]
theorem cnt_yes {p : Nat → Bool} {n : Nat} (h : p n = true) : cnt p (n + 1) = cnt p n + 1 := by rw [cnt_succ, if_pos h]
theorem cnt_no {p : Nat → Bool} {n : Nat} (h : p n = false) : cnt p (n + 1) = cnt p n := by rw [cnt_succ, h]; simp
theorem cnt_le (p : Nat → Bool) (a : Nat) : ∀ b, cnt p (a + b) ≤ cnt p a + b
  | 0 => Nat.le_refl _
  | b + 1 => by
    have := cnt_le p a b
    rw [show a + (b + 1) = (a + b) + 1 from by omega, cnt_succ]
    split <;> omega
theorem cnt_none (p : Nat → Bool) (a : Nat) : ∀ b, (∀ x, a ≤ x → x < a + b → p x = false) → cnt p (a + b) = cnt p a
  | 0, _ => rfl
  | b + 1, h => by
    rw [show a + (b + 1) = (a + b) + 1 from by omega, cnt_no (h (a + b) (by omega) (by omega))]
    exact cnt_none p a b fun x h1 h2 => h x h1 (by omega)

/-- The numbers in line, the first j of them. -/
structure Lined (p : Nat → Bool) (k : Nat) (f : Nat → Nat) (j : Nat) : Prop where
  yes : ∀ i, i < j → p (f i) = true
  lt : ∀ i, i < j → f i < 255
  own : ∀ i, i < j → f i = i ∨ k ≤ f i
  inj : ∀ i i', i < j → i' < j → f i = f i' → i = i'
theorem gap_has {p : Nat → Bool} {k j s : Nat} (hall : k ≤ cnt p 255) (hjk : j < k) (hs : s ≤ 255) (hc : cnt p j + cnt p s = j + cnt p k) (hj : p j = false) : ∃ x, s ≤ x ∧ x < 255 ∧ p x = true := by
  refine Classical.byContradiction fun hno => ?_
  have h1 := cnt_none p s (255 - s) fun x a b => by
    rcases e : p x with _ | _
    · rfl
    · exact absurd ⟨x, a, by omega, e⟩ hno
  rw [show s + (255 - s) = 255 from by omega] at h1
  have h2 := cnt_le p (j + 1) (k - (j + 1))
  rw [show j + 1 + (k - (j + 1)) = k from by omega, cnt_no hj] at h2
  omega
theorem wh_count {n : Nat} {ls : List Int} {k : Nat} (hn : n ≤ 255) (hg : goodAt n ls ls.length) (hk : k ≤ ls.length) : k ≤ cnt (lk (wh ls ls.length) k) 255 := by
  have h := MX.nodup_len ((List.range k).map fun i => (ls.getD i 0).toNat) ((List.range 255).filter (lk (wh ls ls.length) k)) (MX.nodup_map fun i j hi hj e => by
      have a := hg i (by omega)
      have b := hg j (by omega)
      rcases Nat.lt_trichotomy i j with c | c | c
      · exact absurd (by omega) (b.2.2 i c)
      · exact c
      · exact absurd (by omega) (a.2.2 j c)) (by
    intro a ha
    obtain ⟨i, hi, rfl⟩ := List.mem_map.1 ha
    have hi' := List.mem_range.1 hi
    have hr := hg i (by omega)
    have e : wh ls ls.length (ls.getD i 0).toNat = i + 1 := wh_at hg (by omega) (by omega)
    refine List.mem_filter.2 ⟨List.mem_range.2 (by omega), ?_⟩
    unfold lk
    rw [e]
    simp
    omega)
  rw [List.length_map, List.length_range] at h
  exact h

theorem IOwn.down {B B' : Nat} {w : World} {v : Value} {ls : List Int} (h : IOwn B' w v ls) (hB : B ≤ B') : IOwn B w v ls :=
  ⟨h.len, ⟨h.row.1, by
    rcases h.row.2 with h | ⟨g, cp, cur, a1, a2, a3⟩
    · exact .inl h
    · exact .inr ⟨g, cp, cur, a1, by omega, a3⟩⟩⟩

/-- A list of ints out of numbers. -/
def intsOf (f : Nat → Nat) (k j : Nat) : List Int := (List.range k).map fun i => if i < j then ((f i : Nat) : Int) else 0
theorem intsOf_len (f : Nat → Nat) (k j : Nat) : (intsOf f k j).length = k := by simp [intsOf]
theorem intsOf_zero (f : Nat → Nat) (k : Nat) : intsOf f k 0 = List.replicate k 0 := by
  apply List.ext_getElem
  · simp [intsOf]
  · intro i h1 h2
    simp [intsOf]
theorem intsOf_set (f : Nat → Nat) (k j x : Nat) : (intsOf f k j).set j (x : Int) = intsOf (fun i => if i = j then x else f i) k (j + 1) := by
  apply List.ext_getElem
  · simp [intsOf]
  · intro i h1 h2
    by_cases e : j = i
    · subst e; simp [intsOf]
    · by_cases l : i < j
      · simp [intsOf, e, l, show i < j + 1 from by omega, show ¬ i = j from fun c => e c.symm]
      · simp [intsOf, e, l, show ¬ i < j + 1 from by omega]
theorem Lined.next {p : Nat → Bool} {k : Nat} {f : Nat → Nat} {j x : Nat} (h : Lined p k f j) (hp : p x = true) (hx : x < 255) (ho : x = j ∨ k ≤ x) (hne : ∀ i, i < j → f i ≠ x) : Lined p k (fun i => if i = j then x else f i) (j + 1) := by
  refine ⟨fun i hi => ?_, fun i hi => ?_, fun i hi => ?_, fun i i' hi hi' e => ?_⟩
  · show p (if i = j then x else f i) = true
    by_cases c : i = j
    · rw [if_pos c]; exact hp
    · rw [if_neg c]; exact h.yes i (by omega)
  · show (if i = j then x else f i) < 255
    by_cases c : i = j
    · rw [if_pos c]; exact hx
    · rw [if_neg c]; exact h.lt i (by omega)
  · show (if i = j then x else f i) = i ∨ k ≤ (if i = j then x else f i)
    by_cases c : i = j
    · rw [if_pos c, c]; exact ho
    · rw [if_neg c]; exact h.own i (by omega)
  · change (if i = j then x else f i) = (if i' = j then x else f i') at e
    by_cases c : i = j
    · by_cases c' : i' = j
      · omega
      · rw [if_pos c, if_neg c'] at e
        exact absurd e.symm (hne i' (by omega))
    · by_cases c' : i' = j
      · rw [if_neg c, if_pos c'] at e
        exact absurd e (hne i (by omega))
      · rw [if_neg c, if_neg c'] at e
        exact h.inj i i' (by omega) (by omega) e

theorem line_put {w wr w3 : World} {g k j x : Nat} {F : Nat → Nat} {AR : Array Value} (OK : IOwn w.heap.size wr (.slice (some ⟨g, 0, none⟩) k k) (intsOf F k j)) (hj : j < k) (AK : wr.heap[w.heap.size]? = some (.cells AR 66 (0, 0))) (GK : w.grownBy wr none) (g3 : wr.grownBy w3 none) :
    ∃ z : Int, w3.cell? ⟨g, j, none⟩ = some (.int .i64 z) ∧ w3.frozen? ⟨g, j, none⟩ = false ∧ IOwn w.heap.size (w3.setCell ⟨g, j, none⟩ (.int .i64 (x : Int))) (.slice (some ⟨g, 0, none⟩) k k) (intsOf (fun i => if i = j then x else F i) k (j + 1)) ∧ (w3.setCell ⟨g, j, none⟩ (.int .i64 (x : Int))).heap[w.heap.size]? = some (.cells AR 66 (0, 0)) ∧ w.grownBy (w3.setCell ⟨g, j, none⟩ (.int .i64 (x : Int))) none := by
  have o3 := OK.keep g3
  have a3 := heap_grown g3 AK
  obtain ⟨g', e', hb, hc, hf, hset, hgr⟩ := o3.place (k := j) (by rw [intsOf_len]; exact hj)
  obtain rfl : g = g' := (by injection e' with e'; injection e' with e')
  have hne : w.heap.size ≠ g := by
    rcases o3.row.2 with ⟨e, _⟩ | ⟨g'', cap, cur, e, _, hg, _⟩
    · cases e
    · injection e with e1 e2 e3
      injection e1 with e1
      injection e1 with e1
      subst e1
      intro c
      rw [c, hg] at a3
      injection a3 with a3
      injection a3 with _ a4
      exact absurd a4 (by decide)
  refine ⟨_, hc, hf, by rw [← intsOf_set]; exact hset x, by rw [heap_setCell_other _ _ _ _ hne]; exact a3, grown_new (grown_trans GK g3) (hgr _) (fun i e => by have := Option.some.inj e; omega)⟩

set_option maxHeartbeats 3200000 in
set_option maxRecDepth 100000 in
theorem lineUp_any {w : World} {f : Nat → Nat} {k : Nat} (h1 : 1 ≤ k) (h2 : k < 255) (hall : k ≤ cnt (lk f k) 255) :
    Calls Try.prog 35 #[.int .i64 (k : Int), .agg (placesOf f)] w fun e w' => ∃ p n c F, e = .returned (.slice p n c) ∧ IOwn w.heap.size w' (.slice p n c) (intsOf F k k) ∧ Lined (lk f k) k F k ∧ w.grownBy w' none := by
  have LK : Hid (∀ w (x : Nat), x < 255 → Calls Try.prog 46 #[.agg (placesOf f), .int .i64 (x : Int), .int .i64 (k : Int)] w fun e w' => e = .returned (.bool (lk f k x)) ∧ w.grownBy w' none) := fun w x hx => looked_any hx
  have pL := placesOf_size f
  have HI : Hid ((Try.prog.info? 66).map (·.size) = some (placesOf f).size) := infoL _
  have HALL : Hid (k ≤ cnt (lk f k) 255) := hall
  have HBX : Hid (∀ w : World, (w.alloc (.cells (placesOf f) 66)).heap[w.heap.size]? = some (.cells (placesOf f) 66 (0, 0))) := fun w => heap_alloc_new w _
  clear hall
  generalize placesOf f = AR at *
  go_enter Try.func35, Try.ntmps35
  go_wp2_with (at_make; refine wpList_make_ints rfl _ _ rfl k rfl rfl (by omega) ?_; intro w1 p om g1; have OM : Hid (IOwn w.heap.size w1 (.slice p k k) (intsOf (fun _ => 0) k 0) ∧ w1.heap[w.heap.size]? = some (.cells AR 66 (0, 0)) ∧ w.grownBy w1 none) := (by rw [intsOf_zero]; exact ⟨om.down (by simp), heap_grown g1 (HBX.out w), grown_trans (World.grownBy_alloc _ _ none) g1⟩); clear om g1)
  clear HBX
  go_loopw [6, 13] (fun ts ti wr => ∃ (j s : Nat) (F : Nat → Nat), j ≤ k ∧ k ≤ s ∧ s ≤ 255 ∧ ti = .int .i64 j ∧ ts = .int .i64 s ∧ Hid (IOwn w.heap.size wr (.slice p k k) (intsOf F k j)) ∧ Hid (wr.heap[w.heap.size]? = some (.cells AR 66 (0, 0))) ∧ Hid (w.grownBy wr none) ∧ Hid (Lined (lk f k) k F j ∧ (∀ i, i < j → F i < k ∨ F i < s) ∧ cnt (lk f k) j + cnt (lk f k) s = j + cnt (lk f k) k)) (fun _ ti _ => k - (intOf ti).toNat)
  case atStart => exact ⟨0, k, fun _ => 0, by omega, by omega, by omega, rfl, rfl, OM.out.1, OM.out.2.1, OM.out.2.2, ⟨fun i hi => by omega, fun i hi => by omega, fun i hi => by omega, fun i i' hi => by omega⟩, fun i hi => by omega, by simp [cnt]⟩
  case round =>
    clear OM
    obtain ⟨j, s, F, hj, hks, hs, rfl, rfl, OK, AK, GK, LN⟩ := hrel
    obtain ⟨wa, hwa⟩ : ∃ wa, wa = wr := ⟨wr, rfl⟩
    subst hwa
    by_cases hlt : j < k
    · have i1 : (j : Int) < (k : Int) := by omega
      have i3 : (0 : Int) ≤ (j : Int) := by omega
      have LJ : Hid (Calls Try.prog 46 #[.agg AR, .int .i64 (j : Int), .int .i64 (k : Int)] wa fun e w' => e = .returned (.bool (lk f k j)) ∧ wa.grownBy w' none) := LK.out wa j (by omega)
      have ak := AK.out
      rcases hb : lk f k j with _ | _
      · rw [hb] at LJ
        go_wp2
        refine wp_load_row 66 (.tmp 3) rfl w.heap.size rfl 66 AR (0, 0) _ ak Try.underlying66 rfl HI.out ?_
        clear ak
        go_wp2_with (go_at_call 46; refine LJ.out.mono ?_; rintro e w2 ⟨rfl, g2⟩; have G2 : Hid (wa.grownBy w2 none) := g2; clear g2)
        have GX : Hid (∃ x, s ≤ x ∧ x < 255 ∧ lk f k x = true) := gap_has HALL.out hlt hs LN.out.2.2 hb
        have F2 : Hid (IOwn w.heap.size w2 (.slice p k k) (intsOf F k j) ∧ w2.heap[w.heap.size]? = some (.cells AR 66 (0, 0)) ∧ w.grownBy w2 none) := ⟨OK.out.keep G2.out, heap_grown G2.out AK.out, grown_trans GK.out G2.out⟩
        clear OK AK GK G2 LJ
        go_loopw [6] (fun ts wr => ∃ s' : Nat, s ≤ s' ∧ s' < 255 ∧ ts = .int .i64 s' ∧ Hid (IOwn w.heap.size wr (.slice p k k) (intsOf F k j)) ∧ Hid (wr.heap[w.heap.size]? = some (.cells AR 66 (0, 0))) ∧ Hid (w.grownBy wr none) ∧ Hid (cnt (lk f k) s' = cnt (lk f k) s ∧ ∃ x, s' ≤ x ∧ x < 255 ∧ lk f k x = true)) (fun ts _ => 255 - (intOf ts).toNat)
        case atStart => exact ⟨s, by omega, by obtain ⟨x, a, b, _⟩ := GX.out; omega, rfl, F2.out.1, F2.out.2.1, F2.out.2.2, rfl, GX.out⟩
        case round =>
          clear F2 GX
          obtain ⟨t, hst, ht, rfl, OK, AK, GK, CX⟩ := hrel
          have LT : Hid (Calls Try.prog 46 #[.agg AR, .int .i64 (t : Int), .int .i64 (k : Int)] wr fun e w' => e = .returned (.bool (lk f k t)) ∧ wr.grownBy w' none) := LK.out wr t ht
          have ak := AK.out
          rcases hbt : lk f k t with _ | _
          · rw [hbt] at LT
            go_wp2
            refine wp_load_row 66 (.tmp 3) rfl w.heap.size rfl 66 AR (0, 0) _ ak Try.underlying66 rfl HI.out ?_
            clear ak
            have R : Hid (∀ w3, wr.grownBy w3 none → IOwn w.heap.size w3 (.slice p k k) (intsOf F k j) ∧ w3.heap[w.heap.size]? = some (.cells AR 66 (0, 0)) ∧ w.grownBy w3 none) := fun w3 g => ⟨OK.out.keep g, heap_grown g AK.out, grown_trans GK.out g⟩
            have C2 : Hid (t + 1 < 255 ∧ cnt (lk f k) (t + 1) = cnt (lk f k) s ∧ ∃ x, t + 1 ≤ x ∧ x < 255 ∧ lk f k x = true) := by
              obtain ⟨c1, x, a, b, c⟩ := CX.out
              have hne : x ≠ t := fun e => by rw [e, hbt] at c; cases c
              exact ⟨by omega, by rw [cnt_no hbt]; exact c1, x, by omega, b, c⟩
            clear OK AK GK CX hbt
            go_wp2_with (go_at_call 46; refine LT.out.mono ?_; rintro e w3 ⟨rfl, g3⟩; have R3 : Hid _ := R.out w3 g3; clear g3)
            go_roundw
            case rel => exact ⟨t + 1, by omega, C2.out.1, by go_num, R3.out.1, R3.out.2.1, R3.out.2.2, C2.out.2⟩
            case measure => simp [intOf]; omega
          · rw [hbt] at LT
            go_wp2
            refine wp_load_row 66 (.tmp 3) rfl w.heap.size rfl 66 AR (0, 0) _ ak Try.underlying66 rfl HI.out ?_
            clear ak
            obtain ⟨g, rfl, _⟩ := OK.out.place (k := j) (by rw [intsOf_len]; exact hlt)
            have R : Hid (∀ w3, wr.grownBy w3 none → ∃ z : Int, w3.cell? ⟨g, j, none⟩ = some (.int .i64 z) ∧ w3.frozen? ⟨g, j, none⟩ = false ∧ IOwn w.heap.size (w3.setCell ⟨g, j, none⟩ (.int .i64 (t : Int))) (.slice (some ⟨g, 0, none⟩) k k) (intsOf (fun i => if i = j then t else F i) k (j + 1)) ∧ (w3.setCell ⟨g, j, none⟩ (.int .i64 (t : Int))).heap[w.heap.size]? = some (.cells AR 66 (0, 0)) ∧ w.grownBy (w3.setCell ⟨g, j, none⟩ (.int .i64 (t : Int))) none) := fun w3 g3 => line_put OK.out hlt AK.out GK.out g3
            have C2 : Hid (Lined (lk f k) k (fun i => if i = j then t else F i) (j + 1) ∧ (∀ i, i < j + 1 → (fun i => if i = j then t else F i) i < k ∨ (fun i => if i = j then t else F i) i < t + 1) ∧ cnt (lk f k) (j + 1) + cnt (lk f k) (t + 1) = j + 1 + cnt (lk f k) k) := by
              obtain ⟨c1, c2, c3⟩ := LN.out
              refine ⟨c1.next hbt ht (by omega) (fun i hi e => ?_), fun i hi => ?_, ?_⟩
              · rcases c2 i hi with c | c <;> omega
              · show (if i = j then t else F i) < k ∨ (if i = j then t else F i) < t + 1
                by_cases e : i = j
                · rw [if_pos e]; omega
                · rw [if_neg e]
                  rcases c2 i (by omega) with c | c <;> omega
              · rw [cnt_no hb, cnt_yes hbt, CX.out.1]
                omega
            clear OK AK GK CX hbt LN
            go_wp2_with (go_at_call 46; refine LT.out.mono ?_; rintro e w3 ⟨rfl, g3⟩; obtain ⟨z, hcz, hfz, r1⟩ := R.out w3 g3; have R3 : Hid _ := r1; clear g3 r1)
            go_roundw
            case rel => exact ⟨j + 1, t + 1, fun i => if i = j then t else F i, by omega, by omega, by omega, by go_num, by go_num, R3.out.1, R3.out.2.1, R3.out.2.2, C2.out⟩
            case measure => simp [intOf]; omega
      · rw [hb] at LJ
        go_wp2
        refine wp_load_row 66 (.tmp 3) rfl w.heap.size rfl 66 AR (0, 0) _ ak Try.underlying66 rfl HI.out ?_
        clear ak
        obtain ⟨g, rfl, _⟩ := OK.out.place (k := j) (by rw [intsOf_len]; exact hlt)
        have R : Hid (∀ w3, wa.grownBy w3 none → ∃ z : Int, w3.cell? ⟨g, j, none⟩ = some (.int .i64 z) ∧ w3.frozen? ⟨g, j, none⟩ = false ∧ IOwn w.heap.size (w3.setCell ⟨g, j, none⟩ (.int .i64 (j : Int))) (.slice (some ⟨g, 0, none⟩) k k) (intsOf (fun i => if i = j then j else F i) k (j + 1)) ∧ (w3.setCell ⟨g, j, none⟩ (.int .i64 (j : Int))).heap[w.heap.size]? = some (.cells AR 66 (0, 0)) ∧ w.grownBy (w3.setCell ⟨g, j, none⟩ (.int .i64 (j : Int))) none) := fun w3 g3 => line_put OK.out hlt AK.out GK.out g3
        have C2 : Hid (Lined (lk f k) k (fun i => if i = j then j else F i) (j + 1) ∧ (∀ i, i < j + 1 → (fun i => if i = j then j else F i) i < k ∨ (fun i => if i = j then j else F i) i < s) ∧ cnt (lk f k) (j + 1) + cnt (lk f k) s = j + 1 + cnt (lk f k) k) := by
          obtain ⟨c1, c2, c3⟩ := LN.out
          refine ⟨c1.next hb (by omega) (.inl rfl) (fun i hi e => ?_), fun i hi => ?_, ?_⟩
          · rcases c1.own i hi with c | c <;> omega
          · show (if i = j then j else F i) < k ∨ (if i = j then j else F i) < s
            by_cases e : i = j
            · rw [if_pos e]; omega
            · rw [if_neg e]
              exact c2 i (by omega)
          · rw [cnt_yes hb]
            omega
        clear OK AK GK LN
        go_wp2_with (go_at_call 46; refine LJ.out.mono ?_; rintro e w3 ⟨rfl, g3⟩; obtain ⟨z, hcz, hfz, r1⟩ := R.out w3 g3; have R3 : Hid _ := r1; clear g3 r1)
        go_roundw
        case rel => exact ⟨j + 1, s, fun i => if i = j then j else F i, by omega, by omega, by omega, by go_num, rfl, R3.out.1, R3.out.2.1, R3.out.2.2, C2.out⟩
        case measure => simp [intOf]; omega
    · obtain rfl : j = k := by omega
      go_wp2
      go_ret
      exact ⟨p, j, j, F, rfl, OK.out, LN.out.1, GK.out⟩
end Go.Proofs.Ytdeajclghlbhcaa
