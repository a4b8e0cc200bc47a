/- The contract of code.Decode. -/
import Derived.Test.YtdeajclghlbhcaaSol4
set_option linter.unusedVariables false
namespace Go.Proofs.Ytdeajclghlbhcaa
open Go.RowKit

/-- Chunks, and what they are said to be, may be looked at. -/
def decOK (k n : Int) (ls : List Int) (X : List (List Nat)) : Prop := mayI k n = true ∧ ls.length = X.length ∧ evenB X = true ∧ goodAt n.toNat ls ls.length

/-- Whatever data have the first k chunks are D. -/
def Tells (ls : List Int) (k L : Nat) (X D : List (List Nat)) : Prop :=
  ∀ D', Shape D' k L → (∀ i j, at2 D' i j < 256) → (∀ i t, i < k → t < L → codeAt D' k (ls.getD i 0).toNat t = at2 X i t) → D' = D

/-- Where the chunk of number x stands. -/
def posOf (ls : List Int) (x : Nat) : Nat := wh ls ls.length x - 1
def toldOf (ls : List Int) (X : List (List Nat)) (F : Nat → Nat) (k : Nat) : List (List Nat) := (List.range k).map fun j => X.getD (posOf ls (F j)) []
theorem toldOf_get {ls : List Int} {X : List (List Nat)} {F : Nat → Nat} {k j : Nat} (h : j < k) : (toldOf ls X F k).getD j [] = X.getD (posOf ls (F j)) [] := by simp [toldOf, List.getD, h]
theorem lk_pos {ls : List Int} {k x : Nat} (h : lk (wh ls ls.length) k x = true) : posOf ls x < k ∧ posOf ls x < ls.length ∧ ls.getD (posOf ls x) 0 = (x : Int) ∧ wh ls ls.length x = posOf ls x + 1 := by
  unfold lk at h
  rw [Bool.and_eq_true, decide_eq_true_iff, decide_eq_true_iff] at h
  have := wh_pos (ls := ls) (j := ls.length) (x := x) (by omega)
  unfold posOf
  exact ⟨by omega, this.1, this.2, by omega⟩
theorem tells_of {ls : List Int} {X D : List (List Nat)} {F : Nat → Nat} {k L : Nat} (hF : ∀ i, i < k → lk (wh ls ls.length) k (F i) = true) (h : Told F k L (toldOf ls X F k) D) : Tells ls k L X D := by
  intro D' hD sm hc
  refine h D' hD sm fun i t hi ht => ?_
  have hp := lk_pos (hF i hi)
  have := hc (posOf ls (F i)) t hp.1 ht
  rw [hp.2.2.1] at this
  show codeAt D' k (F i) t = ((toldOf ls X F k).getD i []).getD t 0
  rw [toldOf_get hi]
  exact this

set_option maxHeartbeats 1600000 in
set_option maxRecDepth 100000 in
theorem decode_arg {w : World} {va vc : Value} {k n : Int} {ls : List Int} {vs : List Value} {X : List (List Nat)} (hl : IVec w va ls) (mr : Mat w vc vs X) (h : ¬ decOK k n ls X) :
    Calls Try.prog 21 #[.int .i64 k, .int .i64 n, va, vc] w fun e w' => e = .returned (.tuple #[.slice none 0 0, .int .i64 1]) ∧ w.grownBy w' none := by
  obtain ⟨q, A, cap, rfl, hA⟩ := hl.opened
  obtain ⟨qc, N, cc, rfl, hN⟩ := mr.row.opened
  have hs := mr.same
  have MM : Hid (∀ w, Calls Try.prog 10 #[.int .i64 k, .int .i64 n] w fun e w' => e = .returned (.bool (mayI k n)) ∧ w' = w) := fun w => codeMay_any k n w
  have AA : Hid (Calls Try.prog 33 #[.slice qc N cc] w fun e w' => e = .returned (.bool (evenB X)) ∧ w' = w) := asLong_any mr
  have hAl : A ≤ 140737488351232 := by rw [hA]; exact hl.len
  have hNl : N ≤ 140737488351232 := by have := mr.row.len; omega
  have HW : Hid (w.grownBy w none) := World.grownBy.refl _ _
  by_cases c1 : mayI k n = true
  · by_cases c2 : A = N
    · by_cases c3 : evenB X = true
      · have hm := mayI_iff.1 c1
        obtain ⟨n', rfl⟩ := Int.eq_ofNat_of_zero_le (show 0 ≤ n by omega)
        have LL : Hid (∀ w', w' = w → Calls Try.prog 34 #[.int .i64 (n' : Int), .slice q A cap] w' fun e w' => e = .returned (.tuple #[.agg (placesOf (fun _ => 0)), .bool false]) ∧ w.grownBy w' none) := fun w' e => by
          subst e
          exact locate_no hl (by omega) (fun hg => h ⟨c1, by omega, c3, hg⟩)
        rw [c1] at MM
        rw [c3] at AA
        subst c2
        have zL := zeroL
        have ST : ∀ W : World, (storeCells ⟨W.heap.size, 0, none⟩ (placesOf fun _ => 0).toList).run Try.prog (W.alloc (.cells (placesOf fun _ => 0) 66)) = .ok () (W.alloc (.cells (placesOf fun _ => 0) 66)) := fun W => by
          have := storeL (f' := fun _ => 0) (heap_alloc_new W (.cells (placesOf fun _ => 0) 66))
          rwa [World.setRow_alloc_new] at this
        have pL := placesOf_size (fun _ => 0)
        clear h hs hA hN hl mr c1 c3 hm
        go_enter Try.func21, Try.ntmps21
        go_wp2_with (first
          | (go_at_call 10; refine (MM.out _).mono ?_; rintro e w1 ⟨rfl, hw⟩; obtain rfl := hw.symm; clear hw)
          | (go_at_call 33; refine AA.out.mono ?_; rintro e w1 ⟨rfl, hw⟩; obtain rfl := hw.symm; clear hw)
          | (go_at_call 34; refine (LL.out _ rfl).mono ?_; rintro e w1 ⟨rfl, g1⟩; have G1 : Hid (w.grownBy (w1.alloc (.cells (placesOf fun _ => 0) 66)) none) := gb_alloc g1 _; clear g1))
        go_ret2
        exact ⟨rfl, G1.out⟩
      · rw [c1] at MM
        rw [show evenB X = false from by simpa using c3] at AA
        subst c2
        clear h hs hA hN hl mr c1 c3
        go_enter Try.func21, Try.ntmps21
        go_wp2_with (first
          | (go_at_call 10; refine (MM.out _).mono ?_; rintro e w1 ⟨rfl, hw⟩; obtain rfl := hw.symm; clear hw)
          | (go_at_call 33; refine AA.out.mono ?_; rintro e w1 ⟨rfl, hw⟩; obtain rfl := hw.symm; clear hw))
        go_ret2
        exact ⟨rfl, HW.out⟩
    · rw [c1] at MM
      have hne : ((A : Int) != (N : Int)) = true := by simp; omega
      clear h hs hA hN hl mr c1 c2
      go_enter Try.func21, Try.ntmps21
      go_wp2_with (go_at_call 10; refine (MM.out _).mono ?_; rintro e w1 ⟨rfl, hw⟩; obtain rfl := hw.symm; clear hw)
      go_ret2
      exact ⟨rfl, HW.out⟩
  · rw [show mayI k n = false from by simpa using c1] at MM
    clear h hs hA hN hl mr c1
    go_enter Try.func21, Try.ntmps21
    go_wp2_with (go_at_call 10; refine (MM.out _).mono ?_; rintro e w1 ⟨rfl, hw⟩; obtain rfl := hw.symm; clear hw)
    go_ret2
    exact ⟨rfl, HW.out⟩

set_option maxHeartbeats 3200000 in
set_option maxRecDepth 100000 in
theorem decode_short {w : World} {va vc : Value} {k n : Nat} {ls : List Int} {vs : List Value} {X : List (List Nat)} (hl : IVec w va ls) (mr : Mat w vc vs X) (h : decOK k n ls X) (hsh : ls.length < k) :
    Calls Try.prog 21 #[.int .i64 (k : Int), .int .i64 (n : Int), va, vc] w fun e w' => e = .returned (.tuple #[.slice none 0 0, .int .i64 4]) ∧ w.grownBy w' none := by
  obtain ⟨c1, c2, c3, hg⟩ := h
  obtain ⟨q, A, cap, rfl, hA⟩ := hl.opened
  obtain ⟨qc, N, cc, rfl, hN⟩ := mr.row.opened
  have hs := mr.same
  obtain rfl : A = N := by omega
  have hm := mayI_iff.1 c1
  have MM : Hid (∀ w, Calls Try.prog 10 #[.int .i64 (k : Int), .int .i64 (n : Int)] w fun e w' => e = .returned (.bool true) ∧ w' = w) := fun w => by
    have h := codeMay_any (k : Int) (n : Int) w
    rw [c1] at h
    exact h
  have AA : Hid (Calls Try.prog 33 #[.slice qc A cc] w fun e w' => e = .returned (.bool true) ∧ w' = w) := by
    have h := asLong_any mr
    rw [c3] at h
    exact h
  have LL : Hid (∀ w', w' = w → Calls Try.prog 34 #[.int .i64 (n : Int), .slice q A cap] w' fun e w' => e = .returned (.tuple #[.agg (placesOf (wh ls ls.length)), .bool true]) ∧ w.grownBy w' none) := fun w' e => by
    subst e
    exact locate_yes hl (by omega) hg
  have hAl : A ≤ 140737488351232 := by rw [hA]; exact hl.len
  have hlt : (A : Int) < (k : Int) := by omega
  have zL := zeroL
  have ST : ∀ W : World, (storeCells ⟨W.heap.size, 0, none⟩ (placesOf (wh ls ls.length)).toList).run Try.prog (W.alloc (.cells (placesOf fun _ => 0) 66)) = .ok () (W.alloc (.cells (placesOf (wh ls ls.length)) 66)) := fun W => by
    have := storeL (f' := wh ls ls.length) (heap_alloc_new W (.cells (placesOf fun _ => 0) 66))
    rwa [World.setRow_alloc_new] at this
  have pL := placesOf_size (wh ls ls.length)
  clear hs hA hN hl mr c1 c2 c3 hm hg hsh
  generalize placesOf (wh ls ls.length) = AR at *
  go_enter Try.func21, Try.ntmps21
  go_wp2_with (first
    | (go_at_call 10; refine (MM.out _).mono ?_; rintro e w1 ⟨rfl, hw⟩; obtain rfl := hw.symm; clear hw)
    | (go_at_call 33; refine AA.out.mono ?_; rintro e w1 ⟨rfl, hw⟩; obtain rfl := hw.symm; clear hw)
    | (go_at_call 34; refine (LL.out _ rfl).mono ?_; rintro e w1 ⟨rfl, g1⟩; have G1 : Hid (w.grownBy (w1.alloc (.cells AR 66)) none) := gb_alloc g1 _; clear g1))
  go_ret2
  exact ⟨rfl, G1.out⟩

set_option maxHeartbeats 3200000 in
set_option maxRecDepth 100000 in
theorem decode_yes {w : World} {va vc : Value} {k n : Nat} {ls : List Int} {vs : List Value} {X : List (List Nat)} (hl : IVec w va ls) (mr : Mat w vc vs X) (h : decOK k n ls X) (hsh : k ≤ ls.length) :
    Calls Try.prog 21 #[.int .i64 (k : Int), .int .i64 (n : Int), va, vc] w fun e w' => ∃ p m c us D, e = .returned (.tuple #[.slice p m c, .int .i64 0]) ∧ OwnMat w.heap.size w' (.slice p m c) us D ∧ Sep us ∧ Shape D k (X.getD 0 []).length ∧ Tells ls k (X.getD 0 []).length X D ∧ w.grownBy w' none := by
  obtain ⟨c1, c2, c3, hg⟩ := h
  obtain ⟨q, A, cap, rfl, hA⟩ := hl.opened
  obtain ⟨qc, N, cc, rfl, hN⟩ := mr.row.opened
  have hs := mr.same
  obtain rfl : A = N := by omega
  have hm := mayI_iff.1 c1
  have hk1 : 1 ≤ k := by omega
  have hk2 : k < 255 := by omega
  have MM : Hid (∀ w, Calls Try.prog 10 #[.int .i64 (k : Int), .int .i64 (n : Int)] w fun e w' => e = .returned (.bool true) ∧ w' = w) := fun w => by
    have h := codeMay_any (k : Int) (n : Int) w
    rw [c1] at h
    exact h
  have AA : Hid (Calls Try.prog 33 #[.slice qc A cc] w fun e w' => e = .returned (.bool true) ∧ w' = w) := by
    have h := asLong_any mr
    rw [c3] at h
    exact h
  have LL : Hid (∀ w', w' = w → Calls Try.prog 34 #[.int .i64 (n : Int), .slice q A cap] w' fun e w' => e = .returned (.tuple #[.agg (placesOf (wh ls ls.length)), .bool true]) ∧ w.grownBy w' none) := fun w' e => by
    subst e
    exact locate_yes hl (by omega) hg
  have UP : Hid (∀ w, Calls Try.prog 35 #[.int .i64 (k : Int), .agg (placesOf (wh ls ls.length))] w fun e w' => ∃ p n c F, e = .returned (.slice p n c) ∧ IOwn w.heap.size w' (.slice p n c) (intsOf F k k) ∧ Lined (lk (wh ls ls.length) k) k F k ∧ w.grownBy w' none) := fun w => lineUp_any hk1 hk2 (wh_count (n := n) (by omega) (by simpa using hg) hsh)
  have HPG : Hid (∀ x, x < 255 → (placesOf (wh ls ls.length))[x]? = some (.int .i64 ((wh ls ls.length x : Nat) : Int))) := fun x hx => placesOf_get _ _ hx
  have HI : Hid ((Try.prog.info? 66).map (·.size) = some (placesOf (wh ls ls.length)).size) := infoL _
  have hAl : A ≤ 140737488351232 := by rw [hA]; exact hl.len
  have hlt : ¬ (A : Int) < (k : Int) := by omega
  have zL := zeroL
  have ST : ∀ W : World, (storeCells ⟨W.heap.size, 0, none⟩ (placesOf (wh ls ls.length)).toList).run Try.prog (W.alloc (.cells (placesOf fun _ => 0) 66)) = .ok () (W.alloc (.cells (placesOf (wh ls ls.length)) 66)) := fun W => by
    have := storeL (f' := wh ls ls.length) (heap_alloc_new W (.cells (placesOf fun _ => 0) 66))
    rwa [World.setRow_alloc_new] at this
  have pL := placesOf_size (wh ls ls.length)
  have KX : Hid (∀ w', w.grownBy w' none → Mat w' (.slice qc A cc) vs X) := fun w' g => mr.keep g
  have SX : Hid (Shape X A (X.getD 0 []).length ∧ A = ls.length) := ⟨by have h := even_shape c3; rw [show A = X.length from by omega]; exact h, hA⟩
  have hkA : k ≤ A := by omega
  clear hs hA hN hl mr c1 c2 c3 hm hg hsh
  generalize (X.getD 0 []).length = L at *
  generalize placesOf (wh ls ls.length) = AR at *
  go_enter Try.func21, Try.ntmps21
  go_wp2_with (first
    | (go_at_call 10; refine (MM.out _).mono ?_; rintro e w1 ⟨rfl, hw⟩; obtain rfl := hw.symm; clear hw)
    | (go_at_call 33; refine AA.out.mono ?_; rintro e w1 ⟨rfl, hw⟩; obtain rfl := hw.symm; clear hw)
    | (go_at_call 34; refine (LL.out _ rfl).mono ?_; rintro e w1 ⟨rfl, g1⟩; have G1 : Hid (w.grownBy (w1.alloc (.cells AR 66)) none) := gb_alloc g1 _; clear g1))
  clear ST zL pL
  have HB : Hid ((w1.alloc (.cells AR 66)).heap[w1.heap.size]? = some (.cells AR 66 (0, 0))) := heap_alloc_new w1 _
  generalize w1.alloc (.cells AR 66) = w2 at *
  generalize w1.heap.size = g10 at *
  clear w1
  refine wp_load_row 66 (.tmp 10) rfl g10 rfl 66 AR (0, 0) _ HB.out Try.underlying66 rfl HI.out ?_
  go_wp2_with fail
  refine (UP.out _).mono ?_
  rintro e w3 ⟨pl, nl, cl, F, rfl, io, ln, g3⟩
  obtain rfl : nl = k := by
    obtain ⟨_, _, _, e, hn⟩ := io.ivec.opened
    injection e with _ e2 _
    rw [intsOf_len] at hn
    omega
  have LN : Hid (Lined (lk (wh ls ls.length) nl) nl F nl) := ln
  have KL : Hid (∀ w', w3.grownBy w' none → IVec w' (.slice pl nl cl) (intsOf F nl nl)) := fun w' g => io.ivec.keep g
  have KB : Hid (∀ w', w3.grownBy w' none → w'.heap[g10]? = some (.cells AR 66 (0, 0))) := fun w' g => heap_grown (grown_trans g3 g) HB.out
  have G3 : Hid (w.grownBy w3 none) := grown_trans G1.out g3
  clear ln io g3 UP LL AA MM HB G1
  go_wp2_with (at_make; refine wpList_make_out rfl _ _ rfl nl rfl rfl (by omega) ?_; intro w4 p ou g4; have OU : Hid (Out w3.heap.size w4 (.slice p nl nl) (List.replicate nl (.slice none 0 0))) := ou; have G4 : Hid (w3.grownBy w4 none) := g4; clear ou g4)
  go_loopw [51] (fun ti wr => ∃ (j : Nat) (us : List Value), j ≤ nl ∧ ti = .int .i64 j ∧ Hid (Out w3.heap.size wr (.slice p nl nl) us ∧ us.length = nl) ∧ Hid (∀ i, i < j → us.getD i undef = vs.getD (posOf ls (F i)) undef) ∧ Hid (w3.grownBy wr none)) (fun ti _ => nl - (intOf ti).toNat)
  case atStart => exact ⟨0, _, by omega, rfl, ⟨OU.out, by simp⟩, fun i hi => by omega, G4⟩
  case round =>
    clear OU G4
    obtain ⟨j, us, hj, rfl, OK, UK, GK⟩ := hrel
    by_cases hjl : j < nl
    · have i1 : (j : Int) < (nl : Int) := by omega
      have i3 : (0 : Int) ≤ (j : Int) := by omega
      obtain ⟨bl, ol, rfl, hcl⟩ := (KL.out _ GK.out).spot (k := j) (by rw [intsOf_len]; exact hjl)
      rw [intsOf_get hjl] at hcl
      have hF := LN.out.lt j hjl
      have hP := lk_pos (LN.out.yes j hjl)
      have hcp : wr.cell? ⟨g10, F j, none⟩ = some (.int .i64 ((posOf ls (F j) : Int) + 1)) := by
        rw [cell_of_row _ _ _ _ _ _ (KB.out _ GK.out), HPG.out _ hF, hP.2.2.2]
        simp
      have MX := KX.out _ (grown_trans G3.out GK.out)
      have hPA : posOf ls (F j) < A := by have := SX.out.2; omega
      have hvl : vs.length = A := by rw [MX.same]; exact SX.out.1.len
      obtain ⟨bc, oc, rfl, hcc⟩ := MX.row.spot (k := posOf ls (F j)) (by omega)
      obtain ⟨pv, nv, cv, ev, hnv⟩ := (MX.vec (posOf ls (F j)) (by rw [SX.out.1.len]; exact hPA)).opened
      rw [ev] at hcc
      obtain ⟨g, rfl, hbg, hcg, hfg, hput, hgr⟩ := OK.out.1.place (k := j) (by rw [OK.out.2]; exact hjl)
      have R : Hid ((Out w3.heap.size (wr.setCell ⟨g, j, none⟩ (.slice pv nv cv)) (.slice (some ⟨g, 0, none⟩) nl nl) (us.set j (.slice pv nv cv)) ∧ (us.set j (.slice pv nv cv)).length = nl) ∧ (∀ i, i < j + 1 → (us.set j (.slice pv nv cv)).getD i undef = vs.getD (posOf ls (F i)) undef) ∧ w3.grownBy (wr.setCell ⟨g, j, none⟩ (.slice pv nv cv)) none) := by
        refine ⟨⟨hput _, by rw [List.length_set]; exact OK.out.2⟩, fun i hi => ?_, grown_new GK.out (hgr _) (fun r e => by have := Option.some.inj e; omega)⟩
        by_cases c : j = i
        · subst c
          rw [getD_set_self _ _ _ _ (by rw [OK.out.2]; exact hjl)]
          exact ev.symm
        · rw [getD_set_ne _ _ _ c]
          exact UK.out i (by omega)
      have k1 : ((posOf ls (F j) : Nat) : Int) < (A : Int) := by omega
      have k2 : (0 : Int) ≤ ((posOf ls (F j) : Nat) : Int) := by omega
      have k3 : ((F j : Nat) : Int) < 255 := by omega
      have k4 : (0 : Int) ≤ ((F j : Nat) : Int) := by omega
      clear MX hput hgr hbg hP hnv ev hvl hF OK UK
      generalize posOf ls (F j) = P at *
      generalize us.getD j undef = uj at *
      generalize F j = fj at *
      go_wp2
      go_roundw
      case rel => exact ⟨j + 1, us.set j (.slice pv nv cv), by omega, by go_num, R.out.1, R.out.2.1, R.out.2.2⟩
      case measure => simp [intOf]; omega
    · obtain rfl : j = nl := by omega
      have GW : Hid (w.grownBy wr none) := grown_trans G3.out GK.out
      have MT : Hid (Mat wr (.slice p j j) us (toldOf ls X F j)) := by
        refine ⟨OK.out.1.cells, by rw [OK.out.2]; simp [toldOf], fun i hi => ?_⟩
        have hi' : i < j := by simpa [toldOf] using hi
        rw [UK.out i hi', toldOf_get hi']
        have hP := lk_pos (LN.out.yes i hi')
        exact (KX.out _ GW.out).vec _ (by rw [SX.out.1.len]; have := SX.out.2; omega)
      have ST : Hid (Shape (toldOf ls X F j) j L) := ⟨by simp [toldOf], fun i hi => by
        rw [toldOf_get hi]
        have hP := lk_pos (LN.out.yes i hi)
        exact SX.out.1.row _ (by have := SX.out.2; omega)⟩
      have SS : Hid (Calls Try.prog 36 #[.slice pl j cl, .slice p j j] wr fun e w' => ∃ p n c us D, e = .returned (.tuple #[.slice p n c, .int .i64 0]) ∧ OwnMat wr.heap.size w' (.slice p n c) us D ∧ Sep us ∧ Shape D j L ∧ Told F j L (toldOf ls X F j) D ∧ wr.grownBy w' none) := solve4_any (KL.out _ GK.out) MT.out ST.out hk1 hk2 LN.out.lt LN.out.own LN.out.inj
      clear OK UK MT ST
      go_wp2_with (go_at_call 36; refine SS.out.mono ?_; rintro e w5 ⟨p5, n5, c5, u5', D, rfl, om, sp, sh, td, g5⟩; have R5 : Hid (OwnMat wr.heap.size w5 (.slice p5 n5 c5) u5' D ∧ Sep u5' ∧ Shape D j L ∧ Told F j L (toldOf ls X F j) D ∧ wr.grownBy w5 none) := ⟨om, sp, sh, td, g5⟩; clear om sp sh td g5)
      go_ret2
      exact ⟨p5, n5, c5, u5', D, rfl, R5.out.1.down GW.out.size, R5.out.2.1, R5.out.2.2.1, tells_of LN.out.yes R5.out.2.2.2.1, grown_trans GW.out R5.out.2.2.2.2⟩
end Go.Proofs.Ytdeajclghlbhcaa
