/- Contracts of code.coded, Encode, One and Generator. -/
import Derived.Test.YtdeajclghlbhcaaComb4
import Derived.Test.YtdeajclghlbhcaaWakes
set_option linter.unusedVariables false
namespace Go.Proofs.Ytdeajclghlbhcaa
open Go.RowKit

/-- The code's number of chunk i at place t. -/
def codeAt (X : List (List Nat)) (k i t : Nat) : Nat := MX.xs (fun j => M.mul (MX.gen k i j) (at2 X j t)) k
/-- Chunk i of the code of data. -/
def codeRow (X : List (List Nat)) (k L i : Nat) : List Nat := (List.range L).map (codeAt X k i)
/-- The code of data. -/
def codeList (X : List (List Nat)) (k n L : Nat) : List (List Nat) := (List.range n).map (codeRow X k L)
/-- The generator. -/
def genList (k n : Nat) : List (List Nat) := (List.range n).map (genRow k)

theorem code_of_gen (X : List (List Nat)) (k L i : Nat) : combTo (genRow k i) X L k = codeRow X k L i := by
  refine List.map_congr_left fun t _ => MX.xs_congr fun j hj => ?_
  rw [genRow_get hj]
theorem code_low {X : List (List Nat)} {k L i : Nat} (hX : Shape X k L) (hs : ∀ i j, at2 X i j < 256) (hi : i < k) : codeRow X k L i = X.getD i [] := by
  have hl := hX.row i hi
  apply List.ext_getElem
  · simp only [codeRow, List.length_map, List.length_range]; exact hl.symm
  · intro t h1 h2
    have e : codeAt X k i t = at2 X i t := by
      unfold codeAt
      rw [MX.xs_one (p := i) hi (fun j _ hne => by unfold MX.gen; rw [if_pos hi]; unfold MX.one; rw [if_neg (fun c => hne c.symm), M.zero_mul])]
      unfold MX.gen
      rw [if_pos hi]
      unfold MX.one
      rw [if_pos rfl, M.one_mul (hs i t)]
    simp only [codeRow, List.getElem_map, List.getElem_range, e]
    exact gd_of _ h2
theorem mat_small {w : World} {r : Value} {vs : List Value} {X : List (List Nat)} (mr : Mat w r vs X) (i j : Nat) : at2 X i j < 256 := by
  unfold at2
  by_cases h : i < X.length
  · exact getD_small (mr.vec i h).small j
  · have e : X.getD i [] = [] := by simp [List.getD, List.getElem?_eq_none (by omega : X.length ≤ i)]
    rw [e]; simp

/-- A list's first k are made, the others are empty. -/
def upTo (f : Nat → List Nat) (n k : Nat) : List (List Nat) := (List.range n).map fun i => if i < k then f i else []
theorem upTo_len (f : Nat → List Nat) (n k : Nat) : (upTo f n k).length = n := by simp [upTo]
theorem upTo_zero (f : Nat → List Nat) (n : Nat) : upTo f n 0 = List.replicate n [] := by
  apply List.ext_getElem
  · simp [upTo]
  · intro i h1 h2
    simp [upTo]
theorem upTo_all (f : Nat → List Nat) (n : Nat) : upTo f n n = (List.range n).map f := List.map_congr_left fun i hi => if_pos (List.mem_range.1 hi)
theorem upTo_set (f : Nat → List Nat) (n k : Nat) : (upTo f n k).set k (f k) = upTo f n (k + 1) := by
  apply List.ext_getElem
  · simp [upTo]
  · intro i h1 h2
    by_cases e : k = i
    · subst e; simp [upTo]
    · by_cases l : i < k
      · simp [upTo, e, l, show i < k + 1 from by omega]
      · simp [upTo, e, l, show ¬ i < k + 1 from by omega]

theorem wpList_make_chunks {w : World} {ops : Array Oper} {rest : List Oper} {o : Oper} {a : Act} {Q : Exit → Act → World → Prop} (hgd : o.guard = none) (l c : Operand)
    (ho : o.op = Op.makeSlice 24 l c) (n : Nat) (hel : a.eval l = .int .i64 (n : Int)) (hec : a.eval c = .int .i64 (n : Int)) (hn : n * 24 ≤ 140737488351232)
    (h : ∀ w1 p, OwnMat w.heap.size w1 (.slice p n n) (List.replicate n (.slice none 0 0)) (List.replicate n []) → w.grownBy w1 none → wpList Try.prog ops Q rest (a.put o.dst (.slice p n n)) w1) : wpList Try.prog ops Q (o :: rest) a w := by
  obtain ⟨i0, hi, hz0, hz1, hz2⟩ := info_parts Try.info22
  refine wpList_make_row _ hgd l c 24 ho 39 i0 (.slice none 0 0) Try.underlying24 hi hz0 hz1 rfl _ _ n hel hec (by rw [hz2]; omega) (by omega) ?_
  exact h _ _ (made_rows hn rfl) (World.grownBy_alloc _ _ none)

set_option maxHeartbeats 1600000 in
theorem coded_any {w : World} {r : Value} {vs : List Value} {X : List (List Nat)} {k L i : Nat} (mr : Mat w r vs X) (hX : Shape X k L) (h1 : 1 ≤ k) (h2 : k ≤ 255) (hi : i < 256) :
    Calls Try.prog 30 #[.int .i64 (i : Int), r] w fun e w' => ∃ p n c, e = .returned (.slice p n c) ∧ Own w.heap.size w' (.slice p n c) (codeRow X k L i) ∧ w.grownBy w' none := by
  have hk := hX.len
  obtain ⟨q, N, cap, rfl, hN⟩ := mr.row.opened
  have hs := mr.same
  obtain rfl : N = k := by omega
  by_cases hlow : i < N
  · obtain ⟨b, off, rfl, hc⟩ := mr.row.spot (k := i) (by omega)
    have hv := mr.vec i (by omega)
    have HE : Hid (codeRow X N L i = X.getD i []) := code_low hX (mat_small mr) hlow
    obtain ⟨pi, ni, ci, ei, hni⟩ := hv.opened
    rw [ei] at hc hv
    have CC : Hid (Calls Try.prog 44 #[.slice pi ni ci] w fun e w' => ∃ p n c, e = .returned (.slice p n c) ∧ Own w.heap.size w' (.slice p n c) (codeRow X N L i) ∧ w.grownBy w' none) := by
      rw [HE.out]
      exact copied_any hv
    have i1 : (i : Int) < (N : Int) := by omega
    have i3 : (0 : Int) ≤ (i : Int) := by omega
    clear hv ei hni hs mr hX hN HE hk
    go_enter Try.func30, Try.ntmps30
    go_wp2_with (go_at_call 44; refine CC.out.mono ?_; rintro e w1 ⟨p1, n1, c1, rfl, o1, g1⟩; have O1 : Hid _ := o1; have G1 : Hid _ := g1; clear o1 g1)
    go_ret
    exact ⟨p1, n1, c1, rfl, O1.out, G1.out⟩
  · have i1 : ¬ (i : Int) < (N : Int) := by omega
    have RR : Hid (∀ w, Calls Try.prog 26 #[.int .i64 (N : Int), .int .i64 (i : Int)] w fun e w' => ∃ p n c, e = .returned (.slice p n c) ∧ Own w.heap.size w' (.slice p n c) (genRow N i) ∧ w.grownBy w' none) := fun w => row_any N i w h2 hi
    have CC : Hid (∀ w' v, w.grownBy w' none → Own w.heap.size w' v (genRow N i) → Calls Try.prog 45 #[v, .slice q N cap] w' fun e w'' => ∃ p n c, e = .returned (.slice p n c) ∧ Own w.heap.size w'' (.slice p n c) (codeRow X N L i) ∧ w.grownBy w'' none) := fun w' v g o =>
      (combine_any (L := L) o.vec (mr.keep g) (by rw [hk]; exact hX) (by rw [genRow_len, hk]) (by omega)).mono fun e w'' ⟨p, n, c, he, ho, hg⟩ => ⟨p, n, c, he, by rw [genRow_len, code_of_gen] at ho; exact ho.down g.size, grown_trans g hg⟩
    have hNl : N ≤ 140737488351232 := by omega
    clear hs mr hX hN hk
    go_enter Try.func30, Try.ntmps30
    go_wp2_with (first
      | (go_at_call 26; refine (RR.out _).mono ?_; rintro e w1 ⟨p1, n1, c1, rfl, o1, g1⟩; have O1 : Hid _ := o1; have G1 : Hid _ := g1; clear o1 g1)
      | (go_at_call 45; refine (CC.out _ _ G1.out O1.out).mono ?_; rintro e w2 ⟨p2, n2, c2, rfl, o2, g2⟩; have O2 : Hid _ := o2; have G2 : Hid _ := g2; clear o2 g2))
    go_ret
    exact ⟨p2, n2, c2, rfl, O2.out, G2.out⟩

/-- A matrix of its own whose rows are apart, at a slice that is written out. -/
def Made (w : World) (Y : List (List Nat)) (er : Int) (e : Ending) (w' : World) : Prop :=
  ∃ p n c us, e = .returned (.tuple #[.slice p n c, .int .i64 er]) ∧ OwnMat w.heap.size w' (.slice p n c) us Y ∧ Sep us ∧ w.grownBy w' none

set_option maxHeartbeats 3200000 in
theorem encode_yes {w : World} {r : Value} {vs : List Value} {X : List (List Nat)} {k n L : Nat} (mr : Mat w r vs X) (hX : Shape X k L) (h1 : 1 ≤ k) (hkn : k < n) (hn : n ≤ 255) :
    Calls Try.prog 17 #[.int .i64 (k : Int), .int .i64 (n : Int), r] w (Made w (codeList X k n L) 0) := by
  unfold Made
  have FF : Hid (Calls Try.prog 29 #[.int .i64 (k : Int), .int .i64 (n : Int), r] w fun e w' => e = .returned (.bool true) ∧ w' = w) := by
    have h := fits_any (k := (k : Int)) (n := (n : Int)) mr
    rw [show fitsB k n X = true from fitsB_iff.2 ⟨by omega, by rw [hX.len], evenB_iff.2 fun j hj => by rw [hX.row j (by rw [← hX.len]; exact hj), hX.row 0 (by omega)]⟩] at h
    exact h
  have CC : Hid (∀ w' (i : Nat), w.grownBy w' none → i < 256 → Calls Try.prog 30 #[.int .i64 (i : Int), r] w' fun e w'' => ∃ p n c, e = .returned (.slice p n c) ∧ Own w'.heap.size w'' (.slice p n c) (codeRow X k L i) ∧ w'.grownBy w'' none) := fun w' i g hi => coded_any (mr.keep g) hX h1 (by omega) hi
  clear mr hX
  go_enter Try.func17, Try.ntmps17
  go_wp2_with (first
    | (go_at_call 29; refine FF.out.mono ?_; rintro e w1 ⟨rfl, hw⟩; obtain rfl := hw.symm; clear hw)
    | (at_make; refine wpList_make_chunks rfl _ _ rfl n rfl rfl (by omega) ?_; intro w1 p om g1; have OM : Hid (OwnMat w.heap.size w1 (.slice p n n) (List.replicate n (.slice none 0 0)) (upTo (codeRow X k L) n 0)) := (by rw [upTo_zero]; exact om); have G1 : Hid (w.grownBy w1 none) := g1; clear om g1))
  clear FF
  go_loopw [19] (fun ti wr => ∃ (j : Nat) (us : List Value), j ≤ n ∧ ti = .int .i64 j ∧ Hid (OwnMat w.heap.size wr (.slice p n n) us (upTo (codeRow X k L) n j)) ∧ Hid (Sep us) ∧ Hid (w.grownBy wr none)) (fun ti _ => n - (intOf ti).toNat)
  case atStart => exact ⟨0, _, by omega, rfl, OM, Sep.nils n, G1⟩
  case round =>
    clear OM G1
    obtain ⟨j, us, hj, rfl, OK, SK, GK⟩ := hrel
    by_cases hlt : j < n
    · have i1 : (j : Int) < (n : Int) := by omega
      have i3 : (0 : Int) ≤ (j : Int) := by omega
      have HX : Hid ((upTo (codeRow X k L) n j).set j (codeRow X k L j) = upTo (codeRow X k L) n (j + 1)) := upTo_set _ _ _
      have HL : Hid (j < (upTo (codeRow X k L) n j).length) := by show _ < _; rw [upTo_len]; exact hlt
      have CJ : Hid (Calls Try.prog 30 #[.int .i64 (j : Int), r] wr fun e w'' => ∃ p n c, e = .returned (.slice p n c) ∧ Own wr.heap.size w'' (.slice p n c) (codeRow X k L j) ∧ wr.grownBy w'' none) := CC.out wr j GK.out (by omega)
      generalize upTo (codeRow X k L) n j = XK at *
      generalize codeRow X k L j = YK at *
      obtain ⟨g, rfl, _⟩ := OK.out.place (k := j) HL.out
      go_wp2_with (go_at_call 30; refine CJ.out.mono ?_; rintro e w2 ⟨p2, n2, c2, rfl, o2, g2⟩; obtain ⟨g', e', hb, hc, hf, hput, hown, hgr⟩ := (OK.out.keep g2).place (k := j) HL.out; obtain rfl : g = g' := (by injection e' with e'; injection e' with e'); have OU : Hid (Own wr.heap.size w2 (.slice p2 n2 c2) YK) := o2; have G2 : Hid (wr.grownBy w2 none) := g2; have PUT : Hid _ := hput; have GR : Hid _ := hgr; have HB : Hid (w.heap.size ≤ g) := hb; clear o2 g2 e' hput hgr hown hb)
      have R : Hid (OwnMat w.heap.size (w2.setCell ⟨g, j, none⟩ (.slice p2 n2 c2)) (.slice (some ⟨g, 0, none⟩) n n) (us.set j (.slice p2 n2 c2)) (upTo (codeRow X k L) n (j + 1)) ∧ Sep (us.set j (.slice p2 n2 c2)) ∧ w.grownBy (w2.setCell ⟨g, j, none⟩ (.slice p2 n2 c2)) none) := by
        refine ⟨?_, SK.out.put (H := wr.heap.size) (OK.out.hiRow) OU.out.lo j, ?_⟩
        · rw [← HX.out]
          exact PUT.out _ _ (OU.out.down GK.out.size)
        · exact grown_new (grown_trans GK.out G2.out) (GR.out _) (fun i e => by have := Option.some.inj e; have := HB.out; omega)
      clear OK SK GK OU G2 PUT GR HX HL HB CJ
      go_roundw
      case rel => exact ⟨j + 1, us.set j (.slice p2 n2 c2), by omega, by go_num, R.out.1, R.out.2.1, R.out.2.2⟩
      case measure => simp [intOf]; omega
    · have hjn : n = j := by omega
      subst hjn
      go_wp2
      go_ret2
      have h0 := OK.out
      rw [upTo_all] at h0
      exact ⟨p, n, n, us, rfl, h0, SK.out, GK.out⟩

theorem encode_no {w : World} {r : Value} {vs : List Value} {X : List (List Nat)} {k n : Int} (mr : Mat w r vs X) (hf : fitsB k n X = false) :
    Calls Try.prog 17 #[.int .i64 k, .int .i64 n, r] w fun e w' => e = .returned (.tuple #[.slice none 0 0, .int .i64 1]) ∧ w' = w := by
  have FF : Hid (Calls Try.prog 29 #[.int .i64 k, .int .i64 n, r] w fun e w' => e = .returned (.bool false) ∧ w' = w) := by
    have h := fits_any (k := k) (n := n) mr
    rw [hf] at h
    exact h
  clear mr hf
  go_enter Try.func17, Try.ntmps17
  go_wp2_with (go_at_call 29; refine FF.out.mono ?_; rintro e w1 ⟨rfl, hw⟩; obtain rfl := hw.symm; clear hw)
  go_ret2
  exact ⟨rfl, rfl⟩

theorem one_yes {w : World} {r : Value} {vs : List Value} {X : List (List Nat)} {k n L i : Nat} (mr : Mat w r vs X) (hX : Shape X k L) (h1 : 1 ≤ k) (hkn : k < n) (hn : n ≤ 255) (hi : i < n) :
    Calls Try.prog 19 #[.int .i64 (k : Int), .int .i64 (n : Int), .int .i64 (i : Int), r] w fun e w' => ∃ p m c, e = .returned (.tuple #[.slice p m c, .int .i64 0]) ∧ Own w.heap.size w' (.slice p m c) (codeRow X k L i) ∧ w.grownBy w' none := by
  have FF : Hid (Calls Try.prog 29 #[.int .i64 (k : Int), .int .i64 (n : Int), r] w fun e w' => e = .returned (.bool true) ∧ w' = w) := by
    have h := fits_any (k := (k : Int)) (n := (n : Int)) mr
    rw [show fitsB k n X = true from fitsB_iff.2 ⟨by omega, by rw [hX.len], evenB_iff.2 fun j hj => by rw [hX.row j (by rw [← hX.len]; exact hj), hX.row 0 (by omega)]⟩] at h
    exact h
  have CC : Hid (Calls Try.prog 30 #[.int .i64 (i : Int), r] w fun e w'' => ∃ p n c, e = .returned (.slice p n c) ∧ Own w.heap.size w'' (.slice p n c) (codeRow X k L i) ∧ w.grownBy w'' none) := coded_any mr hX h1 (by omega) (by omega)
  have i1 : ¬ (i : Int) < 0 := by omega
  have i2 : ¬ (n : Int) ≤ (i : Int) := by omega
  clear mr hX
  go_enter Try.func19, Try.ntmps19
  go_wp2_with (first
    | (go_at_call 29; refine FF.out.mono ?_; rintro e w1 ⟨rfl, hw⟩; obtain rfl := hw.symm; clear hw)
    | (go_at_call 30; refine CC.out.mono ?_; rintro e w1 ⟨p1, n1, c1, rfl, o1, g1⟩; have O1 : Hid _ := o1; have G1 : Hid _ := g1; clear o1 g1))
  go_ret2
  exact ⟨p1, n1, c1, rfl, O1.out, G1.out⟩

theorem one_no {w : World} {r : Value} {vs : List Value} {X : List (List Nat)} {k n i : Int} (mr : Mat w r vs X) (hf : fitsB k n X = false ∨ i < 0 ∨ n ≤ i) :
    Calls Try.prog 19 #[.int .i64 k, .int .i64 n, .int .i64 i, r] w fun e w' => e = .returned (.tuple #[.slice none 0 0, .int .i64 1]) ∧ w' = w := by
  have FF : Hid (Calls Try.prog 29 #[.int .i64 k, .int .i64 n, r] w fun e w' => e = .returned (.bool (fitsB k n X)) ∧ w' = w) := fits_any (k := k) (n := n) mr
  clear mr
  generalize fitsB k n X = bf at *
  cases bf
  · clear hf
    go_enter Try.func19, Try.ntmps19
    go_wp2_with (go_at_call 29; refine FF.out.mono ?_; rintro e w1 ⟨rfl, hw⟩; obtain rfl := hw.symm; clear hw)
    go_ret2
    exact ⟨rfl, rfl⟩
  · by_cases h0 : i < 0
    · clear hf
      go_enter Try.func19, Try.ntmps19
      go_wp2_with (go_at_call 29; refine FF.out.mono ?_; rintro e w1 ⟨rfl, hw⟩; obtain rfl := hw.symm; clear hw)
      go_ret2
      exact ⟨rfl, rfl⟩
    · have h2 : n ≤ i := by rcases hf with h | h | h <;> first | (simp at h; done) | omega
      clear hf
      go_enter Try.func19, Try.ntmps19
      go_wp2_with (go_at_call 29; refine FF.out.mono ?_; rintro e w1 ⟨rfl, hw⟩; obtain rfl := hw.symm; clear hw)
      go_ret2
      exact ⟨rfl, rfl⟩
end Go.Proofs.Ytdeajclghlbhcaa
