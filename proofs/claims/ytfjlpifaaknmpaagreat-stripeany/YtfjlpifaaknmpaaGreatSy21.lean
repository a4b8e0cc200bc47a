/- Packed: Unr4, Sol4, Dec4, RefDec4. -/
import Derived.Test.YtfjlpifaaknmpaaGreatSy1
import Derived.Test.YtfjlpifaaknmpaaGreatSy2
import Derived.Test.YtfjlpifaaknmpaaGreatSy3
import Derived.Test.YtfjlpifaaknmpaaGreatSy4
import Derived.Test.YtfjlpifaaknmpaaGreatSy5
import Derived.Test.YtfjlpifaaknmpaaGreatSy11
import Derived.Test.YtfjlpifaaknmpaaGreatSy17
import Derived.Test.YtfjlpifaaknmpaaGreatSy18
import Derived.Test.YtfjlpifaaknmpaaGreatSy19
import Derived.Test.YtfjlpifaaknmpaaGreatSy20
import Derived.Deep.RegionHeld3
import Derived.BigRegion
/- Contracts of slices.Max and code.unravel. -/
set_option linter.unusedVariables false
set_option maxRecDepth 100000
namespace Go.Proofs.YtfjlpifaaknmpaaGreat
open Go.RowKit

/-- One of a list, and none is above it. -/
structure IsMax (ls : List Int) (m : Int) (k : Nat) : Prop where
  up : ∀ j, j < k → ls.getD j 0 ≤ m
  is : ∃ j, j < k ∧ m = ls.getD j 0

set_option maxHeartbeats 1600000 in
theorem max_any {w : World} {v : Value} {ls : List Int} (hv : IVec w v ls) (h1 : 1 ≤ ls.length) :
    Calls Tryz.prog 142 #[v] w fun e w' => ∃ m : Int, e = .returned (.int .i64 m) ∧ IsMax ls m ls.length ∧ w.grownBy w' none := by
  obtain ⟨q, N, cap, rfl, hN⟩ := hv.opened
  have hNl : N ≤ 140737488351232 := by rw [hN]; exact hv.len
  have HN : Hid (N = ls.length) := hN
  have KV : Hid (∀ w', w.grownBy w' none → IVec w' (.slice q N cap) ls) := fun w' g => hv.keep g
  have hN1 : (1 : Int) ≤ (N : Int) := by omega
  have hN2 : 0 < N := by omega
  have hN3 : ¬ (N : Int) < 1 := by omega
  have hN4 : (0 : Int) < (N : Int) := by omega
  obtain ⟨b, off, rfl, hc⟩ := hv.spot (k := 0) (by omega)
  rw [Nat.add_zero] at hc
  clear hN hv h1
  have H0 : Hid (ls.getD 0 0 = ls.getD 0 0) := rfl
  have HS : Hid (IsMax ls (ls.getD 0 0) 1) := ⟨fun j hj => by rw [show j = 0 from by omega]; exact Int.le_refl _, 0, by omega, rfl⟩
  generalize hz : ls.getD 0 0 = z0 at *
  clear hz H0
  go_enter Tryz.func142, Tryz.ntmps142
  go_wp2
  go_loopw [3, 4] (fun tm ti wr => ∃ (j : Nat) (m : Int), 1 ≤ j ∧ j ≤ N ∧ ti = .int .i64 j ∧ tm = .int .i64 m ∧ Hid (IsMax ls m j) ∧ Hid (w.grownBy wr none)) (fun _ ti _ => N - (intOf ti).toNat)
  case atStart => exact ⟨1, z0, by omega, by omega, rfl, rfl, HS, World.grownBy.refl _ _⟩
  case round =>
    clear HS hc
    obtain ⟨j, m, hj1, hj, rfl, rfl, HM, GK⟩ := hrel
    by_cases hlt : j < N
    · have i1 : (j : Int) < (N : Int) := by omega
      have i3 : (0 : Int) ≤ (j : Int) := by omega
      obtain ⟨b1, o1, e1, hr⟩ := (KV.out _ GK.out).spot (k := j) (by have := HN.out; omega)
      obtain ⟨rfl, rfl⟩ : b = b1 ∧ off = o1 := by
        injection e1 with e1
        injection e1 with e2 e3
        exact ⟨e2, e3⟩
      have HM' : Hid (IsMax ls (if m < ls.getD j 0 then ls.getD j 0 else m) (j + 1)) := by
        obtain ⟨u, i, hi, e⟩ := HM.out
        refine ⟨fun t ht => ?_, ?_⟩
        · by_cases c : t = j
          · subst c; split <;> omega
          · have := u t (by omega); split <;> omega
        · by_cases c : m < ls.getD j 0
          · exact ⟨j, by omega, if_pos c⟩
          · exact ⟨i, by omega, by rw [if_neg c]; exact e⟩
      generalize ls.getD j 0 = z at *
      clear e1 HM
      go_wp2
      go_roundw
      case rel => exact ⟨j + 1, _, by omega, by omega, by go_num, rfl, HM', GK⟩
      case measure => simp [intOf]; omega
    · obtain rfl : j = N := by omega
      go_wp2
      go_ret
      exact ⟨m, rfl, by have h := HM.out; rw [HN.out] at h; exact h, GK.out⟩

/-- The generator's rows that stand in line. -/
def lineRows (k : Nat) (F : Nat → Nat) : List (List Nat) := (List.range k).map fun i => genRow k (F i)
theorem lineRows_shape (k : Nat) (F : Nat → Nat) : Shape (lineRows k F) k k := ⟨by simp [lineRows], fun j hj => by simp [lineRows, List.getD, hj, genRow_len]⟩
theorem lineRows_at {k : Nat} {F : Nat → Nat} {i j : Nat} (hi : i < k) (hj : j < k) : at2 (lineRows k F) i j = MX.gen k (F i) j := by
  have e : (lineRows k F).getD i [] = genRow k (F i) := by simp [lineRows, List.getD, hi]
  unfold at2
  rw [e, genRow_get hj]
theorem lineRows_inv {k : Nat} {F : Nat → Nat} (h2 : k ≤ 255) (lt : ∀ i, i < k → F i < 255) (inj : ∀ i i', i < k → i' < k → F i = F i' → i = i') : ¬ NoInv k (at2 (lineRows k F)) := by
  obtain ⟨c, hc⟩ := MX.gen_inv (n := 255) (Nat.le_refl _) h2 F lt inj
  intro h
  exact h ⟨c, hc.sb, (MX.mm_congr (MX.Eq2.refl _ _ _) (fun i j hi hj => lineRows_at hi hj)).trans hc.l⟩
theorem lineRows_one {k : Nat} {F : Nat → Nat} (h : ∀ i, i < k → F i = i) : MX.Inv k (at2 (lineRows k F)) (at2 (lineRows k F)) := by
  have e : MX.Eq2 k k (at2 (lineRows k F)) MX.one := fun i j hi hj => by
    rw [lineRows_at hi hj, h i hi]
    unfold MX.gen
    rw [if_pos hi]
  have s : MX.Small k k (at2 (lineRows k F)) := fun i j hi hj => by rw [lineRows_at hi hj]; exact MX.gen_lt _ _ _
  have m : MX.Eq2 k k (MX.mm k (at2 (lineRows k F)) (at2 (lineRows k F))) MX.one := (MX.mm_congr e e).trans (MX.mm_one (MX.one_small k k))
  exact ⟨s, s, m, m⟩

theorem intsOf_get {F : Nat → Nat} {k j : Nat} (h : j < k) : (intsOf F k k).getD j 0 = (F j : Int) := by simp [intsOf, List.getD, h]

set_option maxHeartbeats 3200000 in
theorem unravel_any {w : World} {v : Value} {F : Nat → Nat} {k : Nat} (hv : IVec w v (intsOf F k k)) (h1 : 1 ≤ k) (h2 : k < 255) (lt : ∀ i, i < k → F i < 255) (own : ∀ i, i < k → F i = i ∨ k ≤ F i) (inj : ∀ i i', i < k → i' < k → F i = F i' → i = i') :
    Calls Tryz.prog 130 #[v] w fun e w' => ∃ p n c us Y, e = .returned (.tuple #[.slice p n c, .int .i64 0]) ∧ OwnMat w.heap.size w' (.slice p n c) us Y ∧ Shape Y k k ∧ MX.Inv k (at2 (lineRows k F)) (at2 Y) ∧ w.grownBy w' none := by
  obtain ⟨q, N, cap, rfl, hN⟩ := hv.opened
  obtain rfl : N = k := by rw [intsOf_len] at hN; exact hN
  have KV : Hid (∀ w', w.grownBy w' none → IVec w' (.slice q N cap) (intsOf F N N)) := fun w' g => hv.keep g
  have HP : Hid ((∀ i, i < N → F i < 255) ∧ (∀ i, i < N → F i = i ∨ N ≤ F i) ∧ ∀ i i', i < N → i' < N → F i = F i' → i = i') := ⟨lt, own, inj⟩
  clear hN hv lt own inj
  go_enter Tryz.func130, Tryz.ntmps130
  go_wp2_with (at_make; refine wpList_make_rows rfl _ _ rfl N rfl rfl (by omega) ?_; intro w1 p om g1; have OM : Hid (OwnMat w.heap.size w1 (.slice p N N) (List.replicate N (.slice none 0 0)) (upTo (fun i => genRow N (F i)) N 0)) := (by rw [upTo_zero]; exact om); have G1 : Hid (w.grownBy w1 none) := g1; clear om g1)
  go_loopw [14] (fun ti wr => ∃ (j : Nat) (us : List Value), j ≤ N ∧ ti = .int .i64 j ∧ Hid (OwnMat w.heap.size wr (.slice p N N) us (upTo (fun i => genRow N (F i)) N j)) ∧ Hid (Sep us) ∧ Hid (w.grownBy wr none)) (fun ti _ => N - (intOf ti).toNat)
  case atStart => exact ⟨0, _, by omega, rfl, OM, Sep.nils N, G1⟩
  case round =>
    clear OM G1
    obtain ⟨j, us, hj, rfl, OK, SK, GK⟩ := hrel
    by_cases hlt : j < N
    · have i1 : (j : Int) < (N : Int) := by omega
      have i3 : (0 : Int) ≤ (j : Int) := by omega
      obtain ⟨bl, ol, rfl, hcl⟩ := (KV.out _ GK.out).spot (k := j) (by rw [intsOf_len]; exact hlt)
      rw [intsOf_get hlt] at hcl
      have HX : Hid ((upTo (fun i => genRow N (F i)) N j).set j (genRow N (F j)) = upTo (fun i => genRow N (F i)) N (j + 1)) := upTo_set (fun i => genRow N (F i)) _ _
      have HL : Hid (j < (upTo (fun i => genRow N (F i)) N j).length) := by show _ < _; rw [upTo_len]; exact hlt
      have CJ : Hid (Calls Tryz.prog 122 #[.int .i64 (N : Int), .int .i64 (F j : Int)] wr fun e w'' => ∃ p n c, e = .returned (.slice p n c) ∧ Own wr.heap.size w'' (.slice p n c) (genRow N (F j)) ∧ wr.grownBy w'' none) := row_any N (F j) wr (by omega) (by have := HP.out.1 j hlt; omega)
      generalize upTo (fun i => genRow N (F i)) N j = XK at *
      generalize genRow N (F j) = YK at *
      generalize F j = fj at *
      obtain ⟨g, rfl, _⟩ := OK.out.place (k := j) HL.out
      go_wp2_with (go_at_call 122; refine CJ.out.mono ?_; rintro e w2 ⟨p2, n2, c2, rfl, o2, g2⟩; obtain ⟨g', e', hb, hc, hf, hput, hown, hgr⟩ := (OK.out.keep g2).place (k := j) HL.out; obtain rfl : g = g' := (by injection e' with e'; injection e' with e'); have OU : Hid (Own wr.heap.size w2 (.slice p2 n2 c2) YK) := o2; have G2 : Hid (wr.grownBy w2 none) := g2; have PUT : Hid _ := hput; have GR : Hid _ := hgr; have HB : Hid (w.heap.size ≤ g) := hb; clear o2 g2 e' hput hgr hown hb)
      have R : Hid (OwnMat w.heap.size (w2.setCell ⟨g, j, none⟩ (.slice p2 n2 c2)) (.slice (some ⟨g, 0, none⟩) N N) (us.set j (.slice p2 n2 c2)) (upTo (fun i => genRow N (F i)) N (j + 1)) ∧ Sep (us.set j (.slice p2 n2 c2)) ∧ w.grownBy (w2.setCell ⟨g, j, none⟩ (.slice p2 n2 c2)) none) := by
        refine ⟨?_, SK.out.put (H := wr.heap.size) (OK.out.hiRow) OU.out.lo j, ?_⟩
        · rw [← HX.out]
          exact PUT.out _ _ (OU.out.down GK.out.size)
        · exact grown_new (grown_trans GK.out G2.out) (GR.out _) (fun i e => by have := Option.some.inj e; have := HB.out; omega)
      clear OK SK GK OU G2 PUT GR HX HL HB CJ hcl
      go_roundw
      case rel => exact ⟨j + 1, us.set j (.slice p2 n2 c2), by omega, by go_num, R.out.1, R.out.2.1, R.out.2.2⟩
      case measure => simp [intOf]; omega
    · obtain rfl : j = N := by omega
      have OK' : Hid (OwnMat w.heap.size wr (.slice p j j) us (lineRows j F)) := by
        have h := OK.out
        rw [upTo_all] at h
        exact h
      have MXC : Hid (Calls Tryz.prog 142 #[.slice q j cap] wr fun e w' => ∃ m : Int, e = .returned (.int .i64 m) ∧ IsMax (intsOf F j j) m (intsOf F j j).length ∧ wr.grownBy w' none) := max_any (KV.out _ GK.out) (by rw [intsOf_len]; exact h1)
      clear OK SK
      go_wp2_with fail
      refine MXC.out.mono ?_
      rintro e w3 ⟨m, rfl, im, g3⟩
      rw [intsOf_len] at im
      have G3 : Hid (w.grownBy w3 none) := grown_trans GK.out g3
      have O3 : Hid (OwnMat w.heap.size w3 (.slice p j j) us (lineRows j F)) := OK'.out.keep g3
      clear g3 OK' GK MXC
      by_cases hm : m < (j : Int)
      · have HO : Hid (∀ i, i < j → F i = i) := fun i hi => by
          have a := im.up i hi
          rw [intsOf_get hi] at a
          rcases HP.out.2.1 i hi with c | c
          · exact c
          · omega
        clear im
        go_wp2
        go_ret2
        exact ⟨p, j, j, us, _, rfl, O3.out, lineRows_shape j F, lineRows_one HO.out, G3.out⟩
      · have sh := lineRows_shape j F
        have IV : Hid (Calls Tryz.prog 143 #[.slice p j j] w3 fun e w' => ∃ p' k c us' Y, e = .returned (.tuple #[.slice p' k c, .int .i64 0]) ∧ Ans (lineRows j F).length (lineRows j F) w3 w' (.slice p' k c) us' Y) := invert_yes O3.out.mat (may_of sh h1 (by omega) h1 (by omega)) (by rw [sh.len, sh.row 0 (by omega)]) (by rw [sh.len]; exact lineRows_inv (by omega) HP.out.1 HP.out.2.2)
        have SL : Hid ((lineRows j F).length = j) := sh.len
        clear im sh
        go_wp2_with (go_at_call 143; refine IV.out.mono ?_; rintro e w4 ⟨p4, n4, c4, u4, Y, rfl, an⟩; have AN : Hid _ := an; clear an)
        go_ret2
        have an := AN.out
        rw [SL.out] at an
        exact ⟨p4, n4, c4, u4, Y, rfl, an.om.down G3.out.size, an.shape, an.inv, grown_trans G3.out an.grown⟩
end Go.Proofs.YtfjlpifaaknmpaaGreat

/- The contract of code.solve: what k chunks in line tell. -/
set_option linter.unusedVariables false
set_option maxRecDepth 100000
namespace Go.Proofs.YtfjlpifaaknmpaaGreat
open Go.RowKit

/-- Whatever data have those chunks are D. -/
def Told (F : Nat → Nat) (k L : Nat) (T D : List (List Nat)) : Prop :=
  ∀ D', Shape D' k L → (∀ i j, at2 D' i j < 256) → (∀ i t, i < k → t < L → codeAt D' k (F i) t = at2 T i t) → D' = D

/-- What solve puts at j. -/
def solRow (F : Nat → Nat) (k L : Nat) (T Y : List (List Nat)) (j : Nat) : List Nat := if F j = j then T.getD j [] else combTo (Y.getD j []) T L k

theorem codeRow_at {X : List (List Nat)} {k L i t : Nat} (h : t < L) : (codeRow X k L i).getD t 0 = codeAt X k i t := gd_map _ h
theorem row_ext {xs ys : List Nat} {L : Nat} (hx : xs.length = L) (hy : ys.length = L) (h : ∀ t, t < L → xs.getD t 0 = ys.getD t 0) : xs = ys := by
  apply List.ext_getElem
  · omega
  · intro i h1 h2
    have := h i (by omega)
    rwa [gd_of xs h1, gd_of ys h2] at this

theorem solved {F : Nat → Nat} {k L : Nat} {T Y : List (List Nat)} (hT : Shape T k L) (hY : Shape Y k k) (iv : MX.Inv k (at2 (lineRows k F)) (at2 Y)) : Told F k L T ((List.range k).map (solRow F k L T Y)) := by
  intro D' hD sm hc
  apply list_ext
  · rw [hD.len]; simp
  · intro j hj
    rw [hD.len] at hj
    rw [show ((List.range k).map (solRow F k L T Y)).getD j [] = solRow F k L T Y j from by simp [List.getD, hj]]
    unfold solRow
    by_cases e : F j = j
    · rw [if_pos e]
      refine row_ext (hD.row j hj) (hT.row j hj) fun t ht => ?_
      have h1 := hc j t hj ht
      rw [e] at h1
      have h2 := code_low hD sm hj
      rw [← h2, codeRow_at ht, h1]
      rfl
    · rw [if_neg e]
      refine row_ext (hD.row j hj) (combTo_len _ _ _ _) fun t ht => ?_
      rw [combTo_get ht]
      have sD : MX.Small k L (at2 D') := fun i j _ _ => sm i j
      have a1 := MX.mm_assoc (a := at2 Y) (b := at2 (lineRows k F)) (c := at2 D') iv.sb iv.sa sD j t hj ht
      have a2 := (MX.mm_congr (m := L) iv.l (MX.Eq2.refl k L (at2 D'))) j t hj ht
      have a3 := MX.one_mm sD j t hj ht
      have a4 : MX.mm k (at2 Y) (MX.mm k (at2 (lineRows k F)) (at2 D')) j t = MX.xs (fun i => M.mul ((Y.getD j []).getD i 0) (at2 T i t)) k := by
        refine MX.xs_congr fun i hi => ?_
        show M.mul (at2 Y j i) (MX.mm k (at2 (lineRows k F)) (at2 D') i t) = M.mul (at2 Y j i) (at2 T i t)
        rw [← hc i t hi ht]
        congr 1
        refine MX.xs_congr fun l hl => ?_
        rw [lineRows_at hi hl]
      rw [← a4, ← a1, a2, a3]
      rfl
theorem solRow_len {F : Nat → Nat} {k L : Nat} {T Y : List (List Nat)} (hT : Shape T k L) {j : Nat} (hj : j < k) : (solRow F k L T Y j).length = L := by
  unfold solRow
  split
  · exact hT.row j hj
  · exact combTo_len _ _ _ _

set_option maxHeartbeats 3200000 in
theorem solve4_any {w : World} {vl vt : Value} {F : Nat → Nat} {k L : Nat} {ts : List Value} {T : List (List Nat)} (hl : IVec w vl (intsOf F k k)) (mt : Mat w vt ts T) (hT : Shape T k L) (h1 : 1 ≤ k) (h2 : k < 255) (lt : ∀ i, i < k → F i < 255) (own : ∀ i, i < k → F i = i ∨ k ≤ F i) (inj : ∀ i i', i < k → i' < k → F i = F i' → i = i') :
    Calls Tryz.prog 107 #[vl, vt] w fun e w' => ∃ p n c us D, e = .returned (.tuple #[.slice p n c, .int .i64 0]) ∧ OwnMat w.heap.size w' (.slice p n c) us D ∧ Sep us ∧ Shape D k L ∧ Told F k L T D ∧ w.grownBy w' none := by
  have UU : Hid (Calls Tryz.prog 130 #[vl] w fun e w' => ∃ p n c us Y, e = .returned (.tuple #[.slice p n c, .int .i64 0]) ∧ OwnMat w.heap.size w' (.slice p n c) us Y ∧ Shape Y k k ∧ MX.Inv k (at2 (lineRows k F)) (at2 Y) ∧ w.grownBy w' none) := unravel_any hl h1 h2 lt own inj
  obtain ⟨q, N, cap, rfl, hN⟩ := hl.opened
  obtain rfl : N = k := by rw [intsOf_len] at hN; exact hN
  obtain ⟨qt, Nt, ct, rfl, hNt⟩ := mt.row.opened
  have hs := mt.same
  have hNt' : Nt = N := by rw [hNt, hs, hT.len]
  subst hNt'
  have KV : Hid (∀ w', w.grownBy w' none → IVec w' (.slice q Nt cap) (intsOf F Nt Nt)) := fun w' g => hl.keep g
  have KT : Hid (∀ w', w.grownBy w' none → Mat w' (.slice qt Nt ct) ts T) := fun w' g => mt.keep g
  have HT : Hid (Shape T Nt L) := hT
  clear hN hl mt hT hs hNt lt own inj
  go_enter Tryz.func107, Tryz.ntmps107
  go_wp2_with fail
  refine UU.out.mono ?_
  rintro e w1 ⟨py, ny, cy, uy, Y, rfl, om, hY, iv, g1⟩
  obtain ⟨rfl, _⟩ : ny = Nt ∧ True := by
    obtain ⟨_, _, _, e, hn⟩ := om.mat.row.opened
    injection e with _ e2 _
    have := om.same
    rw [hY.len] at this
    exact ⟨by omega, trivial⟩
  have KY : Hid (∀ w', w1.grownBy w' none → Mat w' (.slice py ny cy) uy Y) := fun w' g => om.mat.keep g
  have IV : Hid (Shape Y ny ny ∧ MX.Inv ny (at2 (lineRows ny F)) (at2 Y)) := ⟨hY, iv⟩
  have G1 : Hid (w.grownBy w1 none) := g1
  clear om hY iv g1 UU
  go_wp2_with (at_make; refine wpList_make_chunks rfl _ _ rfl ny rfl rfl (by omega) ?_; intro w2 p om g2; have OM : Hid (OwnMat w1.heap.size w2 (.slice p ny ny) (List.replicate ny (.slice none 0 0)) (upTo (solRow F ny L T Y) ny 0)) := (by rw [upTo_zero]; exact om); have G2 : Hid (w1.grownBy w2 none) := g2; clear om g2)
  go_loopw [24] (fun ti wr => ∃ (j : Nat) (us : List Value), j ≤ ny ∧ ti = .int .i64 j ∧ Hid (OwnMat w1.heap.size wr (.slice p ny ny) us (upTo (solRow F ny L T Y) ny j)) ∧ Hid (Sep us) ∧ Hid (w1.grownBy wr none)) (fun ti _ => ny - (intOf ti).toNat)
  case atStart => exact ⟨0, _, by omega, rfl, OM, Sep.nils ny, G2⟩
  case round =>
    clear OM G2
    obtain ⟨j, us, hj, rfl, OK, SK, GK⟩ := hrel
    by_cases hlt : j < ny
    · have i1 : (j : Int) < (ny : Int) := by omega
      have i3 : (0 : Int) ≤ (j : Int) := by omega
      have GW : Hid (w.grownBy wr none) := grown_trans G1.out GK.out
      obtain ⟨bl, ol, rfl, hcl⟩ := (KV.out _ GW.out).spot (k := j) (by rw [intsOf_len]; exact hlt)
      rw [intsOf_get hlt] at hcl
      have HX : Hid ((upTo (solRow F ny L T Y) ny j).set j (solRow F ny L T Y j) = upTo (solRow F ny L T Y) ny (j + 1)) := upTo_set _ _ _
      have HL : Hid (j < (upTo (solRow F ny L T Y) ny j).length) := by show _ < _; rw [upTo_len]; exact hlt
      obtain ⟨g, rfl, _⟩ := OK.out.place (k := j) HL.out
      have MT := KT.out _ GW.out
      have MY := KY.out _ GK.out
      have PUT : Hid (∀ w2 p2 n2 c2, Own wr.heap.size w2 (.slice p2 n2 c2) (solRow F ny L T Y j) → wr.grownBy w2 none → ∃ u, w2.cell? ⟨g, j, none⟩ = some u ∧ w2.frozen? ⟨g, j, none⟩ = false ∧ OwnMat w1.heap.size (w2.setCell ⟨g, j, none⟩ (.slice p2 n2 c2)) (.slice (some ⟨g, 0, none⟩) ny ny) (us.set j (.slice p2 n2 c2)) (upTo (solRow F ny L T Y) ny (j + 1)) ∧ Sep (us.set j (.slice p2 n2 c2)) ∧ w1.grownBy (w2.setCell ⟨g, j, none⟩ (.slice p2 n2 c2)) none) := fun w2 p2 n2 c2 o2 g2 => by
        obtain ⟨g', e', hb, hc, hf, hput, hown, hgr⟩ := (OK.out.keep g2).place (k := j) HL.out
        obtain rfl : g = g' := (by injection e' with e'; injection e' with e')
        refine ⟨_, hc, hf, ?_, SK.out.put (H := wr.heap.size) (OK.out.hiRow) o2.lo j, grown_new (grown_trans GK.out g2) (hgr _) (fun i e => by have := Option.some.inj e; omega)⟩
        rw [← HX.out]
        exact hput _ _ (o2.down GK.out.size)
      clear OK SK HX HL
      by_cases hf : F j = j
      · have hv := MT.vec j (by rw [HT.out.len]; exact hlt)
        obtain ⟨bt, ot, rfl, hct⟩ := MT.row.spot (k := j) (by rw [MT.same, HT.out.len]; exact hlt)
        obtain ⟨pj, nj, cj, ej, hnj⟩ := hv.opened
        rw [ej] at hct hv
        have CC : Hid (Calls Tryz.prog 120 #[.slice pj nj cj] wr fun e w' => ∃ p n c, e = .returned (.slice p n c) ∧ Own wr.heap.size w' (.slice p n c) (solRow F ny L T Y j) ∧ wr.grownBy w' none) := by
          rw [show solRow F ny L T Y j = T.getD j [] from if_pos hf]
          exact copied_any hv
        rw [hf] at hcl
        clear hv ej hnj MT MY hf
        generalize solRow F ny L T Y j = SR at *
        go_wp2_with (go_at_call 120; refine CC.out.mono ?_; rintro e w2 ⟨p2, n2, c2, rfl, o2, g2⟩; obtain ⟨u, hc, hfz, r⟩ := PUT.out w2 p2 n2 c2 o2 g2; have R : Hid _ := r; clear o2 g2 r)
        go_roundw
        case rel => exact ⟨j + 1, us.set j (.slice p2 n2 c2), by omega, by go_num, R.out.1, R.out.2.1, R.out.2.2⟩
        case measure => simp [intOf]; omega
      · have hvy := MY.vec j (by rw [IV.out.1.len]; exact hlt)
        obtain ⟨bt, ot, rfl, hct⟩ := MY.row.spot (k := j) (by rw [MY.same, IV.out.1.len]; exact hlt)
        obtain ⟨pj, nj, cj, ej, hnj⟩ := hvy.opened
        rw [ej] at hct hvy
        have CC : Hid (Calls Tryz.prog 121 #[.slice pj nj cj, .slice qt ny ct] wr fun e w' => ∃ p n c, e = .returned (.slice p n c) ∧ Own wr.heap.size w' (.slice p n c) (solRow F ny L T Y j) ∧ wr.grownBy w' none) := by
          have hlen : (Y.getD j []).length = ny := IV.out.1.row j hlt
          have h := combine_any (L := L) hvy MT (by rw [HT.out.len]; exact HT.out) (by rw [hlen, HT.out.len]) (by rw [HT.out.len]; omega)
          rw [hlen] at h
          rw [show solRow F ny L T Y j = combTo (Y.getD j []) T L ny from if_neg hf]
          exact h
        have hne : ((F j : Int) == (j : Int)) = false := by simp; omega
        have hne2 : ¬ ((F j : Int) = (j : Int)) := by omega
        clear hvy ej hnj MT MY hf
        generalize solRow F ny L T Y j = SR at *
        generalize F j = fj at *
        go_wp2_with (go_at_call 121; refine CC.out.mono ?_; rintro e w2 ⟨p2, n2, c2, rfl, o2, g2⟩; obtain ⟨u, hc, hfz, r⟩ := PUT.out w2 p2 n2 c2 o2 g2; have R : Hid _ := r; clear o2 g2 r)
        go_roundw
        case rel => exact ⟨j + 1, us.set j (.slice p2 n2 c2), by omega, by go_num, R.out.1, R.out.2.1, R.out.2.2⟩
        case measure => simp [intOf]; omega
    · obtain rfl : j = ny := by omega
      go_wp2
      go_ret2
      have h := OK.out
      rw [upTo_all] at h
      exact ⟨p, j, j, us, _, rfl, h.down G1.out.size, SK.out, ⟨by simp, fun i hi => by rw [show ((List.range j).map (solRow F j L T Y)).getD i [] = solRow F j L T Y i from by simp [List.getD, hi]]; exact solRow_len HT.out hi⟩, solved HT.out IV.out.1 IV.out.2, grown_trans G1.out GK.out⟩
end Go.Proofs.YtfjlpifaaknmpaaGreat

/- The contract of code.Decode. -/
set_option linter.unusedVariables false
set_option maxRecDepth 100000
namespace Go.Proofs.YtfjlpifaaknmpaaGreat
open Go.RowKit

/-- Chunks, and what they are said to be, may be looked at. -/
def decOK (k n : Int) (ls : List Int) (X : List (List Nat)) : Prop := mayI k n = true ∧ ls.length = X.length ∧ evenB X = true ∧ goodAt n.toNat ls ls.length

/-- Whatever data have the first k chunks are D. -/
def Tells (ls : List Int) (k L : Nat) (X D : List (List Nat)) : Prop :=
  ∀ D', Shape D' k L → (∀ i j, at2 D' i j < 256) → (∀ i t, i < k → t < L → codeAt D' k (ls.getD i 0).toNat t = at2 X i t) → D' = D

/-- Where the chunk of number x stands. -/
def posOf (ls : List Int) (x : Nat) : Nat := wh ls ls.length x - 1
def toldOf (ls : List Int) (X : List (List Nat)) (F : Nat → Nat) (k : Nat) : List (List Nat) := (List.range k).map fun j => X.getD (posOf ls (F j)) []
theorem toldOf_get {ls : List Int} {X : List (List Nat)} {F : Nat → Nat} {k j : Nat} (h : j < k) : (toldOf ls X F k).getD j [] = X.getD (posOf ls (F j)) [] := by simp [toldOf, List.getD, h]
theorem lk_pos {ls : List Int} {k x : Nat} (h : lk (wh ls ls.length) k x = true) : posOf ls x < k ∧ posOf ls x < ls.length ∧ ls.getD (posOf ls x) 0 = (x : Int) ∧ wh ls ls.length x = posOf ls x + 1 := by
  unfold lk at h
  rw [Bool.and_eq_true, decide_eq_true_iff, decide_eq_true_iff] at h
  have := wh_pos (ls := ls) (j := ls.length) (x := x) (by omega)
  unfold posOf
  exact ⟨by omega, this.1, this.2, by omega⟩
theorem tells_of {ls : List Int} {X D : List (List Nat)} {F : Nat → Nat} {k L : Nat} (hF : ∀ i, i < k → lk (wh ls ls.length) k (F i) = true) (h : Told F k L (toldOf ls X F k) D) : Tells ls k L X D := by
  intro D' hD sm hc
  refine h D' hD sm fun i t hi ht => ?_
  have hp := lk_pos (hF i hi)
  have := hc (posOf ls (F i)) t hp.1 ht
  rw [hp.2.2.1] at this
  show codeAt D' k (F i) t = ((toldOf ls X F k).getD i []).getD t 0
  rw [toldOf_get hi]
  exact this

set_option maxHeartbeats 3200000 in
set_option maxRecDepth 100000 in
theorem decode_yes {w : World} {va vc : Value} {k n : Nat} {ls : List Int} {vs : List Value} {X : List (List Nat)} (hl : IVec w va ls) (mr : Mat w vc vs X) (h : decOK k n ls X) (hsh : k ≤ ls.length) :
    Calls Tryz.prog 57 #[.int .i64 (k : Int), .int .i64 (n : Int), va, vc] w fun e w' => ∃ p m c us D, e = .returned (.tuple #[.slice p m c, .int .i64 0]) ∧ OwnMat w.heap.size w' (.slice p m c) us D ∧ Sep us ∧ Shape D k (X.getD 0 []).length ∧ Tells ls k (X.getD 0 []).length X D ∧ w.grownBy w' none := by
  obtain ⟨c1, c2, c3, hg⟩ := h
  obtain ⟨q, A, cap, rfl, hA⟩ := hl.opened
  obtain ⟨qc, N, cc, rfl, hN⟩ := mr.row.opened
  have hs := mr.same
  obtain rfl : A = N := by omega
  have hm := mayI_iff.1 c1
  have hk1 : 1 ≤ k := by omega
  have hk2 : k < 255 := by omega
  have MM : Hid (∀ w, Calls Tryz.prog 91 #[.int .i64 (k : Int), .int .i64 (n : Int)] w fun e w' => e = .returned (.bool true) ∧ w' = w) := fun w => by
    have h := codeMay_any (k : Int) (n : Int) w
    rw [c1] at h
    exact h
  have AA : Hid (Calls Tryz.prog 104 #[.slice qc A cc] w fun e w' => e = .returned (.bool true) ∧ w' = w) := by
    have h := asLong_any mr
    rw [c3] at h
    exact h
  have LL : Hid (∀ w', w' = w → Calls Tryz.prog 105 #[.int .i64 (n : Int), .slice q A cap] w' fun e w' => e = .returned (.tuple #[.agg (placesOf (wh ls ls.length)), .bool true]) ∧ w.grownBy w' none) := fun w' e => by
    subst e
    exact locate_yes hl (by omega) hg
  have UP : Hid (∀ w, Calls Tryz.prog 106 #[.int .i64 (k : Int), .agg (placesOf (wh ls ls.length))] w fun e w' => ∃ p n c F, e = .returned (.slice p n c) ∧ IOwn w.heap.size w' (.slice p n c) (intsOf F k k) ∧ Lined (lk (wh ls ls.length) k) k F k ∧ w.grownBy w' none) := fun w => lineUp_any hk1 hk2 (wh_count (n := n) (by omega) (by simpa using hg) hsh)
  have HPG : Hid (∀ x, x < 255 → (placesOf (wh ls ls.length))[x]? = some (.int .i64 ((wh ls ls.length x : Nat) : Int))) := fun x hx => placesOf_get _ _ hx
  have HI : Hid ((Tryz.prog.info? 154).map (·.size) = some (placesOf (wh ls ls.length)).size) := infoL _
  have hAl : A ≤ 140737488351232 := by rw [hA]; exact hl.len
  have hlt : ¬ (A : Int) < (k : Int) := by omega
  have zL := zeroL
  have ST : ∀ W : World, (storeCells ⟨W.heap.size, 0, none⟩ (placesOf (wh ls ls.length)).toList).run Tryz.prog (W.alloc (.cells (placesOf fun _ => 0) 154)) = .ok () (W.alloc (.cells (placesOf (wh ls ls.length)) 154)) := fun W => by
    have := storeL (f' := wh ls ls.length) (heap_alloc_new W (.cells (placesOf fun _ => 0) 154))
    rwa [World.setRow_alloc_new] at this
  have pL := placesOf_size (wh ls ls.length)
  have KX : Hid (∀ w', w.grownBy w' none → Mat w' (.slice qc A cc) vs X) := fun w' g => mr.keep g
  have SX : Hid (Shape X A (X.getD 0 []).length ∧ A = ls.length) := ⟨by have h := even_shape c3; rw [show A = X.length from by omega]; exact h, hA⟩
  have hkA : k ≤ A := by omega
  clear hs hA hN hl mr c1 c2 c3 hm hg hsh
  generalize (X.getD 0 []).length = L at *
  generalize placesOf (wh ls ls.length) = AR at *
  go_enter Tryz.func57, Tryz.ntmps57
  go_wp2_with (first
    | (go_at_call 91; refine (MM.out _).mono ?_; rintro e w1 ⟨rfl, hw⟩; obtain rfl := hw.symm; clear hw)
    | (go_at_call 104; refine AA.out.mono ?_; rintro e w1 ⟨rfl, hw⟩; obtain rfl := hw.symm; clear hw)
    | (go_at_call 105; refine (LL.out _ rfl).mono ?_; rintro e w1 ⟨rfl, g1⟩; have G1 : Hid (w.grownBy (w1.alloc (.cells AR 154)) none) := gb_alloc g1 _; clear g1))
  clear ST zL pL
  have HB : Hid ((w1.alloc (.cells AR 154)).heap[w1.heap.size]? = some (.cells AR 154 (0, 0))) := heap_alloc_new w1 _
  generalize w1.alloc (.cells AR 154) = w2 at *
  generalize w1.heap.size = g10 at *
  clear w1
  refine wp_load_row 154 (.tmp 10) rfl g10 rfl 154 AR (0, 0) _ HB.out Tryz.underlying154 rfl HI.out ?_
  go_wp2_with fail
  refine (UP.out _).mono ?_
  rintro e w3 ⟨pl, nl, cl, F, rfl, io, ln, g3⟩
  obtain rfl : nl = k := by
    obtain ⟨_, _, _, e, hn⟩ := io.ivec.opened
    injection e with _ e2 _
    rw [intsOf_len] at hn
    omega
  have LN : Hid (Lined (lk (wh ls ls.length) nl) nl F nl) := ln
  have KL : Hid (∀ w', w3.grownBy w' none → IVec w' (.slice pl nl cl) (intsOf F nl nl)) := fun w' g => io.ivec.keep g
  have KB : Hid (∀ w', w3.grownBy w' none → w'.heap[g10]? = some (.cells AR 154 (0, 0))) := fun w' g => heap_grown (grown_trans g3 g) HB.out
  have G3 : Hid (w.grownBy w3 none) := grown_trans G1.out g3
  clear ln io g3 UP LL AA MM HB G1
  go_wp2_with (at_make; refine wpList_make_out rfl _ _ rfl nl rfl rfl (by omega) ?_; intro w4 p ou g4; have OU : Hid (Out w3.heap.size w4 (.slice p nl nl) (List.replicate nl (.slice none 0 0))) := ou; have G4 : Hid (w3.grownBy w4 none) := g4; clear ou g4)
  go_loopw [51] (fun ti wr => ∃ (j : Nat) (us : List Value), j ≤ nl ∧ ti = .int .i64 j ∧ Hid (Out w3.heap.size wr (.slice p nl nl) us ∧ us.length = nl) ∧ Hid (∀ i, i < j → us.getD i undef = vs.getD (posOf ls (F i)) undef) ∧ Hid (w3.grownBy wr none)) (fun ti _ => nl - (intOf ti).toNat)
  case atStart => exact ⟨0, _, by omega, rfl, ⟨OU.out, by simp⟩, fun i hi => by omega, G4⟩
  case round =>
    clear OU G4
    obtain ⟨j, us, hj, rfl, OK, UK, GK⟩ := hrel
    by_cases hjl : j < nl
    · have i1 : (j : Int) < (nl : Int) := by omega
      have i3 : (0 : Int) ≤ (j : Int) := by omega
      obtain ⟨bl, ol, rfl, hcl⟩ := (KL.out _ GK.out).spot (k := j) (by rw [intsOf_len]; exact hjl)
      rw [intsOf_get hjl] at hcl
      have hF := LN.out.lt j hjl
      have hP := lk_pos (LN.out.yes j hjl)
      have hcp : wr.cell? ⟨g10, F j, none⟩ = some (.int .i64 ((posOf ls (F j) : Int) + 1)) := by
        rw [cell_of_row _ _ _ _ _ _ (KB.out _ GK.out), HPG.out _ hF, hP.2.2.2]
        simp
      have MX := KX.out _ (grown_trans G3.out GK.out)
      have hPA : posOf ls (F j) < A := by have := SX.out.2; omega
      have hvl : vs.length = A := by rw [MX.same]; exact SX.out.1.len
      obtain ⟨bc, oc, rfl, hcc⟩ := MX.row.spot (k := posOf ls (F j)) (by omega)
      obtain ⟨pv, nv, cv, ev, hnv⟩ := (MX.vec (posOf ls (F j)) (by rw [SX.out.1.len]; exact hPA)).opened
      rw [ev] at hcc
      obtain ⟨g, rfl, hbg, hcg, hfg, hput, hgr⟩ := OK.out.1.place (k := j) (by rw [OK.out.2]; exact hjl)
      have R : Hid ((Out w3.heap.size (wr.setCell ⟨g, j, none⟩ (.slice pv nv cv)) (.slice (some ⟨g, 0, none⟩) nl nl) (us.set j (.slice pv nv cv)) ∧ (us.set j (.slice pv nv cv)).length = nl) ∧ (∀ i, i < j + 1 → (us.set j (.slice pv nv cv)).getD i undef = vs.getD (posOf ls (F i)) undef) ∧ w3.grownBy (wr.setCell ⟨g, j, none⟩ (.slice pv nv cv)) none) := by
        refine ⟨⟨hput _, by rw [List.length_set]; exact OK.out.2⟩, fun i hi => ?_, grown_new GK.out (hgr _) (fun r e => by have := Option.some.inj e; omega)⟩
        by_cases c : j = i
        · subst c
          rw [getD_set_self _ _ _ _ (by rw [OK.out.2]; exact hjl)]
          exact ev.symm
        · rw [getD_set_ne _ _ _ c]
          exact UK.out i (by omega)
      have k1 : ((posOf ls (F j) : Nat) : Int) < (A : Int) := by omega
      have k2 : (0 : Int) ≤ ((posOf ls (F j) : Nat) : Int) := by omega
      have k3 : ((F j : Nat) : Int) < 255 := by omega
      have k4 : (0 : Int) ≤ ((F j : Nat) : Int) := by omega
      clear MX hput hgr hbg hP hnv ev hvl hF OK UK
      generalize posOf ls (F j) = P at *
      generalize us.getD j undef = uj at *
      generalize F j = fj at *
      go_wp2
      go_roundw
      case rel => exact ⟨j + 1, us.set j (.slice pv nv cv), by omega, by go_num, R.out.1, R.out.2.1, R.out.2.2⟩
      case measure => simp [intOf]; omega
    · obtain rfl : j = nl := by omega
      have GW : Hid (w.grownBy wr none) := grown_trans G3.out GK.out
      have MT : Hid (Mat wr (.slice p j j) us (toldOf ls X F j)) := by
        refine ⟨OK.out.1.cells, by rw [OK.out.2]; simp [toldOf], fun i hi => ?_⟩
        have hi' : i < j := by simpa [toldOf] using hi
        rw [UK.out i hi', toldOf_get hi']
        have hP := lk_pos (LN.out.yes i hi')
        exact (KX.out _ GW.out).vec _ (by rw [SX.out.1.len]; have := SX.out.2; omega)
      have ST : Hid (Shape (toldOf ls X F j) j L) := ⟨by simp [toldOf], fun i hi => by
        rw [toldOf_get hi]
        have hP := lk_pos (LN.out.yes i hi)
        exact SX.out.1.row _ (by have := SX.out.2; omega)⟩
      have SS : Hid (Calls Tryz.prog 107 #[.slice pl j cl, .slice p j j] wr fun e w' => ∃ p n c us D, e = .returned (.tuple #[.slice p n c, .int .i64 0]) ∧ OwnMat wr.heap.size w' (.slice p n c) us D ∧ Sep us ∧ Shape D j L ∧ Told F j L (toldOf ls X F j) D ∧ wr.grownBy w' none) := solve4_any (KL.out _ GK.out) MT.out ST.out hk1 hk2 LN.out.lt LN.out.own LN.out.inj
      clear OK UK MT ST
      go_wp2_with (go_at_call 107; refine SS.out.mono ?_; rintro e w5 ⟨p5, n5, c5, u5', D, rfl, om, sp, sh, td, g5⟩; have R5 : Hid (OwnMat wr.heap.size w5 (.slice p5 n5 c5) u5' D ∧ Sep u5' ∧ Shape D j L ∧ Told F j L (toldOf ls X F j) D ∧ wr.grownBy w5 none) := ⟨om, sp, sh, td, g5⟩; clear om sp sh td g5)
      go_ret2
      exact ⟨p5, n5, c5, u5', D, rfl, R5.out.1.down GW.out.size, R5.out.2.1, R5.out.2.2.1, tells_of LN.out.yes R5.out.2.2.2.1, grown_trans GW.out R5.out.2.2.2.2⟩
end Go.Proofs.YtfjlpifaaknmpaaGreat

/- The document's Decode. -/
set_option linter.unusedVariables false
set_option maxRecDepth 100000
namespace Go.Proofs.YtfjlpifaaknmpaaGreat
open Go.RowKit

/-- The first k chunks are those of the code of D. -/
def Has (ls : List Int) (k L : Nat) (X D : List (List Nat)) : Prop := Shape D k L ∧ (∀ i j, at2 D i j < 256) ∧ ∀ i t, i < k → t < L → codeAt D k (ls.getD i 0).toNat t = at2 X i t
/-- What the document's Decode answers. -/
def DecR (k n : Int) (ls : List Int) (X P : List (List Nat)) (er : Int) : Prop :=
  (¬ decOK k n ls X ∧ P = [] ∧ er = 1) ∨ (decOK k n ls X ∧ (ls.length : Int) < k ∧ P = [] ∧ er = 4) ∨ (decOK k n ls X ∧ k ≤ ls.length ∧ er = 0 ∧ Has ls k.toNat (X.getD 0 []).length X P)
/-- What the program's answers. -/
def DecP (k n : Int) (ls : List Int) (X P : List (List Nat)) (er : Int) : Prop :=
  (¬ decOK k n ls X ∧ P = [] ∧ er = 1) ∨ (decOK k n ls X ∧ (ls.length : Int) < k ∧ P = [] ∧ er = 4) ∨ (decOK k n ls X ∧ k ≤ ls.length ∧ er = 0 ∧ Tells ls k.toNat (X.getD 0 []).length X P)
theorem Dec.one {k n : Int} {ls : List Int} {X P Q : List (List Nat)} {a b : Int} (h : DecP k n ls X P a) (g : DecR k n ls X Q b) : Q = P ∧ b = a := by
  rcases h with ⟨h1, rfl, rfl⟩ | ⟨h1, h2, rfl, rfl⟩ | ⟨h1, h2, rfl, h3⟩ <;> rcases g with ⟨g1, rfl, rfl⟩ | ⟨g1, g2, rfl, rfl⟩ | ⟨g1, g2, rfl, g3⟩
  · exact ⟨rfl, rfl⟩
  · exact absurd g1 h1
  · exact absurd g1 h1
  · exact absurd h1 g1
  · exact ⟨rfl, rfl⟩
  · omega
  · exact absurd h1 g1
  · omega
  · exact ⟨h3 Q g3.1 g3.2.1 g3.2.2, rfl⟩

end Go.Proofs.YtfjlpifaaknmpaaGreat

