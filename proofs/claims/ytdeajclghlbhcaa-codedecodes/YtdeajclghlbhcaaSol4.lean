/- The contract of code.solve: what k chunks in line tell. -/
import Derived.Test.YtdeajclghlbhcaaUnr4
set_option linter.unusedVariables false
namespace Go.Proofs.Ytdeajclghlbhcaa
open Go.RowKit

/-- Whatever data have those chunks are D. -/
def Told (F : Nat → Nat) (k L : Nat) (T D : List (List Nat)) : Prop :=
  ∀ D', Shape D' k L → (∀ i j, at2 D' i j < 256) → (∀ i t, i < k → t < L → codeAt D' k (F i) t = at2 T i t) → D' = D

/-- What solve puts at j. -/
def solRow (F : Nat → Nat) (k L : Nat) (T Y : List (List Nat)) (j : Nat) : List Nat := if F j = j then T.getD j [] else combTo (Y.getD j []) T L k

theorem codeRow_at {X : List (List Nat)} {k L i t : Nat} (h : t < L) : (codeRow X k L i).getD t 0 = codeAt X k i t := gd_map _ h
theorem row_ext {xs ys : List Nat} {L : Nat} (hx : xs.length = L) (hy : ys.length = L) (h : ∀ t, t < L → xs.getD t 0 = ys.getD t 0) : xs = ys := by
  apply List.ext_getElem
  · omega
  · intro i h1 h2
    have := h i (by omega)
    rwa [gd_of xs h1, gd_of ys h2] at this

theorem solved {F : Nat → Nat} {k L : Nat} {T Y : List (List Nat)} (hT : Shape T k L) (hY : Shape Y k k) (iv : MX.Inv k (at2 (lineRows k F)) (at2 Y)) : Told F k L T ((List.range k).map (solRow F k L T Y)) := by
  intro D' hD sm hc
  apply list_ext
  · rw [hD.len]; simp
  · intro j hj
    rw [hD.len] at hj
    rw [show ((List.range k).map (solRow F k L T Y)).getD j [] = solRow F k L T Y j from by simp [List.getD, hj]]
    unfold solRow
    by_cases e : F j = j
    · rw [if_pos e]
      refine row_ext (hD.row j hj) (hT.row j hj) fun t ht => ?_
      have h1 := hc j t hj ht
      rw [e] at h1
      have h2 := code_low hD sm hj
      rw [← h2, codeRow_at ht, h1]
      rfl
    · rw [if_neg e]
      refine row_ext (hD.row j hj) (combTo_len _ _ _ _) fun t ht => ?_
      rw [combTo_get ht]
      have sD : MX.Small k L (at2 D') := fun i j _ _ => sm i j
      have a1 := MX.mm_assoc (a := at2 Y) (b := at2 (lineRows k F)) (c := at2 D') iv.sb iv.sa sD j t hj ht
      have a2 := (MX.mm_congr (m := L) iv.l (MX.Eq2.refl k L (at2 D'))) j t hj ht
      have a3 := MX.one_mm sD j t hj ht
      have a4 : MX.mm k (at2 Y) (MX.mm k (at2 (lineRows k F)) (at2 D')) j t = MX.xs (fun i => M.mul ((Y.getD j []).getD i 0) (at2 T i t)) k := by
        refine MX.xs_congr fun i hi => ?_
        show M.mul (at2 Y j i) (MX.mm k (at2 (lineRows k F)) (at2 D') i t) = M.mul (at2 Y j i) (at2 T i t)
        rw [← hc i t hi ht]
        congr 1
        refine MX.xs_congr fun l hl => ?_
        rw [lineRows_at hi hl]
      rw [← a4, ← a1, a2, a3]
      rfl
theorem solRow_len {F : Nat → Nat} {k L : Nat} {T Y : List (List Nat)} (hT : Shape T k L) {j : Nat} (hj : j < k) : (solRow F k L T Y j).length = L := by
  unfold solRow
  split
  · exact hT.row j hj
  · exact combTo_len _ _ _ _

set_option maxHeartbeats 3200000 in
theorem solve4_any {w : World} {vl vt : Value} {F : Nat → Nat} {k L : Nat} {ts : List Value} {T : List (List Nat)} (hl : IVec w vl (intsOf F k k)) (mt : Mat w vt ts T) (hT : Shape T k L) (h1 : 1 ≤ k) (h2 : k < 255) (lt : ∀ i, i < k → F i < 255) (own : ∀ i, i < k → F i = i ∨ k ≤ F i) (inj : ∀ i i', i < k → i' < k → F i = F i' → i = i') :
    Calls Try.prog 36 #[vl, vt] w fun e w' => ∃ p n c us D, e = .returned (.tuple #[.slice p n c, .int .i64 0]) ∧ OwnMat w.heap.size w' (.slice p n c) us D ∧ Sep us ∧ Shape D k L ∧ Told F k L T D ∧ w.grownBy w' none := by
  have UU : Hid (Calls Try.prog 47 #[vl] w fun e w' => ∃ p n c us Y, e = .returned (.tuple #[.slice p n c, .int .i64 0]) ∧ OwnMat w.heap.size w' (.slice p n c) us Y ∧ Shape Y k k ∧ MX.Inv k (at2 (lineRows k F)) (at2 Y) ∧ w.grownBy w' none) := unravel_any hl h1 h2 lt own inj
  obtain ⟨q, N, cap, rfl, hN⟩ := hl.opened
  obtain rfl : N = k := by rw [intsOf_len] at hN; exact hN
  obtain ⟨qt, Nt, ct, rfl, hNt⟩ := mt.row.opened
  have hs := mt.same
  have hNt' : Nt = N := by rw [hNt, hs, hT.len]
  subst hNt'
  have KV : Hid (∀ w', w.grownBy w' none → IVec w' (.slice q Nt cap) (intsOf F Nt Nt)) := fun w' g => hl.keep g
  have KT : Hid (∀ w', w.grownBy w' none → Mat w' (.slice qt Nt ct) ts T) := fun w' g => mt.keep g
  have HT : Hid (Shape T Nt L) := hT
  clear hN hl mt hT hs hNt lt own inj
  go_enter Try.func36, Try.ntmps36
  go_wp2_with fail
  refine UU.out.mono ?_
  rintro e w1 ⟨py, ny, cy, uy, Y, rfl, om, hY, iv, g1⟩
  obtain ⟨rfl, _⟩ : ny = Nt ∧ True := by
    obtain ⟨_, _, _, e, hn⟩ := om.mat.row.opened
    injection e with _ e2 _
    have := om.same
    rw [hY.len] at this
    exact ⟨by omega, trivial⟩
  have KY : Hid (∀ w', w1.grownBy w' none → Mat w' (.slice py ny cy) uy Y) := fun w' g => om.mat.keep g
  have IV : Hid (Shape Y ny ny ∧ MX.Inv ny (at2 (lineRows ny F)) (at2 Y)) := ⟨hY, iv⟩
  have G1 : Hid (w.grownBy w1 none) := g1
  clear om hY iv g1 UU
  go_wp2_with (at_make; refine wpList_make_chunks rfl _ _ rfl ny rfl rfl (by omega) ?_; intro w2 p om g2; have OM : Hid (OwnMat w1.heap.size w2 (.slice p ny ny) (List.replicate ny (.slice none 0 0)) (upTo (solRow F ny L T Y) ny 0)) := (by rw [upTo_zero]; exact om); have G2 : Hid (w1.grownBy w2 none) := g2; clear om g2)
  go_loopw [24] (fun ti wr => ∃ (j : Nat) (us : List Value), j ≤ ny ∧ ti = .int .i64 j ∧ Hid (OwnMat w1.heap.size wr (.slice p ny ny) us (upTo (solRow F ny L T Y) ny j)) ∧ Hid (Sep us) ∧ Hid (w1.grownBy wr none)) (fun ti _ => ny - (intOf ti).toNat)
  case atStart => exact ⟨0, _, by omega, rfl, OM, Sep.nils ny, G2⟩
  case round =>
    clear OM G2
    obtain ⟨j, us, hj, rfl, OK, SK, GK⟩ := hrel
    by_cases hlt : j < ny
    · have i1 : (j : Int) < (ny : Int) := by omega
      have i3 : (0 : Int) ≤ (j : Int) := by omega
      have GW : Hid (w.grownBy wr none) := grown_trans G1.out GK.out
      obtain ⟨bl, ol, rfl, hcl⟩ := (KV.out _ GW.out).spot (k := j) (by rw [intsOf_len]; exact hlt)
      rw [intsOf_get hlt] at hcl
      have HX : Hid ((upTo (solRow F ny L T Y) ny j).set j (solRow F ny L T Y j) = upTo (solRow F ny L T Y) ny (j + 1)) := upTo_set _ _ _
      have HL : Hid (j < (upTo (solRow F ny L T Y) ny j).length) := by show _ < _; rw [upTo_len]; exact hlt
      obtain ⟨g, rfl, _⟩ := OK.out.place (k := j) HL.out
      have MT := KT.out _ GW.out
      have MY := KY.out _ GK.out
      have PUT : Hid (∀ w2 p2 n2 c2, Own wr.heap.size w2 (.slice p2 n2 c2) (solRow F ny L T Y j) → wr.grownBy w2 none → ∃ u, w2.cell? ⟨g, j, none⟩ = some u ∧ w2.frozen? ⟨g, j, none⟩ = false ∧ OwnMat w1.heap.size (w2.setCell ⟨g, j, none⟩ (.slice p2 n2 c2)) (.slice (some ⟨g, 0, none⟩) ny ny) (us.set j (.slice p2 n2 c2)) (upTo (solRow F ny L T Y) ny (j + 1)) ∧ Sep (us.set j (.slice p2 n2 c2)) ∧ w1.grownBy (w2.setCell ⟨g, j, none⟩ (.slice p2 n2 c2)) none) := fun w2 p2 n2 c2 o2 g2 => by
        obtain ⟨g', e', hb, hc, hf, hput, hown, hgr⟩ := (OK.out.keep g2).place (k := j) HL.out
        obtain rfl : g = g' := (by injection e' with e'; injection e' with e')
        refine ⟨_, hc, hf, ?_, SK.out.put (H := wr.heap.size) (OK.out.hiRow) o2.lo j, grown_new (grown_trans GK.out g2) (hgr _) (fun i e => by have := Option.some.inj e; omega)⟩
        rw [← HX.out]
        exact hput _ _ (o2.down GK.out.size)
      clear OK SK HX HL
      by_cases hf : F j = j
      · have hv := MT.vec j (by rw [HT.out.len]; exact hlt)
        obtain ⟨bt, ot, rfl, hct⟩ := MT.row.spot (k := j) (by rw [MT.same, HT.out.len]; exact hlt)
        obtain ⟨pj, nj, cj, ej, hnj⟩ := hv.opened
        rw [ej] at hct hv
        have CC : Hid (Calls Try.prog 44 #[.slice pj nj cj] wr fun e w' => ∃ p n c, e = .returned (.slice p n c) ∧ Own wr.heap.size w' (.slice p n c) (solRow F ny L T Y j) ∧ wr.grownBy w' none) := by
          rw [show solRow F ny L T Y j = T.getD j [] from if_pos hf]
          exact copied_any hv
        rw [hf] at hcl
        clear hv ej hnj MT MY hf
        generalize solRow F ny L T Y j = SR at *
        go_wp2_with (go_at_call 44; refine CC.out.mono ?_; rintro e w2 ⟨p2, n2, c2, rfl, o2, g2⟩; obtain ⟨u, hc, hfz, r⟩ := PUT.out w2 p2 n2 c2 o2 g2; have R : Hid _ := r; clear o2 g2 r)
        go_roundw
        case rel => exact ⟨j + 1, us.set j (.slice p2 n2 c2), by omega, by go_num, R.out.1, R.out.2.1, R.out.2.2⟩
        case measure => simp [intOf]; omega
      · have hvy := MY.vec j (by rw [IV.out.1.len]; exact hlt)
        obtain ⟨bt, ot, rfl, hct⟩ := MY.row.spot (k := j) (by rw [MY.same, IV.out.1.len]; exact hlt)
        obtain ⟨pj, nj, cj, ej, hnj⟩ := hvy.opened
        rw [ej] at hct hvy
        have CC : Hid (Calls Try.prog 45 #[.slice pj nj cj, .slice qt ny ct] wr fun e w' => ∃ p n c, e = .returned (.slice p n c) ∧ Own wr.heap.size w' (.slice p n c) (solRow F ny L T Y j) ∧ wr.grownBy w' none) := by
          have hlen : (Y.getD j []).length = ny := IV.out.1.row j hlt
          have h := combine_any (L := L) hvy MT (by rw [HT.out.len]; exact HT.out) (by rw [hlen, HT.out.len]) (by rw [HT.out.len]; omega)
          rw [hlen] at h
          rw [show solRow F ny L T Y j = combTo (Y.getD j []) T L ny from if_neg hf]
          exact h
        have hne : ((F j : Int) == (j : Int)) = false := by simp; omega
        have hne2 : ¬ ((F j : Int) = (j : Int)) := by omega
        clear hvy ej hnj MT MY hf
        generalize solRow F ny L T Y j = SR at *
        generalize F j = fj at *
        go_wp2_with (go_at_call 45; refine CC.out.mono ?_; rintro e w2 ⟨p2, n2, c2, rfl, o2, g2⟩; obtain ⟨u, hc, hfz, r⟩ := PUT.out w2 p2 n2 c2 o2 g2; have R : Hid _ := r; clear o2 g2 r)
        go_roundw
        case rel => exact ⟨j + 1, us.set j (.slice p2 n2 c2), by omega, by go_num, R.out.1, R.out.2.1, R.out.2.2⟩
        case measure => simp [intOf]; omega
    · obtain rfl : j = ny := by omega
      go_wp2
      go_ret2
      have h := OK.out
      rw [upTo_all] at h
      exact ⟨p, j, j, us, _, rfl, h.down G1.out.size, SK.out, ⟨by simp, fun i hi => by rw [show ((List.range j).map (solRow F j L T Y)).getD i [] = solRow F j L T Y i from by simp [List.getD, hi]]; exact solRow_len HT.out hi⟩, solved HT.out IV.out.1 IV.out.2, grown_trans G1.out GK.out⟩
end Go.Proofs.Ytdeajclghlbhcaa
