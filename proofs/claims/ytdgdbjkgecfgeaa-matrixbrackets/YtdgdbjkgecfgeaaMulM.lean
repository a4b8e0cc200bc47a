/- The contract of matrix.Mul. -/
import Derived.Test.YtdgdbjkgecfgeaaIdent
import Derived.Test.YtdgdbjkgecfgeaaAddT
namespace Go.Proofs.Ytdgdbjkgecfgeaa
open Go.RowKit

/-- The number in row i at j. -/
def at2 (X : List (List Nat)) (i j : Nat) : Nat := (X.getD i []).getD j 0
structure Shape (X : List (List Nat)) (n m : Nat) : Prop where
  len : X.length = n
  row : ∀ j, j < n → (X.getD j []).length = m

theorem may_spec {X : List (List Nat)} (h : mayB X = true) : 1 ≤ X.length ∧ X.length ≤ 255 ∧ 1 ≤ (X.getD 0 []).length ∧ (X.getD 0 []).length ≤ 255 ∧ Shape X X.length (X.getD 0 []).length := by
  unfold mayB mayTo at h
  simp only [Bool.and_eq_true, decide_eq_true_eq, List.all_eq_true, List.mem_range, beq_iff_eq] at h
  exact ⟨h.1, h.2.1, h.2.2.1, h.2.2.2.1, rfl, h.2.2.2.2⟩
theorem may_of {X : List (List Nat)} {n m : Nat} (h : Shape X n m) (n1 : 1 ≤ n) (n2 : n ≤ 255) (m1 : 1 ≤ m) (m2 : m ≤ 255) : mayB X = true := by
  have h0 := h.row 0 (by omega)
  unfold mayB mayTo
  simp only [Bool.and_eq_true, decide_eq_true_eq, List.all_eq_true, List.mem_range, beq_iff_eq]
  rw [h.len, h0]
  exact ⟨n1, n2, m1, m2, h.row⟩

def mulRow (X Y : List (List Nat)) (m t i : Nat) : List Nat := (List.range m).map fun j => MX.xs (fun s => M.mul (at2 X i s) (at2 Y s j)) t
/-- Behind k rows and t numbers more. -/
def mulTo (X Y : List (List Nat)) (n m l k t : Nat) : List (List Nat) := (List.range n).map fun i => if i < k then mulRow X Y m l i else if i = k then mulRow X Y m t i else List.replicate m 0
def mulList (X Y : List (List Nat)) : List (List Nat) := (List.range X.length).map fun i => mulRow X Y (Y.getD 0 []).length Y.length i

theorem mulTo_len (X Y : List (List Nat)) (n m l k t : Nat) : (mulTo X Y n m l k t).length = n := by simp [mulTo]
theorem mulRow_zero (X Y : List (List Nat)) (m i : Nat) : mulRow X Y m 0 i = List.replicate m 0 := by
  apply List.ext_getElem
  · simp [mulRow]
  · intro j h1 h2
    simp [mulRow, MX.xs]
theorem mulTo_zero (X Y : List (List Nat)) (n m l : Nat) : mulTo X Y n m l 0 0 = List.replicate n (List.replicate m 0) := by
  apply List.ext_getElem
  · simp [mulTo]
  · intro j h1 h2
    by_cases e : j = 0
    · simp [mulTo, mulRow_zero]
    · simp [mulTo, e]
theorem mulTo_next (X Y : List (List Nat)) (n m l k : Nat) : mulTo X Y n m l k l = mulTo X Y n m l (k + 1) 0 := by
  apply List.map_congr_left
  intro i hi
  by_cases h1 : i < k
  · simp [h1, show i < k + 1 from by omega]
  · by_cases h2 : i = k
    · simp [h2]
    · simp only [h1, h2, if_false, show ¬ i < k + 1 from by omega]
      split
      · rw [mulRow_zero]
      · rfl
theorem mulTo_all (X Y : List (List Nat)) (n m l : Nat) (t : Nat) : mulTo X Y n m l n t = (List.range n).map fun i => mulRow X Y m l i := by
  apply List.map_congr_left
  intro i hi
  simp [List.mem_range.1 hi]
theorem mulTo_get (X Y : List (List Nat)) (n m l k t : Nat) (h : k < n) : (mulTo X Y n m l k t).getD k [] = mulRow X Y m t k := by simp [mulTo, List.getD, h]
theorem mulTo_set (X Y : List (List Nat)) (n m l k t : Nat) : (mulTo X Y n m l k t).set k (mulRow X Y m (t + 1) k) = mulTo X Y n m l k (t + 1) := by
  apply List.ext_getElem
  · simp [mulTo]
  · intro i h1 h2
    by_cases e : k = i
    · subst e; simp [mulTo]
    · have e' : ¬ i = k := fun x => e x.symm
      by_cases l' : i < k
      · simp [mulTo, e, l']
      · simp [mulTo, e, e', l']
theorem mulRow_len (X Y : List (List Nat)) (m t i : Nat) : (mulRow X Y m t i).length = m := by simp [mulRow]
theorem mulRow_add (X Y : List (List Nat)) (m t i : Nat) : addAt (mulRow X Y m t i) (Y.getD t []) 0 (at2 X i t) = mulRow X Y m (t + 1) i := by
  apply List.ext_getElem
  · simp [addAt, mulRow]
  · intro j h1 h2
    have hj : j < m := by simpa [mulRow] using h2
    simp [addAt, mulRow, List.getD, hj, MX.xs, at2]

theorem Vec.hi {w : World} {v : Value} {xs : List Nat} (h : Vec w v xs) (hx : 0 < xs.length) : Hi w.heap.size v := by
  obtain ⟨b, off, cap, rfl, hc, _⟩ := h.at hx
  intro k hk
  have := World.block_lt_of_cell? w _ hc
  simp only [Value.ownBlock, Option.some.injEq] at hk
  subst hk
  exact this

theorem Mat.small {w : World} {v : Value} {us : List Value} {X : List (List Nat)} (h : Mat w v us X) (i j : Nat) : at2 X i j < 256 := by
  unfold at2
  by_cases hi : i < X.length
  · exact getD_small (h.vec i hi).small j
  · simp [List.getD, hi]

set_option maxHeartbeats 1600000 in
theorem mul_no {w : World} {a b : Value} {va vb : List Value} {X Y : List (List Nat)} (ma : Mat w a va X) (mb : Mat w b vb Y) (h : ¬ (mayB X = true ∧ mayB Y = true ∧ (X.getD 0 []).length = Y.length)) :
    Calls Try.prog 11 #[a, b] w fun e w' => e = .returned (.tuple #[.slice none 0 0, .int .i64 1]) ∧ w' = w := by
  obtain ⟨q, N, cap, rfl, hN⟩ := ma.row.opened
  obtain ⟨q', N', cap', rfl, hN'⟩ := mb.row.opened
  have MA := may_any ma
  have MB := may_any mb
  cases hx : mayB X with
  | false =>
    rw [hx] at MA
    have HA : Hid (∀ r, r = Value.slice q N cap → Calls Try.prog 18 #[r] w fun e w' => e = .returned (.bool false) ∧ w' = w) := fun r e => e ▸ MA
    clear MA MB hN hN' h ma mb
    go_enter Try.func11, Try.ntmps11
    go_wp2_with (go_at_call 18; refine (HA.out _ rfl).mono ?_; rintro e w1 ⟨rfl, hw⟩; obtain rfl := hw.symm; clear hw)
    go_ret2
    exact ⟨rfl, rfl⟩
  | true =>
    rw [hx] at MA
    have HA : Hid (∀ r, r = Value.slice q N cap → Calls Try.prog 18 #[r] w fun e w' => e = .returned (.bool true) ∧ w' = w) := fun r e => e ▸ MA
    cases hy : mayB Y with
    | false =>
      rw [hy] at MB
      have HB : Hid (∀ r, r = Value.slice q' N' cap' → Calls Try.prog 18 #[r] w fun e w' => e = .returned (.bool false) ∧ w' = w) := fun r e => e ▸ MB
      clear MA MB hN hN' h ma mb
      go_enter Try.func11, Try.ntmps11
      go_wp2_with (go_at_call 18; (first | refine (HA.out _ (by with_reducible rfl)).mono ?_ | refine (HB.out _ (by with_reducible rfl)).mono ?_); rintro e w1 ⟨rfl, hw⟩; obtain rfl := hw.symm; clear hw)
      go_ret2
      exact ⟨rfl, rfl⟩
    | true =>
      rw [hy] at MB
      have HB : Hid (∀ r, r = Value.slice q' N' cap' → Calls Try.prog 18 #[r] w fun e w' => e = .returned (.bool true) ∧ w' = w) := fun r e => e ▸ MB
      have sx := may_spec hx
      have hsa := ma.same
      have hsb := mb.same
      obtain ⟨b0, off, rfl, hc⟩ := ma.row.spot (k := 0) (by omega)
      obtain ⟨p0, n0, c0, e0, hn0⟩ := (ma.vec 0 (by omega)).opened
      rw [e0] at hc
      have hc0 : w.cell? ⟨b0, off, none⟩ = some (.slice p0 n0 c0) := hc
      have hpos : (0 : Int) < (N : Int) := by omega
      have hne : ((n0 : Int) != (N' : Int)) = true := by
        have : ¬ (X.getD 0 []).length = Y.length := fun e => h ⟨hx, hy, e⟩
        simp; omega
      clear MA MB hN hN' h ma mb hc e0 hn0 hsa hsb sx
      go_enter Try.func11, Try.ntmps11
      go_wp2_with (go_at_call 18; (first | refine (HA.out _ (by with_reducible rfl)).mono ?_ | refine (HB.out _ (by with_reducible rfl)).mono ?_); rintro e w1 ⟨rfl, hw⟩; obtain rfl := hw.symm; clear hw)
      go_ret2
      exact ⟨rfl, rfl⟩

set_option maxHeartbeats 3200000 in
theorem mul_yes {w : World} {a b : Value} {va vb : List Value} {X Y : List (List Nat)} (ma : Mat w a va X) (mb : Mat w b vb Y) (hx : mayB X = true) (hy : mayB Y = true) (hfit : (X.getD 0 []).length = Y.length) :
    Calls Try.prog 11 #[a, b] w fun e w' => ∃ v us, e = .returned (.tuple #[v, .int .i64 0]) ∧ OwnMat w.heap.size w' v us (mulList X Y) ∧ Sep us ∧ w.grownBy w' none := by
  obtain ⟨q, N, cap, rfl, hN⟩ := ma.row.opened
  obtain ⟨q', N', cap', rfl, hN'⟩ := mb.row.opened
  have MA := may_any ma
  have MB := may_any mb
  rw [hx] at MA
  rw [hy] at MB
  have HA : Hid (∀ r, r = Value.slice q N cap → Calls Try.prog 18 #[r] w fun e w' => e = .returned (.bool true) ∧ w' = w) := fun r e => e ▸ MA
  have HB : Hid (∀ r, r = Value.slice q' N' cap' → Calls Try.prog 18 #[r] w fun e w' => e = .returned (.bool true) ∧ w' = w) := fun r e => e ▸ MB
  have sx := may_spec hx
  have sy := may_spec hy
  have hsa := ma.same
  have hsb := mb.same
  obtain ⟨b0, off, rfl, hc⟩ := ma.row.spot (k := 0) (by omega)
  obtain ⟨p0, n0, c0, e0, hn0⟩ := (ma.vec 0 (by omega)).opened
  rw [e0] at hc
  have hc0 : w.cell? ⟨b0, off, none⟩ = some (.slice p0 n0 c0) := hc
  obtain ⟨b1, off1, rfl, hd⟩ := mb.row.spot (k := 0) (by omega)
  obtain ⟨p1, m, c1, e1, hm⟩ := (mb.vec 0 (by omega)).opened
  rw [e1] at hd
  have hd0 : w.cell? ⟨b1, off1, none⟩ = some (.slice p1 m c1) := hd
  have hpos : (0 : Int) < (N : Int) := by omega
  have hpos1 : (0 : Int) < (N' : Int) := by omega
  have hne : ((n0 : Int) != (N' : Int)) = false := by simp; omega
  have HN : Hid (N = va.length ∧ N = X.length ∧ N' = vb.length ∧ N' = Y.length ∧ m = (Y.getD 0 []).length ∧ N ≤ 255 ∧ N' ≤ 255 ∧ m ≤ 255 ∧ Shape X N N' ∧ Shape Y N' m ∧ 1 ≤ m) := by
    refine ⟨hN, by omega, hN', by omega, hm, by omega, by omega, by omega, ?_, ?_, by omega⟩
    · have := sx.2.2.2.2; rw [hfit] at this; rw [show N = X.length from by omega, show N' = Y.length from by omega]; exact this
    · have := sy.2.2.2.2; rw [← hm] at this; rw [show N' = Y.length from by omega]; exact this
  have KA : Hid (∀ w', w.grownBy w' none → Mat w' (.slice (some ⟨b0, off, none⟩) N cap) va X) := fun w' g => ma.keep g
  have KB : Hid (∀ w', w.grownBy w' none → Mat w' (.slice (some ⟨b1, off1, none⟩) N' cap') vb Y) := fun w' g => mb.keep g
  have BL : Hid (∀ w, Calls Try.prog 25 #[.int .i64 (N : Int), .int .i64 (m : Int)] w fun e w' => ∃ v us, e = .returned v ∧ OwnMat w.heap.size w' v us (List.replicate N (List.replicate m 0)) ∧ Sep us ∧ w.grownBy w' none) := fun w => blank_any N m w (by omega) (by omega)
  clear MA MB hN hN' hfit ma mb hc e0 hn0 hsa hsb sx sy hd e1 hm hx hy
  go_enter Try.func11, Try.ntmps11
  go_wp2_with (first
    | (go_at_call 18; (first | refine (HA.out _ (by with_reducible rfl)).mono ?_ | refine (HB.out _ (by with_reducible rfl)).mono ?_); rintro e w1 ⟨rfl, hw⟩; obtain rfl := hw.symm; clear hw)
    | (go_at_call 25; refine (BL.out _).mono ?_; rintro e w1 ⟨v, us, rfl, om, sp, g1⟩; have OM : Hid (OwnMat w.heap.size w1 v us (List.replicate N (List.replicate m 0))) := om; have SP : Hid (Sep us) := sp; have G1 : Hid (w.grownBy w1 none) := g1; clear om sp g1))
  clear HA HB BL hc0 hd0 hpos hpos1 hne
  obtain ⟨p, N2, cap2, rfl, hN2⟩ := OM.out.mat.row.opened
  have HN2 : Hid (N2 = N) := by have := OM.out.same; simp at this; show _ = _; omega
  clear hN2
  go_loopw [37] (fun ti wr => ∃ (k : Nat), k ≤ N ∧ ti = .int .i64 k ∧ Hid (OwnMat w.heap.size wr (.slice p N2 cap2) us (mulTo X Y N m N' k 0)) ∧ Hid (w.grownBy wr none)) (fun ti _ => N - (intOf ti).toNat)
  case atStart => exact ⟨0, by omega, rfl, by have h := OM.out; rw [← mulTo_zero X Y N m N'] at h; exact h, G1.out⟩
  case round =>
    clear OM G1
    obtain ⟨k, hk, rfl, OK, GK⟩ := hrel
    by_cases hlt : k < N
    · have i1 : (k : Int) < (N : Int) := by omega
      have i3 : (0 : Int) ≤ (k : Int) := by omega
      obtain ⟨b2, o2, e2, hr⟩ := (KA.out _ GK.out).row.spot (k := k) (by have := HN.out; omega)
      obtain ⟨rfl, rfl⟩ : b0 = b2 ∧ off = o2 := by
        injection e2 with e2
        injection e2 with e3 e4
        exact ⟨e3, e4⟩
      obtain ⟨pk, nk, ck, ek, hnk⟩ := ((KA.out _ GK.out).vec k (by have := HN.out; omega)).opened
      have KV : Hid (∀ w', w.grownBy w' none → Vec w' (.slice pk nk ck) (X.getD k [])) := fun w' g => by rw [← ek]; exact (KA.out _ g).vec k (by have := HN.out; omega)
      rw [ek] at hr
      have HK : Hid (nk = N') := by have h1 := HN.out.2.2.2.2.2.2.2.2.1.row k hlt; show _ = _; omega
      clear e2 ek hnk
      go_wp2_with fail
      go_loopw [44] (fun ti wr => ∃ (t : Nat), t ≤ nk ∧ ti = .int .i64 t ∧ Hid (OwnMat w.heap.size wr (.slice p N2 cap2) us (mulTo X Y N m N' k t)) ∧ Hid (w.grownBy wr none)) (fun ti _ => nk - (intOf ti).toNat)
      case atStart => exact ⟨0, by omega, rfl, OK.out, GK.out⟩
      case round =>
        clear OK GK hr
        obtain ⟨t, ht, rfl, OK, GK⟩ := hrel
        by_cases htl : t < nk
        · have i4 : (t : Int) < (nk : Int) := by omega
          have i5 : (0 : Int) ≤ (t : Int) := by omega
          have i6 : (t : Int) < (N' : Int) := by have := HK.out; omega
          have i7 : (k : Int) < (N2 : Int) := by have := HN2.out; omega
          obtain ⟨bk, ok, rfl, hcx, hx256⟩ := (KV.out _ GK.out).spot (k := t) (by have h1 := HN.out.2.2.2.2.2.2.2.2.1.row k hlt; have := HK.out; omega)
          obtain ⟨b3, o3, e3, hrb⟩ := (KB.out _ GK.out).row.spot (k := t) (by have := HN.out; have := HK.out; omega)
          obtain ⟨rfl, rfl⟩ : b1 = b3 ∧ off1 = o3 := by
            injection e3 with e3
            injection e3 with e4 e5
            exact ⟨e4, e5⟩
          obtain ⟨pt, nt, ct, et, hnt⟩ := ((KB.out _ GK.out).vec t (by have := HN.out; have := HK.out; omega)).opened
          have VT : Hid (∀ w', w.grownBy w' none → Vec w' (.slice pt nt ct) (Y.getD t [])) := fun w' g => by rw [← et]; exact (KB.out _ g).vec t (by have := HN.out; have := HK.out; omega)
          have HI : Hid (Hi w.heap.size (.slice pt nt ct)) := by
            have hv := (KB.out _ (World.grownBy.refl w none)).vec t (by have := HN.out; have := HK.out; omega)
            rw [et] at hv
            refine hv.hi ?_
            have h1 := HN.out.2.2.2.2.2.2.2.2.2.1.row t (by have := HK.out; omega)
            have h2 := HN.out.2.2.2.2.2.2.2.2.2.2
            omega
          rw [et] at hrb
          have hkX : k < (mulTo X Y N m N' k t).length := by rw [mulTo_len]; exact hlt
          obtain ⟨g, rfl, hb, hc, hf, q1, q2, q3⟩ := OK.out.place (k := k) hkX
          clear q1 q2 q3
          have ov := OK.out.vec k hkX
          rw [mulTo_get _ _ _ _ _ _ _ hlt] at ov
          obtain ⟨pu, nu, cu, eu, hnu⟩ := ov.vec.opened
          rw [eu] at hc ov
          rw [mulRow_len] at hnu
          have hm1 : 0 < m := HN.out.2.2.2.2.2.2.2.2.2.2
          obtain ⟨gu, rfl, q1, q2, q3, q4, q5, q6⟩ := ov.spot (k := 0) (by rw [mulRow_len]; exact hm1)
          clear q1 q2 q3 q4 q5 q6
          have hlo := ov.lo gu rfl
          have AD : Hid (∀ r1 r2 r3 w', r1 = Value.slice (some ⟨gu, 0, none⟩) nu cu → r2 = Value.slice pt nt ct → r3 = Value.int .u8 (((X.getD k []).getD t 0 : Nat) : Int) → wr.grownBy w' none → Calls Try.prog 26 #[r1, r2, r3] w' fun e w'' => e = .returned (.tuple #[]) ∧
              OwnMat w.heap.size w'' (.slice (some ⟨g, 0, none⟩) N2 cap2) us (mulTo X Y N m N' k (t + 1)) ∧ w.grownBy w'' none) := fun r1 r2 r3 w' q1 q2 q3 g' => by
            subst q1 q2 q3
            have h1 := HN.out.2.2.2.2.2.2.2.2.2.1.row t (by have := HK.out; omega)
            refine (addTimes_any (o := 0) (n := nu) hx256 (ov.keep g') (VT.out _ (grown_trans GK.out g')) (by rw [mulRow_len]; omega) (by omega) (apart_of HI.out ov.lo)).mono ?_
            rintro e w'' ⟨rfl, ho, hg⟩
            refine ⟨rfl, ?_, grown_new (grown_trans GK.out g') hg (fun i e => by have := Option.some.inj e; omega)⟩
            rw [show (X.getD k []).getD t 0 = at2 X k t from rfl, mulRow_add] at ho
            rw [← mulTo_set]
            refine (OK.out.keep g').rowSet SP.out hkX ?_ ?_
            · rw [eu]; exact ho
            · rw [eu]; exact hg
          generalize (X.getD k []).getD t 0 = x at *
          clear OK GK ov eu hnu hkX hlo hb hf hm1 VT HI et hnt e3
          have hnk255 : nk ≤ 255 := by have := HK.out; have := HN.out; omega
          go_wp2_with fail
          go_region_with (go_at_call 26; refine (AD.out _ _ _ _ (by with_reducible rfl) (by with_reducible rfl) (by with_reducible rfl) (by first | exact grown_drewN _ 1 | exact World.grownBy.refl _ _)).mono ?_; rintro e w1 ⟨rfl, ho, hg⟩; have HO : Hid (OwnMat w.heap.size w1 (.slice (some ⟨g, 0, none⟩) N2 cap2) us (mulTo X Y N m N' k (t + 1))) := ho; have HG : Hid (w.grownBy w1 none) := hg; clear ho hg)
          all_goals
            go_wp2
            go_roundw
            case rel => exact ⟨t + 1, by omega, by go_num, HO.out, HG.out⟩
            case measure => simp [intOf]; omega
        · have htn : t = nk := by omega
          subst htn
          have hkk := HK.out
          subst hkk
          have hN255 : N ≤ 255 := HN.out.2.2.2.2.2.1
          go_wp2_with fail
          go_roundw
          case rel => exact ⟨k + 1, by omega, by go_num, by have h := OK.out; rw [mulTo_next] at h; exact h, GK.out⟩
          case measure => simp [intOf]; omega
    · have hkn : N = k := by omega
      subst hkn
      go_wp2
      go_ret2
      have h0 := OK.out
      rw [mulTo_all] at h0
      have h3 : mulList X Y = (List.range N).map fun i => mulRow X Y m N' i := by unfold mulList; rw [← HN.out.2.1, ← HN.out.2.2.2.1, ← HN.out.2.2.2.2.1]
      exact ⟨_, us, rfl, by rw [h3]; exact h0, SP.out, GK.out⟩
end Go.Proofs.Ytdgdbjkgecfgeaa
