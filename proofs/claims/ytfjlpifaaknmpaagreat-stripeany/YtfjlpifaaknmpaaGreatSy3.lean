/- Packed: Blank, Ident, AddT, MulM, InvMath. -/
import Derived.Test.YtfjlpifaaknmpaaGreatSy1
import Derived.Test.YtfjlpifaaknmpaaGreatSy2
/- Contracts of matrix.within, May, blank, Identity. -/
set_option maxRecDepth 100000
namespace Go.Proofs.YtfjlpifaaknmpaaGreat
open Go.RowKit

theorem within_any (n : Int) (w : World) {b : Bool} (hb : (decide (1 ≤ n) && decide (n ≤ 255)) = b) :
    Calls Tryz.prog 172 #[.int .i64 n] w fun e w' => e = .returned (.bool b) ∧ w' = w := by
  subst hb
  by_cases h : 1 ≤ n
  all_goals
    go_enter Tryz.func172, Tryz.ntmps172
    go_wp2
    go_ret
    exact ⟨by first | (simp [h]; done) | (simp; omega), rfl⟩

theorem mayTo_all {X : List (List Nat)} {n k : Nat} (h1 : 1 ≤ n) (h2 : n ≤ 255) (h : ∀ j, j < k → (X.getD j []).length = n) : mayTo X n k = true := by
  unfold mayTo
  rw [decide_eq_true h1, decide_eq_true h2]
  simp only [Bool.true_and, List.all_eq_true, List.mem_range, beq_iff_eq]
  exact h
theorem mayTo_not {X : List (List Nat)} {n k j : Nat} (hj : j < k) (h : (X.getD j []).length ≠ n) : mayTo X n k = false := by
  unfold mayTo
  have : ((List.range k).all fun j => (X.getD j []).length == n) = false := by
    rw [Bool.eq_false_iff]
    intro e
    have := List.all_eq_true.1 e j (List.mem_range.2 hj)
    exact h (by simpa using this)
  rw [this]; simp

set_option maxHeartbeats 1600000 in
theorem may_any {w : World} {r : Value} {vs : List Value} {X : List (List Nat)} (mr : Mat w r vs X) :
    Calls Tryz.prog 160 #[r] w fun e w' => e = .returned (.bool (mayB X)) ∧ w' = w := by
  obtain ⟨q, N, cap, rfl, hN⟩ := mr.row.opened
  have hs := mr.same
  have hNl : N ≤ 140737488351232 := by have := mr.row.len; omega
  by_cases h0 : 1 ≤ N ∧ N ≤ 255
  · have hb : (decide (1 ≤ (N : Int)) && decide ((N : Int) ≤ 255)) = true := by simp; omega
    obtain ⟨b, off, rfl, hc⟩ := mr.row.spot (k := 0) (by omega)
    obtain ⟨p0, n0, c0, e0, hn0⟩ := (mr.vec 0 (by omega)).opened
    rw [e0] at hc
    have hc0 : w.cell? ⟨b, off, none⟩ = some (.slice p0 n0 c0) := hc
    have hpos : (0 : Int) < (N : Int) := by omega
    have hn0l : n0 ≤ 140737488351232 := by rw [hn0]; exact (mr.vec 0 (by omega)).len
    have MR : Hid (Mat w (.slice (some ⟨b, off, none⟩) N cap) vs X) := mr
    have HN : Hid (N = vs.length ∧ N = X.length ∧ n0 = (X.getD 0 []).length) := ⟨hN, by omega, hn0⟩
    have HR : Hid (mayB X = mayTo X n0 N) := by
      unfold mayB
      rw [show decide (1 ≤ X.length) = true from decide_eq_true (by omega), show decide (X.length ≤ 255) = true from decide_eq_true (by omega), ← hn0, ← hs, ← hN]
      rfl
    rw [HR.out]
    have WN : Hid (∀ r w, r = Value.int .i64 (N : Int) → Calls Tryz.prog 172 #[r] w fun e w' => e = .returned (.bool true) ∧ w' = w) := fun r w e => e ▸ within_any _ w hb
    by_cases h1 : 1 ≤ n0 ∧ n0 ≤ 255
    · have WM : Hid (∀ r w, r = Value.int .i64 (n0 : Int) → Calls Tryz.prog 172 #[r] w fun e w' => e = .returned (.bool true) ∧ w' = w) := fun r w e => e ▸ within_any _ w (by simp; omega)
      have H1 : Hid (1 ≤ n0 ∧ n0 ≤ 255) := h1
      clear hc e0 hn0 hN hs mr h0 hb h1
      go_enter Tryz.func160, Tryz.ntmps160
      go_wp2_with (go_at_call 172; (first | refine (WN.out _ _ (by with_reducible rfl)).mono ?_ | refine (WM.out _ _ (by with_reducible rfl)).mono ?_); rintro e w1 ⟨rfl, hw⟩; obtain rfl := hw.symm; clear hw)
      go_loop [19] (fun ti => ∃ k : Nat, k ≤ N ∧ ti = .int .i64 k ∧ Hid (∀ j, j < k → (X.getD j []).length = n0)) (fun ti => N - (intOf ti).toNat)
      case atStart => exact ⟨0, by omega, rfl, fun j hj => by omega⟩
      case round =>
        obtain ⟨k, hk, rfl, HA⟩ := hrel
        by_cases hlt : k < N
        · obtain ⟨b1, o1, e1, hr⟩ := MR.out.row.spot (k := k) (by have := HN.out; omega)
          obtain ⟨rfl, rfl⟩ : b = b1 ∧ off = o1 := by
            injection e1 with e1
            injection e1 with e2 e3
            exact ⟨e2, e3⟩
          obtain ⟨pk, nk, ck, ek, hnk⟩ := (MR.out.vec k (by have := HN.out; omega)).opened
          rw [ek] at hr
          clear e1 ek
          have i2 : (k : Int) < (N : Int) := by omega
          have i3 : (0 : Int) ≤ (k : Int) := by omega
          by_cases he : nk = n0
          · have hne : ((nk : Int) != (n0 : Int)) = false := by simp [he]
            have HA' : Hid (∀ j, j < k + 1 → (X.getD j []).length = n0) := fun j hj => by
              by_cases e : j = k
              · subst e; omega
              · exact HA.out j (by omega)
            clear he hnk
            go_wp2
            go_round
            case rel => exact ⟨k + 1, by omega, by go_num, HA'⟩
            case measure => simp [intOf]; omega
          · have hne : ((nk : Int) != (n0 : Int)) = true := by simp; omega
            have HM : Hid (mayTo X n0 N = false) := mayTo_not (j := k) hlt (by omega)
            clear he hnk
            go_wp2
            go_ret
            exact ⟨by rw [HM.out]; rfl, rfl⟩
        · have HM : Hid (mayTo X n0 N = true) := mayTo_all H1.out.1 H1.out.2 (fun j hj => HA.out j (by omega))
          go_wp2
          go_ret
          exact ⟨by rw [HM.out]; rfl, rfl⟩
    · have WM : Hid (∀ r w, r = Value.int .i64 (n0 : Int) → Calls Tryz.prog 172 #[r] w fun e w' => e = .returned (.bool false) ∧ w' = w) := fun r w e => e ▸ within_any _ w (by simp; omega)
      have HM : Hid (mayTo X n0 N = false) := by
        show _ = _
        unfold mayTo
        by_cases h : 1 ≤ n0
        · rw [show decide (n0 ≤ 255) = false from decide_eq_false (by omega)]; simp
        · rw [show decide (1 ≤ n0) = false from decide_eq_false h]; simp
      clear hc e0 hn0 hN hs mr h0 hb
      go_enter Tryz.func160, Tryz.ntmps160
      go_wp2_with (go_at_call 172; (first | refine (WN.out _ _ (by with_reducible rfl)).mono ?_ | refine (WM.out _ _ (by with_reducible rfl)).mono ?_); rintro e w1 ⟨rfl, hw⟩; obtain rfl := hw.symm; clear hw)
      go_ret
      exact ⟨by rw [HM.out]; rfl, rfl⟩
  · have hz : mayB X = false := by
      unfold mayB
      by_cases h : 1 ≤ X.length
      · rw [show decide (X.length ≤ 255) = false from decide_eq_false (by omega)]; simp
      · rw [show decide (1 ≤ X.length) = false from decide_eq_false h]; simp
    rw [hz]
    have WN : Hid (∀ w, Calls Tryz.prog 172 #[.int .i64 (N : Int)] w fun e w' => e = .returned (.bool false) ∧ w' = w) := fun w => within_any _ w (by simp; omega)
    clear h0 hN hs mr hz
    go_enter Tryz.func160, Tryz.ntmps160
    go_wp2_with (go_at_call 172; refine (WN.out _).mono ?_; rintro e w1 ⟨rfl, hw⟩; obtain rfl := hw.symm; clear hw)
    go_ret
    exact ⟨rfl, rfl⟩

theorem rep_set {α : Type} (a b : α) (k n : Nat) : (List.replicate k a ++ List.replicate (n + 1) b).set k a = List.replicate (k + 1) a ++ List.replicate n b := by
  rw [List.set_append_right _ _ (by simp)]
  simp only [List.length_replicate, Nat.sub_self, List.replicate_succ, List.set_cons_zero]
  rw [← List.replicate_succ, List.replicate_succ', List.append_assoc]; rfl

set_option maxHeartbeats 1600000 in
theorem blank_any (n m : Nat) (w : World) (hn : n ≤ 255) (hm : m ≤ 510) :
    Calls Tryz.prog 177 #[.int .i64 (n : Int), .int .i64 (m : Int)] w fun e w' => ∃ v us, e = .returned v ∧ OwnMat w.heap.size w' v us (List.replicate n (List.replicate m 0)) ∧ Sep us ∧ w.grownBy w' none := by
  go_enter Tryz.func177, Tryz.ntmps177
  go_wp2_with (at_make; refine wpList_make_rows rfl _ _ rfl n rfl rfl (by omega) ?_; intro w1 p om g1; have OM : Hid (OwnMat w.heap.size w1 (.slice p n n) (List.replicate n (.slice none 0 0)) (List.replicate n [])) := om; have G1 : Hid (w.grownBy w1 none) := g1; clear om g1)
  go_loopw [11] (fun ti wr => ∃ (k : Nat) (us : List Value), k ≤ n ∧ ti = .int .i64 k ∧ Hid (OwnMat w.heap.size wr (.slice p n n) us (List.replicate k (List.replicate m 0) ++ List.replicate (n - k) [])) ∧ Hid (Sep us) ∧ Hid (w.grownBy wr none)) (fun ti _ => n - (intOf ti).toNat)
  case atStart =>
    have h0 : OwnMat w.heap.size w1 (.slice p n n) (List.replicate n (.slice none 0 0)) (List.replicate 0 (List.replicate m 0) ++ List.replicate (n - 0) []) := by simpa using OM.out
    exact ⟨0, _, by omega, rfl, h0, Sep.nils n, G1.out⟩
  case round =>
    clear OM G1
    obtain ⟨k, us, hk, rfl, OK, SK, GK⟩ := hrel
    by_cases hlt : k < n
    · have i1 : (k : Int) < (n : Int) := by omega
      have i3 : (0 : Int) ≤ (k : Int) := by omega
      have HX : Hid ((List.replicate k (List.replicate m 0) ++ List.replicate (n - k) ([] : List Nat)).set k (List.replicate m 0) = List.replicate (k + 1) (List.replicate m 0) ++ List.replicate (n - (k + 1)) []) := by
        have := rep_set (List.replicate m 0) ([] : List Nat) k (n - (k + 1))
        rw [show n - (k + 1) + 1 = n - k from by omega] at this
        exact this
      have HL : Hid (k < (List.replicate k (List.replicate m 0) ++ List.replicate (n - k) ([] : List Nat)).length) := by show _ < _; simp; omega
      generalize List.replicate k (List.replicate m 0) ++ List.replicate (n - k) ([] : List Nat) = XK at *
      obtain ⟨g, rfl, _⟩ := OK.out.place (k := k) HL.out
      go_wp2_with (first
        | (at_make; refine wpList_make_vec rfl _ _ rfl m rfl rfl (by omega) ?_; intro w2 pu ou g2; obtain ⟨g', e', hb, hc, hf, hput, hown, hgr⟩ := (OK.out.keep g2).place (k := k) HL.out; obtain rfl : g = g' := (by injection e' with e'; injection e' with e'); have OU : Hid (Own wr.heap.size w2 (.slice pu m m) (List.replicate m 0)) := ou; have G2 : Hid (wr.grownBy w2 none) := g2; have PUT : Hid _ := hput; have GR : Hid _ := hgr; have HB : Hid (w.heap.size ≤ g) := hb; clear ou g2 e' hput hgr hown hb))
      have R : Hid (OwnMat w.heap.size (w2.setCell ⟨g, k, none⟩ (.slice pu m m)) (.slice (some ⟨g, 0, none⟩) n n) (us.set k (.slice pu m m)) (List.replicate (k + 1) (List.replicate m 0) ++ List.replicate (n - (k + 1)) []) ∧ Sep (us.set k (.slice pu m m)) ∧ w.grownBy (w2.setCell ⟨g, k, none⟩ (.slice pu m m)) none) := by
        refine ⟨?_, SK.out.put (H := wr.heap.size) (OK.out.hiRow) OU.out.lo k, ?_⟩
        · rw [← HX.out]
          exact PUT.out _ _ (OU.out.down GK.out.size)
        · exact grown_new (grown_trans GK.out G2.out) (GR.out _) (fun i e => by have := Option.some.inj e; have := HB.out; omega)
      clear OK SK GK OU G2 PUT GR HX HL HB
      go_roundw
      case rel => exact ⟨k + 1, us.set k (.slice pu m m), by omega, by go_num, R.out.1, R.out.2.1, R.out.2.2⟩
      case measure => simp [intOf]; omega
    · have hkn : n = k := by omega
      subst hkn
      go_wp2
      go_ret
      have h0 := OK.out
      rw [Nat.sub_self, List.replicate_zero, List.append_nil] at h0
      exact ⟨_, us, rfl, h0, SK.out, GK.out⟩
end Go.Proofs.YtfjlpifaaknmpaaGreat

/- The contract of matrix.Identity. -/
set_option maxRecDepth 100000
namespace Go.Proofs.YtfjlpifaaknmpaaGreat
open Go.RowKit

def idRow (n i : Nat) : List Nat := (List.range n).map fun j => if i = j then 1 else 0
def idList (n : Nat) : List (List Nat) := (List.range n).map fun i => idRow n i

theorem idRow_set (n k : Nat) : (List.replicate n 0).set k 1 = idRow n k := by
  apply List.ext_getElem
  · simp [idRow]
  · intro i h1 h2
    by_cases e : k = i
    · subst e; simp [idRow]
    · simp [idRow, e]
end Go.Proofs.YtfjlpifaaknmpaaGreat

/- The contract of matrix.addTimes: a row, so many times, added to the end of another one. -/
set_option maxRecDepth 100000
namespace Go.Proofs.YtfjlpifaaknmpaaGreat
open Go.RowKit

/-- From place o on the numbers of ys, times c, are added. -/
def addAt (xs ys : List Nat) (o c : Nat) : List Nat := (List.range xs.length).map fun j => if o ≤ j then xs.getD j 0 ^^^ M.mul c (ys.getD (j - o) 0) else xs.getD j 0
/-- .. behind k rounds. -/
def addTo (xs ys : List Nat) (o c k : Nat) : List Nat := (List.range xs.length).map fun j => if o ≤ j ∧ j < o + k then xs.getD j 0 ^^^ M.mul c (ys.getD (j - o) 0) else xs.getD j 0

theorem addTo_len (xs ys : List Nat) (o c k : Nat) : (addTo xs ys o c k).length = xs.length := by simp [addTo]
theorem addTo_zero (xs ys : List Nat) (o c : Nat) : addTo xs ys o c 0 = xs := by
  apply List.ext_getElem
  · simp [addTo]
  · intro i h1 h2
    simp [addTo, List.getD, h2]
    omega
theorem addTo_get (xs ys : List Nat) (o c k : Nat) (h : o + k < xs.length) : (addTo xs ys o c k).getD (o + k) 0 = xs.getD (o + k) 0 := by simp [addTo, List.getD, h]
theorem addTo_set (xs ys : List Nat) (o c k : Nat) : (addTo xs ys o c k).set (o + k) (xs.getD (o + k) 0 ^^^ M.mul c (ys.getD k 0)) = addTo xs ys o c (k + 1) := by
  apply List.ext_getElem
  · simp [addTo]
  · intro i h1 h2
    by_cases e : o + k = i
    · subst e
      simp [addTo]
    · by_cases l : o ≤ i ∧ i < o + k
      · simp [addTo, e, l, show i < o + (k + 1) from by omega]
      · simp [addTo, e, l, show ¬ (o ≤ i ∧ i < o + (k + 1)) from by omega]
theorem addTo_all (xs ys : List Nat) (o c : Nat) (h : o + ys.length = xs.length) : addTo xs ys o c ys.length = addAt xs ys o c := by
  apply List.map_congr_left
  intro j hj
  have := List.mem_range.1 hj
  by_cases l : o ≤ j
  · simp [l, show j < o + ys.length from by omega]
  · simp [l]
theorem addAt_none (xs ys : List Nat) (o : Nat) : addAt xs ys o 0 = xs := by
  apply List.ext_getElem
  · simp [addAt]
  · intro i h1 h2
    simp [addAt, List.getD, h2, M.zero_mul]

set_option maxHeartbeats 3200000 in
theorem addTimes_any {B : Nat} {w : World} {g N cap o n c' : Nat} {s : Value} {xs ys : List Nat} {c : Nat} (hc : c < 256) (hd : Own B w (.slice (some ⟨g, 0, none⟩) N cap) xs) (hs : Vec w s ys) (hl : o + ys.length = xs.length)
    (hn : n = ys.length) (ap : s.ownBlock = none ∨ s.ownBlock ≠ some g) :
    Calls Tryz.prog 176 #[.slice (some ⟨g, o, none⟩) n c', s, .int .u8 (c : Int)] w fun e w' => e = .returned (.tuple #[]) ∧ Own B w' (.slice (some ⟨g, 0, none⟩) N cap) (addAt xs ys o c) ∧ w.grownBy w' (some g) := by
  by_cases h0 : c = 0
  · subst h0
    go_enter Tryz.func176, Tryz.ntmps176
    go_wp2
    first
      | go_end0
      | refine bodyPost_ret (results_none rfl _ _ _) rfl ?_
    exact ⟨rfl, by rw [addAt_none]; exact hd, World.grownBy.refl _ _⟩
  · have hne : ((c : Int) == 0) = false := by simp; omega
    obtain ⟨q, n2, cp', rfl, hn'⟩ := hs.opened
    have hnl : n2 ≤ 140737488351232 := by rw [hn']; exact hs.len
    have HN : Hid (n = n2 ∧ n2 = ys.length ∧ o + ys.length = xs.length) := ⟨by omega, hn', hl⟩
    have HV : Hid (∀ w', w.grownBy w' (some g) → Vec w' (.slice q n2 cp') ys) := fun w' g => hs.kept g ap
    clear hn hn' hl h0
    go_enter Tryz.func176, Tryz.ntmps176
    go_wp2_with fail
    go_loopw [12] (fun ti wr => ∃ k : Nat, k ≤ n2 ∧ ti = .int .i64 k ∧ Own B wr (.slice (some ⟨g, 0, none⟩) N cap) (addTo xs ys o c k) ∧ Hid (w.grownBy wr (some g))) (fun ti _ => n2 - (intOf ti).toNat)
    case atStart => exact ⟨0, by omega, rfl, by rw [addTo_zero]; exact hd, World.grownBy.refl _ _⟩
    case round =>
      clear hd hs
      obtain ⟨k, hk, rfl, ok, GK⟩ := hrel
      by_cases hlt : k < n2
      · have hkx : o + k < xs.length := by have := HN.out; omega
        obtain ⟨b, off, rfl, hcs, h2⟩ := (HV.out _ GK.out).spot (k := k) (by have := HN.out; omega)
        obtain ⟨g', e', hnn, hcc, hf, h1, hset, hgrow⟩ := ok.spot (k := o + k) (by rw [addTo_len]; exact hkx)
        obtain rfl : g = g' := (by injection e' with e'; injection e' with e')
        rw [addTo_get _ _ _ _ _ hkx] at hcc h1
        have hm : M.mul c (ys.getD k 0) < 256 := M.mul_lt _ hc
        have hx := M.xor_lt h1 hm
        have HS : Hid _ := hset _ hx
        have HG : Hid _ := hgrow (.int .u8 ((xs.getD (o + k) 0 ^^^ M.mul c (ys.getD k 0) : Nat) : Int))
        have HM : Hid ((addTo xs ys o c k).set (o + k) (xs.getD (o + k) 0 ^^^ M.mul c (ys.getD k 0)) = addTo xs ys o c (k + 1)) := addTo_set _ _ _ _ _
        have i2 : (k : Int) < (n : Int) := by have := HN.out; omega
        clear hset hgrow ok hkx hnn e'
        generalize addTo xs ys o c k = L at *
        generalize xs.getD (o + k) 0 = x at *
        generalize ys.getD k 0 = z at *
        have MM : Hid (∀ w, Calls Tryz.prog 155 #[.int .u8 (c : Int), .int .u8 (z : Int)] w fun e w' => e = .returned (.int .u8 ((M.mul c z : Nat) : Int)) ∧ w' = w) := fun w => mul_any _ _ w (by omega) (by omega) (by omega) (by omega)
        have AA : Hid (∀ w, Calls Tryz.prog 138 #[.int .u8 (x : Int), .int .u8 ((M.mul c z : Nat) : Int)] w fun e w' => e = .returned (.int .u8 ((x ^^^ M.mul c z : Nat) : Int)) ∧ w' = w) := fun w => add_any _ _ w (by omega) (by omega) (by omega) (by omega)
        generalize M.mul c z = y at *
        generalize x ^^^ y = r at *
        have i1 : (k : Int) < (n2 : Int) := by omega
        have i3 : (0 : Int) ≤ (k : Int) := by omega
        go_wp2_with fail
        go_region_with (first
          | (go_at_call 155; refine (MM.out _).mono ?_; rintro e w1 ⟨rfl, hw⟩; obtain rfl := hw.symm; clear hw)
          | (go_at_call 138; refine (AA.out _).mono ?_; rintro e w1 ⟨rfl, hw⟩; obtain rfl := hw.symm; clear hw))
        all_goals
          go_wp2
          go_roundw
          case rel => exact ⟨k + 1, by omega, by go_num, by rw [← HM.out]; exact HS.out.keep (grown_drewN _ 1), grown_trans (grown_trans GK.out HG.out) (grown_any (grown_drewN _ 1) _)⟩
          case measure => simp [intOf]; omega
      · go_wp2
        go_end0
        have hkn : k = ys.length := by have := HN.out; omega
        exact ⟨rfl, by rw [← addTo_all _ _ _ _ HN.out.2.2, ← hkn]; exact ok, GK.out⟩
end Go.Proofs.YtfjlpifaaknmpaaGreat

/- The contract of matrix.Mul. -/
set_option maxRecDepth 100000
namespace Go.Proofs.YtfjlpifaaknmpaaGreat
open Go.RowKit

/-- The number in row i at j. -/
def at2 (X : List (List Nat)) (i j : Nat) : Nat := (X.getD i []).getD j 0
structure Shape (X : List (List Nat)) (n m : Nat) : Prop where
  len : X.length = n
  row : ∀ j, j < n → (X.getD j []).length = m

theorem may_spec {X : List (List Nat)} (h : mayB X = true) : 1 ≤ X.length ∧ X.length ≤ 255 ∧ 1 ≤ (X.getD 0 []).length ∧ (X.getD 0 []).length ≤ 255 ∧ Shape X X.length (X.getD 0 []).length := by
  unfold mayB mayTo at h
  simp only [Bool.and_eq_true, decide_eq_true_eq, List.all_eq_true, List.mem_range, beq_iff_eq] at h
  exact ⟨h.1, h.2.1, h.2.2.1, h.2.2.2.1, rfl, h.2.2.2.2⟩
theorem may_of {X : List (List Nat)} {n m : Nat} (h : Shape X n m) (n1 : 1 ≤ n) (n2 : n ≤ 255) (m1 : 1 ≤ m) (m2 : m ≤ 255) : mayB X = true := by
  have h0 := h.row 0 (by omega)
  unfold mayB mayTo
  simp only [Bool.and_eq_true, decide_eq_true_eq, List.all_eq_true, List.mem_range, beq_iff_eq]
  rw [h.len, h0]
  exact ⟨n1, n2, m1, m2, h.row⟩

theorem Vec.hi {w : World} {v : Value} {xs : List Nat} (h : Vec w v xs) (hx : 0 < xs.length) : Hi w.heap.size v := by
  obtain ⟨b, off, cap, rfl, hc, _⟩ := h.at hx
  intro k hk
  have := World.block_lt_of_cell? w _ hc
  simp only [Value.ownBlock, Option.some.injEq] at hk
  subst hk
  exact this

theorem Mat.small {w : World} {v : Value} {us : List Value} {X : List (List Nat)} (h : Mat w v us X) (i j : Nat) : at2 X i j < 256 := by
  unfold at2
  by_cases hi : i < X.length
  · exact getD_small (h.vec i hi).small j
  · simp [List.getD, hi]

end Go.Proofs.YtfjlpifaaknmpaaGreat

/- Plain mathematics of solve's rounds: rows of lists as matrices, a row raised, rows struck, the inverse at the end. -/
set_option maxRecDepth 100000
namespace Go.Proofs.YtfjlpifaaknmpaaGreat
open Go.RowKit

theorem MX.Struck.congr {n : Nat} {m a b a' b' : Nat → Nat → Nat} (h : MX.Struck n m a b) (ha : MX.Eq2 n n a a') (hb : MX.Eq2 n n b b') : MX.Struck n m a' b' :=
  h.step (MX.Inv.one n) (ha.symm.trans (MX.one_mm h.sa).symm) (hb.symm.trans (MX.one_mm (by obtain ⟨c, hc⟩ := h.inv; exact hc.sa)).symm)
theorem MX.Low.congr {n i : Nat} {a a' : Nat → Nat → Nat} (h : MX.Low n i a) (hi : i ≤ n) (e : MX.Eq2 n n a a') : MX.Low n i a' := fun k j hk hj => by rw [← e k j hk (by omega)]; exact h k j hk hj

theorem at2_set {X : List (List Nat)} {k : Nat} (hk : k < X.length) (ys : List Nat) (r j : Nat) : at2 (X.set k ys) r j = if r = k then ys.getD j 0 else at2 X r j := by
  unfold at2
  by_cases e : k = r
  · subst e; rw [getD_set_self _ _ _ _ hk]; simp
  · rw [getD_set_ne _ _ _ e, if_neg (fun x => e x.symm)]
theorem Shape.set {X : List (List Nat)} {n m k : Nat} (h : Shape X n m) {ys : List Nat} (hy : ys.length = m) : Shape (X.set k ys) n m := ⟨by simpa using h.len, fun j hj => by
  by_cases e : k = j
  · subst e; rw [getD_set_self _ _ _ _ (by rw [h.len]; exact hj)]; exact hy
  · rw [getD_set_ne _ _ _ e]; exact h.row j hj⟩
theorem gd_out (xs : List Nat) {j : Nat} (h : xs.length ≤ j) : xs.getD j 0 = 0 := by simp [List.getD, List.getElem?_eq_none h]
theorem gd_map {m j : Nat} (f : Nat → Nat) (h : j < m) : ((List.range m).map f).getD j 0 = f j := by simp [List.getD, h]
theorem gd_left (xs ys : List Nat) {j : Nat} (h : j < xs.length) : (xs ++ ys).getD j 0 = xs.getD j 0 := by simp [List.getD, List.getElem?_append_left h]
theorem gd_right (xs ys : List Nat) {j : Nat} (h : xs.length ≤ j) : (xs ++ ys).getD j 0 = ys.getD (j - xs.length) 0 := by simp [List.getD, List.getElem?_append_right h]
theorem at2_out {X : List (List Nat)} {n m : Nat} (h : Shape X n m) {i j : Nat} (hi : i < n) (hj : m ≤ j) : at2 X i j = 0 := by
  unfold at2
  exact gd_out _ (by rw [h.row i hi]; exact hj)

theorem addAt_get (xs ys : List Nat) (o c j : Nat) (h : j < xs.length) : (addAt xs ys o c).getD j 0 = if o ≤ j then xs.getD j 0 ^^^ M.mul c (ys.getD (j - o) 0) else xs.getD j 0 := by
  simp [addAt, List.getD, h]
theorem addAt_len (xs ys : List Nat) (o c : Nat) : (addAt xs ys o c).length = xs.length := by simp [addAt]
theorem drop_getD (xs : List Nat) (o j : Nat) : (xs.drop o).getD j 0 = xs.getD (o + j) 0 := by simp [List.getD]

/-- Where the rounds stand: k columns are done. -/
structure Work (n : Nat) (m : Nat → Nat → Nat) (k : Nat) (X : List (List Nat)) : Prop where
  shape : Shape X n (2 * n)
  st : MX.Struck n m (at2 X) (fun i j => at2 X i (n + j))
  low : MX.Low n k (at2 X)
  kn : k ≤ n
/-- Within round k: the row k is raised, and of the other rows the first t are struck. -/
structure Mid (n : Nat) (m : Nat → Nat → Nat) (k t : Nat) (X : List (List Nat)) : Prop where
  shape : Shape X n (2 * n)
  st : MX.Struck n m (at2 X) (fun i j => at2 X i (n + j))
  low : MX.Low n k (at2 X)
  kn : k < n
  one : at2 X k k = 1
  nought : ∀ r, r < t → r < n → r ≠ k → at2 X r k = 0

theorem Mid.work {n : Nat} {m : Nat → Nat → Nat} {k : Nat} {X : List (List Nat)} (h : Mid n m k n X) : Work n m (k + 1) X :=
  ⟨h.shape, h.st, h.low.next fun r hr => by
    unfold MX.one
    by_cases e : r = k
    · subst e; rw [if_pos rfl]; exact h.one
    · rw [if_neg e]; exact h.nought r hr hr e, h.kn⟩

theorem Mid.skip {n : Nat} {m : Nat → Nat → Nat} {k : Nat} {X : List (List Nat)} (h : Mid n m k k X) : Mid n m k (k + 1) X :=
  ⟨h.shape, h.st, h.low, h.kn, h.one, fun r hr hn hne => h.nought r (by omega) hn hne⟩

theorem Work.small {n : Nat} {m : Nat → Nat → Nat} {k : Nat} {X : List (List Nat)} (h : Work n m k X) {i j : Nat} (hi : i < n) : at2 X i j < 256 := by
  by_cases h1 : j < n
  · exact h.st.sa i j hi h1
  · by_cases h2 : j < 2 * n
    · obtain ⟨c, hc⟩ := h.st.inv
      have := hc.sa i (j - n) hi (by omega)
      simp only [show n + (j - n) = j from by omega] at this
      exact this
    · rw [at2_out h.shape hi (by omega)]; decide
theorem Mid.small {n : Nat} {m : Nat → Nat → Nat} {k t : Nat} {X : List (List Nat)} (h : Mid n m k t X) {i j : Nat} (hi : i < n) : at2 X i j < 256 :=
  Work.small ⟨h.shape, h.st, h.low, Nat.le_of_lt h.kn⟩ hi

/-- The row t, struck by the row k from place k on. -/
def struck (X : List (List Nat)) (t k : Nat) : List (List Nat) := X.set t (addAt (X.getD t []) ((X.getD k []).drop k) k (at2 X t k))

theorem struck_at {n : Nat} {X : List (List Nat)} (h : Shape X n (2 * n)) {t k : Nat} (ht : t < n) (hz : ∀ j, j < k → at2 X k j = 0) {r j : Nat} (hj : j < 2 * n) :
    at2 (struck X t k) r j = if r = t then at2 X t j ^^^ M.mul (at2 X t k) (at2 X k j) else at2 X r j := by
  unfold struck
  rw [at2_set (by rw [h.len]; exact ht)]
  by_cases e : r = t
  · subst e
    simp only [if_true]
    rw [addAt_get _ _ _ _ _ (by rw [h.row r ht]; exact hj)]
    by_cases l : k ≤ j
    · rw [if_pos l, drop_getD, show k + (j - k) = j from by omega]; rfl
    · rw [if_neg l, hz j (by omega), M.mul_zero, Nat.xor_zero]; rfl
  · rw [if_neg e, if_neg e]

theorem Mid.strike {n : Nat} {m : Nat → Nat → Nat} {k t : Nat} {X : List (List Nat)} (h : Mid n m k t X) (ht : t < n) (hne : t ≠ k) : Mid n m k (t + 1) (struck X t k) := by
  have hz : ∀ j, j < k → at2 X k j = 0 := fun j hj => h.low.nought h.kn (Nat.le_refl _) hj
  have key : ∀ r j, j < 2 * n → at2 (struck X t k) r j = if r = t then at2 X t j ^^^ M.mul (at2 X t k) (at2 X k j) else at2 X r j := fun r j hj => struck_at h.shape ht hz hj
  have hs : at2 X t k < 256 := h.small ht
  refine ⟨h.shape.set (by rw [addAt_len]; exact h.shape.row t ht), ?_, ?_, h.kn, ?_, ?_⟩
  · refine (h.st.strike hs ht h.kn hne).congr (fun i j hi hj => ?_) (fun i j hi hj => ?_)
    · rw [key i j (by omega)]
    · show _ = at2 (struck X t k) i (n + j)
      rw [key i (n + j) (by omega)]
  · refine (h.low.strike (k := t) (y := at2 X t k) h.kn (Nat.le_refl _)).congr (Nat.le_of_lt h.kn) (fun i j hi hj => ?_)
    rw [key i j (by omega)]
  · rw [key k k (by have := h.kn; omega), if_neg (fun e => hne e.symm)]; exact h.one
  · intro r hr hn hrk
    rw [key r k (by have := h.kn; omega)]
    by_cases e : r = t
    · subst e
      simp only [if_true]
      rw [h.one, M.mul_one hs, Nat.xor_self]
    · rw [if_neg e]; exact h.nought r (by omega) hn hrk

/-- Rows k and i change places, and the row k is divided. -/
def raised (X : List (List Nat)) (k i : Nat) : List (List Nat) :=
  ((X.set k (X.getD i [])).set i (X.getD k [])).set k ((List.range (X.getD i []).length).map fun j => M.mul (M.inv (at2 X i k)) ((X.getD i []).getD j 0))

structure Pivot (n : Nat) (X : List (List Nat)) (k i : Nat) : Prop where
  ki : k ≤ i
  i_n : i < n
  ne : at2 X i k ≠ 0
  first : ∀ j, k ≤ j → j < i → at2 X j k = 0

theorem pivot_or (n : Nat) (X : List (List Nat)) (k : Nat) : (∃ i, Pivot n X k i) ∨ ∀ j, k ≤ j → j < n → at2 X j k = 0 := by
  have key : ∀ d, k + d ≤ n → (∃ i, Pivot n X k i) ∨ ∀ j, k ≤ j → j < k + d → at2 X j k = 0 := by
    intro d
    induction d with
    | zero => exact fun _ => .inr fun j h1 h2 => by omega
    | succ d ih =>
      intro hd
      rcases ih (by omega) with h | h
      · exact .inl h
      · by_cases e : at2 X (k + d) k = 0
        · exact .inr fun j h1 h2 => by
            by_cases e2 : j = k + d
            · rw [e2]; exact e
            · exact h j h1 (by omega)
        · exact .inl ⟨k + d, by omega, by omega, e, fun j h1 h2 => h j h1 h2⟩
  by_cases h : k ≤ n
  · have := key (n - k) (by omega)
    rw [show k + (n - k) = n from by omega] at this
    exact this
  · exact .inr fun j h1 h2 => by omega

theorem raised_at {n : Nat} {X : List (List Nat)} (h : Shape X n (2 * n)) {k i : Nat} (hk : k < n) (hi : i < n) {r j : Nat} (hj : j < 2 * n) :
    at2 (raised X k i) r j = if r = k then M.mul (M.inv (at2 X i k)) (at2 X i j) else at2 X (if r = i then k else r) j := by
  unfold raised
  rw [at2_set (by simp [h.len]; exact hk)]
  by_cases e : r = k
  · subst e
    simp only [if_true]
    rw [gd_map _ (by rw [h.row i hi]; exact hj)]; rfl
  · rw [if_neg e, if_neg e, at2_set (by simp [h.len]; exact hi)]
    by_cases e2 : r = i
    · subst e2; simp only [if_true]; rfl
    · rw [if_neg e2, if_neg e2, at2_set (by rw [h.len]; exact hk), if_neg e]

theorem Work.raise {n : Nat} {m : Nat → Nat → Nat} {k i : Nat} {X : List (List Nat)} (h : Work n m k X) (hk : k < n) (p : Pivot n X k i) : Mid n m k 0 (raised X k i) := by
  have key : ∀ r j, j < 2 * n → at2 (raised X k i) r j = if r = k then M.mul (M.inv (at2 X i k)) (at2 X i j) else at2 X (if r = i then k else r) j := fun r j hj => raised_at h.shape hk p.i_n hj
  have hs : at2 X i k < 256 := h.small p.i_n
  have hp : 0 < at2 X i k := Nat.pos_of_ne_zero p.ne
  have hiv := M.inv_lt (at2 X i k)
  have hm : M.mul (M.inv (at2 X i k)) (at2 X i k) = 1 := by rw [M.mul_comm hiv hs]; exact M.mul_inv hs hp
  have e1 : ∀ r j, (if r = k then M.mul (M.inv (at2 X i k)) (at2 X (if k = k then i else if k = i then k else k) j) else at2 X (if r = k then i else if r = i then k else r) j) = if r = k then M.mul (M.inv (at2 X i k)) (at2 X i j) else at2 X (if r = i then k else r) j := by
    intro r j
    by_cases e : r = k
    · simp [e]
    · simp [e]
  refine ⟨?_, ?_, ?_, hk, ?_, fun r hr => by omega⟩
  · refine ((h.shape.set (h.shape.row i p.i_n)).set (h.shape.row k hk)).set ?_
    rw [List.length_map, List.length_range]; exact h.shape.row i p.i_n
  · refine ((h.st.swap (k := k) (s := i) hk p.i_n).scale (k := k) hiv hs hm).congr (fun r j hr hj => ?_) (fun r j hr hj => ?_)
    · rw [key r j (by omega)]; exact e1 r j
    · show _ = at2 (raised X k i) r (n + j)
      rw [key r (n + j) (by omega)]; exact e1 r (n + j)
  · refine ((h.low.swap (k := k) (s := i) hk p.i_n (Nat.le_refl _) p.ki).scale (k := k) (x := M.inv (at2 X i k)) (Nat.le_refl _)).congr (Nat.le_of_lt hk) (fun r j hr hj => ?_)
    rw [key r j (by omega)]; exact e1 r j
  · rw [key k k (by omega), if_pos rfl]; exact hm

/-- No inverse. -/
def NoInv (n : Nat) (m : Nat → Nat → Nat) : Prop := ¬ ∃ c, MX.Small n n c ∧ MX.Eq2 n n (MX.mm n c m) MX.one

theorem Work.none {n : Nat} {m : Nat → Nat → Nat} {k : Nat} {X : List (List Nat)} (h : Work n m k X) (hk : k < n) (z : ∀ j, k ≤ j → j < n → at2 X j k = 0) : NoInv n m :=
  h.st.none hk h.low z

def besList (X : List (List Nat)) (n : Nat) : List (List Nat) := (List.range n).map fun i => X.getD i [] ++ idRow n i
def halfList (X : List (List Nat)) (n : Nat) : List (List Nat) := (List.range n).map fun i => (X.getD i []).drop n

theorem idRow_get (n i j : Nat) (hj : j < n) : (idRow n i).getD j 0 = MX.one i j := by simp [idRow, List.getD, hj, MX.one]
theorem idRow_len (n i : Nat) : (idRow n i).length = n := by simp [idRow]

theorem Work.start {X : List (List Nat)} {n : Nat} (h : Shape X n n) (hs : ∀ i j, at2 X i j < 256) : Work n (at2 X) 0 (besList X n) := by
  have sm : MX.Small n n (at2 X) := fun i j _ _ => hs i j
  have row : ∀ i, i < n → (besList X n).getD i [] = X.getD i [] ++ idRow n i := fun i hi => by simp [besList, List.getD, hi]
  refine ⟨⟨by simp [besList], fun j hj => by rw [row j hj, List.length_append, h.row j hj, idRow_len]; omega⟩, ?_, MX.Low.zero _ _, Nat.zero_le _⟩
  refine (MX.Struck.start sm).congr (fun i j hi hj => ?_) (fun i j hi hj => ?_)
  · unfold at2
    rw [row i hi, gd_left _ _ (by rw [h.row i hi]; exact hj)]
  · show _ = at2 (besList X n) i (n + j)
    unfold at2
    rw [row i hi, gd_right _ _ (by rw [h.row i hi]; omega), h.row i hi, show n + j - n = j from by omega, idRow_get n i j hj]

theorem half_at (X : List (List Nat)) (n i j : Nat) (hi : i < n) : at2 (halfList X n) i j = at2 X i (n + j) := by
  unfold at2 halfList
  rw [show ((List.range n).map fun i => (X.getD i []).drop n).getD i [] = (X.getD i []).drop n from by simp [List.getD, hi], drop_getD]
theorem half_shape {X : List (List Nat)} {n : Nat} (h : Shape X n (2 * n)) : Shape (halfList X n) n n := ⟨by simp [halfList], fun j hj => by
  rw [show (halfList X n).getD j [] = (X.getD j []).drop n from by simp [halfList, List.getD, hj], List.length_drop, h.row j hj]; omega⟩

theorem Work.done {X : List (List Nat)} {n : Nat} {m : Nat → Nat → Nat} (h : Work n m n X) : MX.Inv n m (at2 (halfList X n)) := by
  have h1 := h.st.done h.low.all
  have e : MX.Eq2 n n (at2 (halfList X n)) (fun i j => at2 X i (n + j)) := fun i j hi _ => half_at X n i j hi
  exact ⟨h1.sa, fun i j hi hj => by rw [e i j hi hj]; exact h1.sb i j hi hj, (MX.mm_congr e (MX.Eq2.refl n n m)).trans h1.l, (MX.mm_congr (MX.Eq2.refl n n m) e).trans h1.r⟩
end Go.Proofs.YtfjlpifaaknmpaaGreat

