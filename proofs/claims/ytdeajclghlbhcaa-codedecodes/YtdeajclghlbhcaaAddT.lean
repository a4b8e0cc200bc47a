/- The contract of matrix.addTimes: a row, so many times, added to the end of another one. -/
import Derived.Test.YtdeajclghlbhcaaGrid
import Derived.Test.YtdeajclghlbhcaaRefMat
namespace Go.Proofs.Ytdeajclghlbhcaa
open Go.RowKit

/-- From place o on the numbers of ys, times c, are added. -/
def addAt (xs ys : List Nat) (o c : Nat) : List Nat := (List.range xs.length).map fun j => if o ≤ j then xs.getD j 0 ^^^ M.mul c (ys.getD (j - o) 0) else xs.getD j 0
/-- .. behind k rounds. -/
def addTo (xs ys : List Nat) (o c k : Nat) : List Nat := (List.range xs.length).map fun j => if o ≤ j ∧ j < o + k then xs.getD j 0 ^^^ M.mul c (ys.getD (j - o) 0) else xs.getD j 0

theorem addTo_len (xs ys : List Nat) (o c k : Nat) : (addTo xs ys o c k).length = xs.length := by simp [addTo]
theorem addTo_zero (xs ys : List Nat) (o c : Nat) : addTo xs ys o c 0 = xs := by
  apply List.ext_getElem
  · simp [addTo]
  · intro i h1 h2
    simp [addTo, List.getD, h2]
    omega
theorem addTo_get (xs ys : List Nat) (o c k : Nat) (h : o + k < xs.length) : (addTo xs ys o c k).getD (o + k) 0 = xs.getD (o + k) 0 := by simp [addTo, List.getD, h]
theorem addTo_set (xs ys : List Nat) (o c k : Nat) : (addTo xs ys o c k).set (o + k) (xs.getD (o + k) 0 ^^^ M.mul c (ys.getD k 0)) = addTo xs ys o c (k + 1) := by
  apply List.ext_getElem
  · simp [addTo]
  · intro i h1 h2
    by_cases e : o + k = i
    · subst e
      simp [addTo]
    · by_cases l : o ≤ i ∧ i < o + k
      · simp [addTo, e, l, show i < o + (k + 1) from by omega]
      · simp [addTo, e, l, show ¬ (o ≤ i ∧ i < o + (k + 1)) from by omega]
theorem addTo_all (xs ys : List Nat) (o c : Nat) (h : o + ys.length = xs.length) : addTo xs ys o c ys.length = addAt xs ys o c := by
  apply List.map_congr_left
  intro j hj
  have := List.mem_range.1 hj
  by_cases l : o ≤ j
  · simp [l, show j < o + ys.length from by omega]
  · simp [l]
theorem addAt_none (xs ys : List Nat) (o : Nat) : addAt xs ys o 0 = xs := by
  apply List.ext_getElem
  · simp [addAt]
  · intro i h1 h2
    simp [addAt, List.getD, h2, M.zero_mul]

set_option maxHeartbeats 3200000 in
theorem addTimes_any {B : Nat} {w : World} {g N cap o n c' : Nat} {s : Value} {xs ys : List Nat} {c : Nat} (hc : c < 256) (hd : Own B w (.slice (some ⟨g, 0, none⟩) N cap) xs) (hs : Vec w s ys) (hl : o + ys.length = xs.length)
    (hn : n = ys.length) (ap : s.ownBlock = none ∨ s.ownBlock ≠ some g) :
    Calls Try.prog 64 #[.slice (some ⟨g, o, none⟩) n c', s, .int .u8 (c : Int)] w fun e w' => e = .returned (.tuple #[]) ∧ Own B w' (.slice (some ⟨g, 0, none⟩) N cap) (addAt xs ys o c) ∧ w.grownBy w' (some g) := by
  by_cases h0 : c = 0
  · subst h0
    go_enter Try.func64, Try.ntmps64
    go_wp2
    first
      | go_end0
      | refine bodyPost_ret (results_none rfl _ _ _) rfl ?_
    exact ⟨rfl, by rw [addAt_none]; exact hd, World.grownBy.refl _ _⟩
  · have hne : ((c : Int) == 0) = false := by simp; omega
    obtain ⟨q, n2, cp', rfl, hn'⟩ := hs.opened
    have hnl : n2 ≤ 140737488351232 := by rw [hn']; exact hs.len
    have HN : Hid (n = n2 ∧ n2 = ys.length ∧ o + ys.length = xs.length) := ⟨by omega, hn', hl⟩
    have HV : Hid (∀ w', w.grownBy w' (some g) → Vec w' (.slice q n2 cp') ys) := fun w' g => hs.kept g ap
    clear hn hn' hl h0
    go_enter Try.func64, Try.ntmps64
    go_wp2_with fail
    go_loopw [12] (fun ti wr => ∃ k : Nat, k ≤ n2 ∧ ti = .int .i64 k ∧ Own B wr (.slice (some ⟨g, 0, none⟩) N cap) (addTo xs ys o c k) ∧ Hid (w.grownBy wr (some g))) (fun ti _ => n2 - (intOf ti).toNat)
    case atStart => exact ⟨0, by omega, rfl, by rw [addTo_zero]; exact hd, World.grownBy.refl _ _⟩
    case round =>
      clear hd hs
      obtain ⟨k, hk, rfl, ok, GK⟩ := hrel
      by_cases hlt : k < n2
      · have hkx : o + k < xs.length := by have := HN.out; omega
        obtain ⟨b, off, rfl, hcs, h2⟩ := (HV.out _ GK.out).spot (k := k) (by have := HN.out; omega)
        obtain ⟨g', e', hnn, hcc, hf, h1, hset, hgrow⟩ := ok.spot (k := o + k) (by rw [addTo_len]; exact hkx)
        obtain rfl : g = g' := (by injection e' with e'; injection e' with e')
        rw [addTo_get _ _ _ _ _ hkx] at hcc h1
        have hm : M.mul c (ys.getD k 0) < 256 := M.mul_lt _ hc
        have hx := M.xor_lt h1 hm
        have HS : Hid _ := hset _ hx
        have HG : Hid _ := hgrow (.int .u8 ((xs.getD (o + k) 0 ^^^ M.mul c (ys.getD k 0) : Nat) : Int))
        have HM : Hid ((addTo xs ys o c k).set (o + k) (xs.getD (o + k) 0 ^^^ M.mul c (ys.getD k 0)) = addTo xs ys o c (k + 1)) := addTo_set _ _ _ _ _
        have i2 : (k : Int) < (n : Int) := by have := HN.out; omega
        clear hset hgrow ok hkx hnn e'
        generalize addTo xs ys o c k = L at *
        generalize xs.getD (o + k) 0 = x at *
        generalize ys.getD k 0 = z at *
        have MM : Hid (∀ w, Calls Try.prog 25 #[.int .u8 (c : Int), .int .u8 (z : Int)] w fun e w' => e = .returned (.int .u8 ((M.mul c z : Nat) : Int)) ∧ w' = w) := fun w => mul_any _ _ w (by omega) (by omega) (by omega) (by omega)
        have AA : Hid (∀ w, Calls Try.prog 43 #[.int .u8 (x : Int), .int .u8 ((M.mul c z : Nat) : Int)] w fun e w' => e = .returned (.int .u8 ((x ^^^ M.mul c z : Nat) : Int)) ∧ w' = w) := fun w => add_any _ _ w (by omega) (by omega) (by omega) (by omega)
        generalize M.mul c z = y at *
        generalize x ^^^ y = r at *
        have i1 : (k : Int) < (n2 : Int) := by omega
        have i3 : (0 : Int) ≤ (k : Int) := by omega
        go_wp2_with fail
        go_region_with (first
          | (go_at_call 25; refine (MM.out _).mono ?_; rintro e w1 ⟨rfl, hw⟩; obtain rfl := hw.symm; clear hw)
          | (go_at_call 43; refine (AA.out _).mono ?_; rintro e w1 ⟨rfl, hw⟩; obtain rfl := hw.symm; clear hw))
        all_goals
          go_wp2
          go_roundw
          case rel => exact ⟨k + 1, by omega, by go_num, by rw [← HM.out]; exact HS.out.keep (grown_drewN _ 1), grown_trans (grown_trans GK.out HG.out) (grown_any (grown_drewN _ 1) _)⟩
          case measure => simp [intOf]; omega
      · go_wp2
        go_end0
        have hkn : k = ys.length := by have := HN.out; omega
        exact ⟨rfl, by rw [← addTo_all _ _ _ _ HN.out.2.2, ← hkn]; exact ok, GK.out⟩
end Go.Proofs.Ytdeajclghlbhcaa
