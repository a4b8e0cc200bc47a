/- Contracts of package hayrickref03: the document's own answers on matrices. -/
import Derived.Test.YtdeajclghlbhcaaRowsets
import Derived.Test.YtdeajclghlbhcaaRefMul
import Derived.Test.YtdeajclghlbhcaaMatMath
import Derived.Deep.RegionHeld3
namespace Go.Proofs.Ytdeajclghlbhcaa
open Go.RowKit

/-- The first k rows have n numbers each, and n may be. -/
def mayTo (X : List (List Nat)) (n k : Nat) : Bool := decide (1 ≤ n) && (decide (n ≤ 255) && (List.range k).all fun j => (X.getD j []).length == n)
def mayB (X : List (List Nat)) : Bool := decide (1 ≤ X.length) && (decide (X.length ≤ 255) && mayTo X (X.getD 0 []).length X.length)

theorem mayTo_more {X : List (List Nat)} {n k : Nat} (h : (X.getD k []).length = n) : mayTo X n (k + 1) = mayTo X n k := by
  unfold mayTo
  rw [List.range_succ, List.all_append]
  simp only [List.all_cons, List.all_nil, h, beq_self_eq_true, Bool.and_true]
theorem mayTo_less {X : List (List Nat)} {n k : Nat} (h : (X.getD k []).length ≠ n) : mayTo X n (k + 1) = false := by
  unfold mayTo
  rw [List.range_succ, List.all_append]
  have : ((X.getD k []).length == n) = false := by simpa using h
  simp only [List.all_cons, List.all_nil, this, Bool.and_true, Bool.and_false]

set_option maxHeartbeats 1600000 in
theorem refMay_any {w : World} {r : Value} {vs : List Value} {X : List (List Nat)} (mr : Mat w r vs X) :
    Calls Try.prog 48 #[r] w fun e w' => e = .returned (.bool (mayB X)) ∧ w' = w := by
  obtain ⟨q, N, cap, rfl, hN⟩ := mr.row.opened
  have hs := mr.same
  have hNl : N ≤ 140737488351232 := by have := mr.row.len; omega
  by_cases h0 : N = 0
  · have hb : ((N : Int) == 0) = true := by simp [h0]
    have hz : mayB X = false := by unfold mayB; rw [show decide (1 ≤ X.length) = false from decide_eq_false (by omega)]; rfl
    rw [hz]
    clear h0 hN hs mr hz
    go_enter Try.func48, Try.ntmps48
    go_wp2
    go_ret
    exact ⟨rfl, rfl⟩
  · have hb : ((N : Int) == 0) = false := by simp; omega
    by_cases h1 : 255 < N
    · have i1 : (255 : Int) < (N : Int) := by omega
      have hz : mayB X = false := by unfold mayB; rw [show decide (X.length ≤ 255) = false from decide_eq_false (by omega)]; simp
      rw [hz]
      clear h0 hN hs mr hz
      go_enter Try.func48, Try.ntmps48
      go_wp2
      go_ret
      exact ⟨rfl, rfl⟩
    · have i1 : ¬ (255 : Int) < (N : Int) := by omega
      obtain ⟨b, off, rfl, hc⟩ := mr.row.spot (k := 0) (by omega)
      obtain ⟨p0, n0, c0, e0, hn0⟩ := (mr.vec 0 (by omega)).opened
      rw [e0] at hc
      have hc0 : w.cell? ⟨b, off, none⟩ = some (.slice p0 n0 c0) := hc
      have hpos : (0 : Int) < (N : Int) := by omega
      have hn0l : n0 ≤ 140737488351232 := by rw [hn0]; exact (mr.vec 0 (by omega)).len
      have MR : Hid (Mat w (.slice (some ⟨b, off, none⟩) N cap) vs X) := mr
      have HN : Hid (N = vs.length ∧ N = X.length ∧ n0 = (X.getD 0 []).length) := ⟨hN, by omega, hn0⟩
      have HR : Hid (mayB X = mayTo X n0 N) := by
        unfold mayB
        rw [show decide (1 ≤ X.length) = true from decide_eq_true (by omega), show decide (X.length ≤ 255) = true from decide_eq_true (by omega), ← hn0, ← hs, ← hN]
        rfl
      rw [HR.out]
      have S1 : Hid (1 ≤ n0 → decide ((n0 : Int) ≤ 255) = mayTo X n0 0) := fun h => by
        unfold mayTo
        rw [show decide (1 ≤ n0) = true from decide_eq_true h]
        simp
        omega
      have S2 : Hid (¬ 1 ≤ n0 → false = mayTo X n0 0) := fun h => by
        unfold mayTo
        rw [show decide (1 ≤ n0) = false from decide_eq_false h]
        rfl
      clear hc e0 hn0 hN hs mr h0 h1
      go_enter Try.func48, Try.ntmps48
      by_cases hq : 1 ≤ n0
      all_goals
        have hq' := hq
        go_wp2_with fail
        go_loop [4, 5] (fun tk ti => ∃ k : Nat, k ≤ N ∧ ti = .int .i64 k ∧ tk = .bool (mayTo X n0 k)) (fun _ ti => N - (intOf ti).toNat)
        case atStart => exact ⟨0, by omega, rfl, by first | rw [← S1.out hq] | rw [← S2.out hq]⟩
        case round =>
          obtain ⟨k, hk, rfl, rfl⟩ := hrel
          by_cases hlt : k < N
          · obtain ⟨b1, o1, e1, hr⟩ := MR.out.row.spot (k := k) (by have := HN.out; omega)
            obtain ⟨rfl, rfl⟩ : b = b1 ∧ off = o1 := by
              injection e1 with e1
              injection e1 with e2 e3
              exact ⟨e2, e3⟩
            obtain ⟨pk, nk, ck, ek, hnk⟩ := (MR.out.vec k (by have := HN.out; omega)).opened
            rw [ek] at hr
            clear e1 ek
            have i2 : (k : Int) < (N : Int) := by omega
            have i3 : (0 : Int) ≤ (k : Int) := by omega
            by_cases he : nk = n0
            · have hne : ((nk : Int) != (n0 : Int)) = false := by simp [he]
              have HM : Hid (mayTo X n0 (k + 1) = mayTo X n0 k) := mayTo_more (by rw [← hnk, he])
              clear he hnk
              go_wp2
              go_round
              case rel => exact ⟨k + 1, by omega, by go_num, by rw [HM.out]⟩
              case measure => simp [intOf]; omega
            · have hne : ((nk : Int) != (n0 : Int)) = true := by simp; omega
              have HM : Hid (mayTo X n0 (k + 1) = false) := mayTo_less (by rw [← hnk]; exact he)
              clear he hnk
              go_wp2
              go_round
              case rel => exact ⟨k + 1, by omega, by go_num, by rw [HM.out]⟩
              case measure => simp [intOf]; omega
          · have hkN : N = k := by omega
            subst hkN
            go_wp2
            go_ret
            exact ⟨rfl, rfl⟩

theorem list_ext {X Y : List (List Nat)} (hl : X.length = Y.length) (h : ∀ j, j < X.length → X.getD j [] = Y.getD j []) : X = Y := by
  apply List.ext_getElem hl
  intro i h1 h2
  have := h i h1
  simpa [List.getD, h1, h2] using this

set_option maxHeartbeats 1600000 in
theorem refSame_any {w : World} {r s : Value} {us vs : List Value} {X Y : List (List Nat)} (mr : Mat w r us X) (ms : Mat w s vs Y) :
    Calls Try.prog 14 #[r, s] w fun e w' => e = .returned (.bool (decide (X = Y))) ∧ w.grownBy w' none := by
  obtain ⟨q, N, cap, rfl, hN⟩ := mr.row.opened
  obtain ⟨q', N', cap', rfl, hN'⟩ := ms.row.opened
  have hs := mr.same
  have hs' := ms.same
  have hNl : N ≤ 140737488351232 := by have := mr.row.len; omega
  by_cases h0 : N = N'
  · have hb : ((N : Int) != (N' : Int)) = false := by simp [h0]
    have MR : Hid (Mat w (.slice q N cap) us X) := mr
    have MS : Hid (Mat w (.slice q' N' cap') vs Y) := ms
    have HN : Hid (N = us.length ∧ N = X.length ∧ N' = vs.length ∧ N' = Y.length ∧ N = N') := ⟨hN, by omega, hN', by omega, h0⟩
    clear hN hN' hs hs' mr ms h0
    go_enter Try.func14, Try.ntmps14
    go_wp2_with fail
    go_loopw [5] (fun ti wr => ∃ k : Nat, k ≤ N ∧ ti = .int .i64 k ∧ Hid (∀ j, j < k → X.getD j [] = Y.getD j []) ∧ Hid (w.grownBy wr none)) (fun ti _ => N - (intOf ti).toNat)
    case atStart => exact ⟨0, by omega, rfl, fun j hj => by omega, World.grownBy.refl _ _⟩
    case round =>
      obtain ⟨k, hk, rfl, HE, GK⟩ := hrel
      by_cases hlt : k < N
      · obtain ⟨b, off, rfl, hr⟩ := MR.out.row.spot (k := k) (by have := HN.out; omega)
        obtain ⟨b', off', rfl, ht⟩ := MS.out.row.spot (k := k) (by have := HN.out; omega)
        obtain ⟨pk, nk, ck, ek, hnk⟩ := (MR.out.vec k (by have := HN.out; omega)).opened
        obtain ⟨qk, mk, dk, fk, hmk⟩ := (MS.out.vec k (by have := HN.out; omega)).opened
        have VX : Hid (Vec w (.slice pk nk ck) (X.getD k [])) := by rw [← ek]; exact MR.out.vec k (by have := HN.out; omega)
        have VY : Hid (Vec w (.slice qk mk dk) (Y.getD k [])) := by rw [← fk]; exact MS.out.vec k (by have := HN.out; omega)
        rw [ek] at hr
        rw [fk] at ht
        have HY : Hid (∀ w', w.grownBy w' none → w'.cell? ⟨b, off + k, none⟩ = some (.slice pk nk ck) ∧ (convert 39 9 (.slice pk nk ck)).run Try.prog w' = .ok (.string (strOf (X.getD k []))) w' ∧
            w'.cell? ⟨b', off' + k, none⟩ = some (.slice qk mk dk) ∧ (convert 39 9 (.slice qk mk dk)).run Try.prog w' = .ok (.string (strOf (Y.getD k []))) w') := fun w' g =>
          ⟨g.cell hr (by simp), convert_vec (VX.out.keep g), g.cell ht (by simp), convert_vec (VY.out.keep g)⟩
        have i1 : (k : Int) < (N : Int) := by omega
        have i2 : (k : Int) < (N' : Int) := by have := HN.out; omega
        have i3 : (0 : Int) ≤ (k : Int) := by omega
        have hcmp := str_cmp VX.out.small VY.out.small
        clear ek fk hr ht hnk hmk
        by_cases he : X.getD k [] = Y.getD k []
        · have hd : decide (X.getD k [] = Y.getD k []) = true := decide_eq_true he
          rw [hd] at hcmp
          have HE' : Hid (∀ j, j < k + 1 → X.getD j [] = Y.getD j []) := fun j hj => by
            by_cases e : j = k
            · subst e; exact he
            · exact HE.out j (by omega)
          clear he hd HE VX VY
          generalize X.getD k [] = XK at *
          generalize Y.getD k [] = YK at *
          go_wp2_with fail
          go_region_held3 (fun w' => w'.cell? ⟨b, off + k, none⟩ = some (.slice pk nk ck) ∧ (convert 39 9 (.slice pk nk ck)).run Try.prog w' = .ok (.string (strOf XK)) w' ∧
              w'.cell? ⟨b', off' + k, none⟩ = some (.slice qk mk dk) ∧ (convert 39 9 (.slice qk mk dk)).run Try.prog w' = .ok (.string (strOf YK)) w')
            (first | exact HY.out _ (grown_trans GK.out (grown_drewN _ 1))) (fail)
          clear HY
          go_wp2
          go_roundw
          case rel => exact ⟨k + 1, by omega, by go_num, HE', grown_trans GK.out (grown_drewN _ 1)⟩
          case measure => simp [intOf]; omega
        · have hd : decide (X.getD k [] = Y.getD k []) = false := decide_eq_false he
          rw [hd] at hcmp
          have HNE : Hid (decide (X = Y) = false) := decide_eq_false fun e => he (by rw [e])
          clear he hd HE VX VY
          generalize X.getD k [] = XK at *
          generalize Y.getD k [] = YK at *
          go_wp2_with fail
          go_region_held3 (fun w' => w'.cell? ⟨b, off + k, none⟩ = some (.slice pk nk ck) ∧ (convert 39 9 (.slice pk nk ck)).run Try.prog w' = .ok (.string (strOf XK)) w' ∧
              w'.cell? ⟨b', off' + k, none⟩ = some (.slice qk mk dk) ∧ (convert 39 9 (.slice qk mk dk)).run Try.prog w' = .ok (.string (strOf YK)) w')
            (first | exact HY.out _ (grown_trans GK.out (grown_drewN _ 1))) (fail)
          clear HY
          go_wp2
          go_ret
          exact ⟨by rw [HNE.out]; rfl, grown_trans GK.out (grown_drewN _ 1)⟩
      · go_wp2
        go_ret
        have e : X = Y := list_ext (by have := HN.out; omega) (fun j hj => HE.out j (by have := HN.out; omega))
        exact ⟨by rw [decide_eq_true e]; rfl, GK.out⟩
  · have hb : ((N : Int) != (N' : Int)) = true := by simp; omega
    have HNE : Hid (decide (X = Y) = false) := decide_eq_false fun e => h0 (by rw [e] at hs; omega)
    clear hN hN' hs hs' mr ms h0
    go_enter Try.func14, Try.ntmps14
    go_wp2
    go_ret
    exact ⟨by rw [HNE.out]; rfl, World.grownBy.refl _ _⟩

/-- The first k places told by f, the others as they were. -/
def mix (f : Nat → Nat) (xs : List Nat) (k : Nat) : List Nat := (List.range xs.length).map fun j => if j < k then f j else xs.getD j 0
theorem mix_len (f : Nat → Nat) (xs : List Nat) (k : Nat) : (mix f xs k).length = xs.length := by simp [mix]
theorem mix_get (f : Nat → Nat) (xs : List Nat) (k : Nat) (h : k < xs.length) : (mix f xs k).getD k 0 = xs.getD k 0 := by simp [mix, List.getD, h]
theorem mix_zero (f : Nat → Nat) (xs : List Nat) : mix f xs 0 = xs := by
  apply List.ext_getElem
  · simp [mix]
  · intro i h1 h2
    simp [mix, List.getD, h2]
theorem mix_set (f : Nat → Nat) (xs : List Nat) (k : Nat) : (mix f xs k).set k (f k) = mix f xs (k + 1) := by
  apply List.ext_getElem
  · simp [mix]
  · intro i h1 h2
    have hi : i < xs.length := by simpa [mix] using h2
    by_cases e : k = i
    · subst e; simp [mix]
    · by_cases l : i < k
      · simp [mix, e, l, show i < k + 1 from by omega]
      · simp [mix, e, l, show ¬ i < k + 1 from by omega]
theorem mix_all (f : Nat → Nat) (xs : List Nat) : mix f xs xs.length = (List.range xs.length).map f :=
  List.map_congr_left fun j hj => by simp [List.mem_range.1 hj]

set_option maxHeartbeats 1600000 in
theorem refScaleRow {B : Nat} {w : World} {d : Value} {xs : List Nat} {y : Nat} (h256 : y < 256) (hd : Own B w d xs) :
    Calls Try.prog 50 #[d, .int .u8 (y : Int)] w fun e w' => e = .returned (.tuple #[]) ∧ Own B w' d ((List.range xs.length).map fun j => M.mul (xs.getD j 0) y) ∧ w.grownBy w' d.ownBlock := by
  obtain ⟨p, n, cp, rfl, hn⟩ := hd.vec.opened
  have hnl : n ≤ 140737488351232 := by rw [hn]; exact hd.len
  have HN : Hid (n = xs.length) := hn
  have HXS : Hid (∀ x ∈ xs, x < 256) := hd.small
  clear hn
  go_enter Try.func50, Try.ntmps50
  go_wp2_with fail
  go_loopw [4] (fun ti wr => ∃ k : Nat, k ≤ n ∧ ti = .int .i64 k ∧ Own B wr (.slice p n cp) (mix (fun j => M.mul (xs.getD j 0) y) xs k) ∧ Hid (w.grownBy wr (Value.slice p n cp).ownBlock)) (fun ti _ => n - (intOf ti).toNat)
  case atStart => exact ⟨0, by omega, rfl, by rw [mix_zero]; exact hd, World.grownBy.refl _ _⟩
  case round =>
    clear hd
    obtain ⟨k, hk, rfl, ok, GK⟩ := hrel
    by_cases hlt : k < n
    · have hkx : k < xs.length := by have := HN.out; omega
      obtain ⟨g, rfl, hnn, hc, hf, h1, hset, hgrow⟩ := ok.spot (k := k) (by rw [mix_len]; exact hkx)
      rw [mix_get _ _ _ hkx] at hc h1
      have hm : M.mul (xs.getD k 0) y < 256 := M.mul_lt _ h1
      have HS : Hid _ := hset _ hm
      have HG : Hid _ := hgrow (.int .u8 ((M.mul (xs.getD k 0) y : Nat) : Int))
      have HM : Hid ((mix (fun j => M.mul (xs.getD j 0) y) xs k).set k (M.mul (xs.getD k 0) y) = mix (fun j => M.mul (xs.getD j 0) y) xs (k + 1)) := mix_set _ _ _
      clear hset hgrow ok hkx hnn
      generalize mix (fun j => M.mul (xs.getD j 0) y) xs k = L at *
      generalize xs.getD k 0 = x at *
      have i1 : (k : Int) < (n : Int) := by omega
      have i3 : (0 : Int) ≤ (k : Int) := by omega
      go_wp2_with (go_at_call 32; refine (refMul_any _ _ _ (by omega) (by omega) (by omega) (by omega)).mono ?_; rintro e w1 ⟨rfl, hw⟩; obtain rfl := hw.symm; clear hw)
      go_roundw
      case rel => exact ⟨k + 1, by omega, by go_num, by rw [← HM.out]; exact HS.out, grown_trans GK.out HG.out⟩
      case measure => simp [intOf]; omega
    · go_wp2
      go_end0
      have hkn : k = xs.length := by have := HN.out; omega
      exact ⟨rfl, by rw [← mix_all, ← hkn]; exact ok, GK.out⟩

set_option maxHeartbeats 3200000 in
theorem refStrikeRow {B : Nat} {w : World} {d s : Value} {xs ys : List Nat} {y : Nat} (h256 : y < 256) (hd : Own B w d xs) (hs : Vec w s ys) (hl : ys.length = xs.length) (ap : s.ownBlock = none ∨ s.ownBlock ≠ d.ownBlock) :
    Calls Try.prog 49 #[d, s, .int .u8 (y : Int)] w fun e w' => e = .returned (.tuple #[]) ∧ Own B w' d ((List.range xs.length).map fun j => xs.getD j 0 ^^^ M.mul (ys.getD j 0) y) ∧ w.grownBy w' d.ownBlock := by
  obtain ⟨p, n, cp, rfl, hn⟩ := hd.vec.opened
  obtain ⟨q, n', cp', rfl, hn'⟩ := hs.opened
  have hnl : n ≤ 140737488351232 := by rw [hn]; exact hd.len
  have HN : Hid (n = xs.length ∧ n' = ys.length ∧ ys.length = xs.length) := ⟨hn, hn', hl⟩
  have HV : Hid (∀ w', w.grownBy w' (Value.slice p n cp).ownBlock → Vec w' (.slice q n' cp') ys) := fun w' g => hs.kept g ap
  clear hn hn' hl
  go_enter Try.func49, Try.ntmps49
  go_wp2_with fail
  go_loopw [6] (fun ti wr => ∃ k : Nat, k ≤ n ∧ ti = .int .i64 k ∧ Own B wr (.slice p n cp) (mix (fun j => xs.getD j 0 ^^^ M.mul (ys.getD j 0) y) xs k) ∧ Hid (w.grownBy wr (Value.slice p n cp).ownBlock)) (fun ti _ => n - (intOf ti).toNat)
  case atStart => exact ⟨0, by omega, rfl, by rw [mix_zero]; exact hd, World.grownBy.refl _ _⟩
  case round =>
    clear hd hs
    obtain ⟨k, hk, rfl, ok, GK⟩ := hrel
    by_cases hlt : k < n
    · have hkx : k < xs.length := by have := HN.out; omega
      obtain ⟨b, off, rfl, hcs, h2⟩ := (HV.out _ GK.out).spot (k := k) (by have := HN.out; omega)
      obtain ⟨g, rfl, hnn, hc, hf, h1, hset, hgrow⟩ := ok.spot (k := k) (by rw [mix_len]; exact hkx)
      rw [mix_get _ _ _ hkx] at hc h1
      have hm : M.mul (ys.getD k 0) y < 256 := M.mul_lt _ h2
      have hx := M.xor_lt h1 hm
      have hxe := u8_xor_nat (xs.getD k 0) (M.mul (ys.getD k 0) y) h1 hm
      have HS : Hid _ := hset _ hx
      have HG : Hid _ := hgrow (.int .u8 ((xs.getD k 0 ^^^ M.mul (ys.getD k 0) y : Nat) : Int))
      have HM : Hid ((mix (fun j => xs.getD j 0 ^^^ M.mul (ys.getD j 0) y) xs k).set k (xs.getD k 0 ^^^ M.mul (ys.getD k 0) y) = mix (fun j => xs.getD j 0 ^^^ M.mul (ys.getD j 0) y) xs (k + 1)) := mix_set _ _ _
      have i2 : (k : Int) < (n' : Int) := by have := HN.out; omega
      clear hset hgrow ok hkx hnn
      generalize mix (fun j => xs.getD j 0 ^^^ M.mul (ys.getD j 0) y) xs k = L at *
      generalize xs.getD k 0 = x at *
      generalize ys.getD k 0 = z at *
      generalize x ^^^ M.mul z y = r at *
      have i1 : (k : Int) < (n : Int) := by omega
      have i3 : (0 : Int) ≤ (k : Int) := by omega
      go_wp2_with fail
      go_region_with (first | (go_at_call 32; refine (refMul_any _ _ _ (by omega) (by omega) (by omega) (by omega)).mono ?_; rintro e w1 ⟨rfl, hw⟩; obtain rfl := hw.symm; clear hw))
      all_goals
        go_wp2
        go_roundw
        case rel => exact ⟨k + 1, by omega, by go_num, by rw [← HM.out]; exact HS.out.keep (grown_drewN _ 1), grown_trans (grown_trans GK.out HG.out) (grown_any (grown_drewN _ 1) _)⟩
        case measure => simp [intOf]; omega
    · go_wp2
      go_end0
      have hkn : k = xs.length := by have := HN.out; omega
      exact ⟨rfl, by rw [← mix_all, ← hkn]; exact ok, GK.out⟩

set_option maxHeartbeats 3200000 in
theorem refCopy_any {w : World} {r : Value} {vs : List Value} {X : List (List Nat)} (mr : Mat w r vs X) :
    Calls Try.prog 16 #[r] w fun e w' => ∃ v us, e = .returned v ∧ OwnMat w.heap.size w' v us X ∧ w.grownBy w' none := by
  obtain ⟨q, N, cap, rfl, hN⟩ := mr.row.opened
  have hNl : N * 24 ≤ 140737488351232 := by rw [hN]; exact mr.row.len
  have MR : Hid (Mat w (.slice q N cap) vs X) := mr
  have HN : Hid (N = vs.length ∧ N = X.length) := ⟨hN, by have := mr.same; omega⟩
  clear mr hN
  go_enter Try.func16, Try.ntmps16
  go_wp2_with fail
  go_loopw [3, 4] (fun tv ti wr => ∃ (k : Nat) (us : List Value), k ≤ N ∧ ti = .int .i64 k ∧ Hid (us.length = k) ∧ Hid (OwnMat w.heap.size wr tv us (X.take k)) ∧ Hid (w.grownBy wr none)) (fun _ ti _ => N - (intOf ti).toNat)
  case atStart => exact ⟨0, [], by omega, rfl, rfl, OwnMat.nil _ _, World.grownBy.refl _ _⟩
  case round =>
    obtain ⟨k, us, hk, rfl, HU, OM, GK⟩ := hrel
    by_cases hlt : k < N
    · obtain ⟨b, off, rfl, hr0⟩ := MR.out.row.spot (k := k) (by have := HN.out; omega)
      obtain ⟨pk, nk, ck, ek, hnk⟩ := (MR.out.vec k (by have := HN.out; omega)).opened
      have VK : Hid (Vec w (.slice pk nk ck) (X.getD k [])) := by rw [← ek]; exact MR.out.vec k (by have := HN.out; omega)
      rw [ek] at hr0
      have hr := GK.out.cell hr0 (by simp)
      have hkX : k < X.length := by have := HN.out; omega
      have ht0 : X.take k ++ [X.getD k []] = X.take (k + 1) := by
        rw [List.take_succ_eq_append_getElem hkX]
        simp [List.getD, hkX]
      have HT : Hid (X.take k ++ [X.getD k []] = X.take (k + 1)) := ht0
      clear hkX ht0
      have HL : Hid ((X.getD k []).length ≤ 140737488351232) := VK.out.len
      clear ek hnk hr0
      generalize X.take k = XT at *
      generalize X.getD k [] = Y at *
      have i1 : (k : Int) < (N : Int) := by omega
      have i3 : (0 : Int) ≤ (k : Int) := by omega
      have HB : Hid (w.heap.size ≤ wr.heap.size) := GK.out.size
      go_wp2_with (first
        | (at_builtin; refine wpList_append_vec rfl _ _ rfl _ _ rfl rfl (Own.nil wr.heap.size wr) (VK.out.keep GK.out) (Nat.le_refl _) (by simpa using HL.out) ?_; intro u w1 ou g1; obtain ⟨pu, nu, cu, rfl, hnu⟩ := ou.vec.opened; have OU : Hid (Own wr.heap.size w1 (.slice pu nu cu) ([] ++ Y)) := ou; have G1 : Hid (wr.grownBy w1 none) := g1; clear ou g1 hnu hr)
        | (at_builtin; refine wpList_append_out rfl _ _ rfl u3 ⟨w1.heap.size, 0, none⟩ rfl rfl (B := w.heap.size) (us := us) (u := .slice pu nu cu) ((OM.out.keep (grown_trans G1.out (World.grownBy_alloc _ _ none))).out) (by simp) rfl (by have h1 := HB.out; have h2 := G1.out.size; simp; omega) (by have := HU.out; omega) ?_; intro v' w2 oo gg at2; have HO : Hid _ := oo; have HG : Hid _ := gg; clear oo gg at2))
      have R : Hid (OwnMat w.heap.size w2 v' (us ++ [.slice pu nu cu]) (X.take (k + 1)) ∧ w.grownBy w2 none) := by
        rw [← HT.out]
        refine ⟨(OM.out.keep (grown_trans G1.out (World.grownBy_alloc _ _ none))).more ((OU.out.down HB.out).keep (World.grownBy_alloc _ _ none)) (by have := HU.out; omega) (by simpa using HO.out.row) HG.out, ?_⟩
        exact grown_new (grown_trans GK.out (grown_trans G1.out (World.grownBy_alloc _ _ none))) HG.out OM.out.lo
      clear HO HG OM OU G1 HT VK HB
      go_roundw
      case rel => exact ⟨k + 1, us ++ [Value.slice pu nu cu], by omega, by go_num, show _ = _ by simpa using HU.out, R.out.1, R.out.2⟩
      case measure => simp [intOf]; omega
    · have hkN : N = k := by omega
      subst hkN
      have HX : X.take N = X := by rw [List.take_of_length_le]; have := HN.out; omega
      go_wp2
      go_ret
      exact ⟨_, us, rfl, by have h := OM.out; rw [HX] at h; exact h, GK.out⟩
end Go.Proofs.Ytdeajclghlbhcaa
