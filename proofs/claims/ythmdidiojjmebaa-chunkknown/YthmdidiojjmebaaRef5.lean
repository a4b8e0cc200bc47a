/- The document's Put and Take (hayrickref05). -/
import Derived.Test.YthmdidiojjmebaaPut5
namespace Go.Proofs.Ythmdidiojjmebaa
open Go.RowKit

theorem refPut_long {w : World} {n : Nat} {v : Value} {ld : List Nat} (hv : Vec w v ld) (hl : 56 < ld.length) :
    Calls Try.prog 16 #[.int .u64 (n : Int), v] w fun e w' => e = .returned (.tuple #[.slice none 0 0, .int .i64 3]) ∧ w' = w := by
  obtain ⟨q, N, cap, rfl, hN⟩ := hv.opened
  have i1 : (56 : Int) < (N : Int) := by omega
  clear hv hN
  go_enter Try.func16, Try.ntmps16
  go_wp2
  go_ret2
  exact ⟨rfl, rfl⟩

/-- The sector with the first k bytes of the load. -/
def fillTo (n : Nat) (ld : List Nat) (k : Nat) : List Nat := SM.mk n ++ (ld.take k ++ SM.z (56 - k))
theorem fillTo_zero (n : Nat) (ld : List Nat) : fillTo n ld 0 = SM.mk n ++ SM.z 56 := by simp [fillTo]
theorem fillTo_all (n : Nat) (ld : List Nat) : fillTo n ld ld.length = SM.sec n ld := by simp [fillTo, SM.sec]
theorem fillTo_len {n : Nat} {ld : List Nat} {k : Nat} (h : k ≤ ld.length) (hl : ld.length ≤ 56) : (fillTo n ld k).length = 64 := by
  simp [fillTo, SM.mk_len, SM.z_len]; omega
theorem set_app (xs ys : List Nat) (k z : Nat) : (xs ++ ys).set (xs.length + k) z = xs ++ ys.set k z := by
  rw [List.set_append_right _ _ (by omega)]
  simp
theorem fillTo_set {n : Nat} {ld : List Nat} {k : Nat} (h : k < ld.length) (hl : ld.length ≤ 56) : (fillTo n ld k).set (8 + k) (ld.getD k 0) = fillTo n ld (k + 1) := by
  have e8 : 8 + k = (SM.mk n).length + k := by rw [SM.mk_len]
  have ek : k = (ld.take k).length + 0 := by simp; omega
  have e2 : (ld.take k ++ SM.z (56 - k)).set k (ld.getD k 0) = ld.take (k + 1) ++ SM.z (56 - (k + 1)) := by
    have h1 := set_app (ld.take k) (SM.z (56 - k)) 0 (ld.getD k 0)
    rw [← ek] at h1
    rw [h1]
    have e3 : (SM.z (56 - k)).set 0 (ld.getD k 0) = ld.getD k 0 :: SM.z (56 - (k + 1)) := by
      have : 56 - k = (56 - (k + 1)) + 1 := by omega
      rw [this]
      rfl
    have e4 : ld[k] = ld.getD k 0 := by simp [List.getD, h]
    rw [e3, List.take_succ_eq_append_getElem h, e4, List.append_assoc]
    rfl
  unfold fillTo
  rw [e8, set_app, e2]

theorem markFill_set (n j : Nat) (h : j < 8) : (markTo n j ++ SM.z 56).set (7 - j) (n / 256 ^ j % 256) = markTo n (j + 1) ++ SM.z 56 := by
  rw [List.set_append_left _ _ (by rw [markTo_len]; omega), markTo_set n j h]

set_option maxHeartbeats 1600000 in
theorem refPut_yes {w : World} {n : Nat} {v : Value} {ld : List Nat} (hn : n < 18446744073709551616) (hv : Vec w v ld) (hl : ld.length ≤ 56) :
    Calls Try.prog 16 #[.int .u64 (n : Int), v] w fun e w' => ∃ p, e = .returned (.tuple #[.slice p 64 64, .int .i64 0]) ∧ Own w.heap.size w' (.slice p 64 64) (SM.sec n ld) ∧ w.grownBy w' none := by
  obtain ⟨q, N, cap, rfl, hN⟩ := hv.opened
  have i1 : ¬ (56 : Int) < (N : Int) := by omega
  have HN : Hid (N = ld.length) := hN
  have HV : Hid (∀ w', w.grownBy w' none → Vec w' (.slice q N cap) ld) := fun w' g => hv.keep g
  have hN56 : N ≤ 56 := by omega
  clear hv hN
  go_enter Try.func16, Try.ntmps16
  go_wp2_with (at_make; refine wpList_make_vec rfl _ _ rfl 64 rfl rfl (by decide) ?_; intro w1 p ou g1; have OU : Hid (Own w.heap.size w1 (.slice p 64 64) (SM.z 64)) := ou; have G1 : Hid (w.grownBy w1 none) := g1; clear ou g1)
  go_loopw [0, 7] (fun ts ti wr => ∃ j : Nat, j ≤ 8 ∧ ts = .int .u64 ((n / 256 ^ j : Nat) : Int) ∧ ti = .int .i64 (7 - (j : Int)) ∧ Hid (Own w.heap.size wr (.slice p 64 64) (markTo n j ++ SM.z 56)) ∧ Hid (w.grownBy wr none)) (fun _ ti _ => (intOf ti + 1).toNat)
  case atStart => exact ⟨0, by omega, by simp, by simp, by rw [markTo_zero]; exact OU, G1⟩
  case round =>
    clear OU G1
    obtain ⟨j, hj, rfl, rfl, OK, GK⟩ := hrel
    by_cases hlt : j < 8
    · have i2 : (j : Int) < 8 := by omega
      obtain ⟨g, rfl, hz, hc, hf, h1, hset, hgr⟩ := OK.out.spot (k := 7 - j) (by rw [List.length_append, markTo_len, SM.z_len]; omega)
      clear hz
      have HS : Hid (Own w.heap.size (wr.setCell ⟨g, 7 - j, none⟩ (.int .u8 ((n / 256 ^ j % 256 : Nat) : Int))) (.slice (some ⟨g, 0, none⟩) 64 64) (markTo n (j + 1) ++ SM.z 56)) := by
        have h := hset (n / 256 ^ j % 256) (Nat.mod_lt _ (by decide))
        rw [markFill_set n j hlt] at h
        exact h
      have HG : Hid (w.grownBy (wr.setCell ⟨g, 7 - j, none⟩ (.int .u8 ((n / 256 ^ j % 256 : Nat) : Int))) none) := grown_new GK.out (hgr _) (fun r e => OK.out.lo r e)
      have HD : Hid (n / 256 ^ j / 256 = n / 256 ^ (j + 1)) := by show _ = _; rw [Nat.div_div_eq_div_mul, Nat.pow_succ]
      have hx : n / 256 ^ j < 18446744073709551616 := Nat.lt_of_le_of_lt (Nat.div_le_self _ _) hn
      clear hset hgr OK GK h1
      generalize (markTo n j ++ SM.z 56).getD (7 - j) 0 = y at *
      generalize n / 256 ^ j = x at *
      rw [Int.natCast_emod] at HS HG
      go_wp2
      go_roundw
      case rel => exact ⟨j + 1, by omega, by rw [← HD.out]; go_num, by go_num, HS, HG⟩
      case measure => simp [intOf]; omega
    · have i2 : ¬ (j : Int) < 8 := by omega
      have HM : Hid (Own w.heap.size wr (.slice p 64 64) (fillTo n ld 0)) := by
        have e : j = 8 := by omega
        rw [fillTo_zero, ← markTo_all, ← e]; exact OK
      have i3 : ¬ (0 : Int) ≤ 7 - (j : Int) := by omega
      clear OK
      obtain ⟨wa, hwa⟩ : ∃ wa, wa = wr := ⟨wr, rfl⟩
      subst hwa
      go_wp2
      go_loopw [8] (fun ti wr => ∃ k : Nat, k ≤ N ∧ ti = .int .i64 (k : Int) ∧ Hid (Own w.heap.size wr (.slice p 64 64) (fillTo n ld k)) ∧ Hid (w.grownBy wr none)) (fun ti _ => N - (intOf ti).toNat)
      case atStart => exact ⟨0, by omega, by simp, HM, GK⟩
      case round =>
        clear HM GK
        obtain ⟨k, hk, rfl, OK, GK⟩ := hrel
        by_cases hlt2 : k < N
        · have j1 : (k : Int) < (N : Int) := by omega
          have hkl : k < ld.length := by have := HN.out; omega
          obtain ⟨b, off, rfl, hcl, hl256⟩ := (HV.out _ GK.out).spot (k := k) hkl
          obtain ⟨g, rfl, hz, hc, hf, h1, hset, hgr⟩ := OK.out.spot (k := 8 + k) (by rw [fillTo_len (by omega) hl]; omega)
          clear hz
          have HS : Hid (Own w.heap.size (wr.setCell ⟨g, 8 + k, none⟩ (.int .u8 ((ld.getD k 0 : Nat) : Int))) (.slice (some ⟨g, 0, none⟩) 64 64) (fillTo n ld (k + 1))) := by
            have h := hset (ld.getD k 0) hl256
            rw [fillTo_set hkl hl] at h
            exact h
          have HG : Hid (w.grownBy (wr.setCell ⟨g, 8 + k, none⟩ (.int .u8 ((ld.getD k 0 : Nat) : Int))) none) := grown_new GK.out (hgr _) (fun r e => OK.out.lo r e)
          clear hset hgr OK GK h1
          generalize (fillTo n ld k).getD (8 + k) 0 = y at *
          generalize ld.getD k 0 = x at *
          go_wp2
          go_roundw
          case rel => exact ⟨k + 1, by omega, by go_num, HS, HG⟩
          case measure => simp [intOf]; omega
        · have j1 : ¬ (k : Int) < (N : Int) := by omega
          have HM : Hid (Own w.heap.size wr (.slice p 64 64) (SM.sec n ld)) := by
            have e : k = ld.length := by have := HN.out; omega
            rw [← fillTo_all, ← e]; exact OK
          clear OK
          go_wp2
          go_ret2
          exact ⟨p, rfl, HM.out, GK.out⟩

theorem refTake_short {w : World} {v : Value} {xs : List Nat} (hv : Vec w v xs) (hl : xs.length < 64) :
    Calls Try.prog 19 #[v] w fun e w' => e = .returned (.tuple #[.int .u64 0, .slice none 0 0, .int .i64 4]) ∧ w' = w := by
  obtain ⟨q, N, cap, rfl, hN⟩ := hv.opened
  have i1 : (N : Int) < 64 := by omega
  clear hv hN
  go_enter Try.func19, Try.ntmps19
  go_wp2
  go_ret3
  exact ⟨rfl, rfl⟩
theorem refTake_long {w : World} {v : Value} {xs : List Nat} (hv : Vec w v xs) (hl : 64 < xs.length) :
    Calls Try.prog 19 #[v] w fun e w' => e = .returned (.tuple #[.int .u64 0, .slice none 0 0, .int .i64 3]) ∧ w' = w := by
  obtain ⟨q, N, cap, rfl, hN⟩ := hv.opened
  have i1 : (64 : Int) < (N : Int) := by omega
  clear hv hN
  go_enter Try.func19, Try.ntmps19
  go_wp2
  go_ret3
  exact ⟨rfl, rfl⟩

set_option maxHeartbeats 800000 in
theorem refTake_yes {w : World} {v : Value} {xs : List Nat} (hv : Vec w v xs) (hl : xs.length = 64) :
    Calls Try.prog 19 #[v] w fun e w' => ∃ u, e = .returned (.tuple #[.int .u64 ((SM.val xs 8 : Nat) : Int), u, .int .i64 0]) ∧ Own w.heap.size w' u (xs.drop 8) ∧ w.grownBy w' none := by
  obtain ⟨q, N, cap, rfl, hN⟩ := hv.opened
  obtain rfl : N = 64 := by omega
  obtain ⟨b, off, rfl, _⟩ := hv.spot (k := 0) (by omega)
  have hcap : 64 ≤ cap := by
    obtain ⟨p', cap', e, h3, _⟩ := hv.form
    injection e with e1 e2 e3
    omega
  have hcm : cap ≤ maxLen := by
    obtain ⟨p', cap', e, _, h4, _⟩ := hv.form
    injection e with e1 e2 e3
    omega
  have HV : Hid (Vec w (.slice (some ⟨b, off, none⟩) 64 cap) xs) := hv
  have HT : Hid (Vec w (.slice (some ⟨b, off + 8, none⟩) 56 (cap - 8)) (xs.drop 8)) := hv.tail (by omega)
  have HS : Hid (∀ x ∈ xs, x < 256) := hv.small
  clear hv hN
  unfold maxLen at hcm
  go_enter Try.func19, Try.ntmps19
  go_wp2
  go_loop [5, 6] (fun ts ti => ∃ k : Nat, k ≤ 8 ∧ ti = .int .i64 k ∧ ts = .int .u64 ((SM.val xs k : Nat) : Int)) (fun _ ti => 8 - (intOf ti).toNat)
  case atStart => exact ⟨0, by omega, rfl, rfl⟩
  case round =>
    obtain ⟨k, hk, rfl, rfl⟩ := hrel
    by_cases hlt : k < 8
    · have i1 : (k : Int) < 8 := by omega
      obtain ⟨b', off', e, hc, h256⟩ := HV.out.spot (k := k) (by omega)
      injection e with e
      injection e with e1 e2
      subst e1
      subst e2
      have h7 : SM.val xs k < 72057594037927936 := by
        have h1 := SM.val_lt HS.out k
        have h2 : 256 ^ k ≤ 256 ^ 7 := Nat.pow_le_pow_right (by decide) (by omega)
        have h3 : 256 ^ 7 = 72057594037927936 := by decide
        omega
      have HOR : Hid (256 * ((SM.val xs k : Nat) : Int) + ((xs.getD k 0 : Nat) : Int) = ((SM.val xs (k + 1) : Nat) : Int)) := by
        show _ = (((256 * SM.val xs k + xs.getD k 0) : Nat) : Int)
        simp
      generalize xs.getD k 0 = y at *
      go_wp2
      go_round
      case rel => exact ⟨k + 1, by omega, by go_num, by rw [← HOR.out]⟩
      case measure => simp [intOf]; omega
    · have i1 : ¬ (k : Int) < 8 := by omega
      have HE : Hid (SM.val xs k = SM.val xs 8) := by
        have e : k = 8 := by omega
        show _ = _
        rw [e]
      go_wp2_with (at_builtin; refine wpList_append_vec rfl _ _ rfl _ _ rfl rfl (Own.nil w.heap.size w) HT.out (Nat.le_refl _) (by rw [List.length_drop, hl]; decide) ?_; intro u w1 ho hg)
      go_ret3
      exact ⟨_, by rw [HE.out]; rfl, ho, hg⟩
end Go.Proofs.Ythmdidiojjmebaa
