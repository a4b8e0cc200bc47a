/- The document's Rune: the rune at a text's head, its width, whether its first byte is a stray one. -/
import Derived.Test.YtfflpmcflpbopaaDoorDcd
set_option linter.unusedVariables false
namespace Go.Proofs.YtfflpmcflpbopaaDoor
open Go.RowKit

theorem rune_stray {l : List Nat} (h : R.dec l = (65533, 1)) : R.rn l = 65533 ∧ R.wd l = 1 ∧ R.bad l = true := by
  have h1 : R.rn l = 65533 := by unfold R.rn; rw [h]
  have h2 : R.wd l = 1 := by unfold R.wd; rw [h]
  exact ⟨h1, h2, by unfold R.bad; rw [h1, h2]; rfl⟩
theorem rune_of {l : List Nat} {a k : Nat} (h : R.dec l = (a, k)) (hk : a < 65533 ∨ 1 < k) : R.rn l = a ∧ R.wd l = k ∧ R.bad l = false := by
  have h1 : R.rn l = a := by unfold R.rn; rw [h]
  have h2 : R.wd l = k := by unfold R.wd; rw [h]
  exact ⟨h1, h2, by unfold R.bad; rw [h1, h2]; simp only [decide_eq_false_iff_not]; omega⟩
section
set_option maxRecDepth 100000
set_option maxHeartbeats 4000000
theorem d_out (n b0 b1 b2 b3 : Nat) (h : (128 ≤ b0 ∧ b0 < 192) ∨ 248 ≤ b0) (h0 : b0 < 256) : Lib.decodeN n b0 b1 b2 b3 = (65533, 1) := by
  unfold Lib.decodeN
  rw [if_neg (by omega), if_neg (by omega), if_neg (by omega), if_neg (by omega)]
theorem d2_bad (n b0 b1 b2 b3 : Nat) (h : 192 ≤ b0 ∧ b0 < 224) (hb : n < 2 ∨ ¬ (128 ≤ b1 ∧ b1 ≤ 191) ∨ (b0 - 192) * 64 + (b1 - 128) < 128) (h1 : b1 < 256) : Lib.decodeN n b0 b1 b2 b3 = (65533, 1) := by
  unfold Lib.decodeN
  rw [if_neg (by omega)]
  split
  · rw [if_neg (by omega)]
  · rw [if_neg (by omega), if_neg (by omega)]
theorem d2_ok (n b0 b1 b2 b3 r : Nat) (h : 192 ≤ b0 ∧ b0 < 224) (hn : 2 ≤ n) (h1 : 128 ≤ b1 ∧ b1 ≤ 191) (hr : r = (b0 - 192) * 64 + (b1 - 128)) (hl : 128 ≤ r) : Lib.decodeN n b0 b1 b2 b3 = (r, 2) := by
  unfold Lib.decodeN
  rw [if_neg (by omega), if_pos (by omega), if_pos (by omega)]
  exact Prod.ext (by simp only; omega) rfl
theorem d3_bad (n b0 b1 b2 b3 : Nat) (h : 224 ≤ b0 ∧ b0 < 240) (hb : n < 3 ∨ ¬ (128 ≤ b1 ∧ b1 ≤ 191) ∨ ¬ (128 ≤ b2 ∧ b2 ≤ 191) ∨ (b0 - 224) * 4096 + (b1 - 128) * 64 + (b2 - 128) < 2048 ∨ (55296 ≤ (b0 - 224) * 4096 + (b1 - 128) * 64 + (b2 - 128) ∧ (b0 - 224) * 4096 + (b1 - 128) * 64 + (b2 - 128) < 57344) ∨ 1114111 < (b0 - 224) * 4096 + (b1 - 128) * 64 + (b2 - 128)) (h1 : b1 < 256) (h2 : b2 < 256) : Lib.decodeN n b0 b1 b2 b3 = (65533, 1) := by
  unfold Lib.decodeN
  rw [if_neg (by omega), if_neg (by omega)]
  split
  · rw [if_neg (by omega)]
  · rw [if_neg (by omega)]
theorem d3_ok (n b0 b1 b2 b3 r : Nat) (h : 224 ≤ b0 ∧ b0 < 240) (hn : 3 ≤ n) (h1 : 128 ≤ b1 ∧ b1 ≤ 191) (h2 : 128 ≤ b2 ∧ b2 ≤ 191) (hr : r = (b0 - 224) * 4096 + (b1 - 128) * 64 + (b2 - 128)) (hl : 2048 ≤ r) (hs : ¬ (55296 ≤ r ∧ r < 57344)) (hm : r ≤ 1114111) : Lib.decodeN n b0 b1 b2 b3 = (r, 3) := by
  unfold Lib.decodeN
  rw [if_neg (by omega), if_neg (by omega), if_pos (by omega), if_pos (by omega)]
  exact Prod.ext (by simp only; omega) rfl
theorem d4_bad (n b0 b1 b2 b3 : Nat) (h : 240 ≤ b0 ∧ b0 < 248) (hb : n < 4 ∨ ¬ (128 ≤ b1 ∧ b1 ≤ 191) ∨ ¬ (128 ≤ b2 ∧ b2 ≤ 191) ∨ ¬ (128 ≤ b3 ∧ b3 ≤ 191) ∨ (b0 - 240) * 262144 + (b1 - 128) * 4096 + (b2 - 128) * 64 + (b3 - 128) < 65536 ∨ (55296 ≤ (b0 - 240) * 262144 + (b1 - 128) * 4096 + (b2 - 128) * 64 + (b3 - 128) ∧ (b0 - 240) * 262144 + (b1 - 128) * 4096 + (b2 - 128) * 64 + (b3 - 128) < 57344) ∨ 1114111 < (b0 - 240) * 262144 + (b1 - 128) * 4096 + (b2 - 128) * 64 + (b3 - 128)) (h1 : b1 < 256) (h2 : b2 < 256) (h3 : b3 < 256) : Lib.decodeN n b0 b1 b2 b3 = (65533, 1) := by
  unfold Lib.decodeN
  rw [if_neg (by omega), if_neg (by omega), if_neg (by omega)]
  split
  · rw [if_neg (by omega)]
  · rfl
theorem d4_ok (n b0 b1 b2 b3 r : Nat) (h : 240 ≤ b0 ∧ b0 < 248) (hn : 4 ≤ n) (h1 : 128 ≤ b1 ∧ b1 ≤ 191) (h2 : 128 ≤ b2 ∧ b2 ≤ 191) (h3 : 128 ≤ b3 ∧ b3 ≤ 191) (hr : r = (b0 - 240) * 262144 + (b1 - 128) * 4096 + (b2 - 128) * 64 + (b3 - 128)) (hl : 65536 ≤ r) (hs : ¬ (55296 ≤ r ∧ r < 57344)) (hm : r ≤ 1114111) : Lib.decodeN n b0 b1 b2 b3 = (r, 4) := by
  unfold Lib.decodeN
  rw [if_neg (by omega), if_neg (by omega), if_neg (by omega), if_pos (by omega), if_pos (by omega)]
  exact Prod.ext (by simp only; omega) rfl
end

set_option maxHeartbeats 4000000 in
set_option maxRecDepth 1000000 in
theorem rune2 (s : ByteArray) (w : World) (A K : Nat) (B : Bool) (hA : R.rn (bs s) = A) (hK : R.wd (bs s) = K) (hB : R.bad (bs s) = B) (h0 : s.size ≠ 0) (x0 x1 x2 x3 : UInt8) (hx0 : s.get! 0 = x0) (hx1 : s.get! 1 = x1) (hx2 : s.get! 2 = x2) (hx3 : s.get! 3 = x3)
    (hdec : R.dec (bs s) = Lib.decodeN s.size x0.toNat x1.toNat x2.toNat x3.toNat) (hc : 192 ≤ x0.toNat ∧ x0.toNat < 224) :
    Calls Tryd.prog 24 #[.string s] w fun e w' => e = .returned (.tuple #[.int .i32 (A : Int), .int .i64 (K : Int), .bool B]) ∧ w' = w := by
  have hz0 : (0 : Int) < (s.size : Int) := by omega
  have hs0 : s[0]'(by omega) = x0 := by rw [← hx0]; exact (get!_lt s 0 (by omega)).symm
  have l1 := x1.toNat_lt; have l2 := x2.toNat_lt; have l3 := x3.toNat_lt
  have c1 : ¬ (x0.toNat : Int) < 128 := by omega
  have f0 : (192 : Int) ≤ (x0.toNat : Int) := by omega
  have g0 : (x0.toNat : Int) < 224 := by omega
  by_cases hn : s.size < 2
  · have hnz : (s.size : Int) < 2 := by omega
    obtain ⟨e1, e2, e3⟩ := rune_stray (hdec.trans (d2_bad _ _ _ _ _ hc (.inl hn) (by omega)))
    obtain rfl := hA.symm.trans e1
    obtain rfl := hK.symm.trans e2
    obtain rfl := hB.symm.trans e3
    clear hA hK hB hdec hx0 hx1 hx2 hx3
    go_enter Tryd.func24, Tryd.ntmps24
    go_wp2
    go_ret3
    exact ⟨rfl, rfl⟩

  · have hnz : ¬ (s.size : Int) < 2 := by omega
    have hz1 : (1 : Int) < (s.size : Int) := by omega
    have hs1 : s[1]'(by omega) = x1 := by rw [← hx1]; exact (get!_lt s 1 (by omega)).symm
    clear hx0 hx1 hx2 hx3
    go_enter Tryd.func24, Tryd.ntmps24
    go_wp2
    go_loopw [8, 9] (fun u8 u9 wr => ∃ (i r : Int), wr = w ∧ u8 = .int .i64 r ∧ u9 = .int .i64 i ∧ ((i = 1 ∧ r = ((x0.toNat : Int) - 192)) ∨ (i = 2 ∧ (128 ≤ x1.toNat ∧ x1.toNat ≤ 191) ∧ r = (64 * ((x0.toNat : Int) - 192) + (x1.toNat : Int) - 128)))) (fun _ u9 _ => 2 - (intOf u9).toNat)
    case atStart => exact ⟨1, _, rfl, rfl, rfl, .inl ⟨rfl, rfl⟩⟩
    case round =>
      obtain ⟨i, r, rfl, rfl, rfl, hst⟩ := hrel
      rcases hst with ⟨rfl, hr⟩ | ⟨rfl, q1, hr⟩
      · have r0 : 0 ≤ r := by omega
        have r1 : r ≤ 2097151 := by omega
        by_cases k1 : x1.toNat < 128
        · have k1z : (x1.toNat : Int) < 128 := by omega
          obtain ⟨e1, e2, e3⟩ := rune_stray (hdec.trans (d2_bad _ _ _ _ _ hc (by omega) (by omega)))
          obtain rfl := hA.symm.trans e1
          obtain rfl := hK.symm.trans e2
          obtain rfl := hB.symm.trans e3
          clear hr
          go_wp2
          go_ret3
          exact ⟨rfl, rfl⟩
        have k1z : ¬ (x1.toNat : Int) < 128 := by omega
        by_cases k2 : 191 < x1.toNat
        · have k2z : (191 : Int) < (x1.toNat : Int) := by omega
          obtain ⟨e1, e2, e3⟩ := rune_stray (hdec.trans (d2_bad _ _ _ _ _ hc (by omega) (by omega)))
          obtain rfl := hA.symm.trans e1
          obtain rfl := hK.symm.trans e2
          obtain rfl := hB.symm.trans e3
          clear hr
          go_wp2
          go_ret3
          exact ⟨rfl, rfl⟩
        have k2z : ¬ (191 : Int) < (x1.toNat : Int) := by omega
        obtain ⟨t, ht⟩ : ∃ t : Int, t = 64 * r + (x1.toNat : Int) - 128 := ⟨_, rfl⟩
        have HT : Hid (t = (64 * ((x0.toNat : Int) - 192) + (x1.toNat : Int) - 128)) := by show _ = _; omega
        have ht' := ht.symm
        clear ht
        clear hr
        go_wp2
        go_roundw
        case rel => exact ⟨_, _, by first | trivial | rfl, by first | rfl | trivial, by first | go_num | rfl | trivial, .inr (⟨rfl, ⟨by omega, by omega⟩, HT.out⟩)⟩
        case measure => simp [intOf]
      · have r0 : 0 ≤ r := by omega
        have r1 : r ≤ 2097151 := by omega
        by_cases m1 : r < 128
        · obtain ⟨e1, e2, e3⟩ := rune_stray (hdec.trans (d2_bad _ _ _ _ _ hc (by omega) (by omega)))
          obtain rfl := hA.symm.trans e1
          obtain rfl := hK.symm.trans e2
          obtain rfl := hB.symm.trans e3
          clear hr
          go_wp2
          go_ret3
          exact ⟨rfl, rfl⟩
        by_cases m2 : (1114111 : Int) < r
        · obtain ⟨e1, e2, e3⟩ := rune_stray (hdec.trans (d2_bad _ _ _ _ _ hc (by omega) (by omega)))
          obtain rfl := hA.symm.trans e1
          obtain rfl := hK.symm.trans e2
          obtain rfl := hB.symm.trans e3
          clear hr
          go_wp2
          go_ret3
          exact ⟨rfl, rfl⟩
        by_cases m3 : (55296 : Int) ≤ r
        · by_cases m4 : r < 57344
          · obtain ⟨e1, e2, e3⟩ := rune_stray (hdec.trans (d2_bad _ _ _ _ _ hc (by omega) (by omega)))
            obtain rfl := hA.symm.trans e1
            obtain rfl := hK.symm.trans e2
            obtain rfl := hB.symm.trans e3
            clear hr
            go_wp2
            go_ret3
            exact ⟨rfl, rfl⟩
          obtain ⟨R0, hR0⟩ := Int.eq_ofNat_of_zero_le r0
          obtain ⟨e1, e2, e3⟩ := rune_of (hdec.trans (d2_ok _ _ _ _ _ R0 hc (by omega) q1 (by omega) (by omega))) (.inr (by decide))
          obtain rfl := hA.symm.trans e1
          obtain rfl := hK.symm.trans e2
          obtain rfl := hB.symm.trans e3
          clear hr
          subst hR0
          go_wp2
          go_ret3
          exact ⟨rfl, rfl⟩
        · obtain ⟨R0, hR0⟩ := Int.eq_ofNat_of_zero_le r0
          obtain ⟨e1, e2, e3⟩ := rune_of (hdec.trans (d2_ok _ _ _ _ _ R0 hc (by omega) q1 (by omega) (by omega))) (.inr (by decide))
          obtain rfl := hA.symm.trans e1
          obtain rfl := hK.symm.trans e2
          obtain rfl := hB.symm.trans e3
          clear hr
          subst hR0
          go_wp2
          go_ret3
          exact ⟨rfl, rfl⟩

set_option maxHeartbeats 4000000 in
set_option maxRecDepth 1000000 in
theorem rune3 (s : ByteArray) (w : World) (A K : Nat) (B : Bool) (hA : R.rn (bs s) = A) (hK : R.wd (bs s) = K) (hB : R.bad (bs s) = B) (h0 : s.size ≠ 0) (x0 x1 x2 x3 : UInt8) (hx0 : s.get! 0 = x0) (hx1 : s.get! 1 = x1) (hx2 : s.get! 2 = x2) (hx3 : s.get! 3 = x3)
    (hdec : R.dec (bs s) = Lib.decodeN s.size x0.toNat x1.toNat x2.toNat x3.toNat) (hc : 224 ≤ x0.toNat ∧ x0.toNat < 240) :
    Calls Tryd.prog 24 #[.string s] w fun e w' => e = .returned (.tuple #[.int .i32 (A : Int), .int .i64 (K : Int), .bool B]) ∧ w' = w := by
  have hz0 : (0 : Int) < (s.size : Int) := by omega
  have hs0 : s[0]'(by omega) = x0 := by rw [← hx0]; exact (get!_lt s 0 (by omega)).symm
  have l1 := x1.toNat_lt; have l2 := x2.toNat_lt; have l3 := x3.toNat_lt
  have c1 : ¬ (x0.toNat : Int) < 128 := by omega
  have f0 : (192 : Int) ≤ (x0.toNat : Int) := by omega
  have g0 : ¬ (x0.toNat : Int) < 224 := by omega
  have f1 : (224 : Int) ≤ (x0.toNat : Int) := by omega
  have g1 : (x0.toNat : Int) < 240 := by omega
  by_cases hn : s.size < 3
  · have hnz : (s.size : Int) < 3 := by omega
    obtain ⟨e1, e2, e3⟩ := rune_stray (hdec.trans (d3_bad _ _ _ _ _ hc (.inl hn) (by omega) (by omega)))
    obtain rfl := hA.symm.trans e1
    obtain rfl := hK.symm.trans e2
    obtain rfl := hB.symm.trans e3
    clear hA hK hB hdec hx0 hx1 hx2 hx3
    go_enter Tryd.func24, Tryd.ntmps24
    go_wp2
    go_ret3
    exact ⟨rfl, rfl⟩

  · have hnz : ¬ (s.size : Int) < 3 := by omega
    have hz1 : (1 : Int) < (s.size : Int) := by omega
    have hs1 : s[1]'(by omega) = x1 := by rw [← hx1]; exact (get!_lt s 1 (by omega)).symm
    have hz2 : (2 : Int) < (s.size : Int) := by omega
    have hs2 : s[2]'(by omega) = x2 := by rw [← hx2]; exact (get!_lt s 2 (by omega)).symm
    clear hx0 hx1 hx2 hx3
    go_enter Tryd.func24, Tryd.ntmps24
    go_wp2
    go_loopw [8, 9] (fun u8 u9 wr => ∃ (i r : Int), wr = w ∧ u8 = .int .i64 r ∧ u9 = .int .i64 i ∧ ((i = 1 ∧ r = ((x0.toNat : Int) - 224)) ∨ (i = 2 ∧ (128 ≤ x1.toNat ∧ x1.toNat ≤ 191) ∧ r = (64 * ((x0.toNat : Int) - 224) + (x1.toNat : Int) - 128)) ∨ (i = 3 ∧ (128 ≤ x1.toNat ∧ x1.toNat ≤ 191) ∧ (128 ≤ x2.toNat ∧ x2.toNat ≤ 191) ∧ r = (64 * (64 * ((x0.toNat : Int) - 224) + (x1.toNat : Int) - 128) + (x2.toNat : Int) - 128)))) (fun _ u9 _ => 3 - (intOf u9).toNat)
    case atStart => exact ⟨1, _, rfl, rfl, rfl, .inl ⟨rfl, rfl⟩⟩
    case round =>
      obtain ⟨i, r, rfl, rfl, rfl, hst⟩ := hrel
      rcases hst with ⟨rfl, hr⟩ | ⟨rfl, q1, hr⟩ | ⟨rfl, q1, q2, hr⟩
      · have r0 : 0 ≤ r := by omega
        have r1 : r ≤ 2097151 := by omega
        by_cases k1 : x1.toNat < 128
        · have k1z : (x1.toNat : Int) < 128 := by omega
          obtain ⟨e1, e2, e3⟩ := rune_stray (hdec.trans (d3_bad _ _ _ _ _ hc (by omega) (by omega) (by omega)))
          obtain rfl := hA.symm.trans e1
          obtain rfl := hK.symm.trans e2
          obtain rfl := hB.symm.trans e3
          clear hr
          go_wp2
          go_ret3
          exact ⟨rfl, rfl⟩
        have k1z : ¬ (x1.toNat : Int) < 128 := by omega
        by_cases k2 : 191 < x1.toNat
        · have k2z : (191 : Int) < (x1.toNat : Int) := by omega
          obtain ⟨e1, e2, e3⟩ := rune_stray (hdec.trans (d3_bad _ _ _ _ _ hc (by omega) (by omega) (by omega)))
          obtain rfl := hA.symm.trans e1
          obtain rfl := hK.symm.trans e2
          obtain rfl := hB.symm.trans e3
          clear hr
          go_wp2
          go_ret3
          exact ⟨rfl, rfl⟩
        have k2z : ¬ (191 : Int) < (x1.toNat : Int) := by omega
        obtain ⟨t, ht⟩ : ∃ t : Int, t = 64 * r + (x1.toNat : Int) - 128 := ⟨_, rfl⟩
        have HT : Hid (t = (64 * ((x0.toNat : Int) - 224) + (x1.toNat : Int) - 128)) := by show _ = _; omega
        have ht' := ht.symm
        clear ht
        clear hr
        go_wp2
        go_roundw
        case rel => exact ⟨_, _, by first | trivial | rfl, by first | rfl | trivial, by first | go_num | rfl | trivial, .inr (.inl ⟨rfl, ⟨by omega, by omega⟩, HT.out⟩)⟩
        case measure => simp [intOf]
      · have r0 : 0 ≤ r := by omega
        have r1 : r ≤ 2097151 := by omega
        by_cases k1 : x2.toNat < 128
        · have k1z : (x2.toNat : Int) < 128 := by omega
          obtain ⟨e1, e2, e3⟩ := rune_stray (hdec.trans (d3_bad _ _ _ _ _ hc (by omega) (by omega) (by omega)))
          obtain rfl := hA.symm.trans e1
          obtain rfl := hK.symm.trans e2
          obtain rfl := hB.symm.trans e3
          clear hr
          go_wp2
          go_ret3
          exact ⟨rfl, rfl⟩
        have k1z : ¬ (x2.toNat : Int) < 128 := by omega
        by_cases k2 : 191 < x2.toNat
        · have k2z : (191 : Int) < (x2.toNat : Int) := by omega
          obtain ⟨e1, e2, e3⟩ := rune_stray (hdec.trans (d3_bad _ _ _ _ _ hc (by omega) (by omega) (by omega)))
          obtain rfl := hA.symm.trans e1
          obtain rfl := hK.symm.trans e2
          obtain rfl := hB.symm.trans e3
          clear hr
          go_wp2
          go_ret3
          exact ⟨rfl, rfl⟩
        have k2z : ¬ (191 : Int) < (x2.toNat : Int) := by omega
        obtain ⟨t, ht⟩ : ∃ t : Int, t = 64 * r + (x2.toNat : Int) - 128 := ⟨_, rfl⟩
        have HT : Hid (t = (64 * (64 * ((x0.toNat : Int) - 224) + (x1.toNat : Int) - 128) + (x2.toNat : Int) - 128)) := by show _ = _; omega
        have ht' := ht.symm
        clear ht
        clear hr
        go_wp2
        go_roundw
        case rel => exact ⟨_, _, by first | trivial | rfl, by first | rfl | trivial, by first | go_num | rfl | trivial, .inr (.inr (⟨rfl, q1, ⟨by omega, by omega⟩, HT.out⟩))⟩
        case measure => simp [intOf]
      · have r0 : 0 ≤ r := by omega
        have r1 : r ≤ 2097151 := by omega
        by_cases m1 : r < 2048
        · obtain ⟨e1, e2, e3⟩ := rune_stray (hdec.trans (d3_bad _ _ _ _ _ hc (by omega) (by omega) (by omega)))
          obtain rfl := hA.symm.trans e1
          obtain rfl := hK.symm.trans e2
          obtain rfl := hB.symm.trans e3
          clear hr
          go_wp2
          go_ret3
          exact ⟨rfl, rfl⟩
        by_cases m2 : (1114111 : Int) < r
        · obtain ⟨e1, e2, e3⟩ := rune_stray (hdec.trans (d3_bad _ _ _ _ _ hc (by omega) (by omega) (by omega)))
          obtain rfl := hA.symm.trans e1
          obtain rfl := hK.symm.trans e2
          obtain rfl := hB.symm.trans e3
          clear hr
          go_wp2
          go_ret3
          exact ⟨rfl, rfl⟩
        by_cases m3 : (55296 : Int) ≤ r
        · by_cases m4 : r < 57344
          · obtain ⟨e1, e2, e3⟩ := rune_stray (hdec.trans (d3_bad _ _ _ _ _ hc (by omega) (by omega) (by omega)))
            obtain rfl := hA.symm.trans e1
            obtain rfl := hK.symm.trans e2
            obtain rfl := hB.symm.trans e3
            clear hr
            go_wp2
            go_ret3
            exact ⟨rfl, rfl⟩
          obtain ⟨R0, hR0⟩ := Int.eq_ofNat_of_zero_le r0
          obtain ⟨e1, e2, e3⟩ := rune_of (hdec.trans (d3_ok _ _ _ _ _ R0 hc (by omega) q1 q2 (by omega) (by omega) (by omega) (by omega))) (.inr (by decide))
          obtain rfl := hA.symm.trans e1
          obtain rfl := hK.symm.trans e2
          obtain rfl := hB.symm.trans e3
          clear hr
          subst hR0
          go_wp2
          go_ret3
          exact ⟨rfl, rfl⟩
        · obtain ⟨R0, hR0⟩ := Int.eq_ofNat_of_zero_le r0
          obtain ⟨e1, e2, e3⟩ := rune_of (hdec.trans (d3_ok _ _ _ _ _ R0 hc (by omega) q1 q2 (by omega) (by omega) (by omega) (by omega))) (.inr (by decide))
          obtain rfl := hA.symm.trans e1
          obtain rfl := hK.symm.trans e2
          obtain rfl := hB.symm.trans e3
          clear hr
          subst hR0
          go_wp2
          go_ret3
          exact ⟨rfl, rfl⟩

set_option maxHeartbeats 4000000 in
set_option maxRecDepth 1000000 in
theorem rune4 (s : ByteArray) (w : World) (A K : Nat) (B : Bool) (hA : R.rn (bs s) = A) (hK : R.wd (bs s) = K) (hB : R.bad (bs s) = B) (h0 : s.size ≠ 0) (x0 x1 x2 x3 : UInt8) (hx0 : s.get! 0 = x0) (hx1 : s.get! 1 = x1) (hx2 : s.get! 2 = x2) (hx3 : s.get! 3 = x3)
    (hdec : R.dec (bs s) = Lib.decodeN s.size x0.toNat x1.toNat x2.toNat x3.toNat) (hc : 240 ≤ x0.toNat ∧ x0.toNat < 248) :
    Calls Tryd.prog 24 #[.string s] w fun e w' => e = .returned (.tuple #[.int .i32 (A : Int), .int .i64 (K : Int), .bool B]) ∧ w' = w := by
  have hz0 : (0 : Int) < (s.size : Int) := by omega
  have hs0 : s[0]'(by omega) = x0 := by rw [← hx0]; exact (get!_lt s 0 (by omega)).symm
  have l1 := x1.toNat_lt; have l2 := x2.toNat_lt; have l3 := x3.toNat_lt
  have c1 : ¬ (x0.toNat : Int) < 128 := by omega
  have f0 : (192 : Int) ≤ (x0.toNat : Int) := by omega
  have g0 : ¬ (x0.toNat : Int) < 224 := by omega
  have f1 : (224 : Int) ≤ (x0.toNat : Int) := by omega
  have g1 : ¬ (x0.toNat : Int) < 240 := by omega
  have f2 : (240 : Int) ≤ (x0.toNat : Int) := by omega
  have g2 : (x0.toNat : Int) < 248 := by omega
  by_cases hn : s.size < 4
  · have hnz : (s.size : Int) < 4 := by omega
    obtain ⟨e1, e2, e3⟩ := rune_stray (hdec.trans (d4_bad _ _ _ _ _ hc (.inl hn) (by omega) (by omega) (by omega)))
    obtain rfl := hA.symm.trans e1
    obtain rfl := hK.symm.trans e2
    obtain rfl := hB.symm.trans e3
    clear hA hK hB hdec hx0 hx1 hx2 hx3
    go_enter Tryd.func24, Tryd.ntmps24
    go_wp2
    go_ret3
    exact ⟨rfl, rfl⟩

  · have hnz : ¬ (s.size : Int) < 4 := by omega
    have hz1 : (1 : Int) < (s.size : Int) := by omega
    have hs1 : s[1]'(by omega) = x1 := by rw [← hx1]; exact (get!_lt s 1 (by omega)).symm
    have hz2 : (2 : Int) < (s.size : Int) := by omega
    have hs2 : s[2]'(by omega) = x2 := by rw [← hx2]; exact (get!_lt s 2 (by omega)).symm
    have hz3 : (3 : Int) < (s.size : Int) := by omega
    have hs3 : s[3]'(by omega) = x3 := by rw [← hx3]; exact (get!_lt s 3 (by omega)).symm
    clear hx0 hx1 hx2 hx3
    go_enter Tryd.func24, Tryd.ntmps24
    go_wp2
    go_loopw [8, 9] (fun u8 u9 wr => ∃ (i r : Int), wr = w ∧ u8 = .int .i64 r ∧ u9 = .int .i64 i ∧ ((i = 1 ∧ r = ((x0.toNat : Int) - 240)) ∨ (i = 2 ∧ (128 ≤ x1.toNat ∧ x1.toNat ≤ 191) ∧ r = (64 * ((x0.toNat : Int) - 240) + (x1.toNat : Int) - 128)) ∨ (i = 3 ∧ (128 ≤ x1.toNat ∧ x1.toNat ≤ 191) ∧ (128 ≤ x2.toNat ∧ x2.toNat ≤ 191) ∧ r = (64 * (64 * ((x0.toNat : Int) - 240) + (x1.toNat : Int) - 128) + (x2.toNat : Int) - 128)) ∨ (i = 4 ∧ (128 ≤ x1.toNat ∧ x1.toNat ≤ 191) ∧ (128 ≤ x2.toNat ∧ x2.toNat ≤ 191) ∧ (128 ≤ x3.toNat ∧ x3.toNat ≤ 191) ∧ r = (64 * (64 * (64 * ((x0.toNat : Int) - 240) + (x1.toNat : Int) - 128) + (x2.toNat : Int) - 128) + (x3.toNat : Int) - 128)))) (fun _ u9 _ => 4 - (intOf u9).toNat)
    case atStart => exact ⟨1, _, rfl, rfl, rfl, .inl ⟨rfl, rfl⟩⟩
    case round =>
      obtain ⟨i, r, rfl, rfl, rfl, hst⟩ := hrel
      rcases hst with ⟨rfl, hr⟩ | ⟨rfl, q1, hr⟩ | ⟨rfl, q1, q2, hr⟩ | ⟨rfl, q1, q2, q3, hr⟩
      · have r0 : 0 ≤ r := by omega
        have r1 : r ≤ 2097151 := by omega
        by_cases k1 : x1.toNat < 128
        · have k1z : (x1.toNat : Int) < 128 := by omega
          obtain ⟨e1, e2, e3⟩ := rune_stray (hdec.trans (d4_bad _ _ _ _ _ hc (by omega) (by omega) (by omega) (by omega)))
          obtain rfl := hA.symm.trans e1
          obtain rfl := hK.symm.trans e2
          obtain rfl := hB.symm.trans e3
          clear hr
          go_wp2
          go_ret3
          exact ⟨rfl, rfl⟩
        have k1z : ¬ (x1.toNat : Int) < 128 := by omega
        by_cases k2 : 191 < x1.toNat
        · have k2z : (191 : Int) < (x1.toNat : Int) := by omega
          obtain ⟨e1, e2, e3⟩ := rune_stray (hdec.trans (d4_bad _ _ _ _ _ hc (by omega) (by omega) (by omega) (by omega)))
          obtain rfl := hA.symm.trans e1
          obtain rfl := hK.symm.trans e2
          obtain rfl := hB.symm.trans e3
          clear hr
          go_wp2
          go_ret3
          exact ⟨rfl, rfl⟩
        have k2z : ¬ (191 : Int) < (x1.toNat : Int) := by omega
        obtain ⟨t, ht⟩ : ∃ t : Int, t = 64 * r + (x1.toNat : Int) - 128 := ⟨_, rfl⟩
        have HT : Hid (t = (64 * ((x0.toNat : Int) - 240) + (x1.toNat : Int) - 128)) := by show _ = _; omega
        have ht' := ht.symm
        clear ht
        clear hr
        go_wp2
        go_roundw
        case rel => exact ⟨_, _, by first | trivial | rfl, by first | rfl | trivial, by first | go_num | rfl | trivial, .inr (.inl ⟨rfl, ⟨by omega, by omega⟩, HT.out⟩)⟩
        case measure => simp [intOf]
      · have r0 : 0 ≤ r := by omega
        have r1 : r ≤ 2097151 := by omega
        by_cases k1 : x2.toNat < 128
        · have k1z : (x2.toNat : Int) < 128 := by omega
          obtain ⟨e1, e2, e3⟩ := rune_stray (hdec.trans (d4_bad _ _ _ _ _ hc (by omega) (by omega) (by omega) (by omega)))
          obtain rfl := hA.symm.trans e1
          obtain rfl := hK.symm.trans e2
          obtain rfl := hB.symm.trans e3
          clear hr
          go_wp2
          go_ret3
          exact ⟨rfl, rfl⟩
        have k1z : ¬ (x2.toNat : Int) < 128 := by omega
        by_cases k2 : 191 < x2.toNat
        · have k2z : (191 : Int) < (x2.toNat : Int) := by omega
          obtain ⟨e1, e2, e3⟩ := rune_stray (hdec.trans (d4_bad _ _ _ _ _ hc (by omega) (by omega) (by omega) (by omega)))
          obtain rfl := hA.symm.trans e1
          obtain rfl := hK.symm.trans e2
          obtain rfl := hB.symm.trans e3
          clear hr
          go_wp2
          go_ret3
          exact ⟨rfl, rfl⟩
        have k2z : ¬ (191 : Int) < (x2.toNat : Int) := by omega
        obtain ⟨t, ht⟩ : ∃ t : Int, t = 64 * r + (x2.toNat : Int) - 128 := ⟨_, rfl⟩
        have HT : Hid (t = (64 * (64 * ((x0.toNat : Int) - 240) + (x1.toNat : Int) - 128) + (x2.toNat : Int) - 128)) := by show _ = _; omega
        have ht' := ht.symm
        clear ht
        clear hr
        go_wp2
        go_roundw
        case rel => exact ⟨_, _, by first | trivial | rfl, by first | rfl | trivial, by first | go_num | rfl | trivial, .inr (.inr (.inl ⟨rfl, q1, ⟨by omega, by omega⟩, HT.out⟩))⟩
        case measure => simp [intOf]
      · have r0 : 0 ≤ r := by omega
        have r1 : r ≤ 2097151 := by omega
        by_cases k1 : x3.toNat < 128
        · have k1z : (x3.toNat : Int) < 128 := by omega
          obtain ⟨e1, e2, e3⟩ := rune_stray (hdec.trans (d4_bad _ _ _ _ _ hc (by omega) (by omega) (by omega) (by omega)))
          obtain rfl := hA.symm.trans e1
          obtain rfl := hK.symm.trans e2
          obtain rfl := hB.symm.trans e3
          clear hr
          go_wp2
          go_ret3
          exact ⟨rfl, rfl⟩
        have k1z : ¬ (x3.toNat : Int) < 128 := by omega
        by_cases k2 : 191 < x3.toNat
        · have k2z : (191 : Int) < (x3.toNat : Int) := by omega
          obtain ⟨e1, e2, e3⟩ := rune_stray (hdec.trans (d4_bad _ _ _ _ _ hc (by omega) (by omega) (by omega) (by omega)))
          obtain rfl := hA.symm.trans e1
          obtain rfl := hK.symm.trans e2
          obtain rfl := hB.symm.trans e3
          clear hr
          go_wp2
          go_ret3
          exact ⟨rfl, rfl⟩
        have k2z : ¬ (191 : Int) < (x3.toNat : Int) := by omega
        obtain ⟨t, ht⟩ : ∃ t : Int, t = 64 * r + (x3.toNat : Int) - 128 := ⟨_, rfl⟩
        have HT : Hid (t = (64 * (64 * (64 * ((x0.toNat : Int) - 240) + (x1.toNat : Int) - 128) + (x2.toNat : Int) - 128) + (x3.toNat : Int) - 128)) := by show _ = _; omega
        have ht' := ht.symm
        clear ht
        clear hr
        go_wp2
        go_roundw
        case rel => exact ⟨_, _, by first | trivial | rfl, by first | rfl | trivial, by first | go_num | rfl | trivial, .inr (.inr (.inr (⟨rfl, q1, q2, ⟨by omega, by omega⟩, HT.out⟩)))⟩
        case measure => simp [intOf]
      · have r0 : 0 ≤ r := by omega
        have r1 : r ≤ 2097151 := by omega
        by_cases m1 : r < 65536
        · obtain ⟨e1, e2, e3⟩ := rune_stray (hdec.trans (d4_bad _ _ _ _ _ hc (by omega) (by omega) (by omega) (by omega)))
          obtain rfl := hA.symm.trans e1
          obtain rfl := hK.symm.trans e2
          obtain rfl := hB.symm.trans e3
          clear hr
          go_wp2
          go_ret3
          exact ⟨rfl, rfl⟩
        by_cases m2 : (1114111 : Int) < r
        · obtain ⟨e1, e2, e3⟩ := rune_stray (hdec.trans (d4_bad _ _ _ _ _ hc (by omega) (by omega) (by omega) (by omega)))
          obtain rfl := hA.symm.trans e1
          obtain rfl := hK.symm.trans e2
          obtain rfl := hB.symm.trans e3
          clear hr
          go_wp2
          go_ret3
          exact ⟨rfl, rfl⟩
        by_cases m3 : (55296 : Int) ≤ r
        · by_cases m4 : r < 57344
          · obtain ⟨e1, e2, e3⟩ := rune_stray (hdec.trans (d4_bad _ _ _ _ _ hc (by omega) (by omega) (by omega) (by omega)))
            obtain rfl := hA.symm.trans e1
            obtain rfl := hK.symm.trans e2
            obtain rfl := hB.symm.trans e3
            clear hr
            go_wp2
            go_ret3
            exact ⟨rfl, rfl⟩
          obtain ⟨R0, hR0⟩ := Int.eq_ofNat_of_zero_le r0
          obtain ⟨e1, e2, e3⟩ := rune_of (hdec.trans (d4_ok _ _ _ _ _ R0 hc (by omega) q1 q2 q3 (by omega) (by omega) (by omega) (by omega))) (.inr (by decide))
          obtain rfl := hA.symm.trans e1
          obtain rfl := hK.symm.trans e2
          obtain rfl := hB.symm.trans e3
          clear hr
          subst hR0
          go_wp2
          go_ret3
          exact ⟨rfl, rfl⟩
        · obtain ⟨R0, hR0⟩ := Int.eq_ofNat_of_zero_le r0
          obtain ⟨e1, e2, e3⟩ := rune_of (hdec.trans (d4_ok _ _ _ _ _ R0 hc (by omega) q1 q2 q3 (by omega) (by omega) (by omega) (by omega))) (.inr (by decide))
          obtain rfl := hA.symm.trans e1
          obtain rfl := hK.symm.trans e2
          obtain rfl := hB.symm.trans e3
          clear hr
          subst hR0
          go_wp2
          go_ret3
          exact ⟨rfl, rfl⟩

set_option maxHeartbeats 4000000 in
set_option maxRecDepth 1000000 in
theorem rune_any (s : ByteArray) (w : World) (h0 : s.size ≠ 0) :
    Calls Tryd.prog 24 #[.string s] w fun e w' => e = .returned (.tuple #[.int .i32 (R.rn (bs s) : Int), .int .i64 (R.wd (bs s) : Int), .bool (R.bad (bs s))]) ∧ w' = w := by
  obtain ⟨A, hA⟩ : ∃ A, R.rn (bs s) = A := ⟨_, rfl⟩
  obtain ⟨K, hK⟩ : ∃ K, R.wd (bs s) = K := ⟨_, rfl⟩
  obtain ⟨B, hB⟩ : ∃ B, R.bad (bs s) = B := ⟨_, rfl⟩
  rw [hA, hK, hB]
  obtain ⟨x0, hx0⟩ : ∃ x0, s.get! 0 = x0 := ⟨_, rfl⟩
  obtain ⟨x1, hx1⟩ : ∃ x1, s.get! 1 = x1 := ⟨_, rfl⟩
  obtain ⟨x2, hx2⟩ : ∃ x2, s.get! 2 = x2 := ⟨_, rfl⟩
  obtain ⟨x3, hx3⟩ : ∃ x3, s.get! 3 = x3 := ⟨_, rfl⟩
  have l0 := x0.toNat_lt
  have hdec : R.dec (bs s) = Lib.decodeN s.size x0.toNat x1.toNat x2.toNat x3.toNat := by
    unfold R.dec
    rw [bs_len, ← bs_get!, ← bs_get!, ← bs_get!, ← bs_get!, hx0, hx1, hx2, hx3]
  by_cases c2 : 192 ≤ x0.toNat ∧ x0.toNat < 224
  · exact rune2 s w A K B hA hK hB h0 x0 x1 x2 x3 hx0 hx1 hx2 hx3 hdec c2
  by_cases c3 : 224 ≤ x0.toNat ∧ x0.toNat < 240
  · exact rune3 s w A K B hA hK hB h0 x0 x1 x2 x3 hx0 hx1 hx2 hx3 hdec c3
  by_cases c4 : 240 ≤ x0.toNat ∧ x0.toNat < 248
  · exact rune4 s w A K B hA hK hB h0 x0 x1 x2 x3 hx0 hx1 hx2 hx3 hdec c4
  have hz0 : (0 : Int) < (s.size : Int) := by omega
  have hs0 : s[0]'(by omega) = x0 := by rw [← hx0]; exact (get!_lt s 0 (by omega)).symm
  by_cases ha : x0.toNat < 128
  · have haz : (x0.toNat : Int) < 128 := by omega
    obtain ⟨e1, e2, e3⟩ := rune_of (hdec.trans (show _ = (x0.toNat, 1) by simp [Lib.decodeN, ha])) (.inl (by omega))
    obtain rfl := hA.symm.trans e1
    obtain rfl := hK.symm.trans e2
    obtain rfl := hB.symm.trans e3
    clear hdec hx0 hx1 hx2 hx3 c2 c3 c4
    go_enter Tryd.func24, Tryd.ntmps24
    go_wp2
    go_ret3
    exact ⟨rfl, rfl⟩
  · have haz : ¬ (x0.toNat : Int) < 128 := by omega
    obtain ⟨e1, e2, e3⟩ := rune_stray (hdec.trans (d_out _ _ _ _ _ (by omega) (by omega)))
    obtain rfl := hA.symm.trans e1
    obtain rfl := hK.symm.trans e2
    obtain rfl := hB.symm.trans e3
    by_cases hb : x0.toNat < 192
    · have hbz : ¬ (192 : Int) ≤ (x0.toNat : Int) := by omega
      have hbz2 : ¬ (224 : Int) ≤ (x0.toNat : Int) := by omega
      have hbz3 : ¬ (240 : Int) ≤ (x0.toNat : Int) := by omega
      clear hdec hx0 hx1 hx2 hx3 c2 c3 c4
      go_enter Tryd.func24, Tryd.ntmps24
      go_wp2
      go_ret3
      exact ⟨rfl, rfl⟩
    · have d1 : (192 : Int) ≤ (x0.toNat : Int) := by omega
      have d2 : ¬ (x0.toNat : Int) < 224 := by omega
      have d3 : (224 : Int) ≤ (x0.toNat : Int) := by omega
      have d4 : ¬ (x0.toNat : Int) < 240 := by omega
      have d5 : (240 : Int) ≤ (x0.toNat : Int) := by omega
      have d6 : ¬ (x0.toNat : Int) < 248 := by omega
      clear hdec hx0 hx1 hx2 hx3 c2 c3 c4
      go_enter Tryd.func24, Tryd.ntmps24
      go_wp2
      go_ret3
      exact ⟨rfl, rfl⟩
end Go.Proofs.YtfflpmcflpbopaaDoor
