/- Contracts of package hayrickref02: the document's own answers, place by place. -/
import Derived.Test.YtlodpffdmlnemaaOps
import Derived.Test.YtlodpffdmlnemaaMem
import Derived.Test.YtlodpffdmlnemaaRefMul
namespace Go.Proofs.Ytlodpffdmlnemaa
open Go.RowKit

theorem refDot_no {w : World} {d s : Value} {xs ys : List Nat} (hd : Vec w d xs) (hs : Vec w s ys) (hl : ys.length ≠ xs.length) :
    Calls Try.prog 17 #[d, s] w fun e w' => e = .returned (.tuple #[.int .u8 0, .int .i64 1]) ∧ w' = w := by
  obtain ⟨p, n, cp, rfl, hn⟩ := hd.opened
  obtain ⟨q, n', cp', rfl, hn'⟩ := hs.opened
  have hfit : ((n : Int) != (n' : Int)) = true := by simp [hn, hn']; omega
  clear hl hn hn'
  go_enter Try.func17, Try.ntmps17
  go_wp2
  go_ret2
  exact ⟨rfl, rfl⟩

theorem xor_u8 (s x : Nat) (hs : s < 256) (hx : x < 256) : bits .xor .u8 (s : Int) (x : Int) = ((s ^^^ x : Nat) : Int) := u8_xor_nat s x hs hx

set_option maxHeartbeats 800000 in
theorem refDot_yes {w : World} {d s : Value} {xs ys : List Nat} (hd : Vec w d xs) (hs : Vec w s ys) (hl : ys.length = xs.length) :
    Calls Try.prog 17 #[d, s] w fun e w' => e = .returned (.tuple #[bv (vdot xs ys), .int .i64 0]) ∧ ∃ m, w' = w.drewN m := by
  obtain ⟨p, n, cp, rfl, hn⟩ := hd.opened
  obtain ⟨q, n', cp', rfl, hn'⟩ := hs.opened
  have hfit : ((n : Int) != (n' : Int)) = false := by simp [hn, hn', hl]
  have hnl : n ≤ 140737488351232 := by rw [hn]; exact hd.len
  have HN : Hid (n = xs.length ∧ n' = n ∧ ys.length = xs.length) := ⟨hn, by omega, hl⟩
  clear hl hn hn'
  go_enter Try.func17, Try.ntmps17
  go_wp2
  go_loopw [6, 7] (fun ts ti wr => ∃ k : Nat, k ≤ n ∧ ti = .int .i64 k ∧ ts = bv (xsum (fun k => M.mul (xs.getD k 0) (ys.getD k 0)) k) ∧ Hid (∃ m, wr = w.drewN m)) (fun _ ti _ => n - (intOf ti).toNat)
  case atStart => exact ⟨0, by omega, rfl, rfl, 0, rfl⟩
  case round =>
    obtain ⟨k, hk, rfl, rfl, HW⟩ := hrel
    have hd' : Vec wr (.slice p n cp) xs := by obtain ⟨m, e⟩ := HW.out; rw [e]; exact hd.keep (grown_drewN w m)
    have hs' : Vec wr (.slice q n' cp') ys := by obtain ⟨m, e⟩ := HW.out; rw [e]; exact hs.keep (grown_drewN w m)
    by_cases hlt : k < n
    · obtain ⟨b, off, cap, e1, hc, h1⟩ := hd'.at (k := k) (by have := HN.out; omega)
      obtain ⟨b', off', cap', e2, hc', h1'⟩ := hs'.at (k := k) (by have := HN.out; omega)
      injection e1 with e1 _ _
      injection e2 with e2 _ _
      subst e1
      subst e2
      have h0 : xsum (fun k => M.mul (xs.getD k 0) (ys.getD k 0)) k < 256 := xsum_lt fun j _ => M.mul_lt _ (getD_small hd.small j)
      have hm : M.mul (xs.getD k 0) (ys.getD k 0) < 256 := M.mul_lt _ h1
      have HX : Hid (bits .xor .u8 ((xsum (fun k => M.mul (xs.getD k 0) (ys.getD k 0)) k : Nat) : Int) ((M.mul (xs.getD k 0) (ys.getD k 0) : Nat) : Int) = ((xsum (fun k => M.mul (xs.getD k 0) (ys.getD k 0)) (k + 1) : Nat) : Int)) := xor_u8 _ _ h0 hm
      generalize xs.getD k 0 = x at *
      generalize ys.getD k 0 = y at *
      generalize xsum (fun k => M.mul (xs.getD k 0) (ys.getD k 0)) k = s0 at *
      have i1 : (k : Int) < (n : Int) := by omega
      have i2 : (k : Int) < (n' : Int) := by have := HN.out; omega
      have i3 : (0 : Int) ≤ (k : Int) := by omega
      go_wp2
      go_quiet ((go_at_call 27; exact Calls.quiet_of_same (refMul_any _ _ _ (by omega) (by omega) (by omega) (by omega))))
      go_wp2
      go_roundw
      case rel => exact ⟨k + 1, by omega, by go_num, by simpa [bv] using HX.out, by obtain ⟨m, e⟩ := HW.out; rw [e]; exact ⟨m + nq, by simp⟩⟩
      case measure => simp [intOf]; omega
    · go_wp2
      go_ret2
      have hkn : k = xs.length := by have := HN.out; omega
      exact ⟨by rw [hkn]; rfl, HW.out⟩
end Go.Proofs.Ytlodpffdmlnemaa
