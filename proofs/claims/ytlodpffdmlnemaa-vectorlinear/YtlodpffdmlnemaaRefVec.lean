/- Contracts of package hayrickref02: the document's own answers, place by place. -/
import Derived.Test.YtlodpffdmlnemaaOps
import Derived.Test.YtlodpffdmlnemaaMem
import Derived.Test.YtlodpffdmlnemaaWakes
import Derived.Test.YtlodpffdmlnemaaRefMul
namespace Go.Proofs.Ytlodpffdmlnemaa
open Go.RowKit

theorem refDot_no {w : World} {d s : Value} {xs ys : List Nat} (hd : Vec w d xs) (hs : Vec w s ys) (hl : ys.length ≠ xs.length) :
    Calls Try.prog 17 #[d, s] w fun e w' => e = .returned (.tuple #[.int .u8 0, .int .i64 1]) ∧ w' = w := by
  obtain ⟨p, n, cp, rfl, hn⟩ := hd.opened
  obtain ⟨q, n', cp', rfl, hn'⟩ := hs.opened
  have hfit : ((n : Int) != (n' : Int)) = true := by simp [hn, hn']; omega
  clear hl hn hn'
  go_enter Try.func17, Try.ntmps17
  go_wp2
  go_ret2
  exact ⟨rfl, rfl⟩

theorem xor_u8 (s x : Nat) (hs : s < 256) (hx : x < 256) : bits .xor .u8 (s : Int) (x : Int) = ((s ^^^ x : Nat) : Int) := u8_xor_nat s x hs hx

set_option maxHeartbeats 800000 in
theorem refDot_yes {w : World} {d s : Value} {xs ys : List Nat} (hd : Vec w d xs) (hs : Vec w s ys) (hl : ys.length = xs.length) :
    Calls Try.prog 17 #[d, s] w fun e w' => e = .returned (.tuple #[bv (vdot xs ys), .int .i64 0]) ∧ ∃ m, w' = w.drewN m := by
  obtain ⟨p, n, cp, rfl, hn⟩ := hd.opened
  obtain ⟨q, n', cp', rfl, hn'⟩ := hs.opened
  have hfit : ((n : Int) != (n' : Int)) = false := by simp [hn, hn', hl]
  have hnl : n ≤ 140737488351232 := by rw [hn]; exact hd.len
  have HN : Hid (n = xs.length ∧ n' = n ∧ ys.length = xs.length) := ⟨hn, by omega, hl⟩
  clear hl hn hn'
  go_enter Try.func17, Try.ntmps17
  go_wp2
  go_loopw [6, 7] (fun ts ti wr => ∃ k : Nat, k ≤ n ∧ ti = .int .i64 k ∧ ts = bv (xsum (fun k => M.mul (xs.getD k 0) (ys.getD k 0)) k) ∧ Hid (∃ m, wr = w.drewN m)) (fun _ ti _ => n - (intOf ti).toNat)
  case atStart => exact ⟨0, by omega, rfl, rfl, 0, rfl⟩
  case round =>
    obtain ⟨k, hk, rfl, rfl, HW⟩ := hrel
    have hd' : Vec wr (.slice p n cp) xs := by obtain ⟨m, e⟩ := HW.out; rw [e]; exact hd.keep (grown_drewN w m)
    have hs' : Vec wr (.slice q n' cp') ys := by obtain ⟨m, e⟩ := HW.out; rw [e]; exact hs.keep (grown_drewN w m)
    by_cases hlt : k < n
    · obtain ⟨b, off, cap, e1, hc, h1⟩ := hd'.at (k := k) (by have := HN.out; omega)
      obtain ⟨b', off', cap', e2, hc', h1'⟩ := hs'.at (k := k) (by have := HN.out; omega)
      injection e1 with e1 _ _
      injection e2 with e2 _ _
      subst e1
      subst e2
      have h0 : xsum (fun k => M.mul (xs.getD k 0) (ys.getD k 0)) k < 256 := xsum_lt fun j _ => M.mul_lt _ (getD_small hd.small j)
      have hm : M.mul (xs.getD k 0) (ys.getD k 0) < 256 := M.mul_lt _ h1
      have HX : Hid (bits .xor .u8 ((xsum (fun k => M.mul (xs.getD k 0) (ys.getD k 0)) k : Nat) : Int) ((M.mul (xs.getD k 0) (ys.getD k 0) : Nat) : Int) = ((xsum (fun k => M.mul (xs.getD k 0) (ys.getD k 0)) (k + 1) : Nat) : Int)) := xor_u8 _ _ h0 hm
      generalize xs.getD k 0 = x at *
      generalize ys.getD k 0 = y at *
      generalize xsum (fun k => M.mul (xs.getD k 0) (ys.getD k 0)) k = s0 at *
      have i1 : (k : Int) < (n : Int) := by omega
      have i2 : (k : Int) < (n' : Int) := by have := HN.out; omega
      have i3 : (0 : Int) ≤ (k : Int) := by omega
      go_wp2
      go_quiet ((go_at_call 27; exact Calls.quiet_of_same (refMul_any _ _ _ (by omega) (by omega) (by omega) (by omega))))
      go_wp2
      go_roundw
      case rel => exact ⟨k + 1, by omega, by go_num, by simpa [bv] using HX.out, by obtain ⟨m, e⟩ := HW.out; rw [e]; exact ⟨m + nq, by simp⟩⟩
      case measure => simp [intOf]; omega
    · go_wp2
      go_ret2
      have hkn : k = xs.length := by have := HN.out; omega
      exact ⟨by rw [hkn]; rfl, HW.out⟩

theorem Vec.spot {w : World} {p : Option Addr} {n cap : Nat} {xs : List Nat} (h : Vec w (.slice p n cap) xs) {k : Nat} (hk : k < xs.length) :
    ∃ b off, p = some ⟨b, off, none⟩ ∧ w.cell? ⟨b, off + k, none⟩ = some (.int .u8 ((xs.getD k 0 : Nat) : Int)) ∧ xs.getD k 0 < 256 := by
  obtain ⟨b, off, cap', e, h1, h2⟩ := h.at hk
  injection e with e1 _ _
  exact ⟨b, off, e1, h1, h2⟩

theorem refMulAdd_no {w : World} {d s : Value} {xs ys : List Nat} {c : Int} (hd : Vec w d xs) (hs : Vec w s ys) (hl : ys.length ≠ xs.length) :
    Calls Try.prog 12 #[d, s, .int .u8 c] w fun e w' => e = .returned (.tuple #[.slice none 0 0, .int .i64 1]) ∧ w' = w := by
  obtain ⟨p, n, cp, rfl, hn⟩ := hd.opened
  obtain ⟨q, n', cp', rfl, hn'⟩ := hs.opened
  have hfit : ((n : Int) != (n' : Int)) = true := by simp [hn, hn']; omega
  clear hl hn hn'
  go_enter Try.func12, Try.ntmps12
  go_wp2
  go_ret2
  exact ⟨rfl, rfl⟩

theorem range_snoc (f : Nat → Nat) (k : Nat) : (List.range k).map f ++ [f k] = (List.range (k + 1)).map f := by rw [List.range_succ]; simp

set_option maxHeartbeats 1600000 in
theorem refMulAdd_nat {w : World} {d s : Value} {xs ys : List Nat} {c : Nat} (h256 : c < 256) (hd : Vec w d xs) (hs : Vec w s ys) (hl : ys.length = xs.length) :
    Calls Try.prog 12 #[d, s, .int .u8 (c : Int)] w fun e w' => ∃ v, e = .returned (.tuple #[v, .int .i64 0]) ∧ Own w.heap.size w' v (vmad xs ys c) ∧ w.grownBy w' none := by
  obtain ⟨p, n, cp, rfl, hn⟩ := hd.opened
  obtain ⟨q, n', cp', rfl, hn'⟩ := hs.opened
  have hfit : ((n : Int) != (n' : Int)) = false := by simp [hn, hn', hl]
  have hnl : n ≤ 140737488351232 := by rw [hn]; exact hd.len
  have HN : Hid (n = xs.length ∧ n' = n ∧ ys.length = xs.length) := ⟨hn, by omega, hl⟩
  clear hl hn hn'
  go_enter Try.func12, Try.ntmps12
  go_wp2
  go_loopw [8, 9] (fun tv ti wr => ∃ k : Nat, k ≤ n ∧ ti = .int .i64 k ∧ Own w.heap.size wr tv ((List.range k).map fun k => xs.getD k 0 ^^^ M.mul (ys.getD k 0) c) ∧ Hid (w.grownBy wr none)) (fun _ ti _ => n - (intOf ti).toNat)
  case atStart => exact ⟨0, by omega, rfl, Own.nil _ _, World.grownBy.refl _ _⟩
  case round =>
    obtain ⟨k, hk, rfl, ok, GK⟩ := hrel
    by_cases hlt : k < n
    · obtain ⟨b, off, rfl, hc, h1⟩ := hd.spot (k := k) (by have := HN.out; omega)
      obtain ⟨b', off', rfl, hc', h1'⟩ := hs.spot (k := k) (by have := HN.out; omega)
      have hm : M.mul (ys.getD k 0) c < 256 := M.mul_lt _ h1'
      have hx := xor_u8 _ _ h1 hm
      have hxl := M.xor_lt h1 hm
      have HS : Hid ((List.range k).map (fun k => xs.getD k 0 ^^^ M.mul (ys.getD k 0) c) ++ [xs.getD k 0 ^^^ M.mul (ys.getD k 0) c] = (List.range (k + 1)).map fun k => xs.getD k 0 ^^^ M.mul (ys.getD k 0) c) := range_snoc _ k
      have HKL : Hid (((List.range k).map fun k => xs.getD k 0 ^^^ M.mul (ys.getD k 0) c).length = k) := show _ = _ by simp
      generalize (List.range k).map (fun k => xs.getD k 0 ^^^ M.mul (ys.getD k 0) c) = L at *
      generalize xs.getD k 0 = x at *
      generalize ys.getD k 0 = y at *
      generalize hr : x ^^^ M.mul y c = r at *
      clear hr
      have i1 : (k : Int) < (n : Int) := by omega
      have i2 : (k : Int) < (n' : Int) := by have := HN.out; omega
      have i3 : (0 : Int) ≤ (k : Int) := by omega
      have HY : Hid (∀ w', w.grownBy w' none → w'.cell? ⟨b, off + k, none⟩ = some (.int .u8 (x : Int)) ∧ w'.cell? ⟨b', off' + k, none⟩ = some (.int .u8 (y : Int))) := fun w' g => ⟨g.cell hc (by simp), g.cell hc' (by simp)⟩
      have OK : Hid (Own w.heap.size wr u8 L) := ok
      have HB : Hid (w.heap.size ≤ wr.heap.size) := GK.out.size
      clear ok hd hs hc hc'
      go_wp2_with fail
      go_region_held3 (fun w' => w'.cell? ⟨b, off + k, none⟩ = some (.int .u8 (x : Int)) ∧ w'.cell? ⟨b', off' + k, none⟩ = some (.int .u8 (y : Int)))
        (first | exact HY.out _ (grown_trans GK.out (grown_drewN wr 1)) | exact HY.out _ (grown_trans GK.out (grown_trans (grown_drewN wr 1) (World.grownBy_alloc _ _ none))) | exact HY.out _ (grown_new (grown_trans GK.out (grown_trans (grown_drewN wr 1) (World.grownBy_alloc _ (.cells #[.int .u8 (r : Int)] 5) none))) hg OK.out.lo))
        (first
          | (go_at_call 27; refine (refMul_any _ _ _ (by omega) (by omega) (by omega) (by omega)).mono ?_; rintro e w1 ⟨rfl, hw⟩; obtain rfl := hw.symm; clear hw)
          | (refine step_append_vec (by rfl) _ _ (by rfl) _ _ (by rfl) (by rfl) (B := w.heap.size) (xs := L) (ys := [r]) (OK.out.keep (grown_trans (grown_drewN wr 1) (World.grownBy_alloc _ (.cells #[.int .u8 (r : Int)] 5) none)))
              (own_lit (B := 0) (xs := [r]) (n := 1) (heap_new (wr.drewN 1) _ _ rfl) (Nat.zero_le _) rfl (by simpa using hxl) (by simp)).vec (by simp; exact Nat.le_succ_of_le HB.out) (by simp [HKL.out]; omega) ?_; intro v' w2 ho hg))
      have R : Hid (Own w.heap.size w2 v' ((List.range (k + 1)).map fun k => xs.getD k 0 ^^^ M.mul (ys.getD k 0) c) ∧ w.grownBy w2 none) :=
        ⟨by rw [← HS.out]; exact ho, grown_new (grown_trans GK.out (grown_trans (grown_drewN wr 1) (World.grownBy_alloc _ (.cells #[.int .u8 (r : Int)] 5) none))) hg OK.out.lo⟩
      clear ho hg HY OK HB HKL HS
      go_wp2
      go_roundw
      case rel => exact ⟨k + 1, by omega, by go_num, R.out.1, R.out.2⟩
      case measure => simp [intOf]; omega
    · go_wp2
      go_ret2
      have hkn : k = xs.length := by have := HN.out; omega
      refine ⟨_, rfl, ?_, GK.out⟩
      have e : ((List.range k).map fun k => xs.getD k 0 ^^^ M.mul (ys.getD k 0) c) = vmad xs ys c := by
        rw [hkn]
        exact List.map_congr_left fun j _ => by rw [M.mul_comm (getD_small hs.small j) h256]
      rw [← e]
      exact ok
end Go.Proofs.Ytlodpffdmlnemaa
