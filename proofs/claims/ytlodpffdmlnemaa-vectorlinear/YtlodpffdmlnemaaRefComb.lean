/- Contracts of hayrickref02.Scale and Combine: the document's own answers, place by place. -/
import Derived.Test.YtlodpffdmlnemaaRefVec
import Derived.Test.YtlodpffdmlnemaaVecMath
namespace Go.Proofs.Ytlodpffdmlnemaa
open Go.RowKit

set_option maxHeartbeats 1600000 in
theorem refScale_nat {w : World} {d : Value} {xs : List Nat} {c : Nat} (h256 : c < 256) (hd : Vec w d xs) :
    Calls Try.prog 14 #[d, .int .u8 (c : Int)] w fun e w' => ∃ v, e = .returned v ∧ Own w.heap.size w' v (vscale c xs) ∧ w.grownBy w' none := by
  obtain ⟨p, n, cp, rfl, hn⟩ := hd.opened
  have hnl : n ≤ 140737488351232 := by rw [hn]; exact hd.len
  have HN : Hid (n = xs.length) := hn
  clear hn
  go_enter Try.func14, Try.ntmps14
  go_wp2
  go_loopw [5, 6] (fun tv ti wr => ∃ k : Nat, k ≤ n ∧ ti = .int .i64 k ∧ Own w.heap.size wr tv ((List.range k).map fun k => M.mul (xs.getD k 0) c) ∧ Hid (w.grownBy wr none)) (fun _ ti _ => n - (intOf ti).toNat)
  case atStart => exact ⟨0, by omega, rfl, Own.nil _ _, World.grownBy.refl _ _⟩
  case round =>
    obtain ⟨k, hk, rfl, ok, GK⟩ := hrel
    by_cases hlt : k < n
    · obtain ⟨b, off, rfl, hc0, h1⟩ := hd.spot (k := k) (by have := HN.out; omega)
      have hc := GK.out.cell hc0 (by simp)
      have hm : M.mul (xs.getD k 0) c < 256 := M.mul_lt _ h1
      have HS : Hid ((List.range k).map (fun k => M.mul (xs.getD k 0) c) ++ [M.mul (xs.getD k 0) c] = (List.range (k + 1)).map fun k => M.mul (xs.getD k 0) c) := range_snoc _ k
      have HKL : Hid (((List.range k).map fun k => M.mul (xs.getD k 0) c).length = k) := show _ = _ by simp
      generalize (List.range k).map (fun k => M.mul (xs.getD k 0) c) = L at *
      generalize xs.getD k 0 = x at *
      have i1 : (k : Int) < (n : Int) := by omega
      have i3 : (0 : Int) ≤ (k : Int) := by omega
      have OK : Hid (Own w.heap.size wr u5 L) := ok
      have HB : Hid (w.heap.size ≤ wr.heap.size) := GK.out.size
      clear ok hd hc0
      go_wp2_with (first
        | (go_at_call 27; refine (refMul_any _ _ _ (by omega) (by omega) (by omega) (by omega)).mono ?_; rintro e w1 ⟨rfl, hw⟩; obtain rfl := hw.symm; clear hw)
        | (at_builtin; refine wpList_append_vec rfl _ _ rfl _ _ rfl rfl (B := w.heap.size) (xs := L) (ys := [M.mul x c]) (OK.out.keep (World.grownBy_alloc _ _ none))
            (own_lit (B := 0) (xs := [M.mul x c]) (n := 1) (heap_new wr _ _ rfl) (Nat.zero_le _) rfl (by simpa using hm) (by simp)).vec (by simp; exact Nat.le_succ_of_le HB.out) (by simp [HKL.out]; omega) ?_; intro v' w2 ho hg; have HO : Hid _ := ho; have HG : Hid _ := hg; clear ho hg))
      go_roundw
      case rel => exact ⟨k + 1, by omega, by go_num, by rw [← HS.out]; exact HO.out, grown_new (grown_trans GK.out (World.grownBy_alloc _ _ none)) HG.out OK.out.lo⟩
      case measure => simp [intOf]; omega
    · go_wp2
      go_ret
      have hkn : k = xs.length := by have := HN.out; omega
      refine ⟨_, rfl, ?_, GK.out⟩
      have e : ((List.range k).map fun k => M.mul (xs.getD k 0) c) = vscale c xs := by
        rw [hkn]
        exact List.map_congr_left fun j _ => by rw [M.mul_comm (getD_small hd.small j) h256]
      rw [← e]
      exact ok

theorem refCombine_count {w : World} {c r : Value} {cs : List Nat} {vs : List Value} {xss : List (List Nat)} (vc : Vec w c cs) (mr : Mat w r vs xss) (hl : cs.length ≠ xss.length) :
    Calls Try.prog 20 #[c, r] w fun e w' => e = .returned (.tuple #[.slice none 0 0, .int .i64 1]) ∧ w.grownBy w' none := by
  obtain ⟨p, n, cp, rfl, hn⟩ := vc.opened
  obtain ⟨q, n', cp', rfl, hn'⟩ := mr.row.opened
  have hfit : ((n : Int) != (n' : Int)) = true := by have := mr.same; simp [hn, hn']; omega
  clear hl hn hn'
  go_enter Try.func20, Try.ntmps20
  go_wp2
  go_ret2
  exact ⟨rfl, World.grownBy.refl _ _⟩

theorem refCombine_none {w : World} {c r : Value} (vc : Vec w c []) (mr : Mat w r [] []) :
    Calls Try.prog 20 #[c, r] w fun e w' => e = .returned (.tuple #[.slice none 0 0, .int .i64 0]) ∧ w.grownBy w' none := by
  obtain ⟨p, n, cp, rfl, hn⟩ := vc.opened
  obtain ⟨q, n', cp', rfl, hn'⟩ := mr.row.opened
  subst hn
  subst hn'
  go_enter Try.func20, Try.ntmps20
  go_wp2
  go_ret2
  exact ⟨rfl, World.grownBy.refl _ _⟩

/-- The sum of the first k rows, each times its number. -/
def vpart (cs : List Nat) (xss : List (List Nat)) (n0 k : Nat) : List Nat := (List.range n0).map fun p => xsum (fun j => M.mul (cs.getD j 0) ((xss.getD j []).getD p 0)) k

theorem vpart_len (cs : List Nat) (xss : List (List Nat)) (n0 k : Nat) : (vpart cs xss n0 k).length = n0 := by simp [vpart]
theorem vpart_step (cs : List Nat) (xss : List (List Nat)) (n0 k : Nat) : vmad (vpart cs xss n0 k) (xss.getD k []) (cs.getD k 0) = vpart cs xss n0 (k + 1) := by
  unfold vmad
  rw [vpart_len]
  refine List.map_congr_left fun p hp => ?_
  unfold vpart
  rw [getD_range _ _ _ (List.mem_range.1 hp)]
  rfl

theorem Cells.spot {w : World} {p : Option Addr} {n cap : Nat} {vs : List Value} (h : Cells w (.slice p n cap) vs) {k : Nat} (hk : k < vs.length) :
    ∃ b off, p = some ⟨b, off, none⟩ ∧ w.cell? ⟨b, off + k, none⟩ = some (vs.getD k undef) := by
  obtain ⟨b, off, cap', e, h1⟩ := h.at hk
  injection e with e1 _ _
  exact ⟨b, off, e1, h1⟩

/-- A row of noughts, as make lays it. -/
theorem own_made (w : World) (n : Nat) (hn : n ≤ 140737488351232) (cs : List Nat) (xss : List (List Nat)) : Own w.heap.size (w.alloc (.cells (madeCells #[.int .u8 0] n) 5)) (.slice (some ⟨w.heap.size, 0, none⟩) n n) (vpart cs xss n 0) :=
  row_own (g := fun _ => 0) ((World.rowIs_made w (.int .u8 0) n 5).congr (by simp [bv])) (by simp) hn (Nat.le_refl _)

theorem Own.down {B B' : Nat} {w : World} {v : Value} {xs : List Nat} (h : Own B' w v xs) (hB : B ≤ B') : Own B w v xs :=
  ⟨h.small, h.len, h.row.1, by
    rcases h.row.2 with h | ⟨g, cp, cur, a1, a2, a3⟩
    · exact .inl h
    · exact .inr ⟨g, cp, cur, a1, by omega, a3⟩⟩

set_option maxHeartbeats 1600000 in
theorem refCombine_yes {w : World} {c r : Value} {cs : List Nat} {vs : List Value} {xss : List (List Nat)} (vc : Vec w c cs) (mr : Mat w r vs xss) (hl : cs.length = xss.length) (h0 : 0 < xss.length)
    (hfit : ∀ k, k < xss.length → (xss.getD k []).length = (xss.getD 0 []).length) :
    Calls Try.prog 20 #[c, r] w fun e w' => ∃ v, e = .returned (.tuple #[v, .int .i64 0]) ∧ Own w.heap.size w' v (vcomb cs xss) ∧ w.grownBy w' none := by
  obtain ⟨p, n, cp, rfl, hn⟩ := vc.opened
  obtain ⟨q, N, cap, rfl, hN⟩ := mr.row.opened
  have hl1 := mr.row.len
  have hsame := mr.same
  obtain ⟨b, off, rfl, hc0⟩ := mr.row.spot (k := 0) (by omega)
  obtain ⟨p0, n0, c0, e0, hn0⟩ := (mr.vec 0 h0).opened
  have hn0l : n0 ≤ 140737488351232 := by rw [hn0]; exact (mr.vec 0 h0).len
  rw [e0] at hc0
  have hc0' : w.cell? ⟨b, off, none⟩ = some (.slice p0 n0 c0) := hc0
  have heq : ((n : Int) != (N : Int)) = false := by simp; omega
  have hne : ((N : Int) == 0) = false := by simp; omega
  have hpos : (0 : Int) < (N : Int) := by omega
  have hNl : N ≤ 140737488351232 := by omega
  have HN : Hid (n = cs.length ∧ N = xss.length ∧ cs.length = xss.length ∧ n0 = (xss.getD 0 []).length ∧ N = vs.length) := ⟨hn, by omega, hl, hn0, hN⟩
  have HF : Hid (∀ k, k < xss.length → (xss.getD k []).length = (xss.getD 0 []).length) := hfit
  clear hfit hl hn hsame hn0 h0 e0 hN hc0 hl1
  obtain ⟨i0, hi, hz0, hz1, hz2⟩ := info_parts Try.info5
  go_enter Try.func20, Try.ntmps20
  go_wp2_with (at_make; refine wpList_make_row _ rfl _ _ 22 rfl 5 i0 (.int .u8 0) Try.underlying22 hi hz0 hz1 rfl _ _ n0 rfl rfl (by rw [hz2]; omega) (by omega) ?_)
  have O0 : Hid (Own w.heap.size (w.alloc (.cells (madeCells #[.int .u8 0] n0) 5)) (.slice (some ⟨w.heap.size, 0, none⟩) n0 n0) (vpart cs xss n0 0)) := own_made w n0 hn0l cs xss
  have VC : Hid (Vec w (.slice p n cp) cs) := vc
  have MR : Hid (Mat w (.slice (some ⟨b, off, none⟩) N cap) vs xss) := mr
  clear vc mr hi hz0 hz1 hz2 hc0'
  go_loopw [6, 7] (fun tv ti wr => ∃ k : Nat, k ≤ N ∧ ti = .int .i64 k ∧ Own w.heap.size wr tv (vpart cs xss n0 k) ∧ Hid (w.grownBy wr none)) (fun _ ti _ => N - (intOf ti).toNat)
  case atStart => exact ⟨0, by omega, rfl, O0.out, World.grownBy_alloc w _ none⟩
  case round =>
    clear O0
    obtain ⟨k, hk, rfl, ok, GK⟩ := hrel
    by_cases hlt : k < N
    · skip
      obtain ⟨b1, off1, e1, hr⟩ := MR.out.row.spot (k := k) (by have := HN.out; omega)
      obtain ⟨rfl, rfl⟩ : b = b1 ∧ off = off1 := by
        injection e1 with e1
        injection e1 with e2 e3
        exact ⟨e2, e3⟩
      clear e1
      obtain ⟨bc, offc, rfl, hc, h1⟩ := VC.out.spot (k := k) (by have := HN.out; omega)
      obtain ⟨pk, nk, ck, ek, hnk⟩ := (MR.out.vec k (by have := HN.out; omega)).opened
      have VK : Hid (Vec w (.slice pk nk ck) (xss.getD k [])) := by rw [← ek]; exact MR.out.vec k (by have := HN.out; omega)
      rw [ek] at hr
      have HNK : Hid (nk = (xss.getD k []).length) := hnk
      clear ek hnk
      have HS : Hid (vmad (vpart cs xss n0 k) (xss.getD k []) (cs.getD k 0) = vpart cs xss n0 (k + 1)) := vpart_step cs xss n0 k
      have HPL : Hid ((vpart cs xss n0 k).length = n0) := vpart_len cs xss n0 k
      generalize vpart cs xss n0 k = L at *
      generalize cs.getD k 0 = x at *
      have i1 : (k : Int) < (n : Int) := by have := HN.out; omega
      have i2 : (k : Int) < (N : Int) := by have := HN.out; omega
      have i3 : (0 : Int) ≤ (k : Int) := by omega
      have HY : Hid (∀ w', w.grownBy w' none → w'.cell? ⟨b, off + k, none⟩ = some (.slice pk nk ck) ∧ w'.cell? ⟨bc, offc + k, none⟩ = some (.int .u8 (x : Int))) := fun w' g => ⟨g.cell hr (by simp), g.cell hc (by simp)⟩
      have OK : Hid (Own w.heap.size wr u6 L) := ok
      have HB : Hid (w.heap.size ≤ wr.heap.size) := GK.out.size
      clear ok hr hc
      have hL0 : (xss.getD k []).length = L.length := by rw [HPL.out]; have h1 := HF.out k (by have := HN.out; omega); have h2 := HN.out; omega
      have hL : Hid ((xss.getD k []).length = L.length) := hL0
      clear hL0
      go_wp2_with fail
      go_region_held3 (fun w' => w'.cell? ⟨b, off + k, none⟩ = some (.slice pk nk ck) ∧ w'.cell? ⟨bc, offc + k, none⟩ = some (.int .u8 (x : Int)))
        (first | exact HY.out _ (grown_trans GK.out (grown_drewN wr 1)) | exact HY.out _ (grown_trans GK.out (grown_trans (grown_drewN wr 1) hg)))
        (first
          | (go_at_call 12; refine (refMulAdd_nat h1 (OK.out.vec.keep (grown_drewN wr 1)) (VK.out.keep (grown_trans GK.out (grown_drewN wr 1))) hL.out).mono ?_; rw [HS.out]; rintro e w2 ⟨v', rfl, ho, hg⟩))
      have R : Hid (Own w.heap.size w2 v' (vpart cs xss n0 (k + 1)) ∧ w.grownBy w2 none) :=
        ⟨ho.down HB.out, grown_trans GK.out (grown_trans (grown_drewN wr 1) hg)⟩
      clear ho hg HY OK HB HPL HS hL VK HNK
      go_wp2
      go_roundw
      case rel => exact ⟨k + 1, by omega, by go_num, R.out.1, R.out.2⟩
      case measure => simp [intOf]; omega
    · go_wp2
      go_ret2
      refine ⟨_, rfl, ?_, GK.out⟩
      have e : vpart cs xss n0 k = vcomb cs xss := by
        have h1 := HN.out
        have h2 : k = xss.length := by omega
        unfold vpart vcomb vcat
        rw [h1.2.2.2.1, h2]
      rw [← e]
      exact ok

set_option maxHeartbeats 1600000 in
theorem refCombine_no {w : World} {c r : Value} {cs : List Nat} {vs : List Value} {xss : List (List Nat)} (vc : Vec w c cs) (mr : Mat w r vs xss) (hl : cs.length = xss.length) (m : Nat) (hm : m < xss.length)
    (hfit : ∀ k, k < m → (xss.getD k []).length = (xss.getD 0 []).length) (hno : (xss.getD m []).length ≠ (xss.getD 0 []).length) :
    Calls Try.prog 20 #[c, r] w fun e w' => e = .returned (.tuple #[.slice none 0 0, .int .i64 1]) ∧ w.grownBy w' none := by
  have h0 : 0 < xss.length := by omega
  obtain ⟨p, n, cp, rfl, hn⟩ := vc.opened
  obtain ⟨q, N, cap, rfl, hN⟩ := mr.row.opened
  have hl1 := mr.row.len
  have hsame := mr.same
  obtain ⟨b, off, rfl, hc0⟩ := mr.row.spot (k := 0) (by omega)
  obtain ⟨p0, n0, c0, e0, hn0⟩ := (mr.vec 0 h0).opened
  have hn0l : n0 ≤ 140737488351232 := by rw [hn0]; exact (mr.vec 0 h0).len
  rw [e0] at hc0
  have hc0' : w.cell? ⟨b, off, none⟩ = some (.slice p0 n0 c0) := hc0
  have heq : ((n : Int) != (N : Int)) = false := by simp; omega
  have hne : ((N : Int) == 0) = false := by simp; omega
  have hpos : (0 : Int) < (N : Int) := by omega
  have hNl : N ≤ 140737488351232 := by omega
  have HN : Hid (n = cs.length ∧ N = xss.length ∧ cs.length = xss.length ∧ n0 = (xss.getD 0 []).length ∧ N = vs.length) := ⟨hn, by omega, hl, hn0, hN⟩
  have HF : Hid (∀ k, k < m → (xss.getD k []).length = (xss.getD 0 []).length) := hfit
  have HM : Hid ((xss.getD m []).length ≠ (xss.getD 0 []).length) := hno
  have hmN : m < N := by omega
  clear hfit hno hm hl hn hsame hn0 h0 e0 hN hc0 hl1
  obtain ⟨i0, hi, hz0, hz1, hz2⟩ := info_parts Try.info5
  go_enter Try.func20, Try.ntmps20
  go_wp2_with (at_make; refine wpList_make_row _ rfl _ _ 22 rfl 5 i0 (.int .u8 0) Try.underlying22 hi hz0 hz1 rfl _ _ n0 rfl rfl (by rw [hz2]; omega) (by omega) ?_)
  have O0 : Hid (Own w.heap.size (w.alloc (.cells (madeCells #[.int .u8 0] n0) 5)) (.slice (some ⟨w.heap.size, 0, none⟩) n0 n0) (vpart cs xss n0 0)) := own_made w n0 hn0l cs xss
  have VC : Hid (Vec w (.slice p n cp) cs) := vc
  have MR : Hid (Mat w (.slice (some ⟨b, off, none⟩) N cap) vs xss) := mr
  clear vc mr hi hz0 hz1 hz2 hc0'
  go_loopw [6, 7] (fun tv ti wr => ∃ k : Nat, k ≤ m ∧ ti = .int .i64 k ∧ Own w.heap.size wr tv (vpart cs xss n0 k) ∧ Hid (w.grownBy wr none)) (fun _ ti _ => N - (intOf ti).toNat)
  case atStart => exact ⟨0, by omega, rfl, O0.out, World.grownBy_alloc w _ none⟩
  case round =>
    clear O0
    obtain ⟨k, hk, rfl, ok, GK⟩ := hrel
    by_cases hlt : k < m
    · skip
      obtain ⟨b1, off1, e1, hr⟩ := MR.out.row.spot (k := k) (by have := HN.out; omega)
      obtain ⟨rfl, rfl⟩ : b = b1 ∧ off = off1 := by
        injection e1 with e1
        injection e1 with e2 e3
        exact ⟨e2, e3⟩
      clear e1
      obtain ⟨bc, offc, rfl, hc, h1⟩ := VC.out.spot (k := k) (by have := HN.out; omega)
      obtain ⟨pk, nk, ck, ek, hnk⟩ := (MR.out.vec k (by have := HN.out; omega)).opened
      have VK : Hid (Vec w (.slice pk nk ck) (xss.getD k [])) := by rw [← ek]; exact MR.out.vec k (by have := HN.out; omega)
      rw [ek] at hr
      have HNK : Hid (nk = (xss.getD k []).length) := hnk
      clear ek hnk
      have HS : Hid (vmad (vpart cs xss n0 k) (xss.getD k []) (cs.getD k 0) = vpart cs xss n0 (k + 1)) := vpart_step cs xss n0 k
      have HPL : Hid ((vpart cs xss n0 k).length = n0) := vpart_len cs xss n0 k
      generalize vpart cs xss n0 k = L at *
      generalize cs.getD k 0 = x at *
      have i1 : (k : Int) < (n : Int) := by have := HN.out; omega
      have i2 : (k : Int) < (N : Int) := by have := HN.out; omega
      have i3 : (0 : Int) ≤ (k : Int) := by omega
      have HY : Hid (∀ w', w.grownBy w' none → w'.cell? ⟨b, off + k, none⟩ = some (.slice pk nk ck) ∧ w'.cell? ⟨bc, offc + k, none⟩ = some (.int .u8 (x : Int))) := fun w' g => ⟨g.cell hr (by simp), g.cell hc (by simp)⟩
      have OK : Hid (Own w.heap.size wr u6 L) := ok
      have HB : Hid (w.heap.size ≤ wr.heap.size) := GK.out.size
      clear ok hr hc
      have hL0 : (xss.getD k []).length = L.length := by rw [HPL.out]; have h1 := HF.out k (by have := HN.out; omega); have h2 := HN.out; omega
      have hL : Hid ((xss.getD k []).length = L.length) := hL0
      clear hL0
      go_wp2_with fail
      go_region_held3 (fun w' => w'.cell? ⟨b, off + k, none⟩ = some (.slice pk nk ck) ∧ w'.cell? ⟨bc, offc + k, none⟩ = some (.int .u8 (x : Int)))
        (first | exact HY.out _ (grown_trans GK.out (grown_drewN wr 1)) | exact HY.out _ (grown_trans GK.out (grown_trans (grown_drewN wr 1) hg)))
        (first
          | (go_at_call 12; refine (refMulAdd_nat h1 (OK.out.vec.keep (grown_drewN wr 1)) (VK.out.keep (grown_trans GK.out (grown_drewN wr 1))) hL.out).mono ?_; rw [HS.out]; rintro e w2 ⟨v', rfl, ho, hg⟩))
      have R : Hid (Own w.heap.size w2 v' (vpart cs xss n0 (k + 1)) ∧ w.grownBy w2 none) :=
        ⟨ho.down HB.out, grown_trans GK.out (grown_trans (grown_drewN wr 1) hg)⟩
      clear ho hg HY OK HB HPL HS hL VK HNK
      go_wp2
      go_roundw
      case rel => exact ⟨k + 1, by omega, by go_num, R.out.1, R.out.2⟩
      case measure => simp [intOf]; omega
    · skip
      obtain ⟨b1, off1, e1, hr⟩ := MR.out.row.spot (k := k) (by have := HN.out; omega)
      obtain ⟨rfl, rfl⟩ : b = b1 ∧ off = off1 := by
        injection e1 with e1
        injection e1 with e2 e3
        exact ⟨e2, e3⟩
      clear e1
      obtain ⟨bc, offc, rfl, hc, h1⟩ := VC.out.spot (k := k) (by have := HN.out; omega)
      obtain ⟨pk, nk, ck, ek, hnk⟩ := (MR.out.vec k (by have := HN.out; omega)).opened
      have VK : Hid (Vec w (.slice pk nk ck) (xss.getD k [])) := by rw [← ek]; exact MR.out.vec k (by have := HN.out; omega)
      rw [ek] at hr
      have HNK : Hid (nk = (xss.getD k []).length) := hnk
      clear ek hnk
      have HS : Hid (vmad (vpart cs xss n0 k) (xss.getD k []) (cs.getD k 0) = vpart cs xss n0 (k + 1)) := vpart_step cs xss n0 k
      have HPL : Hid ((vpart cs xss n0 k).length = n0) := vpart_len cs xss n0 k
      generalize vpart cs xss n0 k = L at *
      generalize cs.getD k 0 = x at *
      have i1 : (k : Int) < (n : Int) := by have := HN.out; omega
      have i2 : (k : Int) < (N : Int) := by have := HN.out; omega
      have i3 : (0 : Int) ≤ (k : Int) := by omega
      have HY : Hid (∀ w', w.grownBy w' none → w'.cell? ⟨b, off + k, none⟩ = some (.slice pk nk ck) ∧ w'.cell? ⟨bc, offc + k, none⟩ = some (.int .u8 (x : Int))) := fun w' g => ⟨g.cell hr (by simp), g.cell hc (by simp)⟩
      have OK : Hid (Own w.heap.size wr u6 L) := ok
      have HB : Hid (w.heap.size ≤ wr.heap.size) := GK.out.size
      clear ok hr hc
      have hL0 : (xss.getD k []).length ≠ L.length := by
        rw [HPL.out]
        have h1 := HM.out
        have h2 := HN.out
        have h3 : k = m := by omega
        rw [← h3] at h1
        omega
      have hL : Hid ((xss.getD k []).length ≠ L.length) := hL0
      clear hL0
      go_wp2_with fail
      go_region_held3 (fun w' => w'.cell? ⟨b, off + k, none⟩ = some (.slice pk nk ck) ∧ w'.cell? ⟨bc, offc + k, none⟩ = some (.int .u8 (x : Int)))
        (first | exact HY.out _ (grown_trans GK.out (grown_drewN wr 1)))
        (first
          | (go_at_call 12; refine (refMulAdd_no (OK.out.vec.keep (grown_drewN wr 1)) (VK.out.keep (grown_trans GK.out (grown_drewN wr 1))) hL.out).mono ?_; rintro e w2 ⟨rfl, hw⟩; obtain rfl := hw.symm; clear hw))
      clear HY OK HB HPL HS hL VK HNK
      go_wp2
      go_ret2
      exact ⟨rfl, grown_trans GK.out (grown_drewN wr 1)⟩
end Go.Proofs.Ytlodpffdmlnemaa
