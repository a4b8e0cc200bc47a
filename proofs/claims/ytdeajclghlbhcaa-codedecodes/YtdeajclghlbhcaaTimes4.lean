/- Contracts of the document's product of a matrix and chunks (times) and of its Encode. -/
import Derived.Test.YtdeajclghlbhcaaRefGen4
import Derived.Deep.RegionHeld3
import Derived.BigRegion
set_option linter.unusedVariables false
namespace Go.Proofs.Ytdeajclghlbhcaa
open Go.RowKit

/-- The first i rows of a product. -/
def combUp (G X : List (List Nat)) (L k i : Nat) : List (List Nat) := (List.range i).map fun i => combTo (G.getD i []) X L k
theorem combUp_next (G X : List (List Nat)) (L k i : Nat) : combUp G X L k i ++ [combTo (G.getD i []) X L k] = combUp G X L k (i + 1) := by simp [combUp, List.range_succ]
theorem mix_self (F : Nat → Nat) {L t : Nat} (h : t < L) : (mix F (List.replicate L 0) t).set t 0 = mix F (List.replicate L 0) t := by
  apply List.ext_getElem
  · simp
  · intro i h1 h2
    by_cases e : t = i
    · subst e
      have h := mix_get F (List.replicate L 0) t (by simpa using h)
      rw [gd_of _ h2, getD_replicate _ _ _ _ (by assumption)] at h
      simp [h]
    · simp [e]
theorem mix_comb (G X : List (List Nat)) (L k i : Nat) : mix (fun t => MX.xs (fun s => M.mul (at2 G i s) (at2 X s t)) k) (List.replicate L 0) L = combTo (G.getD i []) X L k := by
  have h := mix_all (fun t => MX.xs (fun s => M.mul (at2 G i s) (at2 X s t)) k) (List.replicate L 0)
  rw [List.length_replicate] at h
  rw [h]
  rfl

set_option maxHeartbeats 8000000 in
set_option maxRecDepth 100000 in
theorem refTimes_any {w0 : World} {g x : Value} {vg vx : List Value} {G X : List (List Nat)} {n k L : Nat} (ma : Mat w0 g vg G) (mb : Mat w0 x vx X) (sG : Shape G n k) (sX : Shape X k L) (hn1 : 1 ≤ n) (hn : n ≤ 255) (hk1 : 1 ≤ k) (hk : k ≤ 255) (hL1 : 1 ≤ L) :
    Calls Try.prog 39 #[g, x] w0 fun e w' => ∃ p m c us, e = .returned (.slice p m c) ∧ OwnMat w0.heap.size w' (.slice p m c) us (combUp G X L k n) ∧ Sep us ∧ w0.grownBy w' none := by
  obtain ⟨q, N, cap, rfl, hN⟩ := ma.row.opened
  obtain ⟨q', N', cap', rfl, hN'⟩ := mb.row.opened
  have hsa := ma.same
  have hsb := mb.same
  have hGl := sG.len
  have hXl := sX.len
  obtain rfl : n = N := by omega
  obtain rfl : k = N' := by omega
  obtain ⟨bx, ox, rfl, hd⟩ := mb.row.spot (k := 0) (by omega)
  obtain ⟨p1, m, c1, e1, hm⟩ := (mb.vec 0 (by omega)).opened
  have hLl : L ≤ 140737488351232 := by have := (mb.vec 0 (by omega)).len; rw [sX.row 0 (by omega)] at this; exact this
  obtain rfl : L = m := by rw [hm]; exact (sX.row 0 (by omega)).symm
  rw [e1, Nat.add_zero] at hd
  obtain ⟨bg, og, rfl, _⟩ := ma.row.spot (k := 0) (by omega)
  have KG : Hid (∀ w', w0.grownBy w' none → Mat w' (.slice (some ⟨bg, og, none⟩) n cap) vg G) := fun w' g => ma.keep g
  have KX : Hid (∀ w', w0.grownBy w' none → Mat w' (.slice (some ⟨bx, ox, none⟩) k cap') vx X) := fun w' g => mb.keep g
  have KD : Hid (∀ w', w0.grownBy w' none → w'.cell? ⟨bx, ox, none⟩ = some (.slice p1 L c1)) := fun w' g => g.cell (show w0.cell? ⟨bx, ox, none⟩ = some (.slice p1 L c1) from hd) (by simp)
  have HS : Hid (Shape G n k ∧ Shape X k L) := ⟨sG, sX⟩
  have hpos1 : (0 : Int) < (k : Int) := by omega
  clear hN hN' hsa hsb hGl hXl hd e1 hm ma mb sG sX
  go_enter Try.func39, Try.ntmps39
  go_wp2_with fail
  go_loopw [5, 6] (fun tv ti wr => ∃ (i : Nat) (us : List Value), i ≤ n ∧ ti = .int .i64 i ∧ Hid (us.length = i) ∧ Hid (OwnMat w0.heap.size wr tv us (combUp G X L k i)) ∧ Hid (Sep us) ∧ Hid (w0.grownBy wr none)) (fun _ ti _ => n - (intOf ti).toNat)
  case atStart => exact ⟨0, [], by omega, rfl, rfl, OwnMat.nil _ _, (fun i j hi => by simp at hi), World.grownBy.refl _ _⟩
  case round =>
    obtain ⟨i, us, hi, rfl, HU, OM, SP, GK⟩ := hrel
    obtain ⟨wa, hwa⟩ : ∃ wa, wa = wr := ⟨wr, rfl⟩
    subst hwa
    by_cases hlt : i < n
    · have i1 : (i : Int) < (n : Int) := by omega
      have i3 : (0 : Int) ≤ (i : Int) := by omega
      have hd0 := KD.out _ GK.out
      go_wp2_with (at_make; refine wpList_make_vec rfl _ _ rfl L rfl rfl hLl ?_; intro w1 p ou g1; have OU : Hid (Own wa.heap.size w1 (.slice p L L) (List.replicate L 0)) := ou; have G1' : Hid (wa.grownBy w1 none) := g1; clear ou g1)
      clear hd0
      obtain ⟨gu, rfl, q1, q2, q3, q4, q5, q6⟩ := OU.out.spot (k := 0) (by simp; omega)
      clear q1 q2 q3 q4 q5 q6
      go_loopw [8] (fun ti wr => ∃ (t : Nat), t ≤ L ∧ ti = .int .i64 t ∧ Hid (Own wa.heap.size wr (.slice (some ⟨gu, 0, none⟩) L L) (mix (fun t => MX.xs (fun s => M.mul (at2 G i s) (at2 X s t)) k) (List.replicate L 0) t)) ∧ Hid (wa.grownBy wr none)) (fun ti _ => L - (intOf ti).toNat)
      case atStart => exact ⟨0, by omega, rfl, by rw [mix_zero]; exact OU, G1'⟩
      case round =>
        clear OU G1'
        obtain ⟨t, ht, rfl, OJ, GJ⟩ := hrel
        by_cases htl : t < L
        · have j1 : (t : Int) < (L : Int) := by omega
          have j3 : (0 : Int) ≤ (t : Int) := by omega
          go_wp2_with fail
          go_loopw [9] (fun tj wr => ∃ (j : Nat), j ≤ k ∧ tj = .int .i64 j ∧ Hid (Own wa.heap.size wr (.slice (some ⟨gu, 0, none⟩) L L) ((mix (fun t => MX.xs (fun s => M.mul (at2 G i s) (at2 X s t)) k) (List.replicate L 0) t).set t (MX.xs (fun s => M.mul (at2 G i s) (at2 X s t)) j))) ∧ Hid (wa.grownBy wr none)) (fun tj _ => k - (intOf tj).toNat)
          case atStart => exact ⟨0, by omega, rfl, by have h := OJ.out; rw [← mix_self (fun t => MX.xs (fun s => M.mul (at2 G i s) (at2 X s t)) k) htl] at h; exact h, GJ⟩
          case round =>
            obtain ⟨j, hj, rfl, OS, GS⟩ := hrel
            by_cases hjl : j < k
            · have s1 : (j : Int) < (k : Int) := by omega
              have s3 : (0 : Int) ≤ (j : Int) := by omega
              have GW : w0.grownBy wr.drew none := grown_trans (grown_trans GK.out GS.out) (grown_drewN _ 1)
              have mg := KG.out _ GW
              have mx := KX.out _ GW
              have hgl := mg.same
              have hxl := mx.same
              have hGl := HS.out.1.len
              have hXl := HS.out.2.len
              obtain ⟨b2, o2, e2, hra⟩ := mg.row.spot (k := i) (by omega)
              obtain ⟨rfl, rfl⟩ : bg = b2 ∧ og = o2 := by
                injection e2 with e2
                injection e2 with e3 e4
                exact ⟨e3, e4⟩
              have va' := mg.vec i (by omega)
              obtain ⟨pk, nk, ck, ek, hnk⟩ := va'.opened
              rw [ek] at hra va'
              have hXr := HS.out.1.row i hlt
              obtain ⟨bk, ok, rfl, hax, hx256⟩ := va'.spot (k := j) (by omega)
              obtain ⟨b3, o3, e3, hrb⟩ := mx.row.spot (k := j) (by omega)
              obtain ⟨rfl, rfl⟩ : bx = b3 ∧ ox = o3 := by
                injection e3 with e3
                injection e3 with e4 e5
                exact ⟨e4, e5⟩
              have vb' := mx.vec j (by omega)
              obtain ⟨pt, nt, ct, et, hnt⟩ := vb'.opened
              rw [et] at hrb vb'
              have hYr := HS.out.2.row j hjl
              obtain ⟨bt, ot, rfl, hbx, hy256⟩ := vb'.spot (k := t) (by omega)
              have s4 : (j : Int) < (nk : Int) := by omega
              have s5 : (t : Int) < (nt : Int) := by omega
              have hS : MX.xs (fun s => M.mul (at2 G i s) (at2 X s t)) j < 256 := MX.xs_lt fun s _ => M.mul_lt _ (mat_small mg i s)
              have hm256 : M.mul ((G.getD i []).getD j 0) ((X.getD j []).getD t 0) < 256 := M.mul_lt _ hx256
              have hxe := u8_xor_nat (MX.xs (fun s => M.mul (at2 G i s) (at2 X s t)) j) (M.mul ((G.getD i []).getD j 0) ((X.getD j []).getD t 0)) hS hm256
              obtain ⟨g', e', hz, hcs, hf, hz2, hset, hgr⟩ := OS.out.spot (k := t) (by rw [List.length_set, mix_len]; simp; omega)
              obtain rfl : gu = g' := (by injection e' with e'; injection e' with e')
              rw [getD_set_self _ _ _ _ (by rw [mix_len]; simp; omega)] at hcs
              have hnew := M.xor_lt hS hm256
              have HN : Hid (Own wa.heap.size (wr.setCell ⟨gu, t, none⟩ (.int .u8 ((MX.xs (fun s => M.mul (at2 G i s) (at2 X s t)) j ^^^ M.mul ((G.getD i []).getD j 0) ((X.getD j []).getD t 0) : Nat) : Int))).drew (.slice (some ⟨gu, 0, none⟩) L L) ((mix (fun t => MX.xs (fun s => M.mul (at2 G i s) (at2 X s t)) k) (List.replicate L 0) t).set t (MX.xs (fun s => M.mul (at2 G i s) (at2 X s t)) (j + 1)))) := by
                have h := (hset _ hnew).keep (grown_drewN _ 1)
                rw [List.set_set] at h
                exact h
              have HGN : Hid (wa.grownBy (wr.setCell ⟨gu, t, none⟩ (.int .u8 ((MX.xs (fun s => M.mul (at2 G i s) (at2 X s t)) j ^^^ M.mul ((G.getD i []).getD j 0) ((X.getD j []).getD t 0) : Nat) : Int))).drew none) := grown_trans (grown_new GS.out (hgr _) (fun r e => OS.out.lo r e)) (grown_drewN _ 1)
              have K4 : Hid (∀ W, w0.grownBy W none → W.cell? ⟨bg, og + i, none⟩ = some (.slice (some ⟨bk, ok, none⟩) nk ck) ∧ W.cell? ⟨bk, ok + j, none⟩ = some (.int .u8 (((G.getD i []).getD j 0 : Nat) : Int)) ∧ W.cell? ⟨bx, ox + j, none⟩ = some (.slice (some ⟨bt, ot, none⟩) nt ct) ∧ W.cell? ⟨bt, ot + t, none⟩ = some (.int .u8 (((X.getD j []).getD t 0 : Nat) : Int))) := fun W gW => by
                have mg := KG.out _ gW
                have mx := KX.out _ gW
                obtain ⟨b2, o2, e2, r1⟩ := mg.row.spot (k := i) (by omega)
                injection e2 with e2
                injection e2 with e2 e2'
                subst e2 e2'
                have va' := mg.vec i (by omega)
                rw [ek] at r1 va'
                obtain ⟨b4, o4, e4, r2, _⟩ := va'.spot (k := j) (by omega)
                injection e4 with e4
                injection e4 with e4 e4'
                subst e4 e4'
                obtain ⟨b3, o3, e3, r3⟩ := mx.row.spot (k := j) (by omega)
                injection e3 with e3
                injection e3 with e3 e3'
                subst e3 e3'
                have vb' := mx.vec j (by omega)
                rw [et] at r3 vb'
                obtain ⟨b5, o5, e5, r4, _⟩ := vb'.spot (k := t) (by omega)
                injection e5 with e5
                injection e5 with e5 e5'
                subst e5 e5'
                exact ⟨r1, r2, r3, r4⟩
              generalize hNL : (mix (fun t => MX.xs (fun s => M.mul (at2 G i s) (at2 X s t)) k) (List.replicate L 0) t).set t (MX.xs (fun s => M.mul (at2 G i s) (at2 X s t)) (j + 1)) = NL at *
              have HNL : Hid ((mix (fun t => MX.xs (fun s => M.mul (at2 G i s) (at2 X s t)) k) (List.replicate L 0) t).set t (MX.xs (fun s => M.mul (at2 G i s) (at2 X s t)) (j + 1)) = NL) := hNL
              clear hNL
              have HGD : Hid (w0.grownBy wr.drew none) := GW
              have HGD2 : Hid (w0.grownBy (wr.setCell ⟨gu, t, none⟩ (.int .u8 ((MX.xs (fun s => M.mul (at2 G i s) (at2 X s t)) j ^^^ M.mul ((G.getD i []).getD j 0) ((X.getD j []).getD t 0) : Nat) : Int))).drew none) := grown_trans GK.out HGN.out
              clear hset hgr hz hz2 e' OS GS mg mx hgl hxl hGl hXl hra hax hrb hbx
              generalize MX.xs (fun s => M.mul (at2 G i s) (at2 X s t)) j = S0 at *
              generalize (G.getD i []).getD j 0 = x at *
              generalize (X.getD j []).getD t 0 = y at *
              have MM : Hid (∀ w', Calls Try.prog 32 #[.int .u8 (x : Int), .int .u8 (y : Int)] w' fun e w'' => e = .returned (.int .u8 ((M.mul x y : Nat) : Int)) ∧ w'' = w') := fun w' => refMul_any _ _ w' (by omega) (by omega) (by omega) (by omega)
              generalize M.mul x y = z at *
              generalize S0 ^^^ z = r at *
              clear GW e2 e3 ek et va' vb' hnk hnt hXr hYr
              have j6 : t < L := htl
              go_wp2_with fail
              obtain ⟨hra, hax, hrb, hbx⟩ := K4.out _ HGD.out
              clear K4 HGD HGD2
              go_region_with (go_at_call 32; refine (MM.out _).mono ?_; rintro e w3 ⟨rfl, hw⟩; obtain rfl := hw.symm; clear hw)
              all_goals
                go_wp2
                go_roundw
                case rel => exact ⟨j + 1, by omega, by go_num, by rw [HNL.out]; exact HN, HGN⟩
                case measure => simp [intOf]; omega
            · obtain rfl : j = k := by omega
              have OS' : Hid (Own wa.heap.size wr (.slice (some ⟨gu, 0, none⟩) L L) (mix (fun t => MX.xs (fun s => M.mul (at2 G i s) (at2 X s t)) j) (List.replicate L 0) (t + 1))) := by
                have h := OS.out
                rw [mix_set (fun t => MX.xs (fun s => M.mul (at2 G i s) (at2 X s t)) j)] at h
                exact h
              clear OS
              go_wp2
              go_roundw
              case rel => exact ⟨t + 1, by omega, by go_num, OS', GS⟩
              case measure => simp [intOf]; omega
        · obtain rfl : t = L := by omega
          have OJ' : Hid (Own wa.heap.size wr (.slice (some ⟨gu, 0, none⟩) t t) (combTo (G.getD i []) X t k)) := by
            have h := OJ.out
            rw [mix_comb] at h
            exact h
          have HB : Hid (w0.heap.size ≤ wr.heap.size) := Nat.le_trans GK.out.size GJ.out.size
          clear OJ
          go_wp2_with (at_builtin; refine wpList_append_out rfl _ _ rfl u5 ⟨wr.heap.size, 0, none⟩ rfl rfl (B := w0.heap.size) (us := us) (u := .slice (some ⟨gu, 0, none⟩) t t) ((OM.out.keep (grown_trans GJ.out (World.grownBy_alloc _ _ none))).out) (cell_new1 _ _ rfl) rfl (by have h1 := HB.out; simp; omega) (by have := HU.out; omega) ?_; intro v' w2 oo gg at2; have HO : Hid (Out w0.heap.size w2 v' (us ++ [.slice (some ⟨gu, 0, none⟩) t t])) := oo; have HG : Hid ((wr.alloc (.cells #[.slice (some ⟨gu, 0, none⟩) t t] 39)).grownBy w2 u5.ownBlock) := gg; clear oo gg at2)
          have R : Hid (OwnMat w0.heap.size w2 v' (us ++ [.slice (some ⟨gu, 0, none⟩) t t]) (combUp G X t k (i + 1)) ∧ Sep (us ++ [.slice (some ⟨gu, 0, none⟩) t t]) ∧ w0.grownBy w2 none) := by
            rw [← combUp_next]
            refine ⟨(OM.out.keep (grown_trans GJ.out (World.grownBy_alloc _ _ none))).more ((OJ'.out.down GK.out.size).keep (World.grownBy_alloc _ _ none)) (by have := HU.out; omega) (by simpa using HO.out.row) HG.out, SP.out.more (H := wa.heap.size) OM.out.hiRow OJ'.out.lo, ?_⟩
            exact grown_new (grown_trans GK.out (grown_trans GJ.out (World.grownBy_alloc _ _ none))) HG.out OM.out.lo
          clear HO HG OM OJ' HB SP
          go_roundw
          case rel => exact ⟨i + 1, us ++ [Value.slice (some ⟨gu, 0, none⟩) t t], by omega, by go_num, show _ = _ by simpa using HU.out, R.out.1, R.out.2.1, R.out.2.2⟩
          case measure => simp [intOf]; omega
    · obtain rfl : i = n := by omega
      obtain ⟨pm, nm, cm, rfl, hnm⟩ := OM.out.mat.row.opened
      clear hnm
      go_wp2
      go_ret
      exact ⟨pm, nm, cm, us, rfl, OM.out, SP.out, GK.out⟩
end Go.Proofs.Ytdeajclghlbhcaa
