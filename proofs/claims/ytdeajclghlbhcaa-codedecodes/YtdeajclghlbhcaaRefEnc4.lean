/- Contracts of the document's Encode and One. -/
import Derived.Test.YtdeajclghlbhcaaTimes4
set_option linter.unusedVariables false
namespace Go.Proofs.Ytdeajclghlbhcaa
open Go.RowKit

theorem enc_comb (X : List (List Nat)) (k n L : Nat) : combUp (genList k n) X L k n = codeList X k n L := by
  refine List.map_congr_left fun i hi => ?_
  rw [show (genList k n).getD i [] = genRow k i from by simp [genList, List.getD, List.mem_range.1 hi], code_of_gen]
theorem code_none (X : List (List Nat)) (k n : Nat) : codeList X k n 0 = List.replicate n [] := by
  apply List.ext_getElem
  · simp [codeList]
  · intro i h1 h2
    simp [codeList, codeRow]
theorem genList_shape (k n : Nat) : Shape (genList k n) n k := ⟨by simp [genList], fun j hj => by simp [genList, List.getD, hj, genRow_len]⟩

set_option maxHeartbeats 8000000 in
set_option maxRecDepth 100000 in
theorem refEncode_yes {w : World} {x : Value} {vx : List Value} {X : List (List Nat)} {k n L : Nat} (mb : Mat w x vx X) (sX : Shape X k L) (hk1 : 1 ≤ k) (hkn : k < n) (hn : n ≤ 255) :
    Calls Try.prog 18 #[.int .i64 (k : Int), .int .i64 (n : Int), x] w (Made w (codeList X k n L) 0) := by
  unfold Made
  have FF : Hid (∀ w, Calls Try.prog 11 #[.int .i64 (k : Int), .int .i64 (n : Int)] w fun e w' => e = .returned (.bool true) ∧ w' = w) := fun w => by
    have h := refMay4_any (k : Int) (n : Int) w
    rw [show mayI k n = true from mayI_iff.2 (by omega)] at h
    exact h
  have EE : Hid (Calls Try.prog 31 #[x] w fun e w' => e = .returned (.bool true) ∧ w.grownBy w' none) := by
    have h := refEven_any mb
    rw [show evenB X = true from evenB_iff.2 fun j hj => by rw [sX.row j (by rw [← sX.len]; exact hj), sX.row 0 (by omega)]] at h
    exact h
  have GG : Hid (∀ w, Calls Try.prog 13 #[.int .i64 (k : Int), .int .i64 (n : Int)] w (Made w (genList k n) 0)) := fun w => refGen_yes k n w hk1 hkn hn
  unfold Made at GG
  obtain ⟨q', N', cap', rfl, hN'⟩ := mb.row.opened
  have hsb := mb.same
  have hXl := sX.len
  obtain rfl : k = N' := by omega
  obtain ⟨bx, ox, rfl, hd⟩ := mb.row.spot (k := 0) (by omega)
  obtain ⟨p1, m, c1, e1, hm⟩ := (mb.vec 0 (by omega)).opened
  have hLl : L ≤ 140737488351232 := by have := (mb.vec 0 (by omega)).len; rw [sX.row 0 (by omega)] at this; exact this
  obtain rfl : L = m := by rw [hm]; exact (sX.row 0 (by omega)).symm
  rw [e1, Nat.add_zero] at hd
  have KXw : Hid (∀ w', w.grownBy w' none → Mat w' (.slice (some ⟨bx, ox, none⟩) k cap') vx X) := fun w' g => mb.keep g
  have KDw : Hid (∀ w', w.grownBy w' none → w'.cell? ⟨bx, ox, none⟩ = some (.slice p1 L c1)) := fun w' g => g.cell (show w.cell? ⟨bx, ox, none⟩ = some (.slice p1 L c1) from hd) (by simp)
  have HSX : Hid (Shape X k L) := sX
  have hpos1 : (0 : Int) < (k : Int) := by omega
  clear hN' hsb hXl hd e1 hm mb sX
  by_cases hL0 : L = 0
  · subst hL0
    go_enter Try.func18, Try.ntmps18
    go_wp2_with (first
      | (go_at_call 11; refine (FF.out _).mono ?_; rintro e w1 ⟨rfl, hw⟩; obtain rfl := hw.symm; clear hw)
      | (go_at_call 31; refine EE.out.mono ?_; rintro e we ⟨rfl, ge⟩; have hd0 := KDw.out _ ge; have GE : Hid (w.grownBy we none) := ge; clear ge)
      | (at_make; refine wpList_make_chunks rfl _ _ rfl n rfl rfl (by omega) ?_; intro w2 p om g2; have OM : Hid (OwnMat we.heap.size w2 (.slice p n n) (List.replicate n (.slice none 0 0)) (List.replicate n [])) := om; have G2 : Hid (w.grownBy w2 none) := grown_trans GE.out g2; clear om g2))
    go_ret2
    exact ⟨p, n, n, _, rfl, by rw [code_none]; exact OM.out.down GE.out.size, Sep.nils n, G2.out⟩
  · have hL1 : 1 ≤ L := by omega
    have hLe : ((L : Int) == 0) = false := by simp; omega
    have hLe2 : ¬ ((L : Int) = 0) := by omega
    clear hL0
    go_enter Try.func18, Try.ntmps18
    go_wp2_with (first
      | (go_at_call 11; refine (FF.out _).mono ?_; rintro e w1 ⟨rfl, hw⟩; obtain rfl := hw.symm; clear hw)
      | (go_at_call 31; refine EE.out.mono ?_; rintro e we ⟨rfl, ge⟩; have hd0 := KDw.out _ ge; have GE : Hid (w.grownBy we none) := ge; clear ge))
    refine (GG.out _).mono ?_
    rintro e w0 ⟨pg, ng, cg, vg, rfl, om, sp, g0⟩
    obtain ⟨G, hG⟩ : ∃ G, G = genList k n := ⟨_, rfl⟩
    rw [← hG] at om
    have HGE : Hid (G = genList k n) := hG
    have sG : Shape G n k := by rw [hG]; exact genList_shape k n
    obtain rfl : n = ng := by
      obtain ⟨_, _, _, e, hn'⟩ := om.mat.row.opened
      injection e with _ e2 _
      have := om.same
      have := sG.len
      omega
    obtain ⟨bg, og, rfl, _⟩ := om.mat.row.spot (k := 0) (by have := om.same; have := sG.len; omega)
    have G0 : Hid (w.grownBy w0 none) := grown_trans GE.out g0
    have KG : Hid (∀ w', w0.grownBy w' none → Mat w' (.slice (some ⟨bg, og, none⟩) n cg) vg G) := fun w' g => om.mat.keep g
    have KX : Hid (∀ w', w0.grownBy w' none → Mat w' (.slice (some ⟨bx, ox, none⟩) k cap') vx X) := fun w' g => KXw.out _ (grown_trans G0.out g)
    have KD : Hid (∀ w', w0.grownBy w' none → w'.cell? ⟨bx, ox, none⟩ = some (.slice p1 L c1)) := fun w' g => KDw.out _ (grown_trans G0.out g)
    have HS : Hid (Shape G n k ∧ Shape X k L) := ⟨sG, HSX.out⟩
    have hk : k ≤ 255 := by omega
    clear hG om sp g0 sG hd0 GE KXw KDw HSX GG FF EE
    go_wp2_with fail
    go_loopw [10, 11] (fun tv ti wr => ∃ (i : Nat) (us : List Value), i ≤ n ∧ ti = .int .i64 i ∧ Hid (us.length = i) ∧ Hid (OwnMat w0.heap.size wr tv us (combUp G X L k i)) ∧ Hid (Sep us) ∧ Hid (w0.grownBy wr none)) (fun _ ti _ => n - (intOf ti).toNat)
    case atStart => exact ⟨0, [], by omega, rfl, rfl, OwnMat.nil _ _, (fun i j hi => by simp at hi), World.grownBy.refl _ _⟩
    case round =>
      obtain ⟨i, us, hi, rfl, HU, OM, SP, GK⟩ := hrel
      obtain ⟨wa, hwa⟩ : ∃ wa, wa = wr := ⟨wr, rfl⟩
      subst hwa
      by_cases hlt : i < n
      · have i1 : (i : Int) < (n : Int) := by omega
        have i3 : (0 : Int) ≤ (i : Int) := by omega
        have hd0 := KD.out _ GK.out
        go_wp2_with (at_make; refine wpList_make_vec rfl _ _ rfl L rfl rfl hLl ?_; intro w1 p ou g1; have OU : Hid (Own wa.heap.size w1 (.slice p L L) (List.replicate L 0)) := ou; have G1' : Hid (wa.grownBy w1 none) := g1; clear ou g1)
        clear hd0
        obtain ⟨gu, rfl, q1, q2, q3, q4, q5, q6⟩ := OU.out.spot (k := 0) (by simp; omega)
        clear q1 q2 q3 q4 q5 q6
        go_loopw [13] (fun ti wr => ∃ (t : Nat), t ≤ L ∧ ti = .int .i64 t ∧ Hid (Own wa.heap.size wr (.slice (some ⟨gu, 0, none⟩) L L) (mix (fun t => MX.xs (fun s => M.mul (at2 G i s) (at2 X s t)) k) (List.replicate L 0) t)) ∧ Hid (wa.grownBy wr none)) (fun ti _ => L - (intOf ti).toNat)
        case atStart => exact ⟨0, by omega, rfl, by rw [mix_zero]; exact OU, G1'⟩
        case round =>
          clear OU G1'
          obtain ⟨t, ht, rfl, OJ, GJ⟩ := hrel
          by_cases htl : t < L
          · have j1 : (t : Int) < (L : Int) := by omega
            have j3 : (0 : Int) ≤ (t : Int) := by omega
            go_wp2_with fail
            go_loopw [14] (fun tj wr => ∃ (j : Nat), j ≤ k ∧ tj = .int .i64 j ∧ Hid (Own wa.heap.size wr (.slice (some ⟨gu, 0, none⟩) L L) ((mix (fun t => MX.xs (fun s => M.mul (at2 G i s) (at2 X s t)) k) (List.replicate L 0) t).set t (MX.xs (fun s => M.mul (at2 G i s) (at2 X s t)) j))) ∧ Hid (wa.grownBy wr none)) (fun tj _ => k - (intOf tj).toNat)
            case atStart => exact ⟨0, by omega, rfl, by have h := OJ.out; rw [← mix_self (fun t => MX.xs (fun s => M.mul (at2 G i s) (at2 X s t)) k) htl] at h; exact h, GJ⟩
            case round =>
              obtain ⟨j, hj, rfl, OS, GS⟩ := hrel
              by_cases hjl : j < k
              · have s1 : (j : Int) < (k : Int) := by omega
                have s3 : (0 : Int) ≤ (j : Int) := by omega
                have GW : w0.grownBy wr.drew none := grown_trans (grown_trans GK.out GS.out) (grown_drewN _ 1)
                have mg := KG.out _ GW
                have mx := KX.out _ GW
                have hgl := mg.same
                have hxl := mx.same
                have hGl := HS.out.1.len
                have hXl := HS.out.2.len
                obtain ⟨b2, o2, e2, hra⟩ := mg.row.spot (k := i) (by omega)
                obtain ⟨rfl, rfl⟩ : bg = b2 ∧ og = o2 := by
                  injection e2 with e2
                  injection e2 with e3 e4
                  exact ⟨e3, e4⟩
                have va' := mg.vec i (by omega)
                obtain ⟨pk, nk, ck, ek, hnk⟩ := va'.opened
                rw [ek] at hra va'
                have hXr := HS.out.1.row i hlt
                obtain ⟨bk, ok, rfl, hax, hx256⟩ := va'.spot (k := j) (by omega)
                obtain ⟨b3, o3, e3, hrb⟩ := mx.row.spot (k := j) (by omega)
                obtain ⟨rfl, rfl⟩ : bx = b3 ∧ ox = o3 := by
                  injection e3 with e3
                  injection e3 with e4 e5
                  exact ⟨e4, e5⟩
                have vb' := mx.vec j (by omega)
                obtain ⟨pt, nt, ct, et, hnt⟩ := vb'.opened
                rw [et] at hrb vb'
                have hYr := HS.out.2.row j hjl
                obtain ⟨bt, ot, rfl, hbx, hy256⟩ := vb'.spot (k := t) (by omega)
                have s4 : (j : Int) < (nk : Int) := by omega
                have s5 : (t : Int) < (nt : Int) := by omega
                have hS : MX.xs (fun s => M.mul (at2 G i s) (at2 X s t)) j < 256 := MX.xs_lt fun s _ => M.mul_lt _ (mat_small mg i s)
                have hm256 : M.mul ((G.getD i []).getD j 0) ((X.getD j []).getD t 0) < 256 := M.mul_lt _ hx256
                have hxe := u8_xor_nat (MX.xs (fun s => M.mul (at2 G i s) (at2 X s t)) j) (M.mul ((G.getD i []).getD j 0) ((X.getD j []).getD t 0)) hS hm256
                obtain ⟨g', e', hz, hcs, hf, hz2, hset, hgr⟩ := OS.out.spot (k := t) (by rw [List.length_set, mix_len]; simp; omega)
                obtain rfl : gu = g' := (by injection e' with e'; injection e' with e')
                rw [getD_set_self _ _ _ _ (by rw [mix_len]; simp; omega)] at hcs
                have hnew := M.xor_lt hS hm256
                have HN : Hid (Own wa.heap.size (wr.setCell ⟨gu, t, none⟩ (.int .u8 ((MX.xs (fun s => M.mul (at2 G i s) (at2 X s t)) j ^^^ M.mul ((G.getD i []).getD j 0) ((X.getD j []).getD t 0) : Nat) : Int))).drew (.slice (some ⟨gu, 0, none⟩) L L) ((mix (fun t => MX.xs (fun s => M.mul (at2 G i s) (at2 X s t)) k) (List.replicate L 0) t).set t (MX.xs (fun s => M.mul (at2 G i s) (at2 X s t)) (j + 1)))) := by
                  have h := (hset _ hnew).keep (grown_drewN _ 1)
                  rw [List.set_set] at h
                  exact h
                have HGN : Hid (wa.grownBy (wr.setCell ⟨gu, t, none⟩ (.int .u8 ((MX.xs (fun s => M.mul (at2 G i s) (at2 X s t)) j ^^^ M.mul ((G.getD i []).getD j 0) ((X.getD j []).getD t 0) : Nat) : Int))).drew none) := grown_trans (grown_new GS.out (hgr _) (fun r e => OS.out.lo r e)) (grown_drewN _ 1)
                have K4 : Hid (∀ W, w0.grownBy W none → W.cell? ⟨bg, og + i, none⟩ = some (.slice (some ⟨bk, ok, none⟩) nk ck) ∧ W.cell? ⟨bk, ok + j, none⟩ = some (.int .u8 (((G.getD i []).getD j 0 : Nat) : Int)) ∧ W.cell? ⟨bx, ox + j, none⟩ = some (.slice (some ⟨bt, ot, none⟩) nt ct) ∧ W.cell? ⟨bt, ot + t, none⟩ = some (.int .u8 (((X.getD j []).getD t 0 : Nat) : Int))) := fun W gW => by
                  have mg := KG.out _ gW
                  have mx := KX.out _ gW
                  obtain ⟨b2, o2, e2, r1⟩ := mg.row.spot (k := i) (by omega)
                  injection e2 with e2
                  injection e2 with e2 e2'
                  subst e2 e2'
                  have va' := mg.vec i (by omega)
                  rw [ek] at r1 va'
                  obtain ⟨b4, o4, e4, r2, _⟩ := va'.spot (k := j) (by omega)
                  injection e4 with e4
                  injection e4 with e4 e4'
                  subst e4 e4'
                  obtain ⟨b3, o3, e3, r3⟩ := mx.row.spot (k := j) (by omega)
                  injection e3 with e3
                  injection e3 with e3 e3'
                  subst e3 e3'
                  have vb' := mx.vec j (by omega)
                  rw [et] at r3 vb'
                  obtain ⟨b5, o5, e5, r4, _⟩ := vb'.spot (k := t) (by omega)
                  injection e5 with e5
                  injection e5 with e5 e5'
                  subst e5 e5'
                  exact ⟨r1, r2, r3, r4⟩
                generalize hNL : (mix (fun t => MX.xs (fun s => M.mul (at2 G i s) (at2 X s t)) k) (List.replicate L 0) t).set t (MX.xs (fun s => M.mul (at2 G i s) (at2 X s t)) (j + 1)) = NL at *
                have HNL : Hid ((mix (fun t => MX.xs (fun s => M.mul (at2 G i s) (at2 X s t)) k) (List.replicate L 0) t).set t (MX.xs (fun s => M.mul (at2 G i s) (at2 X s t)) (j + 1)) = NL) := hNL
                clear hNL
                have HGD : Hid (w0.grownBy wr.drew none) := GW
                have HGD2 : Hid (w0.grownBy (wr.setCell ⟨gu, t, none⟩ (.int .u8 ((MX.xs (fun s => M.mul (at2 G i s) (at2 X s t)) j ^^^ M.mul ((G.getD i []).getD j 0) ((X.getD j []).getD t 0) : Nat) : Int))).drew none) := grown_trans GK.out HGN.out
                clear hset hgr hz hz2 e' OS GS mg mx hgl hxl hGl hXl hra hax hrb hbx
                generalize MX.xs (fun s => M.mul (at2 G i s) (at2 X s t)) j = S0 at *
                generalize (G.getD i []).getD j 0 = x at *
                generalize (X.getD j []).getD t 0 = y at *
                have MM : Hid (∀ w', Calls Try.prog 32 #[.int .u8 (x : Int), .int .u8 (y : Int)] w' fun e w'' => e = .returned (.int .u8 ((M.mul x y : Nat) : Int)) ∧ w'' = w') := fun w' => refMul_any _ _ w' (by omega) (by omega) (by omega) (by omega)
                generalize M.mul x y = z at *
                generalize S0 ^^^ z = r at *
                clear GW e2 e3 ek et va' vb' hnk hnt hXr hYr
                have j6 : t < L := htl
                go_wp2_with fail
                obtain ⟨hra, hax, hrb, hbx⟩ := K4.out _ HGD.out
                clear K4 HGD HGD2
                go_region_with (go_at_call 32; refine (MM.out _).mono ?_; rintro e w3 ⟨rfl, hw⟩; obtain rfl := hw.symm; clear hw)
                all_goals
                  go_wp2
                  go_roundw
                  case rel => exact ⟨j + 1, by omega, by go_num, by rw [HNL.out]; exact HN, HGN⟩
                  case measure => simp [intOf]; omega
              · obtain rfl : j = k := by omega
                have OS' : Hid (Own wa.heap.size wr (.slice (some ⟨gu, 0, none⟩) L L) (mix (fun t => MX.xs (fun s => M.mul (at2 G i s) (at2 X s t)) j) (List.replicate L 0) (t + 1))) := by
                  have h := OS.out
                  rw [mix_set (fun t => MX.xs (fun s => M.mul (at2 G i s) (at2 X s t)) j)] at h
                  exact h
                clear OS
                go_wp2
                go_roundw
                case rel => exact ⟨t + 1, by omega, by go_num, OS', GS⟩
                case measure => simp [intOf]; omega
          · obtain rfl : t = L := by omega
            have OJ' : Hid (Own wa.heap.size wr (.slice (some ⟨gu, 0, none⟩) t t) (combTo (G.getD i []) X t k)) := by
              have h := OJ.out
              rw [mix_comb] at h
              exact h
            have HB : Hid (w0.heap.size ≤ wr.heap.size) := Nat.le_trans GK.out.size GJ.out.size
            clear OJ
            go_wp2_with (at_builtin; refine wpList_append_out rfl _ _ rfl u10 ⟨wr.heap.size, 0, none⟩ rfl rfl (B := w0.heap.size) (us := us) (u := .slice (some ⟨gu, 0, none⟩) t t) ((OM.out.keep (grown_trans GJ.out (World.grownBy_alloc _ _ none))).out) (cell_new1 _ _ rfl) rfl (by have h1 := HB.out; simp; omega) (by have := HU.out; omega) ?_; intro v' w2 oo gg at2; have HO : Hid (Out w0.heap.size w2 v' (us ++ [.slice (some ⟨gu, 0, none⟩) t t])) := oo; have HG : Hid ((wr.alloc (.cells #[.slice (some ⟨gu, 0, none⟩) t t] 39)).grownBy w2 u10.ownBlock) := gg; clear oo gg at2)
            have R : Hid (OwnMat w0.heap.size w2 v' (us ++ [.slice (some ⟨gu, 0, none⟩) t t]) (combUp G X t k (i + 1)) ∧ Sep (us ++ [.slice (some ⟨gu, 0, none⟩) t t]) ∧ w0.grownBy w2 none) := by
              rw [← combUp_next]
              refine ⟨(OM.out.keep (grown_trans GJ.out (World.grownBy_alloc _ _ none))).more ((OJ'.out.down GK.out.size).keep (World.grownBy_alloc _ _ none)) (by have := HU.out; omega) (by simpa using HO.out.row) HG.out, SP.out.more (H := wa.heap.size) OM.out.hiRow OJ'.out.lo, ?_⟩
              exact grown_new (grown_trans GK.out (grown_trans GJ.out (World.grownBy_alloc _ _ none))) HG.out OM.out.lo
            clear HO HG OM OJ' HB SP
            go_roundw
            case rel => exact ⟨i + 1, us ++ [Value.slice (some ⟨gu, 0, none⟩) t t], by omega, by go_num, show _ = _ by simpa using HU.out, R.out.1, R.out.2.1, R.out.2.2⟩
            case measure => simp [intOf]; omega
      · obtain rfl : i = n := by omega
        obtain ⟨pm, nm, cm, rfl, hnm⟩ := OM.out.mat.row.opened
        clear hnm
        go_wp2
        go_ret2
        have h := OM.out.down G0.out.size
        rw [HGE.out, enc_comb] at h
        exact ⟨pm, nm, cm, us, rfl, h, SP.out, grown_trans G0.out GK.out⟩

set_option maxHeartbeats 1600000 in
theorem refEncode_no {w : World} {x : Value} {vx : List Value} {X : List (List Nat)} {k n : Int} (mb : Mat w x vx X) (hf : fitsB k n X = false) :
    Calls Try.prog 18 #[.int .i64 k, .int .i64 n, x] w fun e w' => e = .returned (.tuple #[.slice none 0 0, .int .i64 1]) ∧ w.grownBy w' none := by
  have EE : Hid (Calls Try.prog 31 #[x] w fun e w' => e = .returned (.bool (evenB X)) ∧ w.grownBy w' none) := refEven_any mb
  have FF : Hid (∀ w, Calls Try.prog 11 #[.int .i64 k, .int .i64 n] w fun e w' => e = .returned (.bool (mayI k n)) ∧ w' = w) := fun w => refMay4_any k n w
  obtain ⟨q, N, cap, rfl, hN⟩ := mb.row.opened
  have hs := mb.same
  have hNl : N ≤ 140737488351232 := by have := mb.row.len; omega
  have HW : Hid (w.grownBy w none) := World.grownBy.refl _ _
  unfold fitsB at hf
  rcases hm : mayI k n with _ | _
  · rw [hm] at FF
    clear hf hm hN hs mb
    go_enter Try.func18, Try.ntmps18
    go_wp2_with (go_at_call 11; refine (FF.out _).mono ?_; rintro e w1 ⟨rfl, hw⟩; obtain rfl := hw.symm; clear hw)
    go_ret2
    exact ⟨rfl, HW.out⟩
  · rw [hm] at FF
    by_cases hk : (N : Int) = k
    · have he : evenB X = false := by
        rw [hm, decide_eq_true (by omega)] at hf
        simpa using hf
      rw [he] at EE
      subst hk
      clear hf hm hN hs mb he
      go_enter Try.func18, Try.ntmps18
      go_wp2_with (first
        | (go_at_call 11; refine (FF.out _).mono ?_; rintro e w1 ⟨rfl, hw⟩; obtain rfl := hw.symm; clear hw)
        | (go_at_call 31; refine EE.out.mono ?_; rintro e we ⟨rfl, ge⟩; have GE : Hid (w.grownBy we none) := ge; clear ge))
      go_ret2
      exact ⟨rfl, GE.out⟩
    · have hne : ((N : Int) != k) = true := by simp; exact hk
      clear hf hm hN hs mb
      go_enter Try.func18, Try.ntmps18
      go_wp2_with (go_at_call 11; refine (FF.out _).mono ?_; rintro e w1 ⟨rfl, hw⟩; obtain rfl := hw.symm; clear hw)
      go_ret2
      exact ⟨rfl, HW.out⟩

set_option maxHeartbeats 1600000 in
theorem refOne_yes {w : World} {x : Value} {vx : List Value} {X : List (List Nat)} {k n L i : Nat} (mb : Mat w x vx X) (sX : Shape X k L) (hk1 : 1 ≤ k) (hkn : k < n) (hn : n ≤ 255) (hi : i < n) :
    Calls Try.prog 20 #[.int .i64 (k : Int), .int .i64 (n : Int), .int .i64 (i : Int), x] w fun e w' => ∃ p m c, e = .returned (.tuple #[.slice p m c, .int .i64 0]) ∧ Vec w' (.slice p m c) (codeRow X k L i) ∧ w.grownBy w' none := by
  have EE : Hid (Calls Try.prog 18 #[.int .i64 (k : Int), .int .i64 (n : Int), x] w (Made w (codeList X k n L) 0)) := refEncode_yes mb sX hk1 hkn hn
  unfold Made at EE
  have i1 : ¬ (i : Int) < 0 := by omega
  have i2 : ¬ (n : Int) ≤ (i : Int) := by omega
  have i3 : (i : Int) < (n : Int) := by omega
  have i4 : (0 : Int) ≤ (i : Int) := by omega
  clear mb sX
  go_enter Try.func20, Try.ntmps20
  go_wp2_with fail
  refine EE.out.mono ?_
  rintro e w1 ⟨p, m, c, us, rfl, om, sp, g1⟩
  have hlen : (codeList X k n L).length = n := by simp [codeList]
  have hsm := om.same
  obtain rfl : n = m := by
    obtain ⟨_, _, _, e, hn'⟩ := om.mat.row.opened
    injection e with _ e2 _
    omega
  obtain ⟨b, off, rfl, hc⟩ := om.mat.row.spot (k := i) (by omega)
  have hv := om.mat.vec i (by omega)
  rw [show (codeList X k n L).getD i [] = codeRow X k L i from by simp [codeList, List.getD, hi]] at hv
  obtain ⟨pv, nv, cv, ev, hnv⟩ := hv.opened
  rw [ev] at hc hv
  have HV : Hid (Vec w1 (.slice pv nv cv) (codeRow X k L i)) := hv
  have G1 : Hid (w.grownBy w1 none) := g1
  clear om sp g1 hlen hsm hv ev hnv EE
  go_wp2
  go_ret2
  exact ⟨pv, nv, cv, rfl, HV.out, G1.out⟩
end Go.Proofs.Ytdeajclghlbhcaa
