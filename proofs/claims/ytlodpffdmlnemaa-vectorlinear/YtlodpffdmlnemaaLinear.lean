/- VectorLinear: for any two slices of byte slices and any two byte slices the call hayricklaw02.VectorLinear(rows, more, c, v) returns true, and what was handed in reads afterwards as it read before.
   Conditions: none beyond the form's own (what is handed in is readable as data and within the form's reach). -/
import Derived.Test.YtlodpffdmlnemaaLift
import Derived.Test.YtlodpffdmlnemaaLinMath
namespace Go.Proofs.Ytlodpffdmlnemaa.vectorLinear
open Go.ChangeShapes Go.WideShapes Go.ChangeAt Go.RowKit
set_option linter.unusedVariables false

theorem min3 (a b c : Nat) : ∃ m : Nat, m ≤ a ∧ m ≤ b ∧ m ≤ c ∧ ∀ (ts : Array TypeId) (t : TypeId) (W : World), (Builtin.min_ ts t #[.int .i64 (a : Int), .int .i64 (b : Int), .int .i64 (c : Int)]).run Try.prog W = .ok (.int .i64 (m : Int)) W := by
  refine ⟨min a (min b c), by omega, by omega, by omega, fun ts t W => ?_⟩
  rw [run_min_int3]
  congr 2
  split <;> split at * <;> omega

theorem cap_ge {w : World} {p : Option Addr} {n cap : Nat} {xs : List Nat} (h : Vec w (.slice p n cap) xs) : n ≤ cap := by
  obtain ⟨_, _, p', cap', e, h3, _⟩ := h
  injection e with _ e2 e3
  omega

/-- One number of a vector, as a vector. -/
theorem one_of {w : World} {p : Option Addr} {n cap : Nat} {xs : List Nat} (h : Vec w (.slice p n cap) xs) {k : Nat} (hk : k < xs.length) :
    ∃ b off, p = some ⟨b, off, none⟩ ∧ Vec w (.slice (some ⟨b, off + k, none⟩) 1 (cap - k)) [xs.getD k 0] := by
  obtain ⟨b, off, rfl, hc, hs⟩ := h.spot hk
  have hcap := cap_ge h
  obtain ⟨h1, h2, p', cap', e, h3, h4, h5⟩ := h
  injection e with _ e2 e3
  refine ⟨b, off, rfl, by simpa using hs, by simp, some ⟨b, off + k, none⟩, cap - k, rfl, ?_, ?_, fun _ => ⟨b, off + k, rfl, fun j hj => ?_⟩⟩
  · simp; omega
  · omega
  · have : j = 0 := by simp at hj; omega
    subst this
    simpa using hc

set_option maxHeartbeats 32000000 in
set_option maxRecDepth 100000 in
theorem walk {w : World} {r m cs vv : Value} {us vs : List Value} {X Y : List (List Nat)} {C V : List Nat} (mr : Mat w r us X) (mm : Mat w m vs Y) (vc : Vec w cs C) (vV : Vec w vv V) :
    Calls Try.prog 7 #[r, m, cs, vv] w fun e w' => e = .returned (.bool true) ∧ w.grownBy w' none := by
  obtain ⟨p1, n1, c1, rfl, h1⟩ := mr.row.opened
  obtain ⟨p2, n2, c2, rfl, h2⟩ := mm.row.opened
  obtain ⟨p3, n3, c3, rfl, h3⟩ := vc.opened
  obtain ⟨p4, n4, c4, rfl, h4⟩ := vV.opened
  have b1 := mr.row.len
  have b2 := mm.row.len
  have b3 := vc.len
  have b4 := vV.len
  have q1 := mr.same
  have q2 := mm.same
  obtain ⟨K, k1, k2, k3, hM⟩ := min3 n1 n2 n3
  have HN : Hid (n1 = us.length ∧ n1 = X.length ∧ n2 = vs.length ∧ n2 = Y.length ∧ n3 = C.length ∧ n4 = V.length) := ⟨h1, by omega, h2, by omega, h3, h4⟩
  have hn4 : n4 ≤ 140737488351232 := by omega
  have hK : K * 24 ≤ 140737488351232 := by omega
  have MR : Hid (Mat w (.slice p1 n1 c1) us X) := mr
  have MM : Hid (Mat w (.slice p2 n2 c2) vs Y) := mm
  have VC : Hid (Vec w (.slice p3 n3 c3) C) := vc
  have VV : Hid (Vec w (.slice p4 n4 c4) V) := vV
  clear mr mm vc vV h1 h2 h3 h4 b1 b2 b3 b4 q1 q2
  go_enter Try.func7, Try.ntmps7
  go_wp2_with fail
  clear hM
  go_loopw [9, 11] (fun tn ti wr => ∃ k n : Nat, k ≤ K ∧ n ≤ n4 ∧ ti = .int .i64 k ∧ tn = .int .i64 n ∧ Hid (Fits n k X Y) ∧ Hid (w.grownBy wr none)) (fun _ ti _ => K - (intOf ti).toNat)
  case atStart => exact ⟨0, n4, by omega, by omega, rfl, rfl, fun j hj => by omega, World.grownBy.refl _ _⟩
  case round =>
    obtain ⟨k, n, hk, hn, rfl, rfl, HF, GK⟩ := hrel
    by_cases hlt : k < K
    · obtain ⟨b1, o1, rfl, hr⟩ := MR.out.row.spot (k := k) (by have := HN.out; omega)
      obtain ⟨b2, o2, rfl, hs⟩ := MM.out.row.spot (k := k) (by have := HN.out; omega)
      obtain ⟨pk, lk, ck, ek, hlk⟩ := (MR.out.vec k (by have := HN.out; omega)).opened
      obtain ⟨qk, mk, dk, fk, hmk⟩ := (MM.out.vec k (by have := HN.out; omega)).opened
      rw [ek] at hr
      rw [fk] at hs
      obtain ⟨n', g1, g2, g3, hM⟩ := min3 n lk mk
      have HF' : Hid (Fits n' (k + 1) X Y) := by
        intro j hj
        by_cases e : j = k
        · subst e; omega
        · have := HF.out j (by omega); omega
      have HY : Hid (∀ w', w.grownBy w' none → w'.cell? ⟨b1, o1 + k, none⟩ = some (.slice pk lk ck) ∧ w'.cell? ⟨b2, o2 + k, none⟩ = some (.slice qk mk dk)) := fun w' g => ⟨g.cell hr (by simp), g.cell hs (by simp)⟩
      have i1 : (k : Int) < (n1 : Int) := by omega
      have i2 : (k : Int) < (n2 : Int) := by omega
      have i3 : (0 : Int) ≤ (k : Int) := by omega
      clear ek fk hlk hmk hr hs HF
      go_wp2_with fail
      go_region_held3 (fun w' => w'.cell? ⟨b1, o1 + k, none⟩ = some (.slice pk lk ck) ∧ w'.cell? ⟨b2, o2 + k, none⟩ = some (.slice qk mk dk))
        (first | exact HY.out _ (grown_trans GK.out (grown_drewN _ 1))) (fail)
      clear hM HY
      go_wp2
      go_roundw
      case rel => exact ⟨k + 1, n', by omega, by omega, by go_num, rfl, HF', grown_trans GK.out (grown_drewN _ 1)⟩
      case measure => simp [intOf]; omega
    · have hkK : K = k := by omega
      subst hkK
      clear hlt hk
      go_wp2_with fail
      obtain ⟨wa, hwa⟩ : ∃ x, x = wr := ⟨_, rfl⟩
      subst hwa
      go_loopw [12, 13, 14, 15, 16] (fun ta tb ts td ti wr => ∃ (k : Nat) (usS : List Value), k ≤ K ∧ ti = .int .i64 k ∧ td = bv (dotsum n X C V k) ∧ Hid (usS.length = k) ∧
          Hid (Out w.heap.size wr ta (cutrow n k us)) ∧ Hid (Out w.heap.size wr tb (cutrow n k vs)) ∧ Hid (OwnMat w.heap.size wr ts usS (Sums n k X Y)) ∧ Hid (Ap ta tb ∧ Ap ta ts ∧ Ap tb ts) ∧ Hid (w.grownBy wr none)) (fun _ _ _ _ ti _ => K - (intOf ti).toNat)
      case atStart => exact ⟨0, [], by omega, rfl, rfl, rfl, Out.nil _ _, Out.nil _ _, OwnMat.nil _ _, ⟨.inl rfl, .inl rfl, .inl rfl⟩, GK⟩
      case round =>
        clear GK
        obtain ⟨k, usS, hk, rfl, rfl, HU, OA, OB, OS, HAP, GK⟩ := hrel
        by_cases hlt : k < K
        · obtain ⟨b1, o1, rfl, hr⟩ := MR.out.row.spot (k := k) (by have := HN.out; omega)
          obtain ⟨b2, o2, rfl, hs⟩ := MM.out.row.spot (k := k) (by have := HN.out; omega)
          obtain ⟨b3, o3, rfl, vc1⟩ := one_of VC.out (k := k) (by have := HN.out; omega)
          have VC1 : Hid (Vec w (.slice (some ⟨b3, o3 + k, none⟩) 1 (c3 - k)) [C.getD k 0]) := vc1
          clear vc1
          have VVc : Hid (Vec w (.slice p4 n c4) (V.take n)) := VV.out.cut (by have := HN.out; omega)
          obtain ⟨pk, lk, ck, ek, hlk⟩ := (MR.out.vec k (by have := HN.out; omega)).opened
          obtain ⟨qk, mk, dk, fk, hmk⟩ := (MM.out.vec k (by have := HN.out; omega)).opened
          have hnk : n ≤ lk ∧ n ≤ mk := by have := HF.out k hlt; omega
          have VX : Hid (Vec w (.slice pk n ck) ((X.getD k []).take n)) := by have h := MR.out.vec k (by have := HN.out; omega); rw [ek] at h; exact h.cut (by omega)
          have VY : Hid (Vec w (.slice qk n dk) ((Y.getD k []).take n)) := by have h := MM.out.vec k (by have := HN.out; omega); rw [fk] at h; exact h.cut (by omega)
          have LXY0 : ((Y.getD k []).take n).length = ((X.getD k []).take n).length ∧ ((X.getD k []).take n).length = n ∧ (V.take n).length = n := by have h1 := HF.out k hlt; have h2 := HN.out; simp only [List.length_take]; omega
          have LXY : Hid (((Y.getD k []).take n).length = ((X.getD k []).take n).length ∧ ((X.getD k []).take n).length = n ∧ (V.take n).length = n) := LXY0
          clear LXY0
          have CX : Hid (cutrow n k us ++ [.slice pk n ck] = cutrow n (k + 1) us) := cutrow_more n k us (by have := HN.out; omega) ek
          have CY : Hid (cutrow n k vs ++ [.slice qk n dk] = cutrow n (k + 1) vs) := cutrow_more n k vs (by have := HN.out; omega) fk
          have LX : Hid ((cutrow n k us).length = k ∧ (cutrow n k vs).length = k) := ⟨cutrow_len _ _ _ (by have := HN.out; omega), cutrow_len _ _ _ (by have := HN.out; omega)⟩
          rw [ek] at hr
          rw [fk] at hs
          have HY : Hid (∀ w', w.grownBy w' none → w'.cell? ⟨b1, o1 + k, none⟩ = some (.slice pk lk ck) ∧ w'.cell? ⟨b2, o2 + k, none⟩ = some (.slice qk mk dk)) := fun w' g => ⟨g.cell hr (by simp), g.cell hs (by simp)⟩
          have i1 : (k : Int) < (n1 : Int) := by omega
          have i2 : (k : Int) < (n2 : Int) := by omega
          have i3 : (0 : Int) ≤ (k : Int) := by omega
          have i4 : (n : Int) ≤ (ck : Int) := by have := cap_ge VX.out; omega
          have i5 : (n : Int) ≤ (dk : Int) := by have := cap_ge VY.out; omega
          have i6 : (0 : Int) ≤ (n : Int) := by omega
          have i7 : (n : Int) ≤ (c4 : Int) := by have := cap_ge VVc.out; omega
          have hc3 := cap_ge VC.out
          have i8 : (k : Int) + 1 ≤ (c3 : Int) := by have := HN.out; omega
          clear hc3
          have HB : Hid (w.heap.size ≤ wr.heap.size) := GK.out.size
          clear ek fk hlk hmk hr hs
          have HSM : Hid (Sums n k X Y ++ [vadd ((X.getD k []).take n) ((Y.getD k []).take n)] = Sums n (k + 1) X Y) := Sums_more n k X Y
          have HD : Hid (dotsum n X C V (k + 1) = dotsum n X C V k ^^^ M.mul (vdot ((X.getD k []).take n) (V.take n)) (C.getD k 0)) := rfl
          have hck : C.getD k 0 < 256 := getD_small VC.out.small k
          have hds : dotsum n X C V k < 256 := dotsum_lt (fun j hj => (MR.out.vec j hj).small) k
          generalize (X.getD k []).take n = XK at *
          generalize (Y.getD k []).take n = YK at *
          generalize V.take n = VN at *
          generalize C.getD k 0 = ck0 at *
          generalize dotsum n X C V k = ds at *
          generalize cutrow n k us = UA at *
          generalize cutrow n k vs = UB at *
          go_wp2_with fail
          go_region_held3 (fun w' => w'.cell? ⟨b1, o1 + k, none⟩ = some (.slice pk lk ck) ∧ w'.cell? ⟨b2, o2 + k, none⟩ = some (.slice qk mk dk))
            (first
              | exact HY.out _ (grown_trans GK.out (grown_drewN _ 1)) | exact HY.out _ (grown_trans GK.out (gr1 _ _)) | exact HY.out _ (grown_trans GK.out (gr2 _ _ _))
              | exact HY.out _ (two_appends OA.out OB.out OS.out HAP.out GK.out rfl (gr1 _ _) ga oa ata (World.grownBy_alloc _ _ none) gb ob atb).2.2.2.2
              | exact HY.out _ (two_appends OA.out OB.out OS.out HAP.out GK.out rfl (gr2 _ _ _) ga oa ata (World.grownBy.refl _ _) gb ob atb).2.2.2.2
              | exact HY.out _ (grown_new (grown_trans GK.out (gr1 _ _)) ga OA.out.lo) | exact HY.out _ (grown_new (grown_trans GK.out (gr2 _ _ _)) ga OA.out.lo)
              | exact HY.out _ (grown_trans (grown_new (grown_trans GK.out (gr1 _ _)) ga OA.out.lo) (World.grownBy_alloc _ _ none)))
            (first
              | (refine step_append_out (by rfl) _ _ (by rfl) u12 _ (by rfl) (by rfl) (B := w.heap.size) (us := UA) (u := .slice pk n ck) (by first | exact OA.out.keep (gr1 _ _) | exact OA.out.keep (gr2 _ _ _)) (by simp [go_sem]) rfl (by simp; have := HB.out; omega) (by have := LX.out; omega) ?_; intro va w1 oa ga ata)
              | (refine step_append_out (by rfl) _ _ (by rfl) u13 _ (by rfl) (by rfl) (B := w.heap.size) (us := UB) (u := .slice qk n dk) (by first | exact ((OB.out.keep (gr1 _ _)).kept ga HAP.out.1.symm).keep (World.grownBy_alloc _ _ none) | exact (OB.out.keep (gr2 _ _ _)).kept ga HAP.out.1.symm)
                  (by first | (simp [go_sem]; done) | exact ga.cell (by simp [go_sem]) (fun e => by have := OA.out.hi _ e.symm; simp at this; try omega)) rfl (by have h1 := HB.out; have h2 := ga.size; simp at *; omega) (by have := LX.out; omega) ?_; intro vb w2 ob gb atb))
          all_goals
            have HI0 : Hid (Inv w w2 va vb u14 (cutrow n (k + 1) us) (cutrow n (k + 1) vs) usS (Sums n k X Y)) := by
              rw [← CX.out, ← CY.out]
              first
                | exact two_appends OA.out OB.out OS.out HAP.out GK.out rfl (gr1 _ _) ga oa ata (World.grownBy_alloc _ _ none) gb ob atb
                | exact two_appends OA.out OB.out OS.out HAP.out GK.out rfl (gr2 _ _ _) ga oa ata (World.grownBy.refl _ _) gb ob atb
            clear oa ob ga gb ata atb OA OB OS HAP GK CX CY LX HB
            obtain ⟨hr2, hs2⟩ := HY.out _ HI0.out.grown
            go_wp2_with fail
            refine (own_any (VX.out.keep HI0.out.grown)).mono ?_
            rintro e w3 ⟨sv, rfl, os, g3⟩
            obtain ⟨ps, ns, cps, rfl, hns⟩ := os.vec.opened
            have OS3 : Hid (Own w2.heap.size w3 (.slice ps ns cps) XK) := os
            have G3 : Hid (w2.grownBy w3 none) := g3
            clear os g3 hns hr2 hs2
            obtain ⟨hr3, hs3⟩ := HY.out _ (grown_trans HI0.out.grown G3.out)
            go_wp2_with fail
            refine (addTo_yes OS3.out (VY.out.keep (grown_trans HI0.out.grown G3.out)) LXY.out.1).mono ?_
            rintro e w4 ⟨rfl, os4, g4⟩
            have HI4 : Hid (Inv w w4 va vb u14 (cutrow n (k + 1) us) (cutrow n (k + 1) vs) usS (Sums n k X Y)) := HI0.out.wrote G3.out OS3.out g4
            have OS4 : Hid (Own w.heap.size w4 (.slice ps ns cps) (vadd XK YK)) := os4.down HI0.out.grown.size
            clear os4 g4 OS3 G3 HI0 hr3 hs3
            have HB4 : Hid (w.heap.size ≤ w4.heap.size) := HI4.out.grown.size
            go_wp2_with (at_builtin; refine wpList_append_out rfl _ _ rfl u14 ⟨w4.heap.size, 0, none⟩ rfl rfl (B := w.heap.size) (us := usS) (u := .slice ps ns cps) (HI4.out.2.2.1.out.keep (World.grownBy_alloc _ _ none)) (by simp) rfl (by simp; have := HB4.out; omega) (by have := HU.out; omega) ?_; intro vS w5 oS gS atS; have HOS : Hid _ := oS; have HGS : Hid _ := gS; have HAS : Hid _ := atS; clear oS gS atS)
            have HI5 : Hid (Inv w w5 va vb vS (cutrow n (k + 1) us) (cutrow n (k + 1) vs) (usS ++ [.slice ps ns cps]) (Sums n (k + 1) X Y)) := by
              rw [← HSM.out]
              exact (HI4.out.keep (World.grownBy_alloc _ _ none)).more (OS4.out.keep (World.grownBy_alloc _ _ none)) (by have := HU.out; omega) HOS.out HGS.out HAS.out
            clear HOS HGS HAS HI4 OS4 HB4
            go_region_held3 (fun w' => w'.cell? ⟨b1, o1 + k, none⟩ = some (.slice pk lk ck))
              (first | exact (HY.out _ (grown_trans HI5.out.grown (grown_drewN _ 1))).1 | exact (HY.out _ (grown_trans HI5.out.grown (grown_trans (grown_drewN _ 1) g6))).1)
              (first | (go_at_call 16; refine (dot_yes (VX.out.keep (grown_trans HI5.out.grown (grown_drewN _ 1))) (VVc.out.keep (grown_trans HI5.out.grown (grown_drewN _ 1))) (by rw [LXY.out.2.1]; exact LXY.out.2.2)).mono ?_; rintro e w6 ⟨rfl, g6⟩))
            have HI6 : Hid (Inv w w6 va vb vS (cutrow n (k + 1) us) (cutrow n (k + 1) vs) (usS ++ [.slice ps ns cps]) (Sums n (k + 1) X Y)) := HI5.out.keep (grown_trans (grown_drewN _ 1) g6)
            have hd6 : vdot XK VN < 256 := xsum_lt fun j _ => M.mul_lt _ (getD_small VX.out.small j)
            have hmu : M.mul (vdot XK VN) ck0 < 256 := M.mul_lt _ hd6
            clear g6 HI5
            generalize vdot XK VN = d at *
            go_wp2_with fail
            have LD : Vec (w6.alloc (.cells #[.int .u8 (d : Int)] 5)) (.slice (some ⟨w6.heap.size, 0, none⟩) 1 1) [d] := (own_lit (B := 0) (xs := [d]) (n := 1) (heap_new w6 _ _ rfl) (Nat.zero_le _) rfl (by simpa using hd6) (by simp)).vec
            have HI7 : Hid (Inv w (w6.alloc (.cells #[.int .u8 (d : Int)] 5)) va vb vS (cutrow n (k + 1) us) (cutrow n (k + 1) vs) (usS ++ [.slice ps ns cps]) (Sums n (k + 1) X Y)) := HI6.out.keep (World.grownBy_alloc _ _ none)
            clear HI6
            refine (dot_yes LD (VC1.out.keep HI7.out.grown) rfl).mono ?_
            rw [dot_one]
            rintro e w7 ⟨rfl, g7⟩
            have HI8 : Hid (Inv w w7 va vb vS (cutrow n (k + 1) us) (cutrow n (k + 1) vs) (usS ++ [.slice ps ns cps]) (Sums n (k + 1) X Y)) := HI7.out.keep g7
            have hxor := xor_u8 ds (M.mul d ck0) hds hmu
            clear g7 HI7 LD
            go_wp2
            go_roundw
            case rel =>
              have h8 := HI8.out
              exact ⟨k + 1, usS ++ [Value.slice ps ns cps], by omega, by go_num, by rw [HD.out], show _ = _ by simpa using HU.out, h8.1, h8.2.1, h8.2.2.1, h8.2.2.2.1, h8.2.2.2.2⟩
            case measure => simp [intOf]; omega
        · have hkK : K = k := by omega
          subst hkK
          have hN := HN.out
          have hKX : K ≤ X.length := by omega
          have hKY : K ≤ Y.length := by omega
          have hKC : K ≤ C.length := by omega
          have hnV : n ≤ V.length := by omega
          have BX : Bytes X := fun j hj => (MR.out.vec j hj).small
          have BY : Bytes Y := fun j hj => (MM.out.vec j hj).small
          have fX : ∀ j, j < K → n ≤ (X.getD j []).length := fun j hj => (HF.out j hj).1
          have fY : ∀ j, j < K → n ≤ (Y.getD j []).length := fun j hj => (HF.out j hj).2
          have VCK : Hid (Vec w (.slice p3 K c3) (C.take K)) := VC.out.cut hKC
          have VVn : Hid (Vec w (.slice p4 n c4) (V.take n)) := VV.out.cut hnV
          have i1 : (K : Int) ≤ (c3 : Int) := by have := cap_ge VCK.out; omega
          have i2 : (n : Int) ≤ (c4 : Int) := by have := cap_ge VVn.out; omega
          have i3 : (0 : Int) ≤ (K : Int) := by omega
          have i4 : (0 : Int) ≤ (n : Int) := by omega
          have MA : Hid (∀ w', wr.grownBy w' none → Mat w' u12 (cutrow n K us) (cutx n K X)) := fun w' g => mat_cut MR.out (grown_trans GK.out g) (OA.out.keep g) hKX fX
          have MB : Hid (∀ w', wr.grownBy w' none → Mat w' u13 (cutrow n K vs) (cutx n K Y)) := fun w' g => mat_cut MM.out (grown_trans GK.out g) (OB.out.keep g) hKY fY
          have MS : Hid (∀ w', wr.grownBy w' none → Mat w' u14 usS (Sums n K X Y)) := fun w' g => (OS.out.keep g).mat
          have lC : (C.take K).length = K := by rw [List.length_take]; omega
          have L1 : Hid ((C.take K).length = (cutx n K X).length ∧ (C.take K).length = (cutx n K Y).length ∧ (C.take K).length = (Sums n K X Y).length) := ⟨by rw [lC, cutx_len _ _ _ hKX], by rw [lC, cutx_len _ _ _ hKY], by rw [lC, Sums_len]⟩
          have F1 : Hid (fits (cutx n K X) = true ∧ fits (cutx n K Y) = true ∧ fits (Sums n K X Y) = true) := ⟨lin_fits hKX fX, lin_fits hKY fY, lin_fits_sums fX⟩
          have E1 : Hid (0 < K → vdot (vcomb (C.take K) (cutx n K X)) (V.take n) = dotsum n X C V K ∧ vadd (vcomb (C.take K) (cutx n K X)) (vcomb (C.take K) (cutx n K Y)) = vcomb (C.take K) (Sums n K X Y) ∧
              (vcomb (C.take K) (cutx n K X)).length = n ∧ (vcomb (C.take K) (cutx n K Y)).length = n ∧ (V.take n).length = n) := fun h0 =>
            ⟨lin_dot hKX h0 fX BX VC.out.small VV.out.small, lin_sum hKX hKY h0 HF.out BX BY VC.out.small, lin_comb_len _ hKX h0 fX, lin_comb_len _ hKY h0 fY, by rw [List.length_take]; omega⟩
          have E0 : Hid (K = 0 → (vcomb (C.take K) (cutx n K X)).length = 0) := fun h0 => by subst h0; rfl
          clear hN hKX hKY hKC hnV BX BY fX fY lC OA OB OS HAP MR MM VC VV HF
          generalize hZX : vcomb (C.take K) (cutx n K X) = ZX at *
          have HZX : Hid (vcomb (C.take K) (cutx n K X) = ZX) := hZX
          clear hZX
          generalize hZY : vcomb (C.take K) (cutx n K Y) = ZY at *
          have HZY : Hid (vcomb (C.take K) (cutx n K Y) = ZY) := hZY
          clear hZY
          generalize hZS : vcomb (C.take K) (Sums n K X Y) = ZS at *
          have HZS : Hid (vcomb (C.take K) (Sums n K X Y) = ZS) := hZS
          clear hZS
          go_wp2_with fail
          refine (combine_fits (VCK.out.keep GK.out) (MA.out _ (World.grownBy.refl _ _)) L1.out.1 F1.out.1).mono ?_
          rw [HZX.out]
          rintro e w1 ⟨x, rfl, ox1, g1⟩
          have G1 : Hid (wr.grownBy w1 none) := g1
          clear g1
          obtain ⟨px, nx, cx, rfl, hnx⟩ := ox1.vec.opened
          have HX : Hid (nx = ZX.length) := hnx
          have OX1 : Hid (Own wr.heap.size w1 (.slice px nx cx) ZX) := ox1
          clear hnx ox1
          go_wp2_with fail
          refine (combine_fits (VCK.out.keep (grown_trans GK.out G1.out)) (MB.out _ G1.out) L1.out.2.1 F1.out.2.1).mono ?_
          rw [HZY.out]
          rintro e w2 ⟨y, rfl, oy2, g2⟩
          have OX2 : Hid (Own wr.heap.size w2 (.slice px nx cx) ZX) := OX1.out.keep g2
          have OY2 : Hid (Own w1.heap.size w2 y ZY) := oy2
          have G2 : Hid (wr.grownBy w2 none) := grown_trans G1.out g2
          clear g2 oy2 OX1
          go_wp2_with fail
          refine (combine_fits (VCK.out.keep (grown_trans GK.out G2.out)) (MS.out _ G2.out) L1.out.2.2 F1.out.2.2).mono ?_
          rw [HZS.out]
          rintro e w3 ⟨z, rfl, oz3, g3⟩
          have OX3 : Hid (Own wr.heap.size w3 (.slice px nx cx) ZX) := OX2.out.keep g3
          have OY3 : Hid (Own w1.heap.size w3 y ZY) := OY2.out.keep g3
          have OZ3 : Hid (Own w2.heap.size w3 z ZS) := oz3
          have AZX : Hid (Ap z (.slice px nx cx)) := apart_of' oz3.lo OX2.out.hi
          have G3 : Hid (w.grownBy w3 none) := grown_trans GK.out (grown_trans G2.out g3)
          have HLX : Hid (Lo w.heap.size (.slice px nx cx)) := OX3.out.lo.mono GK.out.size
          clear g3 oz3 OX2 OY2 G1 G2 MA MB MS L1 F1 VCK GK
          by_cases hK0 : K = 0
          · have hb : ((K : Int) == 0) = true := by simp [hK0]
            have hb2 : ((nx : Int) == 0) = true := by rw [HX.out, E0.out hK0]; rfl
            have HK0 : Hid (K = 0) := hK0
            clear hK0 OX3 OY3 OZ3 AZX HLX E1 E0 HX
            go_wp2_with fail
            refine (wakes_any _).mono ?_
            rintro e w4 ⟨rfl, g4⟩
            have G4 : Hid (w.grownBy w4 none) := grown_trans G3.out g4
            clear g4 G3
            go_wp2
            go_ret
            exact ⟨rfl, G4.out⟩
          · have hb : ((K : Int) == 0) = false := by simp; omega
            have hE := E1.out (by omega)
            have E2 : Hid _ := hE
            clear hE hK0 E1 E0
            go_wp2_with fail
            refine (dot_yes OX3.out.vec (VVn.out.keep G3.out) (by rw [E2.out.2.2.2.2, E2.out.2.2.1])).mono ?_
            rw [E2.out.1]
            rintro e w4 ⟨rfl, g4⟩
            have OX4 : Hid (Own wr.heap.size w4 (.slice px nx cx) ZX) := OX3.out.keep g4
            have OY4 : Hid (Own w1.heap.size w4 y ZY) := OY3.out.keep g4
            have OZ4 : Hid (Own w2.heap.size w4 z ZS) := OZ3.out.keep g4
            have G4 : Hid (w.grownBy w4 none) := grown_trans G3.out g4
            clear g4 OX3 OY3 OZ3 G3
            generalize dotsum n X C V K = ds at *
            have hdd : ((ds : Int) == (ds : Int)) = true := by simp
            go_wp2_with fail
            refine (addTo_yes OX4.out OY4.out.vec (by rw [E2.out.2.2.2.1, E2.out.2.2.1])).mono ?_
            rw [E2.out.2.1]
            rintro e w5 ⟨rfl, ox5, g5⟩
            have OX5 : Hid (Own wr.heap.size w5 (.slice px nx cx) ZS) := ox5
            have OZ5 : Hid (Own w2.heap.size w5 z ZS) := OZ4.out.kept g5 AZX.out
            have G5 : Hid (w.grownBy w5 none) := grown_new G4.out g5 HLX.out
            clear g5 ox5 OX4 OY4 OZ4 G4
            go_wp2_with fail
            refine (same_any OX5.out.vec OZ5.out.vec).mono ?_
            rintro e w6 ⟨rfl, hw⟩
            obtain rfl := hw.symm
            clear hw
            rw [show decide (ZS = ZS) = true from by simp]
            go_wp2_with fail
            refine (wakes_any _).mono ?_
            rintro e w7 ⟨rfl, g7⟩
            have G7 : Hid (w.grownBy w7 none) := grown_trans G5.out g7
            clear g7 G5
            go_wp2
            go_ret
            exact ⟨rfl, G7.out⟩

set_option maxRecDepth 100000 in
theorem lifted (os : Os) (started : os.Started) (H : Type) (enc : TypeId × Value → H) :
    ReturnsInHanded {} Try.checked os 7 .any (Rows.vectorLinearSpec.pre6 enc Try.prog Try.f7 Rows.vectorLinearRow.domain false) (Rows.vectorLinearSpec.post enc Try.prog Try.f7 false true false false) := by
  refine returnsInHanded_of_change_sized (C := Try.checked) Try.own started (by kernel_rfl) Try.func7
    (ChangeSpec.witness6 (enc := enc) (C := Try.checked) false ⟨#[], #[.slice none 0 0, .slice none 0 0, .slice none 0 0, .slice none 0 0], []⟩ 8 (by kernel_rfl) (by kernel_rfl) (by kernel_rfl) (by kernel_rfl)) ?_
  intro W base args ds gs before hval0 hW hcnd hsz0 _
  have hsz : (DataW.weightsEach Try.prog (Try.f7.params.toList ++ Rows.vectorLinearSpec.plain.varTypes Try.prog) (ds ++ gs)).all (· ≤ reachBytes) = true := hsz0
  clear hsz0
  have hval : ∀ (j : Nat) t v, Try.f7.params[j]? = some t → args[j]? = some v → Value.okWide Try.prog W .any base t v := hval0
  have hW' := hW
  obtain ⟨p, q, hA0, hV, rfl, hfz, hnd⟩ := hW
  have hA : DataW.TrodAll enc Try.prog W 0 (fun _ => true) true Try.f7.params.toList args.toList ds p := hA0
  rw [Try.params7] at hA hval hsz
  obtain ⟨v0, vs0, d0, ds0, p0, q0, hargs, rfl, rfl, h0, r0⟩ := trodAll_cons hA
  obtain ⟨v1, vs1, d1, ds1, p1, q1, rfl, rfl, rfl, h1, r1⟩ := trodAll_cons r0
  obtain ⟨v2, vs2, d2, ds2, p2, q2, rfl, rfl, rfl, h2, r2⟩ := trodAll_cons r1
  obtain ⟨v3, vs3, d3, ds3, p3, q3, rfl, rfl, rfl, h3, r3⟩ := trodAll_cons r2
  obtain ⟨rfl, rfl, rfl⟩ := trodAll_nil r3
  obtain rfl : args = #[v0, v1, v2, v3] := by cases args; simp_all
  obtain ⟨rfl, rfl⟩ := trodVars_none hV
  have k0 := h0
  have lt0 : ∀ x ∈ p0, x.block < W.heap.size := by obtain ⟨m, hm⟩ := k0; exact DataW.trod_lt m _ _ _ hm
  obtain ⟨y0, x0, w0⟩ := mat_arg (hval 0 38 v0 rfl rfl) h0 (fun n hn => of_decide_eq_true (List.all_eq_true.1 hsz n (DataW.weights_mem_each (j := 0) (t := 38) rfl rfl n hn)))
  have k1 := h1
  have lt1 : ∀ x ∈ p1, x.block < W.heap.size := by obtain ⟨m, hm⟩ := k1; exact DataW.trod_lt m _ _ _ hm
  obtain ⟨y1, x1, w1⟩ := mat_arg (hval 1 38 v1 rfl rfl) h1 (fun n hn => of_decide_eq_true (List.all_eq_true.1 hsz n (DataW.weights_mem_each (j := 1) (t := 38) rfl rfl n hn)))
  have k2 := h2
  have lt2 : ∀ x ∈ p2, x.block < W.heap.size := by obtain ⟨m, hm⟩ := k2; exact DataW.trod_lt m _ _ _ hm
  obtain ⟨x2, w2⟩ := vec_arg (hval 2 22 v2 rfl rfl) h2 (fun elems spare e => sized_slice hsz (j := 2) (t := 22) (e := 5) rfl (by rw [e]; rfl) Try.underlying22)
  have k3 := h3
  have lt3 : ∀ x ∈ p3, x.block < W.heap.size := by obtain ⟨m, hm⟩ := k3; exact DataW.trod_lt m _ _ _ hm
  obtain ⟨x3, w3⟩ := vec_arg (hval 3 22 v3 rfl rfl) h3 (fun elems spare e => sized_slice hsz (j := 3) (t := 22) (e := 5) rfl (by rw [e]; rfl) Try.underlying22)
  clear hA0 hval0
  refine (walk w0 w1 w2 w3).mono fun e W' ⟨he, hg⟩ => ?_
  have bel : Below W.heap.size W W' := grown_below hg (Nat.le_refl _) (by simp)
  subst he
  exact ⟨_, rfl, _, _, _, [], _, [], hW', trodAll_mk1 (shut_bool Try.underlying4 _), (trodAll_cons_mk (Below.trod Try.laidOut (by kernel_rfl) (of_decide_eq_true (by kernel_rfl)) k0 bel lt0) (trodAll_cons_mk (Below.trod Try.laidOut (by kernel_rfl) (of_decide_eq_true (by kernel_rfl)) k1 bel lt1) (trodAll_cons_mk (Below.trod Try.laidOut (by kernel_rfl) (of_decide_eq_true (by kernel_rfl)) k2 bel lt2) (trodAll_cons_mk (Below.trod Try.laidOut (by kernel_rfl) (of_decide_eq_true (by kernel_rfl)) k3 bel lt3) trodAll_mk0)))), rfl, bel.frame _, fun h => by cases h⟩

theorem over : Rows.vectorLinearRow.holds Try.pinned (OpenSpec.ofChange Rows.vectorLinearSpec) :=
  OpenClaim.holds_of_wide 7 Try.f7 rfl rfl rfl rfl rfl rfl rfl ⟨rfl, rfl, rfl, rfl, rfl⟩ rfl rfl rfl rfl rfl (by kernel_rfl) Try.func7 (by kernel_rfl)
    (of_decide_eq_true (by kernel_rfl)) (by unfold Func.isWrapper; first | (rw [if_pos (by decide +kernel)]; kernel_rfl) | (rw [if_neg (by decide +kernel)]; exact ⟨rfl, rfl⟩))
    (fun os started H enc _ => lifted os started H enc)

theorem proved : Rows.VectorLinearSaid := over
end Go.Proofs.Ytlodpffdmlnemaa.vectorLinear

namespace Go.Proofs.Ytlodpffdmlnemaa
theorem vectorLinear_holds : Rows.VectorLinearSaid := vectorLinear.proved
#print axioms vectorLinear_holds
end Go.Proofs.Ytlodpffdmlnemaa
