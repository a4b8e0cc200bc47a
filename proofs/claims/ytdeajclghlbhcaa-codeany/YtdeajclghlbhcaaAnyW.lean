/- The walk of CodeAny. -/
import Derived.Test.YtdeajclghlbhcaaAnyM4
import Derived.Test.YtdeajclghlbhcaaSl4
import Derived.Test.YtdeajclghlbhcaaWake4
set_option linter.unusedVariables false
set_option linter.unusedSimpArgs false
namespace Go.Proofs.Ytdeajclghlbhcaa.codeAny
open Go.ChangeShapes Go.WideShapes Go.ChangeAt Go.RowKit

theorem opened_len {w : World} {p : Option Addr} {n c : Nat} {us : List Value} {X : List (List Nat)} (h : Mat w (.slice p n c) us X) : n = us.length ∧ n = X.length ∧ n ≤ 140737488351232 ∧ n ≤ c ∧ c ≤ 9223372036854775807 := by
  have hs := h.same
  obtain ⟨h2, p', cap', e, h3, h4, _⟩ := h.row
  injection e with e1 e2 e3
  unfold maxLen at h4
  omega
theorem mat_len {w : World} {p : Option Addr} {n c : Nat} {us : List Value} {X : List (List Nat)} (h : Mat w (.slice p n c) us X) : n = X.length := (opened_len h).2.1
theorem ivec_len {w : World} {p : Option Addr} {n c : Nat} {ls : List Int} (h : IVec w (.slice p n c) ls) : n = ls.length ∧ n ≤ c ∧ c ≤ 9223372036854775807 := by
  obtain ⟨h2, p', cap', e, h3, h4, _⟩ := h
  injection e with e1 e2 e3
  unfold maxLen at h4
  omega
theorem vec_len {w : World} {p : Option Addr} {n c : Nat} {ls : List Nat} (h : Vec w (.slice p n c) ls) : n = ls.length := by
  obtain ⟨_, h2, p', cap', e, h3, h4, _⟩ := h
  injection e with e1 e2 e3

/-- What is left has been made anew. -/
theorem rest_app {B bl ol n8 c8 : Nat} {wa w6 w7 : World} {va vb v8 : Value} {LA ms ks : List Int} {UB : List Value}
    (R : IOwn B w6 va LA ∧ Out B w6 vb UB ∧ IVec w6 (.slice (some ⟨bl, ol, none⟩) n8 c8) ms ∧ Hi w6.heap.size (.slice (some ⟨bl, ol, none⟩) n8 c8) ∧ (Ap (.slice (some ⟨bl, ol, none⟩) n8 c8) va ∧ Ap (.slice (some ⟨bl, ol, none⟩) n8 c8) vb) ∧ wa.grownBy w6 none)
    (vl : IVec w7 v8 ks) (g7 : w6.drew.grownBy w7 none) (at7 : (v8.ownBlock = some bl ∧ w7 = w6.drew) ∨ (Lo w6.drew.heap.size v8 ∧ Hi w7.heap.size v8)) :
    IOwn B w7 va LA ∧ Out B w7 vb UB ∧ IVec w7 v8 ks ∧ Hi w7.heap.size v8 ∧ (Ap v8 va ∧ Ap v8 vb) ∧ wa.grownBy w7 none := by
  obtain ⟨oa, ob, _, hl, ⟨a1, a2⟩, g⟩ := R
  have g67 : w6.grownBy w7 none := grown_trans (grown_drewN w6 1) g7
  refine ⟨oa.keep g67, ob.keep g67, vl, ?_, ?_, grown_trans g g67⟩
  · rcases at7 with ⟨e, rfl⟩ | ⟨_, h⟩
    · intro k hk
      rw [e] at hk
      exact hl k hk
    · exact h
  · rcases at7 with ⟨e, _⟩ | ⟨h, _⟩
    · refine ⟨?_, ?_⟩
      · unfold Ap at *; rw [e]; exact a1
      · unfold Ap at *; rw [e]; exact a2
    · exact ⟨apart_of' h oa.hi, apart_of' h ob.hi⟩

set_option maxHeartbeats 12800000 in
set_option maxRecDepth 100000 in
theorem walk {w : World} {K Mo Lo : Nat} {xb xp : Value} {Bs Ps : List Nat} (hK : K < 256) (hM : Mo < 256) (hL : Lo < 256) (vb : Vec w xb Bs) (vp : Vec w xp Ps) :
    Calls Try.prog 6 #[.agg #[.int .u8 (K : Int), .int .u8 (Mo : Int), .int .u8 (Lo : Int), xb, xp]] w fun e w' => e = .returned (.bool true) ∧ w.grownBy w' none := by
  obtain ⟨pb, nb, cb, rfl, hq1⟩ := vb.opened
  obtain ⟨pp, np, cp, rfl, hq2⟩ := vp.opened
  have hnp : np ≤ 140737488351232 := by rw [hq2]; exact vp.len
  have HNP : Hid (np = Ps.length) := hq2
  clear hq1 hq2
  have VB : Hid (∀ w', w.grownBy w' none → Vec w' (.slice pb nb cb) Bs) := fun w' g => vb.keep g
  have VP : Hid (∀ w', w.grownBy w' none → Vec w' (.slice pp np cp) Ps) := fun w' g => vp.keep g
  have k12 : K % 12 < 12 := Nat.mod_lt _ (by decide)
  have m12 : Mo % 12 < 12 := Nat.mod_lt _ (by decide)
  have l20 : Lo % 20 < 20 := Nat.mod_lt _ (by decide)
  have SZ : Hid (∀ W, Calls Try.prog 23 #[.agg #[.int .u8 (K : Int), .int .u8 (Mo : Int), .int .u8 (Lo : Int), .slice pb nb cb, .slice pp np cp]] W fun e w' => e = .returned (.tuple #[.int .i64 ((1 + K % 12 : Nat) : Int), .int .i64 ((2 + K % 12 + Mo % 12 : Nat) : Int)]) ∧ W.grownBy w' none) := fun W => sizes_any hK hM
  have DT : Hid (∀ W (d : Nat), d < 256 → w.grownBy W none → Calls Try.prog 24 #[.agg #[.int .u8 (K : Int), .int .u8 (Mo : Int), .int .u8 (Lo : Int), .slice pb nb cb, .slice pp np cp], .int .u8 (d : Int)] W fun e w' => ∃ p m cc us D, e = .returned (.slice p m cc) ∧ OwnMat W.heap.size w' (.slice p m cc) us D ∧ Sep us ∧ Shape D (1 + K % 12) (Lo % 20) ∧ W.grownBy w' none) := fun W d hd g => data_any hK hM hL hd (VB.out _ g)
  obtain ⟨k, HK⟩ : ∃ k, Hid (k = 1 + K % 12) := ⟨_, rfl⟩
  obtain ⟨n, HN⟩ : ∃ n, Hid (n = 2 + K % 12 + Mo % 12) := ⟨_, rfl⟩
  obtain ⟨L, HL⟩ : ∃ L, Hid (L = Lo % 20) := ⟨_, rfl⟩
  rw [← HK.out, ← HN.out] at SZ
  rw [← HK.out, ← HL.out] at DT
  have hk1 : 1 ≤ k := by have := HK.out; omega
  have hk12 : k ≤ 12 := by have := HK.out; omega
  have hkn : k < n := by have := HK.out; have := HN.out; omega
  have hn24 : n ≤ 24 := by have := HN.out; omega
  have hn : n ≤ 255 := by omega
  have hL20 : L < 20 := by have := HL.out; omega
  obtain ⟨WB, HWB⟩ : ∃ WB, Hid (WB = w.alloc (.cells #[.int .u8 (K : Int), .int .u8 (Mo : Int), .int .u8 (Lo : Int), .slice pb nb cb, .slice pp np cp] 52)) := ⟨_, rfl⟩
  have HB : Hid (∀ w', WB.grownBy w' none → w'.cell? ⟨w.heap.size, 0, none⟩ = some (.int .u8 (K : Int)) ∧ w'.cell? ⟨w.heap.size, 1, none⟩ = some (.int .u8 (Mo : Int)) ∧ w'.cell? ⟨w.heap.size, 2, none⟩ = some (.int .u8 (Lo : Int)) ∧ w'.cell? ⟨w.heap.size, 3, none⟩ = some (.slice pb nb cb) ∧ w'.cell? ⟨w.heap.size, 4, none⟩ = some (.slice pp np cp)) := fun w' g => by
    have h := heap_alloc_new w (.cells #[.int .u8 (K : Int), .int .u8 (Mo : Int), .int .u8 (Lo : Int), .slice pb nb cb, .slice pp np cp] 52)
    rw [← HWB.out] at h
    exact ⟨g.cell (cell_of_row _ _ 0 _ _ _ h) (by simp), g.cell (cell_of_row _ _ 1 _ _ _ h) (by simp), g.cell (cell_of_row _ _ 2 _ _ _ h) (by simp), g.cell (cell_of_row _ _ 3 _ _ _ h) (by simp), g.cell (cell_of_row _ _ 4 _ _ _ h) (by simp)⟩
  have GB : Hid (w.grownBy WB none) := by rw [HWB.out]; exact World.grownBy_alloc _ _ none
  clear vb vp k12 m12 l20 HK HN HL VB
  go_enter Try.func6, Try.ntmps6
  go_wp2_with fail
  rw [← HWB.out]
  refine (SZ.out _).mono ?_
  rintro e w1 ⟨rfl, g1⟩
  have G1 : Hid (WB.grownBy w1 none) := g1
  clear g1 SZ HWB
  obtain ⟨b0, b1, b2, b3, b4⟩ := HB.out _ G1.out
  go_wp2_with fail
  clear b0 b1 b2 b3 b4
  refine (DT.out _ 0 (by decide) (grown_trans GB.out G1.out)).mono ?_
  rintro e w2 ⟨pd, nd, cd, ud, A, rfl, od, sd, shA, g2⟩
  have G2 : Hid (WB.grownBy w2 none) := grown_trans G1.out g2
  have KD : Hid (∀ w', w2.grownBy w' none → Mat w' (.slice pd nd cd) ud A) := fun w' g => od.mat.keep g
  have SA : Hid (Shape A k L) := shA
  have MA : Hid (∀ i j, at2 A i j < 256) := mat_small od.mat
  clear od sd shA g2 DT G1
  go_wp2_with fail
  refine (encode_yes (KD.out _ (World.grownBy.refl _ _)) SA.out hk1 hkn hn).mono ?_
  rintro e w3 ⟨pa, na, ca, ua, rfl, oa, sa, g3⟩
  obtain rfl : n = na := by have := mat_len oa.mat; rw [this, codeList_len]
  have KA : Hid (∀ w', w3.grownBy w' none → Mat w' (.slice pa n ca) ua (codeList A k n L)) := fun w' g => oa.mat.keep g
  have G3 : Hid (WB.grownBy w3 none ∧ w2.grownBy w3 none) := ⟨grown_trans G2.out g3, g3⟩
  clear oa sa g3 G2
  go_wp2_with (go_at_call 9; refine (awake_any w3).mono ?_; rintro e w4 ⟨rfl, g4⟩; have G4 : Hid (WB.grownBy w4 none ∧ w2.grownBy w4 none ∧ w3.grownBy w4 none) := ⟨grown_trans G3.out.1 g4, grown_trans G3.out.2 g4, g4⟩; clear g4)
  clear G3
  go_loopw [8, 49] (fun tv ti wr => ∃ i : Nat, i ≤ n ∧ ti = .int .i64 i ∧ Hid (IOwn w4.heap.size wr tv (iota i)) ∧ Hid (w4.grownBy wr none)) (fun _ ti _ => n - (intOf ti).toNat)
  case atStart => exact ⟨0, by omega, rfl, IOwn.nil _ _, World.grownBy.refl _ _⟩
  case round =>
    obtain ⟨i, hi, rfl, OI, GK⟩ := hrel
    by_cases hlt : i < n
    · have i1 : (i : Int) < (n : Int) := by omega
      have HBB : Hid (w4.heap.size ≤ wr.heap.size) := GK.out.size
      go_wp2_with (at_builtin; refine wpList_append_int rfl _ _ rfl u8 ⟨wr.heap.size, 0, none⟩ rfl rfl (B := w4.heap.size) (ls := iota i) (x := (i : Int)) (OI.out.keep (World.grownBy_alloc _ _ none)) (cell_new1 _ _ rfl) (by have h1 := HBB.out; simp; omega) (by rw [iota_len]; omega) ?_; intro v' w5 oo gg at5; have HO : Hid (IOwn w4.heap.size w5 v' (iota (i + 1))) := (by rw [iota_more] at oo; exact oo); have HG : Hid (w4.grownBy w5 none) := grown_new (grown_trans GK.out (World.grownBy_alloc _ _ none)) gg OI.out.lo; clear oo gg at5)
      go_roundw
      case rel => exact ⟨i + 1, by omega, by go_num, HO, HG⟩
      case measure => simp [intOf]; omega
    · obtain rfl : n = i := by omega
      obtain ⟨wa, hwa⟩ : ∃ wa, wa = wr := ⟨wr, rfl⟩
      subst hwa
      have VL : Hid (IVec wa u8 (iota n)) := OI.out.ivec
      have HL8 : Hid (Hi wa.heap.size u8) := OI.out.hi
      have GA : Hid (WB.grownBy wa none ∧ w2.grownBy wa none ∧ w3.grownBy wa none) := ⟨grown_trans G4.out.1 GK.out, grown_trans G4.out.2.1 GK.out, grown_trans G4.out.2.2 GK.out⟩
      clear OI GK G4
      go_wp2_with fail
      go_loopw [8, 10, 11, 12] (fun t8 t10 t11 t12 wr => ∃ (j : Nat) (ls ms : List Int), j ≤ k ∧ t12 = .int .i64 j ∧ Hid (ls.length = j) ∧ Hid (IOwn wa.heap.size wr t10 ls) ∧ Hid (Out wa.heap.size wr t11 (usAt ua ls)) ∧ Hid (IVec wr t8 ms) ∧ Hid (Hi wr.heap.size t8) ∧ Hid (Ap t8 t10 ∧ Ap t8 t11) ∧ Hid (Pick n ls ms) ∧ Hid (wa.grownBy wr none)) (fun _ _ _ t12 _ => k - (intOf t12).toNat)
      case atStart => exact ⟨0, [], iota n, by omega, rfl, rfl, IOwn.nil _ _, Out.nil _ _, VL, HL8, ⟨(show Ap _ _ from Ap.symm (.inl rfl)), (show Ap _ _ from Ap.symm (.inl rfl))⟩, Pick.start n, World.grownBy.refl _ _⟩
      case round =>
        clear VL HL8
        obtain ⟨j, ls, ms, hj, rfl, HJ, OT, OS, VL, HL8, AP, PK, GK⟩ := hrel
        obtain ⟨pt, nt, ct, e10, hnt⟩ := OT.out.ivec.opened
        obtain rfl : j = nt := by have := HJ.out; omega
        obtain ⟨p8, n8, c8, e8, hn8⟩ := VL.out.opened
        obtain ⟨ps, ns, cs, e11, hns⟩ := OS.out.cells.opened
        have HN8 : Hid (n8 = ms.length) := hn8
        have HNS : Hid (ns = (usAt ua ls).length) := hns
        clear hnt hn8 hns
        subst e10 e8 e11
        have HP8 : n8 + j = n := by have := PK.out.len; have := HJ.out; have := HN8.out; omega
        have lc8 := (ivec_len VL.out).2
        obtain ⟨bl, ol, rfl⟩ : ∃ bl ol, p8 = some ⟨bl, ol, none⟩ := by
          obtain ⟨b, o, e, _⟩ := VL.out.spot (k := 0) (by have := HN8.out; omega)
          exact ⟨b, o, e⟩
        by_cases hlt : j < k
        · have i1 : (j : Int) < (k : Int) := by omega
          have i3 : (0 : Int) ≤ (j : Int) := by omega
          obtain ⟨_, _, _, _, d4⟩ := HB.out _ (grown_trans GA.out.1 GK.out)
          by_cases hpk : j < np
          · have i2 : (j : Int) < (np : Int) := by omega
            have vP := VP.out _ (grown_trans GB.out (grown_trans GA.out.1 GK.out))
            obtain ⟨bp, op, rfl, hy, hy256⟩ := vP.spot (k := j) (by have := HNP.out; omega)
            generalize Ps.getD j 0 = y at *
            obtain ⟨p, hp⟩ : ∃ p : Nat, p = y % n8 := ⟨_, rfl⟩
            have hp1 : (y : Int) % (n8 : Int) = (p : Int) := by rw [hp]; simp
            have hp2 : p < n8 := by rw [hp]; exact Nat.mod_lt _ (by omega)
            clear vP hp
            go_wp2_with fail
            obtain ⟨hx0, hxn⟩ := PK.out.at (p := p) (by have := HN8.out; omega)
            have PK2 : Hid (Pick n (ls ++ [ms.getD p 0]) (ms.take p ++ ms.drop (p + 1))) := PK.out.step (by have := HN8.out; omega)
            have US2 : Hid (usAt ua ls ++ [ua.getD (ms.getD p 0).toNat undef] = usAt ua (ls ++ [ms.getD p 0])) := usAt_more _ _ _
            have CL : Hid (∀ w', IVec w' (.slice (some ⟨bl, ol, none⟩) n8 c8) ms → w'.cell? ⟨bl, ol + p, none⟩ = some (.int .i64 (ms.getD p 0))) := fun w' h => by
              obtain ⟨b', o', e', hc⟩ := h.spot (k := p) (by have := HN8.out; omega)
              injection e' with e'
              injection e' with e1 e2
              subst e1 e2
              exact hc
            obtain ⟨xn, hxe⟩ := Int.eq_ofNat_of_zero_le hx0
            have hxe' : ms.getD p 0 = (xn : Int) := hxe
            rw [hxe'] at hx0 hxn CL PK2 US2
            have hxn2 : xn < n := by omega
            have i5 : (xn : Int) < (n : Int) := by omega
            have i6 : (p : Int) < (n8 : Int) := by omega
            clear hxe hxe'
            have mA := KA.out _ (grown_trans GA.out.2.2 GK.out)
            obtain ⟨ba, oa, rfl, hca⟩ := mA.row.spot (k := xn) (by have := (opened_len mA).1; omega)
            obtain ⟨pr, nr, cr, er, hnr⟩ := (mA.vec xn (by rw [codeList_len]; exact hxn2)).opened
            rw [er] at hca
            rw [show ((xn : Int)).toNat = xn from rfl, er] at US2
            have HY : Hid (∀ w', IVec w' (.slice (some ⟨bl, ol, none⟩) n8 c8) ms → wa.grownBy w' none → w'.cell? ⟨bl, ol + p, none⟩ = some (.int .i64 (xn : Int)) ∧ w'.cell? ⟨ba, oa + xn, none⟩ = some (.slice pr nr cr)) := fun w' hv g => by
              have m := KA.out _ (grown_trans GA.out.2.2 g)
              obtain ⟨b', o', e', hc⟩ := m.row.spot (k := xn) (by have := (opened_len m).1; omega)
              injection e' with e'
              injection e' with e1 e2
              subst e1 e2
              rw [er] at hc
              exact ⟨CL.out _ hv, hc⟩
            have HBB : Hid (wa.heap.size ≤ wr.heap.size) := GK.out.size
            have ASA : Hid (Ap (.slice ps ns cs) (.slice pt j ct)) := Ap.symm (row_apart (by decide) OT.out.row OS.out.row)
            have hLU : (usAt ua ls).length = j := by simp [usAt]; exact HJ.out
            have LU : Hid ((usAt ua ls).length = j ∧ ls.length = j) := ⟨hLU, HJ.out⟩
            clear mA hca er hnr hLU CL hx0 hxn
            generalize usAt ua ls = UB at *
            go_region_held3 (fun w' => w'.cell? ⟨bl, ol + p, none⟩ = some (.int .i64 (xn : Int)) ∧ w'.cell? ⟨ba, oa + xn, none⟩ = some (.slice pr nr cr))
              (first
                | exact HY.out _ (VL.out.keep (grown_drewN _ 1)) (gb_drew GK.out)
                | exact HY.out _ (VL.out.keep (gr1 _ _)) (grown_trans GK.out (gr1 _ _))
                | exact HY.out _ (VL.out.keep (gr2 _ _ _)) (grown_trans GK.out (gr2 _ _ _))
                | exact HY.out _ (two_app OT.out OS.out VL.out HL8.out AP.out GK.out rfl (gr1 _ _) ga oi ata (World.grownBy_alloc _ _ none) gb ob atb).2.2.1 (two_app OT.out OS.out VL.out HL8.out AP.out GK.out rfl (gr1 _ _) ga oi ata (World.grownBy_alloc _ _ none) gb ob atb).2.2.2.2.2
                | exact HY.out _ (two_app OT.out OS.out VL.out HL8.out AP.out GK.out rfl (gr2 _ _ _) ga oi ata (World.grownBy.refl _ _) gb ob atb).2.2.1 (two_app OT.out OS.out VL.out HL8.out AP.out GK.out rfl (gr2 _ _ _) ga oi ata (World.grownBy.refl _ _) gb ob atb).2.2.2.2.2
                | exact HY.out _ ((VL.out.keep (gr1 _ _)).kept ga AP.out.1) (grown_new (grown_trans GK.out (gr1 _ _)) ga OT.out.lo)
                | exact HY.out _ ((VL.out.keep (gr2 _ _ _)).kept ga AP.out.1) (grown_new (grown_trans GK.out (gr2 _ _ _)) ga OT.out.lo)
                | exact HY.out _ (((VL.out.keep (gr1 _ _)).kept ga AP.out.1).keep (World.grownBy_alloc _ _ none)) (grown_trans (grown_new (grown_trans GK.out (gr1 _ _)) ga OT.out.lo) (World.grownBy_alloc _ _ none)))
              (first
                | (refine step_append_int (by rfl) _ _ (by rfl) (.slice pt j ct) _ (by rfl) (by rfl) (B := wa.heap.size) (ls := ls) (x := (xn : Int)) (by first | exact OT.out.keep (gr1 _ _) | exact OT.out.keep (gr2 _ _ _)) (by simp [go_sem]) (by simp; have := HBB.out; omega) (by have := LU.out; omega) ?_; intro va w5 oi ga ata)
                | (refine step_append_out (by rfl) _ _ (by rfl) (.slice ps ns cs) _ (by rfl) (by rfl) (B := wa.heap.size) (us := UB) (u := .slice pr nr cr) (by first | exact ((OS.out.keep (gr1 _ _)).kept ga ASA.out).keep (World.grownBy_alloc _ _ none) | exact (OS.out.keep (gr2 _ _ _)).kept ga ASA.out)
                    (by first | (simp [go_sem]; done) | exact ga.cell (by simp [go_sem]) (fun e => by have := OT.out.hi _ e.symm; simp at this; try omega)) rfl (by have h1 := HBB.out; have h2 := ga.size; simp at *; omega) (by have := LU.out; omega) ?_; intro vb w6 ob gb atb))
            all_goals
              have R : Hid (IOwn wa.heap.size w6 va (ls ++ [(xn : Int)]) ∧ Out wa.heap.size w6 vb (usAt ua (ls ++ [(xn : Int)])) ∧ IVec w6 (.slice (some ⟨bl, ol, none⟩) n8 c8) ms ∧ Hi w6.heap.size (.slice (some ⟨bl, ol, none⟩) n8 c8) ∧ (Ap (.slice (some ⟨bl, ol, none⟩) n8 c8) va ∧ Ap (.slice (some ⟨bl, ol, none⟩) n8 c8) vb) ∧ wa.grownBy w6 none) := by
                rw [← US2.out]
                first
                  | exact two_app OT.out OS.out VL.out HL8.out AP.out GK.out rfl (gr1 _ _) ga oi ata (World.grownBy_alloc _ _ none) gb ob atb
                  | exact two_app OT.out OS.out VL.out HL8.out AP.out GK.out rfl (gr2 _ _ _) ga oi ata (World.grownBy.refl _ _) gb ob atb
              clear oi ob ga gb ata atb OT OS VL HL8 AP GK HY HBB ASA LU US2
              have VC : Hid (IVec w6.drew (.slice (some ⟨bl, ol, none⟩) p p) (ms.take p)) := (R.out.2.2.1.keep (grown_drewN w6 1)).cut (by have := HN8.out; omega) (Nat.le_refl _) (by omega)
              have hlen : (ms.take p).length + (ms.drop (p + 1)).length ≤ 1000 := by rw [List.length_take, List.length_drop]; have := HN8.out; omega
              have HLEN : Hid ((ms.take p).length + (ms.drop (p + 1)).length ≤ 1000) := hlen
              clear hlen
              obtain ⟨p1, HP1⟩ : ∃ p1 : Nat, Hid (p1 = p + 1) := ⟨_, rfl⟩
              have wp1 : IntKind.i64.wrap ((p : Int) + 1) = (p1 : Int) := by rw [IntWalk.i64_in _ (by omega)]; have := HP1.out; omega
              have wp3 : IntKind.i64.wrap (p1 : Int) = (p1 : Int) := IntWalk.i64_in _ (by have := HP1.out; omega)
              obtain ⟨q8, hs2, hv2⟩ := slice_l (b := bl) (off := ol) (n := n8) (c := c8) (p := p1) (by have := HP1.out; omega) lc8.1
              have VT : Hid (IVec w6.drew (.slice q8 (n8 - p1) (c8 - p1)) (ms.drop (p + 1))) := by rw [← HP1.out]; exact hv2 _ _ (R.out.2.2.1.keep (grown_drewN w6 1))
              have hs1 : ∀ W : World, (Instr.slice 45 (.slice (some ⟨bl, ol, none⟩) n8 c8) none (some (.int .i64 (p : Int))) (some (.int .i64 (p : Int)))).run Try.prog W = .ok (.slice (some ⟨bl, ol, none⟩) p p) W := fun W => slice_hm (by omega) W
              clear hv2
              go_wp2_with fail
              go_region_held3 (fun w' => wa.grownBy w' none) (first | exact gb_drew R.out.2.2.2.2.2 | exact grown_trans (gb_drew R.out.2.2.2.2.2) g7)
                ((refine step_append_rest (by rfl) _ _ (by rfl) _ (by rfl) (by rfl) VC.out VT.out HLEN.out ?_; intro v8 w7 vl g7 at7))
              have R7 : Hid (IOwn wa.heap.size w7 va (ls ++ [(xn : Int)]) ∧ Out wa.heap.size w7 vb (usAt ua (ls ++ [(xn : Int)])) ∧ IVec w7 v8 (ms.take p ++ ms.drop (p + 1)) ∧ Hi w7.heap.size v8 ∧ (Ap v8 va ∧ Ap v8 vb) ∧ wa.grownBy w7 none) := rest_app R.out vl g7 at7
              have HJ2 : Hid ((ls ++ [(xn : Int)]).length = j + 1) := by show _ = _; rw [List.length_append, HJ.out]; rfl
              clear vl g7 at7 R VC VT HJ hs1 hs2 wp1 wp3
              go_wp2
              go_roundw
              case rel => exact ⟨j + 1, ls ++ [(xn : Int)], ms.take p ++ ms.drop (p + 1), by omega, by go_num, HJ2, R7.out.1, R7.out.2.1, R7.out.2.2.1, R7.out.2.2.2.1, R7.out.2.2.2.2.1, PK2, R7.out.2.2.2.2.2⟩
              case measure => simp [intOf]; omega
          · have i2 : ¬ (j : Int) < (np : Int) := by omega
            obtain ⟨p, hp⟩ : ∃ p : Nat, p = (j * 5 + 3) % n8 := ⟨_, rfl⟩
            have hp1 : ((j : Int) * 5 + 3) % (n8 : Int) = (p : Int) := by rw [hp]; simp
            have hp2 : p < n8 := by rw [hp]; exact Nat.mod_lt _ (by omega)
            clear hp
            go_wp2_with fail
            obtain ⟨hx0, hxn⟩ := PK.out.at (p := p) (by have := HN8.out; omega)
            have PK2 : Hid (Pick n (ls ++ [ms.getD p 0]) (ms.take p ++ ms.drop (p + 1))) := PK.out.step (by have := HN8.out; omega)
            have US2 : Hid (usAt ua ls ++ [ua.getD (ms.getD p 0).toNat undef] = usAt ua (ls ++ [ms.getD p 0])) := usAt_more _ _ _
            have CL : Hid (∀ w', IVec w' (.slice (some ⟨bl, ol, none⟩) n8 c8) ms → w'.cell? ⟨bl, ol + p, none⟩ = some (.int .i64 (ms.getD p 0))) := fun w' h => by
              obtain ⟨b', o', e', hc⟩ := h.spot (k := p) (by have := HN8.out; omega)
              injection e' with e'
              injection e' with e1 e2
              subst e1 e2
              exact hc
            obtain ⟨xn, hxe⟩ := Int.eq_ofNat_of_zero_le hx0
            have hxe' : ms.getD p 0 = (xn : Int) := hxe
            rw [hxe'] at hx0 hxn CL PK2 US2
            have hxn2 : xn < n := by omega
            have i5 : (xn : Int) < (n : Int) := by omega
            have i6 : (p : Int) < (n8 : Int) := by omega
            clear hxe hxe'
            have mA := KA.out _ (grown_trans GA.out.2.2 GK.out)
            obtain ⟨ba, oa, rfl, hca⟩ := mA.row.spot (k := xn) (by have := (opened_len mA).1; omega)
            obtain ⟨pr, nr, cr, er, hnr⟩ := (mA.vec xn (by rw [codeList_len]; exact hxn2)).opened
            rw [er] at hca
            rw [show ((xn : Int)).toNat = xn from rfl, er] at US2
            have HY : Hid (∀ w', IVec w' (.slice (some ⟨bl, ol, none⟩) n8 c8) ms → wa.grownBy w' none → w'.cell? ⟨bl, ol + p, none⟩ = some (.int .i64 (xn : Int)) ∧ w'.cell? ⟨ba, oa + xn, none⟩ = some (.slice pr nr cr)) := fun w' hv g => by
              have m := KA.out _ (grown_trans GA.out.2.2 g)
              obtain ⟨b', o', e', hc⟩ := m.row.spot (k := xn) (by have := (opened_len m).1; omega)
              injection e' with e'
              injection e' with e1 e2
              subst e1 e2
              rw [er] at hc
              exact ⟨CL.out _ hv, hc⟩
            have HBB : Hid (wa.heap.size ≤ wr.heap.size) := GK.out.size
            have ASA : Hid (Ap (.slice ps ns cs) (.slice pt j ct)) := Ap.symm (row_apart (by decide) OT.out.row OS.out.row)
            have hLU : (usAt ua ls).length = j := by simp [usAt]; exact HJ.out
            have LU : Hid ((usAt ua ls).length = j ∧ ls.length = j) := ⟨hLU, HJ.out⟩
            clear mA hca er hnr hLU CL hx0 hxn
            generalize usAt ua ls = UB at *
            go_region_held3 (fun w' => w'.cell? ⟨bl, ol + p, none⟩ = some (.int .i64 (xn : Int)) ∧ w'.cell? ⟨ba, oa + xn, none⟩ = some (.slice pr nr cr))
              (first
                | exact HY.out _ (VL.out.keep (grown_drewN _ 1)) (gb_drew GK.out)
                | exact HY.out _ (VL.out.keep (gr1 _ _)) (grown_trans GK.out (gr1 _ _))
                | exact HY.out _ (VL.out.keep (gr2 _ _ _)) (grown_trans GK.out (gr2 _ _ _))
                | exact HY.out _ (two_app OT.out OS.out VL.out HL8.out AP.out GK.out rfl (gr1 _ _) ga oi ata (World.grownBy_alloc _ _ none) gb ob atb).2.2.1 (two_app OT.out OS.out VL.out HL8.out AP.out GK.out rfl (gr1 _ _) ga oi ata (World.grownBy_alloc _ _ none) gb ob atb).2.2.2.2.2
                | exact HY.out _ (two_app OT.out OS.out VL.out HL8.out AP.out GK.out rfl (gr2 _ _ _) ga oi ata (World.grownBy.refl _ _) gb ob atb).2.2.1 (two_app OT.out OS.out VL.out HL8.out AP.out GK.out rfl (gr2 _ _ _) ga oi ata (World.grownBy.refl _ _) gb ob atb).2.2.2.2.2
                | exact HY.out _ ((VL.out.keep (gr1 _ _)).kept ga AP.out.1) (grown_new (grown_trans GK.out (gr1 _ _)) ga OT.out.lo)
                | exact HY.out _ ((VL.out.keep (gr2 _ _ _)).kept ga AP.out.1) (grown_new (grown_trans GK.out (gr2 _ _ _)) ga OT.out.lo)
                | exact HY.out _ (((VL.out.keep (gr1 _ _)).kept ga AP.out.1).keep (World.grownBy_alloc _ _ none)) (grown_trans (grown_new (grown_trans GK.out (gr1 _ _)) ga OT.out.lo) (World.grownBy_alloc _ _ none)))
              (first
                | (refine step_append_int (by rfl) _ _ (by rfl) (.slice pt j ct) _ (by rfl) (by rfl) (B := wa.heap.size) (ls := ls) (x := (xn : Int)) (by first | exact OT.out.keep (gr1 _ _) | exact OT.out.keep (gr2 _ _ _)) (by simp [go_sem]) (by simp; have := HBB.out; omega) (by have := LU.out; omega) ?_; intro va w5 oi ga ata)
                | (refine step_append_out (by rfl) _ _ (by rfl) (.slice ps ns cs) _ (by rfl) (by rfl) (B := wa.heap.size) (us := UB) (u := .slice pr nr cr) (by first | exact ((OS.out.keep (gr1 _ _)).kept ga ASA.out).keep (World.grownBy_alloc _ _ none) | exact (OS.out.keep (gr2 _ _ _)).kept ga ASA.out)
                    (by first | (simp [go_sem]; done) | exact ga.cell (by simp [go_sem]) (fun e => by have := OT.out.hi _ e.symm; simp at this; try omega)) rfl (by have h1 := HBB.out; have h2 := ga.size; simp at *; omega) (by have := LU.out; omega) ?_; intro vb w6 ob gb atb))
            all_goals
              have R : Hid (IOwn wa.heap.size w6 va (ls ++ [(xn : Int)]) ∧ Out wa.heap.size w6 vb (usAt ua (ls ++ [(xn : Int)])) ∧ IVec w6 (.slice (some ⟨bl, ol, none⟩) n8 c8) ms ∧ Hi w6.heap.size (.slice (some ⟨bl, ol, none⟩) n8 c8) ∧ (Ap (.slice (some ⟨bl, ol, none⟩) n8 c8) va ∧ Ap (.slice (some ⟨bl, ol, none⟩) n8 c8) vb) ∧ wa.grownBy w6 none) := by
                rw [← US2.out]
                first
                  | exact two_app OT.out OS.out VL.out HL8.out AP.out GK.out rfl (gr1 _ _) ga oi ata (World.grownBy_alloc _ _ none) gb ob atb
                  | exact two_app OT.out OS.out VL.out HL8.out AP.out GK.out rfl (gr2 _ _ _) ga oi ata (World.grownBy.refl _ _) gb ob atb
              clear oi ob ga gb ata atb OT OS VL HL8 AP GK HY HBB ASA LU US2
              have VC : Hid (IVec w6.drew (.slice (some ⟨bl, ol, none⟩) p p) (ms.take p)) := (R.out.2.2.1.keep (grown_drewN w6 1)).cut (by have := HN8.out; omega) (Nat.le_refl _) (by omega)
              have hlen : (ms.take p).length + (ms.drop (p + 1)).length ≤ 1000 := by rw [List.length_take, List.length_drop]; have := HN8.out; omega
              have HLEN : Hid ((ms.take p).length + (ms.drop (p + 1)).length ≤ 1000) := hlen
              clear hlen
              obtain ⟨p1, HP1⟩ : ∃ p1 : Nat, Hid (p1 = p + 1) := ⟨_, rfl⟩
              have wp1 : IntKind.i64.wrap ((p : Int) + 1) = (p1 : Int) := by rw [IntWalk.i64_in _ (by omega)]; have := HP1.out; omega
              have wp3 : IntKind.i64.wrap (p1 : Int) = (p1 : Int) := IntWalk.i64_in _ (by have := HP1.out; omega)
              obtain ⟨q8, hs2, hv2⟩ := slice_l (b := bl) (off := ol) (n := n8) (c := c8) (p := p1) (by have := HP1.out; omega) lc8.1
              have VT : Hid (IVec w6.drew (.slice q8 (n8 - p1) (c8 - p1)) (ms.drop (p + 1))) := by rw [← HP1.out]; exact hv2 _ _ (R.out.2.2.1.keep (grown_drewN w6 1))
              have hs1 : ∀ W : World, (Instr.slice 45 (.slice (some ⟨bl, ol, none⟩) n8 c8) none (some (.int .i64 (p : Int))) (some (.int .i64 (p : Int)))).run Try.prog W = .ok (.slice (some ⟨bl, ol, none⟩) p p) W := fun W => slice_hm (by omega) W
              clear hv2
              go_wp2_with fail
              go_region_held3 (fun w' => wa.grownBy w' none) (first | exact gb_drew R.out.2.2.2.2.2 | exact grown_trans (gb_drew R.out.2.2.2.2.2) g7)
                ((refine step_append_rest (by rfl) _ _ (by rfl) _ (by rfl) (by rfl) VC.out VT.out HLEN.out ?_; intro v8 w7 vl g7 at7))
              have R7 : Hid (IOwn wa.heap.size w7 va (ls ++ [(xn : Int)]) ∧ Out wa.heap.size w7 vb (usAt ua (ls ++ [(xn : Int)])) ∧ IVec w7 v8 (ms.take p ++ ms.drop (p + 1)) ∧ Hi w7.heap.size v8 ∧ (Ap v8 va ∧ Ap v8 vb) ∧ wa.grownBy w7 none) := rest_app R.out vl g7 at7
              have HJ2 : Hid ((ls ++ [(xn : Int)]).length = j + 1) := by show _ = _; rw [List.length_append, HJ.out]; rfl
              clear vl g7 at7 R VC VT HJ hs1 hs2 wp1 wp3
              go_wp2
              go_roundw
              case rel => exact ⟨j + 1, ls ++ [(xn : Int)], ms.take p ++ ms.drop (p + 1), by omega, by go_num, HJ2, R7.out.1, R7.out.2.1, R7.out.2.2.1, R7.out.2.2.2.1, R7.out.2.2.2.2.1, PK2, R7.out.2.2.2.2.2⟩
              case measure => simp [intOf]; omega
        · obtain rfl : k = j := by omega
          have i1 : ¬ (k : Int) < (k : Int) := by omega
          have MEM : Hid (∀ y ∈ ls, 0 ≤ y ∧ y < n) := fun y hy => PK.out.mem y (List.mem_append_left _ hy)
          have KS : Hid (∀ w', wr.grownBy w' none → Mat w' (.slice ps ns cs) (usAt ua ls) (rowsAt A k L ls)) := fun w' g => picked (OS.out.keep g) (KA.out _ (grown_trans GA.out.2.2 (grown_trans GK.out g))) MEM.out
          have KT : Hid (∀ w', wr.grownBy w' none → IVec w' (.slice pt k ct) ls) := fun w' g => OT.out.ivec.keep g
          have KL : Hid (∀ w', wr.grownBy w' none → IVec w' (.slice (some ⟨bl, ol, none⟩) n8 c8) ms) := fun w' g => VL.out.keep g
          have KA' : Hid (∀ w', wr.grownBy w' none → Mat w' (.slice pa n ca) ua (codeList A k n L)) := fun w' g => KA.out _ (grown_trans GA.out.2.2 (grown_trans GK.out g))
          have KD' : Hid (∀ w', wr.grownBy w' none → Mat w' (.slice pd nd cd) ud A) := fun w' g => KD.out _ (grown_trans GA.out.2.1 (grown_trans GK.out g))
          have GW : Hid (w.grownBy wr none) := grown_trans GB.out (grown_trans GA.out.1 GK.out)
          have hR0 : ((rowsAt A k L ls).getD 0 []).length = L := by rw [rowsAt_get (by have := HJ.out; omega), codeRow_len]
          have DEC : Hid (Calls Try.prog 21 #[.int .i64 (k : Int), .int .i64 (n : Int), .slice pt k ct, .slice ps ns cs] wr fun e w' => ∃ p m c us, e = .returned (.tuple #[.slice p m c, .int .i64 0]) ∧ OwnMat wr.heap.size w' (.slice p m c) us A ∧ wr.grownBy w' none) := by
            refine (decode_yes (KT.out _ (World.grownBy.refl _ _)) (KS.out _ (World.grownBy.refl _ _)) ⟨mayI_iff.2 (by omega), by rw [rowsAt_len], even_rowsAt _ _ _ _, PK.out.good⟩ (by have := HJ.out; omega)).mono ?_
            rintro e w' ⟨p, m, c, us, D, rfl, od, _, _, tl, g⟩
            rw [hR0] at tl
            obtain rfl := told_picked SA.out MA.out (by have := HJ.out; omega) tl
            exact ⟨p, m, c, us, rfl, od, g⟩
          have DES : Hid (∀ w' va vc us X, IVec w' va (ls.drop 1) → Mat w' vc us X → X = rowsAt A k L (ls.drop 1) → Calls Try.prog 21 #[.int .i64 (k : Int), .int .i64 (n : Int), va, vc] w' fun e w'' => e = .returned (.tuple #[.slice none 0 0, .int .i64 4]) ∧ w'.grownBy w'' none) := fun w' va vc us X h1 h2 hX => by
            subst hX
            exact decode_short h1 h2 ⟨mayI_iff.2 (by omega), by rw [rowsAt_len], even_rowsAt _ _ _ _, PK.out.goodTail⟩ (by rw [List.length_drop, HJ.out]; omega)
          obtain ⟨bt, ot, rfl⟩ : ∃ bt ot, pt = some ⟨bt, ot, none⟩ := by
            obtain ⟨b, o, e, _⟩ := (KT.out _ (World.grownBy.refl _ _)).spot (k := 0) (by have := HJ.out; omega)
            exact ⟨b, o, e⟩
          have lS := opened_len (KS.out _ (World.grownBy.refl _ _))
          rw [rowsAt_len, HJ.out] at lS
          obtain rfl : ns = k := lS.2.1
          obtain ⟨bs, os, rfl⟩ : ∃ bs os, ps = some ⟨bs, os, none⟩ := by
            obtain ⟨b, o, e, _⟩ := (KS.out _ (World.grownBy.refl _ _)).row.spot (k := 0) (by omega)
            exact ⟨b, o, e⟩
          have lT := (ivec_len (KT.out _ (World.grownBy.refl _ _))).2
          have hcs := lS.2.2.2.1
          have MEM2 : Hid (∀ t, t < ms.length → 0 ≤ ms.getD t 0 ∧ ms.getD t 0 < n) := fun t ht => PK.out.at ht
          clear lS hR0 OT OS VL HL8 AP GK HNS KA KD GA HB VP GB
          go_wp2_with fail
          refine DEC.out.mono ?_
          rintro e w7 ⟨pg, ng, cg, ug, rfl, og, g7⟩
          have KG : Hid (∀ w', w7.grownBy w' none → Mat w' (.slice pg ng cg) ug A) := fun w' g => og.mat.keep g
          have G7 : Hid (wr.grownBy w7 none) := g7
          clear og g7 DEC
          have SM : Hid (Calls Try.prog 14 #[.slice pg ng cg, .slice pd nd cd] w7 fun e w'' => e = .returned (.bool true) ∧ w7.grownBy w'' none) := by
            have h := refSame_any (KG.out _ (World.grownBy.refl _ _)) (KD'.out _ G7.out)
            rw [decide_eq_true rfl] at h
            exact h
          go_wp2_with (go_at_call 14; refine SM.out.mono ?_; rintro e w8 ⟨rfl, g8⟩; have G8 : Hid (wr.grownBy w8 none ∧ w7.grownBy w8 none) := ⟨grown_trans G7.out g8, g8⟩; clear g8)
          clear SM
          obtain ⟨wc, hwc⟩ : ∃ wc, wc = wr := ⟨wr, rfl⟩
          subst hwc
          go_loopw [127] (fun ti wr => ∃ t : Nat, t ≤ n8 ∧ ti = .int .i64 t ∧ Hid (w8.grownBy wr none)) (fun ti _ => n8 - (intOf ti).toNat)
          case atStart => exact ⟨0, by omega, rfl, World.grownBy.refl _ _⟩
          case round =>
            obtain ⟨t, ht, rfl, GR⟩ := hrel
            by_cases htl : t < n8
            · have t1 : (t : Int) < (n8 : Int) := by omega
              have t3 : (0 : Int) ≤ (t : Int) := by omega
              obtain ⟨hx0, hxn⟩ := MEM2.out t (by have := HN8.out; omega)
              obtain ⟨b', o', e', hcl⟩ := (KL.out _ (grown_trans G8.out.1 GR.out)).spot (k := t) (by have := HN8.out; omega)
              injection e' with e'
              injection e' with e1 e2
              subst e1 e2
              obtain ⟨xn, hxe⟩ := Int.eq_ofNat_of_zero_le hx0
              have hxe' : ms.getD t 0 = (xn : Int) := hxe
              rw [hxe'] at hcl hxn
              have hxn2 : xn < n := by omega
              have i5 : (xn : Int) < (n : Int) := by omega
              clear hxe hxe' hx0 hxn
              have ON : Hid (Calls Try.prog 19 #[.int .i64 (ns : Int), .int .i64 (n : Int), .int .i64 (xn : Int), .slice pg ng cg] wr fun e w' => ∃ p m c, e = .returned (.tuple #[.slice p m c, .int .i64 0]) ∧ Own wr.heap.size w' (.slice p m c) (codeRow A ns L xn) ∧ wr.grownBy w' none) := one_yes (KG.out _ (grown_trans G8.out.2 GR.out)) SA.out hk1 hkn hn hxn2
              go_wp2_with fail
              refine ON.out.mono ?_
              rintro e w9 ⟨pc, mc, cc, rfl, oc, g9⟩
              have G9 : Hid (w8.grownBy w9 none) := grown_trans GR.out g9
              have mA := KA'.out _ (grown_trans G8.out.1 (gb_drew G9.out))
              obtain ⟨ba, oa, rfl, hca⟩ := mA.row.spot (k := xn) (by have := (opened_len mA).1; omega)
              have vA := mA.vec xn (by rw [codeList_len]; exact hxn2)
              rw [codeList_get hxn2] at vA
              obtain ⟨pr, nr, cr, er, hnr⟩ := vA.opened
              rw [er] at hca vA
              have S0 : Hid (w9.drew.cell? ⟨ba, oa + xn, none⟩ = some (.slice pr nr cr) ∧ (convert 39 9 (.slice pc mc cc)).run Try.prog w9.drew = .ok (.string (strOf (codeRow A ns L xn))) w9.drew ∧ (convert 39 9 (.slice pr nr cr)).run Try.prog w9.drew = .ok (.string (strOf (codeRow A ns L xn))) w9.drew) := ⟨hca, convert_vec (oc.vec.keep (grown_drewN w9 1)), convert_vec vA⟩
              clear ON oc g9 mA vA hca er hnr hcl GR
              generalize strOf (codeRow A ns L xn) = st at *
              go_wp2_with fail
              go_region_held3 (fun w' => w'.cell? ⟨ba, oa + xn, none⟩ = some (.slice pr nr cr) ∧ (convert 39 9 (.slice pc mc cc)).run Try.prog w' = .ok (.string st) w' ∧ (convert 39 9 (.slice pr nr cr)).run Try.prog w' = .ok (.string st) w') (exact S0.out) (fail)
              clear S0
              have G9' : Hid (w8.grownBy w9.drew none) := gb_drew G9.out
              clear G9
              go_wp2
              go_roundw
              case rel => exact ⟨t + 1, by omega, by go_num, G9'⟩
              case measure => simp [intOf]; omega
            · have t1 : ¬ (t : Int) < (n8 : Int) := by omega
              obtain ⟨q1, hs1, hv1⟩ := slice_l (b := bt) (off := ot) (n := ns) (c := ct) (p := 1) hk1 lT.1
              obtain ⟨q2, hs2, hv2⟩ := slice_lm (b := bs) (off := os) (n := ns) (c := cs) (p := 1) hk1 hcs
              have hs1' : ∀ W : World, (Instr.slice 45 (.slice (some ⟨bt, ot, none⟩) ns ct) (some (.int .i64 1)) none none).run Try.prog W = .ok (.slice q1 (ns - 1) (ct - 1)) W := hs1
              have hs2' : ∀ W : World, (Instr.slice 24 (.slice (some ⟨bs, os, none⟩) ns cs) (some (.int .i64 1)) none none).run Try.prog W = .ok (.slice q2 (ns - 1) (cs - 1)) W := hs2
              have GD : Hid (wc.grownBy wr.drew none) := grown_trans G8.out.1 (gb_drew GR.out)
              have DS : Hid (Calls Try.prog 21 #[.int .i64 (ns : Int), .int .i64 (n : Int), .slice q1 (ns - 1) (ct - 1), .slice q2 (ns - 1) (cs - 1)] wr.drew fun e w'' => e = .returned (.tuple #[.slice none 0 0, .int .i64 4]) ∧ wr.drew.grownBy w'' none) := DES.out _ _ _ _ _ (hv1 _ _ (KT.out _ GD.out)) (hv2 _ _ _ (KS.out _ GD.out)) (rowsAt_drop _ _ _ _)
              clear hs1 hs2 hv1 hv2
              go_wp2_with fail
              go_region_held3 (fun w' => wc.grownBy w' none) (first | exact GD.out | exact grown_trans GD.out g9)
                ((go_at_call 21; refine DS.out.mono ?_; rintro e w9 ⟨rfl, g9⟩))
              go_wp2
              go_ret
              exact ⟨rfl, grown_trans GW.out (grown_trans GD.out g9)⟩
end Go.Proofs.Ytdeajclghlbhcaa.codeAny
