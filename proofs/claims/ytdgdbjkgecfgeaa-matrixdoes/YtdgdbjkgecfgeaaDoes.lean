/- MatrixDoes: for any two [][]byte a and b and any []int l the call hayricklaw03.MatrixDoes(a, b, l) returns true, and a, b and l read afterwards as they read before.
   Conditions: none beyond the form's own (each argument is readable as data and within the form's reach). -/
import Derived.Test.YtdgdbjkgecfgeaaInts
import Derived.Test.YtdgdbjkgecfgeaaBoth
namespace Go.Proofs.Ytdgdbjkgecfgeaa.matrixDoes
open Go.ChangeShapes Go.WideShapes Go.ChangeAt Go.RowKit
set_option linter.unusedVariables false

set_option maxHeartbeats 12800000 in
set_option maxRecDepth 100000 in
theorem walk {w : World} {a b l : Value} {va vb : List Value} {X Y : List (List Nat)} {ls : List Int} (ma : Mat w a va X) (mb : Mat w b vb Y) (hl : IVec w l ls ∧ ls.length * 8 ≤ 140737488351232) :
    Calls Try.prog 3 #[a, b, l] w fun e w' => e = .returned (.bool true) ∧ w.grownBy w' none := by
  obtain ⟨q, N, cap, rfl, hN⟩ := ma.row.opened
  obtain ⟨q', N', cap', rfl, hN'⟩ := mb.row.opened
  obtain ⟨ql, L, capl, rfl, hL⟩ := hl.1.opened
  have MA : Hid (∀ w', w.grownBy w' none → Mat w' (.slice q N cap) va X) := fun w' g => ma.keep g
  have MB : Hid (∀ w', w.grownBy w' none → Mat w' (.slice q' N' cap') vb Y) := fun w' g => mb.keep g
  have ML : Hid (∀ w', w.grownBy w' none → IVec w' (.slice ql L capl) ls) := fun w' g => hl.1.keep g
  have HL : Hid (L = ls.length ∧ ls.length * 8 ≤ 140737488351232) := ⟨hL, hl.2⟩
  have hLl : L ≤ 140737488351232 := by have := hl.2; omega
  clear ma mb hl hN hN' hL
  go_enter Try.func3, Try.ntmps3
  go_wp2_with fail
  refine (awake_any w).mono ?_
  rintro e w1 ⟨rfl, g1⟩
  have G1 : Hid (w.grownBy w1 none) := g1
  clear g1
  go_wp2_with fail
  refine (great_any (MA.out _ G1.out)).mono ?_
  rintro e w2 ⟨⟨b1, rfl⟩, hw⟩
  obtain rfl := hw.symm
  clear hw
  cases b1
  case true =>
    go_wp2
    go_ret
    exact ⟨rfl, G1.out⟩
  case false =>
  go_wp2_with fail
  refine (great_any (MB.out _ G1.out)).mono ?_
  rintro e w2 ⟨⟨b2, rfl⟩, hw⟩
  obtain rfl := hw.symm
  clear hw
  cases b2
  case true =>
    go_wp2
    go_ret
    exact ⟨rfl, G1.out⟩
  case false =>
  by_cases h300 : 300 < L
  · have i300 : (300 : Int) < (L : Int) := by omega
    go_wp2
    go_ret
    exact ⟨rfl, G1.out⟩
  have i300 : ¬ (300 : Int) < (L : Int) := by omega
  go_wp2_with fail
  refine (refCopy_any (MA.out _ G1.out)).mono ?_
  rintro e w2 ⟨v, ux, rfl, om, g2⟩
  obtain ⟨px, nx, cx, rfl, hq⟩ := om.mat.row.opened
  have MX2 : Hid (∀ w', w2.grownBy w' none → Mat w' (.slice px nx cx) ux X) := fun w' g => om.mat.keep g
  have G2 : Hid (w.grownBy w2 none) := grown_trans G1.out g2
  clear om g2 hq G1 i300 h300
  go_wp2_with fail
  refine (refCopy_any (MB.out _ G2.out)).mono ?_
  rintro e w3 ⟨v, uy, rfl, om, g3⟩
  obtain ⟨py, ny, cy, rfl, hq⟩ := om.mat.row.opened
  have MY3 : Hid (∀ w', w3.grownBy w' none → Mat w' (.slice py ny cy) uy Y) := fun w' g => om.mat.keep g
  have G3 : Hid (w.grownBy w3 none ∧ w2.grownBy w3 none) := ⟨grown_trans G2.out g3, g3⟩
  clear om g3 hq G2
  go_wp2_with (at_builtin; refine wpList_append_ints rfl _ _ rfl _ rfl rfl (ML.out _ G3.out.1) HL.out.2 ?_; intro v' w4 iv g4; obtain ⟨pl, nl, cl, rfl, hnl⟩ := iv.opened; have IV4 : Hid (IVec w4 (.slice pl nl cl) ls) := iv; have HNL : Hid (nl = ls.length) := hnl; have G4 : Hid (w.grownBy w4 none ∧ w2.grownBy w4 none ∧ w3.grownBy w4 none) := ⟨grown_trans G3.out.1 g4, grown_trans G3.out.2 g4, g4⟩; clear iv g4 hnl)
  have KX : Hid (∀ w', w4.grownBy w' none → Mat w' (.slice px nx cx) ux X) := fun w' g => MX2.out _ (grown_trans G4.out.2.1 g)
  have KY : Hid (∀ w', w4.grownBy w' none → Mat w' (.slice py ny cy) uy Y) := fun w' g => MY3.out _ (grown_trans G4.out.2.2 g)
  have KL : Hid (∀ w', w4.grownBy w' none → IVec w' (.slice pl nl cl) ls) := fun w' g => IV4.out.keep g
  have KA : Hid (∀ w', w4.grownBy w' none → Mat w' (.slice q N cap) va X) := fun w' g => MA.out _ (grown_trans G4.out.1 g)
  have KB : Hid (∀ w', w4.grownBy w' none → Mat w' (.slice q' N' cap') vb Y) := fun w' g => MB.out _ (grown_trans G4.out.1 g)
  have KM : Hid (∀ w', w4.grownBy w' none → IVec w' (.slice ql L capl) ls) := fun w' g => ML.out _ (grown_trans G4.out.1 g)
  have G : Hid (w.grownBy w4 none) := G4.out.1
  clear MX2 MY3 IV4 MA MB ML G3 G4
  refine (mul_both (KX.out _ (World.grownBy.refl _ _)) (KY.out _ (World.grownBy.refl _ _))).mono ?_
  rintro e w5 ⟨p5, n5, c5, u5', P, k5, rfl, om, is, g5⟩
  have O5 : Hid (∀ w', w5.grownBy w' none → Mat w' (.slice p5 n5 c5) u5' P ∧ Part w4.heap.size w' (.slice p5 n5 c5) u5') := fun w' g => ⟨om.mat.keep g, (om.part (Nat.le_refl _)).keep g⟩
  have S5 : Hid (MulIs X Y P k5) := is
  have W5 : Hid (w4.grownBy w5 none) := g5
  clear om is g5
  go_wp2_with fail
  refine (refMul_both (KA.out _ W5.out) (KB.out _ W5.out)).mono ?_
  rintro e w6 ⟨p6, n6, c6, u6', Q, k6, rfl, om, is, g6⟩
  obtain ⟨hPQ, hk⟩ := S5.out.one is
  subst hPQ hk
  have O6 : Hid (∀ w', w6.grownBy w' none → Mat w' (.slice p6 n6 c6) u6' P) := fun w' g => om.mat.keep g
  have W6 : Hid (w4.grownBy w6 none ∧ w5.grownBy w6 none) := ⟨grown_trans W5.out g6, g6⟩
  clear om is g6 S5 W5
  go_wp2_with fail
  refine (invert_both (KX.out _ W6.out.1)).mono ?_
  rintro e w7 ⟨p7, n7, c7, u7', R, k7, rfl, om, is, g7⟩
  have O7 : Hid (∀ w', w7.grownBy w' none → Mat w' (.slice p7 n7 c7) u7' R ∧ Part w4.heap.size w' (.slice p7 n7 c7) u7') := fun w' g => ⟨om.mat.keep g, (om.part W6.out.1.size).keep g⟩
  have S7 : Hid (InvIs X R k7) := is
  have W7 : Hid (w4.grownBy w7 none ∧ w5.grownBy w7 none ∧ w6.grownBy w7 none) := ⟨grown_trans W6.out.1 g7, grown_trans W6.out.2 g7, g7⟩
  clear om is g7 W6
  go_wp2_with fail
  refine (refInvert_both (KA.out _ W7.out.1)).mono ?_
  rintro e w8 ⟨p8, n8, c8, u8', Q, k8, rfl, om, is, g8⟩
  obtain ⟨hPQ, hk⟩ := S7.out.one is
  subst hPQ hk
  have O8 : Hid (∀ w', w8.grownBy w' none → Mat w' (.slice p8 n8 c8) u8' R) := fun w' g => om.mat.keep g
  have W8 : Hid (w4.grownBy w8 none ∧ w5.grownBy w8 none ∧ w6.grownBy w8 none ∧ w7.grownBy w8 none) := ⟨grown_trans W7.out.1 g8, grown_trans W7.out.2.1 g8, grown_trans W7.out.2.2 g8, g8⟩
  clear om is g8 S7 W7
  go_wp2_with fail
  refine (rows_both (KX.out _ W8.out.1) (KL.out _ W8.out.1)).mono ?_
  rintro e w9 ⟨p9, n9, c9, u9', S, k9, rfl, om, is, g9⟩
  have O9 : Hid (∀ w', w9.grownBy w' none → Mat w' (.slice p9 n9 c9) u9' S ∧ Part w4.heap.size w' (.slice p9 n9 c9) u9') := fun w' g => ⟨om.mat.keep g, (om.part W8.out.1.size).keep g⟩
  have S9 : Hid (RowsIs X ls S k9) := is
  have W9 : Hid (w4.grownBy w9 none ∧ w5.grownBy w9 none ∧ w6.grownBy w9 none ∧ w7.grownBy w9 none ∧ w8.grownBy w9 none) := ⟨grown_trans W8.out.1 g9, grown_trans W8.out.2.1 g9, grown_trans W8.out.2.2.1 g9, grown_trans W8.out.2.2.2 g9, g9⟩
  clear om is g9 W8
  go_wp2_with fail
  refine (refRows_both (KA.out _ W9.out.1) (KM.out _ W9.out.1)).mono ?_
  rintro e w10 ⟨p10, n10, c10, u10', Q, k10, rfl, om, is, g10⟩
  obtain ⟨hPQ, hk⟩ := S9.out.one is
  subst hPQ hk
  have W10 : Hid (w4.grownBy w10 none ∧ w5.grownBy w10 none ∧ w6.grownBy w10 none ∧ w7.grownBy w10 none ∧ w8.grownBy w10 none ∧ w9.grownBy w10 none) := ⟨grown_trans W9.out.1 g10, grown_trans W9.out.2.1 g10, grown_trans W9.out.2.2.1 g10, grown_trans W9.out.2.2.2.1 g10, grown_trans W9.out.2.2.2.2 g10, g10⟩
  have SA : Hid (∀ w', w10.grownBy w' none → Calls Try.prog 17 #[.slice p5 n5 c5, .slice p6 n6 c6] w' fun e w'' => e = .returned (.bool true) ∧ w'.grownBy w'' none) := fun w' g => by
    have h := refSame_any (O5.out _ (grown_trans W10.out.2.1 g)).1 (O6.out _ (grown_trans W10.out.2.2.1 g))
    rw [show decide (P = P) = true from decide_eq_true rfl] at h
    exact h
  have SB : Hid (∀ w', w10.grownBy w' none → Calls Try.prog 17 #[.slice p7 n7 c7, .slice p8 n8 c8] w' fun e w'' => e = .returned (.bool true) ∧ w'.grownBy w'' none) := fun w' g => by
    have h := refSame_any (O7.out _ (grown_trans W10.out.2.2.2.1 g)).1 (O8.out _ (grown_trans W10.out.2.2.2.2.1 g))
    rw [show decide (R = R) = true from decide_eq_true rfl] at h
    exact h
  have SC : Hid (∀ w', w10.grownBy w' none → Calls Try.prog 17 #[.slice p9 n9 c9, .slice p10 n10 c10] w' fun e w'' => e = .returned (.bool true) ∧ w'.grownBy w'' none) := fun w' g => by
    have h := refSame_any (O9.out _ (grown_trans W10.out.2.2.2.2.2 g)).1 (om.mat.keep g)
    rw [show decide (S = S) = true from decide_eq_true rfl] at h
    exact h
  have MX' : Hid (∀ w', w10.grownBy w' none → Calls Try.prog 18 #[.slice px nx cx] w' fun e w'' => e = .returned (.bool (mayB X)) ∧ w'' = w') := fun w' g => may_any (KX.out _ (grown_trans W10.out.1 g))
  have MA' : Hid (∀ w', w10.grownBy w' none → Calls Try.prog 19 #[.slice q N cap] w' fun e w'' => e = .returned (.bool (mayB X)) ∧ w'' = w') := fun w' g => refMay_any (KA.out _ (grown_trans W10.out.1 g))
  have SX : Hid (∀ w', w10.grownBy w' none → Calls Try.prog 20 #[.slice px nx cx, .slice py ny cy] w' fun e w'' => e = .returned (.bool (decide (X = Y))) ∧ w'' = w') := fun w' g => same_any (KX.out _ (grown_trans W10.out.1 g)) (KY.out _ (grown_trans W10.out.1 g))
  have SR : Hid (∀ w', w10.grownBy w' none → Calls Try.prog 17 #[.slice q N cap, .slice q' N' cap'] w' fun e w'' => e = .returned (.bool (decide (X = Y))) ∧ w'.grownBy w'' none) := fun w' g => refSame_any (KA.out _ (grown_trans W10.out.1 g)) (KB.out _ (grown_trans W10.out.1 g))
  have RG : Hid (∀ w', w10.grownBy w' none → Rags w4 w4.heap.size w' [(.slice p5 n5 c5, u5'), (.slice p7 n7 c7, u7'), (.slice p9 n9 c9, u9')]) := fun w' g => ⟨fun m hm => by
    simp only [List.mem_cons, List.not_mem_nil, or_false] at hm
    rcases hm with rfl | rfl | rfl
    · exact (O5.out _ (grown_trans W10.out.2.1 g)).2
    · exact (O7.out _ (grown_trans W10.out.2.2.2.1 g)).2
    · exact (O9.out _ (grown_trans W10.out.2.2.2.2.2 g)).2, Nat.le_refl _, grown_trans W10.out.1 g⟩
  clear om is g10 S9 W9 W10 O5 O6 O7 O8 O9
  generalize mayB X = bm at *
  generalize decide (X = Y) = bs at *
  have Z10 : Hid (w10.grownBy w10 none) := World.grownBy.refl _ _
  go_wp2_with fail
  refine (SA.out _ Z10.out).mono ?_
  rintro e w11 ⟨rfl, g⟩
  have Z11 : Hid (w10.grownBy w11 none) := g
  clear g Z10
  go_wp2_with fail
  refine (SB.out _ Z11.out).mono ?_
  rintro e w12 ⟨rfl, g⟩
  have Z12 : Hid (w10.grownBy w12 none) := grown_trans Z11.out g
  clear g Z11
  go_wp2_with fail
  refine (SC.out _ Z12.out).mono ?_
  rintro e w13 ⟨rfl, g⟩
  have Z13 : Hid (w10.grownBy w13 none) := grown_trans Z12.out g
  clear g Z12
  go_wp2_with fail
  refine (MX'.out _ Z13.out).mono ?_
  rintro e w14 ⟨rfl, hw⟩
  obtain rfl := hw.symm
  clear hw
  go_wp2_with fail
  refine (MA'.out _ Z13.out).mono ?_
  rintro e w14 ⟨rfl, hw⟩
  obtain rfl := hw.symm
  clear hw
  go_wp2_with fail
  refine (SX.out _ Z13.out).mono ?_
  rintro e w14 ⟨rfl, hw⟩
  obtain rfl := hw.symm
  clear hw
  go_wp2_with fail
  refine (SR.out _ Z13.out).mono ?_
  rintro e w14 ⟨rfl, g⟩
  have Z14 : Hid (w10.grownBy w14 none) := grown_trans Z13.out g
  have R14 : Hid (Rags w4 w4.heap.size w14 [(.slice p5 n5 c5, u5'), (.slice p7 n7 c7, u7'), (.slice p9 n9 c9, u9')]) := RG.out _ Z14.out
  clear g Z13 SA SB SC MX' MA' SX SR RG Z14
  go_wp2_with fail
  refine (spoil_any R14.out (us := u5') (by simp)).mono ?_
  rintro e w15 ⟨rfl, rg⟩
  have R15 : Hid (Rags w4 w4.heap.size w15 [(.slice p5 n5 c5, u5'), (.slice p7 n7 c7, u7'), (.slice p9 n9 c9, u9')]) := rg
  clear rg R14
  go_wp2_with fail
  refine (spoil_any R15.out (us := u7') (by simp)).mono ?_
  rintro e w16 ⟨rfl, rg⟩
  have R16 : Hid (Rags w4 w4.heap.size w16 [(.slice p5 n5 c5, u5'), (.slice p7 n7 c7, u7'), (.slice p9 n9 c9, u9')]) := rg
  clear rg R15
  go_wp2_with fail
  refine (spoil_any R16.out (us := u9') (by simp)).mono ?_
  rintro e w17 ⟨rfl, rg⟩
  have Z17 : Hid (w4.grownBy w17 none) := rg.gr
  clear rg R16
  go_wp2_with fail
  go_loopw [22, 130] (fun tb ti wr => ∃ k : Nat, k ≤ nl ∧ ti = .int .i64 k ∧ tb = .bool true ∧ Hid (w4.grownBy wr none)) (fun _ ti _ => nl - (intOf ti).toNat)
  case atStart => exact ⟨0, by omega, rfl, rfl, Z17.out⟩
  case round =>
    clear Z17
    obtain ⟨k, hk, rfl, rfl, ZK⟩ := hrel
    have hnlL : nl = L := by have := HL.out; have := HNL.out; omega
    by_cases hlt : k < nl
    · have i1 : (k : Int) < (nl : Int) := by omega
      have i2 : (k : Int) < (L : Int) := by omega
      have i3 : (0 : Int) ≤ (k : Int) := by omega
      have ZD : w4.grownBy wr.drew none := grown_trans ZK.out (grown_drewN _ 1)
      obtain ⟨b1, o1, rfl, hc1⟩ := (KL.out _ ZD).spot (k := k) (by have := HNL.out; omega)
      obtain ⟨b2, o2, rfl, hc2⟩ := (KM.out _ ZD).spot (k := k) (by have := HNL.out; omega)
      have ZD' : Hid (w4.grownBy wr.drew none) := ZD
      generalize ls.getD k 0 = z at *
      have HC : Hid (wr.drew.cell? ⟨b1, o1 + k, none⟩ = some (.int .i64 z) ∧ wr.drew.cell? ⟨b2, o2 + k, none⟩ = some (.int .i64 z)) := ⟨hc1, hc2⟩
      clear hc1 hc2 ZD hnlL
      go_wp2_with fail
      go_region_held3 (fun w' => w'.cell? ⟨b1, o1 + k, none⟩ = some (.int .i64 z) ∧ w'.cell? ⟨b2, o2 + k, none⟩ = some (.int .i64 z)) (exact HC.out) (fail)
      all_goals
        go_wp2
        go_roundw
        case rel => exact ⟨k + 1, by omega, by go_num, by simp, ZD'.out⟩
        case measure => simp [intOf]; omega
    · have S1 : Hid (Calls Try.prog 17 #[.slice px nx cx, .slice q N cap] wr fun e w'' => e = .returned (.bool true) ∧ wr.grownBy w'' none) := by
        have h := refSame_any (KX.out _ ZK.out) (KA.out _ ZK.out)
        rw [show decide (X = X) = true from decide_eq_true rfl] at h
        exact h
      have S2 : Hid (∀ w', wr.grownBy w' none → Calls Try.prog 17 #[.slice py ny cy, .slice q' N' cap'] w' fun e w'' => e = .returned (.bool true) ∧ w'.grownBy w'' none) := fun w' g => by
        have h := refSame_any (KY.out _ (grown_trans ZK.out g)) (KB.out _ (grown_trans ZK.out g))
        rw [show decide (Y = Y) = true from decide_eq_true rfl] at h
        exact h
      go_wp2_with fail
      refine S1.out.mono ?_
      rintro e w18 ⟨rfl, g⟩
      have Z18 : Hid (wr.grownBy w18 none) := g
      clear g
      go_wp2_with fail
      refine (S2.out _ Z18.out).mono ?_
      rintro e w19 ⟨rfl, g⟩
      have Z19 : Hid (w.grownBy w19 none) := grown_trans G.out (grown_trans ZK.out (grown_trans Z18.out g))
      clear g
      go_wp2
      go_ret
      exact ⟨rfl, Z19.out⟩

set_option maxRecDepth 100000 in
theorem lifted (os : Os) (started : os.Started) (H : Type) (enc : TypeId × Value → H) :
    ReturnsInHanded {} Try.checked os 3 .any (Rows.matrixDoesSpec.pre6 enc Try.prog Try.f3 Rows.matrixDoesRow.domain false) (Rows.matrixDoesSpec.post enc Try.prog Try.f3 false true false false) := by
  refine returnsInHanded_of_change_sized (C := Try.checked) Try.own started (by kernel_rfl) Try.func3
    (ChangeSpec.witness6 (enc := enc) (C := Try.checked) false ⟨#[], #[.slice none 0 0, .slice none 0 0, .slice none 0 0], []⟩ 8 (by kernel_rfl) (by kernel_rfl) (by kernel_rfl) (by kernel_rfl)) ?_
  intro W base args ds gs before hval0 hW hcnd hsz0 _
  have hsz : (DataW.weightsEach Try.prog (Try.f3.params.toList ++ Rows.matrixDoesSpec.plain.varTypes Try.prog) (ds ++ gs)).all (· ≤ reachBytes) = true := hsz0
  clear hsz0
  have hval : ∀ (j : Nat) t v, Try.f3.params[j]? = some t → args[j]? = some v → Value.okWide Try.prog W .any base t v := hval0
  have hW' := hW
  obtain ⟨p, q, hA0, hV, rfl, hfz, hnd⟩ := hW
  have hA : DataW.TrodAll enc Try.prog W 0 (fun _ => true) true Try.f3.params.toList args.toList ds p := hA0
  rw [Try.params3] at hA hval hsz
  obtain ⟨v0, vs0, d0, ds0, p0, q0, hargs, rfl, rfl, h0, r0⟩ := trodAll_cons hA
  obtain ⟨v1, vs1, d1, ds1, p1, q1, rfl, rfl, rfl, h1, r1⟩ := trodAll_cons r0
  obtain ⟨v2, vs2, d2, ds2, p2, q2, rfl, rfl, rfl, h2, r2⟩ := trodAll_cons r1
  obtain ⟨rfl, rfl, rfl⟩ := trodAll_nil r2
  obtain rfl : args = #[v0, v1, v2] := by cases args; simp_all
  obtain ⟨rfl, rfl⟩ := trodVars_none hV
  have k0 := h0
  have lt0 : ∀ x ∈ p0, x.block < W.heap.size := by obtain ⟨m, hm⟩ := k0; exact DataW.trod_lt m _ _ _ hm
  obtain ⟨y0, x0, w0⟩ := mat_arg (hval 0 22 v0 rfl rfl) h0 (fun n hn => of_decide_eq_true (List.all_eq_true.1 hsz n (DataW.weights_mem_each (j := 0) (t := 22) rfl rfl n hn)))
  have k1 := h1
  have lt1 : ∀ x ∈ p1, x.block < W.heap.size := by obtain ⟨m, hm⟩ := k1; exact DataW.trod_lt m _ _ _ hm
  obtain ⟨y1, x1, w1⟩ := mat_arg (hval 1 22 v1 rfl rfl) h1 (fun n hn => of_decide_eq_true (List.all_eq_true.1 hsz n (DataW.weights_mem_each (j := 1) (t := 22) rfl rfl n hn)))
  have k2 := h2
  have lt2 : ∀ x ∈ p2, x.block < W.heap.size := by obtain ⟨m, hm⟩ := k2; exact DataW.trod_lt m _ _ _ hm
  obtain ⟨x2, w2⟩ := ivec_arg (hval 2 23 v2 rfl rfl) h2 (fun elems spare e => sized_slice hsz (j := 2) (t := 23) (e := 3) rfl (by rw [e]; rfl) Try.underlying23)
  clear hA0 hval0
  refine (walk w0 w1 w2).mono fun e W' ⟨he, hg⟩ => ?_
  have bel : Below W.heap.size W W' := grown_below hg (Nat.le_refl _) (by simp)
  subst he
  exact ⟨_, rfl, _, _, _, [], _, [], hW', trodAll_mk1 (shut_bool Try.underlying4 _), (trodAll_cons_mk (Below.trod Try.laidOut (by kernel_rfl) (of_decide_eq_true (by kernel_rfl)) k0 bel lt0) (trodAll_cons_mk (Below.trod Try.laidOut (by kernel_rfl) (of_decide_eq_true (by kernel_rfl)) k1 bel lt1) (trodAll_cons_mk (Below.trod Try.laidOut (by kernel_rfl) (of_decide_eq_true (by kernel_rfl)) k2 bel lt2) trodAll_mk0))), rfl, bel.frame _, fun h => by cases h⟩

theorem over : Rows.matrixDoesRow.holds Try.pinned (OpenSpec.ofChange Rows.matrixDoesSpec) :=
  OpenClaim.holds_of_wide 3 Try.f3 rfl rfl rfl rfl rfl rfl rfl ⟨rfl, rfl, rfl, rfl, rfl⟩ rfl rfl rfl rfl rfl (by kernel_rfl) Try.func3 (by kernel_rfl)
    (of_decide_eq_true (by kernel_rfl)) (by unfold Func.isWrapper; first | (rw [if_pos (by decide +kernel)]; kernel_rfl) | (rw [if_neg (by decide +kernel)]; exact ⟨rfl, rfl⟩))
    (fun os started H enc _ => lifted os started H enc)

theorem proved : Rows.MatrixDoesSaid := over
end Go.Proofs.Ytdgdbjkgecfgeaa.matrixDoes

namespace Go.Proofs.Ytdgdbjkgecfgeaa
theorem matrixDoes_holds : Rows.MatrixDoesSaid := matrixDoes.proved
#print axioms matrixDoes_holds
end Go.Proofs.Ytdgdbjkgecfgeaa
