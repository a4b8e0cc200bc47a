/- The walk of ChunkTakes. -/
import Derived.Test.YthmdidiojjmebaaSpo7
namespace Go.Proofs.Ythmdidiojjmebaa.chunkTakes
open Go.ChangeShapes Go.WideShapes Go.ChangeAt Go.RowKit

theorem past {T : TypeId} {B : Nat} {wa w w' : World} {v : Value} {us : List Value} {X : List (List Nat)} {row : Option Nat} (h0 : RMat T B wa v us X) (h : RMat T B w v us X) (g : w.grownBy w' row) (hr : ∀ r, row = some r → wa.heap.size ≤ r) : RMat T B w' v us X := by
  have key : ∀ {u : Value}, Hi wa.heap.size u → u.ownBlock = none ∨ u.ownBlock ≠ row := fun {u} hu => by
    cases e : u.ownBlock with
    | none => exact .inl rfl
    | some k =>
      refine .inr fun e2 => ?_
      have h1 := hu k e
      have h2 := hr k e2.symm
      omega
  exact ⟨h.len, h.row.kept g (key h0.hi), h.same, fun j hj => (h.vec j hj).kept g (key (h0.vec j hj).hi)⟩

set_option maxHeartbeats 4000000 in
theorem walk_nat {w : World} {n : Nat} {v : Value} {vs : List Value} {X : List (List Nat)} (mv : Mat w v vs X) :
    Calls Try.prog 4 #[v, .int .u64 (n : Int)] w fun e w' => e = .returned (.bool true) ∧ w.grownBy w' none := by
  obtain ⟨q, N, cap, rfl, hN⟩ := mv.row.opened
  have hs := mv.same
  have hNl : N * 24 ≤ 140737488351232 := by have := mv.row.len; omega
  have MV : Hid (∀ w', w.grownBy w' none → Mat w' (.slice q N cap) vs X) := fun w' g => mv.keep g
  have HN : Hid (N = vs.length ∧ N = X.length ∧ N * 24 ≤ 140737488351232) := ⟨hN, by omega, hNl⟩
  have hNl2 : N ≤ 140737488351232 := by omega
  clear mv hN hs hNl
  go_enter Try.func4, Try.ntmps4
  go_wp2_with fail
  go_loopw [5, 6] (fun to ti wr => ∃ k : Nat, k ≤ N ∧ ti = .int .i64 k ∧ Hid (∃ us, RMat 5 w.heap.size wr to us (X.take k)) ∧ Hid (w.grownBy wr none)) (fun _ ti _ => N - (intOf ti).toNat)
  case atStart => exact ⟨0, by omega, rfl, ⟨_, by rw [List.take_zero]; exact RMat.nil _ _ _⟩, World.grownBy.refl _ _⟩
  case round =>
    obtain ⟨k, hk, rfl, OK, GK⟩ := hrel
    by_cases hlt : k < N
    · have i3 : (k : Int) < (N : Int) := by omega
      have i4 : (0 : Int) ≤ (k : Int) := by omega
      obtain ⟨b, off, rfl, hr⟩ := (MV.out _ GK.out).row.spot (k := k) (by have := HN.out; omega)
      have VX0 := (MV.out _ GK.out).vec k (by have := HN.out; omega)
      obtain ⟨pk, nk, ck, ek, hnk⟩ := VX0.opened
      rw [ek] at hr VX0
      have VX : Hid (Vec wr (.slice pk nk ck) (X.getD k [])) := VX0
      obtain ⟨us, OM⟩ := OK.out
      have MK : Hid (RMat 5 w.heap.size wr u5 us (X.take k)) := OM
      have HS : Hid (X.take (k + 1) = X.take k ++ [X.getD k []]) := by
        have h1 : k < X.length := by have := HN.out; omega
        have e : X[k] = X.getD k [] := by simp [List.getD, h1]
        show _ = _
        rw [List.take_succ_eq_append_getElem h1, e]
      have HL : Hid ((us.length + 1) * 24 ≤ 140737488351232) := by show _ ≤ _; rw [OM.same, List.length_take]; have := HN.out; omega
      have HX : Hid ((X.getD k []).length ≤ 140737488351232) := VX0.len
      clear OM OK ek hnk VX0
      generalize X.take k = XK at *
      generalize X.getD k [] = SK at *
      go_wp2_with (first
        | (at_builtin; refine wpList_append_vec rfl _ _ rfl _ _ rfl rfl (Own.nil w.heap.size wr) VX.out GK.out.size (by simpa using HX.out) ?_; intro x w1 o1 g1; rw [List.nil_append] at o1; obtain ⟨p1, n1, c1, rfl, hz1⟩ := o1.vec.opened; clear hz1; have O1 : Hid (Own w.heap.size w1 (.slice p1 n1 c1) SK) := o1; have M1 : Hid (RMat 5 w.heap.size w1 u5 us XK) := MK.out.keep g1; have G1 : Hid (w.grownBy w1 none) := grown_trans GK.out g1; clear o1 g1)
        | (at_builtin; refine wpList_append_row rfl _ _ rfl _ ⟨w1.heap.size, 0, none⟩ rfl rfl (M1.out.keep (World.grownBy_alloc w1 _ none)).row (cell_new1 _ _ rfl) rfl (gb_alloc G1.out _).size HL.out ?_; intro v2 w2 r2 g2 at2; have M2 : Hid (RMat 5 w.heap.size w2 v2 (us ++ [.slice p1 n1 c1]) (XK ++ [SK])) := (M1.out.keep (World.grownBy_alloc w1 _ none)).more (by decide) (O1.out.arr.keep (World.grownBy_alloc w1 _ none)) HL.out r2 g2; have G2 : Hid (w.grownBy w2 none) := grown_new (gb_alloc G1.out _) g2 (fun i e => M1.out.lo i e); clear r2 g2 at2))
      go_roundw
      case rel => exact ⟨k + 1, by omega, by go_num, ⟨_, by rw [HS.out]; exact M2.out⟩, G2⟩
      case measure => simp [intOf]; omega
    · have hkN : k = N := by omega
      subst hkN
      have hXk : X.take k = X := List.take_of_length_le (by have := HN.out; omega)
      rw [hXk] at OK
      obtain ⟨us, OM⟩ := OK.out
      obtain ⟨po, no, co, eo, ho⟩ := OM.mat.row.opened
      clear ho
      subst eo
      have MO : Hid (RMat 5 w.heap.size wr (.slice po no co) us X) := OM
      have HWA : Hid (∃ wa, wa = wr) := ⟨wr, rfl⟩
      obtain ⟨wa, hwa⟩ := HWA.out
      subst hwa
      have CT : Hid (Calls Try.prog 12 #[.slice po no co] wa fun e w' => ∃ u, e = .returned (.tuple #[.int .u64 ((CM.tN X : Nat) : Int), u, .bool (CM.yes X)]) ∧ Own wa.heap.size w' u (CM.tL X) ∧ wa.grownBy w' none) := cTake_any OM.mat
      have RT : Hid (∀ w', wa.grownBy w' none → Calls Try.prog 13 #[.slice q k cap] w' fun e w'' => ∃ u, e = .returned (.tuple #[.int .u64 ((CM.tN X : Nat) : Int), u, .bool (CM.yes X)]) ∧ Own w'.heap.size w'' u (CM.tL X) ∧ w'.grownBy w'' none) := fun w' g => refTake7 (MV.out _ (grown_trans GK.out g))
      have WH : Hid (∀ w', wa.grownBy w' none → Calls Try.prog 14 #[.slice po no co, .int .u64 (n : Int)] w' fun e w'' => e = .returned (.bool (CM.yes X && decide (CM.tN X = n))) ∧ w'.grownBy w'' none) := fun w' g => whole_any n (OM.mat.keep g)
      have hsm := CM.tL_small OM.mat.small
      have hcmp := str_cmp hsm hsm
      rw [decide_eq_true rfl] at hcmp
      obtain ⟨bb, hbb⟩ : ∃ bb, bb = decide (CM.tN X = n) := ⟨_, rfl⟩
      have hTn : (((CM.tN X : Nat) : Int) == (n : Int)) = bb := by
        rw [hbb]
        by_cases e : CM.tN X = n
        · rw [decide_eq_true e, eqb_yes e]
        · rw [decide_eq_false e, eqb_no e]
      rw [← hbb] at WH
      clear OM OK hbb hXk HWA hsm
      generalize CM.tN X = T at *
      generalize CM.tL X = L at *
      generalize CM.yes X = Y at *
      cases Y
      · rw [Bool.false_and] at WH
        go_wp2_with (first
          | (go_at_call 12; refine CT.out.mono ?_; rintro e w1 ⟨d, rfl, od, g1⟩; obtain ⟨pd, nd, cd, rfl, hnd⟩ := od.vec.opened; have HND : Hid (nd = L.length) := hnd; have hndl : nd ≤ 140737488351232 := (by rw [hnd]; exact od.len); have OD : Hid (Own wa.heap.size w1 (.slice pd nd cd) L) := od; have G1 : Hid (wa.grownBy w1 none) := g1; clear od g1 hnd)
          | (go_at_call 13; refine (RT.out _ G1.out).mono ?_; rintro e w2 ⟨d2, rfl, o2, g2⟩; have OD2 : Hid (Own wa.heap.size w2 (.slice pd nd cd) L) := OD.out.keep g2; have G2 : Hid (wa.grownBy w2 none) := grown_trans G1.out g2; have v1 := convert_vec OD2.out.vec; have v2 := convert_vec o2.vec; clear o2 g2)
          | (go_at_call 14; refine (WH.out _ G2.out).mono ?_; rintro e w3 ⟨rfl, g3⟩; have OD3 : Hid (Own wa.heap.size w3 (.slice pd nd cd) L) := OD2.out.keep g3; have G3 : Hid (wa.grownBy w3 none) := grown_trans G2.out g3; clear g3))
        clear CT RT WH
        have M3 : Hid (RMat 5 w.heap.size w3 (.slice po no co) us X) := MO.out.keep G3.out
        go_loopw [14] (fun ti wr => ∃ j : Nat, j ≤ nd ∧ ti = .int .i64 j ∧ Hid (∃ ys, ys.length = nd ∧ Own wa.heap.size wr (.slice pd nd cd) ys) ∧ Hid (RMat 5 w.heap.size wr (.slice po no co) us X) ∧ Hid (w.grownBy wr none)) (fun ti _ => nd - (intOf ti).toNat)
        case atStart => exact ⟨0, by omega, rfl, ⟨L, HND.out.symm, OD3.out⟩, M3, grown_trans GK.out G3.out⟩
        case round =>
          clear M3 G3 OD3 OD2 G2 OD G1
          obtain ⟨j, hj, rfl, AK, MK, GJ⟩ := hrel
          by_cases hjl : j < nd
          · have j1 : (j : Int) < (nd : Int) := by omega
            have j3 : (0 : Int) ≤ (j : Int) := by omega
            obtain ⟨ys, hys, ay⟩ := AK.out
            obtain ⟨g, rfl, hz, hc, hf, h1, hset, hgr⟩ := ay.spot (k := j) (by omega)
            clear hz
            generalize hy : ys.getD j 0 = y at *
            obtain ⟨z, hz1, hz2⟩ := xor_one h1
            have hlo := ay.lo g rfl
            have HA : Hid (∃ ys, ys.length = nd ∧ Own wa.heap.size (wr.setCell ⟨g, j, none⟩ (.int .u8 (z : Int))) (.slice (some ⟨g, 0, none⟩) nd cd) ys) := ⟨ys.set j z, by rw [List.length_set]; exact hys, hset z hz1⟩
            have HM : Hid (RMat 5 w.heap.size (wr.setCell ⟨g, j, none⟩ (.int .u8 (z : Int))) (.slice po no co) us X) := past MO.out MK.out (hgr _) (fun r e => by have := Option.some.inj e; omega)
            have HG : Hid (w.grownBy (wr.setCell ⟨g, j, none⟩ (.int .u8 (z : Int))) none) := grown_new GJ.out (hgr _) (fun r e => by have := Option.some.inj e; have := GK.out.size; omega)
            clear hset hgr ay hys AK MK GJ hy hlo
            go_wp2
            go_roundw
            case rel => exact ⟨j + 1, by omega, by go_num, HA, HM, HG⟩
            case measure => simp [intOf]; omega
          · have j1 : ¬ (j : Int) < (nd : Int) := by omega
            have SA : Hid (Calls Try.prog 10 #[.slice po no co, .slice q k cap] wr fun e w' => e = .returned (.bool true) ∧ wr.grownBy w' none) := by
              have h := refSame_any MK.out.mat (MV.out _ GJ.out)
              rw [decide_eq_true rfl] at h
              exact h
            go_wp2_with (first
              | (go_at_call 10; refine SA.out.mono ?_; rintro e w4 ⟨rfl, g4⟩; have G4 : Hid (w.grownBy w4 none) := grown_trans GJ.out g4; clear g4)
              | (go_at_call 11; refine (wakes_any _).mono ?_; rintro e w5 ⟨rfl, g5⟩; have G5 : Hid (w.grownBy w5 none) := grown_trans G4.out g5; clear g5))
            go_ret
            exact ⟨rfl, G5.out⟩
      · rw [Bool.true_and] at WH
        go_wp2_with (first
          | (go_at_call 12; refine CT.out.mono ?_; rintro e w1 ⟨d, rfl, od, g1⟩; obtain ⟨pd, nd, cd, rfl, hnd⟩ := od.vec.opened; have HND : Hid (nd = L.length) := hnd; have hndl : nd ≤ 140737488351232 := (by rw [hnd]; exact od.len); have OD : Hid (Own wa.heap.size w1 (.slice pd nd cd) L) := od; have G1 : Hid (wa.grownBy w1 none) := g1; clear od g1 hnd)
          | (go_at_call 13; refine (RT.out _ G1.out).mono ?_; rintro e w2 ⟨d2, rfl, o2, g2⟩; have OD2 : Hid (Own wa.heap.size w2 (.slice pd nd cd) L) := OD.out.keep g2; have G2 : Hid (wa.grownBy w2 none) := grown_trans G1.out g2; have v1 := convert_vec OD2.out.vec; have v2 := convert_vec o2.vec; clear o2 g2)
          | (go_at_call 14; refine (WH.out _ G2.out).mono ?_; rintro e w3 ⟨rfl, g3⟩; have OD3 : Hid (Own wa.heap.size w3 (.slice pd nd cd) L) := OD2.out.keep g3; have G3 : Hid (wa.grownBy w3 none) := grown_trans G2.out g3; clear g3))
        clear CT RT WH
        have M3 : Hid (RMat 5 w.heap.size w3 (.slice po no co) us X) := MO.out.keep G3.out
        go_loopw [14] (fun ti wr => ∃ j : Nat, j ≤ nd ∧ ti = .int .i64 j ∧ Hid (∃ ys, ys.length = nd ∧ Own wa.heap.size wr (.slice pd nd cd) ys) ∧ Hid (RMat 5 w.heap.size wr (.slice po no co) us X) ∧ Hid (w.grownBy wr none)) (fun ti _ => nd - (intOf ti).toNat)
        case atStart => exact ⟨0, by omega, rfl, ⟨L, HND.out.symm, OD3.out⟩, M3, grown_trans GK.out G3.out⟩
        case round =>
          clear M3 G3 OD3 OD2 G2 OD G1
          obtain ⟨j, hj, rfl, AK, MK, GJ⟩ := hrel
          by_cases hjl : j < nd
          · have j1 : (j : Int) < (nd : Int) := by omega
            have j3 : (0 : Int) ≤ (j : Int) := by omega
            obtain ⟨ys, hys, ay⟩ := AK.out
            obtain ⟨g, rfl, hz, hc, hf, h1, hset, hgr⟩ := ay.spot (k := j) (by omega)
            clear hz
            generalize hy : ys.getD j 0 = y at *
            obtain ⟨z, hz1, hz2⟩ := xor_one h1
            have hlo := ay.lo g rfl
            have HA : Hid (∃ ys, ys.length = nd ∧ Own wa.heap.size (wr.setCell ⟨g, j, none⟩ (.int .u8 (z : Int))) (.slice (some ⟨g, 0, none⟩) nd cd) ys) := ⟨ys.set j z, by rw [List.length_set]; exact hys, hset z hz1⟩
            have HM : Hid (RMat 5 w.heap.size (wr.setCell ⟨g, j, none⟩ (.int .u8 (z : Int))) (.slice po no co) us X) := past MO.out MK.out (hgr _) (fun r e => by have := Option.some.inj e; omega)
            have HG : Hid (w.grownBy (wr.setCell ⟨g, j, none⟩ (.int .u8 (z : Int))) none) := grown_new GJ.out (hgr _) (fun r e => by have := Option.some.inj e; have := GK.out.size; omega)
            clear hset hgr ay hys AK MK GJ hy hlo
            go_wp2
            go_roundw
            case rel => exact ⟨j + 1, by omega, by go_num, HA, HM, HG⟩
            case measure => simp [intOf]; omega
          · have j1 : ¬ (j : Int) < (nd : Int) := by omega
            have SA : Hid (Calls Try.prog 10 #[.slice po no co, .slice q k cap] wr fun e w' => e = .returned (.bool true) ∧ wr.grownBy w' none) := by
              have h := refSame_any MK.out.mat (MV.out _ GJ.out)
              rw [decide_eq_true rfl] at h
              exact h
            go_wp2_with (first
              | (go_at_call 10; refine SA.out.mono ?_; rintro e w4 ⟨rfl, g4⟩; have G4 : Hid (w.grownBy w4 none) := grown_trans GJ.out g4; clear g4)
              | (go_at_call 11; refine (wakes_any _).mono ?_; rintro e w5 ⟨rfl, g5⟩; have G5 : Hid (w.grownBy w5 none) := grown_trans G4.out g5; clear g5))
            go_ret
            exact ⟨rfl, G5.out⟩

theorem walk {w : World} {n : Int} {v : Value} {vs : List Value} {X : List (List Nat)} (mv : Mat w v vs X) (h0 : 0 ≤ n) (_ : n < 18446744073709551616) :
    Calls Try.prog 4 #[v, .int .u64 n] w fun e w' => e = .returned (.bool true) ∧ w.grownBy w' none := by
  obtain ⟨k, rfl⟩ := Int.eq_ofNat_of_zero_le h0
  exact walk_nat mv
end Go.Proofs.Ythmdidiojjmebaa.chunkTakes
