/- The contract of matrix.solve. -/
import Derived.Test.YtdeajclghlbhcaaRaise
import Derived.Test.YtdeajclghlbhcaaBeside
namespace Go.Proofs.Ytdeajclghlbhcaa
open Go.RowKit

def halfTo (X : List (List Nat)) (n k : Nat) : List (List Nat) := (List.range n).map fun i => if i < k then (X.getD i []).drop n else List.replicate n 0
theorem halfTo_len (X : List (List Nat)) (n k : Nat) : (halfTo X n k).length = n := by simp [halfTo]
theorem halfTo_zero (X : List (List Nat)) (n : Nat) : halfTo X n 0 = List.replicate n (List.replicate n 0) := by
  apply List.ext_getElem
  · simp [halfTo]
  · intro i h1 h2
    simp [halfTo]
theorem halfTo_all (X : List (List Nat)) (n : Nat) : halfTo X n n = halfList X n := List.map_congr_left fun i hi => by simp [List.mem_range.1 hi]
theorem halfTo_get (X : List (List Nat)) (n k : Nat) (h : k < n) : (halfTo X n k).getD k [] = List.replicate n 0 := by simp [halfTo, List.getD, h]
theorem halfTo_set (X : List (List Nat)) (n k : Nat) : (halfTo X n k).set k ((X.getD k []).drop n) = halfTo X n (k + 1) := by
  apply List.ext_getElem
  · simp [halfTo]
  · intro i h1 h2
    by_cases e : k = i
    · subst e; simp [halfTo]
    · by_cases l : i < k
      · simp [halfTo, e, l, show i < k + 1 from by omega]
      · simp [halfTo, e, l, show ¬ i < k + 1 from by omega]

abbrev noInverseChain : List PanicEntry := [{ v := .iface 97 (.agg #[]), recovered := false }]

def Solved (n : Nat) (X : List (List Nat)) (w : World) (e : Ending) (w' : World) : Prop :=
  w.grownBy w' none ∧ ((∃ v us Y, e = .returned v ∧ OwnMat w.heap.size w' v us Y ∧ Sep us ∧ Shape Y n n ∧ MX.Inv n (at2 X) (at2 Y)) ∨ (e = .panicked noInverseChain ∧ NoInv n (at2 X)))

set_option maxHeartbeats 6400000 in
theorem solve_any {w : World} {m : Value} {vs : List Value} {X : List (List Nat)} {n : Nat} (mr : Mat w m vs X) (hs : Shape X n n) (h1 : 1 ≤ n) (h2 : n ≤ 255) :
    Calls Try.prog 59 #[m] w (Solved n X w) := by
  obtain ⟨q, N, cap, rfl, hN⟩ := mr.row.opened
  have hsm := mr.same
  have hlen := hs.len
  have hNn : N = n := by omega
  subst hNn
  have W0 : Hid (Work N (at2 X) 0 (besList X N)) := Work.start hs mr.small
  have BE : Hid (∀ r, r = Value.slice q N cap → Calls Try.prog 62 #[r] w fun e w' => ∃ v us, e = .returned v ∧ OwnMat w.heap.size w' v us (besList X N) ∧ Sep us ∧ w.grownBy w' none) := fun r e => e ▸ beside_any mr hs h1 h2
  clear hN hsm hlen hs mr
  go_enter Try.func59, Try.ntmps59
  go_wp2_with (go_at_call 62; refine (BE.out _ (by with_reducible rfl)).mono ?_; rintro e w1 ⟨v, us, rfl, om, sp, g1⟩; have OM : Hid (OwnMat w.heap.size w1 v us (besList X N)) := om; have SP : Hid (Sep us) := sp; have G1 : Hid (w.grownBy w1 none) := g1; clear om sp g1)
  obtain ⟨p, N2, cap2, rfl, hN2⟩ := OM.out.mat.row.opened
  have hN3 : N2 = N := by have := OM.out.same; have := W0.out.shape.len; omega
  subst hN3
  obtain ⟨g, rfl, hb, q1, q2, q3, q4, q5⟩ := OM.out.place (k := 0) (by have := W0.out.shape.len; omega)
  clear q1 q2 q3 q4 q5 hN2 BE
  have HB : Hid (w.heap.size ≤ g) := hb
  clear hb
  go_loopw [16] (fun ti wr => ∃ (k : Nat) (us : List Value) (X' : List (List Nat)), k ≤ N2 ∧ ti = .int .i64 k ∧ Hid (OwnMat w.heap.size wr (.slice (some ⟨g, 0, none⟩) N2 cap2) us X') ∧ Hid (Sep us) ∧ Hid (Work N2 (at2 X) k X') ∧ Hid (w.grownBy wr none)) (fun ti _ => N2 - (intOf ti).toNat)
  case atStart => exact ⟨0, us, besList X N2, by omega, rfl, OM.out, SP.out, W0.out, G1.out⟩
  case round =>
    clear OM SP W0 G1 us
    obtain ⟨k, us, X1, hk, rfl, OK, SP, WK, GK⟩ := hrel
    by_cases hlt : k < N2
    · have i1 : (k : Int) < (N2 : Int) := by omega
      have i3 : (0 : Int) ≤ (k : Int) := by omega
      rcases pivot_or N2 X1 k with ⟨i, pv⟩ | hz
      · have RY : Hid (∀ r1 r2, r1 = Value.slice (some ⟨g, 0, none⟩) N2 cap2 → r2 = Value.int .i64 (k : Int) → Calls Try.prog 63 #[r1, r2] wr fun e w' => ∃ us', e = .returned (.tuple #[]) ∧ OwnMat w.heap.size w' (.slice (some ⟨g, 0, none⟩) N2 cap2) us' (raised X1 k i) ∧ Sep us' ∧ w.grownBy w' none) := fun r1 r2 e1 e2 => by
          subst e1 e2
          exact raise_yes OK.out SP.out WK.out.shape h2 pv GK.out
        have MI : Hid (Mid N2 (at2 X) k 0 (raised X1 k i)) := WK.out.raise hlt pv
        clear OK SP WK GK pv
        generalize raised X1 k i = X2 at *
        go_wp2_with (go_at_call 63; refine (RY.out _ _ (by with_reducible rfl) (by with_reducible rfl)).mono ?_; rintro e w2 ⟨us2, rfl, om, sp, g2⟩; have OK : Hid (OwnMat w.heap.size w2 (.slice (some ⟨g, 0, none⟩) N2 cap2) us2 X2) := om; have SP : Hid (Sep us2) := sp; have GK : Hid (w.grownBy w2 none) := g2; clear om sp g2)
        clear RY
        go_loopw [24] (fun ti wr => ∃ (t : Nat) (X3 : List (List Nat)), t ≤ N2 ∧ ti = .int .i64 t ∧ Hid (OwnMat w.heap.size wr (.slice (some ⟨g, 0, none⟩) N2 cap2) us2 X3) ∧ Hid (Mid N2 (at2 X) k t X3) ∧ Hid (w.grownBy wr none)) (fun ti _ => N2 - (intOf ti).toNat)
        case atStart => exact ⟨0, X2, by omega, rfl, OK.out, MI.out, GK.out⟩
        case round =>
          clear OK MI GK
          obtain ⟨t, X3, ht, rfl, OK, MI, GK⟩ := hrel
          by_cases htl : t < N2
          · have i4 : (t : Int) < (N2 : Int) := by omega
            have i5 : (0 : Int) ≤ (t : Int) := by omega
            have htX : t < X3.length := by rw [MI.out.shape.len]; exact htl
            have hkX : k < X3.length := by rw [MI.out.shape.len]; exact hlt
            obtain ⟨g1, e1, z1, hct, z0, z2, z3, z4⟩ := OK.out.place (k := t) htX
            obtain rfl : g = g1 := (by injection e1 with e1; injection e1 with e1)
            clear z0 z1 z2 z3 z4 e1
            obtain ⟨g1, e1, z1, hck, z0, z2, z3, z4⟩ := OK.out.place (k := k) hkX
            obtain rfl : g = g1 := (by injection e1 with e1; injection e1 with e1)
            clear z0 z1 z2 z3 z4 e1
            have ot := OK.out.vec t htX
            obtain ⟨pt, nt, ct, et, hnt⟩ := ot.vec.opened
            rw [et] at hct ot
            rw [MI.out.shape.row t htl] at hnt
            by_cases hne : t = k
            · have hnn : ((t : Int) != (k : Int)) = false := by simp [hne]
              have MI' : Hid (Mid N2 (at2 X) k (t + 1) X3) := by subst hne; exact MI.out.skip
              clear hne hck et hnt ot htX hkX
              go_wp2_with fail
              go_roundw
              case rel => exact ⟨t + 1, X3, by omega, by go_num, OK.out, MI'.out, GK.out⟩
              case measure => simp [intOf]; omega
            · have hnn : ((t : Int) != (k : Int)) = true := by simp; omega
              have ok := OK.out.vec k hkX
              obtain ⟨pk, nk, ck, ek, hnk⟩ := ok.vec.opened
              rw [ek] at hck ok
              rw [MI.out.shape.row k hlt] at hnk
              obtain ⟨gt, rfl, z1, hcx, z2, hx256, z3, z4⟩ := ot.spot (k := k) (by rw [MI.out.shape.row t htl]; omega)
              clear z1 z2 z3 z4
              obtain ⟨gk, rfl, z1, z2, z3, z4, z5, z6⟩ := ok.spot (k := 0) (by rw [MI.out.shape.row k hlt]; omega)
              clear z1 z2 z3 z4 z5 z6
              have ap := SP.out k t (by have := OK.out.same; omega) (by have := OK.out.same; omega) (fun e => hne e.symm)
              rw [ek, et] at ap
              have MI' : Hid (Mid N2 (at2 X) k (t + 1) (struck X3 t k)) := MI.out.strike htl hne
              have hlo := ot.lo gt rfl
              have AD : Hid (∀ r1 r2 r3 w', r1 = Value.slice (some ⟨gt, k, none⟩) (nt - k) (ct - k) → r2 = Value.slice (some ⟨gk, k, none⟩) (nk - k) (ck - k) → r3 = Value.int .u8 (((X3.getD t []).getD k 0 : Nat) : Int) → wr.grownBy w' none → Calls Try.prog 64 #[r1, r2, r3] w' fun e w'' => e = .returned (.tuple #[]) ∧
                  OwnMat w.heap.size w'' (.slice (some ⟨g, 0, none⟩) N2 cap2) us2 (struck X3 t k) ∧ w.grownBy w'' none) := fun r1 r2 r3 w' e1 e2 e3 g' => by
                subst e1 e2 e3
                have hv := (ok.keep g').vec.tail (k := k) (by omega)
                rw [Nat.zero_add] at hv
                have hr1 := MI.out.shape.row t htl
                have hr2 := MI.out.shape.row k hlt
                refine (addTimes_any (o := k) (n := nt - k) hx256 (ot.keep g') hv (by rw [List.length_drop]; omega) (by rw [List.length_drop]; omega) ap).mono ?_
                rintro e w'' ⟨rfl, ho, hg⟩
                refine ⟨rfl, ?_, grown_new (grown_trans GK.out g') hg (fun i e => by have := Option.some.inj e; omega)⟩
                refine (OK.out.keep g').rowSet SP.out htX ?_ ?_
                · rw [et]; exact ho
                · rw [et]; exact hg
              generalize struck X3 t k = X4 at *
              generalize (X3.getD t []).getD k 0 = x at *
              have j1 : (k : Int) < (nt : Int) := by omega
              have j2 : (k : Int) ≤ (nt : Int) := by omega
              have j3 : (k : Int) ≤ (nk : Int) := by omega
              have j6 : (k : Int) < (nk : Int) := by omega
              have hct2 : nt ≤ ct := by
                obtain ⟨p3, c3, e3, l3, _⟩ := ot.vec.form
                injection e3 with _ e4 e5
                omega
              have hck2 : nk ≤ ck := by
                obtain ⟨p3, c3, e3, l3, _⟩ := ok.vec.form
                injection e3 with _ e4 e5
                omega
              have j4 : (nt : Int) ≤ (ct : Int) := by omega
              have j5 : (nk : Int) ≤ (ck : Int) := by omega
              clear OK GK MI ot ok et ek hnt hnk ap hlo htX hkX hne hct2 hck2
              go_wp2_with fail
              go_region_with (go_at_call 64; refine (AD.out _ _ _ _ (by first | with_reducible rfl | (simp; omega)) (by first | with_reducible rfl | (simp; omega)) (by with_reducible rfl) (by first | exact grown_drewN _ 1 | exact World.grownBy.refl _ _)).mono ?_; rintro e w3 ⟨rfl, ho, hg⟩; have HO : Hid (OwnMat w.heap.size w3 (.slice (some ⟨g, 0, none⟩) N2 cap2) us2 X4) := ho; have HG : Hid (w.grownBy w3 none) := hg; clear ho hg)
              all_goals
                go_wp2
                go_roundw
                case rel => exact ⟨t + 1, X4, by omega, by go_num, HO.out, MI'.out, HG.out⟩
                case measure => simp [intOf]; omega
          · have htn : t = N2 := by omega
            subst htn
            go_wp2_with fail
            go_roundw
            case rel => exact ⟨k + 1, us2, X3, by omega, by go_num, OK.out, SP.out, MI.out.work, GK.out⟩
            case measure => simp [intOf]; omega
      · have RN : Hid (∀ r1 r2, r1 = Value.slice (some ⟨g, 0, none⟩) N2 cap2 → r2 = Value.int .i64 (k : Int) → Calls Try.prog 63 #[r1, r2] wr fun e w' => e = .panicked noInverseChain ∧ w.grownBy w' none) := fun r1 r2 e1 e2 => by
          subst e1 e2
          exact raise_no OK.out WK.out.shape h2 hlt hz GK.out
        have NI : Hid (NoInv N2 (at2 X)) := WK.out.none hlt hz
        clear OK SP WK GK hz
        go_wp2_with (go_at_call 63; refine (RN.out _ _ (by with_reducible rfl) (by with_reducible rfl)).mono ?_; rintro e w2 ⟨rfl, g2⟩; have GK : Hid (w.grownBy w2 none) := g2; clear g2)
        exact ⟨rfl, GK.out, .inr ⟨rfl, NI.out⟩⟩
    · have hkn : N2 = k := by omega
      subst hkn
      obtain ⟨wa, hwa⟩ : ∃ wa, wa = wr := ⟨wr, rfl⟩
      subst hwa
      have IV : Hid (MX.Inv N2 (at2 X) (at2 (halfList X1 N2)) ∧ Shape (halfList X1 N2) N2 N2 ∧ Shape X1 N2 (2 * N2)) := ⟨WK.out.done, half_shape WK.out.shape, WK.out.shape⟩
      have BL : Hid (∀ w, Calls Try.prog 65 #[.int .i64 (N2 : Int), .int .i64 (N2 : Int)] w fun e w' => ∃ v us, e = .returned v ∧ OwnMat w.heap.size w' v us (List.replicate N2 (List.replicate N2 0)) ∧ Sep us ∧ w.grownBy w' none) := fun w => blank_any N2 N2 w (by omega) (by omega)
      clear WK SP
      go_wp2_with (go_at_call 65; refine (BL.out _).mono ?_; rintro e w2 ⟨v, ur, rfl, om, sp, g2⟩; have OM : Hid (OwnMat wa.heap.size w2 v ur (List.replicate N2 (List.replicate N2 0))) := om; have SR : Hid (Sep ur) := sp; have G2 : Hid (wa.grownBy w2 none) := g2; clear om sp g2)
      have OK2 : Hid (OwnMat w.heap.size w2 (.slice (some ⟨g, 0, none⟩) N2 cap2) us X1) := OK.out.keep G2.out
      have GK2 : Hid (w.grownBy w2 none ∧ w.heap.size ≤ wa.heap.size) := ⟨grown_trans GK.out G2.out, GK.out.size⟩
      have LO : Hid (∀ j, j < us.length → Hi wa.heap.size (us.getD j undef)) := OK.out.hiRow
      clear OK GK BL
      obtain ⟨pr, nr, cr, rfl, hnr⟩ := OM.out.mat.row.opened
      have hnr2 : nr = N2 := by have := OM.out.same; simp at this; omega
      subst hnr2
      obtain ⟨gr, rfl, hbr, q1, q2, q3, q4, q5⟩ := OM.out.place (k := 0) (by simp; omega)
      have HBR : Hid (wa.heap.size ≤ gr) := hbr
      clear q1 q2 q3 q4 q5 hnr hbr
      go_loopw [53] (fun ti wr => ∃ (t : Nat), t ≤ nr ∧ ti = .int .i64 t ∧ Hid (OwnMat w.heap.size wr (.slice (some ⟨g, 0, none⟩) nr cap2) us X1) ∧ Hid (OwnMat wa.heap.size wr (.slice (some ⟨gr, 0, none⟩) nr cr) ur (halfTo X1 nr t)) ∧ Hid (w.grownBy wr none)) (fun ti _ => nr - (intOf ti).toNat)
      case atStart => exact ⟨0, by omega, rfl, OK2.out, by have h := OM.out; rw [← halfTo_zero X1 nr] at h; exact h, GK2.out.1⟩
      case round =>
        clear OK2 OM
        obtain ⟨t, ht, rfl, OK, OR, GK⟩ := hrel
        by_cases htl : t < nr
        · have i4 : (t : Int) < (nr : Int) := by omega
          have i5 : (0 : Int) ≤ (t : Int) := by omega
          have htX : t < X1.length := by rw [IV.out.2.2.len]; exact htl
          have htY : t < (halfTo X1 nr t).length := by rw [halfTo_len]; exact htl
          obtain ⟨g1, e1, z1, hct, z0, z2, z3, z4⟩ := OK.out.place (k := t) htX
          obtain rfl : g = g1 := (by injection e1 with e1; injection e1 with e1)
          clear z0 z1 z2 z3 z4 e1
          obtain ⟨g1, e1, z1, hcr, z0, z2, z3, z4⟩ := OR.out.place (k := t) htY
          obtain rfl : gr = g1 := (by injection e1 with e1; injection e1 with e1)
          clear z0 z1 z2 z3 z4 e1
          have ot := OK.out.vec t htX
          obtain ⟨pt, nt, ct, et, hnt⟩ := ot.vec.opened
          rw [et] at hct ot
          rw [IV.out.2.2.row t htl] at hnt
          obtain ⟨gt, rfl, z1, z2, z3, z4, z5, z6⟩ := ot.spot (k := 0) (by rw [IV.out.2.2.row t htl]; omega)
          clear z1 z2 z3 z4 z5 z6
          have od := OR.out.vec t htY
          rw [halfTo_get _ _ _ htl] at od
          obtain ⟨pd, nd, cd, ed, hnd⟩ := od.vec.opened
          rw [ed] at hcr od
          simp only [List.length_replicate] at hnd
          obtain ⟨gd, rfl, z1, z2, z3, z4, z5, z6⟩ := od.spot (k := 0) (by simp; omega)
          clear z1 z2 z3 z4 z5 z6
          have hlo := od.lo gd rfl
          have hdl : ((X1.getD t []).drop nr).length = nr := by rw [List.length_drop, IV.out.2.2.row t htl]; omega
          have hv := ot.vec.tail (k := nr) (by omega)
          rw [Nat.zero_add] at hv
          have HV : Hid (∀ s, s = Value.slice (some ⟨gt, nr, none⟩) (nt - nr) (ct - nr) → Vec wr.drew s ((X1.getD t []).drop nr)) := fun s e => by subst e; exact hv.keep (grown_drewN _ 1)
          have HD : Hid (Own wa.heap.size wr.drew (.slice (some ⟨gd, 0, none⟩) nd cd) (List.replicate nr 0)) := od.keep (grown_drewN _ 1)
          have HDL : Hid (((X1.getD t []).drop nr).length = nr) := hdl
          have ST : Hid (∀ w3, Own wa.heap.size w3 (.slice (some ⟨gd, 0, none⟩) nd cd) ((X1.getD t []).drop nr ++ (List.replicate nr 0).drop ((X1.getD t []).drop nr).length) → wr.drew.grownBy w3 (some gd) →
              OwnMat w.heap.size w3 (.slice (some ⟨g, 0, none⟩) nr cap2) us X1 ∧ OwnMat wa.heap.size w3 (.slice (some ⟨gr, 0, none⟩) nr cr) ur (halfTo X1 nr (t + 1)) ∧ w.grownBy w3 none ∧ w3.cell? ⟨gr, t, none⟩ = some (.slice (some ⟨gd, 0, none⟩) nd cd)) := fun w3 o3 g3 => by
            have e0 : (List.replicate nr 0).drop ((X1.getD t []).drop nr).length = [] := by rw [hdl, List.drop_replicate, Nat.sub_self]; rfl
            rw [e0, List.append_nil] at o3
            have om3 := (OR.out.keep (grown_drewN _ 1)).rowSet SR.out htY (by rw [ed]; exact o3) (by rw [ed]; exact g3)
            rw [halfTo_set] at om3
            have hsz := GK2.out.2
            have okd := OK.out.keep (grown_drewN wr 1)
            refine ⟨⟨okd.len, okd.row.kept g3 ?_, okd.same, fun j hj => (okd.vec j hj).kept g3 ?_⟩, om3, grown_new (grown_trans GK.out (grown_drewN _ 1)) g3 (fun i e => by have := Option.some.inj e; omega), ?_⟩
            · exact Ap.symm (show Ap (.slice (some ⟨gd, 0, none⟩) nd cd) (.slice (some ⟨g, 0, none⟩) nr cap2) from apart_kinds okd.row (od.keep (grown_drewN _ 1)))
            · exact apart_of (LO.out j (by have := okd.same; omega)) (show Lo wa.heap.size (.slice (some ⟨gd, 0, none⟩) nd cd) from od.lo)
            · obtain ⟨g1, e1, z1, hc3, z0, z2, z3, z4⟩ := om3.place (k := t) (by rw [halfTo_len]; exact htl)
              obtain rfl : gr = g1 := (by injection e1 with e1; injection e1 with e1)
              rw [ed] at hc3
              exact hc3
          have hct2 : nt ≤ ct := by
            obtain ⟨p3, c3, e3, l3, _⟩ := ot.vec.form
            injection e3 with _ e4 e5
            omega
          have j1 : (nr : Int) < (nt : Int) := by omega
          have j2 : (nr : Int) ≤ (nt : Int) := by omega
          have j4 : (nt : Int) ≤ (ct : Int) := by omega
          have j5 : (0 : Int) ≤ (nr : Int) := by omega
          have HC : Hid (wr.drew.cell? ⟨gr, t, none⟩ = some (.slice (some ⟨gd, 0, none⟩) nd cd)) := hcr
          clear OK OR GK ot od et ed hnt hnd hlo htX htY hct2 hdl hv
          go_wp2_with fail
          go_region_held3 (fun w' => w'.cell? ⟨gr, t, none⟩ = some (.slice (some ⟨gd, 0, none⟩) nd cd)) (first | exact HC.out | exact HC3.out) (first | (refine step_copy_into (by rfl) _ _ (by rfl) _ _ (by rfl) (by rfl) HD.out (HV.out _ (by first | with_reducible rfl | (simp [Act.eval]; done) | (simp [Act.eval]; omega))) (by have := HDL.out; rw [List.length_replicate]; omega) (by have := HDL.out; omega) ?_; intro w3 o3 g3; obtain ⟨h5, h6, h7, h8⟩ := ST.out w3 o3 g3; have HC3 : Hid (w3.cell? ⟨gr, t, none⟩ = some (.slice (some ⟨gd, 0, none⟩) nd cd)) := h8; have HO : Hid (OwnMat w.heap.size w3 (.slice (some ⟨g, 0, none⟩) nr cap2) us X1) := h5; have HR : Hid (OwnMat wa.heap.size w3 (.slice (some ⟨gr, 0, none⟩) nr cr) ur (halfTo X1 nr (t + 1))) := h6; have HG : Hid (w.grownBy w3 none) := h7; clear o3 g3 h5 h6 h7 h8))
          all_goals
            go_wp2
            go_roundw
            case rel => exact ⟨t + 1, by omega, by go_num, HO.out, HR.out, HG.out⟩
            case measure => simp [intOf]; omega
        · have htn : t = nr := by omega
          subst htn
          go_wp2
          go_ret
          refine ⟨GK.out, .inl ⟨_, ur, halfList X1 t, rfl, ?_, SR.out, IV.out.2.1, IV.out.1⟩⟩
          have h := OR.out
          rw [halfTo_all] at h
          exact h.down GK2.out.2
end Go.Proofs.Ytdeajclghlbhcaa
