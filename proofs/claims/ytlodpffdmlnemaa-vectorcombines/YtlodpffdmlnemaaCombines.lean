/- VectorCombines: for any byte slice and any slice of byte slices the call hayricklaw02.VectorCombines(c, rows) returns true, and c and rows read afterwards as they read before.
   Conditions: none beyond the form's own (what is handed in is readable as data and within the form's reach). -/
import Derived.Test.YtlodpffdmlnemaaLift
import Derived.Test.YtlodpffdmlnemaaOwnMat
namespace Go.Proofs.Ytlodpffdmlnemaa.vectorCombines
open Go.ChangeShapes Go.WideShapes Go.ChangeAt Go.RowKit
set_option linter.unusedVariables false

theorem take_more {α : Type} (xs : List α) (k : Nat) (d : α) (h : k < xs.length) : xs.take k ++ [xs.getD k d] = xs.take (k + 1) := by
  rw [List.take_succ_eq_append_getElem h]
  simp [List.getD, h]

set_option maxHeartbeats 16000000 in
theorem walk {w : World} {c r : Value} {cs : List Nat} {vs : List Value} {xss : List (List Nat)} (vc : Vec w c cs) (mr : Mat w r vs xss) :
    Calls Try.prog 5 #[c, r] w fun e w' => e = .returned (.bool true) ∧ w.grownBy w' none := by
  obtain ⟨q, N, cap, rfl, hN⟩ := mr.row.opened
  have hNl : N * 24 ≤ 140737488351232 := by rw [hN]; exact mr.row.len
  have VC : Hid (Vec w c cs) := vc
  have MR : Hid (Mat w (.slice q N cap) vs xss) := mr
  have HN : Hid (N = vs.length ∧ N = xss.length) := ⟨hN, by have := mr.same; omega⟩
  obtain ⟨i0, hi, hz0, hz1, hz2⟩ := info_parts Try.info22
  clear vc mr hN
  go_enter Try.func5, Try.ntmps5
  go_wp2_with fail
  go_loopw [5, 6] (fun tv ti wr => ∃ (k : Nat) (us : List Value), k ≤ N ∧ ti = .int .i64 k ∧ Hid (us.length = k) ∧ OwnMat w.heap.size wr tv us (xss.take k) ∧ Hid (w.grownBy wr none)) (fun _ ti _ => N - (intOf ti).toNat)
  case atStart => exact ⟨0, [], by omega, rfl, rfl, OwnMat.nil _ _, World.grownBy.refl _ _⟩
  case round =>
    obtain ⟨k, us, hk, rfl, HU, om, GK⟩ := hrel
    by_cases hlt : k < N
    · obtain ⟨b, off, rfl, hr0⟩ := MR.out.row.spot (k := k) (by have := HN.out; omega)
      obtain ⟨pk, nk, ck, ek, hnk⟩ := (MR.out.vec k (by have := HN.out; omega)).opened
      have VK : Hid (Vec w (.slice pk nk ck) (xss.getD k [])) := by rw [← ek]; exact MR.out.vec k (by have := HN.out; omega)
      rw [ek] at hr0
      have hr := GK.out.cell hr0 (by simp)
      clear ek hnk hr0
      have HT : Hid (xss.take k ++ [xss.getD k []] = xss.take (k + 1)) := take_more xss k [] (by have := HN.out; omega)
      generalize xss.take k = X at *
      generalize xss.getD k [] = Y at *
      have i1 : (k : Int) < (N : Int) := by omega
      have i3 : (0 : Int) ≤ (k : Int) := by omega
      have OM : Hid (OwnMat w.heap.size wr u5 us X) := om
      have HB : Hid (w.heap.size ≤ wr.heap.size) := GK.out.size
      clear om
      go_wp2_with fail
      refine (own_any (VK.out.keep GK.out)).mono ?_
      rintro e w1 ⟨u, rfl, ou, g1⟩
      obtain ⟨pu, nu, cu, rfl, hnu⟩ := ou.vec.opened
      have OU : Hid (Own wr.heap.size w1 (.slice pu nu cu) Y) := ou
      clear hnu
      have G1 : Hid (wr.grownBy w1 none) := g1
      clear ou g1 hr
      go_wp2_with (at_builtin; refine wpList_append_own _ rfl _ _ 38 rfl w.heap.size 22 i0 (.slice none 0 0) 1 24 Try.underlying38 hi hz0 hz1 hz2 rfl (by decide) u5 us.length us rfl ((OM.out.keep (grown_trans G1.out (World.grownBy_alloc _ _ none))).row) ⟨w1.heap.size, 0, none⟩ 1 1 [.slice pu nu cu] rfl rfl ?c1 ?c2 ?c3 ?c4 ?c5 ?_)
      case c1 => exact fun j v hj => by
                  match j, hj with
                  | 0, hj => simp at hj; subst hj; simp [Addr.add]
      case c2 => exact fun v hv => by
                  simp at hv
                  subst hv
                  rfl
      case c3 => have := HU.out; unfold maxLen; omega
      case c4 => have := HU.out; omega
      case c5 => have h1 := HB.out; have h2 := G1.out.size; simp; omega
      intro v' w2 hown hgrow hnil
      have R : Hid (OwnMat w.heap.size w2 v' (us ++ [.slice pu nu cu]) (xss.take (k + 1)) ∧ w.grownBy w2 none) := by
        rw [← HT.out]
        refine ⟨(OM.out.keep (grown_trans G1.out (World.grownBy_alloc _ _ none))).more ((OU.out.down HB.out).keep (World.grownBy_alloc _ _ none)) (by have := HU.out; omega) hown hgrow, ?_⟩
        exact grown_new (grown_trans GK.out (grown_trans G1.out (World.grownBy_alloc _ _ none))) hgrow OM.out.lo
      clear hown hgrow hnil OM OU G1 HT VK HB
      go_wp2
      go_roundw
      case rel => exact ⟨k + 1, us ++ [.slice pu nu cu], by omega, by go_num, show _ = _ by simpa using HU.out, R.out.1, R.out.2⟩
      case measure => simp [intOf]; omega
    · have hkN : N = k := by omega
      subst hkN
      have HX : xss.take N = xss := by rw [List.take_of_length_le]; have := HN.out; omega
      rw [HX] at om
      clear HX hlt hk hi hz0 hz1 hz2
      go_wp2_with fail
      refine (own_any (VC.out.keep GK.out)).mono ?_
      rintro e w1 ⟨u, rfl, ou, g1⟩
      have om1 := om.keep g1
      have G1 : Hid (w.grownBy w1 none) := grown_trans GK.out g1
      clear g1 GK om
      go_wp2_with fail
      refine (combine_all ou.vec om1.mat).mono ?_
      rintro e w2 ⟨x, rfl, ox, g2⟩
      have om2 := om1.keep g2
      have G2 : Hid (w.grownBy w2 none) := grown_trans G1.out g2
      have HX : Hid (Hi w1.heap.size u5) := om1.hi
      have HXV : Hid (∀ j, j < xss.length → Hi w1.heap.size (us.getD j undef)) := fun j hj => (om1.vec j hj).hi
      have hB : w.heap.size ≤ w1.heap.size := G1.out.size
      clear ou om1 g2 G1
      go_wp2_with fail
      refine (refCombine_all (VC.out.keep G2.out) (MR.out.keep G2.out)).mono ?_
      rintro e w3 ⟨y, rfl, oy, g3⟩
      have om3 := om2.keep g3
      have ox3 := ox.keep g3
      have G3 : Hid (w.grownBy w3 none) := grown_trans G2.out g3
      clear om2 ox g3 G2
      have hcx := convert_vec ox3.vec
      have hcy := convert_vec oy.vec
      have hself : ((strOf (combZ cs xss)).toList == (strOf (combZ cs xss)).toList) = true := by simp
      obtain ⟨px, nx, cx, rfl, hnx⟩ := ox3.vec.opened
      have hnxl : nx ≤ 140737488351232 := by rw [hnx]; exact ox3.len
      have HNX : Hid (nx = (combZ cs xss).length) := hnx
      clear hnx oy
      generalize combZ cs xss = Z at *
      generalize combE cs xss = E at *
      go_wp2_with fail
      clear hcx hcy hself
      have OM3 : Hid (OwnMat w.heap.size w3 u5 us xss) := om3
      clear om3
      go_loopw [11] (fun ti wr => ∃ (k : Nat) (zs : List Nat), k ≤ nx ∧ ti = .int .i64 k ∧ Hid (zs.length = nx) ∧ Own w1.heap.size wr (.slice px nx cx) zs ∧ Hid (OwnMat w.heap.size wr u5 us xss) ∧ Hid (w.grownBy wr none)) (fun ti _ => nx - (intOf ti).toNat)
      case atStart => exact ⟨0, Z, by omega, rfl, HNX.out.symm, ox3, OM3, G3⟩
      case round =>
        clear OM3 G3 ox3
        obtain ⟨k, zs, hk, rfl, HZ, oz, OM, GK⟩ := hrel
        by_cases hlt : k < nx
        · obtain ⟨g, rfl, _, hc, hf, h1, hset, hgrow⟩ := oz.spot (k := k) (by have := HZ.out; omega)
          have hx1 := xor_u8 (zs.getD k 0) 1 h1 (by decide)
          have hx2 := M.xor_lt h1 (show 1 < 256 by decide)
          have HS : Hid _ := hset _ hx2
          have HG : Hid _ := hgrow (.int .u8 ((zs.getD k 0 ^^^ 1 : Nat) : Int))
          have HLO : Hid (w1.heap.size ≤ g) := oz.lo g rfl
          generalize zs.getD k 0 = z at *
          have hx1' : bits .xor .u8 (z : Int) 1 = ((z ^^^ 1 : Nat) : Int) := hx1
          generalize z ^^^ 1 = z1 at *
          have i1 : (k : Int) < (nx : Int) := by omega
          have i3 : (0 : Int) ≤ (k : Int) := by omega
          clear hset hgrow hx1 oz
          go_wp2
          go_roundw
          case rel =>
            refine ⟨k + 1, zs.set k z1, by omega, by go_num, show _ = _ by simpa using HZ.out, HS.out, ?_, ?_⟩
            · refine ⟨OM.out.len, OM.out.row.kept HG.out ?_, OM.out.same, fun j hj => (OM.out.vec j hj).kept HG.out ?_⟩
              · exact apart_of (u := .slice (some ⟨g, 0, none⟩) nx cx) HX.out (fun i hi => by simp [Value.ownBlock] at hi; rw [← hi]; exact HLO.out)
              · exact apart_of (u := .slice (some ⟨g, 0, none⟩) nx cx) (HXV.out j hj) (fun i hi => by simp [Value.ownBlock] at hi; rw [← hi]; exact HLO.out)
            · exact grown_new GK.out HG.out (fun i hi => by simp at hi; have := HLO.out; omega)
          case measure => simp [intOf]; omega
        · clear oz HNX HZ
          go_wp2_with fail
          clear hlt hk
          obtain ⟨wz, hwz⟩ : ∃ x, x = wr := ⟨_, rfl⟩
          subst hwz
          go_loopw [12] (fun ti w' => ∃ (j : Nat), j ≤ N ∧ ti = .int .i64 j ∧ Hid (wz.grownBy w' none)) (fun ti _ => N - (intOf ti).toNat)
          case atStart => exact ⟨0, by omega, rfl, World.grownBy.refl _ _⟩
          case round =>
            obtain ⟨j, hj, rfl, GJ⟩ := hrel
            by_cases hlt2 : j < N
            · obtain ⟨b, off, rfl, hr0⟩ := MR.out.row.spot (k := j) (by have := HN.out; omega)
              obtain ⟨pk, nk, ck, ek, hnk⟩ := (MR.out.vec j (by have := HN.out; omega)).opened
              have VK : Hid (Vec w (.slice pk nk ck) (xss.getD j [])) := by rw [← ek]; exact MR.out.vec j (by have := HN.out; omega)
              rw [ek] at hr0
              obtain ⟨pm, nm, cm, rfl, hnm⟩ := OM.out.mat.row.opened
              obtain ⟨bm, offm, rfl, hm0⟩ := OM.out.mat.row.spot (k := j) (by have := HN.out; have := OM.out.same; omega)
              obtain ⟨pu, nu, cu, eu, hnu⟩ := (OM.out.vec j (by have := HN.out; omega)).vec.opened
              have VU : Hid (Vec wz (.slice pu nu cu) (xss.getD j [])) := by rw [← eu]; exact (OM.out.vec j (by have := HN.out; omega)).vec
              rw [eu] at hm0
              have i1 : (j : Int) < (N : Int) := by omega
              have i2 : (j : Int) < (nm : Int) := by have := HN.out; have := OM.out.same; omega
              have i3 : (0 : Int) ≤ (j : Int) := by omega
              clear ek eu hnk hnu hnm
              have hself : ((strOf (xss.getD j [])).toList == (strOf (xss.getD j [])).toList) = true := by simp
              have HY : Hid (∀ w', wz.grownBy w' none → w'.cell? ⟨bm, offm + j, none⟩ = some (.slice pu nu cu) ∧ (convert 22 9 (.slice pu nu cu)).run Try.prog w' = .ok (.string (strOf (xss.getD j []))) w' ∧
                  w'.cell? ⟨b, off + j, none⟩ = some (.slice pk nk ck) ∧ (convert 22 9 (.slice pk nk ck)).run Try.prog w' = .ok (.string (strOf (xss.getD j []))) w') := fun w' g =>
                ⟨g.cell hm0 (by simp), convert_vec (VU.out.keep g), (grown_trans GK.out g).cell hr0 (by simp), convert_vec (VK.out.keep (grown_trans GK.out g))⟩
              clear hm0 hr0 VU VK
              generalize xss.getD j [] = Y at *
              go_wp2_with fail
              go_region_held3 (fun w' => w'.cell? ⟨bm, offm + j, none⟩ = some (.slice pu nu cu) ∧ (convert 22 9 (.slice pu nu cu)).run Try.prog w' = .ok (.string (strOf Y)) w' ∧
                  w'.cell? ⟨b, off + j, none⟩ = some (.slice pk nk ck) ∧ (convert 22 9 (.slice pk nk ck)).run Try.prog w' = .ok (.string (strOf Y)) w')
                (first | exact HY.out _ (grown_trans GJ.out (grown_drewN _ 1))) (fail)
              clear HY
              go_wp2
              go_roundw
              case rel => exact ⟨j + 1, by omega, by go_num, grown_trans GJ.out (grown_drewN _ 1)⟩
              case measure => simp [intOf]; omega
            · go_wp2_with fail
              refine (wakes_any _).mono ?_
              rintro e w8 ⟨rfl, g8⟩
              have G8 : Hid (w.grownBy w8 none) := grown_trans GK.out (grown_trans GJ.out g8)
              clear g8 GK
              go_wp2
              go_ret
              exact ⟨rfl, G8.out⟩

set_option maxRecDepth 100000 in
theorem lifted (os : Os) (started : os.Started) (H : Type) (enc : TypeId × Value → H) :
    ReturnsInHanded {} Try.checked os 5 .any (Rows.vectorCombinesSpec.pre6 enc Try.prog Try.f5 Rows.vectorCombinesRow.domain false) (Rows.vectorCombinesSpec.post enc Try.prog Try.f5 false true false false) := by
  refine returnsInHanded_of_change_sized (C := Try.checked) Try.own started (by kernel_rfl) Try.func5
    (ChangeSpec.witness6 (enc := enc) (C := Try.checked) false ⟨#[], #[.slice none 0 0, .slice none 0 0], []⟩ 8 (by kernel_rfl) (by kernel_rfl) (by kernel_rfl) (by kernel_rfl)) ?_
  intro W base args ds gs before hval0 hW hcnd hsz0 _
  have hsz : (DataW.weightsEach Try.prog (Try.f5.params.toList ++ Rows.vectorCombinesSpec.plain.varTypes Try.prog) (ds ++ gs)).all (· ≤ reachBytes) = true := hsz0
  clear hsz0
  have hval : ∀ (j : Nat) t v, Try.f5.params[j]? = some t → args[j]? = some v → Value.okWide Try.prog W .any base t v := hval0
  have hW' := hW
  obtain ⟨p, q, hA0, hV, rfl, hfz, hnd⟩ := hW
  have hA : DataW.TrodAll enc Try.prog W 0 (fun _ => true) true Try.f5.params.toList args.toList ds p := hA0
  rw [Try.params5] at hA hval hsz
  obtain ⟨v0, vs0, d0, ds0, p0, q0, hargs, rfl, rfl, h0, r0⟩ := trodAll_cons hA
  obtain ⟨v1, vs1, d1, ds1, p1, q1, rfl, rfl, rfl, h1, r1⟩ := trodAll_cons r0
  obtain ⟨rfl, rfl, rfl⟩ := trodAll_nil r1
  obtain rfl : args = #[v0, v1] := by cases args; simp_all
  obtain ⟨rfl, rfl⟩ := trodVars_none hV
  have k0 := h0
  have lt0 : ∀ x ∈ p0, x.block < W.heap.size := by obtain ⟨m, hm⟩ := k0; exact DataW.trod_lt m _ _ _ hm
  obtain ⟨x0, w0⟩ := vec_arg (hval 0 22 v0 rfl rfl) h0 (fun elems spare e => sized_slice hsz (j := 0) (t := 22) (e := 5) rfl (by rw [e]; rfl) Try.underlying22)
  have k1 := h1
  have lt1 : ∀ x ∈ p1, x.block < W.heap.size := by obtain ⟨m, hm⟩ := k1; exact DataW.trod_lt m _ _ _ hm
  obtain ⟨y1, x1, w1⟩ := mat_arg (hval 1 38 v1 rfl rfl) h1 (fun n hn => of_decide_eq_true (List.all_eq_true.1 hsz n (DataW.weights_mem_each (j := 1) (t := 38) rfl rfl n hn)))
  clear hA0 hval0
  refine (walk w0 w1).mono fun e W' ⟨he, hg⟩ => ?_
  have bel : Below W.heap.size W W' := grown_below hg (Nat.le_refl _) (by simp)
  subst he
  exact ⟨_, rfl, _, _, _, [], _, [], hW', trodAll_mk1 (shut_bool Try.underlying4 _), (trodAll_cons_mk (Below.trod Try.laidOut (by kernel_rfl) (of_decide_eq_true (by kernel_rfl)) k0 bel lt0) (trodAll_cons_mk (Below.trod Try.laidOut (by kernel_rfl) (of_decide_eq_true (by kernel_rfl)) k1 bel lt1) trodAll_mk0)), rfl, bel.frame _, fun h => by cases h⟩

theorem over : Rows.vectorCombinesRow.holds Try.pinned (OpenSpec.ofChange Rows.vectorCombinesSpec) :=
  OpenClaim.holds_of_wide 5 Try.f5 rfl rfl rfl rfl rfl rfl rfl ⟨rfl, rfl, rfl, rfl, rfl⟩ rfl rfl rfl rfl rfl (by kernel_rfl) Try.func5 (by kernel_rfl)
    (of_decide_eq_true (by kernel_rfl)) (by unfold Func.isWrapper; first | (rw [if_pos (by decide +kernel)]; kernel_rfl) | (rw [if_neg (by decide +kernel)]; exact ⟨rfl, rfl⟩))
    (fun os started H enc _ => lifted os started H enc)

theorem proved : Rows.VectorCombinesSaid := over
end Go.Proofs.Ytlodpffdmlnemaa.vectorCombines

namespace Go.Proofs.Ytlodpffdmlnemaa
theorem vectorCombines_holds : Rows.VectorCombinesSaid := vectorCombines.proved
#print axioms vectorCombines_holds
end Go.Proofs.Ytlodpffdmlnemaa
