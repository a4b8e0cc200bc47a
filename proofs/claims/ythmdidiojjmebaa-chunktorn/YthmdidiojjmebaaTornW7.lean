/- The walk of ChunkTorn. -/
import Derived.Test.YthmdidiojjmebaaTorn0
namespace Go.Proofs.Ythmdidiojjmebaa.chunkTorn
open Go.ChangeShapes Go.WideShapes Go.ChangeAt Go.RowKit

theorem cap_ge {w : World} {p : Option Addr} {n cap : Nat} {xs : List Nat} (h : Vec w (.slice p n cap) xs) : n ≤ cap := by
  obtain ⟨_, _, p', cap', e, h3, _⟩ := h
  injection e with _ e2 e3
  omega
theorem put_k {w : World} {n k : Nat} {v : Value} {xs : List Nat} (hv : Vec w v xs) (hx : xs.length = 56 * k) (h0 : n ≠ 0) (h1 : 1 ≤ k) (h64 : k ≤ 64) :
    Calls Try.prog 8 #[.int .u64 (n : Int), v] w fun e w' => ∃ p c us, e = .returned (.tuple #[.slice p k c, .int .i64 0]) ∧ Mat w' (.slice p k c) us (CM.secs n xs k) ∧ w.grownBy w' none := by
  have hf : CM.fit n xs = true := CM.fit_iff.2 ⟨h0, by omega, by omega, by omega⟩
  have hS : CM.putS n xs = CM.secs n xs k := by unfold CM.putS; rw [if_pos hf, hx]; congr 1; omega
  have h := cPut_any (n := n) hv
  rw [(CM.putE_fit n xs).2 hf, hS] at h
  refine h.mono ?_
  rintro e w' ⟨u, us, he, hm, hg⟩
  obtain ⟨p, m, c, rfl, _⟩ := hm.mat.row.opened
  obtain rfl : m = k := by have h1 := (mat_n hm.mat).2; rw [CM.secs_len] at h1; omega
  exact ⟨p, c, us, he, hm.mat, hg⟩
theorem take_k {w : World} {n k : Nat} {v : Value} {us : List Value} {xs : List Nat} (mv : Mat w v us (CM.secs n xs k)) (hx : xs.length = 56 * k) (h0 : n ≠ 0) (hn : n < 18446744073709551616) (h1 : 1 ≤ k) (h64 : k ≤ 64) :
    Calls Try.prog 12 #[v] w fun e w' => ∃ p c, e = .returned (.tuple #[.int .u64 (n : Int), .slice p (k * 56) c, .bool true]) ∧ Vec w' (.slice p (k * 56) c) xs ∧ w.grownBy w' none := by
  have hf : CM.fit n xs = true := CM.fit_iff.2 ⟨h0, by omega, by omega, by omega⟩
  have hS : CM.putS n xs = CM.secs n xs k := by unfold CM.putS; rw [if_pos hf, hx]; congr 1; omega
  obtain ⟨t1, t2, t3⟩ := CM.put_take (n := n) hn hf
  rw [hS] at t1 t2 t3
  have h := cTake_any mv
  rw [t1, t2, t3] at h
  refine h.mono ?_
  rintro e w' ⟨u, he, ho, hg⟩
  obtain ⟨p, m, c, rfl, hm⟩ := ho.vec.opened
  obtain rfl : m = k * 56 := by omega
  exact ⟨p, c, he, ho.vec, hg⟩

set_option maxRecDepth 100000 in
set_option maxHeartbeats 8000000 in
theorem walk_nat {w : World} {n m : Nat} {va vb vc : Value} {A B : List Nat} {C : List Bool} (hn : n < 18446744073709551616) (hm : m < 18446744073709551616) (ha : Vec w va A) (hb : Vec w vb B) (hc : BVec w vc C) :
    Calls Try.prog 6 #[.int .u64 (n : Int), .int .u64 (m : Int), va, vb, vc] w fun e w' => e = .returned (.bool true) ∧ w.grownBy w' none := by
  obtain ⟨pa, NA, ca, rfl, hNA⟩ := ha.opened
  obtain ⟨pb, NB, cb, rfl, hNB⟩ := hb.opened
  obtain ⟨pc, NC, cc, rfl, hNC, hNCm⟩ := hc.opened
  have hNAl : NA ≤ 140737488351232 := by rw [hNA]; exact ha.len
  have hNBl : NB ≤ 140737488351232 := by rw [hNB]; exact hb.len
  have hNCl : (NC : Int) ≤ 9223372036854775807 := by unfold maxLen at hNCm; omega
  obtain ⟨K0, hK0⟩ : ∃ K0, K0 = min NA NB := ⟨_, rfl⟩
  have hM := min2 NA NB
  rw [← hK0] at hM
  obtain ⟨k, hk⟩ : ∃ k, k = K0 / 56 := ⟨_, rfl⟩
  have hq : (K0 : Int) / 56 = (k : Int) := by omega
  have hK0l : K0 ≤ 140737488351232 := by omega
  obtain ⟨n1, n10, hn1, hn2⟩ := or_one hn
  obtain ⟨m1, m10, hm1, hm2⟩ := or_one hm
  by_cases hk0 : k = 0
  · have i0 : ((k : Int) == 0) = true := eqb_yes (b := 0) hk0
    clear ha hb hc hNA hNB hNC hK0 hk hk0 n10 m10 hn1 hm1
    go_enter Try.func6, Try.ntmps6
    go_wp2_with (go_at_call 11; refine (wakes_any _).mono ?_; rintro e w5 ⟨rfl, g5⟩)
    go_ret
    exact ⟨rfl, g5⟩
  · have i0 : ((k : Int) == 0) = false := eqb_no (b := 0) hk0
    by_cases hk64 : 64 < k
    · have i1 : (64 : Int) < (k : Int) := by omega
      clear ha hb hc hNA hNB hNC hK0 hk hk0 n10 m10 hn1 hm1 hk64
      go_enter Try.func6, Try.ntmps6
      go_wp2_with (go_at_call 11; refine (wakes_any _).mono ?_; rintro e w5 ⟨rfl, g5⟩)
      go_ret
      exact ⟨rfl, g5⟩
    · have i1 : ¬ (64 : Int) < (k : Int) := by omega
      have hk64' : k ≤ 64 := by omega
      have hka : k * 56 ≤ NA := by omega
      have hkb : k * 56 ≤ NB := by omega
      obtain ⟨ba, oa, rfl, _⟩ := ha.spot (k := 0) (by omega)
      obtain ⟨bb, ob, rfl, _⟩ := hb.spot (k := 0) (by omega)
      have hca := cap_ge ha
      have hcb := cap_ge hb
      have hsa := fun W => slice_h7 (b := ba) (off := oa) (n := NA) (c := ca) (hi := k * 56) (by omega) W
      have hsb := fun W => slice_h7 (b := bb) (off := ob) (n := NB) (c := cb) (hi := k * 56) (by omega) W
      rw [show ((k * 56 : Nat) : Int) = (k : Int) * 56 by omega] at hsa hsb
      obtain ⟨A1, hA1⟩ : ∃ A1, A1 = A.take (k * 56) := ⟨_, rfl⟩
      obtain ⟨B1, hB1⟩ : ∃ B1, B1 = B.take (k * 56) := ⟨_, rfl⟩
      have HA1 : Hid (A1.length = 56 * k ∧ ∀ x ∈ A1, x < 256) := ⟨by rw [hA1, List.length_take]; omega, by rw [hA1]; exact take_small ha.small _⟩
      have HB1 : Hid (B1.length = 56 * k ∧ ∀ x ∈ B1, x < 256) := ⟨by rw [hB1, List.length_take]; omega, by rw [hB1]; exact take_small hb.small _⟩
      have VA : Hid (∀ w', w.grownBy w' none → Vec w' (.slice (some ⟨ba, oa, none⟩) (k * 56) ca) A1) := fun w' g => by rw [hA1]; exact (ha.keep g).cut (by omega)
      have VB : Hid (∀ w', w.grownBy w' none → Vec w' (.slice (some ⟨bb, ob, none⟩) (k * 56) cb) B1) := fun w' g => by rw [hB1]; exact (hb.keep g).cut (by omega)
      have VC : Hid (∀ w', w.grownBy w' none → BVec w' (.slice pc NC cc) C) := fun w' g => hc.keep g
      have HK : Hid (1 ≤ k ∧ k ≤ 64 ∧ n1 ≠ 0 ∧ m1 ≠ 0 ∧ n1 < 18446744073709551616 ∧ m1 < 18446744073709551616 ∧ NC = C.length) := ⟨by omega, hk64', n10, m10, hn1, hm1, hNC⟩
      have PA : Hid (Calls Try.prog 8 #[.int .u64 (n1 : Int), .slice (some ⟨ba, oa, none⟩) (k * 56) ca] w fun e w' => ∃ p c us, e = .returned (.tuple #[.slice p k c, .int .i64 0]) ∧ Mat w' (.slice p k c) us (CM.secs n1 A1 k) ∧ w.grownBy w' none) := put_k (VA.out _ (World.grownBy.refl _ _)) HA1.out.1 n10 (by omega) hk64'
      have PB : Hid (∀ w', w.grownBy w' none → Calls Try.prog 8 #[.int .u64 (m1 : Int), .slice (some ⟨bb, ob, none⟩) (k * 56) cb] w' fun e w'' => ∃ p c us, e = .returned (.tuple #[.slice p k c, .int .i64 0]) ∧ Mat w'' (.slice p k c) us (CM.secs m1 B1 k) ∧ w'.grownBy w'' none) := fun w' g => put_k (VB.out _ g) HB1.out.1 m10 (by omega) hk64'
      clear ha hb hc hNA hNB hNC hK0 hk hk0 n10 m10 hn1 hm1 hk64 hA1 hB1 hca hcb hka hkb
      go_enter Try.func6, Try.ntmps6
      go_wp2_with (first
        | (go_at_call_of 8 (Value.int IntKind.u64 (n1 : Int)); refine PA.out.mono ?_; rintro e w1 ⟨px, cx, ux, rfl, mx, g1⟩; have MX1 : Hid (Mat w1 (.slice px k cx) ux (CM.secs n1 A1 k)) := mx; have G1 : Hid (w.grownBy w1 none) := g1; clear mx g1)
        | (go_at_call_of 8 (Value.int IntKind.u64 (m1 : Int)); refine (PB.out _ G1.out).mono ?_; rintro e w2 ⟨py, cy, uy, rfl, my, g2⟩; have MX : Hid (Mat w2 (.slice px k cx) ux (CM.secs n1 A1 k)) := MX1.out.keep g2; have MY : Hid (Mat w2 (.slice py k cy) uy (CM.secs m1 B1 k)) := my; have G2 : Hid (w.grownBy w2 none) := grown_trans G1.out g2; clear my g2))
      clear PA PB MX1 G1 hsa hsb hM
      go_loopw [16, 17, 18] (fun tl tt ti wr => ∃ i : Nat, i ≤ k ∧ ti = .int .i64 i ∧ tt = .int .i64 ((CM.cnt C i : Nat) : Int) ∧ CM.cnt C i ≤ i ∧ Hid (MixI w2 wr tl ux uy C i)) (fun _ _ ti _ => k - (intOf ti).toNat)
      case atStart => exact ⟨0, by omega, rfl, rfl, by have := CM.cnt_le C 0; omega, MixI.zero _ _ _ _⟩
      case round =>
        obtain ⟨i, hik, rfl, rfl, hct, MI⟩ := hrel
        by_cases hlt : i < k
        · have j1 : (i : Int) < (k : Int) := by omega
          have j0 : (0 : Int) ≤ (i : Int) := by omega
          have HL : Hid ((((List.range i).map fun j => if C.getD j false = true then uy.getD j undef else ux.getD j undef).length + 1) * 24 ≤ 140737488351232 ∧ ((List.range i).map fun j => if C.getD j false = true then uy.getD j undef else ux.getD j undef).length = i) := ⟨by simp; omega, by simp⟩
          have GW : Hid (w.grownBy wr none) := grown_trans G2.out MI.out.gr
          by_cases hC : C.getD i false = true
          · have hiN : i < NC := by
              refine Classical.byContradiction fun h => ?_
              have h2 : C.getD i false = false := by simp [List.getD, show C.length ≤ i from by have := HK.out; omega]
              rw [h2] at hC
              cases hC
            have j2 : (i : Int) < (NC : Int) := by omega
            obtain ⟨b2, off2, rfl, hcc⟩ := (VC.out _ GW.out).spot (k := i) (by have := HK.out; omega)
            rw [hC] at hcc
            obtain ⟨b, off, rfl, hr⟩ := (MY.out.keep MI.out.gr).row.spot (k := i) (by have h1 := (mat_n MY.out).1; omega)
            obtain ⟨pk, nk, ck, ek, hnk⟩ := ((MY.out.keep MI.out.gr).vec i (by rw [CM.secs_len]; exact hlt)).opened
            rw [ek] at hr
            have MI1 : Hid (MixI w2 wr u16 ux uy C i) := MI
            have HE : Hid (((List.range (i + 1)).map fun j => if C.getD j false = true then uy.getD j undef else ux.getD j undef) = ((List.range i).map fun j => if C.getD j false = true then uy.getD j undef else ux.getD j undef) ++ [.slice pk nk ck]) := by
              show _ = _
              rw [List.range_succ, List.map_append]
              simp only [List.map_cons, List.map_nil]
              rw [if_pos hC, ek]
            have HCT : Hid (CM.cnt C (i + 1) = CM.cnt C i + 1) := by show _ = _; rw [CM.cnt_succ, if_pos hC]
            have ROW : Hid (wr.ownsRow w2.heap.size 23 1 u16 i ((List.range i).map fun j => if C.getD j false = true then uy.getD j undef else ux.getD j undef)) := MI.out.row
            clear MI hC ek hnk
            generalize ((List.range i).map fun j => if C.getD j false = true then uy.getD j undef else ux.getD j undef) = us at *
            generalize hTi : CM.cnt C i = Ti at *
            clear hTi
            go_wp2_with (at_builtin; refine wpList_append_row rfl _ _ rfl _ ⟨wr.heap.size, 0, none⟩ rfl rfl (us := us) (by rw [HL.out.2]; exact ROW.out.kept (World.grownBy_alloc wr _ none) (by cases h : u16.ownBlock <;> simp)) (cell_new1 _ _ rfl) rfl (gb_alloc MI1.out.gr _).size HL.out.1 ?_; intro v4 w4 r4 g4 at4; have M4 : Hid (w4.ownsRow w2.heap.size 23 1 v4 (i + 1) (us ++ [.slice pk nk ck])) := (by rw [HL.out.2] at r4; exact r4); have G4 : Hid (w2.grownBy w4 none) := grown_new (gb_alloc MI1.out.gr _) g4 (fun r e => (MI1.out.row.lt r e).1); clear r4 g4 at4)
            go_roundw
            case rel => exact ⟨i + 1, by omega, by go_num, by rw [HCT.out]; go_num, by rw [HCT.out]; omega, ⟨by rw [HE.out]; exact M4.out, G4.out⟩⟩
            case measure => simp [intOf]; omega
          · by_cases hiN : i < NC
            · have hCf : C.getD i false = false := Bool.eq_false_iff.2 hC
              have j2 : (i : Int) < (NC : Int) := by omega
              obtain ⟨b2, off2, rfl, hcc⟩ := (VC.out _ GW.out).spot (k := i) (by have := HK.out; omega)
              rw [hCf] at hcc
              obtain ⟨b, off, rfl, hr⟩ := (MX.out.keep MI.out.gr).row.spot (k := i) (by have h1 := (mat_n MX.out).1; omega)
              obtain ⟨pk, nk, ck, ek, hnk⟩ := ((MX.out.keep MI.out.gr).vec i (by rw [CM.secs_len]; exact hlt)).opened
              rw [ek] at hr
              have MI1 : Hid (MixI w2 wr u16 ux uy C i) := MI
              have HE : Hid (((List.range (i + 1)).map fun j => if C.getD j false = true then uy.getD j undef else ux.getD j undef) = ((List.range i).map fun j => if C.getD j false = true then uy.getD j undef else ux.getD j undef) ++ [.slice pk nk ck]) := by
                show _ = _
                rw [List.range_succ, List.map_append]
                simp only [List.map_cons, List.map_nil]
                rw [if_neg hC, ek]
              have HCT : Hid (CM.cnt C (i + 1) = CM.cnt C i + 0) := by show _ = _; rw [CM.cnt_succ, if_neg hC]
              have ROW : Hid (wr.ownsRow w2.heap.size 23 1 u16 i ((List.range i).map fun j => if C.getD j false = true then uy.getD j undef else ux.getD j undef)) := MI.out.row
              clear MI hC hCf ek hnk
              generalize ((List.range i).map fun j => if C.getD j false = true then uy.getD j undef else ux.getD j undef) = us at *
              generalize hTi : CM.cnt C i = Ti at *
              clear hTi
              go_wp2_with (at_builtin; refine wpList_append_row rfl _ _ rfl _ ⟨wr.heap.size, 0, none⟩ rfl rfl (us := us) (by rw [HL.out.2]; exact ROW.out.kept (World.grownBy_alloc wr _ none) (by cases h : u16.ownBlock <;> simp)) (cell_new1 _ _ rfl) rfl (gb_alloc MI1.out.gr _).size HL.out.1 ?_; intro v4 w4 r4 g4 at4; have M4 : Hid (w4.ownsRow w2.heap.size 23 1 v4 (i + 1) (us ++ [.slice pk nk ck])) := (by rw [HL.out.2] at r4; exact r4); have G4 : Hid (w2.grownBy w4 none) := grown_new (gb_alloc MI1.out.gr _) g4 (fun r e => (MI1.out.row.lt r e).1); clear r4 g4 at4)
              go_roundw
              case rel => exact ⟨i + 1, by omega, by go_num, by rw [HCT.out]; go_num, by rw [HCT.out]; omega, ⟨by rw [HE.out]; exact M4.out, G4.out⟩⟩
              case measure => simp [intOf]; omega
            · have j2 : ¬ (i : Int) < (NC : Int) := by omega
              obtain ⟨b, off, rfl, hr⟩ := (MX.out.keep MI.out.gr).row.spot (k := i) (by have h1 := (mat_n MX.out).1; omega)
              obtain ⟨pk, nk, ck, ek, hnk⟩ := ((MX.out.keep MI.out.gr).vec i (by rw [CM.secs_len]; exact hlt)).opened
              rw [ek] at hr
              have MI1 : Hid (MixI w2 wr u16 ux uy C i) := MI
              have HE : Hid (((List.range (i + 1)).map fun j => if C.getD j false = true then uy.getD j undef else ux.getD j undef) = ((List.range i).map fun j => if C.getD j false = true then uy.getD j undef else ux.getD j undef) ++ [.slice pk nk ck]) := by
                show _ = _
                rw [List.range_succ, List.map_append]
                simp only [List.map_cons, List.map_nil]
                rw [if_neg hC, ek]
              have HCT : Hid (CM.cnt C (i + 1) = CM.cnt C i + 0) := by show _ = _; rw [CM.cnt_succ, if_neg hC]
              have ROW : Hid (wr.ownsRow w2.heap.size 23 1 u16 i ((List.range i).map fun j => if C.getD j false = true then uy.getD j undef else ux.getD j undef)) := MI.out.row
              clear MI hC ek hnk
              generalize ((List.range i).map fun j => if C.getD j false = true then uy.getD j undef else ux.getD j undef) = us at *
              generalize hTi : CM.cnt C i = Ti at *
              clear hTi
              go_wp2_with (at_builtin; refine wpList_append_row rfl _ _ rfl _ ⟨wr.heap.size, 0, none⟩ rfl rfl (us := us) (by rw [HL.out.2]; exact ROW.out.kept (World.grownBy_alloc wr _ none) (by cases h : u16.ownBlock <;> simp)) (cell_new1 _ _ rfl) rfl (gb_alloc MI1.out.gr _).size HL.out.1 ?_; intro v4 w4 r4 g4 at4; have M4 : Hid (w4.ownsRow w2.heap.size 23 1 v4 (i + 1) (us ++ [.slice pk nk ck])) := (by rw [HL.out.2] at r4; exact r4); have G4 : Hid (w2.grownBy w4 none) := grown_new (gb_alloc MI1.out.gr _) g4 (fun r e => (MI1.out.row.lt r e).1); clear r4 g4 at4)
              go_roundw
              case rel => exact ⟨i + 1, by omega, by go_num, by rw [HCT.out]; go_num, by rw [HCT.out]; omega, ⟨by rw [HE.out]; exact M4.out, G4.out⟩⟩
              case measure => simp [intOf]; omega
        · obtain rfl : i = k := by omega
          have MZ : Hid (Mat wr u16 ((List.range i).map fun j => if C.getD j false = true then uy.getD j undef else ux.getD j undef) (CM.mix C (CM.secs n1 A1 i) (CM.secs m1 B1 i) i)) := MI.out.mat HK.out.2.1 MX.out MY.out (by rw [CM.secs_len]; exact Nat.le_refl _) (by rw [CM.secs_len]; exact Nat.le_refl _)
          have GW : Hid (w.grownBy wr none) := grown_trans G2.out MI.out.gr
          obtain ⟨pz, nz, cz, ez, hz⟩ := MZ.out.row.opened
          have MZ' : Hid (Mat wr (.slice pz nz cz) ((List.range i).map fun j => if C.getD j false = true then uy.getD j undef else ux.getD j undef) (CM.mix C (CM.secs n1 A1 i) (CM.secs m1 B1 i) i)) := by rw [← ez]; exact MZ.out
          subst ez
          have HCN : Hid (∀ T, T = CM.cnt C i → T = CM.cnt C i) := fun _ h => h
          obtain ⟨T, hT⟩ : ∃ T, T = CM.cnt C i := ⟨_, rfl⟩
          rw [← hT] at hct
          rw [← hT]
          clear MI MZ hz MX MY HCN
          by_cases c0 : T = 0
          · have t0 : ((T : Int) == 0) = true := eqb_yes (b := 0) c0
            have EZ : CM.mix C (CM.secs n1 A1 i) (CM.secs m1 B1 i) i = CM.secs n1 A1 i := CM.mix_none (by rw [← hT]; exact c0) (by rw [CM.secs_len])
            have CT : Hid (Calls Try.prog 12 #[.slice pz nz cz] wr fun e w' => ∃ p c, e = .returned (.tuple #[.int .u64 (n1 : Int), .slice p (i * 56) c, .bool true]) ∧ Vec w' (.slice p (i * 56) c) A1 ∧ wr.grownBy w' none) := by
              have h := MZ'.out
              rw [EZ] at h
              exact take_k h HA1.out.1 HK.out.2.2.1 HK.out.2.2.2.2.1 HK.out.1 HK.out.2.1
            have hsl := fun W => slice_h7 (b := ba) (off := oa) (n := NA) (c := ca) (hi := i * 56) (by have h := (VA.out _ GW.out); exact cap_ge h) W
            have hsl2 := hsl
            rw [show ((i * 56 : Nat) : Int) = (i : Int) * 56 by omega] at hsl2
            have hcmp := str_cmp HA1.out.2 HA1.out.2
            rw [decide_eq_true rfl] at hcmp
            clear EZ MZ' hT c0
            go_wp2_with (go_at_call 12; refine CT.out.mono ?_; rintro e w3 ⟨p3, c3, rfl, v3, g3⟩; have V3 : Hid (∀ w', w3.grownBy w' none → Vec w' (.slice p3 (i * 56) c3) A1) := fun w' g => v3.keep g; have G3 : Hid (w.grownBy w3 none) := grown_trans GW.out g3; clear v3 g3)
            have HS : Hid (∀ w', w3.grownBy w' none → (convert 23 9 (.slice p3 (i * 56) c3)).run Try.prog w' = .ok (.string (strOf A1)) w' ∧ (convert 23 9 (.slice (some ⟨ba, oa, none⟩) (i * 56) ca)).run Try.prog w' = .ok (.string (strOf A1)) w') := fun w' g => ⟨convert_vec (V3.out _ g), convert_vec (VA.out _ (grown_trans G3.out g))⟩
            go_region_held3 (fun w' => (convert 23 9 (.slice p3 (i * 56) c3)).run Try.prog w' = .ok (.string (strOf A1)) w' ∧ (convert 23 9 (.slice (some ⟨ba, oa, none⟩) (i * 56) ca)).run Try.prog w' = .ok (.string (strOf A1)) w')
              (first | exact HS.out _ (grown_drewN _ 1) | exact HS.out _ (grown_trans (grown_drewN _ 1) g5))
              ((go_at_call 11; refine (wakes_any _).mono ?_; rintro e w5 ⟨rfl, g5⟩))
            go_wp2
            go_ret
            exact ⟨rfl, grown_trans (gb_drew G3.out) g5⟩
          · have t0 : ((T : Int) == 0) = false := eqb_no (b := 0) c0
            by_cases ck : T = i
            · have t1 : ((T : Int) == (i : Int)) = true := eqb_yes ck
              have EZ : CM.mix C (CM.secs n1 A1 i) (CM.secs m1 B1 i) i = CM.secs m1 B1 i := CM.mix_all (by rw [← hT]; exact ck) (by rw [CM.secs_len])
              have CT : Hid (Calls Try.prog 12 #[.slice pz nz cz] wr fun e w' => ∃ p c, e = .returned (.tuple #[.int .u64 (m1 : Int), .slice p (i * 56) c, .bool true]) ∧ Vec w' (.slice p (i * 56) c) B1 ∧ wr.grownBy w' none) := by
                have h := MZ'.out
                rw [EZ] at h
                exact take_k h HB1.out.1 HK.out.2.2.2.1 HK.out.2.2.2.2.2.1 HK.out.1 HK.out.2.1
              have hsl := fun W => slice_h7 (b := bb) (off := ob) (n := NB) (c := cb) (hi := i * 56) (by have h := (VB.out _ GW.out); exact cap_ge h) W
              have hsl2 := hsl
              rw [show ((i * 56 : Nat) : Int) = (i : Int) * 56 by omega] at hsl2
              have hcmp := str_cmp HB1.out.2 HB1.out.2
              rw [decide_eq_true rfl] at hcmp
              clear EZ MZ' hT c0 ck
              go_wp2_with (go_at_call 12; refine CT.out.mono ?_; rintro e w3 ⟨p3, c3, rfl, v3, g3⟩; have V3 : Hid (∀ w', w3.grownBy w' none → Vec w' (.slice p3 (i * 56) c3) B1) := fun w' g => v3.keep g; have G3 : Hid (w.grownBy w3 none) := grown_trans GW.out g3; clear v3 g3)
              have HS : Hid (∀ w', w3.grownBy w' none → (convert 23 9 (.slice p3 (i * 56) c3)).run Try.prog w' = .ok (.string (strOf B1)) w' ∧ (convert 23 9 (.slice (some ⟨bb, ob, none⟩) (i * 56) cb)).run Try.prog w' = .ok (.string (strOf B1)) w') := fun w' g => ⟨convert_vec (V3.out _ g), convert_vec (VB.out _ (grown_trans G3.out g))⟩
              go_region_held3 (fun w' => (convert 23 9 (.slice p3 (i * 56) c3)).run Try.prog w' = .ok (.string (strOf B1)) w' ∧ (convert 23 9 (.slice (some ⟨bb, ob, none⟩) (i * 56) cb)).run Try.prog w' = .ok (.string (strOf B1)) w')
                (first | exact HS.out _ (grown_drewN _ 1) | exact HS.out _ (grown_trans (grown_drewN _ 1) g5))
                ((go_at_call 11; refine (wakes_any _).mono ?_; rintro e w5 ⟨rfl, g5⟩))
              go_wp2
              go_ret
              exact ⟨rfl, grown_trans (gb_drew G3.out) g5⟩
            · have t1 : ((T : Int) == (i : Int)) = false := eqb_no ck
              have HYB : Hid (CM.yes (CM.mix C (CM.secs n1 A1 i) (CM.secs m1 B1 i) i) = decide (n1 = m1)) := CM.mix_yes (by have := HK.out; omega) (by have := HK.out; omega) HK.out.2.2.2.1 HK.out.1 HK.out.2.1 (by have := HA1.out.1; omega) (by have := HB1.out.1; omega) (by rw [← hT]; exact c0) (by rw [← hT]; exact ck)
              obtain ⟨bl, hbl⟩ : ∃ bl, bl = decide (n1 = m1) := ⟨_, rfl⟩
              have hnm : ((n1 : Int) == (m1 : Int)) = bl := by
                rw [hbl]
                by_cases e : n1 = m1
                · rw [decide_eq_true e, eqb_yes e]
                · rw [decide_eq_false e, eqb_no e]
              have CT : Hid (Calls Try.prog 12 #[.slice pz nz cz] wr fun e w' => ∃ s u, e = .returned (.tuple #[.int .u64 s, u, .bool bl]) ∧ wr.grownBy w' none) := by
                have h := cTake_any MZ'.out
                rw [HYB.out, ← hbl] at h
                exact h.mono fun e w' ⟨u, h1, _, h2⟩ => ⟨_, u, h1, h2⟩
              clear hbl HYB MZ' hT c0 ck
              go_wp2_with (first
                | (go_at_call 12; refine CT.out.mono ?_; rintro e w3 ⟨s3, u3, rfl, g3⟩; have G3 : Hid (w.grownBy w3 none) := grown_trans GW.out g3; clear g3)
                | (go_at_call 11; refine (wakes_any _).mono ?_; rintro e w5 ⟨rfl, g5⟩; have G5 : Hid (w.grownBy w5 none) := grown_trans G3.out g5; clear g5))
              go_ret
              exact ⟨rfl, G5.out⟩

theorem walk {w : World} {n m : Int} {va vb vc : Value} {A B : List Nat} {C : List Bool} (h0 : 0 ≤ n) (h1 : n < 18446744073709551616) (h2 : 0 ≤ m) (h3 : m < 18446744073709551616) (ha : Vec w va A) (hb : Vec w vb B) (hc : BVec w vc C) :
    Calls Try.prog 6 #[.int .u64 n, .int .u64 m, va, vb, vc] w fun e w' => e = .returned (.bool true) ∧ w.grownBy w' none := by
  obtain ⟨k, rfl⟩ := Int.eq_ofNat_of_zero_le h0
  obtain ⟨j, rfl⟩ := Int.eq_ofNat_of_zero_le h2
  exact walk_nat (by omega) (by omega) ha hb hc
end Go.Proofs.Ythmdidiojjmebaa.chunkTorn
