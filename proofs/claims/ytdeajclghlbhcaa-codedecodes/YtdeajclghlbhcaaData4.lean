/- The contract of the method data of hayricklaw04.Shape. -/
import Derived.Test.YtdeajclghlbhcaaShape4
import Derived.Test.YtdeajclghlbhcaaRefEnc4
set_option linter.unusedVariables false
set_option linter.unusedSimpArgs false
namespace Go.Proofs.Ytdeajclghlbhcaa
open Go.RowKit

theorem tmod20 (A : Nat) : ((A : Int)).tmod 20 = ((A % 20 : Nat) : Int) := by
  rw [Int.tmod_eq_emod_of_nonneg (by omega)]; rfl

set_option maxHeartbeats 3200000 in
set_option maxRecDepth 100000 in
theorem data_any {w : World} {K Mo Lo : Nat} {pb pp : Option Addr} {nb cb np cp : Nat} {Bs : List Nat} {c : Nat} (hK : K < 256) (hM : Mo < 256) (hL : Lo < 256) (hc : c < 256) (vb : Vec w (.slice pb nb cb) Bs) :
    Calls Try.prog 24 #[.agg #[.int .u8 (K : Int), .int .u8 (Mo : Int), .int .u8 (Lo : Int), .slice pb nb cb, .slice pp np cp], .int .u8 (c : Int)] w fun e w' => ∃ p m cc us D, e = .returned (.slice p m cc) ∧ OwnMat w.heap.size w' (.slice p m cc) us D ∧ Sep us ∧ Shape D (1 + K % 12) (Lo % 20) ∧ w.grownBy w' none := by
  have l20 : Lo % 20 < 20 := Nat.mod_lt _ (by decide)
  have k12 : K % 12 < 12 := Nat.mod_lt _ (by decide)
  have kL : IntKind.i64.wrap ((Lo : Int)) = (Lo : Int) := IntWalk.i64_in _ (by omega)
  have hnb : nb ≤ 140737488351232 := by
    obtain ⟨p', n', c', e', h'⟩ := vb.opened
    injection e' with e1 e2 e3
    have := vb.len
    omega
  have HNB : Hid (nb = Bs.length) := by
    obtain ⟨p', n', c', e', h'⟩ := vb.opened
    injection e' with e1 e2 e3
    show _ = _
    omega
  have SZ : Hid (∀ W, Calls Try.prog 23 #[.agg #[.int .u8 (K : Int), .int .u8 (Mo : Int), .int .u8 (Lo : Int), .slice pb nb cb, .slice pp np cp]] W fun e w' => e = .returned (.tuple #[.int .i64 ((1 + K % 12 : Nat) : Int), .int .i64 ((2 + K % 12 + Mo % 12 : Nat) : Int)]) ∧ W.grownBy w' none) := fun W => sizes_any hK hM
  obtain ⟨WB, hWB⟩ : ∃ WB, WB = w.alloc (.cells #[.int .u8 (K : Int), .int .u8 (Mo : Int), .int .u8 (Lo : Int), .slice pb nb cb, .slice pp np cp] 52) := ⟨_, rfl⟩
  have HB : Hid (∀ w', WB.grownBy w' none → w'.cell? ⟨w.heap.size, 0, none⟩ = some (.int .u8 (K : Int)) ∧ w'.cell? ⟨w.heap.size, 1, none⟩ = some (.int .u8 (Mo : Int)) ∧ w'.cell? ⟨w.heap.size, 2, none⟩ = some (.int .u8 (Lo : Int)) ∧ w'.cell? ⟨w.heap.size, 3, none⟩ = some (.slice pb nb cb) ∧ w'.cell? ⟨w.heap.size, 4, none⟩ = some (.slice pp np cp) ∧ Vec w' (.slice pb nb cb) Bs) := fun w' g => by
    have h := heap_alloc_new w (.cells #[.int .u8 (K : Int), .int .u8 (Mo : Int), .int .u8 (Lo : Int), .slice pb nb cb, .slice pp np cp] 52)
    rw [← hWB] at h
    exact ⟨g.cell (cell_of_row _ _ 0 _ _ _ h) (by simp), g.cell (cell_of_row _ _ 1 _ _ _ h) (by simp), g.cell (cell_of_row _ _ 2 _ _ _ h) (by simp), g.cell (cell_of_row _ _ 3 _ _ _ h) (by simp), g.cell (cell_of_row _ _ 4 _ _ _ h) (by simp), vb.keep (grown_trans (by rw [hWB]; exact World.grownBy_alloc _ _ none) g)⟩
  have GB : Hid (w.grownBy WB none) := by rw [hWB]; exact World.grownBy_alloc _ _ none
  have h0 := HB.out _ (World.grownBy.refl _ _)
  obtain ⟨a0, a1, a2, a3, a4, _⟩ := h0
  have HWB : Hid (WB = w.alloc (.cells #[.int .u8 (K : Int), .int .u8 (Mo : Int), .int .u8 (Lo : Int), .slice pb nb cb, .slice pp np cp] 52)) := hWB
  clear hWB vb
  have hks : 1 + K % 12 ≤ 12 := by omega
  generalize 1 + K % 12 = ks at *
  generalize 2 + K % 12 + Mo % 12 = ns at *
  go_enter Try.func24, Try.ntmps24
  go_wp2_with fail
  rw [← HWB.out]
  refine (SZ.out _).mono ?_
  rintro e w1 ⟨rfl, g1⟩
  have G1 : Hid (WB.grownBy w1 none) := g1
  have hWs : w.heap.size < WB.heap.size := by rw [HWB.out]; simp
  clear g1 SZ a0 a1 a2 a3 a4 HWB
  obtain ⟨b0, b1, b2, b3, b4, _⟩ := HB.out _ G1.out
  clear b0 b1 b3 b4
  go_wp2_with fail
  clear b2 kL
  rw [show ((Lo : Int) % 20) = ((Lo % 20 : Nat) : Int) from by omega]
  obtain ⟨L, HLL⟩ : ∃ L, Hid (L = Lo % 20) := ⟨_, rfl⟩
  rw [← HLL.out] at l20 ⊢
  go_loopw [8, 22] (fun tv ti wr => ∃ (i : Nat) (us : List Value) (D : List (List Nat)), i ≤ ks ∧ ti = .int .i64 i ∧ Hid (us.length = i) ∧ Hid (OwnMat WB.heap.size wr tv us D) ∧ Hid (Sep us) ∧ Hid (Shape D i L) ∧ Hid (WB.grownBy wr none)) (fun _ ti _ => ks - (intOf ti).toNat)
  case atStart => exact ⟨0, [], [], by omega, rfl, rfl, OwnMat.nil _ _, (fun i j hi => by simp at hi), ⟨rfl, fun j hj => by omega⟩, G1⟩
  case round =>
    clear G1
    obtain ⟨i, us, D, hi, rfl, HU, OM, SP, SH, GK⟩ := hrel
    obtain ⟨wa, hwa⟩ : ∃ wa, wa = wr := ⟨wr, rfl⟩
    subst hwa
    by_cases hlt : i < ks
    · have i1 : (i : Int) < (ks : Int) := by omega
      have i3 : (0 : Int) ≤ (i : Int) := by omega
      go_wp2_with (at_make; refine wpList_make_vec rfl _ _ rfl L rfl rfl (by omega) ?_; intro w2 p ou g2; have OU : Hid (∃ ys, ys.length = L ∧ Own wa.heap.size w2 (.slice p L L) ys) := ⟨_, by simp, ou⟩; have G2 : Hid (wa.grownBy w2 none) := g2; clear ou g2)
      go_loopw [29] (fun tj wr => ∃ (j : Nat), j ≤ L ∧ tj = .int .i64 j ∧ Hid (∃ ys, ys.length = L ∧ Own wa.heap.size wr (.slice p L L) ys) ∧ Hid (wa.grownBy wr none)) (fun tj _ => L - (intOf tj).toNat)
      case atStart => exact ⟨0, by omega, rfl, OU, G2⟩
      case round =>
        clear OU G2
        obtain ⟨j, hj, rfl, OJ, GJ⟩ := hrel
        by_cases hjl : j < L
        · have j1 : (j : Int) < (L : Int) := by omega
          have j3 : (0 : Int) ≤ (j : Int) := by omega
          obtain ⟨ys, hys, oy⟩ := OJ.out
          obtain ⟨gu, rfl, hz, hcc, hf, h256, hset, hgr⟩ := oy.spot (k := j) (by omega)
          clear hz
          obtain ⟨d0, d1, d2, d3, d4, dv⟩ := HB.out _ (grown_trans GK.out GJ.out)
          have HD : Hid (wr.cell? ⟨w.heap.size, 3, none⟩ = some (.slice pb nb cb)) := d3
          clear d0 d1 d2 d3 d4 dv
          obtain ⟨A, hA⟩ : ∃ A : Nat, A = i * 31 + j * 7 := ⟨_, rfl⟩
          have hA1 : (i : Int) * 31 + (j : Int) * 7 = (A : Int) := by omega
          have hA2 : A < 1000 := by omega
          obtain ⟨Z, hZ⟩ : ∃ Z : Nat, Z = (A + c) % 256 := ⟨_, rfl⟩
          have hZ1 : ((A : Int) + (c : Int)) % 256 = (Z : Int) := by omega
          have hZ2 : Z < 256 := by omega
          have OV : Hid (Own wa.heap.size (wr.setCell ⟨gu, j, none⟩ (.int .u8 (Z : Int))) (.slice (some ⟨gu, 0, none⟩) L L) (ys.set j Z)) := hset Z hZ2
          have GV : Hid (wa.grownBy (wr.setCell ⟨gu, j, none⟩ (.int .u8 (Z : Int))) none) := grown_new GJ.out (hgr _) (fun r e => oy.lo r e)
          have LV : Hid ((ys.set j Z).length = L) := by show _ = _; rw [List.length_set]; exact hys
          obtain ⟨d0, d1, d2, d3, d4, dv⟩ := HB.out _ (grown_trans GK.out GV.out)
          clear d0 d1 d2 d4 dv hA hZ hset hgr oy hys OJ GJ HD h256
          generalize ys.set j Z = zs at *
          generalize ys.getD j 0 = y0 at *
          by_cases hb0 : nb = 0
          · have hb1 : ¬ (0 : Int) < (nb : Int) := by omega
            clear hb0
            go_wp2
            go_roundw
            case rel => exact ⟨j + 1, by omega, by go_num, ⟨zs, LV.out, OV.out⟩, GV⟩
            case measure => simp [intOf]; omega
          · have hb1 : (0 : Int) < (nb : Int) := by omega
            go_wp2_with fail
            clear hc hf hcc d3 hA1 hZ1
            generalize (wr.setCell ⟨gu, j, none⟩ (.int .u8 (Z : Int))) = V at *
            obtain ⟨m, hm⟩ : ∃ m : Nat, m = (i * L + j) % nb := ⟨_, rfl⟩
            have hm2 : m < nb := by rw [hm]; exact Nat.mod_lt _ (by omega)
            obtain ⟨IL, hIL⟩ : ∃ IL : Nat, IL = i * L := ⟨_, rfl⟩
            have hIL3 : IL ≤ 240 := by rw [hIL]; exact Nat.mul_le_mul (show i ≤ 12 by omega) (show L ≤ 20 by omega)
            have hIL1 : (i : Int) * (L : Int) = (IL : Int) := by rw [hIL]; simp
            obtain ⟨Q, hQ⟩ : ∃ Q : Nat, Q = IL + j := ⟨_, rfl⟩
            have hQ1 : IntKind.i64.wrap ((IL : Int) + (j : Int)) = (Q : Int) := by rw [IntWalk.i64_in _ (by omega)]; omega
            have wI : IntKind.i64.wrap (IL : Int) = (IL : Int) := IntWalk.i64_in _ (by omega)
            have hM2 : (Q : Int).tmod (nb : Int) = (m : Int) := by rw [Int.tmod_eq_emod_of_nonneg (by omega), hm, hQ, hIL]; simp
            have hm3 : (m : Int) < (nb : Int) := by omega
            obtain ⟨bB, oB, rfl, hx0, _⟩ := (HB.out _ (grown_trans GK.out GV.out)).2.2.2.2.2.spot (k := 0) (by have := HNB.out; omega)
            have KK : Hid (∀ w', WB.grownBy w' none → w'.cell? ⟨w.heap.size, 3, none⟩ = some (.slice (some ⟨bB, oB, none⟩) nb cb) ∧ w'.cell? ⟨bB, oB + m, none⟩ = some (.int .u8 ((Bs.getD m 0 : Nat) : Int)) ∧ Bs.getD m 0 < 256) := fun w' g => by
              obtain ⟨_, _, _, r3, _, rv⟩ := HB.out _ g
              obtain ⟨b2, o2, e2, r5, r6⟩ := rv.spot (k := m) (by have := HNB.out; omega)
              injection e2 with e2
              injection e2 with e2 e3
              subst e2 e3
              exact ⟨r3, r5, r6⟩
            have hbm := (KK.out _ (grown_trans GK.out GV.out)).2.2
            have HK : Hid (∀ w', WB.grownBy w' none → w'.cell? ⟨w.heap.size, 3, none⟩ = some (.slice (some ⟨bB, oB, none⟩) nb cb) ∧ w'.cell? ⟨bB, oB + m, none⟩ = some (.int .u8 ((Bs.getD m 0 : Nat) : Int))) := fun w' g => ⟨(KK.out _ g).1, (KK.out _ g).2.1⟩
            clear KK hx0 hm hIL hQ
            generalize Bs.getD m 0 = bm at *
            obtain ⟨g', e', hz', hcc, hf, h256, hset, hgr⟩ := (OV.out.keep (grown_drewN V 1)).spot (k := j) (by rw [LV.out]; exact hjl)
            obtain rfl : gu = g' := by injection e' with e'; injection e' with e'
            clear hz' e'
            generalize zs.getD j 0 = y at *
            obtain ⟨R, hR⟩ : ∃ R : Nat, R = (y + bm) % 256 := ⟨_, rfl⟩
            have hR1 : IntKind.u8.wrap ((y : Int) + (bm : Int)) = (R : Int) := by
              have : IntKind.u8.wrap ((y : Int) + (bm : Int)) = ((y : Int) + (bm : Int)) % 256 := by simp [IntKind.wrap, IntKind.signed, IntKind.bits]
              rw [this]; omega
            have hR2 : R < 256 := by omega
            have OR : Hid (Own wa.heap.size (V.drew.setCell ⟨gu, j, none⟩ (.int .u8 (R : Int))) (.slice (some ⟨gu, 0, none⟩) L L) (zs.set j R)) := hset R hR2
            have GR : Hid (wa.grownBy (V.drew.setCell ⟨gu, j, none⟩ (.int .u8 (R : Int))) none) := grown_new (gb_drew GV.out) (hgr _) (fun r e => OV.out.lo r e)
            have G0 : Hid (WB.grownBy V.drew none) := grown_trans GK.out (gb_drew GV.out)
            have GE : Hid (WB.grownBy (V.drew.setCell ⟨gu, j, none⟩ (.int .u8 (R : Int))) none) := grown_trans GK.out GR.out
            have hcD : V.drew.cell? ⟨gu, j, none⟩ = some (.int .u8 (y : Int)) := hcc
            have hfD : V.drew.frozen? ⟨gu, j, none⟩ = false := hf
            clear hset hgr hR hcc hf
            refine wp_region_noPanic ?_
            refine wp_region_held_drew (S := fun w' => w'.cell? ⟨w.heap.size, 3, none⟩ = some (.slice (some ⟨bB, oB, none⟩) nb cb) ∧ w'.cell? ⟨bB, oB + m, none⟩ = some (.int .u8 (bm : Int))) (by kernel_rfl) ?_ (fun hHeld => ?_)
            · exact HK.out _ G0.out
            refine wpAnyH_take (i := 0) (v := ?_) rfl (by kernel_rfl) (by kernel_rfl) (by kernel_rfl) (fun _ _ _ h => h) (Or.inl ⟨by rfl, ?_⟩) (by assumption) ?_
            rotate_left
            · intro w hSw; (try dsimp only at hSw); first | (go_simp; done) | (go_simp; with_reducible rfl)
            simp only [Act.put, List.getElem_toArray, List.getElem_cons_succ, List.getElem_cons_zero, List.setIfInBounds_toArray, List.set_cons_zero, List.set_cons_succ]
            refine wpAnyH_take (i := 1) (v := ?_) rfl (by kernel_rfl) (by kernel_rfl) (by kernel_rfl) (fun _ _ _ h => h) (Or.inl ⟨by rfl, ?_⟩) (by assumption) ?_
            rotate_left
            · intro w hSw; (try dsimp only at hSw); first | (go_simp; done) | (go_simp; with_reducible rfl)
            simp only [Act.put, List.getElem_toArray, List.getElem_cons_succ, List.getElem_cons_zero, List.setIfInBounds_toArray, List.set_cons_zero, List.set_cons_succ]
            refine wpAnyH_take (i := 2) (v := ?_) rfl (by kernel_rfl) (by kernel_rfl) (by kernel_rfl) (fun _ _ _ h => h) (Or.inl ⟨by rfl, ?_⟩) (by assumption) ?_
            rotate_left
            · intro w hSw; (try dsimp only at hSw); first | (go_simp; done) | (go_simp; with_reducible rfl)
            simp only [Act.put, List.getElem_toArray, List.getElem_cons_succ, List.getElem_cons_zero, List.setIfInBounds_toArray, List.set_cons_zero, List.set_cons_succ]
            refine wpAnyH_take (i := 4) (v := ?_) rfl (by kernel_rfl) (by kernel_rfl) (by kernel_rfl) (fun _ _ _ h => h) (Or.inl ⟨by rfl, ?_⟩) (by assumption) ?_
            rotate_left
            · intro w hSw; (try dsimp only at hSw); first | (go_simp; done) | (go_simp; with_reducible rfl)
            simp only [Act.put, List.getElem_toArray, List.getElem_cons_succ, List.getElem_cons_zero, List.setIfInBounds_toArray, List.set_cons_zero, List.set_cons_succ]
            refine wpAnyH_take (i := 5) (v := ?_) rfl (by kernel_rfl) (by kernel_rfl) (by kernel_rfl) (fun _ _ _ h => h) (Or.inl ⟨by rfl, ?_⟩) (by assumption) ?_
            rotate_left
            · intro w hSw; (try dsimp only at hSw); first | (go_simp; done) | (go_simp; with_reducible rfl)
            simp only [Act.put, List.getElem_toArray, List.getElem_cons_succ, List.getElem_cons_zero, List.setIfInBounds_toArray, List.set_cons_zero, List.set_cons_succ]
            refine wpAnyH_take (i := 6) (v := ?_) rfl (by kernel_rfl) (by kernel_rfl) (by kernel_rfl) (fun _ _ _ h => h) (Or.inl ⟨by rfl, ?_⟩) (by assumption) ?_
            rotate_left
            · intro w hSw; (try dsimp only at hSw); first | (go_simp; done) | (go_simp; with_reducible rfl)
            simp only [Act.put, List.getElem_toArray, List.getElem_cons_succ, List.getElem_cons_zero, List.setIfInBounds_toArray, List.set_cons_zero, List.set_cons_succ]
            refine wpAnyH_take (i := 7) (v := ?_) rfl (by kernel_rfl) (by kernel_rfl) (by kernel_rfl) (fun _ _ _ h => h) (Or.inl ⟨by rfl, ?_⟩) (by assumption) ?_
            rotate_left
            · intro w hSw; (try dsimp only at hSw); first | (go_simp; done) | (go_simp; with_reducible rfl)
            simp only [Act.put, List.getElem_toArray, List.getElem_cons_succ, List.getElem_cons_zero, List.setIfInBounds_toArray, List.set_cons_zero, List.set_cons_succ]
            refine wpAnyH_take (i := 8) (v := ?_) rfl (by kernel_rfl) (by kernel_rfl) (by kernel_rfl) (fun _ _ _ h => h) (Or.inl ⟨by rfl, ?_⟩) (by assumption) ?_
            rotate_left
            · intro w hSw; (try dsimp only at hSw); first | (go_simp; done) | (go_simp; with_reducible rfl)
            simp only [Act.put, List.getElem_toArray, List.getElem_cons_succ, List.getElem_cons_zero, List.setIfInBounds_toArray, List.set_cons_zero, List.set_cons_succ]
            refine wpAnyH_take (i := 9) (v := ?_) rfl (by kernel_rfl) (by kernel_rfl) (by kernel_rfl) (fun _ _ _ h => h) (Or.inl ⟨by rfl, ?_⟩) (by assumption) ?_
            rotate_left
            · intro w hSw; (try dsimp only at hSw); first | (go_simp; done) | (go_simp; with_reducible rfl)
            simp only [Act.put, List.getElem_toArray, List.getElem_cons_succ, List.getElem_cons_zero, List.setIfInBounds_toArray, List.set_cons_zero, List.set_cons_succ]
            refine wpAnyH_take (i := 10) (v := ?_) rfl (by kernel_rfl) (by kernel_rfl) (by kernel_rfl) (fun _ _ _ h => h) (Or.inl ⟨by rfl, ?_⟩) (by assumption) ?_
            rotate_left
            · intro w hSw; (try dsimp only at hSw); first | (go_simp; done) | (go_simp; with_reducible rfl)
            simp only [Act.put, List.getElem_toArray, List.getElem_cons_succ, List.getElem_cons_zero, List.setIfInBounds_toArray, List.set_cons_zero, List.set_cons_succ]
            refine wpAnyH_take (i := 11) (v := ?_) rfl (by kernel_rfl) (by kernel_rfl) (by kernel_rfl) (fun _ _ _ h => h) (Or.inl ⟨by rfl, ?_⟩) (by assumption) ?_
            rotate_left
            · intro w hSw; (try dsimp only at hSw); first | (go_simp; done) | (go_simp; with_reducible rfl)
            simp only [Act.put, List.getElem_toArray, List.getElem_cons_succ, List.getElem_cons_zero, List.setIfInBounds_toArray, List.set_cons_zero, List.set_cons_succ]
            refine wpAnyH_take (i := 12) (v := ?_) rfl (by kernel_rfl) (by kernel_rfl) (by kernel_rfl) (fun _ _ _ h => h) (Or.inl ⟨by rfl, ?_⟩) (by assumption) ?_
            rotate_left
            · intro w hSw; (try dsimp only at hSw); first | (go_simp; done) | (go_simp; with_reducible rfl)
            simp only [Act.put, List.getElem_toArray, List.getElem_cons_succ, List.getElem_cons_zero, List.setIfInBounds_toArray, List.set_cons_zero, List.set_cons_succ]
            refine wpAnyH_take (i := 13) (v := ?_) rfl (by kernel_rfl) (by kernel_rfl) (by kernel_rfl) (fun _ _ _ h => h) (Or.inl ⟨by rfl, ?_⟩) (by assumption) ?_
            rotate_left
            · intro w hSw; (try dsimp only at hSw); first | (go_simp; done) | (go_simp; with_reducible rfl)
            simp only [Act.put, List.getElem_toArray, List.getElem_cons_succ, List.getElem_cons_zero, List.setIfInBounds_toArray, List.set_cons_zero, List.set_cons_succ]
            refine wpAnyH_take (i := 14) (v := ?_) rfl (by kernel_rfl) (by kernel_rfl) (by kernel_rfl) (fun _ _ _ h => h) (Or.inl ⟨by rfl, ?_⟩) (by assumption) ?_
            rotate_left
            · intro w hSw; (try dsimp only at hSw); first | (go_simp; done) | (go_simp; with_reducible rfl)
            simp only [Act.put, List.getElem_toArray, List.getElem_cons_succ, List.getElem_cons_zero, List.setIfInBounds_toArray, List.set_cons_zero, List.set_cons_succ]
            refine wpAnyH_take (i := 15) (v := ?_) rfl (by kernel_rfl) (by kernel_rfl) (by kernel_rfl) (fun _ _ _ h => h) (Or.inl ⟨by rfl, ?_⟩) (by assumption) ?_
            rotate_left
            · intro w hSw; (try dsimp only at hSw); first | (go_simp; done) | (go_simp; with_reducible rfl)
            simp only [Act.put, List.getElem_toArray, List.getElem_cons_succ, List.getElem_cons_zero, List.setIfInBounds_toArray, List.set_cons_zero, List.set_cons_succ]
            refine wpAnyH_take (i := 16) (v := ?_) rfl (by kernel_rfl) (by kernel_rfl) (by kernel_rfl) (fun _ _ _ h => h) (Or.inl ⟨by rfl, ?_⟩) (by assumption) ?_
            rotate_left
            · intro w hSw; (try dsimp only at hSw); first | (go_simp; done) | (go_simp; with_reducible rfl)
            simp only [Act.put, List.getElem_toArray, List.getElem_cons_succ, List.getElem_cons_zero, List.setIfInBounds_toArray, List.set_cons_zero, List.set_cons_succ]
            refine wpAnyH_ready (rs := [3]) (by kernel_rfl) (by simp) ?_
            refine AllReadyH.cons rfl (fun K hK => ?_) AllReadyH.nil
            go_simp
            refine hK.out _ _ (HK.out _ G0.out) (fun hHeld => ?_)
            clear hK K
            refine wpAnyH_take (i := 17) (v := ?_) rfl (by kernel_rfl) (by kernel_rfl) (by kernel_rfl) (fun _ _ _ h => h) (Or.inl ⟨by rfl, ?_⟩) (by assumption) ?_
            rotate_left
            · intro w hSw; (try dsimp only at hSw); first | (go_simp; done) | (go_simp; with_reducible rfl)
            simp only [Act.put, List.getElem_toArray, List.getElem_cons_succ, List.getElem_cons_zero, List.setIfInBounds_toArray, List.set_cons_zero, List.set_cons_succ]
            refine wpAnyH_take (i := 18) (v := ?_) rfl (by kernel_rfl) (by kernel_rfl) (by kernel_rfl) (fun _ _ _ h => h) (Or.inl ⟨by rfl, ?_⟩) (by assumption) ?_
            rotate_left
            · intro w hSw; (try dsimp only at hSw); first | (go_simp; done) | (go_simp; with_reducible rfl)
            simp only [Act.put, List.getElem_toArray, List.getElem_cons_succ, List.getElem_cons_zero, List.setIfInBounds_toArray, List.set_cons_zero, List.set_cons_succ]
            refine wpAnyH_ready (rs := [19]) (by kernel_rfl) (by simp) ?_
            refine AllReadyH.cons rfl (fun K hK => ?_) AllReadyH.nil
            go_simp
            refine hK.out _ _ (HK.out _ GE.out) (fun hHeld => ?_)
            clear hK K
            refine wpAnyH_done (by kernel_rfl) ?_ _
            refine NoPanic.normal ?_
            go_wp2
            go_roundw
            case rel => exact ⟨j + 1, by omega, by go_num, ⟨zs.set j R, by rw [List.length_set]; exact LV.out, OR.out⟩, GR⟩
            case measure => simp [intOf]; omega
        · obtain rfl : L = j := by omega
          obtain ⟨ys, hys, oy⟩ := OJ.out
          have OY : Hid (Own wa.heap.size wr (.slice p L L) ys) := oy
          have LY : Hid (ys.length = L) := hys
          have HBB : Hid (WB.heap.size ≤ wr.heap.size) := Nat.le_trans GK.out.size GJ.out.size
          clear OJ oy hys
          go_wp2_with (at_builtin; refine wpList_append_out rfl _ _ rfl u8 ⟨wr.heap.size, 0, none⟩ rfl rfl (B := WB.heap.size) (us := us) (u := .slice p L L) ((OM.out.keep (grown_trans GJ.out (World.grownBy_alloc _ _ none))).out) (cell_new1 _ _ rfl) rfl (by have h1 := HBB.out; simp; omega) (by have := HU.out; omega) ?_; intro v' w2 oo gg at2; have HO : Hid (Out WB.heap.size w2 v' (us ++ [.slice p L L])) := oo; have HG : Hid ((wr.alloc (.cells #[.slice p L L] 39)).grownBy w2 u8.ownBlock) := gg; clear oo gg at2)
          have R : Hid (OwnMat WB.heap.size w2 v' (us ++ [.slice p L L]) (D ++ [ys]) ∧ Sep (us ++ [.slice p L L]) ∧ WB.grownBy w2 none ∧ Shape (D ++ [ys]) (i + 1) L) := by
            refine ⟨(OM.out.keep (grown_trans GJ.out (World.grownBy_alloc _ _ none))).more ((OY.out.down GK.out.size).keep (World.grownBy_alloc _ _ none)) (by have := HU.out; omega) (by simpa using HO.out.row) HG.out, SP.out.more (H := wa.heap.size) OM.out.hiRow OY.out.lo, ?_, ?_⟩
            · exact grown_new (grown_trans GK.out (grown_trans GJ.out (World.grownBy_alloc _ _ none))) HG.out OM.out.lo
            · refine ⟨by rw [List.length_append, SH.out.len]; rfl, fun r hr => ?_⟩
              by_cases e : r < D.length
              · have e2 : (D ++ [ys]).getD r [] = D.getD r [] := by simp only [List.getD]; rw [List.getElem?_append_left e]
                rw [e2]; exact SH.out.row r (by rw [← SH.out.len]; exact e)
              · have e1 : r = D.length := by have := SH.out.len; omega
                have e2 : (D ++ [ys]).getD r [] = ys := by simp only [List.getD]; rw [List.getElem?_append_right (by omega), e1]; simp
                rw [e2]; exact LY.out
          clear HO HG OM OY HBB SP SH LY
          go_roundw
          case rel => exact ⟨i + 1, us ++ [Value.slice p L L], D ++ [ys], by omega, by go_num, show _ = _ by simpa using HU.out, R.out.1, R.out.2.1, R.out.2.2.2, R.out.2.2.1⟩
          case measure => simp [intOf]; omega
    · have hik : i = ks := by omega
      subst hik
      obtain ⟨pm, nm, cm, rfl, hnm⟩ := OM.out.mat.row.opened
      clear hnm
      go_wp2
      go_ret
      exact ⟨pm, nm, cm, us, D, rfl, OM.out.down (Nat.le_of_lt hWs), SP.out, by rw [← HLL.out]; exact SH.out, grown_trans GB.out GK.out⟩
end Go.Proofs.Ytdeajclghlbhcaa
