/- The walk of ChunkKnown. -/
import Derived.Test.YthmdidiojjmebaaKnown0
namespace Go.Proofs.Ythmdidiojjmebaa.chunkKnown
open Go.ChangeShapes Go.WideShapes Go.ChangeAt Go.RowKit

/-- The greatest stamp, and as many noughts as a chunk has room for. -/
def top : Nat := 18446744073709551615
def zs (n : Nat) : List Nat := List.replicate n 0
theorem zs_len (n : Nat) : (zs n).length = n := List.length_replicate
theorem top_fit : CM.fit top (zs 3584) = true := CM.fit_iff.2 ⟨by decide, by rw [zs_len]; decide, by rw [zs_len], by rw [zs_len]; decide⟩
theorem top_put {w : World} {v : Value} (hv : Vec w v (zs 3584)) :
    Calls Try.prog 8 #[.int .u64 (top : Int), v] w fun e w' => ∃ p c us, e = .returned (.tuple #[.slice p 64 c, .int .i64 0]) ∧ Mat w' (.slice p 64 c) us (CM.putS top (zs 3584)) ∧ w.grownBy w' none := by
  have h := cPut_any (n := top) hv
  rw [(CM.putE_fit _ _).2 top_fit] at h
  refine h.mono ?_
  rintro e w' ⟨u, us, he, hm, hg⟩
  obtain ⟨p, m, c, rfl, hn⟩ := hm.mat.row.opened
  obtain rfl : m = 64 := by
    have h1 := (mat_n hm.mat).2
    unfold CM.putS at h1
    rw [if_pos top_fit, CM.secs_len] at h1
    rw [zs_len] at h1
    omega
  exact ⟨p, c, us, he, hm.mat, hg⟩
theorem top_len : (CM.putS top (zs 3584)).length = 64 := by unfold CM.putS; rw [if_pos top_fit, CM.secs_len, zs_len]
theorem top_yes : CM.yes (CM.putS top (zs 3584)) = true ∧ CM.tN (CM.putS top (zs 3584)) = top := by
  have h := CM.put_take (n := top) (by decide) top_fit
  exact ⟨h.1, h.2.1⟩
theorem one_cells {w : World} {v : Value} {us : List Value} {X : List (List Nat)} (m : Mat w v us X) : ∀ u ∈ us, u.oneCell' = true := fun u hu => by
  obtain ⟨j, hj, rfl⟩ := List.getElem_of_mem hu
  have h1 := m.vec j (by have := m.same; omega)
  obtain ⟨p, n, c, e, _⟩ := h1.opened
  have e2 : us[j] = us.getD j undef := by simp [List.getD, hj]
  rw [e2, e]
  rfl
/-- A row of a chunk of 64 sectors. -/
theorem row_of {w : World} {p : Option Addr} {c : Nat} {us : List Value} (m : Mat w (.slice p 64 c) us (CM.putS top (zs 3584))) {j : Nat} (hj : j < 64) :
    ∃ b off q cq, p = some ⟨b, off, none⟩ ∧ us.getD j undef = .slice q 64 cq ∧ w.cell? ⟨b, off + j, none⟩ = some (.slice q 64 cq) ∧ Vec w (.slice q 64 cq) ((CM.putS top (zs 3584)).getD j []) := by
  obtain ⟨b, off, e, hr⟩ := m.row.spot (k := j) (by have := (mat_n m).1; omega)
  have hv := m.vec j (by rw [top_len]; exact hj)
  obtain ⟨q, n, cq, e2, hn⟩ := hv.opened
  have h64 := putS_64 top (zs 3584) j (by rw [top_len]; exact hj)
  obtain rfl : n = 64 := by omega
  rw [e2] at hr hv
  exact ⟨b, off, q, cq, e, e2, hr, hv⟩

theorem v13_mat {w : World} {p : Option Addr} {c B : Nat} {us : List Value} {v u : Value} {x : List Nat} (m : Mat w (.slice p 64 c) us (CM.putS top (zs 3584))) (r : w.ownsRow B 23 1 v (us.length + 1) (us ++ [u])) (hu : Vec w u x) :
    Mat w v (us ++ [u]) (CM.putS top (zs 3584) ++ [x]) := by
  have hs := m.same
  have hl := mat_n m
  refine ⟨cells_row (by simp; omega) (by simpa using r), by simp [hs], fun j hj => ?_⟩
  by_cases hj' : j < (CM.putS top (zs 3584)).length
  · have e1 : (us ++ [u]).getD j undef = us.getD j undef := by simp [List.getD, List.getElem?_append, show j < us.length from by omega]
    have e2 : (CM.putS top (zs 3584) ++ [x]).getD j [] = (CM.putS top (zs 3584)).getD j [] := by simp [List.getD, List.getElem?_append, hj']
    rw [e1, e2]
    exact m.vec j hj'
  · have hj2 : j = (CM.putS top (zs 3584)).length := by simp at hj; omega
    have e1 : (us ++ [u]).getD j undef = u := by simp [List.getD, hj2, ← hs]
    have e2 : (CM.putS top (zs 3584) ++ [x]).getD j [] = x := by simp [List.getD, hj2]
    rw [e1, e2]
    exact hu
theorem v13_no {x : List Nat} : CM.yes (CM.putS top (zs 3584) ++ [x]) = false := by
  cases h : CM.yes (CM.putS top (zs 3584) ++ [x]) with
  | false => rfl
  | true =>
    have := (CM.yes_iff.1 h).2.1
    rw [List.length_append, top_len] at this
    simp at this

set_option maxRecDepth 100000 in
set_option maxHeartbeats 8000000 in
theorem walk {w : World} : Calls Try.prog 7 #[] w fun e w' => e = .returned (.bool true) ∧ w.grownBy w' none := by
  go_enter Try.func7, Try.ntmps7
  go_wp2_with (at_make; refine wpList_make_vec rfl _ _ rfl 56 rfl rfl (by decide) ?_; intro w1 p1 o1 g1; have V1 : Hid (Vec w1 (.slice p1 56 56) (zs 56)) := o1.vec; have G1 : Hid (w.grownBy w1 none) := g1; clear o1 g1)
  refine (put_none (n := 0) (E := 1) V1.out (by simp [CM.putE]) (by decide)).mono ?_
  rintro e w2 ⟨q2, c2, rfl, g2⟩
  have G2 : Hid (w.grownBy w2 none) := grown_trans G1.out g2
  clear g2 V1 G1
  go_wp2_with fail
  refine (put_none (n := 3) (E := 4) (Vec.none0 w2) (by simp [CM.putE]) (by decide)).mono ?_
  rintro e w3 ⟨q3, c3, rfl, g3⟩
  have G3 : Hid (w.grownBy w3 none) := grown_trans G2.out g3
  clear g3 G2
  go_wp2_with (at_make; refine wpList_make_vec rfl _ _ rfl 3584 rfl rfl (by decide) ?_; intro w4 p4 o4 g4; have V4 : Hid (Vec w4 (.slice p4 3584 3584) (zs 3584)) := o4.vec; have G4 : Hid (w.grownBy w4 none) := grown_trans G3.out g4; clear o4 g4)
  refine (top_put V4.out).mono ?_
  rintro e w5 ⟨q5, c5, us, rfl, m5, g5⟩
  have M5 : Hid (Mat w5 (.slice q5 64 c5) us (CM.putS top (zs 3584))) := m5
  have G5 : Hid (w.grownBy w5 none) := grown_trans G4.out g5
  clear g5 G4 G3 V4 m5
  go_wp2_with (at_make; refine wpList_make_vec rfl _ _ rfl 3640 rfl rfl (by decide) ?_; intro w6 p6 o6 g6; have V6 : Hid (Vec w6 (.slice p6 3640 3640) (zs 3640)) := o6.vec; have G6 : Hid (w5.grownBy w6 none) := g6; clear o6 g6)
  refine (put_none (n := 3) (E := 3) V6.out (by unfold CM.putE; rw [if_neg (by decide), if_neg (by rw [zs_len]; decide), if_pos (by rw [zs_len]; decide)]) (by decide)).mono ?_
  rintro e w7 ⟨q7, c7, rfl, g7⟩
  have G7 : Hid (w5.grownBy w7 none) := grown_trans G6.out g7
  clear g7 G6 V6
  go_wp2_with fail
  refine (put_none (n := 0) (E := 1) (Vec.none0 w7) (by simp [CM.putE]) (by decide)).mono ?_
  rintro e w8 ⟨q8, c8, rfl, g8⟩
  have G8 : Hid (w5.grownBy w8 none) := grown_trans G7.out g8
  clear g8 G7
  obtain ⟨b, off, r0, k0, rfl, er0, hr0, hv0⟩ := row_of (M5.out.keep G8.out) (j := 0) (by decide)
  obtain ⟨b', off', r1, k1, eb, er1, hr1, hv1⟩ := row_of (M5.out.keep G8.out) (j := 1) (by decide)
  obtain ⟨rfl, rfl⟩ : b = b' ∧ off = off' := by
    injection eb with eb
    injection eb with e1 e2
    exact ⟨e1, e2⟩
  clear eb
  obtain ⟨b1, o1, rfl, _⟩ := hv1.spot (k := 0) (by rw [putS_64 top (zs 3584) 1 (by rw [top_len]; decide)]; decide)
  have hk1 : 64 ≤ k1 := by
    obtain ⟨p', cap', e, h3, _⟩ := hv1.form
    injection e with e1 e2 e3
    omega
  have HK1 : Hid (64 ≤ k1) := hk1
  clear hk1
  have M8 : Hid (Mat w8 (.slice (some ⟨b, off, none⟩) 64 c5) us (CM.putS top (zs 3584))) := M5.out.keep G8.out
  have R0 : Hid (us.getD 0 undef = .slice r0 64 k0 ∧ Vec w8 (.slice r0 64 k0) ((CM.putS top (zs 3584)).getD 0 [])) := ⟨er0, hv0⟩
  have R1 : Hid (us.getD 1 undef = .slice (some ⟨b1, o1, none⟩) 64 k1 ∧ Vec w8 (.slice (some ⟨b1, o1, none⟩) 64 k1) ((CM.putS top (zs 3584)).getD 1 [])) := ⟨er1, hv1⟩
  have GG : Hid (w.grownBy w8 none) := grown_trans G5.out G8.out
  clear M5 G8 G5 er0 er1 hv0 hv1
  go_wp2_with fail
  refine (take_none (Mat.nil w8) rfl).mono ?_
  rintro e w9 ⟨q9, c9, rfl, g9⟩
  have G9 : Hid (w8.grownBy w9 none) := g9
  clear g9
  go_wp2_with (at_make; refine wpList_make_vec rfl _ _ rfl 64 rfl rfl (by decide) ?_; intro w10 p10 o10 g10; have V10 : Hid (Vec w10 (.slice p10 64 64) (zs 64)) := o10.vec; have G10 : Hid (w8.grownBy w10 none) := grown_trans G9.out g10; clear o10 g10)
  have L10 : Hid (Mat (w10.alloc (.cells #[.slice p10 64 64] 23)) (.slice (some ⟨w10.heap.size, 0, none⟩) 1 1) [.slice p10 64 64] [zs 64]) :=
    ⟨cells_lit (heap_alloc_new w10 _) rfl (by simp), rfl, fun j hj => by
      obtain rfl : j = 0 := by simp at hj; omega
      exact V10.out.keep (World.grownBy_alloc _ _ none)⟩
  refine (take_none L10.out (by decide)).mono ?_
  rintro e w11 ⟨q11, c11, rfl, g11⟩
  have G11 : Hid (w8.grownBy w11 none) := grown_trans (gb_alloc G10.out _) g11
  clear g11 L10 V10 G10 G9
  go_wp2_with fail
  have HS : Hid (∀ w', w11.grownBy w' none → w'.cell? ⟨b, off, none⟩ = some (.slice r0 64 k0)) := fun w' g => (grown_trans G11.out g).cell hr0 (by simp)
  have HL : Hid (∀ w', w11.grownBy w' none → ∀ j, j < us.length → w'.cell? ⟨b, off + j, none⟩ = some (us.getD j undef)) := fun w' g j hj => by
    obtain ⟨b', off', e, hc⟩ := (M8.out.keep (grown_trans G11.out g)).row.spot (k := j) hj
    injection e with e
    injection e with e1 e2
    rw [e1, e2]
    exact hc
  have U1 : Hid (∀ u ∈ us, u.oneCell' = true) := one_cells M8.out
  have UL : Hid (us.length = 64) := (mat_n M8.out).1
  have HS2 : Hid (∀ w', w11.grownBy w' none → w'.cell? ⟨b, off, none⟩ = some (.slice r0 64 k0) ∧ w'.cell? ⟨b, off + 1, none⟩ = some (.slice (some ⟨b1, o1, none⟩) 64 k1)) := fun w' g => ⟨(grown_trans G11.out g).cell hr0 (by simp), (grown_trans G11.out g).cell hr1 (by simp)⟩
  clear hr0 hr1
  go_region_held3 (fun w' => w'.cell? ⟨b, off, none⟩ = some (.slice r0 64 k0)) (first | exact HS.out _ (grown_drewN _ 1) | exact HS.out _ (gb_alloc (grown_drewN _ 1) _) | exact HS.out _ G12.out | exact HS.out _ (gb_alloc G12.out _) | exact HS.out _ G13.out | exact HS.out _ G14.out)
    (first
      | (apply step_append_rows (vs := us) (us := []) (B := w11.heap.size)
         case hgd => rfl
         case ho => rfl
         case hed => rfl
         case hes => rfl
         case hd => exact World.ownsRow_nil _ _ _ _
         case hn => exact UL.out.symm
         case hs => exact HL.out _ (by first | exact grown_drewN _ 1 | exact gb_alloc (grown_drewN _ 1) _)
         case h1 => exact U1.out
         case hB => first | exact Nat.le_refl _ | exact (gb_alloc (grown_drewN w11 1) _).size
         case hl => (rw [UL.out]; decide)
         intro v12 w12 r12 g12 at12
         have R12 : Hid (w12.ownsRow w11.heap.size 23 1 v12 us.length us) := (by have h := r12; simp only [List.length_nil, Nat.zero_add, List.nil_append] at h; exact h)
         have GN : Hid (World.grownBy _ w12 none) := g12
         have G12 : Hid (w11.grownBy w12 none) := grown_trans (by first | exact grown_drewN _ 1 | exact gb_alloc (grown_drewN _ 1) _) g12
         clear r12 g12 at12)
      | (apply step_append_row (us := us) (B := w11.heap.size) (u := .slice r0 64 k0)
         case hgd => rfl
         case ho => rfl
         case hed => rfl
         case hes => rfl
         case hd => first | exact R12.out | exact R12.out.kept (World.grownBy_alloc _ _ none) (by cases h : v12.ownBlock <;> simp)
         case hu => first | exact cell_new1 _ _ rfl | exact GN.out.cell (cell_new1 _ _ rfl) (by simp)
         case h1 => rfl
         case hB => first | exact G12.out.size | exact (gb_alloc G12.out _).size
         case hl => (rw [UL.out]; decide)
         intro v13 w13 r13 g13 at13
         have R13 : Hid (w13.ownsRow w11.heap.size 23 1 v13 (us.length + 1) (us ++ [.slice r0 64 k0])) := r13
         have G13 : Hid (w11.grownBy w13 none) := (by first | exact grown_new G12.out g13 (fun i e => (R12.out.lt i e).1) | exact grown_new (gb_alloc G12.out _) g13 (fun i e => (R12.out.lt i e).1))
         clear r13 g13 at13)
      | (go_at_call 12; refine (take_none (w := w13) (v13_mat (M8.out.keep (grown_trans G11.out G13.out)) R13.out (R0.out.2.keep (grown_trans G11.out G13.out))) v13_no).mono ?_; rintro e w14 ⟨q14, c14, rfl, g14⟩; have G14 : Hid (w11.grownBy w14 none) := grown_trans G13.out g14; clear g14))
  all_goals
    have GE : Hid (w11.grownBy w14 none) := G14.out
    have hsl : ∀ W : World, (Instr.slice 23 (.slice (some ⟨b1, o1, none⟩) 64 k1) none (some (.int .i64 63)) none).run Try.prog W = .ok (.slice (some ⟨b1, o1, none⟩) 63 k1) W := fun W => slice_h8 (hi := 63) (by have := HK1.out; omega) W
    clear G12 G13 G14 R12 R13 GN
    go_wp2_with fail
    go_region_held3 (fun w' => w'.cell? ⟨b, off, none⟩ = some (.slice r0 64 k0) ∧ w'.cell? ⟨b, off + 1, none⟩ = some (.slice (some ⟨b1, o1, none⟩) 64 k1)) (first | exact HS2.out _ (gb_drew GE.out) | exact HS2.out _ (gb_alloc (gb_drew GE.out) _) | exact HS2.out _ G15.out)
      ((go_at_call 12; refine (take_none (mat_two (R0.out.2.keep (grown_trans G11.out (gb_drew GE.out))) ((R1.out.2.keep (grown_trans G11.out (gb_drew GE.out))).cut (n := 63) (by rw [putS_64 top (zs 3584) 1 (by rw [top_len]; decide)]; decide))) (two_no (by rw [List.length_take, putS_64 top (zs 3584) 1 (by rw [top_len]; decide)]; decide))).mono ?_; rintro e w15 ⟨q15, c15, rfl, g15⟩; have G15 : Hid (w11.grownBy w15 none) := grown_trans (gb_alloc (gb_drew GE.out) _) g15; clear g15))
    have M15 : Hid (Mat w15 (.slice (some ⟨b, off, none⟩) 64 c5) us (CM.putS top (zs 3584))) := M8.out.keep (grown_trans G11.out G15.out)
    have W1 : Hid (Calls Try.prog 14 #[.slice (some ⟨b, off, none⟩) 64 c5, .int .u64 18446744073709551615] w15 fun e w' => e = .returned (.bool true) ∧ w15.grownBy w' none) := by
      have h := whole_any top M15.out
      rw [top_yes.1, top_yes.2, decide_eq_true rfl] at h
      exact h
    have GF : Hid (w.grownBy w15 none) := grown_trans GG.out (grown_trans G11.out G15.out)
    clear M15 HS HS2 HL
    go_wp2_with (first
      | (go_at_call_of 14 (Value.int IntKind.u64 18446744073709551615); refine W1.out.mono ?_; rintro e w16 ⟨rfl, g16⟩; have G16 : Hid (w.grownBy w16 none) := grown_trans GF.out g16; clear g16)
      | (go_at_call_of 14 (Value.int IntKind.u64 0); refine (whole_none (Mat.nil _) rfl).mono ?_; rintro e w17 ⟨rfl, g17⟩; have G17 : Hid (w.grownBy w17 none) := grown_trans G16.out g17; clear g17)
      | (go_at_call 11; refine (wakes_any _).mono ?_; rintro e w18 ⟨rfl, g18⟩; have G18 : Hid (w.grownBy w18 none) := grown_trans G17.out g18; clear g18))
    go_ret
    exact ⟨rfl, G18.out⟩
end Go.Proofs.Ythmdidiojjmebaa.chunkKnown
