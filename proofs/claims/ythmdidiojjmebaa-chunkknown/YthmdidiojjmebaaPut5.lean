/- Contracts of stamp.Put, stamp.Take and stamp.Is. -/
import Derived.Test.YthmdidiojjmebaaMark5
import Derived.Deep.RegionHeld3
namespace Go.Proofs.Ythmdidiojjmebaa
open Go.RowKit

theorem zeroS (w : World) : (zeroValue 53).run Try.prog w = .ok (.agg (rowOf (SM.z 64))) w := by
  have h : (Try.prog.info? 53).map (fun i => (i.zero, i.size)) = some (some (.agg (rowOf (SM.z 64))), 64) := by kernel_rfl
  cases hq : Try.prog.info? 53 with
  | none => simp [hq] at h
  | some i => simp [hq] at h; simp [zeroValue, typeInfo, hq, h.1]

/-- A slice that is a sector in a row of its own. -/
abbrev Sect (B : Nat) (w : World) (v : Value) (xs : List Nat) : Prop := Arr 53 B w v xs

theorem put_long {w : World} {n : Nat} {v : Value} {ld : List Nat} (hv : Vec w v ld) (hl : 56 < ld.length) :
    Calls Try.prog 21 #[.int .u64 (n : Int), v] w fun e w' => e = .returned (.tuple #[.slice none 0 0, .int .i64 3]) ∧ w' = w := by
  obtain ⟨q, N, cap, rfl, hN⟩ := hv.opened
  have i1 : (56 : Int) < (N : Int) := by omega
  clear hv hN
  go_enter Try.func21, Try.ntmps21
  go_wp2
  go_ret2
  exact ⟨rfl, rfl⟩

theorem sec_cur (n : Nat) (ld : List Nat) (h : ld.length ≤ 56) : (SM.mk n ++ SM.z 56).take 8 ++ ld ++ (SM.mk n ++ SM.z 56).drop (8 + ld.length) = SM.sec n ld := by
  have e1 : (SM.mk n ++ SM.z 56).take 8 = SM.mk n := by rw [List.take_append_of_le_length (by rw [SM.mk_len]; exact Nat.le_refl _), List.take_of_length_le (by rw [SM.mk_len]; exact Nat.le_refl _)]
  have e2 : (SM.mk n ++ SM.z 56).drop (8 + ld.length) = SM.z (56 - ld.length) := by
    rw [List.drop_append, SM.mk_len, List.drop_eq_nil_of_le (by rw [SM.mk_len]; omega), List.nil_append, SM.z_drop, Nat.add_sub_cancel_left]
  rw [e1, e2, SM.sec, List.append_assoc]

set_option maxHeartbeats 1600000 in
theorem put_yes {w : World} {n : Nat} {v : Value} {ld : List Nat} (hv : Vec w v ld) (hl : ld.length ≤ 56) :
    Calls Try.prog 21 #[.int .u64 (n : Int), v] w fun e w' => ∃ p, e = .returned (.tuple #[.slice p 64 64, .int .i64 0]) ∧ Sect w.heap.size w' (.slice p 64 64) (SM.sec n ld) ∧ w.grownBy w' none := by
  obtain ⟨q, N, cap, rfl, hN⟩ := hv.opened
  have i1 : ¬ (56 : Int) < (N : Int) := by omega
  have HN : Hid (N = ld.length) := hN
  have HV : Hid (∀ w', w.grownBy w' none → Vec w' (.slice q N cap) ld) := fun w' g => hv.keep g
  clear hv hN
  have zS := zeroS
  have zM := zeroM
  go_enter Try.func21, Try.ntmps21
  go_wp2_with (first
    | (go_at_call 24; refine (marked_any n _).mono ?_; rintro e w2 ⟨rfl, g2⟩)
    | (refine wpList_store_row rfl 54 (.tmp 7) (.tmp 12) rfl w2.heap.size (rowOf (SM.mk n)) rfl rfl 54 (rowOf (SM.z 8)) (heap_alloc_new w2 _) (infoM (SM.mk_len n)) (by rw [rowOf_size, rowOf_size, SM.mk_len, SM.z_len]) (rowOf_one _) ?_))
  clear zS zM
  have HA : Hid (((w2.alloc (.cells (rowOf (SM.z 8)) 54)).setRow w2.heap.size (rowOf (SM.mk n))).heap[w.heap.size]? = some (.cells (rowOf (SM.z 64)) 53 (0, 0))) := by
    have hlt : w.heap.size < w2.heap.size := by have := g2.size; simp at this; omega
    show _ = _
    rw [setRow_other _ _ _ _ (by omega)]
    refine heap_old _ _ ?_
    rw [g2.block _ (by simp) (by simp)]
    exact heap_alloc_new w _
  have HB : Hid (((w2.alloc (.cells (rowOf (SM.z 8)) 54)).setRow w2.heap.size (rowOf (SM.mk n))).heap[w2.heap.size]? = some (.cells (rowOf (SM.mk n)) 54 (0, 0))) := setRow_heap _ _ _ _ _ _ (heap_alloc_new w2 _)
  have HG : Hid (w.grownBy ((w2.alloc (.cells (rowOf (SM.z 8)) 54)).setRow w2.heap.size (rowOf (SM.mk n))) none) := gb_setRow (gb_alloc (grown_trans (gb_alloc (World.grownBy.refl _ _) _) g2) _) (by have := g2.size; simp at this; omega) _
  have HLT : Hid (w.heap.size < w2.heap.size) := by have := g2.size; simp at this; show _ < _; omega
  clear g2
  generalize (w2.alloc (.cells (rowOf (SM.z 8)) 54)).setRow w2.heap.size (rowOf (SM.mk n)) = W at *
  generalize w2.heap.size = h2 at *
  go_wp2_with fail
  have VB : Hid (Vec W.drew (.slice (some ⟨h2, 0, none⟩) 8 8) (SM.mk n)) := ((Arr.whole (B := 0) (n := 8) HB.out (Nat.zero_le _) (by rw [SM.mk_len]) (SM.mk_small n) (by rw [SM.mk_len]; decide)).vec.keep (grown_drewN W 1))
  go_region_held3 (fun w' => w.grownBy w' none) (first | exact gb_drew HG.out | exact HG4.out)
    ((refine step_copy_part (T := 53) (cur := SM.z 64) (ys := SM.mk n) (by rfl) _ _ (by rfl) _ (by rfl) (by rfl) HA.out VB.out (by rw [SM.mk_len]; decide) (by rw [SM.mk_len, SM.z_len]; decide) ?_; intro w4 h4 g4; have HG4 : Hid (w.grownBy w4 none) := grown_new (gb_drew HG.out) g4 (fun i e => by have := Option.some.inj e; omega)))
  have H4 : Hid (w4.heap[w.heap.size]? = some (.cells (rowOf (SM.mk n ++ SM.z 56)) 53 (0, 0))) := by
    show _ = _
    rw [h4, List.take_zero, List.nil_append, SM.mk_len, SM.z_drop]
  clear h4 g4 VB HA HB HG HLT
  have hS : Hid ((SM.mk n ++ SM.z 56).take 8 ++ ld ++ (SM.mk n ++ SM.z 56).drop (8 + ld.length) = SM.sec n ld) := sec_cur n ld hl
  have HL : Hid ((SM.mk n ++ SM.z 56).length = 64) := by show _ = _; rw [List.length_append, SM.mk_len, SM.z_len]
  have VL : Hid (∀ x ∈ ld, x < 256) := (HV.out _ HG4.out).small
  generalize SM.mk n ++ SM.z 56 = cur at *
  go_wp2_with (refine wpList_copy_part rfl _ _ rfl _ (cur := cur) (ys := ld) rfl rfl H4.out (HV.out _ HG4.out) hl (by rw [HL.out]; omega) ?_; intro w5 h5 g5)
  go_ret2
  rw [hS.out] at h5
  exact ⟨_, rfl, Arr.whole h5 (Nat.le_refl _) (SM.sec_len hl).symm (SM.sec_small VL.out) (by rw [SM.sec_len hl]; decide), grown_new HG4.out g5 (fun i e => by have := Option.some.inj e; omega)⟩

theorem take_short {w : World} {v : Value} {xs : List Nat} (hv : Vec w v xs) (hl : xs.length < 64) :
    Calls Try.prog 22 #[v] w fun e w' => e = .returned (.tuple #[.int .u64 0, .slice none 0 0, .int .i64 4]) ∧ w' = w := by
  obtain ⟨q, N, cap, rfl, hN⟩ := hv.opened
  have i1 : (N : Int) < 64 := by omega
  clear hv hN
  go_enter Try.func22, Try.ntmps22
  go_wp2
  go_ret3
  exact ⟨rfl, rfl⟩
theorem take_long {w : World} {v : Value} {xs : List Nat} (hv : Vec w v xs) (hl : 64 < xs.length) :
    Calls Try.prog 22 #[v] w fun e w' => e = .returned (.tuple #[.int .u64 0, .slice none 0 0, .int .i64 3]) ∧ w' = w := by
  obtain ⟨q, N, cap, rfl, hN⟩ := hv.opened
  have i1 : (64 : Int) < (N : Int) := by omega
  clear hv hN
  go_enter Try.func22, Try.ntmps22
  go_wp2
  go_ret3
  exact ⟨rfl, rfl⟩

set_option maxHeartbeats 800000 in
theorem take_yes {w : World} {v : Value} {xs : List Nat} (hv : Vec w v xs) (hl : xs.length = 64) :
    Calls Try.prog 22 #[v] w fun e w' => ∃ p, e = .returned (.tuple #[.int .u64 ((SM.val xs 8 : Nat) : Int), .slice p 56 56, .int .i64 0]) ∧ Own w.heap.size w' (.slice p 56 56) (xs.drop 8) ∧ w.grownBy w' none := by
  obtain ⟨q, N, cap, rfl, hN⟩ := hv.opened
  obtain rfl : N = 64 := by omega
  obtain ⟨b, off, rfl, _⟩ := hv.spot (k := 0) (by omega)
  have hcap : 64 ≤ cap := by
    obtain ⟨p', cap', e, h3, _⟩ := hv.form
    injection e with e1 e2 e3
    omega
  have hcm : cap ≤ maxLen := by
    obtain ⟨p', cap', e, _, h4, _⟩ := hv.form
    injection e with e1 e2 e3
    omega
  have HV : Hid (∀ w', w.grownBy w' none → Vec w' (.slice (some ⟨b, off, none⟩) 64 cap) xs) := fun w' g => hv.keep g
  have HT : Hid (∀ w', w.grownBy w' none → Vec w' (.slice (some ⟨b, off + 8, none⟩) 56 (cap - 8)) (xs.drop 8)) := fun w' g => (hv.keep g).tail (by omega)
  clear hv hN
  unfold maxLen at hcm
  go_enter Try.func22, Try.ntmps22
  go_wp2_with (first
    | (at_make; refine wpList_make_vec rfl _ _ rfl 56 rfl rfl (by decide) ?_; intro w1 p ou g1; have OU : Hid (Own w.heap.size w1 (.slice p 56 56) (SM.z 56)) := ou; have G1 : Hid (w.grownBy w1 none) := g1; clear ou g1)
    | (refine wpList_copy_vec rfl _ _ rfl _ _ rfl rfl OU.out (HT.out _ G1.out) (by rw [SM.z_len, List.length_drop, hl]) ?_; intro w2 o2 g2; have O2 : Hid (Own w.heap.size w2 (.slice p 56 56) (xs.drop 8)) := o2; have G2 : Hid (w.grownBy w2 none) := grown_new G1.out g2 (fun i e => OU.out.lo i e); clear o2 g2)
    | (go_at_call 25; refine (stampOf_any (HV.out _ G2.out) (by omega)).mono ?_; rintro e w3 ⟨rfl, hw⟩; obtain rfl := hw.symm; clear hw))
  go_ret3
  exact ⟨p, rfl, O2.out, G2.out⟩

end Go.Proofs.Ythmdidiojjmebaa
