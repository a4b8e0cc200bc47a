/- Packed: Mark5, Put5, All5, Rows7, RTake7, New8, Copy6. -/
import Derived.Laws.BitsAllLaws
import Derived.Test.YtfjlpifaaknmpaaGreatSy1
import Derived.Test.YtfjlpifaaknmpaaGreatSy2
import Derived.Test.YtfjlpifaaknmpaaGreatSy3
import Derived.Test.YtfjlpifaaknmpaaGreatSy4
import Derived.Test.YtfjlpifaaknmpaaGreatSy5
import Derived.Test.YtfjlpifaaknmpaaGreatSy11
import Derived.Deep.RegionHeld3
import Derived.Maps.AppendAt
import Derived.Laws.MakeOwn
import Derived.Deep.QuietTactic
import Derived.BigQuiet
import Derived.Test.YtfjlpifaaknmpaaGreatSy6
import Derived.Test.YtfjlpifaaknmpaaGreatSy7
import Derived.Test.YtfjlpifaaknmpaaGreatSy8
import Derived.Test.YtfjlpifaaknmpaaGreatSy9
import Derived.Test.YtfjlpifaaknmpaaGreatSy10
/- Contracts of stamp.marked and stamp.stampOf. -/
set_option maxRecDepth 100000
namespace Go.Proofs.YtfjlpifaaknmpaaGreat
open Go.RowKit

/-- The array of the bytes behind j rounds: the lowest j of them. -/
def markTo (n j : Nat) : List Nat := (List.range 8).map fun i => if 8 - j ≤ i then n / 256 ^ (7 - i) % 256 else 0
theorem markTo_len (n j : Nat) : (markTo n j).length = 8 := by simp [markTo]
theorem markTo_zero (n : Nat) : markTo n 0 = SM.z 8 := by
  simp only [markTo, SM.z]
  rw [List.eq_replicate_iff]
  refine ⟨by simp, fun b hb => ?_⟩
  obtain ⟨i, hi, rfl⟩ := List.mem_map.1 hb
  rw [if_neg (by have := List.mem_range.1 hi; omega)]
theorem markTo_all (n : Nat) : markTo n 8 = SM.mk n := by simp [markTo, SM.mk]
theorem markTo_set (n j : Nat) (h : j < 8) : (markTo n j).set (7 - j) (n / 256 ^ j % 256) = markTo n (j + 1) := by
  apply SM.ext_getD (by simp [markTo])
  intro i hi
  have hi' : i < 8 := by simpa [markTo] using hi
  by_cases e : 7 - j = i
  · subst e
    have e2 : 7 - (7 - j) = j := by omega
    simp [markTo, List.getD, hi', e2]
    omega
  · have e3 : (7 ≤ i + j) = (8 ≤ i + j) := by apply propext; omega
    simp [markTo, List.getD, hi', e, e3]

theorem pow_256 (j : Nat) : 2 ^ (8 * j) = 256 ^ j := by rw [Nat.pow_mul]
theorem byte_cast (n j : Nat) : ((n : Int) / 2 ^ (8 * j) % 256) = ((n / 256 ^ j % 256 : Nat) : Int) := by
  rw [← pow_256]; simp
theorem wrap_u64 {x : Nat} (h : x < 18446744073709551616) : IntKind.u64.wrap (x : Int) = (x : Int) := by
  simp [IntKind.wrap, IntKind.signed, IntKind.bits]
  omega
theorem or_bytes {v y : Nat} (hv : v < 72057594037927936) (hy : y < 256) : bits .or .u64 ((v : Int) * 256) (y : Int) = ((256 * v + y : Nat) : Int) := by
  have e : (v : Int) * 256 = ((256 * v : Nat) : Int) := by omega
  rw [e, u64_or_nat _ _ (by omega) (by omega)]
  have := Nat.two_pow_add_eq_or_of_lt (i := 8) hy v
  rw [show 2 ^ 8 = 256 by rfl] at this
  rw [this]

theorem zeroM (w : World) : (zeroValue 214).run Tryz.prog w = .ok (.agg (rowOf (SM.z 8))) w := by
  have h : (Tryz.prog.info? 214).map (fun i => (i.zero, i.size)) = some (some (.agg (rowOf (SM.z 8))), 8) := by kernel_rfl
  cases hq : Tryz.prog.info? 214 with
  | none => simp [hq] at h
  | some i => simp [hq] at h; simp [zeroValue, typeInfo, hq, h.1]
theorem infoM {xs : List Nat} (h : xs.length = 8) : (Tryz.prog.info? 214).map (·.size) = some (rowOf xs).size := by rw [rowOf_size, h]; kernel_rfl

set_option maxHeartbeats 800000 in
theorem marked_any (n : Nat) (w : World) :
    Calls Tryz.prog 159 #[.int .u64 (n : Int)] w fun e w' => e = .returned (.agg (rowOf (SM.mk n))) ∧ w.grownBy w' none := by
  have zM := zeroM
  go_enter Tryz.func159, Tryz.ntmps159
  go_wp2
  clear zM
  go_loopw [4] (fun ti wr => ∃ j : Nat, j ≤ 8 ∧ ti = .int .i64 j ∧ Hid (wr.heap[w.heap.size]? = some (.cells (rowOf (markTo n j)) 214 (0, 0))) ∧ Hid (w.grownBy wr none)) (fun ti _ => 8 - (intOf ti).toNat)
  case atStart =>
    refine ⟨0, by omega, rfl, ?_, gb_alloc (World.grownBy.refl _ _) _⟩
    rw [markTo_zero]
    exact heap_alloc_new w _
  case round =>
    obtain ⟨j, hj, rfl, HM, HG⟩ := hrel
    by_cases hlt : j < 8
    · have i1 : (j : Int) < 8 := by omega
      have hc : wr.cell? ⟨w.heap.size, 7 - j, none⟩ = some (.int .u8 (((markTo n j).getD (7 - j) 0 : Nat) : Int)) := by rw [cell_of_row _ _ _ _ _ _ HM.out, rowOf_get _ (by rw [markTo_len]; omega)]
      have hf : wr.frozen? ⟨w.heap.size, 7 - j, none⟩ = false := frozen_of_row _ _ _ _ _ HM.out
      have HP : Hid ((wr.setCell ⟨w.heap.size, 7 - j, none⟩ (.int .u8 ((n / 256 ^ j % 256 : Nat) : Int))).heap[w.heap.size]? = some (.cells (rowOf (markTo n (j + 1))) 214 (0, 0))) := by
        show _ = _
        rw [heap_setCell_same _ _ _ _ _ _ HM.out, rowOf_set, markTo_set n j hlt]
      have HGN : Hid (w.grownBy (wr.setCell ⟨w.heap.size, 7 - j, none⟩ (.int .u8 ((n / 256 ^ j % 256 : Nat) : Int))) none) := gb_setCell HG.out (by simp) _
      rw [← byte_cast] at HP HGN
      clear HM HG
      go_wp2
      go_roundw
      case rel => exact ⟨j + 1, by omega, by go_num, HP, HGN⟩
      case measure => simp [intOf]; omega
    · have i1 : ¬ (j : Int) < 8 := by omega
      have HM' : wr.heap[w.heap.size]? = some (.cells (rowOf (SM.mk n)) 214 (0, 0)) := by
        have e : j = 8 := by omega
        rw [← markTo_all, ← e]; exact HM.out
      clear HM
      have HI : Hid ((Tryz.prog.info? 214).map (·.size) = some (rowOf (SM.mk n)).size) := infoM (SM.mk_len n)
      have HP : Hid (wr.heap[w.heap.size]? = some (.cells (rowOf (SM.mk n)) 214 (0, 0))) := HM'
      have H1 : Hid ((rowOf (SM.mk n)).all (·.oneCell') = true) := rowOf_one _
      have HSR : Hid (wr.setRow w.heap.size (rowOf (SM.mk n)) = wr) := setRow_self wr w.heap.size _ _ _ HM'
      clear HM'
      obtain ⟨AR, hAR⟩ : ∃ AR, AR = rowOf (SM.mk n) := ⟨_, rfl⟩
      rw [← hAR] at HI HP H1 HSR
      have HAR : Hid (AR = rowOf (SM.mk n)) := hAR
      clear hAR
      go_wp2_with (first
        | refine wpList_load_row rfl 214 (.tmp 2) rfl w.heap.size rfl 214 AR (0, 0) _ HP.out Tryz.underlying214 rfl HI.out ?_
        | (refine wpList_store_row rfl 214 (.tmp 2) (.tmp 16) rfl w.heap.size AR rfl rfl 214 AR HP.out HI.out rfl H1.out ?_; rw [HSR.out]))
      exact bodyPost_ret (results_cell_row rfl _ _ w.heap.size 214 AR (0, 0) _ rfl HP.out Tryz.underlying214 rfl HI.out) rfl ⟨by rw [HAR.out], HG.out⟩

set_option maxHeartbeats 800000 in
theorem stampOf_any {w : World} {v : Value} {xs : List Nat} (hv : Vec w v xs) (h8 : 8 ≤ xs.length) :
    Calls Tryz.prog 116 #[v] w fun e w' => e = .returned (.int .u64 ((SM.val xs 8 : Nat) : Int)) ∧ w' = w := by
  obtain ⟨q, N, cap, rfl, hN⟩ := hv.opened
  obtain ⟨b, off, rfl, _⟩ := hv.spot (k := 0) (by omega)
  have hcap : N ≤ cap := by
    obtain ⟨p', cap', e, h3, _⟩ := hv.form
    injection e with e1 e2 e3
    omega
  have hN8 : 8 ≤ N := by omega
  have HV : Hid (Vec w (.slice (some ⟨b, off, none⟩) N cap) xs) := hv
  have HS : Hid (∀ x ∈ xs, x < 256) := hv.small
  clear hv hN
  go_enter Tryz.func116, Tryz.ntmps116
  go_wp2
  go_loop [3, 9] (fun ts ti => ∃ k : Nat, k ≤ 8 ∧ ti = .int .i64 k ∧ ts = .int .u64 ((SM.val xs k : Nat) : Int)) (fun _ ti => 8 - (intOf ti).toNat)
  case atStart => exact ⟨0, by omega, rfl, rfl⟩
  case round =>
    obtain ⟨k, hk, rfl, rfl⟩ := hrel
    by_cases hlt : k < 8
    · have i1 : (k : Int) < 8 := by omega
      obtain ⟨b', off', e, hc, h256⟩ := HV.out.spot (k := k) (by omega)
      injection e with e
      injection e with e1 e2
      subst e1
      subst e2
      have h7 : SM.val xs k < 72057594037927936 := by
        have h1 := SM.val_lt HS.out k
        have h2 : 256 ^ k ≤ 256 ^ 7 := Nat.pow_le_pow_right (by decide) (by omega)
        have h3 : 256 ^ 7 = 72057594037927936 := by decide
        omega
      have HOR : Hid (bits .or .u64 (((SM.val xs k : Nat) : Int) * 256) ((xs.getD k 0 : Nat) : Int) = ((SM.val xs (k + 1) : Nat) : Int)) := or_bytes h7 h256
      generalize xs.getD k 0 = y at *
      go_wp2
      go_round
      case rel => exact ⟨k + 1, by omega, by go_num, by rw [HOR.out]⟩
      case measure => simp [intOf]; omega
    · have i1 : ¬ (k : Int) < 8 := by omega
      have HE : Hid (SM.val xs k = SM.val xs 8) := by
        have e : k = 8 := by omega
        show _ = _
        rw [e]
      go_wp2
      go_ret
      exact ⟨by rw [HE.out]; rfl, rfl⟩
end Go.Proofs.YtfjlpifaaknmpaaGreat

/- Contracts of stamp.Put, stamp.Take and stamp.Is. -/
set_option maxRecDepth 100000
namespace Go.Proofs.YtfjlpifaaknmpaaGreat
open Go.RowKit

theorem zeroS (w : World) : (zeroValue 123).run Tryz.prog w = .ok (.agg (rowOf (SM.z 64))) w := by
  have h : (Tryz.prog.info? 123).map (fun i => (i.zero, i.size)) = some (some (.agg (rowOf (SM.z 64))), 64) := by kernel_rfl
  cases hq : Tryz.prog.info? 123 with
  | none => simp [hq] at h
  | some i => simp [hq] at h; simp [zeroValue, typeInfo, hq, h.1]

/-- A slice that is a sector in a row of its own. -/
abbrev Sect (B : Nat) (w : World) (v : Value) (xs : List Nat) : Prop := Arr 123 B w v xs

theorem sec_cur (n : Nat) (ld : List Nat) (h : ld.length ≤ 56) : (SM.mk n ++ SM.z 56).take 8 ++ ld ++ (SM.mk n ++ SM.z 56).drop (8 + ld.length) = SM.sec n ld := by
  have e1 : (SM.mk n ++ SM.z 56).take 8 = SM.mk n := by rw [List.take_append_of_le_length (by rw [SM.mk_len]; exact Nat.le_refl _), List.take_of_length_le (by rw [SM.mk_len]; exact Nat.le_refl _)]
  have e2 : (SM.mk n ++ SM.z 56).drop (8 + ld.length) = SM.z (56 - ld.length) := by
    rw [List.drop_append, SM.mk_len, List.drop_eq_nil_of_le (by rw [SM.mk_len]; omega), List.nil_append, SM.z_drop, Nat.add_sub_cancel_left]
  rw [e1, e2, SM.sec, List.append_assoc]

set_option maxHeartbeats 1600000 in
theorem put_yes {w : World} {n : Nat} {v : Value} {ld : List Nat} (hv : Vec w v ld) (hl : ld.length ≤ 56) :
    Calls Tryz.prog 141 #[.int .u64 (n : Int), v] w fun e w' => ∃ p, e = .returned (.tuple #[.slice p 64 64, .int .i64 0]) ∧ Sect w.heap.size w' (.slice p 64 64) (SM.sec n ld) ∧ w.grownBy w' none := by
  obtain ⟨q, N, cap, rfl, hN⟩ := hv.opened
  have i1 : ¬ (56 : Int) < (N : Int) := by omega
  have HN : Hid (N = ld.length) := hN
  have HV : Hid (∀ w', w.grownBy w' none → Vec w' (.slice q N cap) ld) := fun w' g => hv.keep g
  clear hv hN
  have zS := zeroS
  have zM := zeroM
  go_enter Tryz.func141, Tryz.ntmps141
  go_wp2_with (first
    | (go_at_call 159; refine (marked_any n _).mono ?_; rintro e w2 ⟨rfl, g2⟩)
    | (refine wpList_store_row rfl 214 (.tmp 7) (.tmp 12) rfl w2.heap.size (rowOf (SM.mk n)) rfl rfl 214 (rowOf (SM.z 8)) (heap_alloc_new w2 _) (infoM (SM.mk_len n)) (by rw [rowOf_size, rowOf_size, SM.mk_len, SM.z_len]) (rowOf_one _) ?_))
  clear zS zM
  have HA : Hid (((w2.alloc (.cells (rowOf (SM.z 8)) 214)).setRow w2.heap.size (rowOf (SM.mk n))).heap[w.heap.size]? = some (.cells (rowOf (SM.z 64)) 123 (0, 0))) := by
    have hlt : w.heap.size < w2.heap.size := by have := g2.size; simp at this; omega
    show _ = _
    rw [setRow_other _ _ _ _ (by omega)]
    refine heap_old _ _ ?_
    rw [g2.block _ (by simp) (by simp)]
    exact heap_alloc_new w _
  have HB : Hid (((w2.alloc (.cells (rowOf (SM.z 8)) 214)).setRow w2.heap.size (rowOf (SM.mk n))).heap[w2.heap.size]? = some (.cells (rowOf (SM.mk n)) 214 (0, 0))) := setRow_heap _ _ _ _ _ _ (heap_alloc_new w2 _)
  have HG : Hid (w.grownBy ((w2.alloc (.cells (rowOf (SM.z 8)) 214)).setRow w2.heap.size (rowOf (SM.mk n))) none) := gb_setRow (gb_alloc (grown_trans (gb_alloc (World.grownBy.refl _ _) _) g2) _) (by have := g2.size; simp at this; omega) _
  have HLT : Hid (w.heap.size < w2.heap.size) := by have := g2.size; simp at this; show _ < _; omega
  clear g2
  generalize (w2.alloc (.cells (rowOf (SM.z 8)) 214)).setRow w2.heap.size (rowOf (SM.mk n)) = W at *
  generalize w2.heap.size = h2 at *
  go_wp2_with fail
  have VB : Hid (Vec W.drew (.slice (some ⟨h2, 0, none⟩) 8 8) (SM.mk n)) := ((Arr.whole (B := 0) (n := 8) HB.out (Nat.zero_le _) (by rw [SM.mk_len]) (SM.mk_small n) (by rw [SM.mk_len]; decide)).vec.keep (grown_drewN W 1))
  go_region_held3 (fun w' => w.grownBy w' none) (first | exact gb_drew HG.out | exact HG4.out)
    ((refine step_copy_part (T := 123) (cur := SM.z 64) (ys := SM.mk n) (by rfl) _ _ (by rfl) _ (by rfl) (by rfl) HA.out VB.out (by rw [SM.mk_len]; decide) (by rw [SM.mk_len, SM.z_len]; decide) ?_; intro w4 h4 g4; have HG4 : Hid (w.grownBy w4 none) := grown_new (gb_drew HG.out) g4 (fun i e => by have := Option.some.inj e; omega)))
  have H4 : Hid (w4.heap[w.heap.size]? = some (.cells (rowOf (SM.mk n ++ SM.z 56)) 123 (0, 0))) := by
    show _ = _
    rw [h4, List.take_zero, List.nil_append, SM.mk_len, SM.z_drop]
  clear h4 g4 VB HA HB HG HLT
  have hS : Hid ((SM.mk n ++ SM.z 56).take 8 ++ ld ++ (SM.mk n ++ SM.z 56).drop (8 + ld.length) = SM.sec n ld) := sec_cur n ld hl
  have HL : Hid ((SM.mk n ++ SM.z 56).length = 64) := by show _ = _; rw [List.length_append, SM.mk_len, SM.z_len]
  have VL : Hid (∀ x ∈ ld, x < 256) := (HV.out _ HG4.out).small
  generalize SM.mk n ++ SM.z 56 = cur at *
  go_wp2_with (refine wpList_copy_part rfl _ _ rfl _ (cur := cur) (ys := ld) rfl rfl H4.out (HV.out _ HG4.out) hl (by rw [HL.out]; omega) ?_; intro w5 h5 g5)
  go_ret2
  rw [hS.out] at h5
  exact ⟨_, rfl, Arr.whole h5 (Nat.le_refl _) (SM.sec_len hl).symm (SM.sec_small VL.out) (by rw [SM.sec_len hl]; decide), grown_new HG4.out g5 (fun i e => by have := Option.some.inj e; omega)⟩

theorem take_short {w : World} {v : Value} {xs : List Nat} (hv : Vec w v xs) (hl : xs.length < 64) :
    Calls Tryz.prog 68 #[v] w fun e w' => e = .returned (.tuple #[.int .u64 0, .slice none 0 0, .int .i64 4]) ∧ w' = w := by
  obtain ⟨q, N, cap, rfl, hN⟩ := hv.opened
  have i1 : (N : Int) < 64 := by omega
  clear hv hN
  go_enter Tryz.func68, Tryz.ntmps68
  go_wp2
  go_ret3
  exact ⟨rfl, rfl⟩
theorem take_long {w : World} {v : Value} {xs : List Nat} (hv : Vec w v xs) (hl : 64 < xs.length) :
    Calls Tryz.prog 68 #[v] w fun e w' => e = .returned (.tuple #[.int .u64 0, .slice none 0 0, .int .i64 3]) ∧ w' = w := by
  obtain ⟨q, N, cap, rfl, hN⟩ := hv.opened
  have i1 : (64 : Int) < (N : Int) := by omega
  clear hv hN
  go_enter Tryz.func68, Tryz.ntmps68
  go_wp2
  go_ret3
  exact ⟨rfl, rfl⟩

set_option maxHeartbeats 800000 in
theorem take_yes {w : World} {v : Value} {xs : List Nat} (hv : Vec w v xs) (hl : xs.length = 64) :
    Calls Tryz.prog 68 #[v] w fun e w' => ∃ p, e = .returned (.tuple #[.int .u64 ((SM.val xs 8 : Nat) : Int), .slice p 56 56, .int .i64 0]) ∧ Own w.heap.size w' (.slice p 56 56) (xs.drop 8) ∧ w.grownBy w' none := by
  obtain ⟨q, N, cap, rfl, hN⟩ := hv.opened
  obtain rfl : N = 64 := by omega
  obtain ⟨b, off, rfl, _⟩ := hv.spot (k := 0) (by omega)
  have hcap : 64 ≤ cap := by
    obtain ⟨p', cap', e, h3, _⟩ := hv.form
    injection e with e1 e2 e3
    omega
  have hcm : cap ≤ maxLen := by
    obtain ⟨p', cap', e, _, h4, _⟩ := hv.form
    injection e with e1 e2 e3
    omega
  have HV : Hid (∀ w', w.grownBy w' none → Vec w' (.slice (some ⟨b, off, none⟩) 64 cap) xs) := fun w' g => hv.keep g
  have HT : Hid (∀ w', w.grownBy w' none → Vec w' (.slice (some ⟨b, off + 8, none⟩) 56 (cap - 8)) (xs.drop 8)) := fun w' g => (hv.keep g).tail_a (by omega)
  clear hv hN
  unfold maxLen at hcm
  go_enter Tryz.func68, Tryz.ntmps68
  go_wp2_with (first
    | (at_make; refine wpList_make_vec rfl _ _ rfl 56 rfl rfl (by decide) ?_; intro w1 p ou g1; have OU : Hid (Own w.heap.size w1 (.slice p 56 56) (SM.z 56)) := ou; have G1 : Hid (w.grownBy w1 none) := g1; clear ou g1)
    | (refine wpList_copy_vec rfl _ _ rfl _ _ rfl rfl OU.out (HT.out _ G1.out) (by rw [SM.z_len, List.length_drop, hl]) ?_; intro w2 o2 g2; have O2 : Hid (Own w.heap.size w2 (.slice p 56 56) (xs.drop 8)) := o2; have G2 : Hid (w.grownBy w2 none) := grown_new G1.out g2 (fun i e => OU.out.lo i e); clear o2 g2)
    | (go_at_call 116; refine (stampOf_any (HV.out _ G2.out) (by omega)).mono ?_; rintro e w3 ⟨rfl, hw⟩; obtain rfl := hw.symm; clear hw))
  go_ret3
  exact ⟨p, rfl, O2.out, G2.out⟩

end Go.Proofs.YtfjlpifaaknmpaaGreat

/- What Put and Take answer, told once for all loads and bytes, and for the document's too. -/
set_option maxRecDepth 100000
namespace Go.Proofs.YtfjlpifaaknmpaaGreat
open Go.RowKit

def putS (n : Nat) (ld : List Nat) : List Nat := if ld.length ≤ 56 then SM.sec n ld else []
def putE (ld : List Nat) : Int := if ld.length ≤ 56 then 0 else 3
def takeN (xs : List Nat) : Nat := if xs.length = 64 then SM.val xs 8 else 0
def takeL (xs : List Nat) : List Nat := if xs.length = 64 then xs.drop 8 else []
def takeE (xs : List Nat) : Int := if xs.length = 64 then 0 else if xs.length < 64 then 4 else 3
theorem take_all {w : World} {v : Value} {xs : List Nat} (hv : Vec w v xs) :
    Calls Tryz.prog 68 #[v] w fun e w' => ∃ p k, e = .returned (.tuple #[.int .u64 ((takeN xs : Nat) : Int), .slice p k k, .int .i64 (takeE xs)]) ∧ Own w.heap.size w' (.slice p k k) (takeL xs) ∧ w.grownBy w' none := by
  unfold takeN takeL takeE
  by_cases hl : xs.length = 64
  · rw [if_pos hl, if_pos hl, if_pos hl]
    exact (take_yes hv hl).mono fun e w' ⟨p, h⟩ => ⟨p, 56, h⟩
  · rw [if_neg hl, if_neg hl, if_neg hl]
    by_cases h2 : xs.length < 64
    · rw [if_pos h2]
      exact (take_short hv h2).mono fun e w' ⟨h1, h2⟩ => ⟨none, 0, h1, Own.nil _ _, by rw [h2]; exact World.grownBy.refl _ _⟩
    · rw [if_neg h2]
      exact (take_long hv (by omega)).mono fun e w' ⟨h1, h2⟩ => ⟨none, 0, h1, Own.nil _ _, by rw [h2]; exact World.grownBy.refl _ _⟩
end Go.Proofs.YtfjlpifaaknmpaaGreat

/- Slices of slices that the call makes, their rows in blocks of whatever one type (RMat); append of one row; make with room. -/
set_option maxRecDepth 100000
namespace Go.Proofs.YtfjlpifaaknmpaaGreat
open Go.RowKit

theorem mat_n {w : World} {p : Option Addr} {n c : Nat} {us : List Value} {X : List (List Nat)} (h : Mat w (.slice p n c) us X) : us.length = n ∧ X.length = n := by
  have hs := h.same
  obtain ⟨p', n', c', e', h'⟩ := h.row.opened
  injection e' with e1 e2 e3
  omega
theorem Mat.nil (w : World) : Mat w (.slice none 0 0) [] [] := ⟨⟨by simp, none, 0, rfl, Nat.le_refl _, by decide, fun h => absurd rfl h⟩, rfl, by simp⟩

/-- A slice of slices of the call's own, each row in a block of its own of the type T. -/
structure RMat (T : TypeId) (B : Nat) (w : World) (v : Value) (us : List Value) (X : List (List Nat)) : Prop where
  len : us.length * 24 ≤ 140737488351232
  row : w.ownsRow B 40 1 v us.length us
  same : us.length = X.length
  vec : ∀ j, j < X.length → Arr T B w (us.getD j undef) (X.getD j [])

theorem RMat.nil (T : TypeId) (B : Nat) (w : World) : RMat T B w (.slice none 0 0) [] [] := ⟨by simp, World.ownsRow_nil w B 40 1, rfl, by simp⟩
theorem RMat.lo {T : TypeId} {B : Nat} {w : World} {v : Value} {us : List Value} {X : List (List Nat)} (h : RMat T B w v us X) : Lo B v := fun k hk => (h.row.lt k hk).1
theorem RMat.hi {T : TypeId} {B : Nat} {w : World} {v : Value} {us : List Value} {X : List (List Nat)} (h : RMat T B w v us X) : Hi w.heap.size v := fun k hk => (h.row.lt k hk).2
theorem RMat.keep {T : TypeId} {B : Nat} {w w' : World} {v : Value} {us : List Value} {X : List (List Nat)} (h : RMat T B w v us X) (g : w.grownBy w' none) : RMat T B w' v us X :=
  ⟨h.len, h.row.kept g (by cases h : v.ownBlock <;> simp), h.same, fun j hj => (h.vec j hj).keep g⟩
/-- A block that is none of these turns. -/
theorem RMat.kept {T : TypeId} {B : Nat} {w w' : World} {v : Value} {us : List Value} {X : List (List Nat)} {row : Option Nat} (h : RMat T B w v us X) (g : w.grownBy w' row) (hr : ∀ r, row = some r → ∀ c f, w.heap[r]? ≠ some (.cells c 40 f) ∧ w.heap[r]? ≠ some (.cells c T f)) : RMat T B w' v us X := by
  refine ⟨h.len, h.row.kept g ?_, h.same, fun j hj => (h.vec j hj).kept g ?_⟩
  · rcases h.row.2 with ⟨e, _⟩ | ⟨b, cap, cur, e, _, hg, _⟩
    · subst e; exact .inl rfl
    · subst e
      exact .inr fun e => (hr b (by simpa [Value.ownBlock] using e.symm) cur (0, 0)).1 hg
  · rcases (h.vec j hj).row.2 with ⟨e, _⟩ | ⟨b, cap, cur, e, _, hg, _⟩
    · rw [e]; exact .inl rfl
    · rw [e]
      exact .inr fun e => (hr b (by simpa [Value.ownBlock] using e.symm) cur (0, 0)).2 hg

theorem RMat.apart {T T' : TypeId} (hT : T' ≠ 40) {B B' : Nat} {w : World} {v u : Value} {us : List Value} {X : List (List Nat)} {xs : List Nat} (h : RMat T B w v us X) (hu : Arr T' B' w u xs) : u.ownBlock = none ∨ u.ownBlock ≠ v.ownBlock := by
  rcases hu.row.2 with ⟨rfl, _⟩ | ⟨g, cap, cur, rfl, _, hg, _⟩
  · exact .inl rfl
  · rcases h.row.2 with ⟨rfl, _⟩ | ⟨g', cap', cur', rfl, _, hg', _⟩
    · exact .inr (by simp [Value.ownBlock])
    · refine .inr fun e => ?_
      simp only [Value.ownBlock, Option.some.injEq] at e
      subst e
      rw [hg] at hg'
      simp at hg'
      exact hT hg'.2

/-- One row more. -/
theorem RMat.more {T : TypeId} (hT : T ≠ 40) {B : Nat} {w w2 : World} {v v' u : Value} {us : List Value} {X : List (List Nat)} {xs : List Nat} (h : RMat T B w v us X) (hu : Arr T B w u xs)
    (hl : (us.length + 1) * 24 ≤ 140737488351232) (hr : w2.ownsRow B 40 1 v' (us.length + 1) (us ++ [u])) (hg : w.grownBy w2 v.ownBlock) : RMat T B w2 v' (us ++ [u]) (X ++ [xs]) := by
  refine ⟨by simpa using hl, by simpa using hr, by simp [h.same], fun j hj => ?_⟩
  have hs := h.same
  by_cases hj' : j < X.length
  · have e1 : (us ++ [u]).getD j undef = us.getD j undef := by simp [List.getD, List.getElem?_append, show j < us.length from by omega]
    have e2 : (X ++ [xs]).getD j [] = X.getD j [] := by simp [List.getD, List.getElem?_append, hj']
    rw [e1, e2]
    exact (h.vec j hj').kept hg (h.apart hT (h.vec j hj'))
  · have hj2 : j = X.length := by simp at hj; omega
    have e1 : (us ++ [u]).getD j undef = u := by simp [List.getD, hj2, ← hs]
    have e2 : (X ++ [xs]).getD j [] = xs := by simp [List.getD, hj2]
    rw [e1, e2]
    exact hu.kept hg (h.apart hT hu)

theorem RMat.mat {T : TypeId} {B : Nat} {w : World} {v : Value} {us : List Value} {X : List (List Nat)} (h : RMat T B w v us X) : Mat w v us X := by
  refine ⟨⟨h.len, ?_⟩, h.same, fun j hj => (h.vec j hj).vec⟩
  have hr := h.row
  rcases h.row.2 with ⟨rfl, hn⟩ | ⟨g, cap, cur, rfl, hb, hg, hc, hm, hs, ht⟩
  · have : us = [] := List.eq_nil_of_length_eq_zero hn
    subst this
    exact ⟨none, 0, rfl, Nat.le_refl _, by decide, fun h => absurd rfl h⟩
  · refine ⟨some ⟨g, 0, none⟩, cap, rfl, hc, hm, fun _ => ⟨g, 0, rfl, fun j hj => ?_⟩⟩
    have := hr.cells (g := g) rfl j (us.getD j undef) (by simp [List.getD, hj])
    rwa [add_at] at this
theorem RMat.down {T : TypeId} {B B' : Nat} {w : World} {v : Value} {us : List Value} {X : List (List Nat)} (h : RMat T B' w v us X) (hB : B ≤ B') : RMat T B w v us X :=
  ⟨h.len, ⟨h.row.1, by
    rcases h.row.2 with h | ⟨g, cp, cur, a1, a2, a3⟩
    · exact .inl h
    · exact .inr ⟨g, cp, cur, a1, by omega, a3⟩⟩, h.same, fun j hj => (h.vec j hj).down hB⟩

theorem run_append_row {B : Nat} {w : World} {dv : Value} {us : List Value} (hd : w.ownsRow B 40 1 dv us.length us) (ad : Addr) {u : Value} (hu : w.cell? ad = some u) (h1 : u.oneCell' = true) (hB : B ≤ w.heap.size) (hl : (us.length + 1) * 24 ≤ 140737488351232) (ty : TypeId) :
    ∃ v' w', (Builtin.append_ #[87, 87] ty #[dv, .slice (some ad) 1 1]).run Tryz.prog w = .ok v' w' ∧ w'.ownsRow B 40 1 v' (us.length + 1) (us ++ [u]) ∧ w.grownBy w' dv.ownBlock ∧ (v'.ownBlock = dv.ownBlock ∨ v'.ownBlock = some w.heap.size) := by
  obtain ⟨i0, hi, hz0, hz1, hz2⟩ := info_parts Tryz.info22
  obtain ⟨v', w', r1, r2, r3, _, r5⟩ := run_append_own_at (P := Tryz.prog) w B 87 ty 40 i0 (.slice none 0 0) 1 24 Tryz.underlying87 hi hz0 hz1 hz2 rfl (by decide) dv us.length us hd ad 1 1 [u] (by simp)
    (fun j v hj => by
      match j, hj with
      | 0, hj => simp at hj; subst hj; simpa [Addr.add] using hu)
    (fun v hv => by simp at hv; subst hv; exact h1) (by unfold maxLen; omega) (by omega) hB
  exact ⟨v', w', r1, by simpa using r2, r3, r5⟩

theorem wpList_append_row {w : World} {ops : Array Oper} {rest : List Oper} {o : Oper} {a : Act} {Q : Exit → Act → World → Prop} (hgd : o.guard = none) (d s : Operand)
    (ho : o.op = .call { callee := .builtin .append, args := #[d, s], argTypes := #[87, 87] }) (dv : Value) (ad : Addr) (hed : a.eval d = dv) (hes : a.eval s = .slice (some ad) 1 1)
    {B : Nat} {us : List Value} {u : Value} (hd : w.ownsRow B 40 1 dv us.length us) (hu : w.cell? ad = some u) (h1 : u.oneCell' = true) (hB : B ≤ w.heap.size) (hl : (us.length + 1) * 24 ≤ 140737488351232)
    (h : ∀ v' w', w'.ownsRow B 40 1 v' (us.length + 1) (us ++ [u]) → w.grownBy w' dv.ownBlock → (v'.ownBlock = dv.ownBlock ∨ v'.ownBlock = some w.heap.size) → wpList Tryz.prog ops Q rest (a.put o.dst v') w') : wpList Tryz.prog ops Q (o :: rest) a w := by
  refine wpList_plain hgd fun K hK => ?_
  obtain ⟨v', w', hrun, r1, r2, r3⟩ := run_append_row hd ad hu h1 hB hl o.type
  unfold Oper.wp
  simp [execOp, ho, resolve, invoke, builtin, hed, hes, hrun, Result.andThen]
  exact hK _ _ (h _ _ r1 r2 r3)

theorem step_append_row {ops : Array Oper} {o : Oper} {a : Act} {w : World} {K : Act → World → Prop} {Q : Exit → Act → World → Prop} {E : Prop} (hgd : o.guard = none) (d s : Operand)
    (ho : o.op = .call { callee := .builtin .append, args := #[d, s], argTypes := #[87, 87] }) (dv : Value) (ad : Addr) (hed : a.eval d = dv) (hes : a.eval s = .slice (some ad) 1 1)
    {B : Nat} {us : List Value} {u : Value} (hd : w.ownsRow B 40 1 dv us.length us) (hu : w.cell? ad = some u) (h1 : u.oneCell' = true) (hB : B ≤ w.heap.size) (hl : (us.length + 1) * 24 ≤ 140737488351232)
    (h : ∀ v' w', w'.ownsRow B 40 1 v' (us.length + 1) (us ++ [u]) → w.grownBy w' dv.ownBlock → (v'.ownBlock = dv.ownBlock ∨ v'.ownBlock = some w.heap.size) → K (a.put o.dst v') w') :
    if Region.wanted o (yielded ops a.tmps) = true then Oper.wp Tryz.prog o a w K Q else E := by
  have hw : Region.wanted o (yielded ops a.tmps) = true := by simp [Region.wanted, hgd]
  rw [if_pos hw]
  obtain ⟨v', w', hrun, r1, r2, r3⟩ := run_append_row hd ad hu h1 hB hl o.type
  unfold Oper.wp
  simp [execOp, ho, resolve, invoke, builtin, hed, hes, hrun, Result.andThen]
  exact h _ _ r1 r2 r3

/-- make([]byte, 0, n). -/
theorem run_make_room (W : World) {n : Nat} (hn : n ≤ 140737488351232) : ∃ w', (Instr.makeSlice 40 (.int .i64 0) (.int .i64 (n : Int))).run Tryz.prog W = .ok (.slice (some ⟨W.heap.size, 0, none⟩) 0 n) w' ∧ Own W.heap.size w' (.slice (some ⟨W.heap.size, 0, none⟩) 0 n) [] ∧ W.grownBy w' none := by
  obtain ⟨i0, hi, hz0, hz1, hz2⟩ := info_parts Tryz.info5
  obtain ⟨w', h1, h2, h3⟩ := run_make_own (P := Tryz.prog) W W.heap.size 40 5 i0 (.int .u8 0) 1 Tryz.underlying40 hi hz0 hz1 .i64 .i64 n (by rw [hz2]; omega) (by unfold maxLen; omega) (Nat.le_refl _)
  exact ⟨w', h1, ⟨by simp, by simp, by simpa using h2⟩, h3⟩
theorem wpList_make_room {w : World} {ops : Array Oper} {rest : List Oper} {o : Oper} {a : Act} {Q : Exit → Act → World → Prop} (hgd : o.guard = none) (l c : Operand)
    (ho : o.op = Op.makeSlice 40 l c) (n : Nat) (hel : a.eval l = .int .i64 0) (hec : a.eval c = .int .i64 (n : Int)) (hn : n ≤ 140737488351232)
    (h : ∀ w1, Own w.heap.size w1 (.slice (some ⟨w.heap.size, 0, none⟩) 0 n) [] → w.grownBy w1 none → wpList Tryz.prog ops Q rest (a.put o.dst (.slice (some ⟨w.heap.size, 0, none⟩) 0 n)) w1) : wpList Tryz.prog ops Q (o :: rest) a w := by
  refine wpList_plain hgd fun K hK => ?_
  obtain ⟨w', hrun, r1, r2⟩ := run_make_room w hn
  unfold Oper.wp
  simp [execOp, ho, hel, hec, hrun, Result.andThen]
  exact hK _ _ (h _ r1 r2)
/-- make([][]byte, 0, n). -/
theorem run_make_rows0 (W : World) {n : Nat} (hn : n * 24 ≤ 140737488351232) : ∃ w', (Instr.makeSlice 87 (.int .i64 0) (.int .i64 (n : Int))).run Tryz.prog W = .ok (.slice (some ⟨W.heap.size, 0, none⟩) 0 n) w' ∧ w'.ownsRow W.heap.size 40 1 (.slice (some ⟨W.heap.size, 0, none⟩) 0 n) 0 [] ∧ W.grownBy w' none := by
  obtain ⟨i0, hi, hz0, hz1, hz2⟩ := info_parts Tryz.info22
  exact run_make_own (P := Tryz.prog) W W.heap.size 87 40 i0 (.slice none 0 0) 1 Tryz.underlying87 hi hz0 hz1 .i64 .i64 n (by rw [hz2]; omega) (by unfold maxLen; omega) (Nat.le_refl _)
end Go.Proofs.YtfjlpifaaknmpaaGreat

/- The document's Take (hayrickref07). -/
set_option maxRecDepth 100000
namespace Go.Proofs.YtfjlpifaaknmpaaGreat
open Go.RowKit


theorem eqb_no {a b : Nat} (h : a ≠ b) : ((a : Int) == (b : Int)) = false := by simp; omega
theorem eqb_yes {a b : Nat} (h : a = b) : ((a : Int) == (b : Int)) = true := by simp; omega
theorem neb_yes {a b : Nat} (h : a ≠ b) : ((a : Int) != (b : Int)) = true := by simp; omega
theorem neb_no {a b : Nat} (h : a = b) : ((a : Int) != (b : Int)) = false := by simp; omega
theorem tN_no {X : List (List Nat)} (h : CM.yes X = false) : CM.tN X = 0 := by simp [CM.tN, h]
theorem tL_no {X : List (List Nat)} (h : CM.yes X = false) : CM.tL X = [] := by simp [CM.tL, h]
/-- The stamp behind k sectors. -/
def stAt (X : List (List Nat)) (k : Nat) : Nat := if k = 0 then 0 else SM.val (X.getD 0 []) 8
theorem okTo_more {X : List (List Nat)} {k : Nat} (h : CM.okTo X k) (h1 : (X.getD k []).length = 64) (h2 : SM.val (X.getD k []) 8 ≠ 0) (h3 : k = 0 ∨ SM.val (X.getD k []) 8 = SM.val (X.getD 0 []) 8) : CM.okTo X (k + 1) := fun j hj => by
  by_cases e : j = k
  · subst e
    refine ⟨h1, ?_, h2⟩
    rcases h3 with h3 | h3
    · subst h3; rfl
    · exact h3
  · exact h j (by omega)
theorem stAt_next {X : List (List Nat)} {k : Nat} (h3 : k = 0 ∨ SM.val (X.getD k []) 8 = SM.val (X.getD 0 []) 8) : stAt X (k + 1) = SM.val (X.getD k []) 8 := by
  unfold stAt
  rw [if_neg (by omega)]
  rcases h3 with h3 | h3
  · subst h3; rfl
  · exact h3.symm

end Go.Proofs.YtfjlpifaaknmpaaGreat

/- The contract of stripe.New. -/
set_option linter.unusedSimpArgs false
set_option linter.unusedVariables false
set_option maxRecDepth 100000
namespace Go.Proofs.YtfjlpifaaknmpaaGreat
open Go.RowKit

/-- Which Stripes may be. -/
def SP.okNew (R : AM.Raw) (K N S f : Int) : Bool := mayI K N && (decide (1 ≤ S) && (decide (S ≤ 128) && (decide (0 ≤ f) && (decide ((R.C.length : Int) = N) && decide (f ≤ (R.n : Int) - 8 * S)))))
theorem SP.okNew_iff {R : AM.Raw} {K N S f : Int} : SP.okNew R K N S f = true ↔ (1 ≤ K ∧ K < N ∧ N ≤ 255) ∧ 1 ≤ S ∧ S ≤ 128 ∧ 0 ≤ f ∧ (R.C.length : Int) = N ∧ f ≤ (R.n : Int) - 8 * S := by
  unfold SP.okNew
  simp only [Bool.and_eq_true, decide_eq_true_eq, mayI_iff]
section
variable {F F' : Nat → Prop} {w w' : World} {s a : Nat} {g : SP.Geo} {R R' : AM.Raw}
set_option maxHeartbeats 6400000 in
theorem sfits_any (h : Is F w a R) {K N S f : Int} (hS : 1 ≤ S) (hS2 : S ≤ 128) :
    Calls Tryz.prog 92 #[ptr a, .agg #[.int .i64 K, .int .i64 N, .int .i64 S], .int .i64 f] w fun e w' => e = .returned (.bool (decide ((R.C.length : Int) = N) && decide (f ≤ (R.n : Int) - 8 * S))) ∧ w.grownBy w' none := by
  have hn2 := h.ok.n2
  obtain ⟨L, hL⟩ : ∃ L, L = R.C.length := ⟨_, rfl⟩
  obtain ⟨n, hn⟩ : ∃ n, n = R.n := ⟨_, rfl⟩
  have GA : Hid (w.grownBy (w.alloc (.cells #[.int .i64 K, .int .i64 N, .int .i64 S] 32)) none) := World.grownBy_alloc w _ none
  have Q1 : Hid (∀ w1, w.grownBy w1 none → Calls Tryz.prog 84 #[ptr a] w1 fun e w' => e = .returned (.int .i64 (L : Int)) ∧ w' = w1) := fun w1 g1 => by rw [hL]; exact disks_yes (h.keep g1)
  have Q2 : Hid (∀ w1, w.grownBy w1 none → Calls Tryz.prog 85 #[ptr a] w1 fun e w' => e = .returned (.int .i64 (n : Int)) ∧ w' = w1) := fun w1 g1 => by rw [hn]; exact sectors_yes (h.keep g1)
  rw [← hL, ← hn]
  have hw1 : IntKind.i64.wrap (8 * S) = 8 * S := IntWalk.i64_in _ (by omega)
  have hw2 : IntKind.i64.wrap ((n : Int) - 8 * S) = (n : Int) - 8 * S := IntWalk.i64_in _ (by omega)
  clear h hn2 hL hn hS hS2
  by_cases h1 : (L : Int) = N
  · have i1 : ((L : Int) == N) = true := by simp [h1]
    rw [decide_eq_true h1, Bool.true_and]
    clear h1
    go_enter Tryz.func92, Tryz.ntmps92
    go_wp2_with fail
    go_quiet ((first
      | (go_at_call 84; exact Calls.quiet_of_same (Q1.out _ (grown_trans GA.out (grown_drewN _ _))))
      | (go_at_call 85; exact Calls.quiet_of_same (Q2.out _ (grown_trans GA.out (grown_drewN _ _))))))
    go_wp2
    go_ret
    exact ⟨rfl, by first | exact grown_trans GA.out (grown_drewN _ _) | exact GA.out | exact gb_drew GA.out⟩
  · have i1 : ((L : Int) == N) = false := by simp [h1]
    rw [decide_eq_false h1, Bool.false_and]
    clear h1
    go_enter Tryz.func92, Tryz.ntmps92
    go_wp2_with fail
    go_quiet ((first
      | (go_at_call 84; exact Calls.quiet_of_same (Q1.out _ (grown_trans GA.out (grown_drewN _ _))))
      | (go_at_call 85; exact Calls.quiet_of_same (Q2.out _ (grown_trans GA.out (grown_drewN _ _))))))
    go_wp2
    go_ret
    exact ⟨rfl, by first | exact grown_trans GA.out (grown_drewN _ _) | exact GA.out | exact gb_drew GA.out⟩

set_option maxHeartbeats 6400000 in
theorem snew_yes (h : Is F w a R) (hg : g.Ok R) :
    Calls Tryz.prog 40 #[ptr a, geoV g, .int .i64 (g.f : Int)] w fun e w' => ∃ s, e = .returned (.tuple #[ptr s, .int .i64 0]) ∧ SI F w' s a g R ∧ w.heap.size ≤ s ∧ w.grownBy w' none := by
  have hk : mayI (g.k : Int) (g.n : Int) = true := mayI_iff.2 ⟨by have := hg.k1; omega, by have := hg.kn; omega, by have := hg.n255; omega⟩
  have i1 : ¬ (g.s : Int) < 1 := by have := hg.s1; omega
  have i2 : ¬ (128 : Int) < (g.s : Int) := by have := hg.s2; omega
  have i3 : ¬ (g.f : Int) < 0 := by omega
  have FI : Hid (∀ w', w.grownBy w' none → Calls Tryz.prog 92 #[ptr a, geoV g, .int .i64 (g.f : Int)] w' fun e w'' => e = .returned (.bool true) ∧ w'.grownBy w'' none) := fun w' g1 => by
    refine (sfits_any (h.keep g1) (K := (g.k : Int)) (N := (g.n : Int)) (S := (g.s : Int)) (f := (g.f : Int)) (by have := hg.s1; omega) (by have := hg.s2; omega)).mono ?_
    rintro e w'' ⟨rfl, g2⟩
    refine ⟨?_, g2⟩
    rw [decide_eq_true (show (R.C.length : Int) = (g.n : Int) by have := hg.len; omega), decide_eq_true (show (g.f : Int) ≤ (R.n : Int) - 8 * (g.s : Int) by have := hg.room; omega)]
    rfl
  have MA : Hid (∀ w', Calls Tryz.prog 91 #[.int .i64 (g.k : Int), .int .i64 (g.n : Int)] w' fun e w'' => e = .returned (.bool true) ∧ w'' = w') := fun w' => by
    have := codeMay_any (g.k : Int) (g.n : Int) w'
    rwa [hk] at this
  have H : Hid (Is F w a R ∧ g.Ok R) := ⟨h, hg⟩
  have GA : Hid (w.grownBy (w.alloc (.cells #[.int .i64 (g.k : Int), .int .i64 (g.n : Int), .int .i64 (g.s : Int)] 32)) none) := World.grownBy_alloc w _ none
  have GC : Hid (∀ w', (w.alloc (.cells #[.int .i64 (g.k : Int), .int .i64 (g.n : Int), .int .i64 (g.s : Int)] 32)).grownBy w' none → w'.cell? ⟨w.heap.size, 0, none⟩ = some (.int .i64 (g.k : Int)) ∧ w'.cell? ⟨w.heap.size, 1, none⟩ = some (.int .i64 (g.n : Int)) ∧ w'.cell? ⟨w.heap.size, 2, none⟩ = some (.int .i64 (g.s : Int))) := fun w' g1 => by
    have h0 := heap_alloc_new w (.cells #[.int .i64 (g.k : Int), .int .i64 (g.n : Int), .int .i64 (g.s : Int)] 32)
    exact ⟨g1.cell (cell_of_row _ _ 0 _ _ _ h0) (by simp), g1.cell (cell_of_row _ _ 1 _ _ _ h0) (by simp), g1.cell (cell_of_row _ _ 2 _ _ _ h0) (by simp)⟩
  clear h hg hk
  go_enter Tryz.func40, Tryz.ntmps40
  go_wp2_with (first
    | (go_at_call 91; refine (MA.out _).mono ?_; rintro e w9 ⟨rfl, hw9⟩; obtain rfl := hw9.symm; clear hw9)
    | (go_at_call 92; refine (FI.out _ GA.out).mono ?_; rintro e w2 ⟨rfl, g2⟩; have G2 : Hid (w.grownBy w2 none) := grown_trans GA.out g2; obtain ⟨hb1, hb2, hb3⟩ := GC.out w2 g2; clear g2))
  go_ret2
  have g3 := gb_alloc G2.out (.cells #[ptr a, .int .i64 (g.k : Int), .int .i64 (g.n : Int), .int .i64 (g.s : Int), .int .i64 (g.f : Int)] 86)
  exact ⟨_, rfl, ⟨H.out.1.keep g3, heap_alloc_new w2 _, fun hf => (by have h1 := H.out.1.lt _ hf; have h2 := G2.out.size; omega), H.out.2⟩, G2.out.size, g3⟩

end
end Go.Proofs.YtfjlpifaaknmpaaGreat

/- The contracts of slices.Clone at drives and at writes. -/
set_option linter.unusedSimpArgs false
set_option linter.unusedVariables false
set_option maxRecDepth 100000
namespace Go.Proofs.YtfjlpifaaknmpaaGreat
open Go.RowKit

theorem run_append_rows {w : World} {B : Nat} {t ty e : TypeId} {z : Value} {size bytes : Nat} (hu : Tryz.prog.underlying t = some (.slice e)) (hinfo : (Tryz.prog.info? e).map (fun i => (i.zero, i.size, i.bytes)) = some (some z, size, bytes)) (hzs : z.cells.size = size) (hsz : 0 < size)
    {v : Value} {n : Nat} {xs : List Value} (hown : w.ownsRow B e size v n xs) {a : Addr} {m c : Nat} {news : List Value} (hl : news.length = m * size) (hnews : ∀ j u, news[j]? = some u → w.cell? (a.add j) = some u) (h1 : ∀ u ∈ news, u.oneCell' = true)
    (h63 : n + m ≤ maxLen) (hbytes : (n + m) * bytes ≤ 140737488355328) (hB : B ≤ w.heap.size) :
    ∃ v' w', (Builtin.append_ #[t, t] ty #[v, .slice (some a) m c]).run Tryz.prog w = .ok v' w' ∧ w'.ownsRow B e size v' (n + m) (xs ++ news) ∧ w.grownBy w' v.ownBlock := by
  obtain ⟨i, hi, hz0, hz1, hz2⟩ := info_parts hinfo
  obtain ⟨v', w', hr, h2, h3, _⟩ := run_append_own (P := Tryz.prog) w B t ty e i z size bytes hu hi hz0 hz1 hz2 hzs hsz v n xs hown a m c news hl hnews h1 h63 hbytes hB
  exact ⟨v', w', hr, h2, h3⟩
theorem rows_slice {w : World} {B e size n : Nat} {v : Value} {xs : List Value} (h : w.ownsRow B e size v n xs) : ∃ p c, v = .slice p n c := by
  rcases h.2 with ⟨rfl, hn⟩ | ⟨g, cap, cur, rfl, _⟩
  · subst hn; exact ⟨_, _, rfl⟩
  · exact ⟨_, _, rfl⟩

end Go.Proofs.YtfjlpifaaknmpaaGreat

