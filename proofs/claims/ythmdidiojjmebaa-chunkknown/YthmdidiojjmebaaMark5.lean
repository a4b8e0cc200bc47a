/- Contracts of stamp.marked and stamp.stampOf. -/
import Derived.Test.YthmdidiojjmebaaRow5
import Derived.Test.YthmdidiojjmebaaSMath
import Derived.Laws.BitsAllLaws
namespace Go.Proofs.Ythmdidiojjmebaa
open Go.RowKit

/-- The array of the bytes behind j rounds: the lowest j of them. -/
def markTo (n j : Nat) : List Nat := (List.range 8).map fun i => if 8 - j ≤ i then n / 256 ^ (7 - i) % 256 else 0
theorem markTo_len (n j : Nat) : (markTo n j).length = 8 := by simp [markTo]
theorem markTo_zero (n : Nat) : markTo n 0 = SM.z 8 := by
  simp only [markTo, SM.z]
  rw [List.eq_replicate_iff]
  refine ⟨by simp, fun b hb => ?_⟩
  obtain ⟨i, hi, rfl⟩ := List.mem_map.1 hb
  rw [if_neg (by have := List.mem_range.1 hi; omega)]
theorem markTo_all (n : Nat) : markTo n 8 = SM.mk n := by simp [markTo, SM.mk]
theorem markTo_set (n j : Nat) (h : j < 8) : (markTo n j).set (7 - j) (n / 256 ^ j % 256) = markTo n (j + 1) := by
  apply SM.ext_getD (by simp [markTo])
  intro i hi
  have hi' : i < 8 := by simpa [markTo] using hi
  by_cases e : 7 - j = i
  · subst e
    have e2 : 7 - (7 - j) = j := by omega
    simp [markTo, List.getD, hi', e2]
    omega
  · have e3 : (7 ≤ i + j) = (8 ≤ i + j) := by apply propext; omega
    simp [markTo, List.getD, hi', e, e3]

theorem pow_256 (j : Nat) : 2 ^ (8 * j) = 256 ^ j := by rw [Nat.pow_mul]
theorem byte_cast (n j : Nat) : ((n : Int) / 2 ^ (8 * j) % 256) = ((n / 256 ^ j % 256 : Nat) : Int) := by
  rw [← pow_256]; simp
theorem wrap_u64 {x : Nat} (h : x < 18446744073709551616) : IntKind.u64.wrap (x : Int) = (x : Int) := by
  simp [IntKind.wrap, IntKind.signed, IntKind.bits]
  omega
theorem or_bytes {v y : Nat} (hv : v < 72057594037927936) (hy : y < 256) : bits .or .u64 ((v : Int) * 256) (y : Int) = ((256 * v + y : Nat) : Int) := by
  have e : (v : Int) * 256 = ((256 * v : Nat) : Int) := by omega
  rw [e, u64_or_nat _ _ (by omega) (by omega)]
  have := Nat.two_pow_add_eq_or_of_lt (i := 8) hy v
  rw [show 2 ^ 8 = 256 by rfl] at this
  rw [this]

theorem zeroM (w : World) : (zeroValue 54).run Try.prog w = .ok (.agg (rowOf (SM.z 8))) w := by
  have h : (Try.prog.info? 54).map (fun i => (i.zero, i.size)) = some (some (.agg (rowOf (SM.z 8))), 8) := by kernel_rfl
  cases hq : Try.prog.info? 54 with
  | none => simp [hq] at h
  | some i => simp [hq] at h; simp [zeroValue, typeInfo, hq, h.1]
theorem infoM {xs : List Nat} (h : xs.length = 8) : (Try.prog.info? 54).map (·.size) = some (rowOf xs).size := by rw [rowOf_size, h]; kernel_rfl

set_option maxHeartbeats 800000 in
theorem marked_any (n : Nat) (w : World) :
    Calls Try.prog 24 #[.int .u64 (n : Int)] w fun e w' => e = .returned (.agg (rowOf (SM.mk n))) ∧ w.grownBy w' none := by
  have zM := zeroM
  go_enter Try.func24, Try.ntmps24
  go_wp2
  clear zM
  go_loopw [4] (fun ti wr => ∃ j : Nat, j ≤ 8 ∧ ti = .int .i64 j ∧ Hid (wr.heap[w.heap.size]? = some (.cells (rowOf (markTo n j)) 54 (0, 0))) ∧ Hid (w.grownBy wr none)) (fun ti _ => 8 - (intOf ti).toNat)
  case atStart =>
    refine ⟨0, by omega, rfl, ?_, gb_alloc (World.grownBy.refl _ _) _⟩
    rw [markTo_zero]
    exact heap_alloc_new w _
  case round =>
    obtain ⟨j, hj, rfl, HM, HG⟩ := hrel
    by_cases hlt : j < 8
    · have i1 : (j : Int) < 8 := by omega
      have hc : wr.cell? ⟨w.heap.size, 7 - j, none⟩ = some (.int .u8 (((markTo n j).getD (7 - j) 0 : Nat) : Int)) := by rw [cell_of_row _ _ _ _ _ _ HM.out, rowOf_get _ (by rw [markTo_len]; omega)]
      have hf : wr.frozen? ⟨w.heap.size, 7 - j, none⟩ = false := frozen_of_row _ _ _ _ _ HM.out
      have HP : Hid ((wr.setCell ⟨w.heap.size, 7 - j, none⟩ (.int .u8 ((n / 256 ^ j % 256 : Nat) : Int))).heap[w.heap.size]? = some (.cells (rowOf (markTo n (j + 1))) 54 (0, 0))) := by
        show _ = _
        rw [heap_setCell_same _ _ _ _ _ _ HM.out, rowOf_set, markTo_set n j hlt]
      have HGN : Hid (w.grownBy (wr.setCell ⟨w.heap.size, 7 - j, none⟩ (.int .u8 ((n / 256 ^ j % 256 : Nat) : Int))) none) := gb_setCell HG.out (by simp) _
      rw [← byte_cast] at HP HGN
      clear HM HG
      go_wp2
      go_roundw
      case rel => exact ⟨j + 1, by omega, by go_num, HP, HGN⟩
      case measure => simp [intOf]; omega
    · have i1 : ¬ (j : Int) < 8 := by omega
      have HM' : wr.heap[w.heap.size]? = some (.cells (rowOf (SM.mk n)) 54 (0, 0)) := by
        have e : j = 8 := by omega
        rw [← markTo_all, ← e]; exact HM.out
      clear HM
      have HI : Hid ((Try.prog.info? 54).map (·.size) = some (rowOf (SM.mk n)).size) := infoM (SM.mk_len n)
      have HP : Hid (wr.heap[w.heap.size]? = some (.cells (rowOf (SM.mk n)) 54 (0, 0))) := HM'
      have H1 : Hid ((rowOf (SM.mk n)).all (·.oneCell') = true) := rowOf_one _
      have HSR : Hid (wr.setRow w.heap.size (rowOf (SM.mk n)) = wr) := setRow_self wr w.heap.size _ _ _ HM'
      clear HM'
      obtain ⟨AR, hAR⟩ : ∃ AR, AR = rowOf (SM.mk n) := ⟨_, rfl⟩
      rw [← hAR] at HI HP H1 HSR
      have HAR : Hid (AR = rowOf (SM.mk n)) := hAR
      clear hAR
      go_wp2_with (first
        | refine wpList_load_row rfl 54 (.tmp 2) rfl w.heap.size rfl 54 AR (0, 0) _ HP.out Try.underlying54 rfl HI.out ?_
        | (refine wpList_store_row rfl 54 (.tmp 2) (.tmp 16) rfl w.heap.size AR rfl rfl 54 AR HP.out HI.out rfl H1.out ?_; rw [HSR.out]))
      exact bodyPost_ret (results_cell_row rfl _ _ w.heap.size 54 AR (0, 0) _ rfl HP.out Try.underlying54 rfl HI.out) rfl ⟨by rw [HAR.out], HG.out⟩

set_option maxHeartbeats 800000 in
theorem stampOf_any {w : World} {v : Value} {xs : List Nat} (hv : Vec w v xs) (h8 : 8 ≤ xs.length) :
    Calls Try.prog 25 #[v] w fun e w' => e = .returned (.int .u64 ((SM.val xs 8 : Nat) : Int)) ∧ w' = w := by
  obtain ⟨q, N, cap, rfl, hN⟩ := hv.opened
  obtain ⟨b, off, rfl, _⟩ := hv.spot (k := 0) (by omega)
  have hcap : N ≤ cap := by
    obtain ⟨p', cap', e, h3, _⟩ := hv.form
    injection e with e1 e2 e3
    omega
  have hN8 : 8 ≤ N := by omega
  have HV : Hid (Vec w (.slice (some ⟨b, off, none⟩) N cap) xs) := hv
  have HS : Hid (∀ x ∈ xs, x < 256) := hv.small
  clear hv hN
  go_enter Try.func25, Try.ntmps25
  go_wp2
  go_loop [3, 9] (fun ts ti => ∃ k : Nat, k ≤ 8 ∧ ti = .int .i64 k ∧ ts = .int .u64 ((SM.val xs k : Nat) : Int)) (fun _ ti => 8 - (intOf ti).toNat)
  case atStart => exact ⟨0, by omega, rfl, rfl⟩
  case round =>
    obtain ⟨k, hk, rfl, rfl⟩ := hrel
    by_cases hlt : k < 8
    · have i1 : (k : Int) < 8 := by omega
      obtain ⟨b', off', e, hc, h256⟩ := HV.out.spot (k := k) (by omega)
      injection e with e
      injection e with e1 e2
      subst e1
      subst e2
      have h7 : SM.val xs k < 72057594037927936 := by
        have h1 := SM.val_lt HS.out k
        have h2 : 256 ^ k ≤ 256 ^ 7 := Nat.pow_le_pow_right (by decide) (by omega)
        have h3 : 256 ^ 7 = 72057594037927936 := by decide
        omega
      have HOR : Hid (bits .or .u64 (((SM.val xs k : Nat) : Int) * 256) ((xs.getD k 0 : Nat) : Int) = ((SM.val xs (k + 1) : Nat) : Int)) := or_bytes h7 h256
      generalize xs.getD k 0 = y at *
      go_wp2
      go_round
      case rel => exact ⟨k + 1, by omega, by go_num, by rw [HOR.out]⟩
      case measure => simp [intOf]; omega
    · have i1 : ¬ (k : Int) < 8 := by omega
      have HE : Hid (SM.val xs k = SM.val xs 8) := by
        have e : k = 8 := by omega
        show _ = _
        rw [e]
      go_wp2
      go_ret
      exact ⟨by rw [HE.out]; rfl, rfl⟩
end Go.Proofs.Ythmdidiojjmebaa
