/- The contract of code.products: the array of a number's products with all numbers. -/
import Derived.Test.YtdeajclghlbhcaaInvF
import Derived.Test.YtdeajclghlbhcaaMatMath
import Derived.Test.YtdeajclghlbhcaaRefMul
namespace Go.Proofs.Ytdeajclghlbhcaa
open Go.RowKit

/-- The array of the products of c, behind the first k. -/
def prodTo (c k : Nat) : Array Value := Array.ofFn (n := 256) fun i => .int .u8 ((if i.1 < k then M.mul c i.1 else 0 : Nat) : Int)
theorem prodTo_size (c k : Nat) : (prodTo c k).size = 256 := by simp [prodTo]
theorem prodTo_get (c k i : Nat) (h : i < 256) : (prodTo c k)[i]? = some (.int .u8 ((if i < k then M.mul c i else 0 : Nat) : Int)) := by simp [prodTo, h]
theorem prodTo_succ (c k : Nat) : (prodTo c k).setIfInBounds k (.int .u8 ((M.mul c k : Nat) : Int)) = prodTo c (k + 1) := by
  apply Array.ext_getElem?
  intro i
  by_cases h : i < 256
  · rw [prodTo_get _ _ _ h, Array.getElem?_setIfInBounds]
    by_cases hk : k = i
    · subst hk; simp [prodTo_size, h]
    · rw [if_neg hk, prodTo_get _ _ _ h]
      have : (i < k + 1) = (i < k) := by apply propext; omega
      simp [this]
  · have h1 : ((prodTo c k).setIfInBounds k (.int .u8 ((M.mul c k : Nat) : Int)))[i]? = none := by simp [prodTo_size]; omega
    have h2 : (prodTo c (k + 1))[i]? = none := by simp [prodTo_size]; omega
    rw [h1, h2]
theorem prodTo_zero (c : Nat) : logTo 0 = prodTo c 1 := by
  apply Array.ext_getElem?
  intro i
  by_cases h : i < 256
  · rw [prodTo_get _ _ _ h, logTo_get _ _ h]
    by_cases e : i = 0
    · subst e; simp [M.lgTo, M.mul_zero]
    · rw [if_neg (by omega)]; rfl
  · have h1 : (logTo 0)[i]? = none := by simp [logTo_size]; omega
    have h2 : (prodTo c 1)[i]? = none := by simp [prodTo_size]; omega
    rw [h1, h2]
theorem prodTo_one (c k : Nat) : (prodTo c k).all (·.oneCell') = true := by
  rw [Array.all_eq_true_iff_forall_mem]
  intro v hv
  obtain ⟨i, _, rfl⟩ := Array.mem_ofFn.1 hv
  rfl
theorem infoP (c k : Nat) : (Try.prog.info? 84).map (·.size) = some (prodTo c k).size := by rw [prodTo_size]; kernel_rfl
theorem bit_or : ∀ p, p < 8 → ∀ b, b < 2 ^ p → 2 ^ p ^^^ b = 2 ^ p + b := by decide
theorem bit_le : ∀ p, p < 8 → 2 ^ p ≤ 128 := by decide

set_option maxHeartbeats 800000 in
set_option maxRecDepth 100000 in
theorem products_any (c : Nat) (w : World) (hc : c < 256) :
    Calls Try.prog 53 #[.int .u8 (c : Int)] w fun e w' => e = .returned (.agg (prodTo c 256)) ∧ w.grownBy w' none := by
  have z44 := zero44
  go_enter Try.func53, Try.ntmps53
  go_wp2
  clear z44
  go_loopw [7] (fun ti wr => ∃ p : Nat, p ≤ 8 ∧ ti = .int .i64 p ∧ wr.heap[w.heap.size]? = some (.cells (prodTo c (2 ^ p)) 84 (0, 0)) ∧ w.grownBy wr none) (fun ti _ => 8 - (intOf ti).toNat)
  case atStart =>
    refine ⟨0, by omega, rfl, ?_, gb_alloc (World.grownBy.refl _ _) _⟩
    rw [show prodTo c (2 ^ 0) = logTo 0 from (prodTo_zero c).symm]
    exact heap_alloc_new w _
  case round =>
    obtain ⟨p, hp, rfl, hm, hG⟩ := hrel
    obtain ⟨wa, hwa⟩ : ∃ wa, wa = wr := ⟨wr, rfl⟩
    subst hwa
    have HM : Hid (wa.heap[w.heap.size]? = some (.cells (prodTo c (2 ^ p)) 84 (0, 0))) := hm
    have HG : Hid (w.grownBy wa none) := hG
    clear hm hG
    by_cases hlt : p < 8
    · have hb := bit_le p hlt
      have hpos : 0 < 2 ^ p := Nat.two_pow_pos p
      have HB : Hid (∀ b, b < 2 ^ p → 2 ^ p ^^^ b = 2 ^ p + b) := bit_or p hlt
      have HS : Hid (2 ^ (p + 1) = 2 ^ p + 2 ^ p) := by show _ = _; rw [Nat.pow_succ]; omega
      have hcast : ((2 : Int) ^ p) = ((2 ^ p : Nat) : Int) := by simp
      have hw : wrap64 ((2 : Int) ^ p) = ((2 ^ p : Nat) : Int) := by rw [hcast]; exact wrap_small _ (by omega) (by omega)
      clear hcast
      generalize 2 ^ p = Q at *
      have HMUL : Hid (∀ w, Calls Try.prog 25 #[.int .u8 (c : Int), .int .u8 (Q : Int)] w fun e w' => e = .returned (.int .u8 ((M.mul c Q : Nat) : Int)) ∧ w' = w) := fun w =>
        (mul_any _ _ w (by omega) (by omega) (by omega) (by omega)).mono fun e w' ⟨h, k⟩ => ⟨h, k⟩
      have hpc : M.mul c Q < 256 := M.mul_lt _ hc
      have HPC : Hid (∀ b, b < Q → M.mul c Q ^^^ M.mul c b = M.mul c (Q + b)) := fun b hb' => by rw [← HB.out b hb', MX.mul_xor_right hc (by omega) (by omega)]
      generalize hPC : M.mul c Q = PC at *
      clear HB hPC
      go_wp2_with (go_at_call 25; refine (HMUL.out _).mono ?_; rintro e w1 ⟨rfl, hw1⟩; obtain rfl := hw1.symm; clear hw1)
      clear HMUL hw
      go_loopw [17] (fun ti wr => ∃ b : Nat, b ≤ Q ∧ ti = .int .i64 b ∧ Hid (wr.heap[w.heap.size]? = some (.cells (prodTo c (Q + b)) 84 (0, 0))) ∧ Hid (w.grownBy wr none)) (fun ti _ => Q - (intOf ti).toNat)
      case atStart =>
        refine ⟨0, by omega, rfl, ?_, ?_⟩
        · rw [Nat.add_zero]; exact HM
        · exact HG
      case round =>
        clear HM HG
        obtain ⟨b, hbQ, rfl, HM, HG⟩ := hrel
        by_cases hbl : b < Q
        · have i1 : (b : Int) < (Q : Int) := by omega
          have i2 : (Q : Int) + (b : Int) < 256 := by omega
          have hwr : wrap64 ((Q : Int) + (b : Int)) = ((Q + b : Nat) : Int) := by rw [← Int.natCast_add]; exact wrap_small _ (by omega) (by omega)
          have mb : M.mul c b < 256 := M.mul_lt _ hc
          have hc1 : wr.cell? ⟨w.heap.size, b, none⟩ = some (.int .u8 ((M.mul c b : Nat) : Int)) := by rw [cell_of_row _ _ _ _ _ _ HM.out, prodTo_get _ _ _ (by omega), if_pos (by omega)]
          have hc2 : wr.cell? ⟨w.heap.size, Q + b, none⟩ = some (.int .u8 ((0 : Nat) : Int)) := by rw [cell_of_row _ _ _ _ _ _ HM.out, prodTo_get _ _ _ (by omega), if_neg (by omega)]
          have hf2 : wr.frozen? ⟨w.heap.size, Q + b, none⟩ = false := frozen_of_row _ _ _ _ _ HM.out
          have HADD : Hid (∀ w, Calls Try.prog 43 #[.int .u8 (PC : Int), .int .u8 ((M.mul c b : Nat) : Int)] w fun e w' => e = .returned (.int .u8 ((M.mul c (Q + b) : Nat) : Int)) ∧ w' = w) := fun w =>
            (add_any _ _ w (by omega) (by omega) (by omega) (by omega)).mono fun e w' ⟨h, k⟩ => ⟨by rw [h]; exact ret_int (by rw [← HPC.out b hbl]; rfl), k⟩
          have HN : Hid ((wr.setCell ⟨w.heap.size, Q + b, none⟩ (.int .u8 ((M.mul c (Q + b) : Nat) : Int))).heap[w.heap.size]? = some (.cells (prodTo c (Q + (b + 1))) 84 (0, 0))) := by
            show _ = _
            rw [heap_setCell_same _ _ _ _ _ _ HM.out, prodTo_succ, Nat.add_assoc]
          have HGN : Hid (w.grownBy (wr.setCell ⟨w.heap.size, Q + b, none⟩ (.int .u8 ((M.mul c (Q + b) : Nat) : Int))) none) := gb_setCell HG.out (by simp) _
          generalize M.mul c (Q + b) = PQ at *
          generalize M.mul c b = PB at *
          clear HM HG
          go_wp2_with (go_at_call 43; refine (HADD.out _).mono ?_; rintro e w1 ⟨rfl, hw1⟩; obtain rfl := hw1.symm; clear hw1)
          go_roundw
          case rel => exact ⟨b + 1, by omega, by go_num, HN, HGN⟩
          case measure => simp [intOf]; omega
        · obtain rfl : b = Q := by omega
          have HM' := HM.out
          rw [← HS.out] at HM'
          have HMM : Hid (wr.heap[w.heap.size]? = some (.cells (prodTo c (2 ^ (p + 1))) 84 (0, 0))) := HM'
          clear HM' HM
          go_wp2
          go_roundw
          case rel => exact ⟨p + 1, by omega, by go_num, HMM.out, HG.out⟩
          case measure => simp [intOf]; omega
    · obtain rfl : p = 8 := by omega
      have hp' : wa.heap[w.heap.size]? = some (.cells (prodTo c 256) 84 (0, 0)) := HM.out
      clear HM
      have HG' : Hid (w.grownBy wa none) := HG
      clear HG
      go_wp2
      refine wp_load_row 84 (.tmp 2) rfl w.heap.size rfl 84 (prodTo c 256) (0, 0) _ hp' Try.underlying84 rfl (infoP c 256) ?_
      have s44 : (storeCells ⟨w.heap.size, 0, none⟩ (prodTo c 256).toList).run Try.prog wa = .ok () wa := by
        have := run_storeCells_from (P := Try.prog) w.heap.size 84 (prodTo c 256).toList 0 (prodTo c 256) wa hp' (by simp [prodTo_size]) (mem_one (prodTo_one c 256))
        simpa [setRow_self wa w.heap.size (prodTo c 256) 84 (0, 0) hp'] using this
      have p44 := prodTo_size c 256
      have HP : Hid (wa.heap[w.heap.size]? = some (.cells (prodTo c 256) 84 (0, 0))) := hp'
      have HI : Hid ((Try.prog.info? 84).map (·.size) = some (prodTo c 256).size) := infoP c 256
      obtain ⟨AR, hAR⟩ : ∃ AR, AR = prodTo c 256 := ⟨_, rfl⟩
      rw [← hAR] at hp' s44 p44 HP HI
      rw [← hAR]
      have HAR : Hid (AR = prodTo c 256) := hAR
      clear hp' hAR
      go_wp2
      exact bodyPost_ret (results_cell_row rfl _ wa w.heap.size 84 AR (0, 0) _ rfl HP.out Try.underlying84 rfl HI.out) rfl ⟨by rw [HAR.out], HG'.out⟩
end Go.Proofs.Ytdeajclghlbhcaa
