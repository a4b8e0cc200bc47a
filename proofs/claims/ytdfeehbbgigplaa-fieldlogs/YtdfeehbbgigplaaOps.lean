/- Contracts of field.Log, Exp, Inv, Pow and Div. -/
import Derived.Test.YtdfeehbbgigplaaTab
import Derived.Deep.WholeRow
import Derived.Deep.QuietTactic
import Derived.BigQuiet
namespace Go.Proofs.Ytdfeehbbgigplaa
open Go.RowKit

theorem grown_trans {a b c : World} (h : Grown a b) (k : Grown b c) : Grown a c :=
  ⟨World.keptBut_trans h.1 k.1, fun x => (k.2.1 x).trans (h.2.1 x), Nat.le_trans h.2.2 k.2.2⟩

/-- A whole array into the last block but one. -/
theorem setRow_alloc_past (w : World) (c c' : Array Value) (t : TypeId) (B : Obj) : ((w.alloc (.cells c t)).alloc B).setRow w.heap.size c' = (w.alloc (.cells c' t)).alloc B := by
  simp only [World.setRow, World.alloc]
  congr 1
  apply Array.ext_getElem?
  intro i
  rw [Array.getElem?_modify]
  by_cases h : w.heap.size = i
  · subst h
    simp [Array.getElem?_push]
  · have h' : ¬ i = w.heap.size := fun e => h e.symm
    simp [h, h', Array.getElem?_push]

/-- A whole array into the last block of two new ones. -/
theorem setRow_alloc_last (w : World) (A : Obj) (c c' : Array Value) (t : TypeId) : ((w.alloc A).alloc (.cells c t)).setRow (w.heap.size + 1) c' = (w.alloc A).alloc (.cells c' t) := by
  have h := World.setRow_alloc_new (w.alloc A) c c' t
  rwa [World.size_alloc] at h

theorem mem_one {c : Array Value} (h : c.all (·.oneCell') = true) : ∀ v ∈ c.toList, v.oneCell' = true := by
  intro v hv
  exact (Array.all_eq_true_iff_forall_mem.1 h) v (by simpa using hv)

theorem store43 (w : World) (B : Obj) : (storeCells ⟨w.heap.size, 0, none⟩ (powTo 255).toList).run Try.prog ((w.alloc (.cells (powTo 0) 43)).alloc B) = .ok () ((w.alloc (.cells (powTo 255) 43)).alloc B) := by
  have := run_storeCells_from (P := Try.prog) w.heap.size 43 (powTo 255).toList 0 (powTo 0) ((w.alloc (.cells (powTo 0) 43)).alloc B) (heap_alloc2_old w _ _) (by simp [powTo_size]) (mem_one (powTo_one 255))
  simpa [setRow_alloc_past] using this

theorem store44 (w : World) (A : Obj) : (storeCells ⟨w.heap.size + 1, 0, none⟩ (logTo 255).toList).run Try.prog ((w.alloc A).alloc (.cells (logTo 0) 44)) = .ok () ((w.alloc A).alloc (.cells (logTo 255) 44)) := by
  have := run_storeCells_from (P := Try.prog) (w.heap.size + 1) 44 (logTo 255).toList 0 (logTo 0) ((w.alloc A).alloc (.cells (logTo 0) 44)) (heap_alloc2_new w _ _) (by simp [logTo_size]) (mem_one (logTo_one 255))
  simpa [setRow_alloc_last] using this

theorem log_get (n : Nat) (h : n < 256) : (logTo 255)[n]? = some (.int .u8 ((M.lg n : Nat) : Int)) := logTo_get 255 n h
theorem pow_get (n : Nat) (h : n < 255) : (powTo 255)[n]? = some (.int .u8 ((M.pw n : Nat) : Int)) := by rw [powTo_get 255 n h, if_pos h]

theorem log_zero (w : World) :
    Calls Try.prog 16 #[.int .u8 0] w fun e w' => e = .returned (.tuple #[.int .i64 0, .int .i64 1]) ∧ w' = w := by
  go_enter Try.func16, Try.ntmps16
  go_wp2
  go_ret2
  exact ⟨rfl, rfl⟩

set_option maxHeartbeats 800000 in
set_option maxRecDepth 100000 in
theorem log_any (x : Int) (w : World) (h0 : 0 < x) (h1 : x < 256) :
    Calls Try.prog 16 #[.int .u8 x] w fun e w' => e = .returned (.tuple #[.int .i64 ((M.lg x.toNat : Nat) : Int), .int .i64 0]) ∧ Grown w w' := by
  obtain ⟨n, rfl⟩ := Int.eq_ofNat_of_zero_le (Int.le_of_lt h0)
  have hg := log_get n (by omega)
  have hl := M.lg_lt n
  have z43 := zero43
  have z44 := zero44
  have s43 := store43
  have s44 := store44
  have p43 := powTo_size 255
  have p44 := logTo_size 255
  go_enter Try.func16, Try.ntmps16
  go_wp2_with (first | (go_at_call 22; refine (tables_any _).mono ?_; rintro e w1 ⟨rfl, hG⟩; have HG : Hid (Grown w w1) := hG; clear hG))
  go_ret2
  exact ⟨rfl, (HG.out.alloc _ _).alloc _ _⟩

set_option maxHeartbeats 800000 in
set_option maxRecDepth 100000 in
theorem exp_any (x : Int) (w : World) :
    Calls Try.prog 18 #[.int .i64 x] w fun e w' => e = .returned (.int .u8 ((M.pw (x % 255).toNat : Nat) : Int)) ∧ Grown w w' := by
  have hm : 0 ≤ x % 255 ∧ x % 255 < 255 := by omega
  obtain ⟨m, hm'⟩ := Int.eq_ofNat_of_zero_le hm.1
  have hr := fun w => round_any x w
  simp only [hm'] at hr hm ⊢
  have hg := pow_get m (by omega)
  have hb : (m : Int) < 255 := by omega
  clear hm hm'
  have z43 := zero43
  have z44 := zero44
  have s43 := store43
  have s44 := store44
  have p43 := powTo_size 255
  have p44 := logTo_size 255
  go_enter Try.func18, Try.ntmps18
  go_wp2_with (first | (go_at_call 22; refine (tables_any _).mono ?_; rintro e w1 ⟨rfl, hG⟩; have HG : Hid (Grown w w1) := hG; clear hG) | (go_at_call 23; refine (hr _).mono ?_; rintro e w1 ⟨rfl, rfl⟩))
  go_ret
  exact ⟨rfl, (HG.out.alloc _ _).alloc _ _⟩

theorem inv_zero (w : World) :
    Calls Try.prog 8 #[.int .u8 0] w fun e w' => e = .returned (.tuple #[.int .u8 0, .int .i64 1]) ∧ w' = w := by
  go_enter Try.func8, Try.ntmps8
  go_wp2
  go_ret2
  exact ⟨rfl, rfl⟩

set_option maxHeartbeats 800000 in
set_option maxRecDepth 100000 in
theorem inv_any (x : Int) (w : World) (h0 : 0 < x) (h1 : x < 256) :
    Calls Try.prog 8 #[.int .u8 x] w fun e w' => e = .returned (.tuple #[.int .u8 ((M.inv x.toNat : Nat) : Int), .int .i64 0]) ∧ Grown w w' := by
  obtain ⟨n, rfl⟩ := Int.eq_ofNat_of_zero_le (Int.le_of_lt h0)
  have hg := log_get n (by omega)
  have hl := M.lg_lt n
  have hr : ∀ w, Calls Try.prog 23 #[.int .i64 (-((M.lg n : Nat) : Int))] w fun e w' => e = .returned (.int .i64 (((255 - M.lg n) % 255 : Nat) : Int)) ∧ w' = w := fun w =>
    (round_any _ w).mono fun e w' ⟨h, k⟩ => ⟨by rw [h]; exact ret_int (by omega), k⟩
  have hg2 := pow_get ((255 - M.lg n) % 255) (by omega)
  have hb : (((255 - M.lg n) % 255 : Nat) : Int) < 255 := by omega
  generalize hq : (255 - M.lg n) % 255 = q at hr hg2 hb
  have HQ : Hid ((255 - M.lg n) % 255 = q) := hq
  clear hq
  have z43 := zero43
  have z44 := zero44
  have s43 := store43
  have s44 := store44
  have p43 := powTo_size 255
  have p44 := logTo_size 255
  go_enter Try.func8, Try.ntmps8
  go_wp2_with (first | (go_at_call 22; refine (tables_any _).mono ?_; rintro e w1 ⟨rfl, hG⟩; have HG : Hid (Grown w w1) := hG; clear hG) | (go_at_call 23; refine (hr _).mono ?_; rintro e w1 ⟨rfl, rfl⟩))
  go_ret2
  exact ⟨by rw [← HQ.out]; rfl, (HG.out.alloc _ _).alloc _ _⟩

theorem pow_n0 (x : Int) (w : World) :
    Calls Try.prog 20 #[.int .u8 x, .int .i64 0] w fun e w' => e = .returned (.int .u8 1) ∧ w' = w := by
  go_enter Try.func20, Try.ntmps20
  go_wp2
  go_ret
  exact ⟨rfl, rfl⟩

theorem pow_a0 (n : Int) (w : World) (h : (n == 0) = false) :
    Calls Try.prog 20 #[.int .u8 0, .int .i64 n] w fun e w' => e = .returned (.int .u8 0) ∧ w' = w := by
  go_enter Try.func20, Try.ntmps20
  go_wp2
  go_ret
  exact ⟨rfl, rfl⟩

set_option maxHeartbeats 1600000 in
set_option maxRecDepth 100000 in
theorem pow_any (x n : Int) (w : World) (h0 : 0 < x) (h1 : x < 256) (hn : (n == 0) = false) :
    Calls Try.prog 20 #[.int .u8 x, .int .i64 n] w fun e w' => e = .returned (.int .u8 ((M.pw (M.lg x.toNat * (n % 255).toNat % 255) : Nat) : Int)) ∧ Grown w w' := by
  obtain ⟨a, rfl⟩ := Int.eq_ofNat_of_zero_le (Int.le_of_lt h0)
  have hg := log_get a (by omega)
  have hl := M.lg_lt a
  have hr1 : ∃ m : Nat, n % 255 = (m : Int) ∧ m < 255 := ⟨(n % 255).toNat, by omega, by omega⟩
  obtain ⟨m, hm, hm'⟩ := hr1
  have hp1 : (0 : Int) ≤ ((M.lg a : Nat) : Int) * (m : Int) := Int.mul_nonneg (by omega) (by omega)
  have hp2 : ((M.lg a : Nat) : Int) * (m : Int) ≤ 64770 := by
    have : M.lg a * m ≤ 254 * 255 := Nat.mul_le_mul (by omega) (by omega)
    have h2 : ((M.lg a : Nat) : Int) * (m : Int) = ((M.lg a * m : Nat) : Int) := by simp
    rw [h2]; omega
  have hg2 := pow_get (M.lg a * m % 255) (by omega)
  have hb : ((M.lg a * m % 255 : Nat) : Int) < 255 := by omega
  rw [hm]
  have hq' : ((M.lg a : Nat) : Int) * (m : Int) % 255 = ((M.lg a * m % 255 : Nat) : Int) := by simp
  generalize hq : M.lg a * m % 255 = q at hq' hg2 hb
  have HQ : Hid (M.lg a * m % 255 = q) := hq
  clear hq hm'
  have z43 := zero43
  have z44 := zero44
  have s43 := store43
  have s44 := store44
  have p43 := powTo_size 255
  have p44 := logTo_size 255
  go_enter Try.func20, Try.ntmps20
  go_wp2_with (first | (go_at_call 22; refine (tables_any _).mono ?_; rintro e w1 ⟨rfl, hG⟩; have HG : Hid (Grown w w1) := hG; clear hG))
  go_quiet ((go_at_call 23; exact Calls.quiet_of_same (round_any _ _)))
  go_wp2
  go_ret
  refine ⟨ret_int ?_, ?_⟩
  · rw [← HQ.out]; rfl
  · exact ((HG.out.alloc _ _).alloc _ _ : Grown w ((w1.alloc _).alloc _))

theorem div_zero (x : Int) (w : World) :
    Calls Try.prog 10 #[.int .u8 x, .int .u8 0] w fun e w' => e = .returned (.tuple #[.int .u8 0, .int .i64 1]) ∧ w' = w := by
  go_enter Try.func10, Try.ntmps10
  go_wp2_with (first | (go_at_call 8; refine (inv_zero _).mono ?_; rintro e w1 ⟨rfl, rfl⟩))
  go_ret2
  exact ⟨rfl, rfl⟩

set_option maxHeartbeats 800000 in
theorem div_any (x y : Int) (w : World) (h0 : 0 ≤ x) (h1 : x < 256) (h2 : 0 < y) (h3 : y < 256) :
    Calls Try.prog 10 #[.int .u8 x, .int .u8 y] w fun e w' => e = .returned (.tuple #[.int .u8 ((M.mul x.toNat (M.inv y.toNat) : Nat) : Int), .int .i64 0]) ∧ Grown w w' := by
  have hi := M.inv_lt y.toNat
  go_enter Try.func10, Try.ntmps10
  go_wp2_with (first | (go_at_call 8; refine (inv_any _ _ h2 h3).mono ?_; rintro e w1 ⟨rfl, hG⟩; have HG : Hid (Grown w w1) := hG; clear hG) | (go_at_call 14; refine (mul_any _ _ _ h0 h1 (by omega) (by omega)).mono ?_; rintro e w1 ⟨rfl, rfl⟩))
  go_ret2
  exact ⟨rfl, HG.out⟩

end Go.Proofs.Ytdfeehbbgigplaa
