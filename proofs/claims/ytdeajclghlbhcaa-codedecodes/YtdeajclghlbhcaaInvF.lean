/- The contract of field.Inv. -/
import Derived.Test.YtdeajclghlbhcaaTab
import Derived.Deep.WholeRow
import Derived.Deep.QuietTactic
import Derived.BigQuiet
namespace Go.Proofs.Ytdeajclghlbhcaa
open Go.RowKit

/-- A whole array into the last block but one. -/
theorem setRow_alloc_past (w : World) (c c' : Array Value) (t : TypeId) (B : Obj) : ((w.alloc (.cells c t)).alloc B).setRow w.heap.size c' = (w.alloc (.cells c' t)).alloc B := by
  simp only [World.setRow, World.alloc]
  congr 1
  apply Array.ext_getElem?
  intro i
  rw [Array.getElem?_modify]
  by_cases h : w.heap.size = i
  · subst h
    simp [Array.getElem?_push]
  · have h' : ¬ i = w.heap.size := fun e => h e.symm
    simp [h, h', Array.getElem?_push]

/-- A whole array into the last block of two new ones. -/
theorem setRow_alloc_last (w : World) (A : Obj) (c c' : Array Value) (t : TypeId) : ((w.alloc A).alloc (.cells c t)).setRow (w.heap.size + 1) c' = (w.alloc A).alloc (.cells c' t) := by
  have h := World.setRow_alloc_new (w.alloc A) c c' t
  rwa [World.size_alloc] at h

theorem mem_one {c : Array Value} (h : c.all (·.oneCell') = true) : ∀ v ∈ c.toList, v.oneCell' = true := by
  intro v hv
  exact (Array.all_eq_true_iff_forall_mem.1 h) v (by simpa using hv)

theorem store43 (w : World) (B : Obj) : (storeCells ⟨w.heap.size, 0, none⟩ (powTo 255).toList).run Try.prog ((w.alloc (.cells (powTo 0) 83)).alloc B) = .ok () ((w.alloc (.cells (powTo 255) 83)).alloc B) := by
  have := run_storeCells_from (P := Try.prog) w.heap.size 83 (powTo 255).toList 0 (powTo 0) ((w.alloc (.cells (powTo 0) 83)).alloc B) (heap_alloc2_old w _ _) (by simp [powTo_size]) (mem_one (powTo_one 255))
  simpa [setRow_alloc_past] using this

theorem store44 (w : World) (A : Obj) : (storeCells ⟨w.heap.size + 1, 0, none⟩ (logTo 255).toList).run Try.prog ((w.alloc A).alloc (.cells (logTo 0) 84)) = .ok () ((w.alloc A).alloc (.cells (logTo 255) 84)) := by
  have := run_storeCells_from (P := Try.prog) (w.heap.size + 1) 84 (logTo 255).toList 0 (logTo 0) ((w.alloc A).alloc (.cells (logTo 0) 84)) (heap_alloc2_new w _ _) (by simp [logTo_size]) (mem_one (logTo_one 255))
  simpa [setRow_alloc_last] using this

theorem log_get (n : Nat) (h : n < 256) : (logTo 255)[n]? = some (.int .u8 ((M.lg n : Nat) : Int)) := logTo_get 255 n h
theorem pow_get (n : Nat) (h : n < 255) : (powTo 255)[n]? = some (.int .u8 ((M.pw n : Nat) : Int)) := by rw [powTo_get 255 n h, if_pos h]

theorem inv_zero (w : World) :
    Calls Try.prog 42 #[.int .u8 0] w fun e w' => e = .returned (.tuple #[.int .u8 0, .int .i64 1]) ∧ w' = w := by
  go_enter Try.func42, Try.ntmps42
  go_wp2
  go_ret2
  exact ⟨rfl, rfl⟩

set_option maxHeartbeats 800000 in
set_option maxRecDepth 100000 in
theorem inv_any (x : Int) (w : World) (h0 : 0 < x) (h1 : x < 256) :
    Calls Try.prog 42 #[.int .u8 x] w fun e w' => e = .returned (.tuple #[.int .u8 ((M.inv x.toNat : Nat) : Int), .int .i64 0]) ∧ w.grownBy w' none := by
  obtain ⟨n, rfl⟩ := Int.eq_ofNat_of_zero_le (Int.le_of_lt h0)
  have hg := log_get n (by omega)
  have hl := M.lg_lt n
  have hr : ∀ w, Calls Try.prog 52 #[.int .i64 (-((M.lg n : Nat) : Int))] w fun e w' => e = .returned (.int .i64 (((255 - M.lg n) % 255 : Nat) : Int)) ∧ w' = w := fun w =>
    (round_any _ w).mono fun e w' ⟨h, k⟩ => ⟨by rw [h]; exact ret_int (by omega), k⟩
  have hg2 := pow_get ((255 - M.lg n) % 255) (by omega)
  have hb : (((255 - M.lg n) % 255 : Nat) : Int) < 255 := by omega
  generalize hq : (255 - M.lg n) % 255 = q at hr hg2 hb
  have HQ : Hid ((255 - M.lg n) % 255 = q) := hq
  clear hq
  have z43 := zero43
  have z44 := zero44
  have s43 := store43
  have s44 := store44
  have p43 := powTo_size 255
  have p44 := logTo_size 255
  go_enter Try.func42, Try.ntmps42
  go_wp2_with (first | (go_at_call 51; refine (tables_any _).mono ?_; rintro e w1 ⟨rfl, hG⟩; have HG : Hid (w.grownBy w1 none) := hG; clear hG) | (go_at_call 52; refine (hr _).mono ?_; rintro e w1 ⟨rfl, rfl⟩))
  go_ret2
  exact ⟨by rw [← HQ.out]; rfl, gb_alloc (gb_alloc HG.out _) _⟩

/-- Inv of whatever number. -/
theorem inv_all (x : Nat) (w : World) (h1 : x < 256) :
    Calls Try.prog 42 #[.int .u8 (x : Int)] w fun e w' => e = .returned (.tuple #[.int .u8 ((if x = 0 then 0 else M.inv x : Nat) : Int), .int .i64 (if x = 0 then 1 else 0)]) ∧ w.grownBy w' none := by
  by_cases h : x = 0
  · subst h
    exact (inv_zero w).mono fun e w' ⟨h, k⟩ => ⟨h, k ▸ World.grownBy.refl _ _⟩
  · rw [if_neg h, if_neg h]
    exact inv_any x w (by omega) (by omega)

end Go.Proofs.Ytdeajclghlbhcaa
