/- The contract of the method sizes of hayricklaw04.Shape; an argument of that type read as data. -/
import Derived.Test.YtdeajclghlbhcaaDec4
import Derived.Test.YtdeajclghlbhcaaLift
import Derived.Deep.RegionHeld3
set_option linter.unusedVariables false
namespace Go.Proofs.Ytdeajclghlbhcaa
open Go.RowKit

theorem tmod12 (A : Nat) : ((A : Int)).tmod 12 = ((A % 12 : Nat) : Int) := by
  rw [Int.tmod_eq_emod_of_nonneg (by omega)]; rfl

set_option maxHeartbeats 3200000 in
theorem sizes_any {w : World} {K Mo Lo : Nat} {pb pp : Option Addr} {nb cb np cp : Nat} (hK : K < 256) (hM : Mo < 256) :
    Calls Try.prog 23 #[.agg #[.int .u8 (K : Int), .int .u8 (Mo : Int), .int .u8 (Lo : Int), .slice pb nb cb, .slice pp np cp]] w fun e w' => e = .returned (.tuple #[.int .i64 ((1 + K % 12 : Nat) : Int), .int .i64 ((2 + K % 12 + Mo % 12 : Nat) : Int)]) ∧ w.grownBy w' none := by
  have tK := tmod12 K
  have tM := tmod12 Mo
  have a12 : K % 12 < 12 := Nat.mod_lt _ (by decide)
  have m12 : Mo % 12 < 12 := Nat.mod_lt _ (by decide)
  have HE : Hid (1 + K % 12 = 1 + K % 12 ∧ 2 + K % 12 + Mo % 12 = 2 + K % 12 + Mo % 12) := ⟨rfl, rfl⟩
  have kK : IntKind.i64.wrap ((K : Int)) = (K : Int) := IntWalk.i64_in _ (by omega)
  have kM : IntKind.i64.wrap ((Mo : Int)) = (Mo : Int) := IntWalk.i64_in _ (by omega)
  have eA : IntKind.i64.wrap (((K % 12 : Nat)) : Int) = ((K % 12 : Nat) : Int) := IntWalk.i64_in _ (by omega)
  have eM : IntKind.i64.wrap (((Mo % 12 : Nat)) : Int) = ((Mo % 12 : Nat) : Int) := IntWalk.i64_in _ (by omega)
  have s1 : IntKind.i64.wrap (1 + ((K % 12 : Nat) : Int)) = ((1 + K % 12 : Nat) : Int) := by rw [IntWalk.i64_in _ (by omega)]; omega
  have s2 : IntKind.i64.wrap (2 + ((K % 12 : Nat) : Int)) = ((2 + K % 12 : Nat) : Int) := by rw [IntWalk.i64_in _ (by omega)]; omega
  have s3 : IntKind.i64.wrap (((2 + K % 12 : Nat) : Int) + ((Mo % 12 : Nat) : Int)) = ((2 + K % 12 + Mo % 12 : Nat) : Int) := by rw [IntWalk.i64_in _ (by omega)]; omega
  obtain ⟨r1, hr1⟩ : ∃ r1, r1 = 1 + K % 12 := ⟨_, rfl⟩
  obtain ⟨r2, hr2⟩ : ∃ r2, r2 = 2 + K % 12 := ⟨_, rfl⟩
  obtain ⟨r3, hr3⟩ : ∃ r3, r3 = r2 + Mo % 12 := ⟨_, rfl⟩
  rw [← hr1] at s1
  rw [← hr2] at s2 s3
  rw [← hr3] at s3
  rw [← hr1, ← hr2, ← hr3]
  generalize K % 12 = ka at *
  generalize Mo % 12 = ma at *
  clear hr1 hr2 hr3 HE
  have HC : Hid ((w.alloc (.cells #[.int .u8 (K : Int), .int .u8 (Mo : Int), .int .u8 (Lo : Int), .slice pb nb cb, .slice pp np cp] 52)).drew.cell? ⟨w.heap.size, 0, none⟩ = some (.int .u8 (K : Int)) ∧ (w.alloc (.cells #[.int .u8 (K : Int), .int .u8 (Mo : Int), .int .u8 (Lo : Int), .slice pb nb cb, .slice pp np cp] 52)).drew.cell? ⟨w.heap.size, 1, none⟩ = some (.int .u8 (Mo : Int))) := by
    have h := heap_alloc_new w (.cells #[.int .u8 (K : Int), .int .u8 (Mo : Int), .int .u8 (Lo : Int), .slice pb nb cb, .slice pp np cp] 52)
    constructor
    · have := cell_of_row _ _ 0 _ _ _ h
      exact this
    · have := cell_of_row _ _ 1 _ _ _ h
      exact this
  have HG : Hid (w.grownBy (w.alloc (.cells #[.int .u8 (K : Int), .int .u8 (Mo : Int), .int .u8 (Lo : Int), .slice pb nb cb, .slice pp np cp] 52)).drew none) := gb_drew (gb_alloc (World.grownBy.refl _ _) _)
  go_enter Try.func23, Try.ntmps23
  go_wp2_with fail
  go_region_held3 (fun w' => w'.cell? ⟨w.heap.size, 0, none⟩ = some (.int .u8 (K : Int)) ∧ w'.cell? ⟨w.heap.size, 1, none⟩ = some (.int .u8 (Mo : Int))) (exact HC.out) (fail)
  all_goals
    go_wp2
    go_ret2
    exact ⟨rfl, HG.out⟩
end Go.Proofs.Ytdeajclghlbhcaa
