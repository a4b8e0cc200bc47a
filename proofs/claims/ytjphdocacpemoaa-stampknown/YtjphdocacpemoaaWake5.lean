/- The contract of hayricklaw05.wakes. -/
import Derived.Test.YtjphdocacpemoaaPut5
import Derived.Lib.SlBytesConst
namespace Go.Proofs.Ytjphdocacpemoaa
open Go.RowKit

/-- A literal's row, marked or not. -/
theorem vec_row {w : World} {g : Nat} {xs : List Nat} {T : TypeId} {fr : Nat × Nat} (h : w.heap[g]? = some (.cells (rowOf xs) T fr)) (hx : ∀ x ∈ xs, x < 256) (hl : xs.length ≤ 1000) : Vec w (.slice (some ⟨g, 0, none⟩) xs.length xs.length) xs := by
  refine ⟨hx, by omega, _, _, rfl, Nat.le_refl _, by unfold maxLen; omega, fun _ => ⟨g, 0, rfl, fun j hj => ?_⟩⟩
  rw [cell_of_row _ _ _ _ _ _ h, Nat.zero_add, rowOf_get xs hj]

set_option maxHeartbeats 1600000 in
theorem wakes_any (w : World) : Calls Try.prog 10 #[] w fun e w' => e = .returned (.bool true) ∧ w.grownBy w' none := by
  have kc := fun (w : World) (C : Array Value) (n c : Nat) => Lib.run_convert_bytes_const (P := Try.prog) w 23 5 C n c Try.underlying23 Try.underlying5
  have HW : Hid (w.grownBy (w.alloc (.cells (rowOf [97, 98]) 5 (2, 3))) none ∧ Vec (w.alloc (.cells (rowOf [97, 98]) 5 (2, 3))) (.slice (some ⟨w.heap.size, 0, none⟩) 2 2) [97, 98]) := ⟨gb_alloc (World.grownBy.refl _ _) _, vec_row (heap_alloc_new w _) (by decide) (by decide)⟩
  go_enter Try.func10, Try.ntmps10
  go_wp2_with fail
  clear kc
  refine (put_yes (n := 258) (ld := [97, 98]) HW.out.2 (by decide)).mono ?_
  rintro e w2 ⟨p, rfl, o2, g2⟩
  obtain ⟨g, rfl, hz, _⟩ := o2.spot (k := 0) (by rw [SM.sec_len (by decide)]; decide)
  clear hz
  have G2 : Hid (w.grownBy w2 none) := grown_trans HW.out.1 g2
  have V2 : Hid (∀ w', w2.grownBy w' none → Vec w' (.slice (some ⟨g, 0, none⟩) 64 64) (SM.sec 258 [97, 98])) := fun w' h => o2.vec.keep h
  clear o2 g2 HW
  go_wp2_with (first
    | (at_make; refine wpList_make_vec rfl _ _ rfl 57 rfl rfl (by decide) ?_; intro w3 q ou g3; have OU : Hid (Own w2.heap.size w3 (.slice q 57 57) (SM.z 57)) := ou; have G3 : Hid (w.grownBy w3 none) := grown_trans G2.out g3; have V3 : Hid (Vec w3 (.slice (some ⟨g, 0, none⟩) 64 64) (SM.sec 258 [97, 98])) := V2.out _ g3; clear ou g3)
    | fail)
  refine (put_long (n := 1) OU.out.vec (by rw [SM.z_len]; decide)).mono ?_
  rintro e w4 ⟨rfl, hw⟩
  obtain rfl := hw.symm
  clear hw
  have hcv : (convert 23 9 (.slice (some ⟨g, 6, none⟩) 5 58)).run Try.prog w3 = .ok (.string ⟨#[1, 2, 97, 98, 0]⟩) w3 := by
    have h1 := (V3.out.tail (n := 6) (by rw [SM.sec_len (by decide)]; decide)).cut (n := 5) (by rw [List.length_drop, SM.sec_len (by decide)]; decide)
    have h2 := convert_vec h1
    rw [Nat.zero_add] at h2
    have h3 : strOf (((SM.sec 258 [97, 98]).drop 6).take 5) = ⟨#[1, 2, 97, 98, 0]⟩ := by decide
    rw [h3] at h2
    exact h2
  have I1 : Hid (Calls Try.prog 13 #[.slice (some ⟨g, 0, none⟩) 64 64, .int .u64 258] w3 fun e w' => e = .returned (.bool true) ∧ w' = w3) := is_yes 258 V3.out (SM.sec_len (by decide))
  have I2 : Hid (Calls Try.prog 13 #[.slice (some ⟨g, 0, none⟩) 64 64, .int .u64 2] w3 fun e w' => e = .returned (.bool false) ∧ w' = w3) := is_yes 2 V3.out (SM.sec_len (by decide))
  clear V2 OU V3
  go_wp2_with (first
    | (go_at_call_of 13 (Value.int IntKind.u64 258); refine I1.out.mono ?_; rintro e w5 ⟨rfl, hw⟩; obtain rfl := hw.symm; clear hw)
    | (go_at_call_of 13 (Value.int IntKind.u64 2); refine I2.out.mono ?_; rintro e w5 ⟨rfl, hw⟩; obtain rfl := hw.symm; clear hw))
  go_ret
  exact ⟨rfl, G3.out⟩
end Go.Proofs.Ytjphdocacpemoaa
