/- VectorKnown: the call hayricklaw02.VectorKnown() returns true, in whatever memory it is made, and nothing that was in memory turns.
   Conditions: none (the call takes no argument). -/
import Derived.Test.YtlodpffdmlnemaaRows
import Derived.Test.YtlodpffdmlnemaaWakes
import Derived.WalkKit
import Derived.ProofKit
import Derived.OpenShut
import Derived.ChangeOld
import Derived.Below
namespace Go.Proofs.Ytlodpffdmlnemaa.vectorKnown
open Go.ChangeShapes Go.WideShapes Go.ChangeAt Go.RowKit
set_option linter.unusedVariables false

theorem own : ownKnob Try.prog.godebug = none := by kernel_rfl

theorem vec_nil (w : World) : Vec w (.slice none 0 0) [] := ⟨by simp, by simp, none, 0, rfl, Nat.le_refl _, by decide, fun h => absurd rfl h⟩
theorem mat_nil (w : World) : Mat w (.slice none 0 0) [] [] := ⟨⟨by simp, none, 0, rfl, Nat.le_refl _, by decide, fun h => absurd rfl h⟩, rfl, by simp⟩

set_option maxHeartbeats 8000000 in
theorem walk (w : World) :
    Calls Try.prog 8 #[] w fun e w' => e = .returned (.bool true) ∧ w.grownBy w' none := by
  go_enter Try.func8, Try.ntmps8
  go_wp2_with fail
  have oa : Own w.heap.size (w.alloc (.cells #[bv 1, bv 2] 5)) (.slice (some ⟨w.heap.size, 0, none⟩) 2 2) [1, 2] := own_lit (heap_new _ _ _ rfl) (Nat.le_refl _) rfl (by decide) (by decide)
  have cut : Vec (w.alloc (.cells #[bv 1, bv 2] 5)) (.slice (some ⟨w.heap.size, 0, none⟩) 1 2) [1] :=
    ⟨by decide, by decide, _, _, rfl, by decide, by decide, fun _ => ⟨_, _, rfl, fun j hj => by
      match j, hj with
      | 0, _ => simp⟩⟩
  have g0 : w.grownBy (w.alloc (.cells #[bv 1, bv 2] 5)) none := World.grownBy_alloc _ _ none
  refine (dot_no oa.vec cut (by decide)).mono ?_
  rintro e w1 ⟨rfl, g1⟩
  have oa1 := oa.keep g1
  have G1 : Hid (w.grownBy w1 none) := grown_trans g0 g1
  clear oa cut g0 g1
  go_wp2_with fail
  have l1 : Own w1.heap.size (w1.alloc (.cells #[bv 1] 5)) (.slice (some ⟨w1.heap.size, 0, none⟩) 1 1) [1] := own_lit (heap_new _ _ _ rfl) (Nat.le_refl _) rfl (by decide) (by decide)
  have g1 : w1.grownBy (w1.alloc (.cells #[bv 1] 5)) none := World.grownBy_alloc _ _ none
  refine (combine_count l1.vec (mat_nil _) (by decide)).mono ?_
  rintro e w2 ⟨rfl, g2⟩
  have oa2 := oa1.keep (grown_trans g1 g2)
  have G2 : Hid (w.grownBy w2 none) := grown_trans G1.out (grown_trans g1 g2)
  clear oa1 g1 g2 l1 G1
  go_wp2_with fail
  have q1 : Own w2.heap.size ((((w2.alloc (.cells #[bv 1, bv 1] 5)).alloc (.cells #[bv 1] 5)).alloc (.cells #[bv 1, bv 2] 5)).alloc (.cells #[.slice (some ⟨w2.heap.size + 1, 0, none⟩) 1 1, .slice (some ⟨w2.heap.size + 1 + 1, 0, none⟩) 2 2] 22)) (.slice (some ⟨w2.heap.size, 0, none⟩) 2 2) [1, 1] :=
    own_lit (heap_old _ _ (heap_old _ _ (heap_old _ _ (heap_new _ _ _ rfl)))) (Nat.le_refl _) rfl (by decide) (by decide)
  have q2 : Own w2.heap.size ((((w2.alloc (.cells #[bv 1, bv 1] 5)).alloc (.cells #[bv 1] 5)).alloc (.cells #[bv 1, bv 2] 5)).alloc (.cells #[.slice (some ⟨w2.heap.size + 1, 0, none⟩) 1 1, .slice (some ⟨w2.heap.size + 1 + 1, 0, none⟩) 2 2] 22)) (.slice (some ⟨w2.heap.size + 1, 0, none⟩) 1 1) [1] :=
    own_lit (heap_old _ _ (heap_old _ _ (heap_new _ _ _ (by simp)))) (by omega) rfl (by decide) (by decide)
  have q3 : Own w2.heap.size ((((w2.alloc (.cells #[bv 1, bv 1] 5)).alloc (.cells #[bv 1] 5)).alloc (.cells #[bv 1, bv 2] 5)).alloc (.cells #[.slice (some ⟨w2.heap.size + 1, 0, none⟩) 1 1, .slice (some ⟨w2.heap.size + 1 + 1, 0, none⟩) 2 2] 22)) (.slice (some ⟨w2.heap.size + 1 + 1, 0, none⟩) 2 2) [1, 2] :=
    own_lit (heap_old _ _ (heap_new _ _ _ (by simp))) (by omega) rfl (by decide) (by decide)
  have q4 : Mat ((((w2.alloc (.cells #[bv 1, bv 1] 5)).alloc (.cells #[bv 1] 5)).alloc (.cells #[bv 1, bv 2] 5)).alloc (.cells #[.slice (some ⟨w2.heap.size + 1, 0, none⟩) 1 1, .slice (some ⟨w2.heap.size + 1 + 1, 0, none⟩) 2 2] 22)) (.slice (some ⟨w2.heap.size + 1 + 1 + 1, 0, none⟩) 2 2)
      [.slice (some ⟨w2.heap.size + 1, 0, none⟩) 1 1, .slice (some ⟨w2.heap.size + 1 + 1, 0, none⟩) 2 2] [[1], [1, 2]] :=
    ⟨cells_lit (heap_new _ _ _ (by simp)) rfl (by simp), rfl, fun j hj => by
      match j, hj with
      | 0, _ => exact q2.vec
      | 1, _ => exact q3.vec⟩
  have g2 : w2.grownBy ((((w2.alloc (.cells #[bv 1, bv 1] 5)).alloc (.cells #[bv 1] 5)).alloc (.cells #[bv 1, bv 2] 5)).alloc (.cells #[.slice (some ⟨w2.heap.size + 1, 0, none⟩) 1 1, .slice (some ⟨w2.heap.size + 1 + 1, 0, none⟩) 2 2] 22)) none :=
    grown_trans (grown_trans (grown_trans (World.grownBy_alloc _ _ none) (World.grownBy_alloc _ _ none)) (World.grownBy_alloc _ _ none)) (World.grownBy_alloc _ _ none)
  refine (combine_no q1.vec q4 rfl 1 (by decide) (by decide) (by decide)).mono ?_
  rintro e w3 ⟨rfl, g3⟩
  have oa3 := oa2.keep (grown_trans g2 g3)
  have G3 : Hid (w.grownBy w3 none) := grown_trans G2.out (grown_trans g2 g3)
  clear oa2 g2 g3 q1 q2 q3 q4 G2
  go_wp2_with fail
  refine (combine_none (vec_nil _) (mat_nil _)).mono ?_
  rintro e w4 ⟨rfl, g4⟩
  have oa4 := oa3.keep g4
  have G4 : Hid (w.grownBy w4 none) := grown_trans G3.out g4
  clear oa3 g4 G3
  go_wp2_with fail
  refine (dot_yes (vec_nil _) (vec_nil _) rfl).mono ?_
  rw [show vdot [] [] = 0 from rfl]
  rintro e w5 ⟨rfl, g5⟩
  have oa5 := oa4.keep g5
  have G5 : Hid (w.grownBy w5 none) := grown_trans G4.out g5
  clear oa4 g5 G4
  go_wp2_with fail
  have l1 : Own w5.heap.size (w5.alloc (.cells #[bv 1] 5)) (.slice (some ⟨w5.heap.size, 0, none⟩) 1 1) [1] := own_lit (heap_new _ _ _ rfl) (Nat.le_refl _) rfl (by decide) (by decide)
  have g5 : w5.grownBy (w5.alloc (.cells #[bv 1] 5)) none := World.grownBy_alloc _ _ none
  refine (addTo_no (oa5.keep g5).vec l1.vec (by decide)).mono ?_
  rintro e w6 ⟨rfl, g6⟩
  have oa6 := oa5.keep (grown_trans g5 g6)
  have G6 : Hid (w.grownBy w6 none) := grown_trans G5.out (grown_trans g5 g6)
  clear oa5 g5 g6 l1 G5
  go_wp2_with fail
  refine (mulAdd_no oa6.vec (vec_nil _) (by decide)).mono ?_
  rintro e w7 ⟨rfl, g7⟩
  have oa7 := oa6.keep g7
  have G7 : Hid (w.grownBy w7 none) := grown_trans G6.out g7
  have ca := convert_vec oa7.vec
  have ca' : ((strOf [1, 2]).toList == [1, 2]) = true := by rw [str_list]; decide
  clear oa6 g7 G6
  go_wp2_with fail
  clear ca ca'
  refine (addTo_yes oa7 oa7.vec rfl).mono ?_
  rw [show vadd [1, 2] [1, 2] = [0, 0] from by decide]
  rintro e w8 ⟨rfl, oa8, g8⟩
  have G8 : Hid (w.grownBy w8 none) := grown_new G7.out g8 (fun i h => by simp [Value.ownBlock] at h; omega)
  have ca := convert_vec oa8.vec
  have ca' : ((strOf [0, 0]).toList == [0, 0]) = true := by rw [str_list]; decide
  clear oa7 g8 G7
  go_wp2_with fail
  clear ca ca'
  have e0 : Vec (w8.alloc (.cells #[] 5)) (.slice (some ⟨w8.heap.size, 0, none⟩) 0 0) [] := ⟨by simp, by simp, _, 0, rfl, Nat.le_refl _, by decide, fun h => absurd rfl h⟩
  have g8 : w8.grownBy (w8.alloc (.cells #[] 5)) none := World.grownBy_alloc _ _ none
  have oa9 := oa8.keep g8
  have G9 : Hid (w.grownBy (w8.alloc (.cells #[] 5)) none) := grown_trans G8.out g8
  clear oa8 G8 g8
  generalize w8.alloc (.cells #[] 5) = w9 at *
  refine (same_any (vec_nil _) e0).mono ?_
  rintro e w10 ⟨rfl, hw⟩
  obtain rfl := hw.symm
  clear hw
  rw [show decide (([] : List Nat) = []) = true from rfl]
  go_wp2_with fail
  refine (same_any (vec_nil _) oa9.vec).mono ?_
  rintro e w10 ⟨rfl, hw⟩
  obtain rfl := hw.symm
  clear hw
  rw [show decide (([] : List Nat) = [0, 0]) = false from by decide]
  go_wp2_with fail
  refine (wakes_any _).mono ?_
  rintro e w10 ⟨rfl, g10⟩
  have G10 : Hid (w.grownBy w10 none) := grown_trans G9.out g10
  clear G9 g10 e0 oa9
  go_wp2
  go_ret
  exact ⟨rfl, G10.out⟩

set_option maxRecDepth 100000 in
theorem lifted (os : Os) (started : os.Started) (H : Type) (enc : TypeId × Value → H) :
    ReturnsInHanded {} Try.checked os 8 .any (Rows.vectorKnownSpec.pre6 enc Try.prog Try.f8 Rows.vectorKnownRow.domain false) (Rows.vectorKnownSpec.post enc Try.prog Try.f8 false true false false) := by
  refine returnsInHanded_of_change (C := Try.checked) own started (by kernel_rfl) Try.func8
    (ChangeSpec.witness6 (enc := enc) (C := Try.checked) false ⟨#[], #[], []⟩ 8 (by kernel_rfl) (by kernel_rfl) (by kernel_rfl) (by kernel_rfl)) ?_
  intro W base args ds gs before hval0 hW hcnd _
  have hW' := hW
  obtain ⟨p, q, hA0, hV, rfl, hfz, hnd⟩ := hW
  have hA : DataW.TrodAll enc Try.prog W 0 (fun _ => true) true Try.f8.params.toList args.toList ds p := hA0
  rw [Try.params8] at hA
  obtain ⟨rfl, rfl, rfl⟩ := trodAll_none hA
  obtain ⟨rfl, rfl⟩ := trodVars_none hV
  clear hA0 hval0
  refine (walk W).mono fun e W' ⟨he, hg⟩ => ?_
  have bel : Below W.heap.size W W' := grown_below hg (Nat.le_refl _) (by simp)
  subst he
  exact ⟨_, rfl, _, _, _, [], _, [], hW', trodAll_mk1 (shut_bool Try.underlying4 _), trodAll_mk0, rfl, bel.frame _, fun h => by cases h⟩

theorem over : Rows.vectorKnownRow.holds Try.pinned (OpenSpec.ofChange Rows.vectorKnownSpec) :=
  OpenClaim.holds_of_wide 8 Try.f8 rfl rfl rfl rfl rfl rfl rfl ⟨rfl, rfl, rfl, rfl, rfl⟩ rfl rfl rfl rfl rfl (by kernel_rfl) Try.func8 (by kernel_rfl)
    (of_decide_eq_true (by kernel_rfl)) (by unfold Func.isWrapper; first | (rw [if_pos (by decide +kernel)]; kernel_rfl) | (rw [if_neg (by decide +kernel)]; exact ⟨rfl, rfl⟩))
    (fun os started H enc _ => lifted os started H enc)

theorem proved : Rows.VectorKnownSaid := over
end Go.Proofs.Ytlodpffdmlnemaa.vectorKnown

namespace Go.Proofs.Ytlodpffdmlnemaa
theorem vectorKnown_holds : Rows.VectorKnownSaid := vectorKnown.proved
#print axioms vectorKnown_holds
end Go.Proofs.Ytlodpffdmlnemaa
