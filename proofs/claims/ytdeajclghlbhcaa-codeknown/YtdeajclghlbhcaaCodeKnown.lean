/- CodeKnown: the call hayricklaw04.CodeKnown() returns true, in whatever memory it is made, and nothing that was in memory turns.
   Conditions: none (the call takes no argument). -/
import Derived.Test.YtdeajclghlbhcaaRows
import Derived.Test.YtdeajclghlbhcaaWake4
import Derived.WalkKit
import Derived.ProofKit
import Derived.OpenShut
import Derived.ChangeOld
import Derived.Below
import Derived.BigFrame
namespace Go.Proofs.Ytdeajclghlbhcaa.codeKnown
open Go.ChangeShapes Go.WideShapes Go.ChangeAt Go.RowKit
set_option linter.unusedVariables false

theorem own : ownKnob Try.prog.godebug = none := by kernel_rfl

theorem small_lit {D : List (List Nat)} (h : ∀ r ∈ D, ∀ x ∈ r, x < 256) (i j : Nat) : at2 D i j < 256 := by
  unfold at2
  by_cases hi : i < D.length
  · exact getD_small (h _ (by simp [List.getD, hi])) j
  · have e : D.getD i [] = [] := by simp [List.getD, List.getElem?_eq_none (by omega : D.length ≤ i)]
    rw [e]; simp

/-- Ints, laid ahead of chunks. -/
abbrev litI (w : World) (ls : List Int) : World := w.alloc (.cells (ls.map (Value.int .i64)).toArray 3)
theorem litI_vec {w w' : World} {ls : List Int} (hl : ls.length ≤ 1000) (g : (litI w ls).grownBy w' none) : IVec w' (.slice (some ⟨w.heap.size, 0, none⟩) ls.length ls.length) ls := (ivec_lits (heap_alloc_new w _) rfl hl).keep g
theorem litI_grown (w : World) (ls : List Int) : w.grownBy (litI w ls) none := World.grownBy_alloc _ _ none

theorem short1 : decOK ((2 : Nat) : Int) ((3 : Nat) : Int) [1] [[1]] := by
  refine ⟨by decide, rfl, by decide, ?_⟩
  show goodAt 3 [1] 1
  unfold goodAt
  decide
theorem twice : ¬ decOK 2 3 [1, 1] [[1], [1]] := by
  rintro ⟨_, _, _, h⟩
  exact (h 1 (by decide)).2.2 0 (by decide) rfl
theorem above : ¬ decOK 2 3 [1, 3] [[1], [1]] := by
  rintro ⟨_, _, _, h⟩
  exact absurd (h 1 (by decide)).2.1 (by decide)
theorem uneven : ¬ decOK 2 3 [0, 1] [[1], []] := by
  rintro ⟨_, _, h, _⟩
  exact absurd h (by decide)
theorem ok45 : decOK ((2 : Nat) : Int) ((3 : Nat) : Int) [0, 1, 2] [[4], [5], [99]] := by
  refine ⟨by decide, rfl, by decide, ?_⟩
  show goodAt 3 [0, 1, 2] 3
  unfold goodAt
  decide
theorem dec45 {D : List (List Nat)} (h : Tells [0, 1, 2] 2 1 [[4], [5], [99]] D) : D = [[4], [5]] := by
  refine (h [[4], [5]] ⟨rfl, by decide⟩ (small_lit (by decide)) ?_).symm
  intro i t hi ht
  obtain rfl : t = 0 := by omega
  rcases two hi with rfl | rfl
  · decide +kernel
  · decide +kernel
theorem gen13 : genList 1 3 = [[1], [1], [142]] := by decide +kernel

set_option maxHeartbeats 8000000 in
set_option maxRecDepth 100000 in
theorem walk (w : World) :
    Calls Try.prog 8 #[] w fun e w' => e = .returned (.bool true) ∧ w.grownBy w' none := by
  have GG : Hid (∀ W, Calls Try.prog 12 #[.int .i64 1, .int .i64 3] W (Made W [[1], [1], [142]] 0)) := fun W => by
    have := generator_yes 1 3 W (by decide) (by decide) (by decide)
    rw [gen13] at this
    exact this
  have DD : Hid (∀ W ra rc vs, IVec W ra [0, 1, 2] → Mat W rc vs [[4], [5], [99]] → Calls Try.prog 21 #[.int .i64 2, .int .i64 3, ra, rc] W fun e w' => ∃ p m c us, e = .returned (.tuple #[.slice p m c, .int .i64 0]) ∧ Mat w' (.slice p m c) us [[4], [5]] ∧ W.grownBy w' none) := fun W ra rc vs h1 h2 =>
    (decode_yes (k := 2) (n := 3) h1 h2 ok45 (by decide)).mono fun e w' ⟨p, m, c, us, D, he, om, sp, sh, td, g⟩ => ⟨p, m, c, us, he, by rw [← dec45 td]; exact om.mat, g⟩
  have EE : Hid (∀ W r vs, Mat W r vs [[1]] → Calls Try.prog 17 #[.int .i64 1, .int .i64 255, r] W fun e w' => ∃ p c, e = .returned (.tuple #[.slice p 255 c, .int .i64 0]) ∧ W.grownBy w' none) := fun W r vs h =>
    (encode_yes (k := 1) (n := 255) (L := 1) h ⟨rfl, by decide⟩ (by decide) (by decide) (by decide)).mono fun e w' ⟨p, n, c, us, he, om, sp, g⟩ => by
      obtain rfl : n = 255 := by
        obtain ⟨_, _, _, e, hn⟩ := om.mat.row.opened
        injection e with _ e2 _
        have := om.same
        simp [codeList] at this
        omega
      exact ⟨p, c, he, g⟩
  unfold Made at GG
  go_enter Try.func8, Try.ntmps8
  go_wp2_with fail
  refine (encode_no (litW_mat w w.heap.size [1] [2] rfl (by decide) (by decide) (by decide) (by decide)) (by decide)).mono ?_
  rintro e w1 ⟨rfl, hw⟩
  have G1 : Hid (w.grownBy w1 none) := by rw [hw]; exact litW_grown _ _ _ _
  clear hw
  go_wp2_with fail
  refine (decode_short (k := 2) (n := 3) (litI_vec (ls := [1]) (by decide) (lit1W_grown _ _ _)) (lit1W_mat (litI w1 [1]) (w1.heap.size + 1) [1] (by simp) (by decide) (by decide)) short1 (by decide)).mono ?_
  rintro e w2 ⟨rfl, g2⟩
  have G2 : Hid (w.grownBy w2 none) := grown_trans G1.out (grown_trans (grown_trans (litI_grown _ _) (lit1W_grown _ _ _)) g2)
  clear g2 G1
  go_wp2_with fail
  refine (decode_arg (litI_vec (ls := [1, 1]) (by decide) (litW_grown _ _ _ _)) (litW_mat (litI w2 [1, 1]) (w2.heap.size + 1) [1] [1] (by simp) (by decide) (by decide) (by decide) (by decide)) twice).mono ?_
  rintro e w3 ⟨rfl, g3⟩
  have G3 : Hid (w.grownBy w3 none) := grown_trans G2.out (grown_trans (grown_trans (litI_grown _ _) (litW_grown _ _ _ _)) g3)
  clear g3 G2
  go_wp2_with fail
  refine (decode_arg (litI_vec (ls := [1, 3]) (by decide) (litW_grown _ _ _ _)) (litW_mat (litI w3 [1, 3]) (w3.heap.size + 1) [1] [1] (by simp) (by decide) (by decide) (by decide) (by decide)) above).mono ?_
  rintro e w4 ⟨rfl, g4⟩
  have G4 : Hid (w.grownBy w4 none) := grown_trans G3.out (grown_trans (grown_trans (litI_grown _ _) (litW_grown _ _ _ _)) g4)
  clear g4 G3
  go_wp2_with fail
  refine (decode_arg (litI_vec (ls := [0, 1]) (by decide) (litW_grown _ _ _ _)) (litW_mat (litI w4 [0, 1]) (w4.heap.size + 1) [1] [] (by simp) (by decide) (by decide) (by decide) (by decide)) uneven).mono ?_
  rintro e w5 ⟨rfl, g5⟩
  have G5 : Hid (w.grownBy w5 none) := grown_trans G4.out (grown_trans (grown_trans (litI_grown _ _) (litW_grown _ _ _ _)) g5)
  clear g5 G4
  go_wp2_with fail
  refine (DD.out _ _ _ _ (litI_vec (ls := [0, 1, 2]) (by decide) (lit3W_grown _ _ _ _ _)) (lit3W_mat (litI w5 [0, 1, 2]) (w5.heap.size + 1) [4] [5] [99] (by simp) (by decide) (by decide) (by decide) (by decide) (by decide) (by decide))).mono ?_
  rintro e w6 ⟨p6, n6, c6, u6', rfl, m6, g6⟩
  have G6 : Hid (w.grownBy w6 none) := grown_trans G5.out (grown_trans (grown_trans (litI_grown _ _) (lit3W_grown _ _ _ _ _)) g6)
  have M6 : Hid (∀ w', w6.grownBy w' none → Mat w' (.slice p6 n6 c6) u6' [[4], [5]]) := fun w' g => m6.keep g
  clear g6 m6 G5 DD
  go_wp2_with fail
  refine (one_no (lit1W_mat w6 w6.heap.size [1] rfl (by decide) (by decide)) (.inr (.inr (by decide)))).mono ?_
  rintro e w7 ⟨rfl, hw⟩
  have F7 : Hid (w.grownBy w7 none ∧ w6.grownBy w7 none) := by rw [hw]; exact ⟨grown_trans G6.out (lit1W_grown _ _ _), lit1W_grown _ _ _⟩
  clear hw G6
  go_wp2_with fail
  refine (GG.out _).mono ?_
  rintro e w8 ⟨p8, n8, c8, u8', rfl, om, sp, g8⟩
  have M8 : Hid (∀ w', w8.grownBy w' none → Mat w' (.slice p8 n8 c8) u8' [[1], [1], [142]]) := fun w' g => om.mat.keep g
  have F8 : Hid (w.grownBy w8 none ∧ w6.grownBy w8 none) := ⟨grown_trans F7.out.1 g8, grown_trans F7.out.2 g8⟩
  clear om sp g8 GG F7
  go_wp2_with fail
  refine (EE.out _ _ _ (lit1W_mat w8 w8.heap.size [1] rfl (by decide) (by decide))).mono ?_
  rintro e w9 ⟨p9, c9, rfl, g9⟩
  have F9 : Hid (w.grownBy w9 none ∧ w6.grownBy w9 none ∧ w8.grownBy w9 none) := by
    have g := grown_trans (lit1W_grown w8 w8.heap.size [1]) g9
    exact ⟨grown_trans F8.out.1 g, grown_trans F8.out.2 g, g⟩
  clear g9 F8 EE
  go_wp2_with fail
  refine (awake_any _).mono ?_
  rintro e w10 ⟨rfl, g10⟩
  have F10 : Hid (w.grownBy w10 none ∧ w6.grownBy w10 none ∧ w8.grownBy w10 none) := ⟨grown_trans F9.out.1 g10, grown_trans F9.out.2.1 g10, grown_trans F9.out.2.2 g10⟩
  clear g10 F9
  go_wp2_with fail
  have m1 := litW_mat w10 w10.heap.size [4] [5] rfl (by decide) (by decide) (by decide) (by decide)
  have g0 := litW_grown w10 w10.heap.size [4] [5]
  refine (refSame_any (M6.out _ (grown_trans F10.out.2.1 g0)) m1).mono ?_
  rintro e w11 ⟨rfl, g11⟩
  have F11 : Hid (w.grownBy w11 none ∧ w8.grownBy w11 none) := ⟨grown_trans (grown_trans F10.out.1 g0) g11, grown_trans (grown_trans F10.out.2.2 g0) g11⟩
  clear m1 g0 g11 M6 F10
  go_wp2_with fail
  have m1 := lit3W_mat w11 w11.heap.size [1] [1] [142] rfl (by decide) (by decide) (by decide) (by decide) (by decide) (by decide)
  have g0 := lit3W_grown w11 w11.heap.size [1] [1] [142]
  refine (refSame_any (M8.out _ (grown_trans F11.out.2 g0)) m1).mono ?_
  rintro e w12 ⟨rfl, g12⟩
  have G12 : Hid (w.grownBy w12 none) := grown_trans (grown_trans F11.out.1 g0) g12
  clear m1 g0 g12 M8 F11
  go_wp2_with fail
  refine (codeMay_any 1 256 _).mono ?_
  rintro e w13 ⟨rfl, hw⟩
  obtain rfl := hw.symm
  clear hw
  rw [show mayI 1 256 = false from by decide]
  go_wp2_with fail
  refine (codeMay_any 0 1 _).mono ?_
  rintro e w13 ⟨rfl, hw⟩
  obtain rfl := hw.symm
  clear hw
  rw [show mayI 0 1 = false from by decide]
  go_wp2_with fail
  refine (codeMay_any 1 1 _).mono ?_
  rintro e w13 ⟨rfl, hw⟩
  obtain rfl := hw.symm
  clear hw
  rw [show mayI 1 1 = false from by decide]
  go_wp2_with fail
  refine (codeMay_any 254 255 _).mono ?_
  rintro e w13 ⟨rfl, hw⟩
  obtain rfl := hw.symm
  clear hw
  rw [show mayI 254 255 = true from by decide]
  go_wp2
  go_ret
  exact ⟨rfl, G12.out⟩

theorem lifted (os : Os) (started : os.Started) (H : Type) (enc : TypeId × Value → H) :
    ReturnsInHanded {} Try.checked os 8 .any (Rows.codeKnownSpec.pre6 enc Try.prog Try.f8 Rows.codeKnownRow.domain false) (Rows.codeKnownSpec.post enc Try.prog Try.f8 false true false false) := by
  refine returnsInHanded_of_change (C := Try.checked) own started (by kernel_rfl) Try.func8
    (ChangeSpec.witness6 (enc := enc) (C := Try.checked) false ⟨#[], #[], []⟩ 8 (by kernel_rfl) (by kernel_rfl) (by kernel_rfl) (by kernel_rfl)) ?_
  intro W base args ds gs before hval0 hW hcnd _
  have hW' := hW
  obtain ⟨p, q, hA0, hV, rfl, hfz, hnd⟩ := hW
  have hA : DataW.TrodAll enc Try.prog W 0 (fun _ => true) true Try.f8.params.toList args.toList ds p := hA0
  rw [Try.params8] at hA
  obtain ⟨rfl, rfl, rfl⟩ := trodAll_none hA
  obtain ⟨rfl, rfl⟩ := trodVars_none hV
  clear hA0 hval0
  refine (walk W).mono fun e W' ⟨he, hg⟩ => ?_
  have bel : Below W.heap.size W W' := grown_below hg (Nat.le_refl _) (by simp)
  subst he
  exact ⟨_, rfl, _, _, _, [], _, [], hW', trodAll_mk1 (shut_bool Try.underlying4 _), trodAll_mk0, rfl, bel.frame _, fun h => by cases h⟩

theorem over : Rows.codeKnownRow.holds Try.pinned (OpenSpec.ofChange Rows.codeKnownSpec) :=
  OpenClaim.holds_of_wide 8 Try.f8 rfl rfl rfl rfl rfl rfl rfl ⟨rfl, rfl, rfl, rfl, rfl⟩ rfl rfl rfl rfl rfl (by kernel_rfl) Try.func8 (by kernel_rfl)
    (of_decide_eq_true (by kernel_rfl)) (by unfold Func.isWrapper; first | (rw [if_pos (by decide +kernel)]; kernel_rfl) | (rw [if_neg (by decide +kernel)]; exact ⟨rfl, rfl⟩))
    (fun os started H enc _ => lifted os started H enc)

theorem proved : Rows.CodeKnownSaid := over
end Go.Proofs.Ytdeajclghlbhcaa.codeKnown

namespace Go.Proofs.Ytdeajclghlbhcaa
theorem codeKnown_holds : Rows.CodeKnownSaid := codeKnown.proved
#print axioms codeKnown_holds
end Go.Proofs.Ytdeajclghlbhcaa
