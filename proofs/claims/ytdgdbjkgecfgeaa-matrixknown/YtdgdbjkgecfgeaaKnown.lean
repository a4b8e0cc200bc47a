/- MatrixKnown: the call hayricklaw03.MatrixKnown() returns true, in whatever memory it is made, and nothing that was in memory turns.
   Conditions: none (the call takes no argument). -/
import Derived.Test.YtdgdbjkgecfgeaaRows
import Derived.Test.YtdgdbjkgecfgeaaWakes
import Derived.Test.YtdgdbjkgecfgeaaRowsM
import Derived.WalkKit
import Derived.ProofKit
import Derived.OpenShut
import Derived.ChangeOld
import Derived.Below
import Derived.BigFrame
namespace Go.Proofs.Ytdgdbjkgecfgeaa.matrixKnown
open Go.ChangeShapes Go.WideShapes Go.ChangeAt Go.RowKit
set_option linter.unusedVariables false

theorem own : ownKnob Try.prog.godebug = none := by kernel_rfl

theorem mat_nil (w : World) : Mat w (.slice none 0 0) [] [] := ⟨⟨by simp, none, 0, rfl, Nat.le_refl _, by decide, fun h => absurd rfl h⟩, rfl, by simp⟩
theorem ivec_nil (w : World) : IVec w (.slice none 0 0) [] := ⟨by simp, none, 0, rfl, Nat.le_refl _, by decide, fun h => absurd rfl h⟩
theorem mat_empty (w : World) (g : Nat) : Mat w (.slice (some ⟨g, 0, none⟩) 0 0) [] [] := ⟨⟨by simp, some ⟨g, 0, none⟩, 0, rfl, Nat.le_refl _, by decide, fun h => absurd rfl h⟩, rfl, by simp⟩
theorem ivec_lit {w : World} {g : Nat} {x : Int} (h : w.heap[g]? = some (.cells #[.int .i64 x] 3 (0, 0))) : IVec w (.slice (some ⟨g, 0, none⟩) 1 1) [x] :=
  ⟨by simp, some ⟨g, 0, none⟩, 1, rfl, Nat.le_refl _, by decide, fun _ => ⟨g, 0, rfl, fun j hj => by
    match j, hj with
    | 0, _ => simp [World.cell?, h]⟩⟩

/-- A row, and the matrix of it. -/
abbrev lit1W (w : World) (h : Nat) (xs : List Nat) : World := (w.alloc (.cells (xs.map bv).toArray 5)).alloc (.cells #[.slice (some ⟨h, 0, none⟩) xs.length xs.length] 45)
theorem lit1W_mat (w : World) (h : Nat) (xs : List Nat) (e : h = w.heap.size) (hx : ∀ x ∈ xs, x < 256) (h1 : xs.length ≤ 1000) :
    Mat (lit1W w h xs) (.slice (some ⟨h + 1, 0, none⟩) 1 1) [.slice (some ⟨h, 0, none⟩) xs.length xs.length] [xs] := by
  subst e
  have a := (lit_row (w := w) xs hx h1).keep (World.grownBy_alloc _ (.cells #[.slice (some ⟨w.heap.size, 0, none⟩) xs.length xs.length] 45) none)
  exact ⟨cells_lit (heap_new _ _ _ (by simp)) rfl (by simp), rfl, fun j hj => by
    match j, hj with
    | 0, _ => exact a.vec⟩
theorem lit1W_grown (w : World) (h : Nat) (xs : List Nat) : w.grownBy (lit1W w h xs) none := grown_trans (World.grownBy_alloc _ _ none) (World.grownBy_alloc _ _ none)

theorem wpList_make_rows_want {w : World} {ops : Array Oper} {rest : List Oper} {o : Oper} {a : Act} {Q : Exit → Act → World → Prop} (l c : Operand)
    (ho : o.op = Op.makeSlice 27 l c) (hw : Region.wanted o (yielded ops a.tmps) = true) (n : Nat) (hel : a.eval l = .int .i64 (n : Int)) (hec : a.eval c = .int .i64 (n : Int)) (hn : n * 24 ≤ 140737488351232)
    (h : ∀ w1 p, OwnMat w.heap.size w1 (.slice p n n) (List.replicate n (.slice none 0 0)) (List.replicate n []) → w.grownBy w1 none → wpList Try.prog ops Q rest (a.put o.dst (.slice p n n)) w1) : wpList Try.prog ops Q (o :: rest) a w := by
  obtain ⟨i0, hi, hz0, hz1, hz2⟩ := info_parts Try.info22
  refine BigFrame.wpList_want hw fun K hK => ?_
  have hrun := run_make_row (P := Try.prog) 27 45 i0 (.slice none 0 0) Try.underlying27 hi hz0 hz1 rfl .i64 .i64 n (by rw [hz2]; omega) (by omega) w
  unfold Oper.wp
  simp [execOp, ho, hel, hec, hrun, Result.andThen]
  exact hK _ _ (h _ _ (made_rows hn rfl) (World.grownBy_alloc _ _ none))

theorem may_long (n : Nat) (h : 255 < n) : mayB (List.replicate n ([] : List Nat)) = false := by
  unfold mayB
  rw [show decide ((List.replicate n ([] : List Nat)).length ≤ 255) = false from decide_eq_false (by simp; omega)]
  simp

theorem id_len (n : Nat) : (idList n).length = n := by simp [idList]

set_option maxHeartbeats 8000000 in
theorem walk (w : World) :
    Calls Try.prog 7 #[] w fun e w' => e = .returned (.bool true) ∧ w.grownBy w' none := by
  go_enter Try.func7, Try.ntmps7
  go_wp2_with fail
  refine (invert_bad (lit1W_mat w w.heap.size [1, 2] rfl (by decide) (by decide)) (by decide)).mono ?_
  rintro e w1 ⟨rfl, g1⟩
  have G1 : Hid (w.grownBy w1 none) := grown_trans (lit1W_grown w _ _) g1
  clear g1
  go_wp2_with fail
  refine (invert_bad (mat_nil _) (by decide)).mono ?_
  rintro e w2 ⟨rfl, g2⟩
  have G2 : Hid (w.grownBy w2 none) := grown_trans G1.out g2
  clear g2 G1
  go_wp2_with fail
  refine (mul_no ((lit1W_mat w2 w2.heap.size [1, 2] rfl (by decide) (by decide)).keep (lit1W_grown _ (w2.heap.size + 1 + 1) [1, 2])) (lit1W_mat (lit1W w2 w2.heap.size [1, 2]) (w2.heap.size + 1 + 1) [1, 2] (by simp) (by decide) (by decide)) (by decide)).mono ?_
  rintro e w3 ⟨rfl, hw⟩
  have G3 : Hid (w.grownBy w3 none) := by rw [hw]; exact grown_trans (grown_trans G2.out (lit1W_grown _ _ _)) (lit1W_grown _ _ _)
  clear hw G2
  go_wp2_with fail
  refine (ident_no 0 _ (by decide)).mono ?_
  rintro e w4 ⟨rfl, hw⟩
  obtain rfl := hw.symm
  clear hw
  go_wp2_with fail
  refine (ident_no 256 _ (by decide)).mono ?_
  rintro e w4 ⟨rfl, hw⟩
  obtain rfl := hw.symm
  clear hw
  go_wp2_with fail
  refine (ident_any 255 _ (by decide) (by decide)).mono ?_
  rintro e w4 ⟨v, us, rfl, om, sp, g4⟩
  obtain ⟨p4, n4, c4, rfl, hq⟩ := om.mat.row.opened
  have hn4 : n4 = 255 := by have := om.same; have h2 := (id_len 255); omega
  subst hn4
  have G4 : Hid (w.grownBy w4 none) := grown_trans G3.out g4
  clear om sp g4 hq G3
  go_wp2_with fail
  refine (rows_no (lit1W_mat w4 w4.heap.size [1] rfl (by decide) (by decide)) (ivec_nil _) (fun h => absurd h.2.1 (by decide))).mono ?_
  rintro e w5 ⟨rfl, g5⟩
  have G5 : Hid (w.grownBy w5 none) := grown_trans G4.out (grown_trans (lit1W_grown _ _ _) g5)
  clear g5 G4
  go_wp2_with fail
  refine (rows_no ((lit1W_mat w5 w5.heap.size [1] rfl (by decide) (by decide)).keep (World.grownBy_alloc _ (.cells #[.int .i64 1] 3) none)) (ivec_lit (x := 1) (heap_new _ _ _ (by simp))) (fun h => absurd (h.2.2.2 0 (by decide)).2 (by decide))).mono ?_
  rintro e w6 ⟨rfl, g6⟩
  have G6 : Hid (w.grownBy w6 none) := grown_trans G5.out (grown_trans (grown_trans (lit1W_grown _ _ _) (World.grownBy_alloc _ _ none)) g6)
  clear g6 G5
  go_wp2_with fail
  refine (awake_any _).mono ?_
  rintro e w7 ⟨rfl, g7⟩
  have G7 : Hid (w.grownBy w7 none) := grown_trans G6.out g7
  clear g7 G6
  go_wp2_with fail
  refine (may_any (litW_mat w7 w7.heap.size [1] [] rfl (by decide) (by decide) (by decide) (by decide))).mono ?_
  rw [show mayB [[1], []] = false from by decide]
  rintro e w8 ⟨rfl, hw⟩
  have G8 : Hid (w.grownBy w8 none) := by rw [hw]; exact grown_trans G7.out (litW_grown _ _ _ _)
  clear hw G7
  go_wp2_with fail
  refine (may_any (lit1W_mat w8 w8.heap.size [] rfl (by decide) (by decide))).mono ?_
  rw [show mayB [[]] = false from by decide]
  rintro e w9 ⟨rfl, hw⟩
  have G9 : Hid (w.grownBy w9 none) := by rw [hw]; exact grown_trans G8.out (lit1W_grown _ _ _)
  clear hw G8
  go_wp2_with (at_make; refine wpList_make_rows_want _ _ rfl (by rfl) 256 rfl rfl (by decide) ?_; intro w10 p om g10; have OM : Hid (OwnMat w9.heap.size w10 (.slice p 256 256) (List.replicate 256 (.slice none 0 0)) (List.replicate 256 [])) := om; have G10 : Hid (w.grownBy w10 none) := grown_trans G9.out g10; clear om g10)
  refine (may_any OM.out.mat).mono ?_
  rw [may_long 256 (by decide)]
  rintro e w11 ⟨rfl, hw⟩
  have G11 : Hid (w.grownBy w11 none) := by rw [hw]; exact G10.out
  clear hw OM G10 G9
  go_wp2_with fail
  refine (same_any (mat_nil _) (mat_empty _ _)).mono ?_
  rintro e w12 ⟨rfl, hw⟩
  have G12 : Hid (w.grownBy w12 none) := by rw [hw]; exact grown_trans G11.out (World.grownBy_alloc _ _ none)
  clear hw G11
  go_wp2
  go_ret
  exact ⟨rfl, G12.out⟩

set_option maxRecDepth 100000 in
theorem lifted (os : Os) (started : os.Started) (H : Type) (enc : TypeId × Value → H) :
    ReturnsInHanded {} Try.checked os 7 .any (Rows.matrixKnownSpec.pre6 enc Try.prog Try.f7 Rows.matrixKnownRow.domain false) (Rows.matrixKnownSpec.post enc Try.prog Try.f7 false true false false) := by
  refine returnsInHanded_of_change (C := Try.checked) own started (by kernel_rfl) Try.func7
    (ChangeSpec.witness6 (enc := enc) (C := Try.checked) false ⟨#[], #[], []⟩ 8 (by kernel_rfl) (by kernel_rfl) (by kernel_rfl) (by kernel_rfl)) ?_
  intro W base args ds gs before hval0 hW hcnd _
  have hW' := hW
  obtain ⟨p, q, hA0, hV, rfl, hfz, hnd⟩ := hW
  have hA : DataW.TrodAll enc Try.prog W 0 (fun _ => true) true Try.f7.params.toList args.toList ds p := hA0
  rw [Try.params7] at hA
  obtain ⟨rfl, rfl, rfl⟩ := trodAll_none hA
  obtain ⟨rfl, rfl⟩ := trodVars_none hV
  clear hA0 hval0
  refine (walk W).mono fun e W' ⟨he, hg⟩ => ?_
  have bel : Below W.heap.size W W' := grown_below hg (Nat.le_refl _) (by simp)
  subst he
  exact ⟨_, rfl, _, _, _, [], _, [], hW', trodAll_mk1 (shut_bool Try.underlying4 _), trodAll_mk0, rfl, bel.frame _, fun h => by cases h⟩

theorem over : Rows.matrixKnownRow.holds Try.pinned (OpenSpec.ofChange Rows.matrixKnownSpec) :=
  OpenClaim.holds_of_wide 7 Try.f7 rfl rfl rfl rfl rfl rfl rfl ⟨rfl, rfl, rfl, rfl, rfl⟩ rfl rfl rfl rfl rfl (by kernel_rfl) Try.func7 (by kernel_rfl)
    (of_decide_eq_true (by kernel_rfl)) (by unfold Func.isWrapper; first | (rw [if_pos (by decide +kernel)]; kernel_rfl) | (rw [if_neg (by decide +kernel)]; exact ⟨rfl, rfl⟩))
    (fun os started H enc _ => lifted os started H enc)

theorem proved : Rows.MatrixKnownSaid := over
end Go.Proofs.Ytdgdbjkgecfgeaa.matrixKnown

namespace Go.Proofs.Ytdgdbjkgecfgeaa
theorem matrixKnown_holds : Rows.MatrixKnownSaid := matrixKnown.proved
#print axioms matrixKnown_holds
end Go.Proofs.Ytdgdbjkgecfgeaa
