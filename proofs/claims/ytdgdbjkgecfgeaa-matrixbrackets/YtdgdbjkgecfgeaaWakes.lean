/- hayricklaw03.awake: it returns true; literals of two rows as matrices; matrices that are alike place by place are one. -/
import Derived.Test.YtdgdbjkgecfgeaaInvert
namespace Go.Proofs.Ytdgdbjkgecfgeaa
open Go.RowKit

theorem gd_of (xs : List Nat) {j : Nat} (h : j < xs.length) : xs.getD j 0 = xs[j] := by simp [List.getD, h]

theorem shape_ext {X Y : List (List Nat)} {n m : Nat} (hx : Shape X n m) (hy : Shape Y n m) (h : MX.Eq2 n m (at2 X) (at2 Y)) : X = Y := by
  refine list_ext (by rw [hx.len, hy.len]) (fun i hi => ?_)
  rw [hx.len] at hi
  apply List.ext_getElem (by rw [hx.row i hi, hy.row i hi])
  intro j h1 h2
  have hj : j < m := by rw [hx.row i hi] at h1; exact h1
  have := h i j hi hj
  unfold at2 at this
  rw [gd_of _ h1, gd_of _ h2] at this
  exact this

theorem lit_row {w : World} (xs : List Nat) (hx : ∀ x ∈ xs, x < 256) (hl : xs.length ≤ 1000) : Own w.heap.size (w.alloc (.cells (xs.map bv).toArray 5)) (.slice (some ⟨w.heap.size, 0, none⟩) xs.length xs.length) xs :=
  own_lit (heap_new _ _ _ rfl) (Nat.le_refl _) rfl hx (by omega)

/-- Two rows laid one behind the other, and the matrix of them. -/
abbrev litW (w : World) (h : Nat) (xs ys : List Nat) : World := ((w.alloc (.cells (xs.map bv).toArray 5)).alloc (.cells (ys.map bv).toArray 5)).alloc (.cells #[.slice (some ⟨h, 0, none⟩) xs.length xs.length, .slice (some ⟨h + 1, 0, none⟩) ys.length ys.length] 45)
theorem litW_mat (w : World) (h : Nat) (xs ys : List Nat) (e : h = w.heap.size) (hx : ∀ x ∈ xs, x < 256) (hy : ∀ x ∈ ys, x < 256) (h1 : xs.length ≤ 1000) (h2 : ys.length ≤ 1000) :
    Mat (litW w h xs ys) (.slice (some ⟨h + 1 + 1, 0, none⟩) 2 2) [.slice (some ⟨h, 0, none⟩) xs.length xs.length, .slice (some ⟨h + 1, 0, none⟩) ys.length ys.length] [xs, ys] := by
  subst e
  have a := (lit_row (w := w) xs hx h1).keep (grown_trans (World.grownBy_alloc _ (.cells (ys.map bv).toArray 5) none) (World.grownBy_alloc _ (.cells #[.slice (some ⟨w.heap.size, 0, none⟩) xs.length xs.length, .slice (some ⟨w.heap.size + 1, 0, none⟩) ys.length ys.length] 45) none))
  have b := (lit_row (w := w.alloc (.cells (xs.map bv).toArray 5)) ys hy h2).keep (World.grownBy_alloc _ (.cells #[.slice (some ⟨w.heap.size, 0, none⟩) xs.length xs.length, .slice (some ⟨w.heap.size + 1, 0, none⟩) ys.length ys.length] 45) none)
  rw [World.size_alloc] at b
  exact ⟨cells_lit (heap_new _ _ _ (by simp)) rfl (by simp), rfl, fun j hj => by
    match j, hj with
    | 0, _ => exact a.vec
    | 1, _ => exact b.vec⟩
theorem litW_grown (w : World) (h : Nat) (xs ys : List Nat) : w.grownBy (litW w h xs ys) none := grown_trans (grown_trans (World.grownBy_alloc _ _ none) (World.grownBy_alloc _ _ none)) (World.grownBy_alloc _ _ none)

theorem two {i : Nat} (h : i < 2) : i = 0 ∨ i = 1 := by omega

theorem inv_known : ¬ NoInv 2 (at2 [[1, 1], [1, 2]]) := by
  refine fun h => h ⟨at2 [[245, 244], [244, 244]], ?_, ?_⟩
  · intro i j hi hj
    rcases two hi with rfl | rfl <;> rcases two hj with rfl | rfl <;> decide
  · intro i j hi hj
    rcases two hi with rfl | rfl <;> rcases two hj with rfl | rfl <;> decide
theorem inv_is {Y : List (List Nat)} (hs : Shape Y 2 2) (h : MX.Inv 2 (at2 [[1, 1], [1, 2]]) (at2 Y)) : Y = [[245, 244], [244, 244]] := by
  refine (shape_ext (X := [[245, 244], [244, 244]]) (n := 2) (m := 2) ⟨rfl, fun j hj => ?_⟩ hs (h.unique (c := at2 [[245, 244], [244, 244]]) ?_ ?_)).symm
  · rcases two hj with rfl | rfl <;> rfl
  · intro i j hi hj
    rcases two hi with rfl | rfl <;> rcases two hj with rfl | rfl <;> decide
  · intro i j hi hj
    rcases two hi with rfl | rfl <;> rcases two hj with rfl | rfl <;> decide
theorem inv_none : NoInv 2 (at2 [[1, 2], [2, 4]]) := by
  rintro ⟨c, sm, eq⟩
  have e0 := eq 0 0 (by decide) (by decide)
  have e1 := eq 0 1 (by decide) (by decide)
  have c0 := sm 0 0 (by decide) (by decide)
  have c1 := sm 0 1 (by decide) (by decide)
  have h : MX.xs (fun t => M.mul (c 0 t) (at2 [[1, 2], [2, 4]] t 1)) 2 = M.mul (MX.xs (fun t => M.mul (c 0 t) (at2 [[1, 2], [2, 4]] t 0)) 2) 2 := by
    rw [MX.xs_mul 2 (fun j hj => M.mul_lt _ (by rcases two hj with rfl | rfl <;> assumption))]
    refine MX.xs_congr fun t ht => ?_
    rcases two ht with rfl | rfl
    · show M.mul (c 0 0) 2 = M.mul (M.mul (c 0 0) 1) 2
      rw [M.mul_one c0]
    · show M.mul (c 0 1) 4 = M.mul (M.mul (c 0 1) 2) 2
      rw [M.mul_assoc c1 (by decide) (by decide)]; rfl
  have e0' : MX.xs (fun t => M.mul (c 0 t) (at2 [[1, 2], [2, 4]] t 0)) 2 = 1 := e0
  have e1' : MX.xs (fun t => M.mul (c 0 t) (at2 [[1, 2], [2, 4]] t 1)) 2 = 0 := e1
  rw [e0', e1'] at h
  exact absurd h (by decide)

set_option maxHeartbeats 3200000 in
theorem awake_any (w : World) : Calls Try.prog 8 #[] w fun e w' => e = .returned (.bool true) ∧ w.grownBy w' none := by
  go_enter Try.func8, Try.ntmps8
  go_wp2_with fail
  have m1 := (litW_mat w w.heap.size [1, 2] [3, 4] rfl (by decide) (by decide) (by decide) (by decide)).keep (litW_grown _ (w.heap.size + 1 + 1 + 1) [5] [6])
  have m2 := litW_mat (litW w w.heap.size [1, 2] [3, 4]) (w.heap.size + 1 + 1 + 1) [5] [6] (by simp) (by decide) (by decide) (by decide) (by decide)
  have g0 := grown_trans (litW_grown w w.heap.size [1, 2] [3, 4]) (litW_grown _ (w.heap.size + 1 + 1 + 1) [5] [6])
  refine (mul_yes m1 m2 (by decide) (by decide) (by decide)).mono ?_
  rintro e w1 ⟨v, us, rfl, om, sp, g1⟩
  rw [show mulList [[1, 2], [3, 4]] [[5], [6]] = [[9], [23]] from by decide] at om
  obtain ⟨pa, na, ca, rfl, hna⟩ := om.mat.row.opened
  have MA : Hid (Mat w1 (.slice pa na ca) us [[9], [23]]) := om.mat
  have G1 : Hid (w.grownBy w1 none) := grown_trans g0 g1
  clear m1 m2 g0 om sp g1 hna
  go_wp2_with fail
  have m1 := litW_mat w1 w1.heap.size [1, 1] [1, 2] rfl (by decide) (by decide) (by decide) (by decide)
  have g0 := litW_grown w1 w1.heap.size [1, 1] [1, 2]
  refine (invert_yes m1 (by decide) (by decide) inv_known).mono ?_
  rintro e w2 ⟨pb, nb, cb, us2, Y, rfl, an⟩
  obtain rfl := inv_is an.shape an.inv
  have MB : Hid (Mat w2 (.slice pb nb cb) us2 [[245, 244], [244, 244]]) := an.om.mat
  have MA2 : Hid (Mat w2 (.slice pa na ca) us [[9], [23]]) := MA.out.keep (grown_trans g0 an.grown)
  have G2 : Hid (w.grownBy w2 none) := grown_trans G1.out (grown_trans g0 an.grown)
  clear m1 g0 an MA G1
  go_wp2_with fail
  have m1 := litW_mat w2 w2.heap.size [1, 2] [2, 4] rfl (by decide) (by decide) (by decide) (by decide)
  have g0 := litW_grown w2 w2.heap.size [1, 2] [2, 4]
  refine (invert_no m1 (by decide) (by decide) inv_none).mono ?_
  rintro e w3 ⟨rfl, g3⟩
  have MB3 : Hid (Mat w3 (.slice pb nb cb) us2 [[245, 244], [244, 244]]) := MB.out.keep (grown_trans g0 g3)
  have MA3 : Hid (Mat w3 (.slice pa na ca) us [[9], [23]]) := MA2.out.keep (grown_trans g0 g3)
  have G3 : Hid (w.grownBy w3 none) := grown_trans G2.out (grown_trans g0 g3)
  clear m1 g0 g3 MB MA2 G2
  go_wp2_with fail
  have m1 := litW_mat w3 w3.heap.size [9] [23] rfl (by decide) (by decide) (by decide) (by decide)
  have g0 := litW_grown w3 w3.heap.size [9] [23]
  refine (refSame_any (MA3.out.keep g0) m1).mono ?_
  rintro e w4 ⟨rfl, g4⟩
  have MB4 : Hid (Mat w4 (.slice pb nb cb) us2 [[245, 244], [244, 244]]) := MB3.out.keep (grown_trans g0 g4)
  have G4 : Hid (w.grownBy w4 none) := grown_trans G3.out (grown_trans g0 g4)
  clear m1 g0 g4 MB3 MA3 G3
  go_wp2_with fail
  have m1 := litW_mat w4 w4.heap.size [245, 244] [244, 244] rfl (by decide) (by decide) (by decide) (by decide)
  have g0 := litW_grown w4 w4.heap.size [245, 244] [244, 244]
  refine (refSame_any (MB4.out.keep g0) m1).mono ?_
  rintro e w5 ⟨rfl, g5⟩
  have G5 : Hid (w.grownBy w5 none) := grown_trans G4.out (grown_trans g0 g5)
  clear m1 g0 g5 MB4 G4
  go_wp2
  go_ret
  exact ⟨rfl, G5.out⟩
end Go.Proofs.Ytdgdbjkgecfgeaa
