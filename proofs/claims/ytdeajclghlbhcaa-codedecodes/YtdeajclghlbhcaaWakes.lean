/- hayricklaw03.awake: it returns true; literals of two rows as matrices; matrices that are alike place by place are one. -/
import Derived.Test.YtdeajclghlbhcaaInvert
namespace Go.Proofs.Ytdeajclghlbhcaa
open Go.RowKit

theorem gd_of (xs : List Nat) {j : Nat} (h : j < xs.length) : xs.getD j 0 = xs[j] := by simp [List.getD, h]

theorem shape_ext {X Y : List (List Nat)} {n m : Nat} (hx : Shape X n m) (hy : Shape Y n m) (h : MX.Eq2 n m (at2 X) (at2 Y)) : X = Y := by
  refine list_ext (by rw [hx.len, hy.len]) (fun i hi => ?_)
  rw [hx.len] at hi
  apply List.ext_getElem (by rw [hx.row i hi, hy.row i hi])
  intro j h1 h2
  have hj : j < m := by rw [hx.row i hi] at h1; exact h1
  have := h i j hi hj
  unfold at2 at this
  rw [gd_of _ h1, gd_of _ h2] at this
  exact this

theorem lit_row {w : World} (xs : List Nat) (hx : ∀ x ∈ xs, x < 256) (hl : xs.length ≤ 1000) : Own w.heap.size (w.alloc (.cells (xs.map bv).toArray 5)) (.slice (some ⟨w.heap.size, 0, none⟩) xs.length xs.length) xs :=
  own_lit (heap_new _ _ _ rfl) (Nat.le_refl _) rfl hx (by omega)

/-- Two rows laid one behind the other, and the matrix of them. -/
abbrev litW (w : World) (h : Nat) (xs ys : List Nat) : World := ((w.alloc (.cells (xs.map bv).toArray 5)).alloc (.cells (ys.map bv).toArray 5)).alloc (.cells #[.slice (some ⟨h, 0, none⟩) xs.length xs.length, .slice (some ⟨h + 1, 0, none⟩) ys.length ys.length] 39)
theorem litW_mat (w : World) (h : Nat) (xs ys : List Nat) (e : h = w.heap.size) (hx : ∀ x ∈ xs, x < 256) (hy : ∀ x ∈ ys, x < 256) (h1 : xs.length ≤ 1000) (h2 : ys.length ≤ 1000) :
    Mat (litW w h xs ys) (.slice (some ⟨h + 1 + 1, 0, none⟩) 2 2) [.slice (some ⟨h, 0, none⟩) xs.length xs.length, .slice (some ⟨h + 1, 0, none⟩) ys.length ys.length] [xs, ys] := by
  subst e
  have a := (lit_row (w := w) xs hx h1).keep (grown_trans (World.grownBy_alloc _ (.cells (ys.map bv).toArray 5) none) (World.grownBy_alloc _ (.cells #[.slice (some ⟨w.heap.size, 0, none⟩) xs.length xs.length, .slice (some ⟨w.heap.size + 1, 0, none⟩) ys.length ys.length] 39) none))
  have b := (lit_row (w := w.alloc (.cells (xs.map bv).toArray 5)) ys hy h2).keep (World.grownBy_alloc _ (.cells #[.slice (some ⟨w.heap.size, 0, none⟩) xs.length xs.length, .slice (some ⟨w.heap.size + 1, 0, none⟩) ys.length ys.length] 39) none)
  rw [World.size_alloc] at b
  exact ⟨cells_lit (heap_new _ _ _ (by simp)) rfl (by simp), rfl, fun j hj => by
    match j, hj with
    | 0, _ => exact a.vec
    | 1, _ => exact b.vec⟩
theorem litW_grown (w : World) (h : Nat) (xs ys : List Nat) : w.grownBy (litW w h xs ys) none := grown_trans (grown_trans (World.grownBy_alloc _ _ none) (World.grownBy_alloc _ _ none)) (World.grownBy_alloc _ _ none)

theorem two {i : Nat} (h : i < 2) : i = 0 ∨ i = 1 := by omega

theorem inv_known : ¬ NoInv 2 (at2 [[1, 1], [1, 2]]) := by
  refine fun h => h ⟨at2 [[245, 244], [244, 244]], ?_, ?_⟩
  · intro i j hi hj
    rcases two hi with rfl | rfl <;> rcases two hj with rfl | rfl <;> decide
  · intro i j hi hj
    rcases two hi with rfl | rfl <;> rcases two hj with rfl | rfl <;> decide
theorem inv_is {Y : List (List Nat)} (hs : Shape Y 2 2) (h : MX.Inv 2 (at2 [[1, 1], [1, 2]]) (at2 Y)) : Y = [[245, 244], [244, 244]] := by
  refine (shape_ext (X := [[245, 244], [244, 244]]) (n := 2) (m := 2) ⟨rfl, fun j hj => ?_⟩ hs (h.unique (c := at2 [[245, 244], [244, 244]]) ?_ ?_)).symm
  · rcases two hj with rfl | rfl <;> rfl
  · intro i j hi hj
    rcases two hi with rfl | rfl <;> rcases two hj with rfl | rfl <;> decide
  · intro i j hi hj
    rcases two hi with rfl | rfl <;> rcases two hj with rfl | rfl <;> decide
theorem inv_none : NoInv 2 (at2 [[1, 2], [2, 4]]) := by
  rintro ⟨c, sm, eq⟩
  have e0 := eq 0 0 (by decide) (by decide)
  have e1 := eq 0 1 (by decide) (by decide)
  have c0 := sm 0 0 (by decide) (by decide)
  have c1 := sm 0 1 (by decide) (by decide)
  have h : MX.xs (fun t => M.mul (c 0 t) (at2 [[1, 2], [2, 4]] t 1)) 2 = M.mul (MX.xs (fun t => M.mul (c 0 t) (at2 [[1, 2], [2, 4]] t 0)) 2) 2 := by
    rw [MX.xs_mul 2 (fun j hj => M.mul_lt _ (by rcases two hj with rfl | rfl <;> assumption))]
    refine MX.xs_congr fun t ht => ?_
    rcases two ht with rfl | rfl
    · show M.mul (c 0 0) 2 = M.mul (M.mul (c 0 0) 1) 2
      rw [M.mul_one c0]
    · show M.mul (c 0 1) 4 = M.mul (M.mul (c 0 1) 2) 2
      rw [M.mul_assoc c1 (by decide) (by decide)]; rfl
  have e0' : MX.xs (fun t => M.mul (c 0 t) (at2 [[1, 2], [2, 4]] t 0)) 2 = 1 := e0
  have e1' : MX.xs (fun t => M.mul (c 0 t) (at2 [[1, 2], [2, 4]] t 1)) 2 = 0 := e1
  rw [e0', e1'] at h
  exact absurd h (by decide)

end Go.Proofs.Ytdeajclghlbhcaa
