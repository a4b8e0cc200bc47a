/- Products and inverses as lists; the contract of hayricklaw03.great. -/
import Derived.Test.YtdeajclghlbhcaaWakes
import Derived.Test.YtdeajclghlbhcaaRowsM
namespace Go.Proofs.Ytdeajclghlbhcaa
open Go.RowKit

theorem mul_row {X Y : List (List Nat)} {n k m : Nat} (hX : Shape X n k) (hY : Shape Y k m) (hk : 1 ≤ k) {i : Nat} (hi : i < n) : (mulList X Y).getD i [] = mulRow X Y m k i := by
  have h0 := hY.row 0 (by omega)
  unfold mulList
  rw [hX.len, hY.len, h0]
  simp [List.getD, hi]
theorem mul_shape {X Y : List (List Nat)} {n k m : Nat} (hX : Shape X n k) (hY : Shape Y k m) (hk : 1 ≤ k) : Shape (mulList X Y) n m :=
  ⟨by simp [mulList, hX.len], fun j hj => by rw [mul_row hX hY hk hj, mulRow_len]⟩
theorem mul_at {X Y : List (List Nat)} {n k m : Nat} (hX : Shape X n k) (hY : Shape Y k m) (hk : 1 ≤ k) : MX.Eq2 n m (at2 (mulList X Y)) (MX.mm k (at2 X) (at2 Y)) := fun i j hi hj => by
  show ((mulList X Y).getD i []).getD j 0 = _
  rw [mul_row hX hY hk hi]
  unfold mulRow
  rw [gd_map _ hj]; rfl
theorem id_shape (n : Nat) : Shape (idList n) n n := ⟨by simp [idList], fun j hj => by simp [idList, List.getD, hj, idRow]⟩
theorem id_at (n : Nat) : MX.Eq2 n n (at2 (idList n)) MX.one := fun i j hi hj => by
  show ((idList n).getD i []).getD j 0 = _
  rw [show (idList n).getD i [] = idRow n i from by simp [idList, List.getD, hi], idRow_get n i j hj]

theorem mul_right {X Y : List (List Nat)} {n : Nat} (hX : Shape X n n) (hY : Shape Y n n) (h1 : 1 ≤ n) (h : MX.Inv n (at2 X) (at2 Y)) : mulList X Y = idList n :=
  shape_ext (mul_shape hX hY h1) (id_shape n) (((mul_at hX hY h1).trans h.r).trans (id_at n).symm)
theorem inv_twice {X Y Z : List (List Nat)} {n : Nat} (hX : Shape X n n) (hZ : Shape Z n n) (h : MX.Inv n (at2 X) (at2 Y)) (k : MX.Inv n (at2 Y) (at2 Z)) : Z = X :=
  (shape_ext hX hZ (k.unique h.sa h.r)).symm
theorem inv_has {n : Nat} {a b : Nat → Nat → Nat} (h : MX.Inv n a b) : ¬ NoInv n a := fun k => k ⟨b, h.sb, h.l⟩

/-- It returns true, or false. -/
def AnyBool (e : Ending) : Prop := ∃ b, e = .returned (.bool b)

end Go.Proofs.Ytdeajclghlbhcaa
