/- Products and inverses as lists; the contract of hayricklaw03.great. -/
import Derived.Test.YtdgdbjkgecfgeaaWakes
import Derived.Test.YtdgdbjkgecfgeaaRowsM
namespace Go.Proofs.Ytdgdbjkgecfgeaa
open Go.RowKit

theorem mul_row {X Y : List (List Nat)} {n k m : Nat} (hX : Shape X n k) (hY : Shape Y k m) (hk : 1 ≤ k) {i : Nat} (hi : i < n) : (mulList X Y).getD i [] = mulRow X Y m k i := by
  have h0 := hY.row 0 (by omega)
  unfold mulList
  rw [hX.len, hY.len, h0]
  simp [List.getD, hi]
theorem mul_shape {X Y : List (List Nat)} {n k m : Nat} (hX : Shape X n k) (hY : Shape Y k m) (hk : 1 ≤ k) : Shape (mulList X Y) n m :=
  ⟨by simp [mulList, hX.len], fun j hj => by rw [mul_row hX hY hk hj, mulRow_len]⟩
theorem mul_at {X Y : List (List Nat)} {n k m : Nat} (hX : Shape X n k) (hY : Shape Y k m) (hk : 1 ≤ k) : MX.Eq2 n m (at2 (mulList X Y)) (MX.mm k (at2 X) (at2 Y)) := fun i j hi hj => by
  show ((mulList X Y).getD i []).getD j 0 = _
  rw [mul_row hX hY hk hi]
  unfold mulRow
  rw [gd_map _ hj]; rfl
theorem id_shape (n : Nat) : Shape (idList n) n n := ⟨by simp [idList], fun j hj => by simp [idList, List.getD, hj, idRow]⟩
theorem id_at (n : Nat) : MX.Eq2 n n (at2 (idList n)) MX.one := fun i j hi hj => by
  show ((idList n).getD i []).getD j 0 = _
  rw [show (idList n).getD i [] = idRow n i from by simp [idList, List.getD, hi], idRow_get n i j hj]

theorem mul_right {X Y : List (List Nat)} {n : Nat} (hX : Shape X n n) (hY : Shape Y n n) (h1 : 1 ≤ n) (h : MX.Inv n (at2 X) (at2 Y)) : mulList X Y = idList n :=
  shape_ext (mul_shape hX hY h1) (id_shape n) (((mul_at hX hY h1).trans h.r).trans (id_at n).symm)
theorem inv_twice {X Y Z : List (List Nat)} {n : Nat} (hX : Shape X n n) (hZ : Shape Z n n) (h : MX.Inv n (at2 X) (at2 Y)) (k : MX.Inv n (at2 Y) (at2 Z)) : Z = X :=
  (shape_ext hX hZ (k.unique h.sa h.r)).symm
theorem inv_has {n : Nat} {a b : Nat → Nat → Nat} (h : MX.Inv n a b) : ¬ NoInv n a := fun k => k ⟨b, h.sb, h.l⟩

/-- It returns true, or false. -/
def AnyBool (e : Ending) : Prop := ∃ b, e = .returned (.bool b)

set_option maxHeartbeats 1600000 in
theorem great_any {w : World} {r : Value} {vs : List Value} {X : List (List Nat)} (mr : Mat w r vs X) :
    Calls Try.prog 9 #[r] w fun e w' => AnyBool e ∧ w' = w := by
  obtain ⟨q, N, cap, rfl, hN⟩ := mr.row.opened
  have hNl : N ≤ 140737488351232 := by have := mr.row.len; omega
  have MR : Hid (Mat w (.slice q N cap) vs X) := mr
  have HN : Hid (N = vs.length ∧ N = X.length) := ⟨hN, by have := mr.same; omega⟩
  clear mr hN
  go_enter Try.func9, Try.ntmps9
  go_wp2_with fail
  go_loop [3, 7] (fun tn ti => ∃ (k : Nat) (x : Int), k ≤ N ∧ ti = .int .i64 k ∧ tn = .int .i64 x) (fun _ ti => N - (intOf ti).toNat)
  case atStart => exact ⟨0, 0, by omega, rfl, rfl⟩
  case round =>
    obtain ⟨k, x, hk, rfl, rfl⟩ := hrel
    by_cases hlt : k < N
    · obtain ⟨b, off, rfl, hr⟩ := MR.out.row.spot (k := k) (by have := HN.out; omega)
      obtain ⟨pk, nk, ck, ek, hnk⟩ := (MR.out.vec k (by have := HN.out; omega)).opened
      have hl : nk ≤ 140737488351232 := by rw [hnk]; exact (MR.out.vec k (by have := HN.out; omega)).len
      rw [ek] at hr
      clear ek hnk
      have i1 : (k : Int) < (N : Int) := by omega
      have i3 : (0 : Int) ≤ (k : Int) := by omega
      go_wp2
      go_round
      case rel => exact ⟨k + 1, _, by omega, by go_num, rfl⟩
      case measure => simp [intOf]; omega
    · go_wp2
      go_ret
      exact ⟨⟨_, rfl⟩, rfl⟩
end Go.Proofs.Ytdgdbjkgecfgeaa
