/- What Put and Take answer, told once for all loads and bytes, and for the document's too. -/
import Derived.Test.YthmdidiojjmebaaRef5
import Derived.Test.YthmdidiojjmebaaPut5
namespace Go.Proofs.Ythmdidiojjmebaa
open Go.RowKit

def putS (n : Nat) (ld : List Nat) : List Nat := if ld.length ≤ 56 then SM.sec n ld else []
def putE (ld : List Nat) : Int := if ld.length ≤ 56 then 0 else 3
def takeN (xs : List Nat) : Nat := if xs.length = 64 then SM.val xs 8 else 0
def takeL (xs : List Nat) : List Nat := if xs.length = 64 then xs.drop 8 else []
def takeE (xs : List Nat) : Int := if xs.length = 64 then 0 else if xs.length < 64 then 4 else 3
theorem putS_small {n : Nat} {ld : List Nat} (h : ∀ x ∈ ld, x < 256) : ∀ x ∈ putS n ld, x < 256 := by
  unfold putS
  split
  · exact SM.sec_small h
  · simp

theorem put_all {w : World} {n : Nat} {v : Value} {ld : List Nat} (hv : Vec w v ld) :
    Calls Try.prog 21 #[.int .u64 (n : Int), v] w fun e w' => ∃ p k, e = .returned (.tuple #[.slice p k k, .int .i64 (putE ld)]) ∧ Sect w.heap.size w' (.slice p k k) (putS n ld) ∧ w.grownBy w' none := by
  unfold putS putE
  by_cases hl : ld.length ≤ 56
  · rw [if_pos hl, if_pos hl]
    exact (put_yes hv hl).mono fun e w' ⟨p, h⟩ => ⟨p, 64, h⟩
  · rw [if_neg hl, if_neg hl]
    exact (put_long hv (by omega)).mono fun e w' ⟨h1, h2⟩ => ⟨none, 0, h1, Arr.nil _ _ _, by rw [h2]; exact World.grownBy.refl _ _⟩
theorem refPut_all {w : World} {n : Nat} {v : Value} {ld : List Nat} (hn : n < 18446744073709551616) (hv : Vec w v ld) :
    Calls Try.prog 16 #[.int .u64 (n : Int), v] w fun e w' => ∃ u, e = .returned (.tuple #[u, .int .i64 (putE ld)]) ∧ Own w.heap.size w' u (putS n ld) ∧ w.grownBy w' none := by
  unfold putS putE
  by_cases hl : ld.length ≤ 56
  · rw [if_pos hl, if_pos hl]
    exact (refPut_yes hn hv hl).mono fun e w' ⟨p, h⟩ => ⟨_, h⟩
  · rw [if_neg hl, if_neg hl]
    exact (refPut_long hv (by omega)).mono fun e w' ⟨h1, h2⟩ => ⟨_, h1, Own.nil _ _, by rw [h2]; exact World.grownBy.refl _ _⟩
theorem take_all {w : World} {v : Value} {xs : List Nat} (hv : Vec w v xs) :
    Calls Try.prog 22 #[v] w fun e w' => ∃ p k, e = .returned (.tuple #[.int .u64 ((takeN xs : Nat) : Int), .slice p k k, .int .i64 (takeE xs)]) ∧ Own w.heap.size w' (.slice p k k) (takeL xs) ∧ w.grownBy w' none := by
  unfold takeN takeL takeE
  by_cases hl : xs.length = 64
  · rw [if_pos hl, if_pos hl, if_pos hl]
    exact (take_yes hv hl).mono fun e w' ⟨p, h⟩ => ⟨p, 56, h⟩
  · rw [if_neg hl, if_neg hl, if_neg hl]
    by_cases h2 : xs.length < 64
    · rw [if_pos h2]
      exact (take_short hv h2).mono fun e w' ⟨h1, h2⟩ => ⟨none, 0, h1, Own.nil _ _, by rw [h2]; exact World.grownBy.refl _ _⟩
    · rw [if_neg h2]
      exact (take_long hv (by omega)).mono fun e w' ⟨h1, h2⟩ => ⟨none, 0, h1, Own.nil _ _, by rw [h2]; exact World.grownBy.refl _ _⟩
theorem refTake_all {w : World} {v : Value} {xs : List Nat} (hv : Vec w v xs) :
    Calls Try.prog 19 #[v] w fun e w' => ∃ u, e = .returned (.tuple #[.int .u64 ((takeN xs : Nat) : Int), u, .int .i64 (takeE xs)]) ∧ Own w.heap.size w' u (takeL xs) ∧ w.grownBy w' none := by
  unfold takeN takeL takeE
  by_cases hl : xs.length = 64
  · rw [if_pos hl, if_pos hl, if_pos hl]
    exact refTake_yes hv hl
  · rw [if_neg hl, if_neg hl, if_neg hl]
    by_cases h2 : xs.length < 64
    · rw [if_pos h2]
      exact (refTake_short hv h2).mono fun e w' ⟨h1, h2⟩ => ⟨_, h1, Own.nil _ _, by rw [h2]; exact World.grownBy.refl _ _⟩
    · rw [if_neg h2]
      exact (refTake_long hv (by omega)).mono fun e w' ⟨h1, h2⟩ => ⟨_, h1, Own.nil _ _, by rw [h2]; exact World.grownBy.refl _ _⟩
end Go.Proofs.Ythmdidiojjmebaa
