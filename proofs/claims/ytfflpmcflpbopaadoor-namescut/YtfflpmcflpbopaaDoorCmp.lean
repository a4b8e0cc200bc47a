/- Contracts of strings.Compare and cmp.Compare at rune. -/
import Derived.Test.YtfflpmcflpbopaaDoorByt
import Derived.WalkSpells
import Derived.WalkLawsBesides
set_option linter.unusedVariables false
namespace Go.Proofs.YtfflpmcflpbopaaDoor
open Go.RowKit

theorem compareString_any (a b : ByteArray) (w : World) :
    Calls Tryd.prog 32 #[.string a, .string b] w fun e w' => e = .returned (.int .i64 (R.lex (bs a) (bs b))) ∧ w' = w := by
  go_enter Tryd.func32, Tryd.ntmps32
  go_wp2
  rw [run_callFunc_extern Tryd.func35 (by kernel_rfl) (by kernel_rfl) (by kernel_rfl) (e := Extern.BytealgCompare.compare) (by kernel_rfl), Lib.run_compareString]
  simp only [Result.andThen]
  rw [Oper.upon_value]
  go_wp2
  go_ret
  rw [compare_bs]
  exact ⟨rfl, rfl⟩
theorem compareText_any (a b : ByteArray) (w : World) :
    Calls Tryd.prog 27 #[.string a, .string b] w fun e w' => e = .returned (.int .i64 (R.lex (bs a) (bs b))) ∧ w' = w := by
  go_enter Tryd.func27, Tryd.ntmps27
  go_wp2_with (go_at_call 32; refine (compareString_any _ _ _).mono ?_; rintro e w' ⟨rfl, rfl⟩)
  go_ret
  exact ⟨rfl, rfl⟩
theorem isNaN_any (x : Int) (w : World) :
    Calls Tryd.prog 31 #[.int .i32 x] w fun e w' => e = .returned (.bool false) ∧ w' = w := by
  go_enter Tryd.func31, Tryd.ntmps31
  go_wp2
  go_ret
  exact ⟨by simp, rfl⟩
def cmpRune (x y : Int) : Int := if x < y then -1 else if y < x then 1 else 0
theorem compareRune_any (x y : Int) (w : World) :
    Calls Tryd.prog 26 #[.int .i32 x, .int .i32 y] w fun e w' => e = .returned (.int .i64 (cmpRune x y)) ∧ w' = w := by
  go_enter Tryd.func26, Tryd.ntmps26
  go_wp2_with (go_at_call 31; refine (isNaN_any _ _).mono ?_; rintro e w' ⟨rfl, hw⟩; rw [hw])
  all_goals (go_ret; refine ⟨?_, rfl⟩; unfold cmpRune; (repeat' split) <;> first | rfl | (exfalso; omega))
end Go.Proofs.YtfflpmcflpbopaaDoor
