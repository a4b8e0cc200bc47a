/- What Mul, Invert and Rows answer, told once for the program and the document: an answer and a number; there is one such pair alone. -/
import Derived.Test.YtdgdbjkgecfgeaaWakes
import Derived.Test.YtdgdbjkgecfgeaaMulInv
import Derived.Test.YtdgdbjkgecfgeaaRefMulM
import Derived.Test.YtdgdbjkgecfgeaaRefInv
import Derived.Test.YtdgdbjkgecfgeaaSpoil
namespace Go.Proofs.Ytdgdbjkgecfgeaa
open Go.RowKit

def MulIs (X Y P : List (List Nat)) (c : Int) : Prop := ((mayB X = true ∧ mayB Y = true ∧ (X.getD 0 []).length = Y.length) ∧ P = mulList X Y ∧ c = 0) ∨ (¬ (mayB X = true ∧ mayB Y = true ∧ (X.getD 0 []).length = Y.length) ∧ P = [] ∧ c = 1)
def RowsIs (X : List (List Nat)) (ls : List Int) (P : List (List Nat)) (c : Int) : Prop := (rowsOK X ls ∧ P = rowsList X ls ∧ c = 0) ∨ (¬ rowsOK X ls ∧ P = [] ∧ c = 1)
def InvIs (X P : List (List Nat)) (c : Int) : Prop :=
  (¬ (mayB X = true ∧ X.length = (X.getD 0 []).length) ∧ P = [] ∧ c = 1) ∨
  ((mayB X = true ∧ X.length = (X.getD 0 []).length) ∧ NoInv X.length (at2 X) ∧ P = [] ∧ c = 22) ∨
  ((mayB X = true ∧ X.length = (X.getD 0 []).length) ∧ Shape P X.length X.length ∧ MX.Inv X.length (at2 X) (at2 P) ∧ c = 0)

theorem MulIs.one {X Y P Q : List (List Nat)} {c d : Int} (h : MulIs X Y P c) (k : MulIs X Y Q d) : P = Q ∧ c = d := by
  rcases h with ⟨a, rfl, rfl⟩ | ⟨a, rfl, rfl⟩ <;> rcases k with ⟨b, rfl, rfl⟩ | ⟨b, rfl, rfl⟩ <;> first | exact ⟨rfl, rfl⟩ | exact absurd a b | exact absurd b a
theorem RowsIs.one {X : List (List Nat)} {ls : List Int} {P Q : List (List Nat)} {c d : Int} (h : RowsIs X ls P c) (k : RowsIs X ls Q d) : P = Q ∧ c = d := by
  rcases h with ⟨a, rfl, rfl⟩ | ⟨a, rfl, rfl⟩ <;> rcases k with ⟨b, rfl, rfl⟩ | ⟨b, rfl, rfl⟩ <;> first | exact ⟨rfl, rfl⟩ | exact absurd a b | exact absurd b a
theorem InvIs.one {X P Q : List (List Nat)} {c d : Int} (h : InvIs X P c) (k : InvIs X Q d) : P = Q ∧ c = d := by
  rcases h with ⟨a, rfl, rfl⟩ | ⟨a, n, rfl, rfl⟩ | ⟨a, s, i, rfl⟩ <;> rcases k with ⟨b, rfl, rfl⟩ | ⟨b, n', rfl, rfl⟩ | ⟨b, s', i', rfl⟩
  · exact ⟨rfl, rfl⟩
  · exact absurd b a
  · exact absurd b a
  · exact absurd a b
  · exact ⟨rfl, rfl⟩
  · exact absurd n (inv_has i')
  · exact absurd a b
  · exact absurd n' (inv_has i)
  · exact ⟨shape_ext s s' (i'.unique i.sb i.l), rfl⟩

theorem mul_both {w : World} {a b : Value} {va vb : List Value} {X Y : List (List Nat)} (ma : Mat w a va X) (mb : Mat w b vb Y) :
    Calls Try.prog 11 #[a, b] w fun e w' => ∃ p n c us P k, e = .returned (.tuple #[.slice p n c, .int .i64 k]) ∧ OwnMat w.heap.size w' (.slice p n c) us P ∧ MulIs X Y P k ∧ w.grownBy w' none := by
  by_cases h : mayB X = true ∧ mayB Y = true ∧ (X.getD 0 []).length = Y.length
  · refine (mul_yes ma mb h.1 h.2.1 h.2.2).mono ?_
    rintro e w' ⟨v, us, rfl, om, _, g⟩
    obtain ⟨p, n, c, rfl, _⟩ := om.mat.row.opened
    exact ⟨p, n, c, us, _, _, rfl, om, .inl ⟨h, rfl, rfl⟩, g⟩
  · refine (mul_no ma mb h).mono ?_
    rintro e w' ⟨rfl, rfl⟩
    exact ⟨none, 0, 0, [], [], _, rfl, OwnMat.nil _ _, .inr ⟨h, rfl, rfl⟩, World.grownBy.refl _ _⟩
theorem refMul_both {w : World} {a b : Value} {va vb : List Value} {X Y : List (List Nat)} (ma : Mat w a va X) (mb : Mat w b vb Y) :
    Calls Try.prog 12 #[a, b] w fun e w' => ∃ p n c us P k, e = .returned (.tuple #[.slice p n c, .int .i64 k]) ∧ OwnMat w.heap.size w' (.slice p n c) us P ∧ MulIs X Y P k ∧ w.grownBy w' none := by
  by_cases h : mayB X = true ∧ mayB Y = true ∧ (X.getD 0 []).length = Y.length
  · refine (refMul_yes ma mb h.1 h.2.1 h.2.2).mono ?_
    rintro e w' ⟨v, us, rfl, om, g⟩
    obtain ⟨p, n, c, rfl, _⟩ := om.mat.row.opened
    exact ⟨p, n, c, us, _, _, rfl, om, .inl ⟨h, rfl, rfl⟩, g⟩
  · refine (refMul_no ma mb h).mono ?_
    rintro e w' ⟨rfl, rfl⟩
    exact ⟨none, 0, 0, [], [], _, rfl, OwnMat.nil _ _, .inr ⟨h, rfl, rfl⟩, World.grownBy.refl _ _⟩
theorem invert_both {w : World} {a : Value} {va : List Value} {X : List (List Nat)} (ma : Mat w a va X) :
    Calls Try.prog 13 #[a] w fun e w' => ∃ p n c us P k, e = .returned (.tuple #[.slice p n c, .int .i64 k]) ∧ OwnMat w.heap.size w' (.slice p n c) us P ∧ InvIs X P k ∧ w.grownBy w' none := by
  by_cases h : mayB X = true ∧ X.length = (X.getD 0 []).length
  · by_cases hi : NoInv X.length (at2 X)
    · refine (invert_no ma h.1 h.2 hi).mono ?_
      rintro e w' ⟨rfl, g⟩
      exact ⟨none, 0, 0, [], [], _, rfl, OwnMat.nil _ _, .inr (.inl ⟨h, hi, rfl, rfl⟩), g⟩
    · refine (invert_yes ma h.1 h.2 hi).mono ?_
      rintro e w' ⟨p, n, c, us, Y, rfl, an⟩
      exact ⟨p, n, c, us, Y, _, rfl, an.om, .inr (.inr ⟨h, an.shape, an.inv, rfl⟩), an.grown⟩
  · refine (invert_bad ma h).mono ?_
    rintro e w' ⟨rfl, g⟩
    exact ⟨none, 0, 0, [], [], _, rfl, OwnMat.nil _ _, .inl ⟨h, rfl, rfl⟩, g⟩
theorem refInvert_both {w : World} {a : Value} {va : List Value} {X : List (List Nat)} (ma : Mat w a va X) :
    Calls Try.prog 14 #[a] w fun e w' => ∃ p n c us P k, e = .returned (.tuple #[.slice p n c, .int .i64 k]) ∧ OwnMat w.heap.size w' (.slice p n c) us P ∧ InvIs X P k ∧ w.grownBy w' none := by
  by_cases h : mayB X = true ∧ X.length = (X.getD 0 []).length
  · refine (refInvert_any ma h.1 h.2).mono ?_
    rintro e w' ⟨g, ⟨p, n, c, us, Y, rfl, om, sh, iv⟩ | ⟨rfl, no⟩⟩
    · exact ⟨p, n, c, us, Y, _, rfl, om, .inr (.inr ⟨h, sh, iv, rfl⟩), g⟩
    · exact ⟨none, 0, 0, [], [], _, rfl, OwnMat.nil _ _, .inr (.inl ⟨h, no, rfl, rfl⟩), g⟩
  · refine (refInvert_bad ma h).mono ?_
    rintro e w' ⟨rfl, rfl⟩
    exact ⟨none, 0, 0, [], [], _, rfl, OwnMat.nil _ _, .inl ⟨h, rfl, rfl⟩, World.grownBy.refl _ _⟩
theorem rows_both {w : World} {m l : Value} {vs : List Value} {X : List (List Nat)} {ls : List Int} (mr : Mat w m vs X) (hl : IVec w l ls) :
    Calls Try.prog 15 #[m, l] w fun e w' => ∃ p n c us P k, e = .returned (.tuple #[.slice p n c, .int .i64 k]) ∧ OwnMat w.heap.size w' (.slice p n c) us P ∧ RowsIs X ls P k ∧ w.grownBy w' none :=
  (rows_any mr hl).mono fun e w' h => by
    rcases h with ⟨g, ⟨ok, p, n, c, us, rfl, om⟩ | ⟨no, rfl⟩⟩
    · exact ⟨p, n, c, us, _, _, rfl, om, .inl ⟨ok, rfl, rfl⟩, g⟩
    · exact ⟨none, 0, 0, [], [], _, rfl, OwnMat.nil _ _, .inr ⟨no, rfl, rfl⟩, g⟩
theorem refRows_both {w : World} {m l : Value} {vs : List Value} {X : List (List Nat)} {ls : List Int} (mr : Mat w m vs X) (hl : IVec w l ls) :
    Calls Try.prog 16 #[m, l] w fun e w' => ∃ p n c us P k, e = .returned (.tuple #[.slice p n c, .int .i64 k]) ∧ OwnMat w.heap.size w' (.slice p n c) us P ∧ RowsIs X ls P k ∧ w.grownBy w' none :=
  (refRows_any mr hl).mono fun e w' h => by
    rcases h with ⟨g, ⟨ok, p, n, c, us, rfl, om⟩ | ⟨no, rfl⟩⟩
    · exact ⟨p, n, c, us, _, _, rfl, om, .inl ⟨ok, rfl, rfl⟩, g⟩
    · exact ⟨none, 0, 0, [], [], _, rfl, OwnMat.nil _ _, .inr ⟨no, rfl, rfl⟩, g⟩
end Go.Proofs.Ytdgdbjkgecfgeaa
