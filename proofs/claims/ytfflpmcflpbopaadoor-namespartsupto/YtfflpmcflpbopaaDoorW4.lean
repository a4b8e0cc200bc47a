/- What NamesParts asks for: contracts at a name. -/
import Derived.Test.YtfflpmcflpbopaaDoorWake
set_option linter.unusedVariables false
set_option linter.unusedSimpArgs false
namespace Go.Proofs.YtfflpmcflpbopaaDoor
open Go.RowKit

theorem runes_of (s : ByteArray) (X : List Nat) (W : World) (h : R.runes (bs s) = X ∧ s.size * 4 ≤ 140737488355328) : Calls Tryd.prog 13 #[.string s] W fun e w' => ∃ p c, e = .returned (.slice p X.length c) ∧ RV w' p X ∧ W.grownBy w' none := by
  obtain ⟨rfl, h⟩ := h
  exact (runes_any s W h).mono fun e w' ⟨p, c, h1, h2, h3⟩ => ⟨p, c, h1, h2.rvw, h3⟩
theorem runes_at (s : ByteArray) (X : List Nat) (W : World) (h : R.runes (bs s) = X ∧ s.size * 4 ≤ 140737488355328 ∧ X ≠ []) : Calls Tryd.prog 13 #[.string s] W fun e w' => ∃ b c, e = .returned (.slice (some ⟨b, 0, none⟩) X.length c) ∧ (X.length : Int) ≤ (c : Int) ∧ RV w' (some ⟨b, 0, none⟩) X ∧ W.grownBy w' none := by
  obtain ⟨rfl, h, hn⟩ := h
  refine (runes_any s W h).mono fun e w' ⟨p, c, h1, h2, h3⟩ => ?_
  rcases h2.row.2 with ⟨e1, h0⟩ | ⟨b, cap, cur, e1, hb, hg, hc, _⟩
  · exact absurd (List.eq_nil_of_length_eq_zero h0) hn
  · injection e1 with e1 e2 e3
    subst e1
    subst e3
    exact ⟨b, c, h1, by omega, h2.rvw, h3⟩
theorem runes_len_of (s : ByteArray) (z : Nat) (W : World) (h : (R.runes (bs s)).length = z ∧ s.size * 4 ≤ 140737488355328) : Calls Tryd.prog 13 #[.string s] W fun e w' => ∃ p c, e = .returned (.slice p z c) ∧ W.grownBy w' none := by
  obtain ⟨rfl, h⟩ := h
  exact (runes_any s W h).mono fun e w' ⟨p, c, h1, h2, h3⟩ => ⟨p, c, h1, h3⟩
end Go.Proofs.YtfflpmcflpbopaaDoor
