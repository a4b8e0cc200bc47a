/- What Encode and One answer, told once for the program and the document. -/
import Derived.Test.YtdeajclghlbhcaaFlat4
set_option linter.unusedVariables false
namespace Go.Proofs.Ytdeajclghlbhcaa
open Go.RowKit

def encL (k n : Int) (X : List (List Nat)) : List (List Nat) := if fitsB k n X then codeList X k.toNat n.toNat (X.getD 0 []).length else []
def encE (k n : Int) (X : List (List Nat)) : Int := if fitsB k n X then 0 else 1
def oneB (k n i : Int) (X : List (List Nat)) : Bool := fitsB k n X && (decide (0 ≤ i) && decide (i < n))
def oneL (k n i : Int) (X : List (List Nat)) : List Nat := if oneB k n i X then codeRow X k.toNat (X.getD 0 []).length i.toNat else []
def oneE (k n i : Int) (X : List (List Nat)) : Int := if oneB k n i X then 0 else 1

theorem fits_parts {k n : Int} {X : List (List Nat)} (h : fitsB k n X = true) : k = (k.toNat : Int) ∧ n = (n.toNat : Int) ∧ 1 ≤ k.toNat ∧ k.toNat < n.toNat ∧ n.toNat ≤ 255 ∧ Shape X k.toNat (X.getD 0 []).length := by
  obtain ⟨h1, h2, h3⟩ := fitsB_iff.1 h
  refine ⟨by omega, by omega, by omega, by omega, by omega, ?_⟩
  have := even_shape h3
  rwa [show X.length = k.toNat by omega] at this

theorem Sep.none : Sep [] := fun i j hi _ _ => absurd hi (by simp)
theorem made_none {w w' : World} (g : w.grownBy w' none) (er : Int) : Made w [] er (.returned (.tuple #[.slice none 0 0, .int .i64 er])) w' :=
  ⟨none, 0, 0, [], rfl, OwnMat.nil _ _, Sep.none, g⟩

theorem encode_all {w : World} {r : Value} {vs : List Value} {X : List (List Nat)} (k n : Int) (mr : Mat w r vs X) :
    Calls Try.prog 17 #[.int .i64 k, .int .i64 n, r] w (Made w (encL k n X) (encE k n X)) := by
  unfold encL encE
  by_cases hf : fitsB k n X = true
  · obtain ⟨e1, e2, h1, h2, h3, hs⟩ := fits_parts hf
    rw [if_pos hf, if_pos hf]
    have := encode_yes mr hs h1 h2 h3
    rwa [← e1, ← e2] at this
  · rw [if_neg hf, if_neg hf]
    refine (encode_no mr (by simpa using hf)).mono ?_
    rintro e w' ⟨rfl, rfl⟩
    exact made_none (World.grownBy.refl _ _) 1
theorem refEncode_all {w : World} {r : Value} {vs : List Value} {X : List (List Nat)} (k n : Int) (mr : Mat w r vs X) :
    Calls Try.prog 18 #[.int .i64 k, .int .i64 n, r] w (Made w (encL k n X) (encE k n X)) := by
  unfold encL encE
  by_cases hf : fitsB k n X = true
  · obtain ⟨e1, e2, h1, h2, h3, hs⟩ := fits_parts hf
    rw [if_pos hf, if_pos hf]
    have := refEncode_yes mr hs h1 h2 h3
    rwa [← e1, ← e2] at this
  · rw [if_neg hf, if_neg hf]
    refine (refEncode_no mr (by simpa using hf)).mono ?_
    rintro e w' ⟨rfl, g⟩
    exact made_none g 1
theorem one_all {w : World} {r : Value} {vs : List Value} {X : List (List Nat)} (k n i : Int) (mr : Mat w r vs X) :
    Calls Try.prog 19 #[.int .i64 k, .int .i64 n, .int .i64 i, r] w fun e w' => ∃ p m c, e = .returned (.tuple #[.slice p m c, .int .i64 (oneE k n i X)]) ∧ Own w.heap.size w' (.slice p m c) (oneL k n i X) ∧ w.grownBy w' none := by
  unfold oneL oneE
  by_cases hb : oneB k n i X = true
  · rw [if_pos hb, if_pos hb]
    unfold oneB at hb
    rw [Bool.and_eq_true, Bool.and_eq_true, decide_eq_true_iff, decide_eq_true_iff] at hb
    obtain ⟨e1, e2, h1, h2, h3, hs⟩ := fits_parts hb.1
    have e3 : i = (i.toNat : Int) := by omega
    have := one_yes (i := i.toNat) mr hs h1 h2 h3 (by omega)
    rwa [← e1, ← e2, ← e3] at this
  · rw [if_neg hb, if_neg hb]
    refine (one_no mr ?_).mono ?_
    · unfold oneB at hb
      rw [Bool.and_eq_true, Bool.and_eq_true, decide_eq_true_iff, decide_eq_true_iff] at hb
      by_cases hf : fitsB k n X = true
      · right
        by_cases h0 : 0 ≤ i
        · right
          refine Classical.byContradiction fun hc => hb ⟨hf, h0, by omega⟩
        · left; omega
      · left; simpa using hf
    · rintro e w' ⟨rfl, rfl⟩
      exact ⟨none, 0, 0, rfl, Own.nil _ _, World.grownBy.refl _ _⟩

set_option maxHeartbeats 1600000 in
theorem refOne_all {w : World} {r : Value} {vs : List Value} {X : List (List Nat)} (k n i : Int) (mr : Mat w r vs X) :
    Calls Try.prog 20 #[.int .i64 k, .int .i64 n, .int .i64 i, r] w fun e w' => ∃ p m c, e = .returned (.tuple #[.slice p m c, .int .i64 (oneE k n i X)]) ∧ Vec w' (.slice p m c) (oneL k n i X) ∧ w.grownBy w' none := by
  unfold oneL oneE
  by_cases hb : oneB k n i X = true
  · rw [if_pos hb, if_pos hb]
    unfold oneB at hb
    rw [Bool.and_eq_true, Bool.and_eq_true, decide_eq_true_iff, decide_eq_true_iff] at hb
    obtain ⟨e1, e2, h1, h2, h3, hs⟩ := fits_parts hb.1
    have e3 : i = (i.toNat : Int) := by omega
    have := refOne_yes (i := i.toNat) mr hs h1 h2 h3 (by omega)
    rwa [← e1, ← e2, ← e3] at this
  · rw [if_neg hb, if_neg hb]
    unfold oneB at hb
    rw [Bool.and_eq_true, Bool.and_eq_true, decide_eq_true_iff, decide_eq_true_iff] at hb
    have EE : Hid (Calls Try.prog 18 #[.int .i64 k, .int .i64 n, r] w (Made w (encL k n X) (encE k n X))) := refEncode_all k n mr
    have NV : ∀ w' : World, Vec w' (.slice none 0 0) [] := fun w' => (Own.nil 0 w').vec
    have HNV : Hid (∀ w' : World, Vec w' (.slice none 0 0) []) := NV
    clear NV mr
    unfold Made at EE
    by_cases hf : fitsB k n X = true
    · rw [show encE k n X = 0 from if_pos hf] at EE
      by_cases h0 : i < 0
      · clear hb hf
        go_enter Try.func20, Try.ntmps20
        go_wp2_with (go_at_call 18; refine EE.out.mono ?_; rintro e w1 ⟨p, m, c, us, rfl, _, _, g1⟩; have G1 : Hid (w.grownBy w1 none) := g1; clear g1)
        go_ret2
        exact ⟨none, 0, 0, rfl, HNV.out _, G1.out⟩
      · have h2 : n ≤ i := by
          refine Classical.byContradiction fun hc => hb ⟨hf, by omega, by omega⟩
        clear hb hf
        go_enter Try.func20, Try.ntmps20
        go_wp2_with (go_at_call 18; refine EE.out.mono ?_; rintro e w1 ⟨p, m, c, us, rfl, _, _, g1⟩; have G1 : Hid (w.grownBy w1 none) := g1; clear g1)
        go_ret2
        exact ⟨none, 0, 0, rfl, HNV.out _, G1.out⟩
    · rw [show encE k n X = 1 from if_neg hf] at EE
      clear hb hf
      go_enter Try.func20, Try.ntmps20
      go_wp2_with (go_at_call 18; refine EE.out.mono ?_; rintro e w1 ⟨p, m, c, us, rfl, _, _, g1⟩; have G1 : Hid (w.grownBy w1 none) := g1; clear g1)
      go_ret2
      exact ⟨none, 0, 0, rfl, HNV.out _, G1.out⟩
end Go.Proofs.Ytdeajclghlbhcaa
