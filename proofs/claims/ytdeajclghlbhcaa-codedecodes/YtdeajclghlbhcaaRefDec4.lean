/- The document's Decode. -/
import Derived.Test.YtdeajclghlbhcaaTimes4
import Derived.Test.YtdeajclghlbhcaaRefInv
import Derived.Test.YtdeajclghlbhcaaRefRows
import Derived.Test.YtdeajclghlbhcaaSumM4
import Derived.Test.YtdeajclghlbhcaaSl4
set_option linter.unusedVariables false
namespace Go.Proofs.Ytdeajclghlbhcaa
open Go.RowKit

/-- The first k chunks are those of the code of D. -/
def Has (ls : List Int) (k L : Nat) (X D : List (List Nat)) : Prop := Shape D k L ∧ (∀ i j, at2 D i j < 256) ∧ ∀ i t, i < k → t < L → codeAt D k (ls.getD i 0).toNat t = at2 X i t
/-- What the document's Decode answers. -/
def DecR (k n : Int) (ls : List Int) (X P : List (List Nat)) (er : Int) : Prop :=
  (¬ decOK k n ls X ∧ P = [] ∧ er = 1) ∨ (decOK k n ls X ∧ (ls.length : Int) < k ∧ P = [] ∧ er = 4) ∨ (decOK k n ls X ∧ k ≤ ls.length ∧ er = 0 ∧ Has ls k.toNat (X.getD 0 []).length X P)
/-- What the program's answers. -/
def DecP (k n : Int) (ls : List Int) (X P : List (List Nat)) (er : Int) : Prop :=
  (¬ decOK k n ls X ∧ P = [] ∧ er = 1) ∨ (decOK k n ls X ∧ (ls.length : Int) < k ∧ P = [] ∧ er = 4) ∨ (decOK k n ls X ∧ k ≤ ls.length ∧ er = 0 ∧ Tells ls k.toNat (X.getD 0 []).length X P)
theorem Dec.one {k n : Int} {ls : List Int} {X P Q : List (List Nat)} {a b : Int} (h : DecP k n ls X P a) (g : DecR k n ls X Q b) : Q = P ∧ b = a := by
  rcases h with ⟨h1, rfl, rfl⟩ | ⟨h1, h2, rfl, rfl⟩ | ⟨h1, h2, rfl, h3⟩ <;> rcases g with ⟨g1, rfl, rfl⟩ | ⟨g1, g2, rfl, rfl⟩ | ⟨g1, g2, rfl, g3⟩
  · exact ⟨rfl, rfl⟩
  · exact absurd g1 h1
  · exact absurd g1 h1
  · exact absurd h1 g1
  · exact ⟨rfl, rfl⟩
  · omega
  · exact absurd h1 g1
  · omega
  · exact ⟨h3 Q g3.1 g3.2.1 g3.2.2, rfl⟩

/-- The generator's rows that are named. -/
theorem rows_gen {k n : Nat} {ls : List Int} (hk : k ≤ ls.length) (hg : goodAt n ls ls.length) : Shape (rowsList (genList k n) (ls.take k)) k k ∧ ∀ i j, i < k → j < k → at2 (rowsList (genList k n) (ls.take k)) i j = MX.gen k (ls.getD i 0).toNat j := by
  have hl : (ls.take k).length = k := by simp; omega
  have hrow : ∀ i, i < k → (rowsList (genList k n) (ls.take k)).getD i [] = genRow k (ls.getD i 0).toNat := fun i hi => by
    have h1 := hg i (by omega)
    have e1 : (rowsList (genList k n) (ls.take k)).getD i [] = (genList k n).getD (ls.getD i 0).toNat [] := by
      have hi' : i < ls.length := by omega
      simp [rowsList, List.getD, hi, hi']
    rw [e1]
    have hx : (ls.getD i 0).toNat < n := by omega
    generalize (ls.getD i 0).toNat = r at *
    simp [genList, List.getD, hx]
  refine ⟨⟨by simp [rowsList]; omega, fun i hi => by rw [hrow i hi, genRow_len]⟩, fun i j hi hj => ?_⟩
  show ((rowsList (genList k n) (ls.take k)).getD i []).getD j 0 = _
  rw [hrow i hi, genRow_get hj]

theorem at2_comb {G X : List (List Nat)} {L k n i t : Nat} (hi : i < n) (ht : t < L) : at2 (combUp G X L k n) i t = MX.mm k (at2 G) (at2 X) i t := by
  unfold at2
  have e : (combUp G X L k n).getD i [] = combTo (G.getD i []) X L k := by simp [combUp, List.getD, hi]
  rw [e]
  simp [combTo, List.getD, ht, MX.mm, at2]
theorem shape_comb (G X : List (List Nat)) (L k n : Nat) : Shape (combUp G X L k n) n L := ⟨by simp [combUp], fun i hi => by
  have e : (combUp G X L k n).getD i [] = combTo (G.getD i []) X L k := by simp [combUp, List.getD, hi]
  rw [e, combTo_len]⟩
theorem small_of {X : List (List Nat)} {n L : Nat} (h : Shape X n L) (hs : ∀ i t, i < n → t < L → at2 X i t < 256) : ∀ i t, at2 X i t < 256 := fun i t => by
  by_cases hi : i < n
  · by_cases ht : t < L
    · exact hs i t hi ht
    · unfold at2
      have : (X.getD i []).getD t 0 = 0 := by
        have := h.row i hi
        rw [List.getD, List.getElem?_eq_none (by omega)]
        rfl
      rw [this]; decide
  · unfold at2
    have : X.getD i [] = [] := by
      have := h.len
      rw [List.getD, List.getElem?_eq_none (by omega)]
      rfl
    rw [this]; simp

theorem has_comb {ls : List Int} {k n L : Nat} {X Y : List (List Nat)} (hk : k ≤ ls.length) (hg : goodAt n ls ls.length) (hsm : ∀ i t, at2 X i t < 256) (hX : k ≤ X.length) (sY : Shape Y k k) (hi : MX.Inv k (at2 (rowsList (genList k n) (ls.take k))) (at2 Y)) :
    Has ls k L X (combUp Y (X.take k) L k k) := by
  have hx : ∀ i t, i < k → at2 (X.take k) i t = at2 X i t := fun i t hi => by
    unfold at2
    have : (X.take k).getD i [] = X.getD i [] := by simp [List.getD, hi]
    rw [this]
  have sx : MX.Small k L (at2 (X.take k)) := fun i t hi _ => by rw [hx i t hi]; exact hsm i t
  refine ⟨shape_comb _ _ _ _ _, small_of (shape_comb _ _ _ _ _) fun i t hi' ht => ?_, fun i t hi' ht => ?_⟩
  · rw [at2_comb hi' ht]
    exact MX.mm_small _ hi.sb i t hi' ht
  · have hrg := (rows_gen hk hg).2
    have e1 : codeAt (combUp Y (X.take k) L k k) k (ls.getD i 0).toNat t = MX.mm k (at2 (rowsList (genList k n) (ls.take k))) (MX.mm k (at2 Y) (at2 (X.take k))) i t := by
      unfold codeAt MX.mm
      refine MX.xs_congr fun j hj => ?_
      rw [hrg i j hi' hj, at2_comb hj ht]
      rfl
    rw [e1, ← MX.mm_assoc hi.sa hi.sb sx i t hi' ht, MX.mm_congr hi.r (MX.Eq2.refl k L _) i t hi' ht, MX.one_mm sx i t hi' ht, hx i t hi']

theorem inv_rows {k n : Nat} {ls : List Int} (hkn : k ≤ n) (hn : n ≤ 255) (hk : k ≤ ls.length) (hg : goodAt n ls ls.length) : ¬ NoInv k (at2 (rowsList (genList k n) (ls.take k))) := by
  obtain ⟨c, hc⟩ := MX.gen_inv hn hkn (fun i => (ls.getD i 0).toNat) (fun i hi => by have := hg i (by omega); omega) (fun i j hi hj e => by
    rcases Nat.lt_trichotomy i j with h | h | h
    · have h1 := hg j (by omega)
      have h2 := hg i (by omega)
      exact absurd (show ls.getD i 0 = ls.getD j 0 by have e2 : (ls.getD i 0).toNat = (ls.getD j 0).toNat := e; omega) (h1.2.2 i h)
    · exact h
    · have h1 := hg i (by omega)
      have h2 := hg j (by omega)
      exact absurd (show ls.getD j 0 = ls.getD i 0 by have e2 : (ls.getD i 0).toNat = (ls.getD j 0).toNat := e; omega) (h1.2.2 j h))
  have hrg := (rows_gen hk hg).2
  exact fun hno => hno ⟨c, hc.sb, (MX.mm_congr (MX.Eq2.refl k k c) (fun i j hi hj => hrg i j hi hj)).trans hc.l⟩

/-- What Decode leaves. -/
def MadeD (w : World) (R : List (List Nat) → Int → Prop) (e : Ending) (w' : World) : Prop :=
  ∃ p m c us P er, e = .returned (.tuple #[.slice p m c, .int .i64 er]) ∧ OwnMat w.heap.size w' (.slice p m c) us P ∧ R P er ∧ w.grownBy w' none
theorem madeD_none {w w' : World} {R : List (List Nat) → Int → Prop} {er : Int} (g : w.grownBy w' none) (h : R [] er) : MadeD w R (.returned (.tuple #[.slice none 0 0, .int .i64 er])) w' :=
  ⟨none, 0, 0, [], [], er, rfl, OwnMat.nil _ _, h, g⟩
theorem decode_all {w : World} {va vc : Value} {k n : Int} {ls : List Int} {vs : List Value} {X : List (List Nat)} (hl : IVec w va ls) (mr : Mat w vc vs X) :
    Calls Try.prog 21 #[.int .i64 k, .int .i64 n, va, vc] w (MadeD w (DecP k n ls X)) := by
  by_cases h : decOK k n ls X
  · have hm := mayI_iff.1 h.1
    obtain ⟨k', rfl⟩ := Int.eq_ofNat_of_zero_le (show 0 ≤ k by omega)
    obtain ⟨n', rfl⟩ := Int.eq_ofNat_of_zero_le (show 0 ≤ n by omega)
    by_cases hs : ls.length < k'
    · refine (decode_short hl mr h hs).mono ?_
      rintro e w' ⟨rfl, g⟩
      exact madeD_none g (.inr (.inl ⟨h, by omega, rfl, rfl⟩))
    · refine (decode_yes hl mr h (by omega)).mono ?_
      rintro e w' ⟨p, m, c, us, D, rfl, od, _, _, tl, g⟩
      exact ⟨p, m, c, us, D, 0, rfl, od, .inr (.inr ⟨h, by omega, rfl, tl⟩), g⟩
  · refine (decode_arg hl mr h).mono ?_
    rintro e w' ⟨rfl, g⟩
    exact madeD_none g (.inl ⟨h, rfl, rfl⟩)
end Go.Proofs.Ytdeajclghlbhcaa
