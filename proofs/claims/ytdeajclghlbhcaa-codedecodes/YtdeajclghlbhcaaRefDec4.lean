/- The document's Decode. -/
import Derived.Test.YtdeajclghlbhcaaRefEnc4
import Derived.Test.YtdeajclghlbhcaaRefInv
import Derived.Test.YtdeajclghlbhcaaRefRows
import Derived.Test.YtdeajclghlbhcaaDec4
set_option linter.unusedVariables false
namespace Go.Proofs.Ytdeajclghlbhcaa
open Go.RowKit

theorem IVec.cutD {w : World} {p : Option Addr} {len cap c' : Nat} {ls : List Int} (h : IVec w (.slice p len cap) ls) {n : Nat} (hn : n ≤ ls.length) (hc : n ≤ c') (hm : c' ≤ cap) : IVec w (.slice p n c') (ls.take n) := by
  obtain ⟨h2, p', cap', e, h3, h4, h5⟩ := h
  injection e with e1 e2 e3
  subst e1
  subst e3
  have hl : (ls.take n).length = n := by simp; omega
  refine ⟨by omega, p, c', by rw [hl], by omega, by omega, fun hne => ?_⟩
  obtain ⟨b, off, e, hc⟩ := h5 (fun e => hne (by rw [e]; simp))
  refine ⟨b, off, e, fun j hj => ?_⟩
  rw [hl] at hj
  rw [hc j (by omega)]
  simp [List.getD, hj]
theorem Mat.cutD {w : World} {p : Option Addr} {len cap : Nat} {us : List Value} {X : List (List Nat)} (h : Mat w (.slice p len cap) us X) {k : Nat} (hk : k ≤ X.length) : Mat w (.slice p k cap) (us.take k) (X.take k) := by
  have hs := h.same
  obtain ⟨h2, p', cap', e, h3, h4, h5⟩ := h.row
  injection e with e1 e2 e3
  subst e1
  subst e3
  have hl : (us.take k).length = k := by simp; omega
  refine ⟨⟨by omega, p, cap, by rw [hl], by omega, h4, fun hne => ?_⟩, by simp; omega, fun j hj => ?_⟩
  · obtain ⟨b, off, e, hc⟩ := h5 (fun e => hne (by rw [e]; simp))
    refine ⟨b, off, e, fun j hj => ?_⟩
    rw [hl] at hj
    rw [hc j (by omega)]
    simp [List.getD, hj]
  · have hj' : j < k := by simp at hj; omega
    have e1 : (us.take k).getD j undef = us.getD j undef := by simp [List.getD, hj']
    have e2 : (X.take k).getD j [] = X.getD j [] := by simp [List.getD, hj']
    rw [e1, e2]
    exact h.vec j (by omega)

/-- The first k chunks are those of the code of D. -/
def Has (ls : List Int) (k L : Nat) (X D : List (List Nat)) : Prop := Shape D k L ∧ (∀ i j, at2 D i j < 256) ∧ ∀ i t, i < k → t < L → codeAt D k (ls.getD i 0).toNat t = at2 X i t
/-- What the document's Decode answers. -/
def DecR (k n : Int) (ls : List Int) (X P : List (List Nat)) (er : Int) : Prop :=
  (¬ decOK k n ls X ∧ P = [] ∧ er = 1) ∨ (decOK k n ls X ∧ (ls.length : Int) < k ∧ P = [] ∧ er = 4) ∨ (decOK k n ls X ∧ k ≤ ls.length ∧ er = 0 ∧ Has ls k.toNat (X.getD 0 []).length X P)
/-- What the program's answers. -/
def DecP (k n : Int) (ls : List Int) (X P : List (List Nat)) (er : Int) : Prop :=
  (¬ decOK k n ls X ∧ P = [] ∧ er = 1) ∨ (decOK k n ls X ∧ (ls.length : Int) < k ∧ P = [] ∧ er = 4) ∨ (decOK k n ls X ∧ k ≤ ls.length ∧ er = 0 ∧ Tells ls k.toNat (X.getD 0 []).length X P)
theorem Dec.one {k n : Int} {ls : List Int} {X P Q : List (List Nat)} {a b : Int} (h : DecP k n ls X P a) (g : DecR k n ls X Q b) : Q = P ∧ b = a := by
  rcases h with ⟨h1, rfl, rfl⟩ | ⟨h1, h2, rfl, rfl⟩ | ⟨h1, h2, rfl, h3⟩ <;> rcases g with ⟨g1, rfl, rfl⟩ | ⟨g1, g2, rfl, rfl⟩ | ⟨g1, g2, rfl, g3⟩
  · exact ⟨rfl, rfl⟩
  · exact absurd g1 h1
  · exact absurd g1 h1
  · exact absurd h1 g1
  · exact ⟨rfl, rfl⟩
  · omega
  · exact absurd h1 g1
  · omega
  · exact ⟨h3 Q g3.1 g3.2.1 g3.2.2, rfl⟩

/-- The generator's rows that are named. -/
theorem rows_gen {k n : Nat} {ls : List Int} (hk : k ≤ ls.length) (hg : goodAt n ls ls.length) : Shape (rowsList (genList k n) (ls.take k)) k k ∧ ∀ i j, i < k → j < k → at2 (rowsList (genList k n) (ls.take k)) i j = MX.gen k (ls.getD i 0).toNat j := by
  have hl : (ls.take k).length = k := by simp; omega
  have hrow : ∀ i, i < k → (rowsList (genList k n) (ls.take k)).getD i [] = genRow k (ls.getD i 0).toNat := fun i hi => by
    have h1 := hg i (by omega)
    have e1 : (rowsList (genList k n) (ls.take k)).getD i [] = (genList k n).getD (ls.getD i 0).toNat [] := by
      have hi' : i < ls.length := by omega
      simp [rowsList, List.getD, hi, hi']
    rw [e1]
    have hx : (ls.getD i 0).toNat < n := by omega
    generalize (ls.getD i 0).toNat = r at *
    simp [genList, List.getD, hx]
  refine ⟨⟨by simp [rowsList]; omega, fun i hi => by rw [hrow i hi, genRow_len]⟩, fun i j hi hj => ?_⟩
  show ((rowsList (genList k n) (ls.take k)).getD i []).getD j 0 = _
  rw [hrow i hi, genRow_get hj]

theorem at2_comb {G X : List (List Nat)} {L k n i t : Nat} (hi : i < n) (ht : t < L) : at2 (combUp G X L k n) i t = MX.mm k (at2 G) (at2 X) i t := by
  unfold at2
  have e : (combUp G X L k n).getD i [] = combTo (G.getD i []) X L k := by simp [combUp, List.getD, hi]
  rw [e]
  simp [combTo, List.getD, ht, MX.mm, at2]
theorem shape_comb (G X : List (List Nat)) (L k n : Nat) : Shape (combUp G X L k n) n L := ⟨by simp [combUp], fun i hi => by
  have e : (combUp G X L k n).getD i [] = combTo (G.getD i []) X L k := by simp [combUp, List.getD, hi]
  rw [e, combTo_len]⟩
theorem small_of {X : List (List Nat)} {n L : Nat} (h : Shape X n L) (hs : ∀ i t, i < n → t < L → at2 X i t < 256) : ∀ i t, at2 X i t < 256 := fun i t => by
  by_cases hi : i < n
  · by_cases ht : t < L
    · exact hs i t hi ht
    · unfold at2
      have : (X.getD i []).getD t 0 = 0 := by
        have := h.row i hi
        rw [List.getD, List.getElem?_eq_none (by omega)]
        rfl
      rw [this]; decide
  · unfold at2
    have : X.getD i [] = [] := by
      have := h.len
      rw [List.getD, List.getElem?_eq_none (by omega)]
      rfl
    rw [this]; simp

theorem has_comb {ls : List Int} {k n L : Nat} {X Y : List (List Nat)} (hk : k ≤ ls.length) (hg : goodAt n ls ls.length) (hsm : ∀ i t, at2 X i t < 256) (hX : k ≤ X.length) (sY : Shape Y k k) (hi : MX.Inv k (at2 (rowsList (genList k n) (ls.take k))) (at2 Y)) :
    Has ls k L X (combUp Y (X.take k) L k k) := by
  have hx : ∀ i t, i < k → at2 (X.take k) i t = at2 X i t := fun i t hi => by
    unfold at2
    have : (X.take k).getD i [] = X.getD i [] := by simp [List.getD, hi]
    rw [this]
  have sx : MX.Small k L (at2 (X.take k)) := fun i t hi _ => by rw [hx i t hi]; exact hsm i t
  refine ⟨shape_comb _ _ _ _ _, small_of (shape_comb _ _ _ _ _) fun i t hi' ht => ?_, fun i t hi' ht => ?_⟩
  · rw [at2_comb hi' ht]
    exact MX.mm_small _ hi.sb i t hi' ht
  · have hrg := (rows_gen hk hg).2
    have e1 : codeAt (combUp Y (X.take k) L k k) k (ls.getD i 0).toNat t = MX.mm k (at2 (rowsList (genList k n) (ls.take k))) (MX.mm k (at2 Y) (at2 (X.take k))) i t := by
      unfold codeAt MX.mm
      refine MX.xs_congr fun j hj => ?_
      rw [hrg i j hi' hj, at2_comb hj ht]
      rfl
    rw [e1, ← MX.mm_assoc hi.sa hi.sb sx i t hi' ht, MX.mm_congr hi.r (MX.Eq2.refl k L _) i t hi' ht, MX.one_mm sx i t hi' ht, hx i t hi']

theorem inv_rows {k n : Nat} {ls : List Int} (hkn : k ≤ n) (hn : n ≤ 255) (hk : k ≤ ls.length) (hg : goodAt n ls ls.length) : ¬ NoInv k (at2 (rowsList (genList k n) (ls.take k))) := by
  obtain ⟨c, hc⟩ := MX.gen_inv hn hkn (fun i => (ls.getD i 0).toNat) (fun i hi => by have := hg i (by omega); omega) (fun i j hi hj e => by
    rcases Nat.lt_trichotomy i j with h | h | h
    · have h1 := hg j (by omega)
      have h2 := hg i (by omega)
      exact absurd (show ls.getD i 0 = ls.getD j 0 by have e2 : (ls.getD i 0).toNat = (ls.getD j 0).toNat := e; omega) (h1.2.2 i h)
    · exact h
    · have h1 := hg i (by omega)
      have h2 := hg j (by omega)
      exact absurd (show ls.getD j 0 = ls.getD i 0 by have e2 : (ls.getD i 0).toNat = (ls.getD j 0).toNat := e; omega) (h1.2.2 j h))
  have hrg := (rows_gen hk hg).2
  exact fun hno => hno ⟨c, hc.sb, (MX.mm_congr (MX.Eq2.refl k k c) (fun i j hi hj => hrg i j hi hj)).trans hc.l⟩

/-- What Decode leaves. -/
def MadeD (w : World) (R : List (List Nat) → Int → Prop) (e : Ending) (w' : World) : Prop :=
  ∃ p m c us P er, e = .returned (.tuple #[.slice p m c, .int .i64 er]) ∧ OwnMat w.heap.size w' (.slice p m c) us P ∧ R P er ∧ w.grownBy w' none
theorem madeD_none {w w' : World} {R : List (List Nat) → Int → Prop} {er : Int} (g : w.grownBy w' none) (h : R [] er) : MadeD w R (.returned (.tuple #[.slice none 0 0, .int .i64 er])) w' :=
  ⟨none, 0, 0, [], [], er, rfl, OwnMat.nil _ _, h, g⟩
theorem decode_all {w : World} {va vc : Value} {k n : Int} {ls : List Int} {vs : List Value} {X : List (List Nat)} (hl : IVec w va ls) (mr : Mat w vc vs X) :
    Calls Try.prog 21 #[.int .i64 k, .int .i64 n, va, vc] w (MadeD w (DecP k n ls X)) := by
  by_cases h : decOK k n ls X
  · have hm := mayI_iff.1 h.1
    obtain ⟨k', rfl⟩ := Int.eq_ofNat_of_zero_le (show 0 ≤ k by omega)
    obtain ⟨n', rfl⟩ := Int.eq_ofNat_of_zero_le (show 0 ≤ n by omega)
    by_cases hs : ls.length < k'
    · refine (decode_short hl mr h hs).mono ?_
      rintro e w' ⟨rfl, g⟩
      exact madeD_none g (.inr (.inl ⟨h, by omega, rfl, rfl⟩))
    · refine (decode_yes hl mr h (by omega)).mono ?_
      rintro e w' ⟨p, m, c, us, D, rfl, od, _, _, tl, g⟩
      exact ⟨p, m, c, us, D, 0, rfl, od, .inr (.inr ⟨h, by omega, rfl, tl⟩), g⟩
  · refine (decode_arg hl mr h).mono ?_
    rintro e w' ⟨rfl, g⟩
    exact madeD_none g (.inl ⟨h, rfl, rfl⟩)
theorem madeD_ret {w w' : World} {R : List (List Nat) → Int → Prop} {er : Int} (g : w.grownBy w' none) (h : R [] er) : MadeD w R (.returned (.tuple #[.slice none 0 0, .int .i64 er])) w' := madeD_none g h

set_option maxHeartbeats 6400000 in
set_option maxRecDepth 100000 in
theorem refDecode_all {w : World} {va vc : Value} {k n : Int} {ls : List Int} {vs : List Value} {X : List (List Nat)} (hl : IVec w va ls) (mr : Mat w vc vs X) :
    Calls Try.prog 22 #[.int .i64 k, .int .i64 n, va, vc] w (MadeD w (DecR k n ls X)) := by
  obtain ⟨q, A, cap, rfl, hA⟩ := hl.opened
  obtain ⟨qc, N, cc, rfl, hN⟩ := mr.row.opened
  have hs := mr.same
  have MM : Hid (∀ w, Calls Try.prog 11 #[.int .i64 k, .int .i64 n] w fun e w' => e = .returned (.bool (mayI k n)) ∧ w' = w) := fun w => refMay4_any k n w
  have AA : Hid (Calls Try.prog 31 #[.slice qc N cc] w fun e w' => e = .returned (.bool (evenB X)) ∧ w.grownBy w' none) := refEven_any mr
  have hAl : A ≤ 140737488351232 := by rw [hA]; exact hl.len
  have hNl : N ≤ 140737488351232 := by have := mr.row.len; omega
  have HW : Hid (w.grownBy w none) := World.grownBy.refl _ _
  by_cases c1 : mayI k n = true
  · by_cases c2 : A = N
    · by_cases c3 : evenB X = true
      · subst c2
        rw [c1] at MM
        rw [c3] at AA
        have hm := mayI_iff.1 c1
        obtain ⟨k', rfl⟩ := Int.eq_ofNat_of_zero_le (show 0 ≤ k by omega)
        obtain ⟨n', rfl⟩ := Int.eq_ofNat_of_zero_le (show 0 ≤ n by omega)
        have KL : Hid (∀ w', w.grownBy w' none → IVec w' (.slice q A cap) ls) := fun w' g => hl.keep g
        have KX : Hid (∀ w', w.grownBy w' none → Mat w' (.slice qc A cc) vs X) := fun w' g => mr.keep g
        have HAL : Hid (A = ls.length ∧ ls.length = X.length) := ⟨hA, by omega⟩
        have HOK : Hid (goodAt n' ls ls.length → decOK (k' : Int) (n' : Int) ls X) := fun hg => ⟨c1, by omega, c3, hg⟩
        have HNO : Hid (¬ goodAt n' ls ls.length → ¬ decOK (k' : Int) (n' : Int) ls X) := fun hg h => hg h.2.2.2
        have SX : Hid (Shape X X.length (X.getD 0 []).length) := even_shape c3
        have hk1 : 1 ≤ k' := by omega
        have hkn : k' < n' := by omega
        have hn : n' ≤ 255 := by omega
        clear hl mr hs hA hN c1 c3 hm
        go_enter Try.func22, Try.ntmps22
        go_wp2_with (first
          | (go_at_call 11; refine (MM.out _).mono ?_; rintro e w1 ⟨rfl, hw⟩; obtain rfl := hw.symm; clear hw)
          | (go_at_call 31; refine AA.out.mono ?_; rintro e w1 ⟨rfl, g1⟩; have G1 : Hid (w.grownBy w1 none) := g1; clear g1))
        clear MM AA
        go_loopw [10] (fun ti wr => ∃ i : Nat, i ≤ A ∧ ti = .int .i64 i ∧ Hid (goodAt n' ls i) ∧ Hid (w.grownBy wr none)) (fun ti _ => A - (intOf ti).toNat)
        case atStart => exact ⟨0, by omega, rfl, fun i hi => by omega, G1⟩
        case round =>
          clear G1
          obtain ⟨i, hi, rfl, GI, GK⟩ := hrel
          obtain ⟨wa, hwa⟩ : ∃ wa, wa = wr := ⟨wr, rfl⟩
          subst hwa
          by_cases hlt : i < A
          · have i1 : (i : Int) < (A : Int) := by omega
            have i3 : (0 : Int) ≤ (i : Int) := by omega
            obtain ⟨bl, ol, rfl, _⟩ := (KL.out _ GK.out).spot (k := i) (by have := HAL.out; omega)
            have CI : Hid (∀ w', w.grownBy w' none → ∀ j, j < A → w'.cell? ⟨bl, ol + j, none⟩ = some (.int .i64 (ls.getD j 0))) := fun w' g j hj => by
              obtain ⟨b', o', e', hc⟩ := (KL.out _ g).spot (k := j) (by have := HAL.out; omega)
              injection e' with e'
              injection e' with e1 e2
              subst e1 e2
              exact hc
            go_wp2_with fail
            go_loopw [11] (fun tj wr => ∃ j : Nat, j ≤ i ∧ tj = .int .i64 j ∧ Hid (∀ i', i' < j → ls.getD i' 0 ≠ ls.getD i 0) ∧ Hid (w.grownBy wr none)) (fun tj _ => i - (intOf tj).toNat)
            case atStart => exact ⟨0, by omega, rfl, fun i' hi' => by omega, GK⟩
            case round =>
              clear GK
              obtain ⟨j, hj, rfl, GJ, GK⟩ := hrel
              by_cases hjl : j < i
              · have j1 : (j : Int) < (i : Int) := by omega
                have j2 : (j : Int) < (A : Int) := by omega
                have j3 : (0 : Int) ≤ (j : Int) := by omega
                have S0 : Hid (wr.drew.cell? ⟨bl, ol + i, none⟩ = some (.int .i64 (ls.getD i 0)) ∧ wr.drew.cell? ⟨bl, ol + j, none⟩ = some (.int .i64 (ls.getD j 0))) := ⟨CI.out _ (gb_drew GK.out) i hlt, CI.out _ (gb_drew GK.out) j (by omega)⟩
                have GD : Hid (w.grownBy wr.drew none) := gb_drew GK.out
                by_cases he : ls.getD i 0 = ls.getD j 0
                · have NO : Hid (¬ goodAt n' ls ls.length) := fun hg => (hg i (by have := HAL.out; omega)).2.2 j hjl he.symm
                  have hb : (ls.getD i 0 == ls.getD j 0) = true := by rw [he]; simp
                  clear he
                  generalize ls.getD i 0 = xi at *
                  generalize ls.getD j 0 = xj at *
                  go_wp2_with fail
                  go_region_held3 (fun w' => w'.cell? ⟨bl, ol + i, none⟩ = some (.int .i64 xi) ∧ w'.cell? ⟨bl, ol + j, none⟩ = some (.int .i64 xj)) (exact S0.out) (fail)
                  go_wp2
                  go_ret2
                  exact madeD_ret GD.out (.inl ⟨HNO.out NO.out, rfl, rfl⟩)
                · have GJ2 : Hid (∀ i', i' < j + 1 → ls.getD i' 0 ≠ ls.getD i 0) := fun i' hi' => by
                    by_cases e : i' = j
                    · rw [e]; exact fun e2 => he e2.symm
                    · exact GJ.out i' (by omega)
                  have hb : (ls.getD i 0 == ls.getD j 0) = false := by simpa using he
                  clear he GJ
                  obtain ⟨xi, HXI⟩ : ∃ x, Hid (x = ls.getD i 0) := ⟨_, rfl⟩
                  obtain ⟨xj, HXJ⟩ : ∃ x, Hid (x = ls.getD j 0) := ⟨_, rfl⟩
                  rw [← HXI.out, ← HXJ.out] at S0 hb
                  go_wp2_with fail
                  go_region_held3 (fun w' => w'.cell? ⟨bl, ol + i, none⟩ = some (.int .i64 xi) ∧ w'.cell? ⟨bl, ol + j, none⟩ = some (.int .i64 xj)) (exact S0.out) (fail)
                  clear S0 hb GK
                  go_wp2
                  go_roundw
                  case rel => exact ⟨j + 1, by omega, by go_num, GJ2, GD⟩
                  case measure => simp [intOf]; omega
              · have j1 : ¬ (j : Int) < (i : Int) := by omega
                obtain rfl : j = i := by omega
                have hci := CI.out _ GK.out j hlt
                have hr := GJ.out
                by_cases h0 : ls.getD j 0 < 0
                · have NO : Hid (¬ goodAt n' ls ls.length) := fun hg => by have := (hg j (by have := HAL.out; omega)).1; omega
                  clear GJ hr
                  generalize ls.getD j 0 = xi at *
                  go_wp2
                  go_ret2
                  exact madeD_ret GK.out (.inl ⟨HNO.out NO.out, rfl, rfl⟩)
                · by_cases h9 : (n' : Int) ≤ ls.getD j 0
                  · have NO : Hid (¬ goodAt n' ls ls.length) := fun hg => by have := (hg j (by have := HAL.out; omega)).2.1; omega
                    clear GJ hr
                    generalize ls.getD j 0 = xi at *
                    go_wp2
                    go_ret2
                    exact madeD_ret GK.out (.inl ⟨HNO.out NO.out, rfl, rfl⟩)
                  · have GI2 : Hid (goodAt n' ls (j + 1)) := fun i' hi' => by
                      by_cases e : i' = j
                      · rw [e]; exact ⟨by omega, by omega, hr⟩
                      · exact GI.out i' (by omega)
                    clear GJ hr GI
                    obtain ⟨xi, HXI⟩ : ∃ x, Hid (x = ls.getD j 0) := ⟨_, rfl⟩
                    rw [← HXI.out] at hci h0 h9
                    go_wp2
                    go_roundw
                    case rel => exact ⟨j + 1, by omega, by go_num, GI2, GK⟩
                    case measure => simp [intOf]; omega
          · have i1 : ¬ (i : Int) < (A : Int) := by omega
            obtain rfl : A = i := by omega
            have GOOD : Hid (goodAt n' ls ls.length) := by show goodAt _ _ _; rw [← HAL.out.1]; exact GI.out
            clear GI HNO
            by_cases hsh : A < k'
            · have s1 : (A : Int) < (k' : Int) := by omega
              go_wp2
              go_ret2
              exact madeD_ret GK.out (.inr (.inl ⟨HOK.out GOOD.out, by have := HAL.out; omega, rfl, rfl⟩))
            · have s1 : ¬ (A : Int) < (k' : Int) := by omega
              have hXl : X.length = A := by have := HAL.out; omega
              obtain ⟨bx, ox, rfl, hd⟩ := (KX.out _ GK.out).row.spot (k := 0) (by have := (KX.out _ GK.out).same; omega)
              obtain ⟨px, L, cx, ex, hLx⟩ := ((KX.out _ GK.out).vec 0 (by omega)).opened
              have hLl : L ≤ 140737488351232 := by rw [hLx]; exact ((KX.out _ GK.out).vec 0 (by omega)).len
              rw [ex, Nat.add_zero] at hd
              have HLX : Hid (L = (X.getD 0 []).length) := hLx
              have hA0 : (0 : Int) < (A : Int) := by omega
              have hAA : 0 < A := by omega
              clear ex hLx
              by_cases hL0 : L = 0
              · have l1 : ((L : Int) == 0) = true := by simp; omega
                go_wp2_with (at_make; refine wpList_make_chunks rfl _ _ rfl k' rfl rfl (by omega) ?_; intro w2 pm om g2; have OM : Hid (OwnMat wa.heap.size w2 (.slice pm k' k') (List.replicate k' (.slice none 0 0)) (List.replicate k' [])) := om; have G2 : Hid (wa.grownBy w2 none) := g2; clear om g2)
                go_ret2
                refine ⟨pm, k', k', _, _, 0, rfl, OM.out.down GK.out.size, .inr (.inr ⟨HOK.out GOOD.out, by have := HAL.out; omega, rfl, ?_⟩), grown_trans GK.out G2.out⟩
                have hsh0 : Shape (List.replicate k' ([] : List Nat)) k' 0 := ⟨by simp, fun j hj => by simp [List.getD, hj]⟩
                rw [← HLX.out, hL0]
                exact ⟨hsh0, small_of hsh0 (fun i t _ ht => by omega), fun i t _ ht => by omega⟩
              · have l1 : ((L : Int) == 0) = false := by simp; omega
                have hk2 : (k' : Int) ≤ (A : Int) := by omega
                have lcap : A ≤ cap := by
                  obtain ⟨_, p', cap', e, h3, _⟩ := KL.out _ GK.out
                  injection e with e1 e2 e3
                  omega
                have lcc : A ≤ cc := by
                  obtain ⟨_, p', cap', e, h3, _⟩ := (KX.out _ GK.out).row
                  injection e with e1 e2 e3
                  have := (KX.out _ GK.out).same
                  omega
                have lcap2 : (k' : Int) ≤ (cap : Int) := by omega
                have lcc2 : (k' : Int) ≤ (cc : Int) := by omega
                have SMX : Hid (∀ i t, at2 X i t < 256) := mat_small (KX.out _ GK.out)
                have RG := rows_gen (k := k') (n := n') (ls := ls) (by have := HAL.out; omega) GOOD.out
                have SH : Hid (Shape (rowsList (genList k' n') (ls.take k')) k' k') := RG.1
                have hMl := SH.out.len
                have hM0 := SH.out.row 0 (by omega)
                have NI := inv_rows (k := k') (n := n') (ls := ls) (by omega) hn (by have := HAL.out; omega) GOOD.out
                have NIH : Hid (¬ NoInv k' (at2 (rowsList (genList k' n') (ls.take k')))) := NI
                have ROK : Hid (rowsOK (genList k' n') (ls.take k')) := by
                  refine ⟨may_of (genList_shape k' n') (by omega) hn hk1 (by omega), by rw [List.length_take]; have := HAL.out; omega, by rw [List.length_take]; omega, fun j hj => ?_⟩
                  rw [List.length_take] at hj
                  have h1 := GOOD.out j (by omega)
                  have e : (ls.take k').getD j 0 = ls.getD j 0 := by simp [List.getD, show j < k' from by omega]
                  rw [e, (genList_shape k' n').len]
                  exact ⟨h1.1, h1.2.1⟩
                have MAYM : Hid (mayB (rowsList (genList k' n') (ls.take k')) = true) := may_of SH.out hk1 (by omega) hk1 (by omega)
                have SXT : Hid (Shape (X.take k') k' L) := by
                  refine ⟨by rw [List.length_take]; omega, fun j hj => ?_⟩
                  have e : (X.take k').getD j [] = X.getD j [] := by simp [List.getD, hj]
                  rw [e, SX.out.row j (by omega), HLX.out]
                clear RG NI
                go_wp2_with fail
                refine (refGen_yes k' n' wa hk1 hkn hn).mono ?_
                rintro e w2 ⟨pg, ng, cg, ug, rfl, og, sg, g2⟩
                have OG : Hid (Mat w2 (.slice pg ng cg) ug (genList k' n')) := og.mat
                have G2 : Hid (w.grownBy w2 none) := grown_trans GK.out g2
                clear og sg g2 hd
                go_wp2_with fail
                refine (refRows_yes OG.out ((KL.out _ G2.out).cutD (n := k') (c' := cap) (by have := HAL.out; omega) (by omega) (Nat.le_refl _)) ROK.out).mono ?_
                rintro e w3 ⟨pm, nm, cm, um, rfl, om, g3⟩
                have OM : Hid (Mat w3 (.slice pm nm cm) um (rowsList (genList k' n') (ls.take k'))) := om.mat
                have G3 : Hid (w.grownBy w3 none) := grown_trans G2.out g3
                clear om g3
                go_wp2_with fail
                refine (refInvert_any OM.out MAYM.out (by rw [hMl, hM0])).mono ?_
                rw [hMl]
                rintro e w4 ⟨g4, ⟨py, ny, cy, uy, Y, rfl, oy, sY, iY⟩ | ⟨rfl, hno⟩⟩
                · have OY : Hid (Mat w4 (.slice py ny cy) uy Y) := oy.mat
                  have G4 : Hid (w.grownBy w4 none) := grown_trans G3.out g4
                  have SY : Hid (Shape Y k' k' ∧ MX.Inv k' (at2 (rowsList (genList k' n') (ls.take k'))) (at2 Y)) := ⟨sY, iY⟩
                  clear oy g4 sY iY hMl hM0
                  go_wp2_with fail
                  refine (refTimes_any OY.out ((KX.out _ G4.out).cutD (k := k') (by omega)) SY.out.1 SXT.out hk1 (by omega) hk1 (by omega) (by omega)).mono ?_
                  rintro e w5 ⟨pt, nt, ct, ut, rfl, ot, st, g5⟩
                  have G5 : Hid (w.grownBy w5 none) := grown_trans G4.out g5
                  have OT : Hid (OwnMat w4.heap.size w5 (.slice pt nt ct) ut (combUp Y (X.take k') L k' k')) := ot
                  clear ot st g5
                  go_wp2
                  go_ret2
                  refine ⟨pt, nt, ct, ut, _, 0, rfl, OT.out.down G4.out.size, .inr (.inr ⟨HOK.out GOOD.out, by have := HAL.out; omega, rfl, ?_⟩), G5.out⟩
                  rw [← HLX.out]
                  exact has_comb (by have := HAL.out; omega) GOOD.out SMX.out (by omega) SY.out.1 SY.out.2
                · exact absurd hno NIH.out
      · have NO : Hid (¬ decOK k n ls X) := fun h => c3 h.2.2.1
        rw [c1] at MM
        rw [show evenB X = false from by simpa using c3] at AA
        subst c2
        clear hs hA hN hl mr c1 c3
        go_enter Try.func22, Try.ntmps22
        go_wp2_with (first
          | (go_at_call 11; refine (MM.out _).mono ?_; rintro e w1 ⟨rfl, hw⟩; obtain rfl := hw.symm; clear hw)
          | (go_at_call 31; refine AA.out.mono ?_; rintro e w1 ⟨rfl, g1⟩; have G1 : Hid (w.grownBy w1 none) := g1; clear g1))
        go_ret2
        exact madeD_ret G1.out (.inl ⟨NO.out, rfl, rfl⟩)
    · have NO : Hid (¬ decOK k n ls X) := fun h => c2 (by have := h.2.1; omega)
      rw [c1] at MM
      have hne : ((A : Int) != (N : Int)) = true := by simp; omega
      clear hs hA hN hl mr c1 c2
      go_enter Try.func22, Try.ntmps22
      go_wp2_with (go_at_call 11; refine (MM.out _).mono ?_; rintro e w1 ⟨rfl, hw⟩; obtain rfl := hw.symm; clear hw)
      go_ret2
      exact madeD_ret HW.out (.inl ⟨NO.out, rfl, rfl⟩)
  · have NO : Hid (¬ decOK k n ls X) := fun h => c1 h.1
    rw [show mayI k n = false from by simpa using c1] at MM
    clear hs hA hN hl mr c1
    go_enter Try.func22, Try.ntmps22
    go_wp2_with (go_at_call 11; refine (MM.out _).mono ?_; rintro e w1 ⟨rfl, hw⟩; obtain rfl := hw.symm; clear hw)
    go_ret2
    exact madeD_ret HW.out (.inl ⟨NO.out, rfl, rfl⟩)
end Go.Proofs.Ytdeajclghlbhcaa
