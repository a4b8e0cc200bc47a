/- The document's strike and scale on rows of two matrices; its answer on what is not square. -/
import Derived.Test.YtdeajclghlbhcaaTwoM
namespace Go.Proofs.Ytdeajclghlbhcaa
open Go.RowKit

theorem Two.strikeA {w0 w : World} {H1 : Nat} {va vb : Value} {ua ub : List Value} {A B : List (List Nat)} {n : Nat} (T : Two w0 H1 w va ua A vb ub B) (hA : Shape A n n) {k s y : Nat} (hk : k < n) (hs : s < n) (hks : k ≠ s) (hy : y < 256)
    (r1 r2 r3 : Value) (e1 : r1 = ua.getD k undef) (e2 : r2 = ua.getD s undef) (e3 : r3 = .int .u8 (y : Int)) :
    Calls Try.prog 49 #[r1, r2, r3] w fun e w' => e = .returned (.tuple #[]) ∧ Two w0 H1 w' va ua (strike2 A k s y) vb ub B := by
  subst e1 e2 e3
  have hkA : k < A.length := by rw [hA.len]; exact hk
  have hsA : s < A.length := by rw [hA.len]; exact hs
  have ok := T.oa.vec k hkA
  have hsm := T.oa.same
  refine (refStrikeRow hy ok (T.oa.vec s hsA).vec (by rw [hA.row k hk, hA.row s hs]) (T.sa s k (by omega) (by omega) (fun e => hks e.symm))).mono ?_
  rintro e w' ⟨rfl, o, g⟩
  refine ⟨rfl, ?_⟩
  obtain ⟨p, nk, ck, ek, hnk⟩ := ok.vec.opened
  have ok2 := ok
  rw [ek] at ok2
  obtain ⟨gk, rfl, _⟩ := ok2.spot (k := 0) (by rw [hA.row k hk]; omega)
  have hg : (ua.getD k undef).ownBlock = some gk := by rw [ek]; rfl
  rw [hg] at g
  exact T.setA hkA hg o g
theorem Two.strikeB {w0 w : World} {H1 : Nat} {va vb : Value} {ua ub : List Value} {A B : List (List Nat)} {n : Nat} (T : Two w0 H1 w va ua A vb ub B) (hB : Shape B n n) {k s y : Nat} (hk : k < n) (hs : s < n) (hks : k ≠ s) (hy : y < 256)
    (r1 r2 r3 : Value) (e1 : r1 = ub.getD k undef) (e2 : r2 = ub.getD s undef) (e3 : r3 = .int .u8 (y : Int)) :
    Calls Try.prog 49 #[r1, r2, r3] w fun e w' => e = .returned (.tuple #[]) ∧ Two w0 H1 w' va ua A vb ub (strike2 B k s y) := by
  subst e1 e2 e3
  have hkA : k < B.length := by rw [hB.len]; exact hk
  have hsA : s < B.length := by rw [hB.len]; exact hs
  have ok := T.ob.vec k hkA
  have hsm := T.ob.same
  refine (refStrikeRow hy ok (T.ob.vec s hsA).vec (by rw [hB.row k hk, hB.row s hs]) (T.sb s k (by omega) (by omega) (fun e => hks e.symm))).mono ?_
  rintro e w' ⟨rfl, o, g⟩
  refine ⟨rfl, ?_⟩
  obtain ⟨p, nk, ck, ek, hnk⟩ := ok.vec.opened
  have ok2 := ok
  rw [ek] at ok2
  obtain ⟨gk, rfl, _⟩ := ok2.spot (k := 0) (by rw [hB.row k hk]; omega)
  have hg : (ub.getD k undef).ownBlock = some gk := by rw [ek]; rfl
  rw [hg] at g
  exact T.setB hkA hg o g
theorem Two.scaleA {w0 w : World} {H1 : Nat} {va vb : Value} {ua ub : List Value} {A B : List (List Nat)} {n : Nat} (T : Two w0 H1 w va ua A vb ub B) (hA : Shape A n n) {k y : Nat} (hk : k < n) (hy : y < 256)
    (r1 r3 : Value) (e1 : r1 = ua.getD k undef) (e3 : r3 = .int .u8 (y : Int)) :
    Calls Try.prog 50 #[r1, r3] w fun e w' => e = .returned (.tuple #[]) ∧ Two w0 H1 w' va ua (scale2 A k y) vb ub B := by
  subst e1 e3
  have hkA : k < A.length := by rw [hA.len]; exact hk
  have ok := T.oa.vec k hkA
  refine (refScaleRow hy ok).mono ?_
  rintro e w' ⟨rfl, o, g⟩
  refine ⟨rfl, ?_⟩
  obtain ⟨p, nk, ck, ek, hnk⟩ := ok.vec.opened
  have ok2 := ok
  rw [ek] at ok2
  obtain ⟨gk, rfl, _⟩ := ok2.spot (k := 0) (by rw [hA.row k hk]; omega)
  have hg : (ua.getD k undef).ownBlock = some gk := by rw [ek]; rfl
  rw [hg] at g
  exact T.setA hkA hg o g
theorem Two.scaleB {w0 w : World} {H1 : Nat} {va vb : Value} {ua ub : List Value} {A B : List (List Nat)} {n : Nat} (T : Two w0 H1 w va ua A vb ub B) (hB : Shape B n n) {k y : Nat} (hk : k < n) (hy : y < 256)
    (r1 r3 : Value) (e1 : r1 = ub.getD k undef) (e3 : r3 = .int .u8 (y : Int)) :
    Calls Try.prog 50 #[r1, r3] w fun e w' => e = .returned (.tuple #[]) ∧ Two w0 H1 w' va ua A vb ub (scale2 B k y) := by
  subst e1 e3
  have hkA : k < B.length := by rw [hB.len]; exact hk
  have ok := T.ob.vec k hkA
  refine (refScaleRow hy ok).mono ?_
  rintro e w' ⟨rfl, o, g⟩
  refine ⟨rfl, ?_⟩
  obtain ⟨p, nk, ck, ek, hnk⟩ := ok.vec.opened
  have ok2 := ok
  rw [ek] at ok2
  obtain ⟨gk, rfl, _⟩ := ok2.spot (k := 0) (by rw [hB.row k hk]; omega)
  have hg : (ub.getD k undef).ownBlock = some gk := by rw [ek]; rfl
  rw [hg] at g
  exact T.setB hkA hg o g

set_option maxHeartbeats 1600000 in
theorem refInvert_bad {w : World} {m : Value} {vs : List Value} {X : List (List Nat)} (mr : Mat w m vs X) (h : ¬ (mayB X = true ∧ X.length = (X.getD 0 []).length)) :
    Calls Try.prog 38 #[m] w fun e w' => e = .returned (.tuple #[.slice none 0 0, .int .i64 1]) ∧ w' = w := by
  obtain ⟨q, N, cap, rfl, hN⟩ := mr.row.opened
  have MA := refMay_any mr
  cases hx : mayB X with
  | false =>
    rw [hx] at MA
    have HA : Hid (∀ r, r = Value.slice q N cap → Calls Try.prog 48 #[r] w fun e w'' => e = .returned (.bool false) ∧ w'' = w) := fun r e => e ▸ MA
    clear MA hN h mr
    go_enter Try.func38, Try.ntmps38
    go_wp2_with (go_at_call 48; refine (HA.out _ (by with_reducible rfl)).mono ?_; rintro e w1 ⟨rfl, hw⟩; obtain rfl := hw.symm; clear hw)
    go_ret2
    exact ⟨rfl, rfl⟩
  | true =>
    rw [hx] at MA
    have HA : Hid (∀ r, r = Value.slice q N cap → Calls Try.prog 48 #[r] w fun e w'' => e = .returned (.bool true) ∧ w'' = w) := fun r e => e ▸ MA
    have sx := may_spec hx
    have hsa := mr.same
    obtain ⟨b0, off, rfl, hc⟩ := mr.row.spot (k := 0) (by omega)
    obtain ⟨p0, n0, c0, e0, hn0⟩ := (mr.vec 0 (by omega)).opened
    rw [e0] at hc
    have hc1 : w.cell? ⟨b0, off, none⟩ = some (.slice p0 n0 c0) := hc
    have hpos : (0 : Int) < (N : Int) := by omega
    have hne : ((N : Int) != (n0 : Int)) = true := by
      have : ¬ X.length = (X.getD 0 []).length := fun e => h ⟨hx, e⟩
      simp; omega
    clear MA hN h mr hc e0 hn0 hsa sx
    go_enter Try.func38, Try.ntmps38
    go_wp2_with (go_at_call 48; refine (HA.out _ (by with_reducible rfl)).mono ?_; rintro e w1 ⟨rfl, hw⟩; obtain rfl := hw.symm; clear hw)
    go_ret2
    exact ⟨rfl, rfl⟩
end Go.Proofs.Ytdeajclghlbhcaa
