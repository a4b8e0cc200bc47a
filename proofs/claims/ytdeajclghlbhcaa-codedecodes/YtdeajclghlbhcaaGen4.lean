/- The contract of code.Generator. -/
import Derived.Test.YtdeajclghlbhcaaEnc4
set_option linter.unusedVariables false
namespace Go.Proofs.Ytdeajclghlbhcaa
open Go.RowKit

set_option maxHeartbeats 3200000 in
theorem generator_yes (k n : Nat) (w : World) (h1 : 1 ≤ k) (hkn : k < n) (hn : n ≤ 255) :
    Calls Try.prog 12 #[.int .i64 (k : Int), .int .i64 (n : Int)] w (Made w (genList k n) 0) := by
  unfold Made
  have FF : Hid (∀ w, Calls Try.prog 10 #[.int .i64 (k : Int), .int .i64 (n : Int)] w fun e w' => e = .returned (.bool true) ∧ w' = w) := fun w => by
    have h := codeMay_any (k : Int) (n : Int) w
    rw [show mayI k n = true from mayI_iff.2 (by omega)] at h
    exact h
  go_enter Try.func12, Try.ntmps12
  go_wp2_with (first
    | (go_at_call 10; refine (FF.out _).mono ?_; rintro e w1 ⟨rfl, hw⟩; obtain rfl := hw.symm; clear hw)
    | (at_make; refine wpList_make_rows rfl _ _ rfl n rfl rfl (by omega) ?_; intro w1 p om g1; have OM : Hid (OwnMat w.heap.size w1 (.slice p n n) (List.replicate n (.slice none 0 0)) (upTo (genRow k) n 0)) := (by rw [upTo_zero]; exact om); have G1 : Hid (w.grownBy w1 none) := g1; clear om g1))
  clear FF
  go_loopw [16] (fun ti wr => ∃ (j : Nat) (us : List Value), j ≤ n ∧ ti = .int .i64 j ∧ Hid (OwnMat w.heap.size wr (.slice p n n) us (upTo (genRow k) n j)) ∧ Hid (Sep us) ∧ Hid (w.grownBy wr none)) (fun ti _ => n - (intOf ti).toNat)
  case atStart => exact ⟨0, _, by omega, rfl, OM, Sep.nils n, G1⟩
  case round =>
    clear OM G1
    obtain ⟨j, us, hj, rfl, OK, SK, GK⟩ := hrel
    by_cases hlt : j < n
    · have i1 : (j : Int) < (n : Int) := by omega
      have i3 : (0 : Int) ≤ (j : Int) := by omega
      have HX : Hid ((upTo (genRow k) n j).set j (genRow k j) = upTo (genRow k) n (j + 1)) := upTo_set _ _ _
      have HL : Hid (j < (upTo (genRow k) n j).length) := by show _ < _; rw [upTo_len]; exact hlt
      have CJ : Hid (Calls Try.prog 26 #[.int .i64 (k : Int), .int .i64 (j : Int)] wr fun e w'' => ∃ p n c, e = .returned (.slice p n c) ∧ Own wr.heap.size w'' (.slice p n c) (genRow k j) ∧ wr.grownBy w'' none) := row_any k j wr (by omega) (by omega)
      generalize upTo (genRow k) n j = XK at *
      generalize genRow k j = YK at *
      obtain ⟨g, rfl, _⟩ := OK.out.place (k := j) HL.out
      go_wp2_with (go_at_call 26; refine CJ.out.mono ?_; rintro e w2 ⟨p2, n2, c2, rfl, o2, g2⟩; obtain ⟨g', e', hb, hc, hf, hput, hown, hgr⟩ := (OK.out.keep g2).place (k := j) HL.out; obtain rfl : g = g' := (by injection e' with e'; injection e' with e'); have OU : Hid (Own wr.heap.size w2 (.slice p2 n2 c2) YK) := o2; have G2 : Hid (wr.grownBy w2 none) := g2; have PUT : Hid _ := hput; have GR : Hid _ := hgr; have HB : Hid (w.heap.size ≤ g) := hb; clear o2 g2 e' hput hgr hown hb)
      have R : Hid (OwnMat w.heap.size (w2.setCell ⟨g, j, none⟩ (.slice p2 n2 c2)) (.slice (some ⟨g, 0, none⟩) n n) (us.set j (.slice p2 n2 c2)) (upTo (genRow k) n (j + 1)) ∧ Sep (us.set j (.slice p2 n2 c2)) ∧ w.grownBy (w2.setCell ⟨g, j, none⟩ (.slice p2 n2 c2)) none) := by
        refine ⟨?_, SK.out.put (H := wr.heap.size) (OK.out.hiRow) OU.out.lo j, ?_⟩
        · rw [← HX.out]
          exact PUT.out _ _ (OU.out.down GK.out.size)
        · exact grown_new (grown_trans GK.out G2.out) (GR.out _) (fun i e => by have := Option.some.inj e; have := HB.out; omega)
      clear OK SK GK OU G2 PUT GR HX HL HB CJ
      go_roundw
      case rel => exact ⟨j + 1, us.set j (.slice p2 n2 c2), by omega, by go_num, R.out.1, R.out.2.1, R.out.2.2⟩
      case measure => simp [intOf]; omega
    · have hjn : n = j := by omega
      subst hjn
      go_wp2
      go_ret2
      have h0 := OK.out
      rw [upTo_all] at h0
      exact ⟨p, n, n, us, rfl, h0, SK.out, GK.out⟩

theorem generator_no (k n : Int) (w : World) (h : mayI k n = false) :
    Calls Try.prog 12 #[.int .i64 k, .int .i64 n] w fun e w' => e = .returned (.tuple #[.slice none 0 0, .int .i64 1]) ∧ w' = w := by
  have FF : Hid (∀ w, Calls Try.prog 10 #[.int .i64 k, .int .i64 n] w fun e w' => e = .returned (.bool false) ∧ w' = w) := fun w => by
    have h' := codeMay_any k n w
    rw [h] at h'
    exact h'
  clear h
  go_enter Try.func12, Try.ntmps12
  go_wp2_with (go_at_call 10; refine (FF.out _).mono ?_; rintro e w1 ⟨rfl, hw⟩; obtain rfl := hw.symm; clear hw)
  go_ret2
  exact ⟨rfl, rfl⟩

/-- The greatest of a list. -/
def maxOf : List Int → Int → Int
  | [], m => m
  | x :: l, m => maxOf l (max m x)
end Go.Proofs.Ytdeajclghlbhcaa
