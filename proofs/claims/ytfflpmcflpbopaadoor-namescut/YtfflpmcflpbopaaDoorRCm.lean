/- The document's Compare: what it answers of any two texts. -/
import Derived.Test.YtfflpmcflpbopaaDoorRWh
import Derived.Test.YtfflpmcflpbopaaDoorCmpA
import Derived.Test.YtfflpmcflpbopaaDoorSme
import Derived.BigQuiet
set_option linter.unusedVariables false
set_option linter.unusedSimpArgs false
namespace Go.Proofs.YtfflpmcflpbopaaDoor
open Go.RowKit

theorem lex_end {l : List Nat} (h : l ≠ []) : R.lex [] l = -1 ∧ R.lex l [] = 1 := by
  obtain ⟨x, y, rfl⟩ := List.exists_cons_of_ne_nil h
  exact ⟨rfl, rfl⟩
theorem lex_at {a b : List Nat} {i : Nat} (ha : i < a.length) (hb : i < b.length) : R.lex (a.drop i) (b.drop i) = if a.getD i 0 < b.getD i 0 then -1 else if b.getD i 0 < a.getD i 0 then 1 else R.lex (a.drop (i + 1)) (b.drop (i + 1)) := by
  rw [List.drop_eq_getElem_cons ha, List.drop_eq_getElem_cons hb]
  simp only [R.lex, List.getD, List.getElem?_eq_getElem ha, List.getElem?_eq_getElem hb, Option.getD_some]
theorem lex_done (a b : List Nat) {i : Nat} (ha : i = a.length) (hb : i = b.length) : R.lex (a.drop i) (b.drop i) = 0 := by
  rw [List.drop_of_length_le (by omega), List.drop_of_length_le (by omega)]; rfl
theorem lex_short (a b : List Nat) {i : Nat} (ha : i = a.length) (hb : i < b.length) : R.lex (a.drop i) (b.drop i) = -1 ∧ R.lex (b.drop i) (a.drop i) = 1 := by
  rw [List.drop_of_length_le (show a.length ≤ i by omega)]
  exact lex_end (R.ne_nil hb)

theorem GQ1 {w wr : World} (h : w.grownBy wr none) {n : Nat} : w.grownBy (wr.drewN n) none := gb_trans h (grown_drewN wr n)
theorem GQ2 {w wr : World} (h : w.grownBy wr none) {n m : Nat} : w.grownBy ((wr.drewN n).drewN m) none := gb_trans h (gb_trans (grown_drewN wr n) (grown_drewN _ m))
set_option maxHeartbeats 3200000 in
set_option maxRecDepth 100000 in
theorem rcompare_any (a b : ByteArray) (w : World) (hla : a.size * 4 ≤ 140737488355328) (hlb : b.size * 4 ≤ 140737488355328) :
    Calls Tryd.prog 19 #[.string a, .string b] w fun e w' => e = .returned (.int .i64 (R.cmp (bs a) (bs b))) ∧ w.grownBy w' none := by
  obtain ⟨C, hC⟩ : ∃ C, R.cmp (bs a) (bs b) = C := ⟨_, rfl⟩
  rw [hC]
  have HC : Hid (R.cmp (bs a) (bs b) = C) := hC
  clear hC
  obtain ⟨X, hX⟩ : ∃ X, R.runes (bs a) = X := ⟨_, rfl⟩
  obtain ⟨Y, hY⟩ : ∃ Y, R.runes (bs b) = Y := ⟨_, rfl⟩
  have HXY : Hid (R.runes (bs a) = X ∧ R.runes (bs b) = Y) := ⟨hX, hY⟩
  have hcx := rrunes_any a w hla
  have hcy := fun W => rrunes_any b W hlb
  have hxl : X.length ≤ a.size := by have := R.runes_len (bs a); rw [bs_len, hX] at this; exact this
  have hyl : Y.length ≤ b.size := by have := R.runes_len (bs b); rw [bs_len, hY] at this; exact this
  rw [hX] at hcx
  rw [hY] at hcy
  clear hX hY
  obtain ⟨n, hn⟩ : ∃ n, X.length = n := ⟨_, rfl⟩
  obtain ⟨m, hm⟩ : ∃ m, Y.length = m := ⟨_, rfl⟩
  rw [hn] at hcx hxl
  rw [hm] at hcy hyl
  have HN : Hid (X.length = n ∧ Y.length = m) := ⟨hn, hm⟩
  clear hn hm
  go_enter Tryd.func19, Tryd.ntmps19
  go_wp2_with (first | (go_at_call_of 14 a; refine hcx.mono ?_; rintro e w1 ⟨p, c, rfl, ro, g1⟩; have R1 : Hid (ROwn w.heap.size w1 (.slice p n c) X) := ro; have G1 : Hid (w.grownBy w1 none) := g1; clear ro g1) | (go_at_call_of 14 b; refine (hcy _).mono ?_; rintro e w2 ⟨q, d, rfl, ro, g2⟩; have R2 : Hid (ROwn w1.heap.size w2 (.slice q m d) Y) := ro; have G2 : Hid (w1.grownBy w2 none) := g2; clear ro g2))
  have HV : Hid (RV w2 p X ∧ RV w2 q Y ∧ w.grownBy w2 none) := ⟨(R1.out.keep G2.out).rvw, R2.out.rvw, gb_trans G1.out G2.out⟩
  clear R1 R2 G1 G2 hcx hcy
  go_loopw [7] (fun u7 wr => ∃ i : Nat, u7 = .int .i64 (i : Int) ∧ i ≤ n ∧ i ≤ m ∧ Hid (w2.grownBy wr none) ∧ Hid (R.lex X Y = R.lex (X.drop i) (Y.drop i))) (fun u7 _ => n - (intOf u7).toNat)
  case atStart => exact ⟨0, rfl, Nat.zero_le _, Nat.zero_le _, World.grownBy.refl _ _, rfl⟩
  case round =>
    obtain ⟨i, rfl, hin, him, GK, LK⟩ := hrel
    by_cases h1 : i < n
    · have h1z : (i : Int) < (n : Int) := by omega
      have h1n : ¬ (i : Int) = (n : Int) := by omega
      have h10 : (0 : Int) ≤ (i : Int) := by omega
      by_cases h2 : i < m
      · have h2z : (i : Int) < (m : Int) := by omega
        have h2n : ¬ (i : Int) = (m : Int) := by omega
        have la := lex_at (a := X) (b := Y) (i := i) (by rw [HN.out.1]; exact h1) (by rw [HN.out.2]; exact h2)
        obtain ⟨b1, off, rfl, hc⟩ := HV.out.1.spot (k := i) (by rw [HN.out.1]; exact h1)
        obtain ⟨b2, off2, rfl, hc2⟩ := HV.out.2.1.spot (k := i) (by rw [HN.out.2]; exact h2)
        obtain ⟨x, hx⟩ : ∃ x, x = X.getD i 0 := ⟨_, rfl⟩
        obtain ⟨y, hy⟩ : ∃ y, y = Y.getD i 0 := ⟨_, rfl⟩
        rw [← hx] at hc la
        rw [← hy] at hc2 la
        have HCE : Hid (∀ w', w2.grownBy w' none → w'.cell? ⟨b1, off + i, none⟩ = some (.int .i32 (x : Int)) ∧ w'.cell? ⟨b2, off2 + i, none⟩ = some (.int .i32 (y : Int))) := fun w' g' => ⟨g'.cell hc (by simp), g'.cell hc2 (by simp)⟩
        clear hc hc2 hx hy
        by_cases c1 : (x : Int) < (y : Int)
        · have hx : R.cmp (bs a) (bs b) = -1 := cmp_of (by rw [HXY.out.1, HXY.out.2, LK.out, la, if_pos (by omega)]) (by decide)
          obtain rfl := HC.out.symm.trans hx
          clear hx la
          go_wp2_with fail
          go_region_held3 (fun w' => w'.cell? ⟨b1, off + i, none⟩ = some (.int .i32 (x : Int)) ∧ w'.cell? ⟨b2, off2 + i, none⟩ = some (.int .i32 (y : Int))) (exact HCE.out _ (gb_trans GK.out (grown_drewN wr 1))) (fail)
          go_wp2
          go_ret
          exact ⟨rfl, gb_trans HV.out.2.2 (gb_trans GK.out (grown_drewN wr 1))⟩
        by_cases c2 : (y : Int) < (x : Int)
        · have hx : R.cmp (bs a) (bs b) = 1 := cmp_of (by rw [HXY.out.1, HXY.out.2, LK.out, la, if_neg (by omega), if_pos (by omega)]) (by decide)
          obtain rfl := HC.out.symm.trans hx
          clear hx la
          go_wp2_with fail
          go_region_held3 (fun w' => w'.cell? ⟨b1, off + i, none⟩ = some (.int .i32 (x : Int)) ∧ w'.cell? ⟨b2, off2 + i, none⟩ = some (.int .i32 (y : Int))) (exact HCE.out _ (gb_trans GK.out (grown_drewN wr 1))) (fail)
          go_wp2_with fail
          go_region_held3 (fun w' => w'.cell? ⟨b1, off + i, none⟩ = some (.int .i32 (x : Int)) ∧ w'.cell? ⟨b2, off2 + i, none⟩ = some (.int .i32 (y : Int))) (exact HCE.out _ (gb_trans GK.out (gb_trans (grown_drewN wr 1) (grown_drewN _ 1)))) (fail)
          go_wp2
          go_ret
          exact ⟨rfl, gb_trans HV.out.2.2 (gb_trans GK.out (gb_trans (grown_drewN wr 1) (grown_drewN _ 1)))⟩
        have HL : Hid (R.lex X Y = R.lex (X.drop (i + 1)) (Y.drop (i + 1))) := by show _ = _; rw [LK.out, la, if_neg (by omega), if_neg (by omega)]
        clear la
        go_wp2_with fail
        go_region_held3 (fun w' => w'.cell? ⟨b1, off + i, none⟩ = some (.int .i32 (x : Int)) ∧ w'.cell? ⟨b2, off2 + i, none⟩ = some (.int .i32 (y : Int))) (exact HCE.out _ (gb_trans GK.out (grown_drewN wr 1))) (fail)
        go_wp2_with fail
        go_region_held3 (fun w' => w'.cell? ⟨b1, off + i, none⟩ = some (.int .i32 (x : Int)) ∧ w'.cell? ⟨b2, off2 + i, none⟩ = some (.int .i32 (y : Int))) (exact HCE.out _ (gb_trans GK.out (gb_trans (grown_drewN wr 1) (grown_drewN _ 1)))) (fail)
        go_wp2
        go_roundw
        case rel => exact ⟨i + 1, by go_num, by omega, by omega, gb_trans GK.out (gb_trans (grown_drewN wr 1) (grown_drewN _ 1)), HL⟩
        case measure => simp [intOf]; omega
      · have h2e : (i : Int) = (m : Int) := by omega
        have h2n : ¬ (i : Int) < (m : Int) := by omega
        have hx : R.cmp (bs a) (bs b) = 1 := cmp_of (by rw [HXY.out.1, HXY.out.2, LK.out]; exact (lex_short Y X (by rw [HN.out.2]; omega) (by rw [HN.out.1]; exact h1)).2) (by decide)
        obtain rfl := HC.out.symm.trans hx
        clear hx
        go_wp2
        go_ret
        exact ⟨rfl, gb_trans HV.out.2.2 GK.out⟩
    · have h1n : ¬ (i : Int) < (n : Int) := by omega
      have h1e : (i : Int) = (n : Int) := by omega
      by_cases h2 : i < m
      · have h2z : (i : Int) < (m : Int) := by omega
        have hx : R.cmp (bs a) (bs b) = -1 := cmp_of (by rw [HXY.out.1, HXY.out.2, LK.out]; exact (lex_short X Y (by rw [HN.out.1]; omega) (by rw [HN.out.2]; exact h2)).1) (by decide)
        obtain rfl := HC.out.symm.trans hx
        clear hx
        go_wp2
        go_ret
        exact ⟨rfl, gb_trans HV.out.2.2 GK.out⟩
      · have h2n : ¬ (i : Int) < (m : Int) := by omega
        have HZ : Hid (R.lex (bs a) (bs b) = C) := by
          show _ = _
          rw [← HC.out]
          exact (cmp_of_zero (by rw [HXY.out.1, HXY.out.2, LK.out]; exact lex_done _ _ (by rw [HN.out.1]; omega) (by rw [HN.out.2]; omega))).symm
        have G3 : Hid (w.grownBy wr none) := gb_trans HV.out.2.2 GK.out
        clear HV GK LK
        go_wp2
        obtain ⟨wa, hwa⟩ : ∃ wa, wa = wr := ⟨wr, rfl⟩
        subst hwa
        go_loopw [8] (fun u8 wr => ∃ j : Nat, u8 = .int .i64 (j : Int) ∧ j ≤ a.size ∧ j ≤ b.size ∧ Hid (w.grownBy wr none) ∧ Hid (R.lex ((bs a).drop j) ((bs b).drop j) = C)) (fun u8 _ => a.size - (intOf u8).toNat)
        case atStart => exact ⟨0, rfl, Nat.zero_le _, Nat.zero_le _, G3, HZ⟩
        case round =>
          obtain ⟨j, rfl, hja, hjb, GK, LK⟩ := hrel
          by_cases k1 : j < a.size
          · have k1z : (j : Int) < (a.size : Int) := by omega
            have k1n : ¬ (j : Int) = (a.size : Int) := by omega
            have k10 : (0 : Int) ≤ (j : Int) := by omega
            by_cases k2 : j < b.size
            · have k2z : (j : Int) < (b.size : Int) := by omega
              have k2n : ¬ (j : Int) = (b.size : Int) := by omega
              have la := lex_at (a := bs a) (b := bs b) (i := j) (by rw [bs_len]; exact k1) (by rw [bs_len]; exact k2)
              rw [← bs_get a j k1, ← bs_get b j k2, LK.out] at la
              obtain ⟨x, hx⟩ : ∃ x, a[j]'k1 = x := ⟨_, rfl⟩
              obtain ⟨y, hy⟩ : ∃ y, b[j]'k2 = y := ⟨_, rfl⟩
              rw [hx, hy] at la
              by_cases c1 : (x.toNat : Int) < (y.toNat : Int)
              · rw [if_pos (by omega)] at la
                subst la
                go_wp2_with fail
                go_quiet (fail)
                go_wp2
                go_ret
                exact ⟨rfl, by first | exact GQ1 GK.out | exact GQ2 GK.out⟩
              by_cases c2 : (y.toNat : Int) < (x.toNat : Int)
              · rw [if_neg (by omega), if_pos (by omega)] at la
                subst la
                go_wp2_with fail
                go_quiet (fail)
                go_wp2_with fail
                go_quiet (fail)
                go_wp2
                go_ret
                exact ⟨rfl, by first | exact GQ2 GK.out | exact GQ1 GK.out⟩
              rw [if_neg (by omega), if_neg (by omega)] at la
              have LA : Hid (R.lex ((bs a).drop (j + 1)) ((bs b).drop (j + 1)) = C) := la.symm
              clear la
              go_wp2_with fail
              go_quiet (fail)
              go_wp2_with fail
              go_quiet (fail)
              go_wp2
              go_roundw
              case rel => exact ⟨j + 1, by go_num, by omega, by omega, by first | exact GQ2 GK.out | exact GQ1 GK.out, LA⟩
              case measure => simp [intOf]; omega
            · have k2e : (j : Int) = (b.size : Int) := by omega
              have k2n : ¬ (j : Int) < (b.size : Int) := by omega
              obtain rfl := LK.out.symm.trans (lex_short (bs b) (bs a) (i := j) (by rw [bs_len]; omega) (by rw [bs_len]; exact k1)).2
              go_wp2
              go_ret
              exact ⟨rfl, GK.out⟩
          · have k1n : ¬ (j : Int) < (a.size : Int) := by omega
            have k1e : (j : Int) = (a.size : Int) := by omega
            by_cases k2 : j < b.size
            · have k2z : (j : Int) < (b.size : Int) := by omega
              obtain rfl := LK.out.symm.trans (lex_short (bs a) (bs b) (i := j) (by rw [bs_len]; omega) (by rw [bs_len]; exact k2)).1
              go_wp2
              go_ret
              exact ⟨rfl, GK.out⟩
            · have k2n : ¬ (j : Int) < (b.size : Int) := by omega
              obtain rfl := LK.out.symm.trans (lex_done (bs a) (bs b) (i := j) (by rw [bs_len]; omega) (by rw [bs_len]; omega))
              go_wp2
              go_ret
              exact ⟨rfl, GK.out⟩
end Go.Proofs.YtfflpmcflpbopaaDoor
