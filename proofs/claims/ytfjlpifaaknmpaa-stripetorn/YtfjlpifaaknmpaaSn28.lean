/- Packed: TornW8. -/
import Derived.Deep.RegionHeld3
import Derived.Deep.MidRow
import Derived.BigRegion
import Derived.Test.YtfjlpifaaknmpaaSn1
import Derived.Test.YtfjlpifaaknmpaaSn2
import Derived.Test.YtfjlpifaaknmpaaSn3
import Derived.Test.YtfjlpifaaknmpaaSn4
import Derived.Test.YtfjlpifaaknmpaaSn5
import Derived.Test.YtfjlpifaaknmpaaSn6
import Derived.Test.YtfjlpifaaknmpaaSn7
import Derived.Test.YtfjlpifaaknmpaaSn8
import Derived.Test.YtfjlpifaaknmpaaSn9
import Derived.Test.YtfjlpifaaknmpaaSn10
import Derived.Test.YtfjlpifaaknmpaaSn11
import Derived.Test.YtfjlpifaaknmpaaSn12
import Derived.Test.YtfjlpifaaknmpaaSn13
import Derived.Test.YtfjlpifaaknmpaaSn14
import Derived.Test.YtfjlpifaaknmpaaSn15
import Derived.Test.YtfjlpifaaknmpaaSn16
import Derived.Test.YtfjlpifaaknmpaaSn17
import Derived.Test.YtfjlpifaaknmpaaSn18
import Derived.Test.YtfjlpifaaknmpaaSn19
import Derived.Test.YtfjlpifaaknmpaaSn20
import Derived.Test.YtfjlpifaaknmpaaSn21
import Derived.Test.YtfjlpifaaknmpaaSn22
import Derived.Test.YtfjlpifaaknmpaaSn23
import Derived.Test.YtfjlpifaaknmpaaSn24
import Derived.Test.YtfjlpifaaknmpaaSn25
import Derived.Test.YtfjlpifaaknmpaaSn26
import Derived.Test.YtfjlpifaaknmpaaSn27
/- The walk of StripeTorn. -/
set_option linter.unusedSimpArgs false
set_option linter.unusedVariables false
set_option maxRecDepth 100000
namespace Go.Proofs.Ytfjlpifaaknmpaa
def gT (k m : Nat) : SP.Geo := ⟨k, k + m, 1, 0⟩
namespace stripeTorn
open Go.RowKit

set_option maxHeartbeats 51200000 in
theorem walk {w : World} {K M : Int} {X Y Fu : Nat} {Su : Bool} {v : Value} {ps : List Nat} (hX : X < 256) (hY : Y < 256) (hF : Fu < 256) (hv : Vec w v ps) : Calls Try.prog 4 #[.agg #[.int .i64 K, .int .i64 M, .int .u8 (X : Int), .int .u8 (Y : Int), .int .u8 (Fu : Int), .bool Su, v]] w fun e w' => e = .returned (.bool true) ∧ w.grownBy w' none := by
  obtain ⟨pp, np, cp, rfl, hnp⟩ := hv.opened
  obtain ⟨u1, a1, ha1, e11, e12, e13, e14, e15⟩ := small_u K 5 (by decide) (by decide)
  obtain ⟨u2, a2, ha2, e21, e22, e23, e24, e25⟩ := small_u M 3 (by decide) (by decide)
  obtain ⟨k, hk⟩ : ∃ d, d = 1 + a1 := ⟨_, rfl⟩
  obtain ⟨m, hm⟩ : ∃ d, d = 1 + a2 := ⟨_, rfl⟩
  rw [← hk] at e15
  rw [← hm] at e25
  have q1 : ((u1 : Int)).tmod 5 = (a1 : Int) := e12
  have q2 : ((u2 : Int)).tmod 3 = (a2 : Int) := e22
  have HK : Hid (1 ≤ k ∧ k ≤ 5 ∧ 1 ≤ m ∧ m ≤ 3) := ⟨by omega, by omega, by omega, by omega⟩
  have HX : Hid (X < 256 ∧ Y < 256 ∧ Fu < 256) := ⟨hX, hY, hF⟩
  have HC0 : Hid (∀ w', (w.alloc (.cells #[.int .i64 K, .int .i64 M, .int .u8 (X : Int), .int .u8 (Y : Int), .int .u8 (Fu : Int), .bool Su, .slice pp np cp] 46)).grownBy w' none → w'.cell? ⟨w.heap.size, 0, none⟩ = some (.int .i64 K) ∧ w'.cell? ⟨w.heap.size, 1, none⟩ = some (.int .i64 M) ∧ w'.cell? ⟨w.heap.size, 2, none⟩ = some (.int .u8 (X : Int)) ∧ w'.cell? ⟨w.heap.size, 3, none⟩ = some (.int .u8 (Y : Int)) ∧ w'.cell? ⟨w.heap.size, 4, none⟩ = some (.int .u8 (Fu : Int)) ∧ w'.cell? ⟨w.heap.size, 5, none⟩ = some (.bool Su) ∧ w'.cell? ⟨w.heap.size, 6, none⟩ = some (.slice pp np cp)) := fun w' g1 => by
    have h := heap_alloc_new w (.cells #[.int .i64 K, .int .i64 M, .int .u8 (X : Int), .int .u8 (Y : Int), .int .u8 (Fu : Int), .bool Su, .slice pp np cp] 46)
    exact ⟨g1.cell (cell_of_row _ _ 0 _ _ _ h) (by simp), g1.cell (cell_of_row _ _ 1 _ _ _ h) (by simp), g1.cell (cell_of_row _ _ 2 _ _ _ h) (by simp), g1.cell (cell_of_row _ _ 3 _ _ _ h) (by simp), g1.cell (cell_of_row _ _ 4 _ _ _ h) (by simp), g1.cell (cell_of_row _ _ 5 _ _ _ h) (by simp), g1.cell (cell_of_row _ _ 6 _ _ _ h) (by simp)⟩
  have GA : Hid (w.grownBy (w.alloc (.cells #[.int .i64 K, .int .i64 M, .int .u8 (X : Int), .int .u8 (Y : Int), .int .u8 (Fu : Int), .bool Su, .slice pp np cp] 46)) none) := World.grownBy_alloc w _ none
  have HV0 : Hid (Vec w (.slice pp np cp) ps) := hv
  have AW : Hid (Calls Try.prog 5 #[] (w.alloc (.cells #[.int .i64 K, .int .i64 M, .int .u8 (X : Int), .int .u8 (Y : Int), .int .u8 (Fu : Int), .bool Su, .slice pp np cp] 46)) fun e w' => e = .returned (.bool true) ∧ (w.alloc (.cells #[.int .i64 K, .int .i64 M, .int .u8 (X : Int), .int .u8 (Y : Int), .int .u8 (Fu : Int), .bool Su, .slice pp np cp] 46)).grownBy w' none) := awake8 _
  clear hv hX hY hF hk hm ha1 ha2 e12 e22 hnp
  go_enter Try.func4, Try.ntmps4
  go_wp2_with fail
  refine AW.out.mono ?_
  rintro e w1 ⟨rfl, g1⟩
  have HC1 : Hid (∀ w', w1.grownBy w' none → w'.cell? ⟨w.heap.size, 0, none⟩ = some (.int .i64 K) ∧ w'.cell? ⟨w.heap.size, 1, none⟩ = some (.int .i64 M) ∧ w'.cell? ⟨w.heap.size, 2, none⟩ = some (.int .u8 (X : Int)) ∧ w'.cell? ⟨w.heap.size, 3, none⟩ = some (.int .u8 (Y : Int)) ∧ w'.cell? ⟨w.heap.size, 4, none⟩ = some (.int .u8 (Fu : Int)) ∧ w'.cell? ⟨w.heap.size, 5, none⟩ = some (.bool Su) ∧ w'.cell? ⟨w.heap.size, 6, none⟩ = some (.slice pp np cp)) := fun w' g' => HC0.out w' (grown_trans g1 g')
  have G1 : Hid (w.grownBy w1 none) := grown_trans GA.out g1
  have HV : Hid (Vec w1 (.slice pp np cp) ps) := HV0.out.keep G1.out
  clear g1 HC0 GA HV0 AW
  obtain ⟨b, hb⟩ : ∃ b, b = w.heap.size := ⟨_, rfl⟩
  rw [← hb] at HC1
  (try rw [← hb])
  clear hb
  have HC := HC1
  clear HC1
  go_wp2_with fail
  go_region_held3 (fun w' => w'.cell? ⟨b, 0, none⟩ = some (.int .i64 K) ∧ w'.cell? ⟨b, 1, none⟩ = some (.int .i64 M)) (exact ⟨(HC.out _ (grown_drewN w1 1)).1, (HC.out _ (grown_drewN w1 1)).2.1⟩) (fail)
  have MD : Hid (Calls Try.prog 12 #[.int .i64 (k : Int), .int .i64 (m : Int), .int .i64 1, .int .i64 0] (w1.drewN 1) fun e w' => ∃ s t, e = .returned (.tuple #[ptr s, .pointer (some ⟨t, 0, none⟩)]) ∧ ∃ F G a r, Duo F G (w1.drewN 1) w' s a t r (gT k m) (AM.Raw.new (k + m) (0 + 8 * 1))) := made8_yes (w1.drewN 1) (k := k) (more := m) (S := 1) (f := 0) HK.out.1 HK.out.2.2.1 (by have := HK.out; omega) (by decide) (by decide) (by decide)
  obtain ⟨R1, R2, hw1, ok1, l1, hb1, cm, f2⟩ := SP.torn_a (k := k) (m := m) (xs := datL k X) HK.out.1 HK.out.2.1 HK.out.2.2.1 HK.out.2.2.2 (datL_small k X) (datL_len k X) writes_len8
  have A1 : Hid (SP.write (AM.Raw.new (k + m) (0 + 8 * 1)) (gT k m) ((0 : Nat) : Int) 4 (datL k X) = (0, R1) ∧ (gT k m).Ok R1 ∧ R1.L.length ≤ 64 ∧ R1.barrier = (0, R2)) := ⟨hw1, ok1, l1, hb1⟩
  have CM2 : Hid (SP.Calm R2 (gT k m) 4 (datL k X)) := cm
  clear hw1 ok1 l1 hb1 cm
  go_wp2_with fail
  refine MD.out.mono ?_
  rintro e w3 ⟨s, t, rfl, F1, G2, a, r, du⟩
  have I3 : Hid (SI F1 w3 s a (gT k m) (AM.Raw.new (k + m) (0 + 8 * 1))) := du.i
  have B3 : Hid (Base w1 F1 w3) := ⟨grown_trans (grown_drewN w1 1) du.gr, du.bi⟩
  clear du MD
  have GD : Hid (w3.grownBy (w3.drewN 1) none) := grown_drewN w3 1
  have HC3 : Hid (∀ w', w3.grownBy w' none → w'.cell? ⟨b, 2, none⟩ = some (.int .u8 (X : Int)) ∧ w'.cell? ⟨b, 3, none⟩ = some (.int .u8 (Y : Int))) := fun w' g' => ⟨(HC.out w' (grown_trans B3.out.grown g')).2.2.1, (HC.out w' (grown_trans B3.out.grown g')).2.2.2.1⟩
  have DT : Hid (∀ (w' : World) (x : Nat), x < 256 → Calls Try.prog 13 #[.int .i64 (k : Int), .int .u8 (x : Int)] w' fun e w'' => ∃ p n c, e = .returned (.slice p n c) ∧ Own w'.heap.size w'' (.slice p n c) (datL k x) ∧ w'.grownBy w'' none) := fun w' x hx => data_yes w' HK.out.1 (by have := HK.out; omega) hx
  go_wp2_with fail
  go_region_held3 (fun w' => w'.cell? ⟨b, 2, none⟩ = some (.int .u8 (X : Int)) ∧ w'.cell? ⟨b, 3, none⟩ = some (.int .u8 (Y : Int))) (first | exact HC3.out _ (grown_drewN w3 1) | exact HC3.out _ G7.out | exact HC3.out _ G8.out)
    ((first
      | (go_at_call_of 13 (Value.int IntKind.u8 (X : Int)); refine (DT.out _ X HX.out.1).mono ?_; rintro e w7 ⟨p7, n7, c7, rfl, o7, g7⟩; have G7 : Hid (w3.grownBy w7 none) := grown_trans GD.out g7; have O7 : Hid (Own w3.heap.size w7 (.slice p7 n7 c7) (datL k X)) := o7.down GD.out.size; clear o7 g7)
      | (go_at_call_of 13 (Value.int IntKind.u8 (Y : Int)); refine (DT.out _ Y HX.out.2.1).mono ?_; rintro e w8 ⟨p8, n8, c8, rfl, o8, g8⟩; have G8 : Hid (w3.grownBy w8 none) := grown_trans G7.out g8; have O8 : Hid (Own w3.heap.size w8 (.slice p8 n8 c8) (datL k Y) ∧ Own w3.heap.size w8 (.slice p7 n7 c7) (datL k X)) := ⟨o8.down G7.out.size, O7.out.keep g8⟩; clear o8 g8)))
  have I : Hid (SI F1 w8 s a (gT k m) (AM.Raw.new (k + m) (0 + 8 * 1))) := I3.out.keep G8.out
  have B : Hid (Base w1 F1 w8) := B3.out.keep G8.out
  have V : Hid (Aw F1 w8 (.slice p7 n7 c7) (datL k X)) := O8.out.2.aw I3.out.i.lt
  have U : Hid (Aw F1 w8 (.slice p8 n8 c8) (datL k Y)) := O8.out.1.aw I3.out.i.lt
  clear I3 B3 GD HC3 DT G7 G8 O7 O8
  have WA : Hid (Calls Try.prog 14 #[ptr s, .int .i64 0, .int .u64 4, .slice p7 n7 c7] w8 fun e w' => e = .returned (.int .i64 0) ∧ ∃ F', SI F' w' s a (gT k m) R1 ∧ Step F1 w8 F' w') := by
    have h0 := swrite_all I.out ((0 : Nat) : Int) 4 V.out (by show (0 : Nat) ≤ 990000; omega)
    rw [A1.out.1] at h0
    exact h0
  go_wp2_with fail
  refine WA.out.mono ?_
  rintro e w9 ⟨rfl, F9, ix, st⟩
  have bx := B.out.step st
  have vx := V.out.step st
  have ux := U.out.step st
  clear st
  clear WA
  have Ix : Hid (SI F9 w9 s a (gT k m) R1) := ix
  have Bx : Hid (Base w1 F9 w9) := bx
  have Vx : Hid (Aw F9 w9 (.slice p7 n7 c7) (datL k X)) := vx
  have Ux : Hid (Aw F9 w9 (.slice p8 n8 c8) (datL k Y)) := ux
  clear ix bx vx ux I B V U
  have I := Ix
  have B := Bx
  have V := Vx
  have U := Ux
  clear Ix Bx Vx Ux
  have BA : Hid (Calls Try.prog 15 #[ptr a] w9 fun e w' => e = .returned (.int .i64 0) ∧ ∃ F', SI F' w' s a (gT k m) R2 ∧ Step F9 w9 F' w') := by
    refine (barrier_at I.out.i (c := 0) (by rw [A1.out.2.2.2]; rfl) rfl).mono ?_
    rw [A1.out.2.2.2]
    rintro e w' ⟨rfl, F', i, st⟩
    exact ⟨rfl, F', I.out.step i st CM2.out.ok, st⟩
  go_wp2_with (first | (go_at_call 10; refine (sarray_yes I.out).mono ?_; rintro e w9 ⟨rfl, hw9⟩; obtain rfl := hw9.symm; clear hw9) | fail)
  refine BA.out.mono ?_
  rintro e w10 ⟨rfl, F10, ix, st⟩
  have bx := B.out.step st
  have vx := V.out.step st
  have ux := U.out.step st
  clear st
  clear BA A1
  have Ix : Hid (SI F10 w10 s a (gT k m) R2) := ix
  have Bx : Hid (Base w1 F10 w10) := bx
  have Vx : Hid (Aw F10 w10 (.slice p7 n7 c7) (datL k X)) := vx
  have Ux : Hid (Aw F10 w10 (.slice p8 n8 c8) (datL k Y)) := ux
  clear ix bx vx ux I B V U
  have I := Ix
  have B := Bx
  have V := Vx
  have U := Ux
  clear Ix Bx Vx Ux
  have z4 := (HC.out _ B.out.grown).2.2.2.2.1
  by_cases hf0 : Fu = 0
  · subst hf0
    go_wp2_with fail
    clear z4
    obtain ⟨c, R4, hwr, ok4, l4, t1, t2, t3, l5, ok5, ok6, on6⟩ := CM2.out.second I.out.i.ok (datL_small k Y) (datL_len k Y) (m' := 7) (by decide) writes_len8
    have S4 : Hid ((gT k m).Ok R4 ∧ R4.L.length ≤ 8 * (gT k m).n ∧ (∀ ps, SP.Torn (R4.crash ps) (gT k m) 0 4 7 (datL k X) (datL k Y))) := ⟨ok4, l4, t1⟩
    have S5 : Hid ((R4.barrier.1 ≠ 0 → ∀ ps, SP.Torn (R4.barrier.2.crash ps) (gT k m) 0 4 7 (datL k X) (datL k Y)) ∧ (c = 0 → R4.barrier.1 = 0 → ∀ ps, SP.Wrote (R4.barrier.2.crash ps) (gT k m) 0 7 (datL k Y)) ∧ R4.barrier.2.L.length ≤ 8 * (gT k m).n ∧ (gT k m).Ok R4.barrier.2 ∧ (∀ ps, (gT k m).Ok (R4.barrier.2.crash ps)) ∧ (∀ d, d < (gT k m).n → ∀ ps, (R4.barrier.2.crash ps).on (d : Int) = true)) := ⟨t2, t3, l5, ok5, ok6, on6⟩
    have LN : Hid (8 * (gT k m).n ≤ 64) := by show 8 * (k + m) ≤ 64; have := HK.out; omega
    have WC : Hid (Calls Try.prog 14 #[ptr s, .int .i64 0, .int .u64 7, .slice p8 n8 c8] w10 fun e w' => e = .returned (.int .i64 (c : Int)) ∧ ∃ F', SI F' w' s a (gT k m) R4 ∧ Step F10 w10 F' w') := by
      have h0 := swrite_all I.out ((0 : Nat) : Int) 7 U.out (by rw [CM2.out.L]; decide)
      rw [hwr] at h0
      exact h0
    clear hwr ok4 l4 t1 t2 t3 l5 ok5 ok6 on6
    by_cases hc : c = 0
    · subst hc
      go_wp2_with fail
      refine WC.out.mono ?_
      rintro e w11 ⟨rfl, Fw11, ix, st⟩
      have bx := B.out.step st
      have vx := V.out.step st
      have ux := U.out.step st
      clear st
      clear WC
      have Ix : Hid (SI Fw11 w11 s a (gT k m) R4) := ix
      have Bx : Hid (Base w1 Fw11 w11) := bx
      have Vx : Hid (Aw Fw11 w11 (.slice p7 n7 c7) (datL k X)) := vx
      have Ux : Hid (Aw Fw11 w11 (.slice p8 n8 c8) (datL k Y)) := ux
      clear ix bx vx ux I B V U
      have I := Ix
      have B := Bx
      have V := Vx
      have U := Ux
      clear Ix Bx Vx Ux
      have z5 := (HC.out _ B.out.grown).2.2.2.2.2.1
      cases Su
      · skip
        clear z5
        have z5 := (HC.out _ B.out.grown).2.2.2.2.2.1
        go_wp2_with fail
        clear z5
        have HZ : Hid (w11.grownBy (w11.drewN 1) none) := grown_drewN w11 1
        have HP : Hid ((w11.drewN 1).cell? ⟨b, 6, none⟩ = some (.slice pp np cp)) := (HC.out _ (grown_trans B.out.grown HZ.out)).2.2.2.2.2.2
        have CR : Hid (Calls Try.prog 17 #[ptr a, .slice pp np cp] (w11.drewN 1) fun e w' => e = .returned (.tuple #[]) ∧ ∃ F', SI F' w' s a (gT k m) (R4.crash ps) ∧ Step Fw11 w11 F' w' ∧ w'.cell? ⟨b, 6, none⟩ = some (.slice pp np cp)) := by
          refine (crash_at (I.out.keep HZ.out).i (by have h1 := S4.out.2.1; have h2 := LN.out; omega) ((B.out.keep HZ.out).aw HV.out) rfl).mono ?_
          rintro e w' ⟨rfl, F', i, st⟩
          have st2 := (Step.new HZ.out).trans st
          exact ⟨rfl, F', (I.out.keep HZ.out).step i st (S4.out.2.2 ps).ok, st2, (HC.out _ (B.out.step st2).grown).2.2.2.2.2.2⟩
        go_wp2_with fail
        go_region_held3 (fun w' => w'.cell? ⟨b, 6, none⟩ = some (.slice pp np cp)) (first | exact HP.out | exact HQ.out)
          ((first
            | (go_at_call 10; refine (sarray_yes (I.out.keep HZ.out)).mono ?_; rintro e w9 ⟨rfl, hw9⟩; obtain rfl := hw9.symm; clear hw9)
            | (go_at_call 17; refine CR.out.mono ?_; rintro e w12 ⟨rfl, Fw12, ix0, st0, hq0⟩; have IX : Hid (SI Fw12 w12 s a (gT k m) (R4.crash ps)) := ix0; have ST : Hid (Step Fw11 w11 Fw12 w12) := st0; have HQ : Hid (w12.cell? ⟨b, 6, none⟩ = some (.slice pp np cp)) := hq0; clear ix0 st0 hq0)))
        have ix := IX.out
        have st := ST.out
        have bx := B.out.step st
        have vx := V.out.step st
        have ux := U.out.step st
        clear st
        clear IX ST HQ HP HZ CR
        have Ix : Hid (SI Fw12 w12 s a (gT k m) (R4.crash ps)) := ix
        have Bx : Hid (Base w1 Fw12 w12) := bx
        have Vx : Hid (Aw Fw12 w12 (.slice p7 n7 c7) (datL k X)) := vx
        have Ux : Hid (Aw Fw12 w12 (.slice p8 n8 c8) (datL k Y)) := ux
        clear ix bx vx ux I B V U
        have I := Ix
        have B := Bx
        have V := Vx
        have U := Ux
        clear Ix Bx Vx Ux
        have T6 : Hid (SP.Torn (R4.crash ps) (gT k m) 0 4 7 (datL k X) (datL k Y)) := S4.out.2.2 ps
        clear S4 S5
        go_wp2_with fail
        refine (sread_all I.out ((0 : Nat) : Int) 4).mono ?_
        rintro e w13 ⟨v9, er1, out1, rfl, hr1, ho1, gx⟩
        obtain ⟨p9, n9, c9, rfl, hq9⟩ := ho1.vec.opened
        clear hq9
        have O1 : Hid (Vec w13 (.slice p9 n9 c9) out1) := ho1.vec
        have ix := I.out.keep gx
        have bx := B.out.keep gx
        have vx := V.out.keep gx
        have ux := U.out.keep gx
        clear gx ho1
        have Ix : Hid (SI Fw12 w13 s a (gT k m) (R4.crash ps)) := ix
        have Bx : Hid (Base w1 Fw12 w13) := bx
        have Vx : Hid (Aw Fw12 w13 (.slice p7 n7 c7) (datL k X)) := vx
        have Ux : Hid (Aw Fw12 w13 (.slice p8 n8 c8) (datL k Y)) := ux
        clear ix bx vx ux I B V U
        have I := Ix
        have B := Bx
        have V := Vx
        have U := Ux
        clear Ix Bx Vx Ux
        rcases (T6.out.reads (by decide) (by decide) (by decide) (by decide) (by decide) (datL_small k X) (datL_len k X) (datL_small k Y) (datL_len k Y)).1 hr1 with ⟨rfl, rfl⟩ | rfl
        · clear hr1
          go_wp2_with fail
          refine (sread_all I.out ((0 : Nat) : Int) 7).mono ?_
          rintro e w14 ⟨v10, er2, out2, rfl, hr2, ho2, gx⟩
          obtain ⟨p10, n10, c10, rfl, hq10⟩ := ho2.vec.opened
          clear hq10
          have O2 : Hid (Vec w14 (.slice p10 n10 c10) out2) := ho2.vec
          have O1x : Hid (Vec w14 (.slice p9 n9 c9) (datL k X)) := O1.out.keep gx
          have ix := I.out.keep gx
          have bx := B.out.keep gx
          have vx := V.out.keep gx
          have ux := U.out.keep gx
          clear gx ho2 O1
          have O1 := O1x
          clear O1x
          have Ix : Hid (SI Fw12 w14 s a (gT k m) (R4.crash ps)) := ix
          have Bx : Hid (Base w1 Fw12 w14) := bx
          have Vx : Hid (Aw Fw12 w14 (.slice p7 n7 c7) (datL k X)) := vx
          have Ux : Hid (Aw Fw12 w14 (.slice p8 n8 c8) (datL k Y)) := ux
          clear ix bx vx ux I B V U
          have I := Ix
          have B := Bx
          have V := Vx
          have U := Ux
          clear Ix Bx Vx Ux
          rcases (T6.out.reads (by decide) (by decide) (by decide) (by decide) (by decide) (datL_small k X) (datL_len k X) (datL_small k Y) (datL_len k Y)).2 hr2 with ⟨rfl, rfl⟩ | rfl
          · clear hr2
            go_wp2_with fail
            refine (equal_at O1.out V.out.vec rfl).mono ?_
            rintro e w9 ⟨rfl, hw9⟩
            obtain rfl := hw9.symm
            clear hw9
            go_wp2_with fail
            refine (equal_at O2.out U.out.vec rfl).mono ?_
            rintro e w9 ⟨rfl, hw9⟩
            obtain rfl := hw9.symm
            clear hw9
            go_wp2_with fail
            have HIW : SP.why (R4.crash ps) (gT k m) ((0 : Nat) : Int) = 0 := SP.why_at T6.out.off (show 0 < 1 by decide)
            have HH := shigh_all I.out ((0 : Nat) : Int)
            unfold SP.hiN at HH
            rw [HIW] at HH
            rw [if_pos rfl] at HH
            simp only [Int.toNat_natCast] at HH
            have H9 : Hid (Calls Try.prog 20 #[ptr s, .int .i64 0] w14 fun e w' => e = .returned (.tuple #[.int .u64 ((SP.high (R4.crash ps) (gT k m) 0 : Nat) : Int), .int .i64 0]) ∧ w14.grownBy w' none) := HH
            clear HH HIW
            have HO := T6.out.high (by decide) (by decide)
            rcases HO with ho | ho
            · rw [ho] at H9
              clear ho
              refine H9.out.mono ?_
              rintro e w15 ⟨rfl, gx⟩
              have z5 := (HC.out _ (grown_trans B.out.grown gx)).2.2.2.2.2.1
              have GZ : Hid (w.grownBy w15 none) := grown_trans G1.out (grown_trans B.out.grown gx)
              clear gx
              go_wp2
              go_ret
              exact ⟨rfl, GZ.out⟩
            · rw [ho] at H9
              clear ho
              refine H9.out.mono ?_
              rintro e w16 ⟨rfl, gx⟩
              have z5 := (HC.out _ (grown_trans B.out.grown gx)).2.2.2.2.2.1
              have GZ : Hid (w.grownBy w16 none) := grown_trans G1.out (grown_trans B.out.grown gx)
              clear gx
              go_wp2
              go_ret
              exact ⟨rfl, GZ.out⟩
          · clear hr2
            go_wp2_with fail
            refine (equal_at O1.out V.out.vec rfl).mono ?_
            rintro e w9 ⟨rfl, hw9⟩
            obtain rfl := hw9.symm
            clear hw9
            go_wp2_with fail
            have HIW : SP.why (R4.crash ps) (gT k m) ((0 : Nat) : Int) = 0 := SP.why_at T6.out.off (show 0 < 1 by decide)
            have HH := shigh_all I.out ((0 : Nat) : Int)
            unfold SP.hiN at HH
            rw [HIW] at HH
            rw [if_pos rfl] at HH
            simp only [Int.toNat_natCast] at HH
            have H9 : Hid (Calls Try.prog 20 #[ptr s, .int .i64 0] w14 fun e w' => e = .returned (.tuple #[.int .u64 ((SP.high (R4.crash ps) (gT k m) 0 : Nat) : Int), .int .i64 0]) ∧ w14.grownBy w' none) := HH
            clear HH HIW
            have HO := T6.out.high (by decide) (by decide)
            rcases HO with ho | ho
            · rw [ho] at H9
              clear ho
              refine H9.out.mono ?_
              rintro e w17 ⟨rfl, gx⟩
              have z5 := (HC.out _ (grown_trans B.out.grown gx)).2.2.2.2.2.1
              have GZ : Hid (w.grownBy w17 none) := grown_trans G1.out (grown_trans B.out.grown gx)
              clear gx
              go_wp2
              go_ret
              exact ⟨rfl, GZ.out⟩
            · rw [ho] at H9
              clear ho
              refine H9.out.mono ?_
              rintro e w18 ⟨rfl, gx⟩
              have z5 := (HC.out _ (grown_trans B.out.grown gx)).2.2.2.2.2.1
              have GZ : Hid (w.grownBy w18 none) := grown_trans G1.out (grown_trans B.out.grown gx)
              clear gx
              go_wp2
              go_ret
              exact ⟨rfl, GZ.out⟩
        · clear hr1
          go_wp2_with fail
          refine (sread_all I.out ((0 : Nat) : Int) 7).mono ?_
          rintro e w14 ⟨v10, er2, out2, rfl, hr2, ho2, gx⟩
          obtain ⟨p10, n10, c10, rfl, hq10⟩ := ho2.vec.opened
          clear hq10
          have O2 : Hid (Vec w14 (.slice p10 n10 c10) out2) := ho2.vec
          have O1x : Hid (Vec w14 (.slice p9 n9 c9) out1) := O1.out.keep gx
          have ix := I.out.keep gx
          have bx := B.out.keep gx
          have vx := V.out.keep gx
          have ux := U.out.keep gx
          clear gx ho2 O1
          have O1 := O1x
          clear O1x
          have Ix : Hid (SI Fw12 w14 s a (gT k m) (R4.crash ps)) := ix
          have Bx : Hid (Base w1 Fw12 w14) := bx
          have Vx : Hid (Aw Fw12 w14 (.slice p7 n7 c7) (datL k X)) := vx
          have Ux : Hid (Aw Fw12 w14 (.slice p8 n8 c8) (datL k Y)) := ux
          clear ix bx vx ux I B V U
          have I := Ix
          have B := Bx
          have V := Vx
          have U := Ux
          clear Ix Bx Vx Ux
          rcases (T6.out.reads (by decide) (by decide) (by decide) (by decide) (by decide) (datL_small k X) (datL_len k X) (datL_small k Y) (datL_len k Y)).2 hr2 with ⟨rfl, rfl⟩ | rfl
          · clear hr2
            go_wp2_with fail
            refine (equal_at O2.out U.out.vec rfl).mono ?_
            rintro e w9 ⟨rfl, hw9⟩
            obtain rfl := hw9.symm
            clear hw9
            go_wp2_with fail
            have HIW : SP.why (R4.crash ps) (gT k m) ((0 : Nat) : Int) = 0 := SP.why_at T6.out.off (show 0 < 1 by decide)
            have HH := shigh_all I.out ((0 : Nat) : Int)
            unfold SP.hiN at HH
            rw [HIW] at HH
            rw [if_pos rfl] at HH
            simp only [Int.toNat_natCast] at HH
            have H9 : Hid (Calls Try.prog 20 #[ptr s, .int .i64 0] w14 fun e w' => e = .returned (.tuple #[.int .u64 ((SP.high (R4.crash ps) (gT k m) 0 : Nat) : Int), .int .i64 0]) ∧ w14.grownBy w' none) := HH
            clear HH HIW
            have HO := T6.out.high (by decide) (by decide)
            rcases HO with ho | ho
            · rw [ho] at H9
              clear ho
              refine H9.out.mono ?_
              rintro e w19 ⟨rfl, gx⟩
              have z5 := (HC.out _ (grown_trans B.out.grown gx)).2.2.2.2.2.1
              have GZ : Hid (w.grownBy w19 none) := grown_trans G1.out (grown_trans B.out.grown gx)
              clear gx
              go_wp2
              go_ret
              exact ⟨rfl, GZ.out⟩
            · rw [ho] at H9
              clear ho
              refine H9.out.mono ?_
              rintro e w20 ⟨rfl, gx⟩
              have z5 := (HC.out _ (grown_trans B.out.grown gx)).2.2.2.2.2.1
              have GZ : Hid (w.grownBy w20 none) := grown_trans G1.out (grown_trans B.out.grown gx)
              clear gx
              go_wp2
              go_ret
              exact ⟨rfl, GZ.out⟩
          · clear hr2
            go_wp2_with fail
            have HIW : SP.why (R4.crash ps) (gT k m) ((0 : Nat) : Int) = 0 := SP.why_at T6.out.off (show 0 < 1 by decide)
            have HH := shigh_all I.out ((0 : Nat) : Int)
            unfold SP.hiN at HH
            rw [HIW] at HH
            rw [if_pos rfl] at HH
            simp only [Int.toNat_natCast] at HH
            have H9 : Hid (Calls Try.prog 20 #[ptr s, .int .i64 0] w14 fun e w' => e = .returned (.tuple #[.int .u64 ((SP.high (R4.crash ps) (gT k m) 0 : Nat) : Int), .int .i64 0]) ∧ w14.grownBy w' none) := HH
            clear HH HIW
            have HO := T6.out.high (by decide) (by decide)
            rcases HO with ho | ho
            · rw [ho] at H9
              clear ho
              refine H9.out.mono ?_
              rintro e w21 ⟨rfl, gx⟩
              have z5 := (HC.out _ (grown_trans B.out.grown gx)).2.2.2.2.2.1
              have GZ : Hid (w.grownBy w21 none) := grown_trans G1.out (grown_trans B.out.grown gx)
              clear gx
              go_wp2
              go_ret
              exact ⟨rfl, GZ.out⟩
            · rw [ho] at H9
              clear ho
              refine H9.out.mono ?_
              rintro e w22 ⟨rfl, gx⟩
              have z5 := (HC.out _ (grown_trans B.out.grown gx)).2.2.2.2.2.1
              have GZ : Hid (w.grownBy w22 none) := grown_trans G1.out (grown_trans B.out.grown gx)
              clear gx
              go_wp2
              go_ret
              exact ⟨rfl, GZ.out⟩
      · skip
        clear z5
        have z5 := (HC.out _ B.out.grown).2.2.2.2.2.1
        have BC : Hid (Calls Try.prog 15 #[ptr a] w11 fun e w' => e = .returned (.int .i64 (R4.barrier.1 : Int)) ∧ ∃ F', SI F' w' s a (gT k m) R4.barrier.2 ∧ Step Fw11 w11 F' w') := by
          refine (barrier_at I.out.i rfl rfl).mono ?_
          rintro e w' ⟨rfl, F', i, st⟩
          exact ⟨rfl, F', I.out.step i st S5.out.2.2.2.1, st⟩
        by_cases hb : R4.barrier.1 = 0
        · rw [hb] at BC
          have HB0 : Hid (R4.barrier.1 = 0) := hb
          clear hb
          go_wp2_with (first | (go_at_call 10; refine (sarray_yes I.out).mono ?_; rintro e w9 ⟨rfl, hw9⟩; obtain rfl := hw9.symm; clear hw9) | fail)
          refine BC.out.mono ?_
          rintro e w23 ⟨rfl, Fw23, ix, st⟩
          have bx := B.out.step st
          have vx := V.out.step st
          have ux := U.out.step st
          clear st
          clear BC z5
          have Ix : Hid (SI Fw23 w23 s a (gT k m) R4.barrier.2) := ix
          have Bx : Hid (Base w1 Fw23 w23) := bx
          have Vx : Hid (Aw Fw23 w23 (.slice p7 n7 c7) (datL k X)) := vx
          have Ux : Hid (Aw Fw23 w23 (.slice p8 n8 c8) (datL k Y)) := ux
          clear ix bx vx ux I B V U
          have I := Ix
          have B := Bx
          have V := Vx
          have U := Ux
          clear Ix Bx Vx Ux
          have HZ : Hid (w23.grownBy (w23.drewN 1) none) := grown_drewN w23 1
          have HP : Hid ((w23.drewN 1).cell? ⟨b, 6, none⟩ = some (.slice pp np cp)) := (HC.out _ (grown_trans B.out.grown HZ.out)).2.2.2.2.2.2
          have CR : Hid (Calls Try.prog 17 #[ptr a, .slice pp np cp] (w23.drewN 1) fun e w' => e = .returned (.tuple #[]) ∧ ∃ F', SI F' w' s a (gT k m) (R4.barrier.2.crash ps) ∧ Step Fw23 w23 F' w' ∧ w'.cell? ⟨b, 6, none⟩ = some (.slice pp np cp)) := by
            refine (crash_at (I.out.keep HZ.out).i (by have h1 := S5.out.2.2.1; have h2 := LN.out; omega) ((B.out.keep HZ.out).aw HV.out) rfl).mono ?_
            rintro e w' ⟨rfl, F', i, st⟩
            have st2 := (Step.new HZ.out).trans st
            exact ⟨rfl, F', (I.out.keep HZ.out).step i st (S5.out.2.2.2.2.1 ps), st2, (HC.out _ (B.out.step st2).grown).2.2.2.2.2.2⟩
          go_wp2_with fail
          go_region_held3 (fun w' => w'.cell? ⟨b, 6, none⟩ = some (.slice pp np cp)) (first | exact HP.out | exact HQ.out)
            ((first
              | (go_at_call 10; refine (sarray_yes (I.out.keep HZ.out)).mono ?_; rintro e w9 ⟨rfl, hw9⟩; obtain rfl := hw9.symm; clear hw9)
              | (go_at_call 17; refine CR.out.mono ?_; rintro e w24 ⟨rfl, Fw24, ix0, st0, hq0⟩; have IX : Hid (SI Fw24 w24 s a (gT k m) (R4.barrier.2.crash ps)) := ix0; have ST : Hid (Step Fw23 w23 Fw24 w24) := st0; have HQ : Hid (w24.cell? ⟨b, 6, none⟩ = some (.slice pp np cp)) := hq0; clear ix0 st0 hq0)))
          have ix := IX.out
          have st := ST.out
          have bx := B.out.step st
          have vx := V.out.step st
          have ux := U.out.step st
          clear st
          clear IX ST HQ HP HZ CR
          have Ix : Hid (SI Fw24 w24 s a (gT k m) (R4.barrier.2.crash ps)) := ix
          have Bx : Hid (Base w1 Fw24 w24) := bx
          have Vx : Hid (Aw Fw24 w24 (.slice p7 n7 c7) (datL k X)) := vx
          have Ux : Hid (Aw Fw24 w24 (.slice p8 n8 c8) (datL k Y)) := ux
          clear ix bx vx ux I B V U
          have I := Ix
          have B := Bx
          have V := Vx
          have U := Ux
          clear Ix Bx Vx Ux
          have T6 : Hid (SP.Wrote (R4.barrier.2.crash ps) (gT k m) 0 7 (datL k Y) ∧ (R4.barrier.2.crash ps).off = false ∧ (gT k m).Ok (R4.barrier.2.crash ps) ∧ (∀ d, d < (gT k m).n → (R4.barrier.2.crash ps).on (d : Int) = true)) := ⟨S5.out.2.1 (by first | rfl | trivial) HB0.out ps, rfl, S5.out.2.2.2.2.1 ps, fun d hd => S5.out.2.2.2.2.2 d hd ps⟩
          clear S4 S5 HB0
          go_wp2_with fail
          refine (sread_all I.out ((0 : Nat) : Int) 4).mono ?_
          rintro e w25 ⟨v9, er1, out1, rfl, hr1, ho1, gx⟩
          obtain ⟨p9, n9, c9, rfl, hq9⟩ := ho1.vec.opened
          clear hq9
          have O1 : Hid (Vec w25 (.slice p9 n9 c9) out1) := ho1.vec
          have ix := I.out.keep gx
          have bx := B.out.keep gx
          have vx := V.out.keep gx
          have ux := U.out.keep gx
          clear gx ho1
          have Ix : Hid (SI Fw24 w25 s a (gT k m) (R4.barrier.2.crash ps)) := ix
          have Bx : Hid (Base w1 Fw24 w25) := bx
          have Vx : Hid (Aw Fw24 w25 (.slice p7 n7 c7) (datL k X)) := vx
          have Ux : Hid (Aw Fw24 w25 (.slice p8 n8 c8) (datL k Y)) := ux
          clear ix bx vx ux I B V U
          have I := Ix
          have B := Bx
          have V := Vx
          have U := Ux
          clear Ix Bx Vx Ux
          have he1 : er1 = 20 := SP.rdp_few9 hr1 (SP.why_at T6.out.2.1 (show 0 < 1 by decide)) (by decide) (by rw [T6.out.1.other (by decide) (by decide) (by decide)]; exact (show 0 < k by have := HK.out; omega))
          subst he1
          clear hr1
          go_wp2_with fail
          refine (sread_all I.out ((0 : Nat) : Int) 7).mono ?_
          rintro e w26 ⟨v10, er2, out2, rfl, hr2, ho2, gx⟩
          obtain ⟨p10, n10, c10, rfl, hq10⟩ := ho2.vec.opened
          clear hq10
          have O2 : Hid (Vec w26 (.slice p10 n10 c10) out2) := ho2.vec
          have O1x : Hid (Vec w26 (.slice p9 n9 c9) out1) := O1.out.keep gx
          have ix := I.out.keep gx
          have bx := B.out.keep gx
          have vx := V.out.keep gx
          have ux := U.out.keep gx
          clear gx ho2 O1
          have O1 := O1x
          clear O1x
          have Ix : Hid (SI Fw24 w26 s a (gT k m) (R4.barrier.2.crash ps)) := ix
          have Bx : Hid (Base w1 Fw24 w26) := bx
          have Vx : Hid (Aw Fw24 w26 (.slice p7 n7 c7) (datL k X)) := vx
          have Ux : Hid (Aw Fw24 w26 (.slice p8 n8 c8) (datL k Y)) := ux
          clear ix bx vx ux I B V U
          have I := Ix
          have B := Bx
          have V := Vx
          have U := Ux
          clear Ix Bx Vx Ux
          obtain ⟨ho2, he2⟩ := (T6.out.1.read T6.out.2.2.1 (by decide) (by decide) (datL_small k Y) (datL_len k Y) T6.out.2.1 (show 0 < 1 by decide) hr2).1 (by rw [SP.all_ons T6.out.2.2.1 T6.out.2.2.2]; show k ≤ k + m; omega)
          subst ho2 he2
          clear hr2
          go_wp2_with fail
          refine (equal_at O2.out U.out.vec rfl).mono ?_
          rintro e w9 ⟨rfl, hw9⟩
          obtain rfl := hw9.symm
          clear hw9
          go_wp2_with fail
          have HIW : SP.why (R4.barrier.2.crash ps) (gT k m) ((0 : Nat) : Int) = 0 := SP.why_at T6.out.2.1 (show 0 < 1 by decide)
          have HH := shigh_all I.out ((0 : Nat) : Int)
          unfold SP.hiN at HH
          rw [HIW] at HH
          rw [if_pos rfl] at HH
          simp only [Int.toNat_natCast] at HH
          have H9 : Hid (Calls Try.prog 20 #[ptr s, .int .i64 0] w26 fun e w' => e = .returned (.tuple #[.int .u64 ((SP.high (R4.barrier.2.crash ps) (gT k m) 0 : Nat) : Int), .int .i64 0]) ∧ w26.grownBy w' none) := HH
          clear HH HIW
          rw [T6.out.1.high (by decide) (d := 0) (by show 0 < k + m; have := HK.out; omega) (T6.out.2.2.2 0 (by show 0 < k + m; have := HK.out; omega))] at H9
          refine H9.out.mono ?_
          rintro e w27 ⟨rfl, gx⟩
          have z5 := (HC.out _ (grown_trans B.out.grown gx)).2.2.2.2.2.1
          have GZ : Hid (w.grownBy w27 none) := grown_trans G1.out (grown_trans B.out.grown gx)
          clear gx
          go_wp2
          go_ret
          exact ⟨rfl, GZ.out⟩
        · have HB0 : Hid (R4.barrier.1 ≠ 0) := hb
          obtain ⟨c5, hc5⟩ : ∃ c5, c5 = R4.barrier.1 := ⟨_, rfl⟩
          have hne : ((c5 : Int) == 0) = false := eqb_no (b := 0) (by rw [hc5]; exact hb)
          rw [← hc5] at BC
          clear hb hc5
          go_wp2_with (first | (go_at_call 10; refine (sarray_yes I.out).mono ?_; rintro e w9 ⟨rfl, hw9⟩; obtain rfl := hw9.symm; clear hw9) | fail)
          refine BC.out.mono ?_
          rintro e w23 ⟨rfl, Fw23, ix, st⟩
          have bx := B.out.step st
          have vx := V.out.step st
          have ux := U.out.step st
          clear st
          clear BC z5
          have Ix : Hid (SI Fw23 w23 s a (gT k m) R4.barrier.2) := ix
          have Bx : Hid (Base w1 Fw23 w23) := bx
          have Vx : Hid (Aw Fw23 w23 (.slice p7 n7 c7) (datL k X)) := vx
          have Ux : Hid (Aw Fw23 w23 (.slice p8 n8 c8) (datL k Y)) := ux
          clear ix bx vx ux I B V U
          have I := Ix
          have B := Bx
          have V := Vx
          have U := Ux
          clear Ix Bx Vx Ux
          have HZ : Hid (w23.grownBy (w23.drewN 1) none) := grown_drewN w23 1
          have HP : Hid ((w23.drewN 1).cell? ⟨b, 6, none⟩ = some (.slice pp np cp)) := (HC.out _ (grown_trans B.out.grown HZ.out)).2.2.2.2.2.2
          have CR : Hid (Calls Try.prog 17 #[ptr a, .slice pp np cp] (w23.drewN 1) fun e w' => e = .returned (.tuple #[]) ∧ ∃ F', SI F' w' s a (gT k m) (R4.barrier.2.crash ps) ∧ Step Fw23 w23 F' w' ∧ w'.cell? ⟨b, 6, none⟩ = some (.slice pp np cp)) := by
            refine (crash_at (I.out.keep HZ.out).i (by have h1 := S5.out.2.2.1; have h2 := LN.out; omega) ((B.out.keep HZ.out).aw HV.out) rfl).mono ?_
            rintro e w' ⟨rfl, F', i, st⟩
            have st2 := (Step.new HZ.out).trans st
            exact ⟨rfl, F', (I.out.keep HZ.out).step i st (S5.out.2.2.2.2.1 ps), st2, (HC.out _ (B.out.step st2).grown).2.2.2.2.2.2⟩
          go_wp2_with fail
          go_region_held3 (fun w' => w'.cell? ⟨b, 6, none⟩ = some (.slice pp np cp)) (first | exact HP.out | exact HQ.out)
            ((first
              | (go_at_call 10; refine (sarray_yes (I.out.keep HZ.out)).mono ?_; rintro e w9 ⟨rfl, hw9⟩; obtain rfl := hw9.symm; clear hw9)
              | (go_at_call 17; refine CR.out.mono ?_; rintro e w28 ⟨rfl, Fw28, ix0, st0, hq0⟩; have IX : Hid (SI Fw28 w28 s a (gT k m) (R4.barrier.2.crash ps)) := ix0; have ST : Hid (Step Fw23 w23 Fw28 w28) := st0; have HQ : Hid (w28.cell? ⟨b, 6, none⟩ = some (.slice pp np cp)) := hq0; clear ix0 st0 hq0)))
          have ix := IX.out
          have st := ST.out
          have bx := B.out.step st
          have vx := V.out.step st
          have ux := U.out.step st
          clear st
          clear IX ST HQ HP HZ CR
          have Ix : Hid (SI Fw28 w28 s a (gT k m) (R4.barrier.2.crash ps)) := ix
          have Bx : Hid (Base w1 Fw28 w28) := bx
          have Vx : Hid (Aw Fw28 w28 (.slice p7 n7 c7) (datL k X)) := vx
          have Ux : Hid (Aw Fw28 w28 (.slice p8 n8 c8) (datL k Y)) := ux
          clear ix bx vx ux I B V U
          have I := Ix
          have B := Bx
          have V := Vx
          have U := Ux
          clear Ix Bx Vx Ux
          have T6 : Hid (SP.Torn (R4.barrier.2.crash ps) (gT k m) 0 4 7 (datL k X) (datL k Y)) := S5.out.1 HB0.out ps
          clear S4 S5
          go_wp2_with fail
          refine (sread_all I.out ((0 : Nat) : Int) 4).mono ?_
          rintro e w29 ⟨v9, er1, out1, rfl, hr1, ho1, gx⟩
          obtain ⟨p9, n9, c9, rfl, hq9⟩ := ho1.vec.opened
          clear hq9
          have O1 : Hid (Vec w29 (.slice p9 n9 c9) out1) := ho1.vec
          have ix := I.out.keep gx
          have bx := B.out.keep gx
          have vx := V.out.keep gx
          have ux := U.out.keep gx
          clear gx ho1
          have Ix : Hid (SI Fw28 w29 s a (gT k m) (R4.barrier.2.crash ps)) := ix
          have Bx : Hid (Base w1 Fw28 w29) := bx
          have Vx : Hid (Aw Fw28 w29 (.slice p7 n7 c7) (datL k X)) := vx
          have Ux : Hid (Aw Fw28 w29 (.slice p8 n8 c8) (datL k Y)) := ux
          clear ix bx vx ux I B V U
          have I := Ix
          have B := Bx
          have V := Vx
          have U := Ux
          clear Ix Bx Vx Ux
          rcases (T6.out.reads (by decide) (by decide) (by decide) (by decide) (by decide) (datL_small k X) (datL_len k X) (datL_small k Y) (datL_len k Y)).1 hr1 with ⟨rfl, rfl⟩ | rfl
          · clear hr1
            go_wp2_with fail
            refine (sread_all I.out ((0 : Nat) : Int) 7).mono ?_
            rintro e w30 ⟨v10, er2, out2, rfl, hr2, ho2, gx⟩
            obtain ⟨p10, n10, c10, rfl, hq10⟩ := ho2.vec.opened
            clear hq10
            have O2 : Hid (Vec w30 (.slice p10 n10 c10) out2) := ho2.vec
            have O1x : Hid (Vec w30 (.slice p9 n9 c9) (datL k X)) := O1.out.keep gx
            have ix := I.out.keep gx
            have bx := B.out.keep gx
            have vx := V.out.keep gx
            have ux := U.out.keep gx
            clear gx ho2 O1
            have O1 := O1x
            clear O1x
            have Ix : Hid (SI Fw28 w30 s a (gT k m) (R4.barrier.2.crash ps)) := ix
            have Bx : Hid (Base w1 Fw28 w30) := bx
            have Vx : Hid (Aw Fw28 w30 (.slice p7 n7 c7) (datL k X)) := vx
            have Ux : Hid (Aw Fw28 w30 (.slice p8 n8 c8) (datL k Y)) := ux
            clear ix bx vx ux I B V U
            have I := Ix
            have B := Bx
            have V := Vx
            have U := Ux
            clear Ix Bx Vx Ux
            rcases (T6.out.reads (by decide) (by decide) (by decide) (by decide) (by decide) (datL_small k X) (datL_len k X) (datL_small k Y) (datL_len k Y)).2 hr2 with ⟨rfl, rfl⟩ | rfl
            · clear hr2
              go_wp2_with fail
              refine (equal_at O1.out V.out.vec rfl).mono ?_
              rintro e w9 ⟨rfl, hw9⟩
              obtain rfl := hw9.symm
              clear hw9
              go_wp2_with fail
              refine (equal_at O2.out U.out.vec rfl).mono ?_
              rintro e w9 ⟨rfl, hw9⟩
              obtain rfl := hw9.symm
              clear hw9
              go_wp2_with fail
              have HIW : SP.why (R4.barrier.2.crash ps) (gT k m) ((0 : Nat) : Int) = 0 := SP.why_at T6.out.off (show 0 < 1 by decide)
              have HH := shigh_all I.out ((0 : Nat) : Int)
              unfold SP.hiN at HH
              rw [HIW] at HH
              rw [if_pos rfl] at HH
              simp only [Int.toNat_natCast] at HH
              have H9 : Hid (Calls Try.prog 20 #[ptr s, .int .i64 0] w30 fun e w' => e = .returned (.tuple #[.int .u64 ((SP.high (R4.barrier.2.crash ps) (gT k m) 0 : Nat) : Int), .int .i64 0]) ∧ w30.grownBy w' none) := HH
              clear HH HIW
              have HO := T6.out.high (by decide) (by decide)
              rcases HO with ho | ho
              · rw [ho] at H9
                clear ho
                refine H9.out.mono ?_
                rintro e w31 ⟨rfl, gx⟩
                have z5 := (HC.out _ (grown_trans B.out.grown gx)).2.2.2.2.2.1
                have GZ : Hid (w.grownBy w31 none) := grown_trans G1.out (grown_trans B.out.grown gx)
                clear gx
                go_wp2
                go_ret
                exact ⟨rfl, GZ.out⟩
              · rw [ho] at H9
                clear ho
                refine H9.out.mono ?_
                rintro e w32 ⟨rfl, gx⟩
                have z5 := (HC.out _ (grown_trans B.out.grown gx)).2.2.2.2.2.1
                have GZ : Hid (w.grownBy w32 none) := grown_trans G1.out (grown_trans B.out.grown gx)
                clear gx
                go_wp2
                go_ret
                exact ⟨rfl, GZ.out⟩
            · clear hr2
              go_wp2_with fail
              refine (equal_at O1.out V.out.vec rfl).mono ?_
              rintro e w9 ⟨rfl, hw9⟩
              obtain rfl := hw9.symm
              clear hw9
              go_wp2_with fail
              have HIW : SP.why (R4.barrier.2.crash ps) (gT k m) ((0 : Nat) : Int) = 0 := SP.why_at T6.out.off (show 0 < 1 by decide)
              have HH := shigh_all I.out ((0 : Nat) : Int)
              unfold SP.hiN at HH
              rw [HIW] at HH
              rw [if_pos rfl] at HH
              simp only [Int.toNat_natCast] at HH
              have H9 : Hid (Calls Try.prog 20 #[ptr s, .int .i64 0] w30 fun e w' => e = .returned (.tuple #[.int .u64 ((SP.high (R4.barrier.2.crash ps) (gT k m) 0 : Nat) : Int), .int .i64 0]) ∧ w30.grownBy w' none) := HH
              clear HH HIW
              have HO := T6.out.high (by decide) (by decide)
              rcases HO with ho | ho
              · rw [ho] at H9
                clear ho
                refine H9.out.mono ?_
                rintro e w33 ⟨rfl, gx⟩
                have z5 := (HC.out _ (grown_trans B.out.grown gx)).2.2.2.2.2.1
                have GZ : Hid (w.grownBy w33 none) := grown_trans G1.out (grown_trans B.out.grown gx)
                clear gx
                go_wp2
                go_ret
                exact ⟨rfl, GZ.out⟩
              · rw [ho] at H9
                clear ho
                refine H9.out.mono ?_
                rintro e w34 ⟨rfl, gx⟩
                have z5 := (HC.out _ (grown_trans B.out.grown gx)).2.2.2.2.2.1
                have GZ : Hid (w.grownBy w34 none) := grown_trans G1.out (grown_trans B.out.grown gx)
                clear gx
                go_wp2
                go_ret
                exact ⟨rfl, GZ.out⟩
          · clear hr1
            go_wp2_with fail
            refine (sread_all I.out ((0 : Nat) : Int) 7).mono ?_
            rintro e w30 ⟨v10, er2, out2, rfl, hr2, ho2, gx⟩
            obtain ⟨p10, n10, c10, rfl, hq10⟩ := ho2.vec.opened
            clear hq10
            have O2 : Hid (Vec w30 (.slice p10 n10 c10) out2) := ho2.vec
            have O1x : Hid (Vec w30 (.slice p9 n9 c9) out1) := O1.out.keep gx
            have ix := I.out.keep gx
            have bx := B.out.keep gx
            have vx := V.out.keep gx
            have ux := U.out.keep gx
            clear gx ho2 O1
            have O1 := O1x
            clear O1x
            have Ix : Hid (SI Fw28 w30 s a (gT k m) (R4.barrier.2.crash ps)) := ix
            have Bx : Hid (Base w1 Fw28 w30) := bx
            have Vx : Hid (Aw Fw28 w30 (.slice p7 n7 c7) (datL k X)) := vx
            have Ux : Hid (Aw Fw28 w30 (.slice p8 n8 c8) (datL k Y)) := ux
            clear ix bx vx ux I B V U
            have I := Ix
            have B := Bx
            have V := Vx
            have U := Ux
            clear Ix Bx Vx Ux
            rcases (T6.out.reads (by decide) (by decide) (by decide) (by decide) (by decide) (datL_small k X) (datL_len k X) (datL_small k Y) (datL_len k Y)).2 hr2 with ⟨rfl, rfl⟩ | rfl
            · clear hr2
              go_wp2_with fail
              refine (equal_at O2.out U.out.vec rfl).mono ?_
              rintro e w9 ⟨rfl, hw9⟩
              obtain rfl := hw9.symm
              clear hw9
              go_wp2_with fail
              have HIW : SP.why (R4.barrier.2.crash ps) (gT k m) ((0 : Nat) : Int) = 0 := SP.why_at T6.out.off (show 0 < 1 by decide)
              have HH := shigh_all I.out ((0 : Nat) : Int)
              unfold SP.hiN at HH
              rw [HIW] at HH
              rw [if_pos rfl] at HH
              simp only [Int.toNat_natCast] at HH
              have H9 : Hid (Calls Try.prog 20 #[ptr s, .int .i64 0] w30 fun e w' => e = .returned (.tuple #[.int .u64 ((SP.high (R4.barrier.2.crash ps) (gT k m) 0 : Nat) : Int), .int .i64 0]) ∧ w30.grownBy w' none) := HH
              clear HH HIW
              have HO := T6.out.high (by decide) (by decide)
              rcases HO with ho | ho
              · rw [ho] at H9
                clear ho
                refine H9.out.mono ?_
                rintro e w35 ⟨rfl, gx⟩
                have z5 := (HC.out _ (grown_trans B.out.grown gx)).2.2.2.2.2.1
                have GZ : Hid (w.grownBy w35 none) := grown_trans G1.out (grown_trans B.out.grown gx)
                clear gx
                go_wp2
                go_ret
                exact ⟨rfl, GZ.out⟩
              · rw [ho] at H9
                clear ho
                refine H9.out.mono ?_
                rintro e w36 ⟨rfl, gx⟩
                have z5 := (HC.out _ (grown_trans B.out.grown gx)).2.2.2.2.2.1
                have GZ : Hid (w.grownBy w36 none) := grown_trans G1.out (grown_trans B.out.grown gx)
                clear gx
                go_wp2
                go_ret
                exact ⟨rfl, GZ.out⟩
            · clear hr2
              go_wp2_with fail
              have HIW : SP.why (R4.barrier.2.crash ps) (gT k m) ((0 : Nat) : Int) = 0 := SP.why_at T6.out.off (show 0 < 1 by decide)
              have HH := shigh_all I.out ((0 : Nat) : Int)
              unfold SP.hiN at HH
              rw [HIW] at HH
              rw [if_pos rfl] at HH
              simp only [Int.toNat_natCast] at HH
              have H9 : Hid (Calls Try.prog 20 #[ptr s, .int .i64 0] w30 fun e w' => e = .returned (.tuple #[.int .u64 ((SP.high (R4.barrier.2.crash ps) (gT k m) 0 : Nat) : Int), .int .i64 0]) ∧ w30.grownBy w' none) := HH
              clear HH HIW
              have HO := T6.out.high (by decide) (by decide)
              rcases HO with ho | ho
              · rw [ho] at H9
                clear ho
                refine H9.out.mono ?_
                rintro e w37 ⟨rfl, gx⟩
                have z5 := (HC.out _ (grown_trans B.out.grown gx)).2.2.2.2.2.1
                have GZ : Hid (w.grownBy w37 none) := grown_trans G1.out (grown_trans B.out.grown gx)
                clear gx
                go_wp2
                go_ret
                exact ⟨rfl, GZ.out⟩
              · rw [ho] at H9
                clear ho
                refine H9.out.mono ?_
                rintro e w38 ⟨rfl, gx⟩
                have z5 := (HC.out _ (grown_trans B.out.grown gx)).2.2.2.2.2.1
                have GZ : Hid (w.grownBy w38 none) := grown_trans G1.out (grown_trans B.out.grown gx)
                clear gx
                go_wp2
                go_ret
                exact ⟨rfl, GZ.out⟩
    · have hne : ((c : Int) == 0) = false := eqb_no (b := 0) hc
      clear hc
      go_wp2_with fail
      refine WC.out.mono ?_
      rintro e w11 ⟨rfl, Fw11, ix, st⟩
      have bx := B.out.step st
      have vx := V.out.step st
      have ux := U.out.step st
      clear st
      clear WC
      have Ix : Hid (SI Fw11 w11 s a (gT k m) R4) := ix
      have Bx : Hid (Base w1 Fw11 w11) := bx
      have Vx : Hid (Aw Fw11 w11 (.slice p7 n7 c7) (datL k X)) := vx
      have Ux : Hid (Aw Fw11 w11 (.slice p8 n8 c8) (datL k Y)) := ux
      clear ix bx vx ux I B V U
      have I := Ix
      have B := Bx
      have V := Vx
      have U := Ux
      clear Ix Bx Vx Ux
      have z5 := (HC.out _ B.out.grown).2.2.2.2.2.1
      go_wp2_with fail
      clear z5
      have HZ : Hid (w11.grownBy (w11.drewN 1) none) := grown_drewN w11 1
      have HP : Hid ((w11.drewN 1).cell? ⟨b, 6, none⟩ = some (.slice pp np cp)) := (HC.out _ (grown_trans B.out.grown HZ.out)).2.2.2.2.2.2
      have CR : Hid (Calls Try.prog 17 #[ptr a, .slice pp np cp] (w11.drewN 1) fun e w' => e = .returned (.tuple #[]) ∧ ∃ F', SI F' w' s a (gT k m) (R4.crash ps) ∧ Step Fw11 w11 F' w' ∧ w'.cell? ⟨b, 6, none⟩ = some (.slice pp np cp)) := by
        refine (crash_at (I.out.keep HZ.out).i (by have h1 := S4.out.2.1; have h2 := LN.out; omega) ((B.out.keep HZ.out).aw HV.out) rfl).mono ?_
        rintro e w' ⟨rfl, F', i, st⟩
        have st2 := (Step.new HZ.out).trans st
        exact ⟨rfl, F', (I.out.keep HZ.out).step i st (S4.out.2.2 ps).ok, st2, (HC.out _ (B.out.step st2).grown).2.2.2.2.2.2⟩
      go_wp2_with fail
      go_region_held3 (fun w' => w'.cell? ⟨b, 6, none⟩ = some (.slice pp np cp)) (first | exact HP.out | exact HQ.out)
        ((first
          | (go_at_call 10; refine (sarray_yes (I.out.keep HZ.out)).mono ?_; rintro e w9 ⟨rfl, hw9⟩; obtain rfl := hw9.symm; clear hw9)
          | (go_at_call 17; refine CR.out.mono ?_; rintro e w39 ⟨rfl, Fw39, ix0, st0, hq0⟩; have IX : Hid (SI Fw39 w39 s a (gT k m) (R4.crash ps)) := ix0; have ST : Hid (Step Fw11 w11 Fw39 w39) := st0; have HQ : Hid (w39.cell? ⟨b, 6, none⟩ = some (.slice pp np cp)) := hq0; clear ix0 st0 hq0)))
      have ix := IX.out
      have st := ST.out
      have bx := B.out.step st
      have vx := V.out.step st
      have ux := U.out.step st
      clear st
      clear IX ST HQ HP HZ CR
      have Ix : Hid (SI Fw39 w39 s a (gT k m) (R4.crash ps)) := ix
      have Bx : Hid (Base w1 Fw39 w39) := bx
      have Vx : Hid (Aw Fw39 w39 (.slice p7 n7 c7) (datL k X)) := vx
      have Ux : Hid (Aw Fw39 w39 (.slice p8 n8 c8) (datL k Y)) := ux
      clear ix bx vx ux I B V U
      have I := Ix
      have B := Bx
      have V := Vx
      have U := Ux
      clear Ix Bx Vx Ux
      have T6 : Hid (SP.Torn (R4.crash ps) (gT k m) 0 4 7 (datL k X) (datL k Y)) := S4.out.2.2 ps
      clear S4 S5
      go_wp2_with fail
      refine (sread_all I.out ((0 : Nat) : Int) 4).mono ?_
      rintro e w40 ⟨v9, er1, out1, rfl, hr1, ho1, gx⟩
      obtain ⟨p9, n9, c9, rfl, hq9⟩ := ho1.vec.opened
      clear hq9
      have O1 : Hid (Vec w40 (.slice p9 n9 c9) out1) := ho1.vec
      have ix := I.out.keep gx
      have bx := B.out.keep gx
      have vx := V.out.keep gx
      have ux := U.out.keep gx
      clear gx ho1
      have Ix : Hid (SI Fw39 w40 s a (gT k m) (R4.crash ps)) := ix
      have Bx : Hid (Base w1 Fw39 w40) := bx
      have Vx : Hid (Aw Fw39 w40 (.slice p7 n7 c7) (datL k X)) := vx
      have Ux : Hid (Aw Fw39 w40 (.slice p8 n8 c8) (datL k Y)) := ux
      clear ix bx vx ux I B V U
      have I := Ix
      have B := Bx
      have V := Vx
      have U := Ux
      clear Ix Bx Vx Ux
      rcases (T6.out.reads (by decide) (by decide) (by decide) (by decide) (by decide) (datL_small k X) (datL_len k X) (datL_small k Y) (datL_len k Y)).1 hr1 with ⟨rfl, rfl⟩ | rfl
      · clear hr1
        go_wp2_with fail
        refine (sread_all I.out ((0 : Nat) : Int) 7).mono ?_
        rintro e w41 ⟨v10, er2, out2, rfl, hr2, ho2, gx⟩
        obtain ⟨p10, n10, c10, rfl, hq10⟩ := ho2.vec.opened
        clear hq10
        have O2 : Hid (Vec w41 (.slice p10 n10 c10) out2) := ho2.vec
        have O1x : Hid (Vec w41 (.slice p9 n9 c9) (datL k X)) := O1.out.keep gx
        have ix := I.out.keep gx
        have bx := B.out.keep gx
        have vx := V.out.keep gx
        have ux := U.out.keep gx
        clear gx ho2 O1
        have O1 := O1x
        clear O1x
        have Ix : Hid (SI Fw39 w41 s a (gT k m) (R4.crash ps)) := ix
        have Bx : Hid (Base w1 Fw39 w41) := bx
        have Vx : Hid (Aw Fw39 w41 (.slice p7 n7 c7) (datL k X)) := vx
        have Ux : Hid (Aw Fw39 w41 (.slice p8 n8 c8) (datL k Y)) := ux
        clear ix bx vx ux I B V U
        have I := Ix
        have B := Bx
        have V := Vx
        have U := Ux
        clear Ix Bx Vx Ux
        rcases (T6.out.reads (by decide) (by decide) (by decide) (by decide) (by decide) (datL_small k X) (datL_len k X) (datL_small k Y) (datL_len k Y)).2 hr2 with ⟨rfl, rfl⟩ | rfl
        · clear hr2
          go_wp2_with fail
          refine (equal_at O1.out V.out.vec rfl).mono ?_
          rintro e w9 ⟨rfl, hw9⟩
          obtain rfl := hw9.symm
          clear hw9
          go_wp2_with fail
          refine (equal_at O2.out U.out.vec rfl).mono ?_
          rintro e w9 ⟨rfl, hw9⟩
          obtain rfl := hw9.symm
          clear hw9
          go_wp2_with fail
          have HIW : SP.why (R4.crash ps) (gT k m) ((0 : Nat) : Int) = 0 := SP.why_at T6.out.off (show 0 < 1 by decide)
          have HH := shigh_all I.out ((0 : Nat) : Int)
          unfold SP.hiN at HH
          rw [HIW] at HH
          rw [if_pos rfl] at HH
          simp only [Int.toNat_natCast] at HH
          have H9 : Hid (Calls Try.prog 20 #[ptr s, .int .i64 0] w41 fun e w' => e = .returned (.tuple #[.int .u64 ((SP.high (R4.crash ps) (gT k m) 0 : Nat) : Int), .int .i64 0]) ∧ w41.grownBy w' none) := HH
          clear HH HIW
          have HO := T6.out.high (by decide) (by decide)
          rcases HO with ho | ho
          · rw [ho] at H9
            clear ho
            refine H9.out.mono ?_
            rintro e w42 ⟨rfl, gx⟩
            have z5 := (HC.out _ (grown_trans B.out.grown gx)).2.2.2.2.2.1
            have GZ : Hid (w.grownBy w42 none) := grown_trans G1.out (grown_trans B.out.grown gx)
            clear gx
            go_wp2
            go_ret
            exact ⟨rfl, GZ.out⟩
          · rw [ho] at H9
            clear ho
            refine H9.out.mono ?_
            rintro e w43 ⟨rfl, gx⟩
            have z5 := (HC.out _ (grown_trans B.out.grown gx)).2.2.2.2.2.1
            have GZ : Hid (w.grownBy w43 none) := grown_trans G1.out (grown_trans B.out.grown gx)
            clear gx
            go_wp2
            go_ret
            exact ⟨rfl, GZ.out⟩
        · clear hr2
          go_wp2_with fail
          refine (equal_at O1.out V.out.vec rfl).mono ?_
          rintro e w9 ⟨rfl, hw9⟩
          obtain rfl := hw9.symm
          clear hw9
          go_wp2_with fail
          have HIW : SP.why (R4.crash ps) (gT k m) ((0 : Nat) : Int) = 0 := SP.why_at T6.out.off (show 0 < 1 by decide)
          have HH := shigh_all I.out ((0 : Nat) : Int)
          unfold SP.hiN at HH
          rw [HIW] at HH
          rw [if_pos rfl] at HH
          simp only [Int.toNat_natCast] at HH
          have H9 : Hid (Calls Try.prog 20 #[ptr s, .int .i64 0] w41 fun e w' => e = .returned (.tuple #[.int .u64 ((SP.high (R4.crash ps) (gT k m) 0 : Nat) : Int), .int .i64 0]) ∧ w41.grownBy w' none) := HH
          clear HH HIW
          have HO := T6.out.high (by decide) (by decide)
          rcases HO with ho | ho
          · rw [ho] at H9
            clear ho
            refine H9.out.mono ?_
            rintro e w44 ⟨rfl, gx⟩
            have z5 := (HC.out _ (grown_trans B.out.grown gx)).2.2.2.2.2.1
            have GZ : Hid (w.grownBy w44 none) := grown_trans G1.out (grown_trans B.out.grown gx)
            clear gx
            go_wp2
            go_ret
            exact ⟨rfl, GZ.out⟩
          · rw [ho] at H9
            clear ho
            refine H9.out.mono ?_
            rintro e w45 ⟨rfl, gx⟩
            have z5 := (HC.out _ (grown_trans B.out.grown gx)).2.2.2.2.2.1
            have GZ : Hid (w.grownBy w45 none) := grown_trans G1.out (grown_trans B.out.grown gx)
            clear gx
            go_wp2
            go_ret
            exact ⟨rfl, GZ.out⟩
      · clear hr1
        go_wp2_with fail
        refine (sread_all I.out ((0 : Nat) : Int) 7).mono ?_
        rintro e w41 ⟨v10, er2, out2, rfl, hr2, ho2, gx⟩
        obtain ⟨p10, n10, c10, rfl, hq10⟩ := ho2.vec.opened
        clear hq10
        have O2 : Hid (Vec w41 (.slice p10 n10 c10) out2) := ho2.vec
        have O1x : Hid (Vec w41 (.slice p9 n9 c9) out1) := O1.out.keep gx
        have ix := I.out.keep gx
        have bx := B.out.keep gx
        have vx := V.out.keep gx
        have ux := U.out.keep gx
        clear gx ho2 O1
        have O1 := O1x
        clear O1x
        have Ix : Hid (SI Fw39 w41 s a (gT k m) (R4.crash ps)) := ix
        have Bx : Hid (Base w1 Fw39 w41) := bx
        have Vx : Hid (Aw Fw39 w41 (.slice p7 n7 c7) (datL k X)) := vx
        have Ux : Hid (Aw Fw39 w41 (.slice p8 n8 c8) (datL k Y)) := ux
        clear ix bx vx ux I B V U
        have I := Ix
        have B := Bx
        have V := Vx
        have U := Ux
        clear Ix Bx Vx Ux
        rcases (T6.out.reads (by decide) (by decide) (by decide) (by decide) (by decide) (datL_small k X) (datL_len k X) (datL_small k Y) (datL_len k Y)).2 hr2 with ⟨rfl, rfl⟩ | rfl
        · clear hr2
          go_wp2_with fail
          refine (equal_at O2.out U.out.vec rfl).mono ?_
          rintro e w9 ⟨rfl, hw9⟩
          obtain rfl := hw9.symm
          clear hw9
          go_wp2_with fail
          have HIW : SP.why (R4.crash ps) (gT k m) ((0 : Nat) : Int) = 0 := SP.why_at T6.out.off (show 0 < 1 by decide)
          have HH := shigh_all I.out ((0 : Nat) : Int)
          unfold SP.hiN at HH
          rw [HIW] at HH
          rw [if_pos rfl] at HH
          simp only [Int.toNat_natCast] at HH
          have H9 : Hid (Calls Try.prog 20 #[ptr s, .int .i64 0] w41 fun e w' => e = .returned (.tuple #[.int .u64 ((SP.high (R4.crash ps) (gT k m) 0 : Nat) : Int), .int .i64 0]) ∧ w41.grownBy w' none) := HH
          clear HH HIW
          have HO := T6.out.high (by decide) (by decide)
          rcases HO with ho | ho
          · rw [ho] at H9
            clear ho
            refine H9.out.mono ?_
            rintro e w46 ⟨rfl, gx⟩
            have z5 := (HC.out _ (grown_trans B.out.grown gx)).2.2.2.2.2.1
            have GZ : Hid (w.grownBy w46 none) := grown_trans G1.out (grown_trans B.out.grown gx)
            clear gx
            go_wp2
            go_ret
            exact ⟨rfl, GZ.out⟩
          · rw [ho] at H9
            clear ho
            refine H9.out.mono ?_
            rintro e w47 ⟨rfl, gx⟩
            have z5 := (HC.out _ (grown_trans B.out.grown gx)).2.2.2.2.2.1
            have GZ : Hid (w.grownBy w47 none) := grown_trans G1.out (grown_trans B.out.grown gx)
            clear gx
            go_wp2
            go_ret
            exact ⟨rfl, GZ.out⟩
        · clear hr2
          go_wp2_with fail
          have HIW : SP.why (R4.crash ps) (gT k m) ((0 : Nat) : Int) = 0 := SP.why_at T6.out.off (show 0 < 1 by decide)
          have HH := shigh_all I.out ((0 : Nat) : Int)
          unfold SP.hiN at HH
          rw [HIW] at HH
          rw [if_pos rfl] at HH
          simp only [Int.toNat_natCast] at HH
          have H9 : Hid (Calls Try.prog 20 #[ptr s, .int .i64 0] w41 fun e w' => e = .returned (.tuple #[.int .u64 ((SP.high (R4.crash ps) (gT k m) 0 : Nat) : Int), .int .i64 0]) ∧ w41.grownBy w' none) := HH
          clear HH HIW
          have HO := T6.out.high (by decide) (by decide)
          rcases HO with ho | ho
          · rw [ho] at H9
            clear ho
            refine H9.out.mono ?_
            rintro e w48 ⟨rfl, gx⟩
            have z5 := (HC.out _ (grown_trans B.out.grown gx)).2.2.2.2.2.1
            have GZ : Hid (w.grownBy w48 none) := grown_trans G1.out (grown_trans B.out.grown gx)
            clear gx
            go_wp2
            go_ret
            exact ⟨rfl, GZ.out⟩
          · rw [ho] at H9
            clear ho
            refine H9.out.mono ?_
            rintro e w49 ⟨rfl, gx⟩
            have z5 := (HC.out _ (grown_trans B.out.grown gx)).2.2.2.2.2.1
            have GZ : Hid (w.grownBy w49 none) := grown_trans G1.out (grown_trans B.out.grown gx)
            clear gx
            go_wp2
            go_ret
            exact ⟨rfl, GZ.out⟩
  · skip
    have hf1 : (0 : Int) < (Fu : Int) := by omega
    have HZ : Hid (w10.grownBy (w10.drewN 1) none) := grown_drewN w10 1
    have HP : Hid ((w10.drewN 1).cell? ⟨b, 4, none⟩ = some (.int .u8 (Fu : Int))) := (HC.out _ (grown_trans B.out.grown HZ.out)).2.2.2.2.1
    have i6 : IntKind.i64.wrap (Fu : Int) = (Fu : Int) := IntWalk.i64_in _ (by have := HX.out; omega)
    have FC : Hid (Calls Try.prog 16 #[ptr a, .int .i64 (Fu : Int)] (w10.drewN 1) fun e w' => e = .returned (.tuple #[]) ∧ ∃ F', SI F' w' s a (gT k m) (R2.fused (Fu : Int)) ∧ Step F10 w10 F' w' ∧ w'.cell? ⟨b, 4, none⟩ = some (.int .u8 (Fu : Int))) := by
      refine (fuse_at (I.out.keep HZ.out).i (by have := HX.out; omega) rfl).mono ?_
      rintro e w' ⟨rfl, F', i, st⟩
      have st2 := (Step.new HZ.out).trans st
      exact ⟨rfl, F', (I.out.keep HZ.out).step i st (CM2.out.fused _).ok, st2, (HC.out _ (B.out.step st2).grown).2.2.2.2.1⟩
    have CM3 : Hid (SP.Calm (R2.fused (Fu : Int)) (gT k m) 4 (datL k X)) := CM2.out.fused _
    go_wp2_with fail
    clear z4 hf0
    go_region_held3 (fun w' => w'.cell? ⟨b, 4, none⟩ = some (.int .u8 (Fu : Int))) (first | exact HP.out | exact HQ.out)
      ((first
        | (go_at_call 10; refine (sarray_yes (I.out.keep HZ.out)).mono ?_; rintro e w9 ⟨rfl, hw9⟩; obtain rfl := hw9.symm; clear hw9)
        | (go_at_call 16; refine FC.out.mono ?_; rintro e wf ⟨rfl, Ff, ix0, st0, hq0⟩; have IX : Hid (SI Ff wf s a (gT k m) (R2.fused (Fu : Int))) := ix0; have ST : Hid (Step F10 w10 Ff wf) := st0; have HQ : Hid (wf.cell? ⟨b, 4, none⟩ = some (.int .u8 (Fu : Int))) := hq0; clear ix0 st0 hq0)))
    have ix := IX.out
    have st := ST.out
    have bx := B.out.step st
    have vx := V.out.step st
    have ux := U.out.step st
    clear st
    clear IX ST HQ HP HZ FC CM2
    have Ix : Hid (SI Ff wf s a (gT k m) (R2.fused (Fu : Int))) := ix
    have Bx : Hid (Base w1 Ff wf) := bx
    have Vx : Hid (Aw Ff wf (.slice p7 n7 c7) (datL k X)) := vx
    have Ux : Hid (Aw Ff wf (.slice p8 n8 c8) (datL k Y)) := ux
    clear ix bx vx ux I B V U
    have I := Ix
    have B := Bx
    have V := Vx
    have U := Ux
    clear Ix Bx Vx Ux
    obtain ⟨c, R4, hwr, ok4, l4, t1, t2, t3, l5, ok5, ok6, on6⟩ := CM3.out.second I.out.i.ok (datL_small k Y) (datL_len k Y) (m' := 7) (by decide) writes_len8
    have S4 : Hid ((gT k m).Ok R4 ∧ R4.L.length ≤ 8 * (gT k m).n ∧ (∀ ps, SP.Torn (R4.crash ps) (gT k m) 0 4 7 (datL k X) (datL k Y))) := ⟨ok4, l4, t1⟩
    have S5 : Hid ((R4.barrier.1 ≠ 0 → ∀ ps, SP.Torn (R4.barrier.2.crash ps) (gT k m) 0 4 7 (datL k X) (datL k Y)) ∧ (c = 0 → R4.barrier.1 = 0 → ∀ ps, SP.Wrote (R4.barrier.2.crash ps) (gT k m) 0 7 (datL k Y)) ∧ R4.barrier.2.L.length ≤ 8 * (gT k m).n ∧ (gT k m).Ok R4.barrier.2 ∧ (∀ ps, (gT k m).Ok (R4.barrier.2.crash ps)) ∧ (∀ d, d < (gT k m).n → ∀ ps, (R4.barrier.2.crash ps).on (d : Int) = true)) := ⟨t2, t3, l5, ok5, ok6, on6⟩
    have LN : Hid (8 * (gT k m).n ≤ 64) := by show 8 * (k + m) ≤ 64; have := HK.out; omega
    have WC : Hid (Calls Try.prog 14 #[ptr s, .int .i64 0, .int .u64 7, .slice p8 n8 c8] wf fun e w' => e = .returned (.int .i64 (c : Int)) ∧ ∃ F', SI F' w' s a (gT k m) R4 ∧ Step Ff wf F' w') := by
      have h0 := swrite_all I.out ((0 : Nat) : Int) 7 U.out (by rw [CM3.out.L]; decide)
      rw [hwr] at h0
      exact h0
    clear hwr ok4 l4 t1 t2 t3 l5 ok5 ok6 on6
    by_cases hc : c = 0
    · subst hc
      go_wp2_with fail
      refine WC.out.mono ?_
      rintro e w50 ⟨rfl, Fw50, ix, st⟩
      have bx := B.out.step st
      have vx := V.out.step st
      have ux := U.out.step st
      clear st
      clear WC
      have Ix : Hid (SI Fw50 w50 s a (gT k m) R4) := ix
      have Bx : Hid (Base w1 Fw50 w50) := bx
      have Vx : Hid (Aw Fw50 w50 (.slice p7 n7 c7) (datL k X)) := vx
      have Ux : Hid (Aw Fw50 w50 (.slice p8 n8 c8) (datL k Y)) := ux
      clear ix bx vx ux I B V U
      have I := Ix
      have B := Bx
      have V := Vx
      have U := Ux
      clear Ix Bx Vx Ux
      have z5 := (HC.out _ B.out.grown).2.2.2.2.2.1
      cases Su
      · skip
        clear z5
        have z5 := (HC.out _ B.out.grown).2.2.2.2.2.1
        go_wp2_with fail
        clear z5
        have HZ : Hid (w50.grownBy (w50.drewN 1) none) := grown_drewN w50 1
        have HP : Hid ((w50.drewN 1).cell? ⟨b, 6, none⟩ = some (.slice pp np cp)) := (HC.out _ (grown_trans B.out.grown HZ.out)).2.2.2.2.2.2
        have CR : Hid (Calls Try.prog 17 #[ptr a, .slice pp np cp] (w50.drewN 1) fun e w' => e = .returned (.tuple #[]) ∧ ∃ F', SI F' w' s a (gT k m) (R4.crash ps) ∧ Step Fw50 w50 F' w' ∧ w'.cell? ⟨b, 6, none⟩ = some (.slice pp np cp)) := by
          refine (crash_at (I.out.keep HZ.out).i (by have h1 := S4.out.2.1; have h2 := LN.out; omega) ((B.out.keep HZ.out).aw HV.out) rfl).mono ?_
          rintro e w' ⟨rfl, F', i, st⟩
          have st2 := (Step.new HZ.out).trans st
          exact ⟨rfl, F', (I.out.keep HZ.out).step i st (S4.out.2.2 ps).ok, st2, (HC.out _ (B.out.step st2).grown).2.2.2.2.2.2⟩
        go_wp2_with fail
        go_region_held3 (fun w' => w'.cell? ⟨b, 6, none⟩ = some (.slice pp np cp)) (first | exact HP.out | exact HQ.out)
          ((first
            | (go_at_call 10; refine (sarray_yes (I.out.keep HZ.out)).mono ?_; rintro e w9 ⟨rfl, hw9⟩; obtain rfl := hw9.symm; clear hw9)
            | (go_at_call 17; refine CR.out.mono ?_; rintro e w51 ⟨rfl, Fw51, ix0, st0, hq0⟩; have IX : Hid (SI Fw51 w51 s a (gT k m) (R4.crash ps)) := ix0; have ST : Hid (Step Fw50 w50 Fw51 w51) := st0; have HQ : Hid (w51.cell? ⟨b, 6, none⟩ = some (.slice pp np cp)) := hq0; clear ix0 st0 hq0)))
        have ix := IX.out
        have st := ST.out
        have bx := B.out.step st
        have vx := V.out.step st
        have ux := U.out.step st
        clear st
        clear IX ST HQ HP HZ CR
        have Ix : Hid (SI Fw51 w51 s a (gT k m) (R4.crash ps)) := ix
        have Bx : Hid (Base w1 Fw51 w51) := bx
        have Vx : Hid (Aw Fw51 w51 (.slice p7 n7 c7) (datL k X)) := vx
        have Ux : Hid (Aw Fw51 w51 (.slice p8 n8 c8) (datL k Y)) := ux
        clear ix bx vx ux I B V U
        have I := Ix
        have B := Bx
        have V := Vx
        have U := Ux
        clear Ix Bx Vx Ux
        have T6 : Hid (SP.Torn (R4.crash ps) (gT k m) 0 4 7 (datL k X) (datL k Y)) := S4.out.2.2 ps
        clear S4 S5
        go_wp2_with fail
        refine (sread_all I.out ((0 : Nat) : Int) 4).mono ?_
        rintro e w52 ⟨v9, er1, out1, rfl, hr1, ho1, gx⟩
        obtain ⟨p9, n9, c9, rfl, hq9⟩ := ho1.vec.opened
        clear hq9
        have O1 : Hid (Vec w52 (.slice p9 n9 c9) out1) := ho1.vec
        have ix := I.out.keep gx
        have bx := B.out.keep gx
        have vx := V.out.keep gx
        have ux := U.out.keep gx
        clear gx ho1
        have Ix : Hid (SI Fw51 w52 s a (gT k m) (R4.crash ps)) := ix
        have Bx : Hid (Base w1 Fw51 w52) := bx
        have Vx : Hid (Aw Fw51 w52 (.slice p7 n7 c7) (datL k X)) := vx
        have Ux : Hid (Aw Fw51 w52 (.slice p8 n8 c8) (datL k Y)) := ux
        clear ix bx vx ux I B V U
        have I := Ix
        have B := Bx
        have V := Vx
        have U := Ux
        clear Ix Bx Vx Ux
        rcases (T6.out.reads (by decide) (by decide) (by decide) (by decide) (by decide) (datL_small k X) (datL_len k X) (datL_small k Y) (datL_len k Y)).1 hr1 with ⟨rfl, rfl⟩ | rfl
        · clear hr1
          go_wp2_with fail
          refine (sread_all I.out ((0 : Nat) : Int) 7).mono ?_
          rintro e w53 ⟨v10, er2, out2, rfl, hr2, ho2, gx⟩
          obtain ⟨p10, n10, c10, rfl, hq10⟩ := ho2.vec.opened
          clear hq10
          have O2 : Hid (Vec w53 (.slice p10 n10 c10) out2) := ho2.vec
          have O1x : Hid (Vec w53 (.slice p9 n9 c9) (datL k X)) := O1.out.keep gx
          have ix := I.out.keep gx
          have bx := B.out.keep gx
          have vx := V.out.keep gx
          have ux := U.out.keep gx
          clear gx ho2 O1
          have O1 := O1x
          clear O1x
          have Ix : Hid (SI Fw51 w53 s a (gT k m) (R4.crash ps)) := ix
          have Bx : Hid (Base w1 Fw51 w53) := bx
          have Vx : Hid (Aw Fw51 w53 (.slice p7 n7 c7) (datL k X)) := vx
          have Ux : Hid (Aw Fw51 w53 (.slice p8 n8 c8) (datL k Y)) := ux
          clear ix bx vx ux I B V U
          have I := Ix
          have B := Bx
          have V := Vx
          have U := Ux
          clear Ix Bx Vx Ux
          rcases (T6.out.reads (by decide) (by decide) (by decide) (by decide) (by decide) (datL_small k X) (datL_len k X) (datL_small k Y) (datL_len k Y)).2 hr2 with ⟨rfl, rfl⟩ | rfl
          · clear hr2
            go_wp2_with fail
            refine (equal_at O1.out V.out.vec rfl).mono ?_
            rintro e w9 ⟨rfl, hw9⟩
            obtain rfl := hw9.symm
            clear hw9
            go_wp2_with fail
            refine (equal_at O2.out U.out.vec rfl).mono ?_
            rintro e w9 ⟨rfl, hw9⟩
            obtain rfl := hw9.symm
            clear hw9
            go_wp2_with fail
            have HIW : SP.why (R4.crash ps) (gT k m) ((0 : Nat) : Int) = 0 := SP.why_at T6.out.off (show 0 < 1 by decide)
            have HH := shigh_all I.out ((0 : Nat) : Int)
            unfold SP.hiN at HH
            rw [HIW] at HH
            rw [if_pos rfl] at HH
            simp only [Int.toNat_natCast] at HH
            have H9 : Hid (Calls Try.prog 20 #[ptr s, .int .i64 0] w53 fun e w' => e = .returned (.tuple #[.int .u64 ((SP.high (R4.crash ps) (gT k m) 0 : Nat) : Int), .int .i64 0]) ∧ w53.grownBy w' none) := HH
            clear HH HIW
            have HO := T6.out.high (by decide) (by decide)
            rcases HO with ho | ho
            · rw [ho] at H9
              clear ho
              refine H9.out.mono ?_
              rintro e w54 ⟨rfl, gx⟩
              have z5 := (HC.out _ (grown_trans B.out.grown gx)).2.2.2.2.2.1
              have GZ : Hid (w.grownBy w54 none) := grown_trans G1.out (grown_trans B.out.grown gx)
              clear gx
              go_wp2
              go_ret
              exact ⟨rfl, GZ.out⟩
            · rw [ho] at H9
              clear ho
              refine H9.out.mono ?_
              rintro e w55 ⟨rfl, gx⟩
              have z5 := (HC.out _ (grown_trans B.out.grown gx)).2.2.2.2.2.1
              have GZ : Hid (w.grownBy w55 none) := grown_trans G1.out (grown_trans B.out.grown gx)
              clear gx
              go_wp2
              go_ret
              exact ⟨rfl, GZ.out⟩
          · clear hr2
            go_wp2_with fail
            refine (equal_at O1.out V.out.vec rfl).mono ?_
            rintro e w9 ⟨rfl, hw9⟩
            obtain rfl := hw9.symm
            clear hw9
            go_wp2_with fail
            have HIW : SP.why (R4.crash ps) (gT k m) ((0 : Nat) : Int) = 0 := SP.why_at T6.out.off (show 0 < 1 by decide)
            have HH := shigh_all I.out ((0 : Nat) : Int)
            unfold SP.hiN at HH
            rw [HIW] at HH
            rw [if_pos rfl] at HH
            simp only [Int.toNat_natCast] at HH
            have H9 : Hid (Calls Try.prog 20 #[ptr s, .int .i64 0] w53 fun e w' => e = .returned (.tuple #[.int .u64 ((SP.high (R4.crash ps) (gT k m) 0 : Nat) : Int), .int .i64 0]) ∧ w53.grownBy w' none) := HH
            clear HH HIW
            have HO := T6.out.high (by decide) (by decide)
            rcases HO with ho | ho
            · rw [ho] at H9
              clear ho
              refine H9.out.mono ?_
              rintro e w56 ⟨rfl, gx⟩
              have z5 := (HC.out _ (grown_trans B.out.grown gx)).2.2.2.2.2.1
              have GZ : Hid (w.grownBy w56 none) := grown_trans G1.out (grown_trans B.out.grown gx)
              clear gx
              go_wp2
              go_ret
              exact ⟨rfl, GZ.out⟩
            · rw [ho] at H9
              clear ho
              refine H9.out.mono ?_
              rintro e w57 ⟨rfl, gx⟩
              have z5 := (HC.out _ (grown_trans B.out.grown gx)).2.2.2.2.2.1
              have GZ : Hid (w.grownBy w57 none) := grown_trans G1.out (grown_trans B.out.grown gx)
              clear gx
              go_wp2
              go_ret
              exact ⟨rfl, GZ.out⟩
        · clear hr1
          go_wp2_with fail
          refine (sread_all I.out ((0 : Nat) : Int) 7).mono ?_
          rintro e w53 ⟨v10, er2, out2, rfl, hr2, ho2, gx⟩
          obtain ⟨p10, n10, c10, rfl, hq10⟩ := ho2.vec.opened
          clear hq10
          have O2 : Hid (Vec w53 (.slice p10 n10 c10) out2) := ho2.vec
          have O1x : Hid (Vec w53 (.slice p9 n9 c9) out1) := O1.out.keep gx
          have ix := I.out.keep gx
          have bx := B.out.keep gx
          have vx := V.out.keep gx
          have ux := U.out.keep gx
          clear gx ho2 O1
          have O1 := O1x
          clear O1x
          have Ix : Hid (SI Fw51 w53 s a (gT k m) (R4.crash ps)) := ix
          have Bx : Hid (Base w1 Fw51 w53) := bx
          have Vx : Hid (Aw Fw51 w53 (.slice p7 n7 c7) (datL k X)) := vx
          have Ux : Hid (Aw Fw51 w53 (.slice p8 n8 c8) (datL k Y)) := ux
          clear ix bx vx ux I B V U
          have I := Ix
          have B := Bx
          have V := Vx
          have U := Ux
          clear Ix Bx Vx Ux
          rcases (T6.out.reads (by decide) (by decide) (by decide) (by decide) (by decide) (datL_small k X) (datL_len k X) (datL_small k Y) (datL_len k Y)).2 hr2 with ⟨rfl, rfl⟩ | rfl
          · clear hr2
            go_wp2_with fail
            refine (equal_at O2.out U.out.vec rfl).mono ?_
            rintro e w9 ⟨rfl, hw9⟩
            obtain rfl := hw9.symm
            clear hw9
            go_wp2_with fail
            have HIW : SP.why (R4.crash ps) (gT k m) ((0 : Nat) : Int) = 0 := SP.why_at T6.out.off (show 0 < 1 by decide)
            have HH := shigh_all I.out ((0 : Nat) : Int)
            unfold SP.hiN at HH
            rw [HIW] at HH
            rw [if_pos rfl] at HH
            simp only [Int.toNat_natCast] at HH
            have H9 : Hid (Calls Try.prog 20 #[ptr s, .int .i64 0] w53 fun e w' => e = .returned (.tuple #[.int .u64 ((SP.high (R4.crash ps) (gT k m) 0 : Nat) : Int), .int .i64 0]) ∧ w53.grownBy w' none) := HH
            clear HH HIW
            have HO := T6.out.high (by decide) (by decide)
            rcases HO with ho | ho
            · rw [ho] at H9
              clear ho
              refine H9.out.mono ?_
              rintro e w58 ⟨rfl, gx⟩
              have z5 := (HC.out _ (grown_trans B.out.grown gx)).2.2.2.2.2.1
              have GZ : Hid (w.grownBy w58 none) := grown_trans G1.out (grown_trans B.out.grown gx)
              clear gx
              go_wp2
              go_ret
              exact ⟨rfl, GZ.out⟩
            · rw [ho] at H9
              clear ho
              refine H9.out.mono ?_
              rintro e w59 ⟨rfl, gx⟩
              have z5 := (HC.out _ (grown_trans B.out.grown gx)).2.2.2.2.2.1
              have GZ : Hid (w.grownBy w59 none) := grown_trans G1.out (grown_trans B.out.grown gx)
              clear gx
              go_wp2
              go_ret
              exact ⟨rfl, GZ.out⟩
          · clear hr2
            go_wp2_with fail
            have HIW : SP.why (R4.crash ps) (gT k m) ((0 : Nat) : Int) = 0 := SP.why_at T6.out.off (show 0 < 1 by decide)
            have HH := shigh_all I.out ((0 : Nat) : Int)
            unfold SP.hiN at HH
            rw [HIW] at HH
            rw [if_pos rfl] at HH
            simp only [Int.toNat_natCast] at HH
            have H9 : Hid (Calls Try.prog 20 #[ptr s, .int .i64 0] w53 fun e w' => e = .returned (.tuple #[.int .u64 ((SP.high (R4.crash ps) (gT k m) 0 : Nat) : Int), .int .i64 0]) ∧ w53.grownBy w' none) := HH
            clear HH HIW
            have HO := T6.out.high (by decide) (by decide)
            rcases HO with ho | ho
            · rw [ho] at H9
              clear ho
              refine H9.out.mono ?_
              rintro e w60 ⟨rfl, gx⟩
              have z5 := (HC.out _ (grown_trans B.out.grown gx)).2.2.2.2.2.1
              have GZ : Hid (w.grownBy w60 none) := grown_trans G1.out (grown_trans B.out.grown gx)
              clear gx
              go_wp2
              go_ret
              exact ⟨rfl, GZ.out⟩
            · rw [ho] at H9
              clear ho
              refine H9.out.mono ?_
              rintro e w61 ⟨rfl, gx⟩
              have z5 := (HC.out _ (grown_trans B.out.grown gx)).2.2.2.2.2.1
              have GZ : Hid (w.grownBy w61 none) := grown_trans G1.out (grown_trans B.out.grown gx)
              clear gx
              go_wp2
              go_ret
              exact ⟨rfl, GZ.out⟩
      · skip
        clear z5
        have z5 := (HC.out _ B.out.grown).2.2.2.2.2.1
        have BC : Hid (Calls Try.prog 15 #[ptr a] w50 fun e w' => e = .returned (.int .i64 (R4.barrier.1 : Int)) ∧ ∃ F', SI F' w' s a (gT k m) R4.barrier.2 ∧ Step Fw50 w50 F' w') := by
          refine (barrier_at I.out.i rfl rfl).mono ?_
          rintro e w' ⟨rfl, F', i, st⟩
          exact ⟨rfl, F', I.out.step i st S5.out.2.2.2.1, st⟩
        by_cases hb : R4.barrier.1 = 0
        · rw [hb] at BC
          have HB0 : Hid (R4.barrier.1 = 0) := hb
          clear hb
          go_wp2_with (first | (go_at_call 10; refine (sarray_yes I.out).mono ?_; rintro e w9 ⟨rfl, hw9⟩; obtain rfl := hw9.symm; clear hw9) | fail)
          refine BC.out.mono ?_
          rintro e w62 ⟨rfl, Fw62, ix, st⟩
          have bx := B.out.step st
          have vx := V.out.step st
          have ux := U.out.step st
          clear st
          clear BC z5
          have Ix : Hid (SI Fw62 w62 s a (gT k m) R4.barrier.2) := ix
          have Bx : Hid (Base w1 Fw62 w62) := bx
          have Vx : Hid (Aw Fw62 w62 (.slice p7 n7 c7) (datL k X)) := vx
          have Ux : Hid (Aw Fw62 w62 (.slice p8 n8 c8) (datL k Y)) := ux
          clear ix bx vx ux I B V U
          have I := Ix
          have B := Bx
          have V := Vx
          have U := Ux
          clear Ix Bx Vx Ux
          have HZ : Hid (w62.grownBy (w62.drewN 1) none) := grown_drewN w62 1
          have HP : Hid ((w62.drewN 1).cell? ⟨b, 6, none⟩ = some (.slice pp np cp)) := (HC.out _ (grown_trans B.out.grown HZ.out)).2.2.2.2.2.2
          have CR : Hid (Calls Try.prog 17 #[ptr a, .slice pp np cp] (w62.drewN 1) fun e w' => e = .returned (.tuple #[]) ∧ ∃ F', SI F' w' s a (gT k m) (R4.barrier.2.crash ps) ∧ Step Fw62 w62 F' w' ∧ w'.cell? ⟨b, 6, none⟩ = some (.slice pp np cp)) := by
            refine (crash_at (I.out.keep HZ.out).i (by have h1 := S5.out.2.2.1; have h2 := LN.out; omega) ((B.out.keep HZ.out).aw HV.out) rfl).mono ?_
            rintro e w' ⟨rfl, F', i, st⟩
            have st2 := (Step.new HZ.out).trans st
            exact ⟨rfl, F', (I.out.keep HZ.out).step i st (S5.out.2.2.2.2.1 ps), st2, (HC.out _ (B.out.step st2).grown).2.2.2.2.2.2⟩
          go_wp2_with fail
          go_region_held3 (fun w' => w'.cell? ⟨b, 6, none⟩ = some (.slice pp np cp)) (first | exact HP.out | exact HQ.out)
            ((first
              | (go_at_call 10; refine (sarray_yes (I.out.keep HZ.out)).mono ?_; rintro e w9 ⟨rfl, hw9⟩; obtain rfl := hw9.symm; clear hw9)
              | (go_at_call 17; refine CR.out.mono ?_; rintro e w63 ⟨rfl, Fw63, ix0, st0, hq0⟩; have IX : Hid (SI Fw63 w63 s a (gT k m) (R4.barrier.2.crash ps)) := ix0; have ST : Hid (Step Fw62 w62 Fw63 w63) := st0; have HQ : Hid (w63.cell? ⟨b, 6, none⟩ = some (.slice pp np cp)) := hq0; clear ix0 st0 hq0)))
          have ix := IX.out
          have st := ST.out
          have bx := B.out.step st
          have vx := V.out.step st
          have ux := U.out.step st
          clear st
          clear IX ST HQ HP HZ CR
          have Ix : Hid (SI Fw63 w63 s a (gT k m) (R4.barrier.2.crash ps)) := ix
          have Bx : Hid (Base w1 Fw63 w63) := bx
          have Vx : Hid (Aw Fw63 w63 (.slice p7 n7 c7) (datL k X)) := vx
          have Ux : Hid (Aw Fw63 w63 (.slice p8 n8 c8) (datL k Y)) := ux
          clear ix bx vx ux I B V U
          have I := Ix
          have B := Bx
          have V := Vx
          have U := Ux
          clear Ix Bx Vx Ux
          have T6 : Hid (SP.Wrote (R4.barrier.2.crash ps) (gT k m) 0 7 (datL k Y) ∧ (R4.barrier.2.crash ps).off = false ∧ (gT k m).Ok (R4.barrier.2.crash ps) ∧ (∀ d, d < (gT k m).n → (R4.barrier.2.crash ps).on (d : Int) = true)) := ⟨S5.out.2.1 (by first | rfl | trivial) HB0.out ps, rfl, S5.out.2.2.2.2.1 ps, fun d hd => S5.out.2.2.2.2.2 d hd ps⟩
          clear S4 S5 HB0
          go_wp2_with fail
          refine (sread_all I.out ((0 : Nat) : Int) 4).mono ?_
          rintro e w64 ⟨v9, er1, out1, rfl, hr1, ho1, gx⟩
          obtain ⟨p9, n9, c9, rfl, hq9⟩ := ho1.vec.opened
          clear hq9
          have O1 : Hid (Vec w64 (.slice p9 n9 c9) out1) := ho1.vec
          have ix := I.out.keep gx
          have bx := B.out.keep gx
          have vx := V.out.keep gx
          have ux := U.out.keep gx
          clear gx ho1
          have Ix : Hid (SI Fw63 w64 s a (gT k m) (R4.barrier.2.crash ps)) := ix
          have Bx : Hid (Base w1 Fw63 w64) := bx
          have Vx : Hid (Aw Fw63 w64 (.slice p7 n7 c7) (datL k X)) := vx
          have Ux : Hid (Aw Fw63 w64 (.slice p8 n8 c8) (datL k Y)) := ux
          clear ix bx vx ux I B V U
          have I := Ix
          have B := Bx
          have V := Vx
          have U := Ux
          clear Ix Bx Vx Ux
          have he1 : er1 = 20 := SP.rdp_few9 hr1 (SP.why_at T6.out.2.1 (show 0 < 1 by decide)) (by decide) (by rw [T6.out.1.other (by decide) (by decide) (by decide)]; exact (show 0 < k by have := HK.out; omega))
          subst he1
          clear hr1
          go_wp2_with fail
          refine (sread_all I.out ((0 : Nat) : Int) 7).mono ?_
          rintro e w65 ⟨v10, er2, out2, rfl, hr2, ho2, gx⟩
          obtain ⟨p10, n10, c10, rfl, hq10⟩ := ho2.vec.opened
          clear hq10
          have O2 : Hid (Vec w65 (.slice p10 n10 c10) out2) := ho2.vec
          have O1x : Hid (Vec w65 (.slice p9 n9 c9) out1) := O1.out.keep gx
          have ix := I.out.keep gx
          have bx := B.out.keep gx
          have vx := V.out.keep gx
          have ux := U.out.keep gx
          clear gx ho2 O1
          have O1 := O1x
          clear O1x
          have Ix : Hid (SI Fw63 w65 s a (gT k m) (R4.barrier.2.crash ps)) := ix
          have Bx : Hid (Base w1 Fw63 w65) := bx
          have Vx : Hid (Aw Fw63 w65 (.slice p7 n7 c7) (datL k X)) := vx
          have Ux : Hid (Aw Fw63 w65 (.slice p8 n8 c8) (datL k Y)) := ux
          clear ix bx vx ux I B V U
          have I := Ix
          have B := Bx
          have V := Vx
          have U := Ux
          clear Ix Bx Vx Ux
          obtain ⟨ho2, he2⟩ := (T6.out.1.read T6.out.2.2.1 (by decide) (by decide) (datL_small k Y) (datL_len k Y) T6.out.2.1 (show 0 < 1 by decide) hr2).1 (by rw [SP.all_ons T6.out.2.2.1 T6.out.2.2.2]; show k ≤ k + m; omega)
          subst ho2 he2
          clear hr2
          go_wp2_with fail
          refine (equal_at O2.out U.out.vec rfl).mono ?_
          rintro e w9 ⟨rfl, hw9⟩
          obtain rfl := hw9.symm
          clear hw9
          go_wp2_with fail
          have HIW : SP.why (R4.barrier.2.crash ps) (gT k m) ((0 : Nat) : Int) = 0 := SP.why_at T6.out.2.1 (show 0 < 1 by decide)
          have HH := shigh_all I.out ((0 : Nat) : Int)
          unfold SP.hiN at HH
          rw [HIW] at HH
          rw [if_pos rfl] at HH
          simp only [Int.toNat_natCast] at HH
          have H9 : Hid (Calls Try.prog 20 #[ptr s, .int .i64 0] w65 fun e w' => e = .returned (.tuple #[.int .u64 ((SP.high (R4.barrier.2.crash ps) (gT k m) 0 : Nat) : Int), .int .i64 0]) ∧ w65.grownBy w' none) := HH
          clear HH HIW
          rw [T6.out.1.high (by decide) (d := 0) (by show 0 < k + m; have := HK.out; omega) (T6.out.2.2.2 0 (by show 0 < k + m; have := HK.out; omega))] at H9
          refine H9.out.mono ?_
          rintro e w66 ⟨rfl, gx⟩
          have z5 := (HC.out _ (grown_trans B.out.grown gx)).2.2.2.2.2.1
          have GZ : Hid (w.grownBy w66 none) := grown_trans G1.out (grown_trans B.out.grown gx)
          clear gx
          go_wp2
          go_ret
          exact ⟨rfl, GZ.out⟩
        · have HB0 : Hid (R4.barrier.1 ≠ 0) := hb
          obtain ⟨c5, hc5⟩ : ∃ c5, c5 = R4.barrier.1 := ⟨_, rfl⟩
          have hne : ((c5 : Int) == 0) = false := eqb_no (b := 0) (by rw [hc5]; exact hb)
          rw [← hc5] at BC
          clear hb hc5
          go_wp2_with (first | (go_at_call 10; refine (sarray_yes I.out).mono ?_; rintro e w9 ⟨rfl, hw9⟩; obtain rfl := hw9.symm; clear hw9) | fail)
          refine BC.out.mono ?_
          rintro e w62 ⟨rfl, Fw62, ix, st⟩
          have bx := B.out.step st
          have vx := V.out.step st
          have ux := U.out.step st
          clear st
          clear BC z5
          have Ix : Hid (SI Fw62 w62 s a (gT k m) R4.barrier.2) := ix
          have Bx : Hid (Base w1 Fw62 w62) := bx
          have Vx : Hid (Aw Fw62 w62 (.slice p7 n7 c7) (datL k X)) := vx
          have Ux : Hid (Aw Fw62 w62 (.slice p8 n8 c8) (datL k Y)) := ux
          clear ix bx vx ux I B V U
          have I := Ix
          have B := Bx
          have V := Vx
          have U := Ux
          clear Ix Bx Vx Ux
          have HZ : Hid (w62.grownBy (w62.drewN 1) none) := grown_drewN w62 1
          have HP : Hid ((w62.drewN 1).cell? ⟨b, 6, none⟩ = some (.slice pp np cp)) := (HC.out _ (grown_trans B.out.grown HZ.out)).2.2.2.2.2.2
          have CR : Hid (Calls Try.prog 17 #[ptr a, .slice pp np cp] (w62.drewN 1) fun e w' => e = .returned (.tuple #[]) ∧ ∃ F', SI F' w' s a (gT k m) (R4.barrier.2.crash ps) ∧ Step Fw62 w62 F' w' ∧ w'.cell? ⟨b, 6, none⟩ = some (.slice pp np cp)) := by
            refine (crash_at (I.out.keep HZ.out).i (by have h1 := S5.out.2.2.1; have h2 := LN.out; omega) ((B.out.keep HZ.out).aw HV.out) rfl).mono ?_
            rintro e w' ⟨rfl, F', i, st⟩
            have st2 := (Step.new HZ.out).trans st
            exact ⟨rfl, F', (I.out.keep HZ.out).step i st (S5.out.2.2.2.2.1 ps), st2, (HC.out _ (B.out.step st2).grown).2.2.2.2.2.2⟩
          go_wp2_with fail
          go_region_held3 (fun w' => w'.cell? ⟨b, 6, none⟩ = some (.slice pp np cp)) (first | exact HP.out | exact HQ.out)
            ((first
              | (go_at_call 10; refine (sarray_yes (I.out.keep HZ.out)).mono ?_; rintro e w9 ⟨rfl, hw9⟩; obtain rfl := hw9.symm; clear hw9)
              | (go_at_call 17; refine CR.out.mono ?_; rintro e w67 ⟨rfl, Fw67, ix0, st0, hq0⟩; have IX : Hid (SI Fw67 w67 s a (gT k m) (R4.barrier.2.crash ps)) := ix0; have ST : Hid (Step Fw62 w62 Fw67 w67) := st0; have HQ : Hid (w67.cell? ⟨b, 6, none⟩ = some (.slice pp np cp)) := hq0; clear ix0 st0 hq0)))
          have ix := IX.out
          have st := ST.out
          have bx := B.out.step st
          have vx := V.out.step st
          have ux := U.out.step st
          clear st
          clear IX ST HQ HP HZ CR
          have Ix : Hid (SI Fw67 w67 s a (gT k m) (R4.barrier.2.crash ps)) := ix
          have Bx : Hid (Base w1 Fw67 w67) := bx
          have Vx : Hid (Aw Fw67 w67 (.slice p7 n7 c7) (datL k X)) := vx
          have Ux : Hid (Aw Fw67 w67 (.slice p8 n8 c8) (datL k Y)) := ux
          clear ix bx vx ux I B V U
          have I := Ix
          have B := Bx
          have V := Vx
          have U := Ux
          clear Ix Bx Vx Ux
          have T6 : Hid (SP.Torn (R4.barrier.2.crash ps) (gT k m) 0 4 7 (datL k X) (datL k Y)) := S5.out.1 HB0.out ps
          clear S4 S5
          go_wp2_with fail
          refine (sread_all I.out ((0 : Nat) : Int) 4).mono ?_
          rintro e w68 ⟨v9, er1, out1, rfl, hr1, ho1, gx⟩
          obtain ⟨p9, n9, c9, rfl, hq9⟩ := ho1.vec.opened
          clear hq9
          have O1 : Hid (Vec w68 (.slice p9 n9 c9) out1) := ho1.vec
          have ix := I.out.keep gx
          have bx := B.out.keep gx
          have vx := V.out.keep gx
          have ux := U.out.keep gx
          clear gx ho1
          have Ix : Hid (SI Fw67 w68 s a (gT k m) (R4.barrier.2.crash ps)) := ix
          have Bx : Hid (Base w1 Fw67 w68) := bx
          have Vx : Hid (Aw Fw67 w68 (.slice p7 n7 c7) (datL k X)) := vx
          have Ux : Hid (Aw Fw67 w68 (.slice p8 n8 c8) (datL k Y)) := ux
          clear ix bx vx ux I B V U
          have I := Ix
          have B := Bx
          have V := Vx
          have U := Ux
          clear Ix Bx Vx Ux
          rcases (T6.out.reads (by decide) (by decide) (by decide) (by decide) (by decide) (datL_small k X) (datL_len k X) (datL_small k Y) (datL_len k Y)).1 hr1 with ⟨rfl, rfl⟩ | rfl
          · clear hr1
            go_wp2_with fail
            refine (sread_all I.out ((0 : Nat) : Int) 7).mono ?_
            rintro e w69 ⟨v10, er2, out2, rfl, hr2, ho2, gx⟩
            obtain ⟨p10, n10, c10, rfl, hq10⟩ := ho2.vec.opened
            clear hq10
            have O2 : Hid (Vec w69 (.slice p10 n10 c10) out2) := ho2.vec
            have O1x : Hid (Vec w69 (.slice p9 n9 c9) (datL k X)) := O1.out.keep gx
            have ix := I.out.keep gx
            have bx := B.out.keep gx
            have vx := V.out.keep gx
            have ux := U.out.keep gx
            clear gx ho2 O1
            have O1 := O1x
            clear O1x
            have Ix : Hid (SI Fw67 w69 s a (gT k m) (R4.barrier.2.crash ps)) := ix
            have Bx : Hid (Base w1 Fw67 w69) := bx
            have Vx : Hid (Aw Fw67 w69 (.slice p7 n7 c7) (datL k X)) := vx
            have Ux : Hid (Aw Fw67 w69 (.slice p8 n8 c8) (datL k Y)) := ux
            clear ix bx vx ux I B V U
            have I := Ix
            have B := Bx
            have V := Vx
            have U := Ux
            clear Ix Bx Vx Ux
            rcases (T6.out.reads (by decide) (by decide) (by decide) (by decide) (by decide) (datL_small k X) (datL_len k X) (datL_small k Y) (datL_len k Y)).2 hr2 with ⟨rfl, rfl⟩ | rfl
            · clear hr2
              go_wp2_with fail
              refine (equal_at O1.out V.out.vec rfl).mono ?_
              rintro e w9 ⟨rfl, hw9⟩
              obtain rfl := hw9.symm
              clear hw9
              go_wp2_with fail
              refine (equal_at O2.out U.out.vec rfl).mono ?_
              rintro e w9 ⟨rfl, hw9⟩
              obtain rfl := hw9.symm
              clear hw9
              go_wp2_with fail
              have HIW : SP.why (R4.barrier.2.crash ps) (gT k m) ((0 : Nat) : Int) = 0 := SP.why_at T6.out.off (show 0 < 1 by decide)
              have HH := shigh_all I.out ((0 : Nat) : Int)
              unfold SP.hiN at HH
              rw [HIW] at HH
              rw [if_pos rfl] at HH
              simp only [Int.toNat_natCast] at HH
              have H9 : Hid (Calls Try.prog 20 #[ptr s, .int .i64 0] w69 fun e w' => e = .returned (.tuple #[.int .u64 ((SP.high (R4.barrier.2.crash ps) (gT k m) 0 : Nat) : Int), .int .i64 0]) ∧ w69.grownBy w' none) := HH
              clear HH HIW
              have HO := T6.out.high (by decide) (by decide)
              rcases HO with ho | ho
              · rw [ho] at H9
                clear ho
                refine H9.out.mono ?_
                rintro e w70 ⟨rfl, gx⟩
                have z5 := (HC.out _ (grown_trans B.out.grown gx)).2.2.2.2.2.1
                have GZ : Hid (w.grownBy w70 none) := grown_trans G1.out (grown_trans B.out.grown gx)
                clear gx
                go_wp2
                go_ret
                exact ⟨rfl, GZ.out⟩
              · rw [ho] at H9
                clear ho
                refine H9.out.mono ?_
                rintro e w71 ⟨rfl, gx⟩
                have z5 := (HC.out _ (grown_trans B.out.grown gx)).2.2.2.2.2.1
                have GZ : Hid (w.grownBy w71 none) := grown_trans G1.out (grown_trans B.out.grown gx)
                clear gx
                go_wp2
                go_ret
                exact ⟨rfl, GZ.out⟩
            · clear hr2
              go_wp2_with fail
              refine (equal_at O1.out V.out.vec rfl).mono ?_
              rintro e w9 ⟨rfl, hw9⟩
              obtain rfl := hw9.symm
              clear hw9
              go_wp2_with fail
              have HIW : SP.why (R4.barrier.2.crash ps) (gT k m) ((0 : Nat) : Int) = 0 := SP.why_at T6.out.off (show 0 < 1 by decide)
              have HH := shigh_all I.out ((0 : Nat) : Int)
              unfold SP.hiN at HH
              rw [HIW] at HH
              rw [if_pos rfl] at HH
              simp only [Int.toNat_natCast] at HH
              have H9 : Hid (Calls Try.prog 20 #[ptr s, .int .i64 0] w69 fun e w' => e = .returned (.tuple #[.int .u64 ((SP.high (R4.barrier.2.crash ps) (gT k m) 0 : Nat) : Int), .int .i64 0]) ∧ w69.grownBy w' none) := HH
              clear HH HIW
              have HO := T6.out.high (by decide) (by decide)
              rcases HO with ho | ho
              · rw [ho] at H9
                clear ho
                refine H9.out.mono ?_
                rintro e w72 ⟨rfl, gx⟩
                have z5 := (HC.out _ (grown_trans B.out.grown gx)).2.2.2.2.2.1
                have GZ : Hid (w.grownBy w72 none) := grown_trans G1.out (grown_trans B.out.grown gx)
                clear gx
                go_wp2
                go_ret
                exact ⟨rfl, GZ.out⟩
              · rw [ho] at H9
                clear ho
                refine H9.out.mono ?_
                rintro e w73 ⟨rfl, gx⟩
                have z5 := (HC.out _ (grown_trans B.out.grown gx)).2.2.2.2.2.1
                have GZ : Hid (w.grownBy w73 none) := grown_trans G1.out (grown_trans B.out.grown gx)
                clear gx
                go_wp2
                go_ret
                exact ⟨rfl, GZ.out⟩
          · clear hr1
            go_wp2_with fail
            refine (sread_all I.out ((0 : Nat) : Int) 7).mono ?_
            rintro e w69 ⟨v10, er2, out2, rfl, hr2, ho2, gx⟩
            obtain ⟨p10, n10, c10, rfl, hq10⟩ := ho2.vec.opened
            clear hq10
            have O2 : Hid (Vec w69 (.slice p10 n10 c10) out2) := ho2.vec
            have O1x : Hid (Vec w69 (.slice p9 n9 c9) out1) := O1.out.keep gx
            have ix := I.out.keep gx
            have bx := B.out.keep gx
            have vx := V.out.keep gx
            have ux := U.out.keep gx
            clear gx ho2 O1
            have O1 := O1x
            clear O1x
            have Ix : Hid (SI Fw67 w69 s a (gT k m) (R4.barrier.2.crash ps)) := ix
            have Bx : Hid (Base w1 Fw67 w69) := bx
            have Vx : Hid (Aw Fw67 w69 (.slice p7 n7 c7) (datL k X)) := vx
            have Ux : Hid (Aw Fw67 w69 (.slice p8 n8 c8) (datL k Y)) := ux
            clear ix bx vx ux I B V U
            have I := Ix
            have B := Bx
            have V := Vx
            have U := Ux
            clear Ix Bx Vx Ux
            rcases (T6.out.reads (by decide) (by decide) (by decide) (by decide) (by decide) (datL_small k X) (datL_len k X) (datL_small k Y) (datL_len k Y)).2 hr2 with ⟨rfl, rfl⟩ | rfl
            · clear hr2
              go_wp2_with fail
              refine (equal_at O2.out U.out.vec rfl).mono ?_
              rintro e w9 ⟨rfl, hw9⟩
              obtain rfl := hw9.symm
              clear hw9
              go_wp2_with fail
              have HIW : SP.why (R4.barrier.2.crash ps) (gT k m) ((0 : Nat) : Int) = 0 := SP.why_at T6.out.off (show 0 < 1 by decide)
              have HH := shigh_all I.out ((0 : Nat) : Int)
              unfold SP.hiN at HH
              rw [HIW] at HH
              rw [if_pos rfl] at HH
              simp only [Int.toNat_natCast] at HH
              have H9 : Hid (Calls Try.prog 20 #[ptr s, .int .i64 0] w69 fun e w' => e = .returned (.tuple #[.int .u64 ((SP.high (R4.barrier.2.crash ps) (gT k m) 0 : Nat) : Int), .int .i64 0]) ∧ w69.grownBy w' none) := HH
              clear HH HIW
              have HO := T6.out.high (by decide) (by decide)
              rcases HO with ho | ho
              · rw [ho] at H9
                clear ho
                refine H9.out.mono ?_
                rintro e w74 ⟨rfl, gx⟩
                have z5 := (HC.out _ (grown_trans B.out.grown gx)).2.2.2.2.2.1
                have GZ : Hid (w.grownBy w74 none) := grown_trans G1.out (grown_trans B.out.grown gx)
                clear gx
                go_wp2
                go_ret
                exact ⟨rfl, GZ.out⟩
              · rw [ho] at H9
                clear ho
                refine H9.out.mono ?_
                rintro e w75 ⟨rfl, gx⟩
                have z5 := (HC.out _ (grown_trans B.out.grown gx)).2.2.2.2.2.1
                have GZ : Hid (w.grownBy w75 none) := grown_trans G1.out (grown_trans B.out.grown gx)
                clear gx
                go_wp2
                go_ret
                exact ⟨rfl, GZ.out⟩
            · clear hr2
              go_wp2_with fail
              have HIW : SP.why (R4.barrier.2.crash ps) (gT k m) ((0 : Nat) : Int) = 0 := SP.why_at T6.out.off (show 0 < 1 by decide)
              have HH := shigh_all I.out ((0 : Nat) : Int)
              unfold SP.hiN at HH
              rw [HIW] at HH
              rw [if_pos rfl] at HH
              simp only [Int.toNat_natCast] at HH
              have H9 : Hid (Calls Try.prog 20 #[ptr s, .int .i64 0] w69 fun e w' => e = .returned (.tuple #[.int .u64 ((SP.high (R4.barrier.2.crash ps) (gT k m) 0 : Nat) : Int), .int .i64 0]) ∧ w69.grownBy w' none) := HH
              clear HH HIW
              have HO := T6.out.high (by decide) (by decide)
              rcases HO with ho | ho
              · rw [ho] at H9
                clear ho
                refine H9.out.mono ?_
                rintro e w76 ⟨rfl, gx⟩
                have z5 := (HC.out _ (grown_trans B.out.grown gx)).2.2.2.2.2.1
                have GZ : Hid (w.grownBy w76 none) := grown_trans G1.out (grown_trans B.out.grown gx)
                clear gx
                go_wp2
                go_ret
                exact ⟨rfl, GZ.out⟩
              · rw [ho] at H9
                clear ho
                refine H9.out.mono ?_
                rintro e w77 ⟨rfl, gx⟩
                have z5 := (HC.out _ (grown_trans B.out.grown gx)).2.2.2.2.2.1
                have GZ : Hid (w.grownBy w77 none) := grown_trans G1.out (grown_trans B.out.grown gx)
                clear gx
                go_wp2
                go_ret
                exact ⟨rfl, GZ.out⟩
    · have hne : ((c : Int) == 0) = false := eqb_no (b := 0) hc
      clear hc
      go_wp2_with fail
      refine WC.out.mono ?_
      rintro e w50 ⟨rfl, Fw50, ix, st⟩
      have bx := B.out.step st
      have vx := V.out.step st
      have ux := U.out.step st
      clear st
      clear WC
      have Ix : Hid (SI Fw50 w50 s a (gT k m) R4) := ix
      have Bx : Hid (Base w1 Fw50 w50) := bx
      have Vx : Hid (Aw Fw50 w50 (.slice p7 n7 c7) (datL k X)) := vx
      have Ux : Hid (Aw Fw50 w50 (.slice p8 n8 c8) (datL k Y)) := ux
      clear ix bx vx ux I B V U
      have I := Ix
      have B := Bx
      have V := Vx
      have U := Ux
      clear Ix Bx Vx Ux
      have z5 := (HC.out _ B.out.grown).2.2.2.2.2.1
      go_wp2_with fail
      clear z5
      have HZ : Hid (w50.grownBy (w50.drewN 1) none) := grown_drewN w50 1
      have HP : Hid ((w50.drewN 1).cell? ⟨b, 6, none⟩ = some (.slice pp np cp)) := (HC.out _ (grown_trans B.out.grown HZ.out)).2.2.2.2.2.2
      have CR : Hid (Calls Try.prog 17 #[ptr a, .slice pp np cp] (w50.drewN 1) fun e w' => e = .returned (.tuple #[]) ∧ ∃ F', SI F' w' s a (gT k m) (R4.crash ps) ∧ Step Fw50 w50 F' w' ∧ w'.cell? ⟨b, 6, none⟩ = some (.slice pp np cp)) := by
        refine (crash_at (I.out.keep HZ.out).i (by have h1 := S4.out.2.1; have h2 := LN.out; omega) ((B.out.keep HZ.out).aw HV.out) rfl).mono ?_
        rintro e w' ⟨rfl, F', i, st⟩
        have st2 := (Step.new HZ.out).trans st
        exact ⟨rfl, F', (I.out.keep HZ.out).step i st (S4.out.2.2 ps).ok, st2, (HC.out _ (B.out.step st2).grown).2.2.2.2.2.2⟩
      go_wp2_with fail
      go_region_held3 (fun w' => w'.cell? ⟨b, 6, none⟩ = some (.slice pp np cp)) (first | exact HP.out | exact HQ.out)
        ((first
          | (go_at_call 10; refine (sarray_yes (I.out.keep HZ.out)).mono ?_; rintro e w9 ⟨rfl, hw9⟩; obtain rfl := hw9.symm; clear hw9)
          | (go_at_call 17; refine CR.out.mono ?_; rintro e w78 ⟨rfl, Fw78, ix0, st0, hq0⟩; have IX : Hid (SI Fw78 w78 s a (gT k m) (R4.crash ps)) := ix0; have ST : Hid (Step Fw50 w50 Fw78 w78) := st0; have HQ : Hid (w78.cell? ⟨b, 6, none⟩ = some (.slice pp np cp)) := hq0; clear ix0 st0 hq0)))
      have ix := IX.out
      have st := ST.out
      have bx := B.out.step st
      have vx := V.out.step st
      have ux := U.out.step st
      clear st
      clear IX ST HQ HP HZ CR
      have Ix : Hid (SI Fw78 w78 s a (gT k m) (R4.crash ps)) := ix
      have Bx : Hid (Base w1 Fw78 w78) := bx
      have Vx : Hid (Aw Fw78 w78 (.slice p7 n7 c7) (datL k X)) := vx
      have Ux : Hid (Aw Fw78 w78 (.slice p8 n8 c8) (datL k Y)) := ux
      clear ix bx vx ux I B V U
      have I := Ix
      have B := Bx
      have V := Vx
      have U := Ux
      clear Ix Bx Vx Ux
      have T6 : Hid (SP.Torn (R4.crash ps) (gT k m) 0 4 7 (datL k X) (datL k Y)) := S4.out.2.2 ps
      clear S4 S5
      go_wp2_with fail
      refine (sread_all I.out ((0 : Nat) : Int) 4).mono ?_
      rintro e w79 ⟨v9, er1, out1, rfl, hr1, ho1, gx⟩
      obtain ⟨p9, n9, c9, rfl, hq9⟩ := ho1.vec.opened
      clear hq9
      have O1 : Hid (Vec w79 (.slice p9 n9 c9) out1) := ho1.vec
      have ix := I.out.keep gx
      have bx := B.out.keep gx
      have vx := V.out.keep gx
      have ux := U.out.keep gx
      clear gx ho1
      have Ix : Hid (SI Fw78 w79 s a (gT k m) (R4.crash ps)) := ix
      have Bx : Hid (Base w1 Fw78 w79) := bx
      have Vx : Hid (Aw Fw78 w79 (.slice p7 n7 c7) (datL k X)) := vx
      have Ux : Hid (Aw Fw78 w79 (.slice p8 n8 c8) (datL k Y)) := ux
      clear ix bx vx ux I B V U
      have I := Ix
      have B := Bx
      have V := Vx
      have U := Ux
      clear Ix Bx Vx Ux
      rcases (T6.out.reads (by decide) (by decide) (by decide) (by decide) (by decide) (datL_small k X) (datL_len k X) (datL_small k Y) (datL_len k Y)).1 hr1 with ⟨rfl, rfl⟩ | rfl
      · clear hr1
        go_wp2_with fail
        refine (sread_all I.out ((0 : Nat) : Int) 7).mono ?_
        rintro e w80 ⟨v10, er2, out2, rfl, hr2, ho2, gx⟩
        obtain ⟨p10, n10, c10, rfl, hq10⟩ := ho2.vec.opened
        clear hq10
        have O2 : Hid (Vec w80 (.slice p10 n10 c10) out2) := ho2.vec
        have O1x : Hid (Vec w80 (.slice p9 n9 c9) (datL k X)) := O1.out.keep gx
        have ix := I.out.keep gx
        have bx := B.out.keep gx
        have vx := V.out.keep gx
        have ux := U.out.keep gx
        clear gx ho2 O1
        have O1 := O1x
        clear O1x
        have Ix : Hid (SI Fw78 w80 s a (gT k m) (R4.crash ps)) := ix
        have Bx : Hid (Base w1 Fw78 w80) := bx
        have Vx : Hid (Aw Fw78 w80 (.slice p7 n7 c7) (datL k X)) := vx
        have Ux : Hid (Aw Fw78 w80 (.slice p8 n8 c8) (datL k Y)) := ux
        clear ix bx vx ux I B V U
        have I := Ix
        have B := Bx
        have V := Vx
        have U := Ux
        clear Ix Bx Vx Ux
        rcases (T6.out.reads (by decide) (by decide) (by decide) (by decide) (by decide) (datL_small k X) (datL_len k X) (datL_small k Y) (datL_len k Y)).2 hr2 with ⟨rfl, rfl⟩ | rfl
        · clear hr2
          go_wp2_with fail
          refine (equal_at O1.out V.out.vec rfl).mono ?_
          rintro e w9 ⟨rfl, hw9⟩
          obtain rfl := hw9.symm
          clear hw9
          go_wp2_with fail
          refine (equal_at O2.out U.out.vec rfl).mono ?_
          rintro e w9 ⟨rfl, hw9⟩
          obtain rfl := hw9.symm
          clear hw9
          go_wp2_with fail
          have HIW : SP.why (R4.crash ps) (gT k m) ((0 : Nat) : Int) = 0 := SP.why_at T6.out.off (show 0 < 1 by decide)
          have HH := shigh_all I.out ((0 : Nat) : Int)
          unfold SP.hiN at HH
          rw [HIW] at HH
          rw [if_pos rfl] at HH
          simp only [Int.toNat_natCast] at HH
          have H9 : Hid (Calls Try.prog 20 #[ptr s, .int .i64 0] w80 fun e w' => e = .returned (.tuple #[.int .u64 ((SP.high (R4.crash ps) (gT k m) 0 : Nat) : Int), .int .i64 0]) ∧ w80.grownBy w' none) := HH
          clear HH HIW
          have HO := T6.out.high (by decide) (by decide)
          rcases HO with ho | ho
          · rw [ho] at H9
            clear ho
            refine H9.out.mono ?_
            rintro e w81 ⟨rfl, gx⟩
            have z5 := (HC.out _ (grown_trans B.out.grown gx)).2.2.2.2.2.1
            have GZ : Hid (w.grownBy w81 none) := grown_trans G1.out (grown_trans B.out.grown gx)
            clear gx
            go_wp2
            go_ret
            exact ⟨rfl, GZ.out⟩
          · rw [ho] at H9
            clear ho
            refine H9.out.mono ?_
            rintro e w82 ⟨rfl, gx⟩
            have z5 := (HC.out _ (grown_trans B.out.grown gx)).2.2.2.2.2.1
            have GZ : Hid (w.grownBy w82 none) := grown_trans G1.out (grown_trans B.out.grown gx)
            clear gx
            go_wp2
            go_ret
            exact ⟨rfl, GZ.out⟩
        · clear hr2
          go_wp2_with fail
          refine (equal_at O1.out V.out.vec rfl).mono ?_
          rintro e w9 ⟨rfl, hw9⟩
          obtain rfl := hw9.symm
          clear hw9
          go_wp2_with fail
          have HIW : SP.why (R4.crash ps) (gT k m) ((0 : Nat) : Int) = 0 := SP.why_at T6.out.off (show 0 < 1 by decide)
          have HH := shigh_all I.out ((0 : Nat) : Int)
          unfold SP.hiN at HH
          rw [HIW] at HH
          rw [if_pos rfl] at HH
          simp only [Int.toNat_natCast] at HH
          have H9 : Hid (Calls Try.prog 20 #[ptr s, .int .i64 0] w80 fun e w' => e = .returned (.tuple #[.int .u64 ((SP.high (R4.crash ps) (gT k m) 0 : Nat) : Int), .int .i64 0]) ∧ w80.grownBy w' none) := HH
          clear HH HIW
          have HO := T6.out.high (by decide) (by decide)
          rcases HO with ho | ho
          · rw [ho] at H9
            clear ho
            refine H9.out.mono ?_
            rintro e w83 ⟨rfl, gx⟩
            have z5 := (HC.out _ (grown_trans B.out.grown gx)).2.2.2.2.2.1
            have GZ : Hid (w.grownBy w83 none) := grown_trans G1.out (grown_trans B.out.grown gx)
            clear gx
            go_wp2
            go_ret
            exact ⟨rfl, GZ.out⟩
          · rw [ho] at H9
            clear ho
            refine H9.out.mono ?_
            rintro e w84 ⟨rfl, gx⟩
            have z5 := (HC.out _ (grown_trans B.out.grown gx)).2.2.2.2.2.1
            have GZ : Hid (w.grownBy w84 none) := grown_trans G1.out (grown_trans B.out.grown gx)
            clear gx
            go_wp2
            go_ret
            exact ⟨rfl, GZ.out⟩
      · clear hr1
        go_wp2_with fail
        refine (sread_all I.out ((0 : Nat) : Int) 7).mono ?_
        rintro e w80 ⟨v10, er2, out2, rfl, hr2, ho2, gx⟩
        obtain ⟨p10, n10, c10, rfl, hq10⟩ := ho2.vec.opened
        clear hq10
        have O2 : Hid (Vec w80 (.slice p10 n10 c10) out2) := ho2.vec
        have O1x : Hid (Vec w80 (.slice p9 n9 c9) out1) := O1.out.keep gx
        have ix := I.out.keep gx
        have bx := B.out.keep gx
        have vx := V.out.keep gx
        have ux := U.out.keep gx
        clear gx ho2 O1
        have O1 := O1x
        clear O1x
        have Ix : Hid (SI Fw78 w80 s a (gT k m) (R4.crash ps)) := ix
        have Bx : Hid (Base w1 Fw78 w80) := bx
        have Vx : Hid (Aw Fw78 w80 (.slice p7 n7 c7) (datL k X)) := vx
        have Ux : Hid (Aw Fw78 w80 (.slice p8 n8 c8) (datL k Y)) := ux
        clear ix bx vx ux I B V U
        have I := Ix
        have B := Bx
        have V := Vx
        have U := Ux
        clear Ix Bx Vx Ux
        rcases (T6.out.reads (by decide) (by decide) (by decide) (by decide) (by decide) (datL_small k X) (datL_len k X) (datL_small k Y) (datL_len k Y)).2 hr2 with ⟨rfl, rfl⟩ | rfl
        · clear hr2
          go_wp2_with fail
          refine (equal_at O2.out U.out.vec rfl).mono ?_
          rintro e w9 ⟨rfl, hw9⟩
          obtain rfl := hw9.symm
          clear hw9
          go_wp2_with fail
          have HIW : SP.why (R4.crash ps) (gT k m) ((0 : Nat) : Int) = 0 := SP.why_at T6.out.off (show 0 < 1 by decide)
          have HH := shigh_all I.out ((0 : Nat) : Int)
          unfold SP.hiN at HH
          rw [HIW] at HH
          rw [if_pos rfl] at HH
          simp only [Int.toNat_natCast] at HH
          have H9 : Hid (Calls Try.prog 20 #[ptr s, .int .i64 0] w80 fun e w' => e = .returned (.tuple #[.int .u64 ((SP.high (R4.crash ps) (gT k m) 0 : Nat) : Int), .int .i64 0]) ∧ w80.grownBy w' none) := HH
          clear HH HIW
          have HO := T6.out.high (by decide) (by decide)
          rcases HO with ho | ho
          · rw [ho] at H9
            clear ho
            refine H9.out.mono ?_
            rintro e w85 ⟨rfl, gx⟩
            have z5 := (HC.out _ (grown_trans B.out.grown gx)).2.2.2.2.2.1
            have GZ : Hid (w.grownBy w85 none) := grown_trans G1.out (grown_trans B.out.grown gx)
            clear gx
            go_wp2
            go_ret
            exact ⟨rfl, GZ.out⟩
          · rw [ho] at H9
            clear ho
            refine H9.out.mono ?_
            rintro e w86 ⟨rfl, gx⟩
            have z5 := (HC.out _ (grown_trans B.out.grown gx)).2.2.2.2.2.1
            have GZ : Hid (w.grownBy w86 none) := grown_trans G1.out (grown_trans B.out.grown gx)
            clear gx
            go_wp2
            go_ret
            exact ⟨rfl, GZ.out⟩
        · clear hr2
          go_wp2_with fail
          have HIW : SP.why (R4.crash ps) (gT k m) ((0 : Nat) : Int) = 0 := SP.why_at T6.out.off (show 0 < 1 by decide)
          have HH := shigh_all I.out ((0 : Nat) : Int)
          unfold SP.hiN at HH
          rw [HIW] at HH
          rw [if_pos rfl] at HH
          simp only [Int.toNat_natCast] at HH
          have H9 : Hid (Calls Try.prog 20 #[ptr s, .int .i64 0] w80 fun e w' => e = .returned (.tuple #[.int .u64 ((SP.high (R4.crash ps) (gT k m) 0 : Nat) : Int), .int .i64 0]) ∧ w80.grownBy w' none) := HH
          clear HH HIW
          have HO := T6.out.high (by decide) (by decide)
          rcases HO with ho | ho
          · rw [ho] at H9
            clear ho
            refine H9.out.mono ?_
            rintro e w87 ⟨rfl, gx⟩
            have z5 := (HC.out _ (grown_trans B.out.grown gx)).2.2.2.2.2.1
            have GZ : Hid (w.grownBy w87 none) := grown_trans G1.out (grown_trans B.out.grown gx)
            clear gx
            go_wp2
            go_ret
            exact ⟨rfl, GZ.out⟩
          · rw [ho] at H9
            clear ho
            refine H9.out.mono ?_
            rintro e w88 ⟨rfl, gx⟩
            have z5 := (HC.out _ (grown_trans B.out.grown gx)).2.2.2.2.2.1
            have GZ : Hid (w.grownBy w88 none) := grown_trans G1.out (grown_trans B.out.grown gx)
            clear gx
            go_wp2
            go_ret
            exact ⟨rfl, GZ.out⟩
end stripeTorn
end Go.Proofs.Ytfjlpifaaknmpaa

