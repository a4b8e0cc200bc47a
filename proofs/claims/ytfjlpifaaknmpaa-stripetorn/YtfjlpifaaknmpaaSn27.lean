/- Packed: Awk8, NewsW8, LiftN8, PC8, PT9. -/
import Derived.Deep.RegionHeld3
import Derived.Deep.MidRow
import Derived.BigRegion
import Derived.Test.YtfjlpifaaknmpaaSn1
import Derived.Test.YtfjlpifaaknmpaaSn2
import Derived.Test.YtfjlpifaaknmpaaSn3
import Derived.Test.YtfjlpifaaknmpaaSn4
import Derived.Test.YtfjlpifaaknmpaaSn5
import Derived.Test.YtfjlpifaaknmpaaSn6
import Derived.Test.YtfjlpifaaknmpaaSn7
import Derived.Test.YtfjlpifaaknmpaaSn8
import Derived.Test.YtfjlpifaaknmpaaSn9
import Derived.Test.YtfjlpifaaknmpaaSn10
import Derived.Test.YtfjlpifaaknmpaaSn11
import Derived.Test.YtfjlpifaaknmpaaSn12
import Derived.Test.YtfjlpifaaknmpaaSn13
import Derived.Test.YtfjlpifaaknmpaaSn14
import Derived.Test.YtfjlpifaaknmpaaSn15
import Derived.Test.YtfjlpifaaknmpaaSn16
import Derived.Test.YtfjlpifaaknmpaaSn17
import Derived.Test.YtfjlpifaaknmpaaSn18
import Derived.Test.YtfjlpifaaknmpaaSn19
import Derived.Test.YtfjlpifaaknmpaaSn20
import Derived.Test.YtfjlpifaaknmpaaSn21
import Derived.Test.YtfjlpifaaknmpaaSn22
import Derived.Test.YtfjlpifaaknmpaaSn23
import Derived.Test.YtfjlpifaaknmpaaSn24
import Derived.Test.YtfjlpifaaknmpaaSn25
import Derived.Test.YtfjlpifaaknmpaaSn26
import Derived.LaidEqlPtr
import Derived.Lib.SmallJoins
/- The contract of hayricklaw08.awake. -/
set_option linter.unusedSimpArgs false
set_option linter.unusedVariables false
set_option maxRecDepth 100000
namespace Go.Proofs.Ytfjlpifaaknmpaa
open Go.RowKit

def gA : SP.Geo := ⟨2, 3, 1, 3⟩
def QA0 : AM.Raw := AM.Raw.new 3 11
def QA1 : AM.Raw := (SP.write QA0 gA ((0 : Nat) : Int) 5 (datL 2 7)).2
def QA2 : AM.Raw := (QA1.lose ((1 : Nat) : Int)).2
def QA3 : AM.Raw := (QA2.lose ((2 : Nat) : Int)).2
theorem gA_ok : gA.Ok QA0 := SP.new_geo (k := 2) (N := 3) (S := 1) (f := 3) (n := 11) rfl (by decide) (by decide) (by decide) (by decide) (by decide)
theorem qa0 : QA0.Ok ∧ QA0.ons = 3 ∧ ∀ d : Nat, QA0.on (d : Int) = decide (d < 3) := by
  have h := SP.new_ok (N := 3) (n := 11) (by decide) (by decide) (by decide) (by decide)
  exact ⟨h.1, SP.new_ons (N := 3) (n := 11) gA_ok rfl (by decide) (by decide) (by decide) (by decide), h.2⟩
theorem qa1 : (SP.write QA0 gA ((0 : Nat) : Int) 5 (datL 2 7)).1 = 0 ∧ SP.Wrote QA1 gA 0 5 (datL 2 7) ∧ QA1.off = false ∧ QA1.L.length ≤ 24 ∧ gA.Ok QA1 ∧ ∀ d : Nat, QA1.on (d : Int) = decide (d < 3) := by
  obtain ⟨h1, h2, h3, _, _⟩ := SP.write_sure qa0.1 gA_ok (slot := 0) (m := 5) (by decide) rfl rfl (by decide) (datL_small 2 7) (datL_len 2 7) (by rw [qa0.2.1]; decide)
  refine ⟨h1, h2, h3, ?_, gA_ok.kept (SP.write_kept _ _ _ _ _), fun d => ?_⟩
  · have := SP.write_len (R := QA0) (g := gA) ((0 : Nat) : Int) 5 (datL 2 7) writes_len8
    exact this
  · exact ((SP.write_kept QA0 gA ((0 : Nat) : Int) 5 (datL 2 7)).on (d : Int)).trans (qa0.2.2 d)
theorem qa2 : (QA1.lose ((1 : Nat) : Int)).1 = 0 ∧ SP.Wrote QA2 gA 0 5 (datL 2 7) ∧ QA2.off = false ∧ QA2.L.length ≤ 24 ∧ gA.Ok QA2 ∧ (∀ d : Nat, QA2.on (d : Int) = (decide (d < 3) && !(d == 1))) ∧ QA2.ons = 2 := by
  obtain ⟨_, h2, h3, h4, h5, h6⟩ := qa1
  obtain ⟨l1, l2⟩ := SP.lose_yes (R := QA1) (d := 1) (by rw [h6]; decide)
  have hon : ∀ d : Nat, QA2.on (d : Int) = (decide (d < 3) && !(d == 1)) := fun d => (l2 d).trans (by rw [h6])
  have hg : gA.Ok QA2 := SP.lose_geo h5 _
  refine ⟨l1, h2.lose _, (SP.lose_off _ _).trans h3, Nat.le_trans (SP.lose_L _ _) h4, hg, hon, ?_⟩
  rw [← SP.ons_filter hg]
  have e : (fun d : Nat => QA2.on (d : Int)) = fun d : Nat => (decide (d < 3) && !(d == 1)) := by funext d; exact hon d
  rw [e]
  decide
theorem qa3 : SP.Wrote QA3 gA 0 5 (datL 2 7) ∧ QA3.off = false ∧ QA3.L.length ≤ 24 ∧ gA.Ok QA3 ∧ QA3.on ((0 : Nat) : Int) = true ∧ QA3.ons = 1 := by
  obtain ⟨_, h2, h3, h4, h5, h6, _⟩ := qa2
  obtain ⟨l1, l2⟩ := SP.lose_yes (R := QA2) (d := 2) (by rw [h6]; decide)
  have hon : ∀ d : Nat, QA3.on (d : Int) = ((decide (d < 3) && !(d == 1)) && !(d == 2)) := fun d => (l2 d).trans (by rw [h6])
  have hg : gA.Ok QA3 := SP.lose_geo h5 _
  refine ⟨h2.lose _, (SP.lose_off _ _).trans h3, Nat.le_trans (SP.lose_L _ _) h4, hg, (hon 0).trans (by decide), ?_⟩
  rw [← SP.ons_filter hg]
  have e : (fun d : Nat => QA3.on (d : Int)) = fun d : Nat => ((decide (d < 3) && !(d == 1)) && !(d == 2)) := by funext d; exact hon d
  rw [e]
  decide

set_option maxHeartbeats 6400000 in
theorem awake8 (w : World) : Calls Try.prog 5 #[] w fun e w' => e = .returned (.bool true) ∧ w.grownBy w' none := by
  have MD : Hid (Calls Try.prog 12 #[.int .i64 2, .int .i64 1, .int .i64 1, .int .i64 3] w fun e w' => ∃ s t, e = .returned (.tuple #[ptr s, .pointer (some ⟨t, 0, none⟩)]) ∧ ∃ F G a r, Duo F G w w' s a t r gA QA0) := made8_yes w (k := 2) (more := 1) (S := 1) (f := 3) (by decide) (by decide) (by decide) (by decide) (by decide) (by decide)
  have DT : Hid (∀ w', Calls Try.prog 13 #[.int .i64 2, .int .u8 7] w' fun e w'' => ∃ p n c, e = .returned (.slice p n c) ∧ Own w'.heap.size w'' (.slice p n c) (datL 2 7) ∧ w'.grownBy w'' none) := fun w' => data_yes w' (k := 2) (x := 7) (by decide) (by decide) (by decide)
  go_enter Try.func5, Try.ntmps5
  go_wp2_with (first
    | (go_at_call 12; refine MD.out.mono ?_; rintro e w1 ⟨s, t, rfl, F1, G1, a, r, du⟩; have I1 : Hid (SI F1 w1 s a gA QA0) := du.i; have B1 : Hid (Base w F1 w1) := ⟨du.gr, du.bi⟩; clear du)
    | fail)
  clear MD
  refine (DT.out w1).mono ?_
  rintro e w2 ⟨p2, n2, c2, rfl, o2, g2⟩
  have V2 : Hid (Aw F1 w2 (.slice p2 n2 c2) (datL 2 7)) := o2.aw I1.out.i.lt
  have I2 : Hid (SI F1 w2 s a gA QA0) := I1.out.keep g2
  have B2 : Hid (Base w F1 w2) := B1.out.keep g2
  clear o2 g2 I1 B1
  have WR : Hid (Calls Try.prog 14 #[ptr s, .int .i64 0, .int .u64 5, .slice p2 n2 c2] w2 fun e w' => e = .returned (.int .i64 0) ∧ ∃ F', SI F' w' s a gA QA1 ∧ Base w F' w') := by
    have h0 := swrite_all I2.out ((0 : Nat) : Int) 5 V2.out (by decide)
    rw [qa1.1] at h0
    refine h0.mono ?_
    rintro e w' ⟨rfl, F', i, st⟩
    exact ⟨rfl, F', i, B2.out.step st⟩
  clear V2
  go_wp2_with (first
    | (go_at_call 14; refine WR.out.mono ?_; rintro e w3 ⟨rfl, F3, i3, b3⟩; have I3 : Hid (SI F3 w3 s a gA QA1) := i3; have B3 : Hid (Base w F3 w3) := b3; clear i3 b3)
    | (go_at_call 10; refine (sarray_yes I3.out).mono ?_; rintro e w9 ⟨rfl, hw9⟩; obtain rfl := hw9.symm; clear hw9)
    | fail)
  clear WR I2 B2
  have L1 : Hid (Calls Try.prog 21 #[ptr a, .int .i64 1] w3 fun e w' => e = .returned (.int .i64 0) ∧ ∃ F', SI F' w' s a gA QA2 ∧ Base w F' w') := by
    refine (lose_at (d := ((1 : Nat) : Int)) I3.out.i (by have := qa1.2.2.2.1; omega) (c := 0) (by rw [qa2.1]; rfl) rfl).mono ?_
    rintro e w' ⟨rfl, F', i, st⟩
    exact ⟨rfl, F', I3.out.step i st qa2.2.2.2.2.1, B3.out.step st⟩
  go_wp2_with (first
    | (go_at_call 21; refine L1.out.mono ?_; rintro e w4 ⟨rfl, F4, i4, b4⟩; have I4 : Hid (SI F4 w4 s a gA QA2) := i4; have B4 : Hid (Base w F4 w4) := b4; clear i4 b4)
    | fail)
  clear L1 I3 B3
  have R1 : Hid (Calls Try.prog 18 #[ptr s, .int .i64 0, .int .u64 5] w4 fun e w' => ∃ p n c, e = .returned (.tuple #[.slice p n c, .int .i64 0]) ∧ Own w4.heap.size w' (.slice p n c) (datL 2 7) ∧ w4.grownBy w' none) := by
    refine (sread_all I4.out ((0 : Nat) : Int) 5).mono ?_
    rintro e w' ⟨v, er, out, rfl, hr, ho, hg⟩
    obtain ⟨h1, h2⟩ := (qa2.2.1.read qa2.2.2.2.2.1 (by decide) (by decide) (datL_small 2 7) (datL_len 2 7) qa2.2.2.1 (by decide) hr).1 (by rw [qa2.2.2.2.2.2.2]; decide)
    rw [h1] at ho
    rw [h2]
    obtain ⟨p, n, c, rfl, _⟩ := ho.vec.opened
    exact ⟨p, n, c, rfl, ho, hg⟩
  go_wp2_with (first
    | (go_at_call 18; refine R1.out.mono ?_; rintro e w5 ⟨p5, n5, c5, rfl, v5, g5⟩; have V5 : Hid (Aw F4 w5 (.slice p5 n5 c5) (datL 2 7)) := v5.aw I4.out.i.lt; have I5 : Hid (SI F4 w5 s a gA QA2) := I4.out.keep g5; have B5 : Hid (Base w F4 w5) := B4.out.keep g5; clear v5 g5)
    | (go_at_call 10; refine (sarray_yes I5.out).mono ?_; rintro e w9 ⟨rfl, hw9⟩; obtain rfl := hw9.symm; clear hw9)
    | fail)
  clear R1 I4 B4
  have L2 : Hid (Calls Try.prog 21 #[ptr a, .int .i64 2] w5 fun e w' => ∃ c, e = .returned (.int .i64 c) ∧ ∃ F', SI F' w' s a gA QA3 ∧ Base w F' w' ∧ Aw F' w' (.slice p5 n5 c5) (datL 2 7)) := by
    refine (lose_at (d := ((2 : Nat) : Int)) I5.out.i (by have := qa2.2.2.2.1; omega) rfl rfl).mono ?_
    rintro e w' ⟨rfl, F', i, st⟩
    exact ⟨_, rfl, F', I5.out.step i st qa3.2.2.2.1, B5.out.step st, V5.out.step st⟩
  go_wp2_with (first
    | (go_at_call 21; refine L2.out.mono ?_; rintro e w6 ⟨c6, rfl, F6, i6, b6, v6⟩; have I6 : Hid (SI F6 w6 s a gA QA3) := i6; have B6 : Hid (Base w F6 w6) := b6; have V6 : Hid (Aw F6 w6 (.slice p5 n5 c5) (datL 2 7)) := v6; clear i6 b6 v6)
    | fail)
  clear L2 I5 B5 V5
  have R2 : Hid (Calls Try.prog 18 #[ptr s, .int .i64 0, .int .u64 5] w6 fun e w' => ∃ p n c, e = .returned (.tuple #[.slice p n c, .int .i64 20]) ∧ w6.grownBy w' none) := by
    refine (sread_all I6.out ((0 : Nat) : Int) 5).mono ?_
    rintro e w' ⟨v, er, out, rfl, hr, ho, hg⟩
    obtain ⟨h1, h2⟩ := (qa3.1.read qa3.2.2.2.1 (by decide) (by decide) (datL_small 2 7) (datL_len 2 7) qa3.2.1 (by decide) hr).2 (by rw [qa3.2.2.2.2.2]; decide)
    rw [h2]
    obtain ⟨p, n, c, rfl, _⟩ := ho.vec.opened
    exact ⟨p, n, c, rfl, hg⟩
  have HI : Hid (SP.hiN QA3 gA ((0 : Nat) : Int) = 5 ∧ SP.why QA3 gA ((0 : Nat) : Int) = 0) := by
    have hy : SP.why QA3 gA ((0 : Nat) : Int) = 0 := by
      unfold SP.why
      rw [qa3.2.1]
      simp only [Bool.false_eq_true, if_false]
      rw [if_pos (by decide)]
    refine ⟨?_, hy⟩
    unfold SP.hiN
    rw [if_pos hy]
    exact qa3.1.high (by decide) (d := 0) (by decide) qa3.2.2.2.2.1
  have HH : Hid (∀ w', w6.grownBy w' none → Calls Try.prog 20 #[ptr s, .int .i64 0] w' fun e w'' => e = .returned (.tuple #[.int .u64 5, .int .i64 0]) ∧ w'.grownBy w'' none) := fun w' g1 => by
    have := shigh_all (I6.out.keep g1) ((0 : Nat) : Int)
    rw [HI.out.1, HI.out.2] at this
    exact this
  clear HI
  go_wp2_with (first
    | (go_at_call 18; refine R2.out.mono ?_; rintro e w7 ⟨p7, n7, c7, rfl, g7⟩; have G7 : Hid (w6.grownBy w7 none) := g7; clear g7)
    | (go_at_call 20; refine (HH.out _ G7.out).mono ?_; rintro e w8 ⟨rfl, g8⟩; have G8 : Hid (w6.grownBy w8 none) := grown_trans G7.out g8; clear g8)
    | (go_at_call 13; refine (DT.out _).mono ?_; rintro e wa ⟨pa, na, ca, rfl, oa, ga⟩; have GA : Hid (w6.grownBy wa none) := grown_trans G8.out ga; have VA : Hid (Vec wa (.slice pa na ca) (datL 2 7) ∧ Vec wa (.slice p5 n5 c5) (datL 2 7)) := ⟨oa.vec, V6.out.vec.keep GA.out⟩; clear oa ga)
    | (go_at_call 19; refine (equal_at VA.out.2 VA.out.1 rfl).mono ?_; rintro e w9 ⟨rfl, hw9⟩; obtain rfl := hw9.symm; clear hw9))
  go_ret
  exact ⟨rfl, grown_trans B6.out.grown GA.out⟩
end Go.Proofs.Ytfjlpifaaknmpaa

/- The walk of StripeNews. -/
set_option linter.unusedSimpArgs false
set_option linter.unusedVariables false
set_option maxRecDepth 100000
namespace Go.Proofs.Ytfjlpifaaknmpaa
open Go.RowKit
theorem Try.infoArr : (Try.prog.info? 65).isSome = true := by kernel_rfl
theorem ptr_same (a : Nat) (W : World) : (binOp .eql 28 (ptr a) (ptr a)).run Try.prog W = .ok (.bool true) W := by
  obtain ⟨j, hj⟩ := Option.isSome_iff_exists.1 Try.infoArr
  exact run_eql_ptr_same _ _ Try.underlying28 hj
theorem small_u (K : Int) (n : Nat) (h0 : 0 < n) (h1 : n ≤ 1000) : ∃ u a : Nat, a < n ∧ IntKind.u64.wrap K = (u : Int) ∧ ((u : Int)).tmod (n : Int) = (a : Int) ∧ IntKind.u64.wrap (a : Int) = (a : Int) ∧ IntKind.i64.wrap (a : Int) = (a : Int) ∧ IntKind.i64.wrap (1 + (a : Int)) = ((1 + a : Nat) : Int) := by
  obtain ⟨u, hu⟩ : ∃ u : Nat, IntKind.u64.wrap K = (u : Int) := by
    rw [IntKind.wrap_u64]
    exact ⟨(K % 18446744073709551616).toNat, by omega⟩
  have hlt : u % n < n := Nat.mod_lt _ h0
  refine ⟨u, u % n, hlt, hu, rfl, by rw [IntKind.wrap_u64]; omega, IntWalk.i64_in _ (by omega), ?_⟩
  have e : (1 : Int) + ((u % n : Nat) : Int) = ((1 + u % n : Nat) : Int) := by omega
  rw [e]
  exact IntWalk.i64_in _ (by omega)
namespace stripeNews

set_option maxHeartbeats 12800000 in
theorem walk {w : World} {D S K N Sg f : Int} (hf : f < 9223372036854775808) : Calls Try.prog 3 #[.agg #[.int .i64 D, .int .i64 S, .int .i64 K, .int .i64 N, .int .i64 Sg, .int .i64 f]] w fun e w' => e = .returned (.bool true) ∧ w.grownBy w' none := by
  obtain ⟨u1, a1, ha1, e11, e12, e13, e14, e15⟩ := small_u D 5 (by decide) (by decide)
  obtain ⟨u2, a2, ha2, e21, e22, e23, e24, e25⟩ := small_u S 60 (by decide) (by decide)
  obtain ⟨d, hd⟩ : ∃ d, d = 1 + a1 := ⟨_, rfl⟩
  obtain ⟨n, hn⟩ : ∃ n, n = 1 + a2 := ⟨_, rfl⟩
  rw [← hd] at e15
  rw [← hn] at e25
  have q1 : ((u1 : Int)).tmod 5 = (a1 : Int) := e12
  have q2 : ((u2 : Int)).tmod 60 = (a2 : Int) := e22
  have HD : Hid (1 ≤ d ∧ d ≤ 5 ∧ 1 ≤ n ∧ n ≤ 60) := ⟨by omega, by omega, by omega, by omega⟩
  have HF : Hid (f < 9223372036854775808) := hf
  have HC : Hid (∀ w', (w.alloc (.cells #[.int .i64 D, .int .i64 S, .int .i64 K, .int .i64 N, .int .i64 Sg, .int .i64 f] 25)).grownBy w' none → w'.cell? ⟨w.heap.size, 0, none⟩ = some (.int .i64 D) ∧ w'.cell? ⟨w.heap.size, 1, none⟩ = some (.int .i64 S) ∧ w'.cell? ⟨w.heap.size, 2, none⟩ = some (.int .i64 K) ∧ w'.cell? ⟨w.heap.size, 3, none⟩ = some (.int .i64 N) ∧ w'.cell? ⟨w.heap.size, 4, none⟩ = some (.int .i64 Sg) ∧ w'.cell? ⟨w.heap.size, 5, none⟩ = some (.int .i64 f)) := fun w' g1 => by
    have h := heap_alloc_new w (.cells #[.int .i64 D, .int .i64 S, .int .i64 K, .int .i64 N, .int .i64 Sg, .int .i64 f] 25)
    exact ⟨g1.cell (cell_of_row _ _ 0 _ _ _ h) (by simp), g1.cell (cell_of_row _ _ 1 _ _ _ h) (by simp), g1.cell (cell_of_row _ _ 2 _ _ _ h) (by simp), g1.cell (cell_of_row _ _ 3 _ _ _ h) (by simp), g1.cell (cell_of_row _ _ 4 _ _ _ h) (by simp), g1.cell (cell_of_row _ _ 5 _ _ _ h) (by simp)⟩
  have GA : Hid (w.grownBy (w.alloc (.cells #[.int .i64 D, .int .i64 S, .int .i64 K, .int .i64 N, .int .i64 Sg, .int .i64 f] 25)) none) := World.grownBy_alloc w _ none
  clear hd hn ha1 ha2 e12 e22 hf
  go_enter Try.func3, Try.ntmps3
  go_wp2_with fail
  refine (awake8 _).mono ?_
  rintro e w1 ⟨rfl, g1⟩
  have HC1 : Hid (∀ w', w1.grownBy w' none → w'.cell? ⟨w.heap.size, 0, none⟩ = some (.int .i64 D) ∧ w'.cell? ⟨w.heap.size, 1, none⟩ = some (.int .i64 S) ∧ w'.cell? ⟨w.heap.size, 2, none⟩ = some (.int .i64 K) ∧ w'.cell? ⟨w.heap.size, 3, none⟩ = some (.int .i64 N) ∧ w'.cell? ⟨w.heap.size, 4, none⟩ = some (.int .i64 Sg) ∧ w'.cell? ⟨w.heap.size, 5, none⟩ = some (.int .i64 f)) := fun w' g' => HC.out w' (grown_trans g1 g')
  have G1 : Hid (w.grownBy w1 none) := grown_trans GA.out g1
  clear g1 HC GA
  go_wp2_with fail
  go_region_held3 (fun w' => w'.cell? ⟨w.heap.size, 0, none⟩ = some (.int .i64 D) ∧ w'.cell? ⟨w.heap.size, 1, none⟩ = some (.int .i64 S) ∧ w'.cell? ⟨w.heap.size, 2, none⟩ = some (.int .i64 K) ∧ w'.cell? ⟨w.heap.size, 3, none⟩ = some (.int .i64 N) ∧ w'.cell? ⟨w.heap.size, 4, none⟩ = some (.int .i64 Sg) ∧ w'.cell? ⟨w.heap.size, 5, none⟩ = some (.int .i64 f)) (first | exact HC1.out _ (grown_drewN w1 1) | exact HC1.out _ (gb_alloc (grown_drewN w1 1) _)) (fail)
  have HB : Hid (∀ w', ((w1.alloc (.cells #[.int .i64 K, .int .i64 N, .int .i64 Sg] 23)).drew).grownBy w' none → w'.cell? ⟨w1.heap.size, 0, none⟩ = some (.int .i64 K) ∧ w'.cell? ⟨w1.heap.size, 1, none⟩ = some (.int .i64 N) ∧ w'.cell? ⟨w1.heap.size, 2, none⟩ = some (.int .i64 Sg)) := fun w' g1 => by
    have h := heap_alloc_new w1 (.cells #[.int .i64 K, .int .i64 N, .int .i64 Sg] 23)
    have g2 := grown_trans (gb_drew (World.grownBy.refl (w1.alloc (.cells #[.int .i64 K, .int .i64 N, .int .i64 Sg] 23)) none)) g1
    exact ⟨g2.cell (cell_of_row _ _ 0 _ _ _ h) (by simp), g2.cell (cell_of_row _ _ 1 _ _ _ h) (by simp), g2.cell (cell_of_row _ _ 2 _ _ _ h) (by simp)⟩
  have G2 : Hid (w.grownBy ((w1.alloc (.cells #[.int .i64 K, .int .i64 N, .int .i64 Sg] 23)).drew) none) := gb_drew (gb_alloc G1.out _)
  clear HC1 G1
  go_wp2_with fail
  obtain ⟨b3, hb3⟩ : ∃ b, b = w1.heap.size := ⟨_, rfl⟩
  rw [← hb3] at HB
  (try rw [← hb3])
  generalize (w1.alloc (.cells #[.int .i64 K, .int .i64 N, .int .i64 Sg] 23)).drew = w2 at *
  clear hb3
  refine (new_at HD.out.1 (by have := HD.out; omega) HD.out.2.2.1 (by have := HD.out; omega) rfl rfl).mono ?_
  rintro e w3 ⟨a, rfl, F, i3, b30⟩
  have I3 : Hid (Is F w3 a (AM.Raw.new d n)) := i3
  have B3 : Hid (w2.grownBy w3 none) := b30.grown
  clear i3 b30
  go_wp2_with fail
  refine (rnew_at HD.out.1 (by have := HD.out; omega) HD.out.2.2.1 (by have := HD.out; omega) rfl rfl).mono ?_
  rintro e w4 ⟨r, rfl, G, j4, b40⟩
  have J4 : Hid (RIs G w4 r (AM.RA.new d n)) := j4
  have I4 : Hid (Is F w4 a (AM.Raw.new d n)) := I3.out.keep b40.grown
  have G4 : Hid (w2.grownBy w4 none) := grown_trans B3.out b40.grown
  have HSIM : Hid (AM.Sim (AM.Raw.new d n) (AM.RA.new d n)) := AM.sim_new (by have := HD.out; omega) (by have := HD.out; omega) (by have := HD.out; omega) (by have := HD.out; omega)
  obtain ⟨z0, z1, z2⟩ := HB.out w4 G4.out
  clear j4 b40 I3 B3
  cases hok : SP.okNew (AM.Raw.new d n) K N Sg f
  · have HOK : Hid (SP.okNew (AM.Raw.new d n) K N Sg f = false) := hok
    clear hok
    go_wp2_with fail
    refine (snew_no I4.out HOK.out).mono ?_
    rintro e w5 ⟨rfl, g5⟩
    have J5 : Hid (RIs G w5 r (AM.RA.new d n)) := J4.out.keep g5
    have G5 : Hid (w2.grownBy w5 none) := grown_trans G4.out g5
    clear g5 z0 z1 z2
    obtain ⟨z0, z1, z2⟩ := HB.out w5 G5.out
    have RN : Hid (Calls Try.prog 9 #[rptr r, .agg #[.int .i64 K, .int .i64 N, .int .i64 Sg], .int .i64 f] w5 fun e w' => e = .returned (.tuple #[.pointer none, .int .i64 1]) ∧ w5.grownBy w' none) := by
      refine (rsnew_any J5.out HSIM.out HSIM.out.ok HF.out).mono ?_
      rintro e w' (⟨h1, _⟩ | ⟨_, h2, h3⟩)
      · have := HOK.out; rw [h1] at this; cases this
      · exact ⟨h2, h3⟩
    go_wp2_with fail
    refine RN.out.mono ?_
    rintro e w6 ⟨rfl, g6⟩
    have G6 : Hid (w.grownBy w6 none) := grown_trans G2.out (grown_trans G5.out g6)
    clear g6 RN z0 z1 z2 J5 J4
    go_wp2_with fail
    go_quiet (fail)
    go_wp2
    go_ret
    exact ⟨rfl, by first | exact grown_trans G6.out (grown_drewN _ _) | exact G6.out⟩
  · obtain ⟨g, rfl, rfl, rfl, rfl, hg⟩ := SP.okNew_geo hok
    have HOK : Hid (SP.okNew (AM.Raw.new d n) (g.k : Int) (g.n : Int) (g.s : Int) (g.f : Int) = true) := hok
    have HGG : Hid (g.Ok (AM.Raw.new d n)) := hg
    clear hok hg
    go_wp2_with fail
    refine (snew_yes I4.out HGG.out).mono ?_
    rintro e w5 ⟨s, rfl, s5, l5, g5⟩
    have J5 : Hid (RIs G w5 r (AM.RA.new d n)) := J4.out.keep g5
    have S5 : Hid (SI F w5 s a g (AM.Raw.new d n)) := s5
    have G5 : Hid (w2.grownBy w5 none) := grown_trans G4.out g5
    clear g5 s5 l5 z0 z1 z2
    obtain ⟨z0, z1, z2⟩ := HB.out w5 G5.out
    have RN : Hid (Calls Try.prog 9 #[rptr r, .agg #[.int .i64 (g.k : Int), .int .i64 (g.n : Int), .int .i64 (g.s : Int)], .int .i64 (g.f : Int)] w5 fun e w' => ∃ t, e = .returned (.tuple #[.pointer (some ⟨t, 0, none⟩), .int .i64 0]) ∧ w5.grownBy w' none) := by
      refine (rsnew_any J5.out HSIM.out HSIM.out.ok HF.out).mono ?_
      rintro e w' (⟨_, t, h2, _, _, h3⟩ | ⟨h1, _⟩)
      · exact ⟨t, h2, h3⟩
      · have := HOK.out; rw [h1] at this; cases this
    go_wp2_with fail
    refine RN.out.mono ?_
    rintro e w6 ⟨t, rfl, g6⟩
    have SS : Hid (∀ w', w6.grownBy w' none → SI F w' s a g (AM.Raw.new d n)) := fun w' g' => S5.out.keep (grown_trans g6 g')
    have ZZ : Hid (∀ w', w6.grownBy w' none → w'.cell? ⟨b3, 0, none⟩ = some (.int .i64 (g.k : Int)) ∧ w'.cell? ⟨b3, 1, none⟩ = some (.int .i64 (g.n : Int)) ∧ w'.cell? ⟨b3, 2, none⟩ = some (.int .i64 (g.s : Int))) := fun w' g' => HB.out w' (grown_trans G5.out (grown_trans g6 g'))
    have G6 : Hid (w.grownBy w6 none) := grown_trans G2.out (grown_trans G5.out g6)
    clear g6 RN z0 z1 z2 J5 J4 S5
    have hpe := fun W => ptr_same a W
    go_wp2_with fail
    go_region_held3 (fun w' => w'.cell? ⟨b3, 0, none⟩ = some (.int .i64 (g.k : Int)) ∧ w'.cell? ⟨b3, 1, none⟩ = some (.int .i64 (g.n : Int)) ∧ w'.cell? ⟨b3, 2, none⟩ = some (.int .i64 (g.s : Int))) (first | exact ZZ.out _ (grown_drewN _ 1) | exact ZZ.out _ G7.out)
      ((first
    | (go_at_call 10; refine (sarray_yes (SS.out _ (grown_drewN _ 1))).mono ?_; rintro e w9 ⟨rfl, hw9⟩; obtain rfl := hw9.symm; clear hw9)
    | (go_at_call 11; refine (sgeo_yes (SS.out _ (grown_drewN _ 1))).mono ?_; rintro e w7 ⟨rfl, g7⟩; have G7 : Hid (w6.grownBy w7 none) := grown_trans (grown_drewN _ 1) g7; clear g7)))
    go_wp2
    go_ret
    exact ⟨rfl, by first | exact grown_trans G6.out G7.out | exact grown_trans G6.out (grown_drewN _ _)⟩
end stripeNews
end Go.Proofs.Ytfjlpifaaknmpaa

/- Arguments of the types hayricklaw08.News and Torn read as data. -/
set_option linter.unusedSimpArgs false
set_option linter.unusedVariables false
set_option maxRecDepth 100000
namespace Go.Proofs.Ytfjlpifaaknmpaa
open Go.ChangeShapes Go.WideShapes Go.ChangeAt Go.RowKit

section
variable {H : Type} {enc : TypeId × Value → H}
theorem i64_hi {n : Int} (h : (Lit.int .i64 n).wf = true) : n < 9223372036854775808 := by
  have : -9223372036854775808 ≤ n ∧ n ≤ 9223372036854775807 := by simpa [Lit.wf, IntKind.min, IntKind.max, IntKind.signed, IntKind.bits] using h
  omega
theorem Try.cellsNews : Try.prog.cellsOf 25 = 6 := by kernel_rfl
theorem Try.cellsGeo : Try.prog.cellsOf 23 = 3 := by kernel_rfl
theorem news_arg {W : World} {v : Value} {d : DataW H} {p : List MemPlace} {base : Nat} (hv : Value.okWide Try.prog W .any base 25 v) (h : DataW.Trod enc Try.prog W 0 (fun _ => true) true 25 v d p)
    (hz : ∀ n ∈ d.weights Try.prog 25, n ≤ reachBytes) :
    ∃ (D S K N G f : Int), v = .agg #[.int .i64 D, .int .i64 S, .int .i64 K, .int .i64 N, .int .i64 G, .int .i64 f] ∧ f < 9223372036854775808 := by
  obtain ⟨cs, rfl, hsz⟩ := okWide_struct Try.underlying25 hv
  have h8 := hsz.trans Try.cellsNews
  obtain ⟨l⟩ := cs
  obtain ⟨fuel, hf⟩ := h
  obtain ⟨q, n, _, hx, hl, hlen, hff⟩ := DataW.trod_struct Try.underlying25 hf
  match l, h8 with
  | [c0, c1, c2, c3, c4, c5], _ =>
  match q, hlen with
  | [y0, y1, y2, y3], _ =>
  have t0 := hff 0 _ rfl
  have t1 := hff 1 _ rfl
  have t2 := hff 2 _ rfl
  have t3 := hff 3 _ rfl
  simp [Value.cells, Try.cellsI, Try.cellsGeo] at t0 t1 t2 t3
  obtain ⟨q2, n2, _, hx2, hl2, hlen2, hff2⟩ := DataW.trod_struct Try.underlying23 t2
  match q2, hlen2 with
  | [z0, z1, z2], _ =>
  have s0 := hff2 0 _ rfl
  have s1 := hff2 1 _ rfl
  have s2 := hff2 2 _ rfl
  simp [Value.cells, Try.cellsI] at s0 s1 s2
  obtain ⟨D, e0, _, w0⟩ := DataW.trod_int Try.underlying3 t0
  obtain ⟨S, e1, _, w1⟩ := DataW.trod_int Try.underlying3 t1
  obtain ⟨f, e3, _, w3⟩ := DataW.trod_int Try.underlying3 t3
  obtain ⟨K, f0, _, _⟩ := DataW.trod_int Try.underlying3 s0
  obtain ⟨N, f1, _, _⟩ := DataW.trod_int Try.underlying3 s1
  obtain ⟨G, f2, _, _⟩ := DataW.trod_int Try.underlying3 s2
  simp at e0 e1 e3 f0 f1 f2
  subst e0 e1 e3 f0 f1 f2
  exact ⟨D, S, K, N, G, f, rfl, i64_hi w3⟩
end
end Go.Proofs.Ytfjlpifaaknmpaa

/- Torn: a segment is written over another one, and the power goes. No text of the program is named. -/
set_option linter.unusedSimpArgs false
set_option linter.unusedVariables false
set_option maxRecDepth 100000
namespace Go.Proofs.Ytfjlpifaaknmpaa
namespace SP

theorem why_at {R : AM.Raw} {g : Geo} {slot : Nat} (h0 : R.off = false) (hs : slot < g.s) : why R g (slot : Int) = 0 := by
  unfold why
  rw [h0]
  simp only [Bool.false_eq_true, if_false]
  rw [if_pos ⟨by omega, by omega⟩]
theorem Wrote.other {R : AM.Raw} {g : Geo} {slot m m' : Nat} {xs : List Nat} (h : Wrote R g slot m xs) (hm : m ≠ 0) (hm2 : m < 256 ^ 8) (hne : m' ≠ m) : (SP.hits R g slot m' g.n).length = 0 := by
  rw [List.length_eq_zero_iff]
  unfold SP.hits
  rw [List.filter_eq_nil_iff]
  intro d hd hc
  have hd' := List.mem_range.1 hd
  unfold SP.has at hc
  simp only [Bool.and_eq_true, beq_iff_eq] at hc
  rw [(h.chunk hm hm2 hd' (yes_on hc.1)).2.1] at hc
  exact hne hc.2.symm
/-- What is told of the old stamp, of the new one: the one, the other, or nothing. -/
theorem rdp_or {R : AM.Raw} {g : Geo} {slot m : Nat} {xs out : List Nat} {e : Nat} (hg : g.Ok R) (hy : why R g (slot : Int) = 0) (hm : m ≠ 0) (hx : ∀ x ∈ xs, x < 256) (hl : xs.length = g.k * 448)
    (hc : ∀ d, d < g.n → has R g slot m d = true → datD R g slot d = (code g xs).getD d []) (h : RdP R g (slot : Int) m out e) : (e = 0 ∧ out = xs) ∨ e = 20 := by
  unfold RdP at h
  rw [Int.toNat_natCast] at h
  rcases h with ⟨h, _⟩ | ⟨_, h, _⟩ | ⟨_, _, _, _, h⟩ | ⟨_, _, h3, rfl, P, a, hP, rfl⟩
  · exact absurd hy h
  · exact absurd h hm
  · exact .inr h
  · obtain ⟨_, rfl⟩ := dec_is hg h3 hP (parts_shape hl) (parts_small hx _) (fun d hd hd' => by rw [hc d hd hd', code_get g xs hd])
    exact .inl ⟨rfl, parts_all hl⟩
theorem getD_el {α : Type} (l : List α) (d : α) {i : Nat} (h : i < l.length) : l.getD i d = l[i] := by simp [List.getD, h]
theorem mix_of {S X Y : List (List Nat)} (hS : S.length = 8) (h : ∀ i, i < 8 → S.getD i [] = X.getD i [] ∨ S.getD i [] = Y.getD i []) : ∃ c, S = CM.mix c X Y 8 := by
  refine ⟨(List.range 8).map (fun i => decide (S.getD i [] = Y.getD i [])), ?_⟩
  apply List.ext_getElem
  · rw [hS, CM.mix_len]
  · intro i h1 h2
    rw [hS] at h1
    have e1 : S[i] = S.getD i [] := by simp [List.getD, hS, h1]
    have e2 : (CM.mix ((List.range 8).map (fun i => decide (S.getD i [] = Y.getD i []))) X Y 8)[i] = (CM.mix ((List.range 8).map (fun i => decide (S.getD i [] = Y.getD i []))) X Y 8).getD i [] := (getD_el _ _ h2).symm
    rw [e1, e2, CM.mix_get _ _ _ h1]
    have e3 : ((List.range 8).map (fun i => decide (S.getD i [] = Y.getD i []))).getD i false = decide (S.getD i [] = Y.getD i []) := by
      rw [getD_el _ _ (by simpa using h1)]
      simp only [List.getElem_map, List.getElem_range]
    rw [e3]
    by_cases c : S.getD i [] = Y.getD i []
    · rw [decide_eq_true c, if_pos rfl]; exact c
    · rw [decide_eq_false c]
      simp only [Bool.false_eq_true, if_false]
      exact (h i h1).resolve_right c

/-- Each sector is of the old segment or of the new one. -/
structure Torn (R : AM.Raw) (g : Geo) (slot m m' : Nat) (xs ys : List Nat) : Prop where
  ok : g.Ok R
  off : R.off = false
  hs : slot < g.s
  on : ∀ d, d < g.n → R.on (d : Int) = true
  mix : ∀ d i, d < g.n → i < 8 → cont R.C g slot d i = (CM.secs m ((code g xs).getD d []) 8).getD i [] ∨ cont R.C g slot d i = (CM.secs m' ((code g ys).getD d []) 8).getD i []
theorem Torn.chunk {R : AM.Raw} {g : Geo} {slot m m' : Nat} {xs ys : List Nat} (h : Torn R g slot m m' xs ys) (m0 : m ≠ 0) (m0' : m' ≠ 0) (hm : m < 256 ^ 8) (hm' : m' < 256 ^ 8) (hne : m ≠ m') {d : Nat} (hd : d < g.n) :
    yesD R g slot d = false ∨ (numD R g slot d = m ∧ datD R g slot d = (code g xs).getD d []) ∨ (numD R g slot d = m' ∧ datD R g slot d = (code g ys).getD d []) := by
  have hx := code_row g xs hd
  have hy := code_row g ys hd
  obtain ⟨c, hc⟩ := mix_of (S := sectTo R g slot d 8) (X := CM.secs m ((code g xs).getD d []) 8) (Y := CM.secs m' ((code g ys).getD d []) 8) (sectTo_len _ _ _ _ _) (fun i hi => by
    have e : (sectTo R g slot d 8).getD i [] = cont R.C g slot d i := by simp [sectTo, cont, List.getD, hi]
    rw [e]
    exact h.mix d i hd hi)
  have hs : sects R g slot d = CM.mix c (CM.secs m ((code g xs).getD d []) 8) (CM.secs m' ((code g ys).getD d []) 8) 8 := (sects_on (h.on d hd) _ _).trans hc
  unfold yesD numD datD
  rw [hs]
  by_cases h0 : CM.cnt c 8 = 0
  · rw [CM.mix_none h0 (CM.secs_len _ _ _)]
    obtain ⟨hf, hp⟩ := fit448 m0 hx
    have := CM.put_take hm hf
    rw [hp] at this
    exact .inr (.inl this.2)
  · by_cases h8 : CM.cnt c 8 = 8
    · rw [CM.mix_all h8 (CM.secs_len _ _ _)]
      obtain ⟨hf, hp⟩ := fit448 m0' hy
      have := CM.put_take hm' hf
      rw [hp] at this
      exact .inr (.inr this.2)
    · left
      rw [CM.mix_yes hm hm' m0' (by omega) (by omega) (by rw [hx]; omega) (by rw [hy]; omega) h0 h8]
      exact decide_eq_false hne
theorem Torn.reads {R : AM.Raw} {g : Geo} {slot m m' : Nat} {xs ys : List Nat} (h : Torn R g slot m m' xs ys) (m0 : m ≠ 0) (m0' : m' ≠ 0) (hm : m < 256 ^ 8) (hm' : m' < 256 ^ 8) (hne : m ≠ m') (hx : ∀ x ∈ xs, x < 256) (hl : xs.length = g.k * 448) (hy : ∀ x ∈ ys, x < 256) (hl' : ys.length = g.k * 448) {out : List Nat} {e : Nat} :
    (RdP R g (slot : Int) m out e → (e = 0 ∧ out = xs) ∨ e = 20) ∧ (RdP R g (slot : Int) m' out e → (e = 0 ∧ out = ys) ∨ e = 20) := by
  refine ⟨fun hr => rdp_or h.ok (why_at h.off h.hs) m0 hx hl (fun d hd hh => ?_) hr, fun hr => rdp_or h.ok (why_at h.off h.hs) m0' hy hl' (fun d hd hh => ?_) hr⟩
  · unfold SP.has at hh
    simp only [Bool.and_eq_true, beq_iff_eq] at hh
    rcases h.chunk m0 m0' hm hm' hne hd with h1 | h1 | h1
    · rw [h1] at hh; simp at hh
    · exact h1.2
    · exact absurd (hh.2.symm.trans h1.1) hne
  · unfold SP.has at hh
    simp only [Bool.and_eq_true, beq_iff_eq] at hh
    rcases h.chunk m0 m0' hm hm' hne hd with h1 | h1 | h1
    · rw [h1] at hh; simp at hh
    · exact absurd (h1.1.symm.trans hh.2) hne
    · exact h1.2
theorem val_secs {m i : Nat} (hm : m < 256 ^ 8) (E : List Nat) (hi : i < 8) : SM.val ((CM.secs m E 8).getD i []) 8 = m := by
  rw [CM.secs_get m _ hi]
  exact SM.val_sec hm _
theorem Torn.high {R : AM.Raw} {g : Geo} {slot m m' : Nat} {xs ys : List Nat} (h : Torn R g slot m m' xs ys) (hm : m < 256 ^ 8) (hm' : m' < 256 ^ 8) : high R g slot = m ∨ high R g slot = m' := by
  have hmem : ∀ y ∈ markTo R g slot g.n, y = m ∨ y = m' := by
    intro y hy
    obtain ⟨d, hd, hy⟩ := mem_markTo hy
    unfold marks at hy
    rw [sects_on (h.on d hd)] at hy
    obtain ⟨b, hb, rfl⟩ := List.mem_map.1 hy
    unfold sectTo at hb
    obtain ⟨i, hi, rfl⟩ := List.mem_map.1 hb
    have hi := List.mem_range.1 hi
    rcases h.mix d i hd hi with h1 | h1
    · left
      show SM.val (cont R.C g slot d i) 8 = m
      rw [h1]; exact val_secs hm _ hi
    · right
      show SM.val (cont R.C g slot d i) 8 = m'
      rw [h1]; exact val_secs hm' _ hi
  have hne : markTo R g slot g.n ≠ [] := by
    have hd : 0 < g.n := by have := h.ok.kn; omega
    intro hc
    have : SM.val (cont R.C g slot 0 0) 8 ∈ markTo R g slot g.n := by
      unfold markTo
      refine List.mem_flatMap.2 ⟨0, List.mem_range.2 hd, ?_⟩
      unfold marks
      rw [sects_on (h.on 0 hd)]
      refine List.mem_map.2 ⟨cont R.C g slot 0 0, ?_, rfl⟩
      unfold sectTo
      exact List.mem_map.2 ⟨0, by simp, rfl⟩
    rw [hc] at this
    simp at this
  exact hmem _ (top_mem hne)

/-- The power goes: disks stay on. -/
theorem lays_on (L : List (AM.Wr × Nat)) : ∀ (C : List AM.Disk) (e : Nat), ((L.foldl AM.pickD C).getD e none).isSome = (C.getD e none).isSome ∧ (L.foldl AM.pickD C).length = C.length := by
  induction L with
  | nil => intro C e; exact ⟨rfl, rfl⟩
  | cons x L ih =>
    intro C e
    simp only [List.foldl_cons]
    obtain ⟨h1, h2⟩ := ih (AM.pickD C x) e
    rw [h1, h2]
    unfold AM.pickD
    split
    · exact ⟨AM.lay_on _ _ _ _ _, AM.lay_len _ _ _ _⟩
    · exact ⟨rfl, rfl⟩
theorem crash_kept (R : AM.Raw) (ps : List Nat) : Kept R (R.crash ps) ∧ (R.crash ps).off = false := by
  have hl : (R.crash ps).C.length = R.C.length := by
    show (AM.crashC R.C R.L ps).length = _
    unfold AM.crashC
    rw [(lays_on _ _ 0).2, AM.undoTo_len]
  refine ⟨⟨hl, rfl, fun d => ?_⟩, rfl⟩
  have e : ((R.crash ps).C.getD d.toNat none).isSome = (R.C.getD d.toNat none).isSome := by
    show ((AM.crashC R.C R.L ps).getD d.toNat none).isSome = _
    unfold AM.crashC
    rw [(lays_on _ _ _).1, AM.undo_on]
  unfold AM.Raw.on
  rw [hl, e]
theorem crash_none {R : AM.Raw} (h : R.L = []) (ps : List Nat) : (R.crash ps).C = R.C := by
  show AM.crashC R.C R.L ps = _
  unfold AM.crashC
  rw [h]
  simp [AM.undoTo]
theorem barrier_kept (R : AM.Raw) : Kept R R.barrier.2 ∧ R.barrier.2.C = R.C ∧ (R.barrier.1 ≠ 0 → R.barrier.2.L = R.L) ∧ (R.barrier.1 = 0 → R.barrier.2.L = [] ∧ R.barrier.2.off = false) ∧ R.barrier.2.L.length ≤ R.L.length := by
  have hb : R.burnt.C = R.C ∧ R.burnt.n = R.n ∧ R.burnt.L = R.L := AM.burnt_C R
  have hk := burnt_kept R
  unfold AM.Raw.barrier
  by_cases h0 : R.off = true
  · rw [if_pos h0]
    exact ⟨Kept.refl R, rfl, fun _ => rfl, fun h => by simp at h, Nat.le_refl _⟩
  · rw [if_neg h0]
    by_cases h1 : R.burns = true
    · rw [if_pos h1]
      exact ⟨hk, hb.1, fun _ => hb.2.2, fun h => by simp at h, by rw [hb.2.2]; exact Nat.le_refl _⟩
    · rw [if_neg h1]
      refine ⟨⟨hk.len, hk.n, hk.on⟩, hb.1, fun h => by simp at h, fun _ => ⟨rfl, ?_⟩, by simp⟩
      show R.burnt.off = false
      unfold AM.Raw.burnt
      split
      · simpa using h0
      · unfold AM.Raw.burns at h1
        simpa using h1

/-- The one segment is written, lasts; then the other. What a crash leaves. -/
theorem torn_main {R3 R5 : AM.Raw} {g : Geo} {m m' : Nat} {xs ys ps : List Nat} (ok : R3.Ok) (hg : g.Ok R3) (hL : R3.L = []) (hon : ∀ d, d < g.n → R3.on (d : Int) = true) (hW : Wrote R3 g 0 m xs) (hy : ∀ x ∈ ys, x < 256)
    (hk : Kept (write R3 g ((0 : Nat) : Int) m' ys).2 R5) (hC : R5.C = (write R3 g ((0 : Nat) : Int) m' ys).2.C) (h5L : R5.L = (write R3 g ((0 : Nat) : Int) m' ys).2.L) : Torn (R5.crash ps) g 0 m m' xs ys := by
  have hk4 := write_kept R3 g ((0 : Nat) : Int) m' ys
  have k6 := crash_kept R5 ps
  have kall := (hk4.trans hk).trans k6.1
  refine ⟨hg.kept kall, k6.2, by have := hg.s1; omega, fun d hd => by rw [kall.on]; exact hon d hd, fun d i hd hi => ?_⟩
  have new : Nat → Nat → List Nat := fun d i => (CM.secs m' ((code g ys).getD d []) 8).getD i []
  have M0 : Mid R3.C g 0 (fun d i => (CM.secs m' ((code g ys).getD d []) 8).getD i []) R3 := Mid.start ok hL g 0 _
  have M1 : Mid R3.C g 0 (fun d i => (CM.secs m' ((code g ys).getD d []) 8).getD i []) (write R3 g ((0 : Nat) : Int) m' ys).2 := by
    unfold write
    split
    · exact M0
    · split
      · exact M0
      · split
        · exact M0
        · rw [Int.toNat_natCast]
          exact M0.seg g.n (fun d i _ _ => rfl) (fun d i _ hi => code_small hy d i hi) g.n (Nat.le_refl _)
  have ok5 : ∀ d i, i < 8 → cont (R5.crash ps).C g 0 d i = cont R3.C g 0 d i ∨ cont (R5.crash ps).C g 0 d i = (CM.secs m' ((code g ys).getD d []) 8).getD i [] := by
    have e : (R5.crash ps).C = ((write R3 g ((0 : Nat) : Int) m' ys).2.crash ps).C := by
      show AM.crashC R5.C R5.L ps = AM.crashC _ _ ps
      rw [hC, h5L]
    rw [e]
    exact M1.crash ps
  rcases ok5 d i hi with h1 | h1
  · left
    rw [h1]
    exact hW d hd (hon d hd) i hi
  · exact .inr h1
end SP
end Go.Proofs.Ytfjlpifaaknmpaa

/- The states that StripeTorn comes through. No text of the program is named. -/
set_option linter.unusedSimpArgs false
set_option linter.unusedVariables false
set_option maxRecDepth 100000
namespace Go.Proofs.Ytfjlpifaaknmpaa
namespace SP

/-- Between two calls: all disks are on, nothing is in flight, the segment xs stands under m. -/
structure Calm (R : AM.Raw) (g : Geo) (m : Nat) (xs : List Nat) : Prop where
  ok : g.Ok R
  off : R.off = false
  L : R.L = []
  on : ∀ d, d < g.n → R.on (d : Int) = true
  wrote : Wrote R g 0 m xs
theorem on_all {N n : Nat} (h1 : 1 ≤ N) (h2 : N ≤ 255) (h3 : 1 ≤ n) (h4 : n ≤ 4096) {d : Nat} (hd : d < N) : (AM.Raw.new N n).on (d : Int) = true := by
  rw [(new_ok h1 h2 h3 h4).2]
  exact decide_eq_true hd
theorem torn_a {k m : Nat} {xs : List Nat} (h1 : 1 ≤ k) (h2 : k ≤ 5) (h3 : 1 ≤ m) (h4 : m ≤ 3) (hx : ∀ x ∈ xs, x < 256) (hl : xs.length = k * 448) (hL : ∀ R' : AM.Raw, ∀ (d k : Int) (b : List Nat), (R'.writes d k b).2.L.length ≤ R'.L.length + 1) :
    ∃ R1 R2, write (AM.Raw.new (k + m) (0 + 8 * 1)) ⟨k, k + m, 1, 0⟩ ((0 : Nat) : Int) 4 xs = (0, R1) ∧ Geo.Ok ⟨k, k + m, 1, 0⟩ R1 ∧ R1.L.length ≤ 64 ∧ R1.barrier = (0, R2) ∧ Calm R2 ⟨k, k + m, 1, 0⟩ 4 xs ∧ R2.fuse = 0 := by
  have hg : Geo.Ok ⟨k, k + m, 1, 0⟩ (AM.Raw.new (k + m) (0 + 8 * 1)) := new_geo (n := 0 + 8 * 1) rfl h1 (by omega) (by omega) (by omega) (by omega)
  have h0 := new_ok (N := k + m) (n := 0 + 8 * 1) (by omega) (by omega) (by omega) (by omega)
  have hons := new_ons (N := k + m) (n := 0 + 8 * 1) hg rfl (by omega) (by omega) (by omega) (by omega)
  have hon : ∀ d, d < k + m → (AM.Raw.new (k + m) (0 + 8 * 1)).on (d : Int) = true := fun d hd => on_all (by omega) (by omega) (by omega) (by omega) hd
  obtain ⟨a1, a2, a3, a4, a5⟩ := write_sure h0.1 hg (slot := 0) (m := 4) (by show 0 < 1; omega) rfl rfl (by decide) hx hl (by rw [hons]; show k ≤ k + m; omega)
  have hk := write_kept (AM.Raw.new (k + m) (0 + 8 * 1)) ⟨k, k + m, 1, 0⟩ ((0 : Nat) : Int) 4 xs
  have hll := write_len (R := AM.Raw.new (k + m) (0 + 8 * 1)) (g := ⟨k, k + m, 1, 0⟩) ((0 : Nat) : Int) 4 xs hL
  generalize hW : write (AM.Raw.new (k + m) (0 + 8 * 1)) ⟨k, k + m, 1, 0⟩ ((0 : Nat) : Int) 4 xs = W at *
  obtain ⟨c, R1⟩ := W
  simp only at a1 a2 a3 a4 a5 hk hll
  subst a1
  have hb : R1.barrier = (0, { R1.burnt with L := [] }) := by
    unfold AM.Raw.barrier
    rw [a3]
    simp [AM.Raw.burns, a4]
  have hbu : R1.burnt = R1 := by unfold AM.Raw.burnt; rw [if_pos a4]
  rw [hbu] at hb
  refine ⟨R1, { R1 with L := [] }, rfl, hg.kept hk, ?_, hb, ⟨hg.kept ⟨hk.len, hk.n, hk.on⟩, a3, rfl, fun d hd => (hk.on d).trans (hon d hd), a2⟩, a4⟩
  have e : (AM.Raw.new (k + m) (0 + 8 * 1)).L.length = 0 := rfl
  rw [e] at hll
  have : (8 : Nat) * (k + m) ≤ 64 := by omega
  exact Nat.le_trans hll (by simpa using this)
theorem Calm.fused {R : AM.Raw} {g : Geo} {m : Nat} {xs : List Nat} (h : Calm R g m xs) (n : Int) : Calm (R.fused n) g m xs := ⟨⟨h.ok.k1, h.ok.kn, h.ok.n255, h.ok.s1, h.ok.s2, h.ok.room, h.ok.len⟩, h.off, h.L, h.on, h.wrote⟩
/-- The second segment is written. -/
theorem Calm.second {R : AM.Raw} {g : Geo} {m m' : Nat} {xs ys : List Nat} (h : Calm R g m xs) (ok : R.Ok) (hy : ∀ y ∈ ys, y < 256) (hl : ys.length = g.k * 448) (hm' : m' ≠ 0) (hL : ∀ R' : AM.Raw, ∀ (d k : Int) (b : List Nat), (R'.writes d k b).2.L.length ≤ R'.L.length + 1) :
    ∃ c R4, write R g ((0 : Nat) : Int) m' ys = (c, R4) ∧ g.Ok R4 ∧ R4.L.length ≤ 8 * g.n ∧ (∀ ps, Torn (R4.crash ps) g 0 m m' xs ys) ∧ (R4.barrier.1 ≠ 0 → ∀ ps, Torn (R4.barrier.2.crash ps) g 0 m m' xs ys) ∧
      (c = 0 → R4.barrier.1 = 0 → ∀ ps, Wrote (R4.barrier.2.crash ps) g 0 m' ys) ∧ (R4.barrier.2.L.length ≤ 8 * g.n) ∧ g.Ok R4.barrier.2 ∧ (∀ ps, g.Ok (R4.barrier.2.crash ps)) ∧ (∀ d, d < g.n → ∀ ps, (R4.barrier.2.crash ps).on (d : Int) = true) := by
  have hk := write_kept R g ((0 : Nat) : Int) m' ys
  have hll := write_len (R := R) (g := g) ((0 : Nat) : Int) m' ys hL
  have hb := barrier_kept (write R g ((0 : Nat) : Int) m' ys).2
  rw [h.L] at hll
  simp only [List.length_nil, Nat.zero_add] at hll
  have kb := hk.trans hb.1
  refine ⟨(write R g ((0 : Nat) : Int) m' ys).1, (write R g ((0 : Nat) : Int) m' ys).2, rfl, h.ok.kept hk, hll, fun ps => torn_main ok h.ok h.L h.on h.wrote hy (Kept.refl _) rfl rfl, fun hc ps => torn_main ok h.ok h.L h.on h.wrote hy hb.1 hb.2.1 (hb.2.2.1 hc), fun hc h0 ps => ?_, Nat.le_trans hb.2.2.2.2 hll, h.ok.kept kb, fun ps => h.ok.kept (kb.trans (crash_kept _ ps).1), fun d hd ps => ((kb.trans (crash_kept _ ps).1).on d).trans (h.on d hd)⟩
  have hons : R.ons = g.n := by
    rw [← ons_filter h.ok]
    have e : (List.range g.n).filter (fun d : Nat => R.on (d : Int)) = List.range g.n := by
      rw [List.filter_eq_self]
      exact fun d hd => h.on d (List.mem_range.1 hd)
    rw [e, List.length_range]
  have e : write R g ((0 : Nat) : Int) m' ys = wrTo R g 0 m' (code g ys) g.n := by
    unfold write
    rw [if_neg (by rw [why_at h.off (by have := h.ok.s1; omega)]; omega), if_neg (by omega), if_neg (by rw [hons]; have := h.ok.kn; omega), Int.toNat_natCast]
  intro d hd hon i hi
  have eC : (((write R g ((0 : Nat) : Int) m' ys).2.barrier.2).crash ps).C = (write R g ((0 : Nat) : Int) m' ys).2.C := (crash_none (hb.2.2.2.1 h0).1 ps).trans hb.2.1
  rw [eC]
  rw [e] at hc ⊢
  rw [(wrTo_done ok (code_small hy) g.n hc).2 d i hi, if_pos ⟨hd, h.on d hd⟩]
end SP
end Go.Proofs.Ytfjlpifaaknmpaa
namespace Go.Proofs.Ytfjlpifaaknmpaa
theorem SP.rdp_few9 {R : AM.Raw} {g : SP.Geo} {slot : Nat} {m : Nat} {out : List Nat} {e : Nat} (h : SP.RdP R g (slot : Int) m out e) (hy : SP.why R g (slot : Int) = 0) (hm : m ≠ 0) (hh : (SP.hits R g slot m g.n).length < g.k) : e = 20 := by
  unfold SP.RdP at h
  rw [Int.toNat_natCast] at h
  rcases h with ⟨h, _⟩ | ⟨_, h, _⟩ | ⟨_, _, _, _, h⟩ | ⟨_, _, h, _⟩
  · exact absurd hy h
  · exact absurd h hm
  · exact h
  · omega
theorem SP.all_ons {R : AM.Raw} {g : SP.Geo} (hg : g.Ok R) (h : ∀ d : Nat, d < g.n → R.on (d : Int) = true) : R.ons = g.n := by
  rw [← SP.ons_filter hg]
  have e : (List.range g.n).filter (fun d : Nat => R.on (d : Int)) = List.range g.n := by
    rw [List.filter_eq_self]
    exact fun d hd => h d (List.mem_range.1 hd)
  rw [e, List.length_range]
end Go.Proofs.Ytfjlpifaaknmpaa

