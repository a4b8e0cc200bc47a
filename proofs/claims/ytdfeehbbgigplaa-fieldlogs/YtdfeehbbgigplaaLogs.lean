/- FieldLogs: for any two bytes A, B and any two ints M, N the call hayricklaw01.FieldLogs(Logs{A, B, M, N}) returns true, and nothing that was in memory turns.
   Conditions: none. -/
import Derived.Test.YtdfeehbbgigplaaRows
import Derived.Test.YtdfeehbbgigplaaAwake
import Derived.Test.YtdfeehbbgigplaaRefMath
import Derived.WalkKit
import Derived.ProofKit
import Derived.OpenShut
import Derived.Lib.SmallJoins
namespace Go.Proofs.Ytdfeehbbgigplaa.M

/-- The power of 2 to whatever exponent. -/
def pe (x : Int) : Nat := pw (x % 255).toNat
/-- The power of a number but 0 to whatever exponent. -/
def pp (a : Nat) (x : Int) : Nat := pw (lg a * (x % 255).toNat % 255)

theorem pe_lt (x : Int) : pe x < 256 := pw_lt _
theorem pp_lt (a : Nat) (x : Int) : pp a x < 256 := pw_lt _
theorem pp_pos (a : Nat) (x : Int) : 0 < pp a x := pw_pos _

theorem pe_add (x y : Int) : mul (pe x) (pe y) = pe (x + y) := by
  unfold pe
  rw [mul_pw, ← pw_mod]
  congr 1
  omega

theorem pe_255 (x : Int) : pe (x + 255) = pe x := by
  unfold pe
  congr 1
  omega

theorem pe_lg {a : Nat} (h0 : 0 < a) (h : a < 256) : pe (lg a : Int) = a := by
  unfold pe
  have := lg_lt a
  rw [show ((lg a : Int) % 255).toNat = lg a from by omega]
  exact pw_lg h0 h

theorem pp_eq (a : Nat) (x : Int) : pp a x = pw (lg a * (x % 255).toNat) := pw_mod _

theorem pp_add (a : Nat) (x y : Int) : mul (pp a x) (pp a y) = pp a (x + y) := by
  rw [pp_eq, pp_eq, pp_eq, mul_pw, ← Nat.mul_add, ← pw_mod, ← pw_mod (lg a * ((x + y) % 255).toNat)]
  congr 1
  rw [Nat.mul_mod, Nat.mul_mod (lg a) ((x + y) % 255).toNat]
  congr 2
  omega

theorem lg_pp (a : Nat) (x : Int) : lg (pp a x) = lg a * (x % 255).toNat % 255 := lg_pw (Nat.mod_lt _ (by decide))

theorem pp_pp (a : Nat) (x y : Int) : pp (pp a x) y = pp a (x * y) := by
  rw [pp_eq (pp a x), lg_pp, pp_eq a (x * y), ← pw_mod, ← pw_mod (lg a * ((x * y) % 255).toNat), Nat.mod_mul_mod, Nat.mul_assoc, Nat.mul_mod, Nat.mul_mod (lg a) ((x * y) % 255).toNat]
  have h1 : 0 ≤ x % 255 := by omega
  have h2 : 0 ≤ y % 255 := by omega
  have h3 : 0 ≤ (x * y) % 255 := by omega
  have e : (x % 255).toNat * (y % 255).toNat % 255 = (x * y % 255).toNat % 255 := by
    apply Int.natCast_inj.1
    rw [Int.natCast_emod, Int.natCast_mul, Int.toNat_of_nonneg h1, Int.toNat_of_nonneg h2, Int.natCast_emod, Int.toNat_of_nonneg h3]
    show (x % 255) * (y % 255) % 255 = x * y % 255 % 255
    rw [← Int.mul_emod, Int.emod_emod]
  rw [e]

end Go.Proofs.Ytdfeehbbgigplaa.M
namespace Go.Proofs.Ytdfeehbbgigplaa.fieldLogs
open Go.ChangeShapes Go.WideShapes Go.ChangeAt Go.RowKit Go.Joins
set_option linter.unusedVariables false

theorem own : ownKnob Try.prog.godebug = none := by kernel_rfl

theorem expE (x : Int) (w : World) : Calls Try.prog 18 #[.int .i64 x] w fun e w' => e = .returned (.int .u8 ((M.pe x : Nat) : Int)) ∧ Grown w w' := exp_any x w

theorem powP (x n : Int) (w : World) (h0 : 0 < x) (h1 : x < 256) :
    Calls Try.prog 20 #[.int .u8 x, .int .i64 n] w fun e w' => e = .returned (.int .u8 ((M.pp x.toNat n : Nat) : Int)) ∧ Grown w w' := by
  refine (pow_all x n w (by omega) h1).mono fun e w' ⟨h, k⟩ => ⟨?_, k⟩
  rw [h]
  refine ret_int ?_
  by_cases hn : n = 0
  · subst hn
    rfl
  · rw [if_neg hn, if_neg (by omega)]
    rfl

/-- The world behind the draw of the first statement: the argument's own block is new. -/
theorem boxed (w : World) (c : Array Value) (t : TypeId) (k : Nat) : Grown w ((w.alloc (.cells c t)).drewN k) := ((Grown.refl w).alloc _ _ : Grown w (w.alloc (.cells c t)))

theorem prod_le {p k : Int} (h1 : -1099511627776 < p) (h2 : p < 1099511627776) (h3 : -1000 < k) (h4 : k < 1000) : p * k ≤ 1099511627776000 := by
  have h : (p * k).natAbs ≤ 1099511627776 * 1000 := by rw [Int.natAbs_mul]; exact Nat.mul_le_mul (by omega) (by omega)
  omega
theorem prod_ge {p k : Int} (h1 : -1099511627776 < p) (h2 : p < 1099511627776) (h3 : -1000 < k) (h4 : k < 1000) : -1099511627776000 ≤ p * k := by
  have h : (p * k).natAbs ≤ 1099511627776 * 1000 := by rw [Int.natAbs_mul]; exact Nat.mul_le_mul (by omega) (by omega)
  omega

set_option maxHeartbeats 4000000 in
set_option maxRecDepth 100000 in
theorem logs00 (m n p q : Int) (w : World) (ep : m.tmod 1099511627776 = p) (hp1 : -1099511627776 < p) (hp2 : p < 1099511627776) (eq : n.tmod 1099511627776 = q) (hq1 : -1099511627776 < q) (hq2 : q < 1099511627776) :
    Calls Try.prog 6 #[.agg #[.int .u8 0, .int .u8 0, .int .i64 m, .int .i64 n]] w fun e w' => e = .returned (.bool true) ∧ Grown w w' := by
  have l1 := M.pe_lt p
  have l2 := M.pe_lt q
  have r1 := M.pe_add p q
  have r2 := M.pe_255 q
  go_enter Try.func6, Try.ntmps6
  go_wp2
  go_quiet (fail)
  have H0 : Hid (Grown w _) := boxed w #[.int .u8 0, .int .u8 0, .int .i64 m, .int .i64 n] 41 nq
  clear ep eq
  go_wp2_with (first
    | (go_at_call 12; refine (awake_any _).mono ?_; rintro e w1 ⟨rfl, hG⟩; have HG : Hid (Grown w w1) := grown_trans (Hid.out (by assumption)) hG; clear hG)
    | (go_at_call 16; refine (log_all _ _ (by omega) (by omega)).mono ?_; rintro e w1 ⟨rfl, hG⟩; have HG : Hid (Grown w w1) := grown_trans (Hid.out (by assumption)) hG; clear hG)
    | (go_at_call 18; refine (expE _ _).mono ?_; rintro e w1 ⟨rfl, hG⟩; have HG : Hid (Grown w w1) := grown_trans (Hid.out (by assumption)) hG; clear hG)
    | (go_at_call 20; refine (powP _ _ _ (by omega) (by omega)).mono ?_; rintro e w1 ⟨rfl, hG⟩; have HG : Hid (Grown w w1) := grown_trans (Hid.out (by assumption)) hG; clear hG)
    | (go_at_call 14; refine (mul_any _ _ _ (by omega) (by omega) (by omega) (by omega)).mono ?_; rintro e w1 ⟨rfl, hw⟩; obtain rfl := hw.symm; clear hw))
  go_ret
  exact ⟨rfl, by exact Hid.out (by assumption)⟩

set_option maxHeartbeats 8000000 in
set_option maxRecDepth 100000 in
theorem logs0b (b : Nat) (m n p q : Int) (w : World) (hb : b < 256) (hb0 : 0 < b) (ep : m.tmod 1099511627776 = p) (hp1 : -1099511627776 < p) (hp2 : p < 1099511627776) (eq : n.tmod 1099511627776 = q) (hq1 : -1099511627776 < q) (hq2 : q < 1099511627776) :
    Calls Try.prog 6 #[.agg #[.int .u8 0, .int .u8 (b : Int), .int .i64 m, .int .i64 n]] w fun e w' => e = .returned (.bool true) ∧ Grown w w' := by
  have l1 := M.pe_lt p
  have l2 := M.pe_lt q
  have r1 := M.pe_add p q
  have r2 := M.pe_255 q
  have xb1 : ¬ b = 0 := by omega
  have xb2 : ¬ (b : Int) = 0 := by omega
  have xb3 : (0 : Int) < (b : Int) := by omega
  go_enter Try.func6, Try.ntmps6
  go_wp2
  go_quiet (fail)
  have H0 : Hid (Grown w _) := boxed w #[.int .u8 0, .int .u8 (b : Int), .int .i64 m, .int .i64 n] 41 nq
  clear ep eq
  go_wp2_with (first
    | (go_at_call 12; refine (awake_any _).mono ?_; rintro e w1 ⟨rfl, hG⟩; have HG : Hid (Grown w w1) := grown_trans (Hid.out (by assumption)) hG; clear hG)
    | (go_at_call 16; refine (log_all _ _ (by omega) (by omega)).mono ?_; rintro e w1 ⟨rfl, hG⟩; have HG : Hid (Grown w w1) := grown_trans (Hid.out (by assumption)) hG; clear hG)
    | (go_at_call 18; refine (expE _ _).mono ?_; rintro e w1 ⟨rfl, hG⟩; have HG : Hid (Grown w w1) := grown_trans (Hid.out (by assumption)) hG; clear hG)
    | (go_at_call 20; refine (powP _ _ _ (by omega) (by omega)).mono ?_; rintro e w1 ⟨rfl, hG⟩; have HG : Hid (Grown w w1) := grown_trans (Hid.out (by assumption)) hG; clear hG)
    | (go_at_call 14; refine (mul_any _ _ _ (by omega) (by omega) (by omega) (by omega)).mono ?_; rintro e w1 ⟨rfl, hw⟩; obtain rfl := hw.symm; clear hw))
  go_ret
  exact ⟨rfl, by exact Hid.out (by assumption)⟩

set_option maxHeartbeats 8000000 in
set_option maxRecDepth 100000 in
theorem logsa0 (a : Nat) (m n p q : Int) (w : World) (ha : a < 256) (ha0 : 0 < a) (ep : m.tmod 1099511627776 = p) (hp1 : -1099511627776 < p) (hp2 : p < 1099511627776) (eq : n.tmod 1099511627776 = q) (hq1 : -1099511627776 < q) (hq2 : q < 1099511627776) :
    Calls Try.prog 6 #[.agg #[.int .u8 (a : Int), .int .u8 0, .int .i64 m, .int .i64 n]] w fun e w' => e = .returned (.bool true) ∧ Grown w w' := by
  have l1 := M.pe_lt p
  have l2 := M.pe_lt q
  have r1 := M.pe_add p q
  have r2 := M.pe_255 q
  have xa1 : ¬ a = 0 := by omega
  have xa2 : ¬ (a : Int) = 0 := by omega
  have xa3 : (0 : Int) < (a : Int) := by omega
  go_enter Try.func6, Try.ntmps6
  go_wp2
  go_quiet (fail)
  have H0 : Hid (Grown w _) := boxed w #[.int .u8 (a : Int), .int .u8 0, .int .i64 m, .int .i64 n] 41 nq
  clear ep eq
  go_wp2_with (first
    | (go_at_call 12; refine (awake_any _).mono ?_; rintro e w1 ⟨rfl, hG⟩; have HG : Hid (Grown w w1) := grown_trans (Hid.out (by assumption)) hG; clear hG)
    | (go_at_call 16; refine (log_all _ _ (by omega) (by omega)).mono ?_; rintro e w1 ⟨rfl, hG⟩; have HG : Hid (Grown w w1) := grown_trans (Hid.out (by assumption)) hG; clear hG)
    | (go_at_call 18; refine (expE _ _).mono ?_; rintro e w1 ⟨rfl, hG⟩; have HG : Hid (Grown w w1) := grown_trans (Hid.out (by assumption)) hG; clear hG)
    | (go_at_call 20; refine (powP _ _ _ (by omega) (by omega)).mono ?_; rintro e w1 ⟨rfl, hG⟩; have HG : Hid (Grown w w1) := grown_trans (Hid.out (by assumption)) hG; clear hG)
    | (go_at_call 14; refine (mul_any _ _ _ (by omega) (by omega) (by omega) (by omega)).mono ?_; rintro e w1 ⟨rfl, hw⟩; obtain rfl := hw.symm; clear hw))
  go_ret
  exact ⟨rfl, by exact Hid.out (by assumption)⟩

set_option maxHeartbeats 8000000 in
set_option maxRecDepth 100000 in
theorem logsEq (a : Nat) (m n p q : Int) (w : World) (ha : a < 256) (ha0 : 0 < a) (ep : m.tmod 1099511627776 = p) (hp1 : -1099511627776 < p) (hp2 : p < 1099511627776) (eq : n.tmod 1099511627776 = q) (hq1 : -1099511627776 < q) (hq2 : q < 1099511627776) :
    Calls Try.prog 6 #[.agg #[.int .u8 (a : Int), .int .u8 (a : Int), .int .i64 m, .int .i64 n]] w fun e w' => e = .returned (.bool true) ∧ Grown w w' := by
  have l1 := M.pe_lt p
  have l2 := M.pe_lt q
  have r1 := M.pe_add p q
  have r2 := M.pe_255 q
  have xa1 : ¬ a = 0 := by omega
  have xa2 : ¬ (a : Int) = 0 := by omega
  have xa3 : (0 : Int) < (a : Int) := by omega
  have k1 : ∃ k, q.tmod 1000 = k ∧ -1000 < k ∧ k < 1000 := ⟨_, rfl, Int.lt_tmod_of_pos q (by decide), Int.tmod_lt_of_pos q (by decide)⟩
  obtain ⟨k, ek, hk1, hk2⟩ := k1
  have b1 : p * k ≤ 1099511627776000 := prod_le hp1 hp2 hk1 hk2
  have b2 : -1099511627776000 ≤ p * k := prod_ge hp1 hp2 hk1 hk2
  have l3 := M.pp_lt a p
  have l4 := M.pp_pos a p
  have l5 := M.pp_lt a q
  have l6 := M.pp_pos a q
  have r3 := M.pp_add a p q
  have r4 := M.pp_pp a p k
  have r5 := M.pe_lg ha0 ha
  have g1 := M.lg_lt a
  have m1 := M.mul_lt a ha
  have m2 := M.mul_pos ha ha ha0 ha0
  have m3 : ¬ M.mul a a = 0 := by omega
  have m4 : ¬ ((M.mul a a : Nat) : Int) = 0 := by omega
  have r6 : ((M.lg (M.mul a a) : Nat) : Int) = ((M.lg a : Nat) + (M.lg a : Nat) : Int) % 255 := by rw [M.lg_mul ha ha ha0 ha0]; omega
  go_enter Try.func6, Try.ntmps6
  go_wp2
  go_quiet (fail)
  have H0 : Hid (Grown w _) := boxed w #[.int .u8 (a : Int), .int .u8 (a : Int), .int .i64 m, .int .i64 n] 41 nq
  clear ep eq
  go_wp2_with (first
    | (go_at_call 12; refine (awake_any _).mono ?_; rintro e w1 ⟨rfl, hG⟩; have HG : Hid (Grown w w1) := grown_trans (Hid.out (by assumption)) hG; clear hG)
    | (go_at_call 16; refine (log_all _ _ (by omega) (by omega)).mono ?_; rintro e w1 ⟨rfl, hG⟩; have HG : Hid (Grown w w1) := grown_trans (Hid.out (by assumption)) hG; clear hG)
    | (go_at_call 18; refine (expE _ _).mono ?_; rintro e w1 ⟨rfl, hG⟩; have HG : Hid (Grown w w1) := grown_trans (Hid.out (by assumption)) hG; clear hG)
    | (go_at_call 20; refine (powP _ _ _ (by omega) (by omega)).mono ?_; rintro e w1 ⟨rfl, hG⟩; have HG : Hid (Grown w w1) := grown_trans (Hid.out (by assumption)) hG; clear hG)
    | (go_at_call 14; refine (mul_any _ _ _ (by omega) (by omega) (by omega) (by omega)).mono ?_; rintro e w1 ⟨rfl, hw⟩; obtain rfl := hw.symm; clear hw))
  go_ret
  exact ⟨rfl, by exact Hid.out (by assumption)⟩

set_option maxHeartbeats 8000000 in
set_option maxRecDepth 100000 in
theorem logsNe (a b : Nat) (m n p q : Int) (w : World) (ha : a < 256) (ha0 : 0 < a) (hb : b < 256) (hb0 : 0 < b) (hne : a ≠ b) (ep : m.tmod 1099511627776 = p) (hp1 : -1099511627776 < p) (hp2 : p < 1099511627776) (eq : n.tmod 1099511627776 = q) (hq1 : -1099511627776 < q) (hq2 : q < 1099511627776) :
    Calls Try.prog 6 #[.agg #[.int .u8 (a : Int), .int .u8 (b : Int), .int .i64 m, .int .i64 n]] w fun e w' => e = .returned (.bool true) ∧ Grown w w' := by
  have l1 := M.pe_lt p
  have l2 := M.pe_lt q
  have r1 := M.pe_add p q
  have r2 := M.pe_255 q
  have xa1 : ¬ a = 0 := by omega
  have xa2 : ¬ (a : Int) = 0 := by omega
  have xa3 : (0 : Int) < (a : Int) := by omega
  have xb1 : ¬ b = 0 := by omega
  have xb2 : ¬ (b : Int) = 0 := by omega
  have xb3 : (0 : Int) < (b : Int) := by omega
  have k1 : ∃ k, q.tmod 1000 = k ∧ -1000 < k ∧ k < 1000 := ⟨_, rfl, Int.lt_tmod_of_pos q (by decide), Int.tmod_lt_of_pos q (by decide)⟩
  obtain ⟨k, ek, hk1, hk2⟩ := k1
  have b1 : p * k ≤ 1099511627776000 := prod_le hp1 hp2 hk1 hk2
  have b2 : -1099511627776000 ≤ p * k := prod_ge hp1 hp2 hk1 hk2
  have l3 := M.pp_lt a p
  have l4 := M.pp_pos a p
  have l5 := M.pp_lt a q
  have l6 := M.pp_pos a q
  have r3 := M.pp_add a p q
  have r4 := M.pp_pp a p k
  have r5 := M.pe_lg ha0 ha
  have g1 := M.lg_lt a
  have g2 := M.lg_lt b
  have m1 := M.mul_lt b ha
  have m2 := M.mul_pos ha hb ha0 hb0
  have m3 : ¬ M.mul a b = 0 := by omega
  have m4 : ¬ ((M.mul a b : Nat) : Int) = 0 := by omega
  have r6 : ((M.lg (M.mul a b) : Nat) : Int) = ((M.lg a : Nat) + (M.lg b : Nat) : Int) % 255 := by rw [M.lg_mul ha hb ha0 hb0]; omega
  have n1 : (((M.lg a : Nat) : Int) == ((M.lg b : Nat) : Int)) = false := by
    have : M.lg a ≠ M.lg b := fun e => hne (M.lg_inj ha hb ha0 hb0 e)
    simp; omega
  have n2 : ((a : Int) == (b : Int)) = false := by simp; omega
  clear hne
  go_enter Try.func6, Try.ntmps6
  go_wp2
  go_quiet (fail)
  have H0 : Hid (Grown w _) := boxed w #[.int .u8 (a : Int), .int .u8 (b : Int), .int .i64 m, .int .i64 n] 41 nq
  clear ep eq
  go_wp2_with (first
    | (go_at_call 12; refine (awake_any _).mono ?_; rintro e w1 ⟨rfl, hG⟩; have HG : Hid (Grown w w1) := grown_trans (Hid.out (by assumption)) hG; clear hG)
    | (go_at_call 16; refine (log_all _ _ (by omega) (by omega)).mono ?_; rintro e w1 ⟨rfl, hG⟩; have HG : Hid (Grown w w1) := grown_trans (Hid.out (by assumption)) hG; clear hG)
    | (go_at_call 18; refine (expE _ _).mono ?_; rintro e w1 ⟨rfl, hG⟩; have HG : Hid (Grown w w1) := grown_trans (Hid.out (by assumption)) hG; clear hG)
    | (go_at_call 20; refine (powP _ _ _ (by omega) (by omega)).mono ?_; rintro e w1 ⟨rfl, hG⟩; have HG : Hid (Grown w w1) := grown_trans (Hid.out (by assumption)) hG; clear hG)
    | (go_at_call 14; refine (mul_any _ _ _ (by omega) (by omega) (by omega) (by omega)).mono ?_; rintro e w1 ⟨rfl, hw⟩; obtain rfl := hw.symm; clear hw))
  go_ret
  exact ⟨rfl, by exact Hid.out (by assumption)⟩

theorem logs (a b : Nat) (m n : Int) (ha : a < 256) (hb : b < 256) (w : World) :
    Calls Try.prog 6 #[.agg #[.int .u8 (a : Int), .int .u8 (b : Int), .int .i64 m, .int .i64 n]] w fun e w' => e = .returned (.bool true) ∧ Grown w w' := by
  have p1 := Int.lt_tmod_of_pos m (b := 1099511627776) (by decide)
  have p2 := Int.tmod_lt_of_pos m (b := 1099511627776) (by decide)
  have q1 := Int.lt_tmod_of_pos n (b := 1099511627776) (by decide)
  have q2 := Int.tmod_lt_of_pos n (b := 1099511627776) (by decide)
  rcases Nat.eq_zero_or_pos a with rfl | ha0
  · rcases Nat.eq_zero_or_pos b with rfl | hb0
    · exact logs00 m n _ _ w rfl p1 p2 rfl q1 q2
    · exact logs0b b m n _ _ w hb hb0 rfl p1 p2 rfl q1 q2
  · rcases Nat.eq_zero_or_pos b with rfl | hb0
    · exact logsa0 a m n _ _ w ha ha0 rfl p1 p2 rfl q1 q2
    · by_cases h : a = b
      · subst h
        exact logsEq a m n _ _ w ha ha0 rfl p1 p2 rfl q1 q2
      · exact logsNe a b m n _ _ w ha ha0 hb hb0 h rfl p1 p2 rfl q1 q2

theorem cells41 : Try.prog.cellsOf 41 = 4 := by kernel_rfl

set_option maxRecDepth 100000 in
theorem lifted (os : Os) (started : os.Started) (H : Type) (enc : TypeId × Value → H) :
    ReturnsInHanded {} Try.checked os 6 .any (Rows.fieldLogsSpec.pre6 enc Try.prog Try.f6 Rows.fieldLogsRow.domain false) (Rows.fieldLogsSpec.post enc Try.prog Try.f6 false true false false) := by
  refine returnsInHanded_of_change (C := Try.checked) own started (by kernel_rfl) Try.func6
    (ChangeSpec.witness6 (enc := enc) (C := Try.checked) false ⟨#[], #[.agg #[.int .u8 0, .int .u8 0, .int .i64 0, .int .i64 0]], []⟩ 8 (by kernel_rfl) (by kernel_rfl) (by kernel_rfl) (by kernel_rfl)) ?_
  intro W base args ds gs before hval0 hW hcnd _
  have hval : ∀ (j : Nat) t v, Try.f6.params[j]? = some t → args[j]? = some v → Value.okWide Try.prog W .any base t v := hval0
  have hW' := hW
  obtain ⟨p, q, hA0, hV, rfl, hfz, hnd⟩ := hW
  have hA : DataW.TrodAll enc Try.prog W 0 (fun _ => true) true Try.f6.params.toList args.toList ds p := hA0
  rw [Try.params6] at hA hval
  obtain ⟨v0, d0, rfl, rfl, h0⟩ := trodAll_one hA
  obtain ⟨rfl, rfl⟩ := trodVars_none hV
  obtain ⟨c0, c1, c2, c3, y0, y1, y2, y3, k, rfl, rfl, rfl, hy0, hy1, hy2, hy3⟩ := open_agg4 Try.underlying41 (by kernel_rfl) cells41 (hval 0 41 v0 rfl rfl) h0
  obtain ⟨a0, e0, rfl, w0⟩ := DataW.trod_int Try.underlying5 hy0
  obtain ⟨a1, e1, rfl, w1⟩ := DataW.trod_int Try.underlying5 hy1
  obtain ⟨a2, e2, rfl, w2⟩ := DataW.trod_int Try.underlying3 hy2
  obtain ⟨a3, e3, rfl, w3⟩ := DataW.trod_int Try.underlying3 hy3
  simp at e0 e1 e2 e3
  subst e0 e1 e2 e3
  clear hA0 hval0
  simp only [List.append_nil] at hW'
  have structReads : ∀ (W' : World) (sp : Nat → Bool), DataW.Trod enc Try.prog W' 0 sp true 41 (.agg #[.int .u8 a0, .int .u8 a1, .int .i64 a2, .int .i64 a3]) (.agg [.lit (.int .u8 a0), .lit (.int .u8 a1), .lit (.int .i64 a2), .lit (.int .i64 a3)]) [] := fun W' sp =>
    shut_agg4 (y0 := (.lit (.int .u8 a0), [])) (y1 := (.lit (.int .u8 a1), [])) (y2 := (.lit (.int .i64 a2), [])) (y3 := (.lit (.int .i64 a3), [])) Try.underlying41 (by kernel_rfl) cells41
      ⟨1, by simp [DataW.trod, Try.underlying5, w0]⟩ ⟨1, by simp [DataW.trod, Try.underlying5, w1]⟩ ⟨1, by simp [DataW.trod, Try.underlying3, w2]⟩ ⟨1, by simp [DataW.trod, Try.underlying3, w3]⟩
  have b0 := bounds_u8 w0
  have b1 := bounds_u8 w1
  obtain ⟨a, rfl⟩ := Int.eq_ofNat_of_zero_le b0.1
  obtain ⟨b, rfl⟩ := Int.eq_ofNat_of_zero_le b1.1
  refine (logs a b a2 a3 (by omega) (by omega) W).mono fun e W' ⟨he, hg⟩ => ?_
  subst he
  exact ⟨_, rfl, post_of_same (pa := []) (pv := []) hW' (fun _ _ _ => (trodAll_cons_mk (shut_bool Try.underlying4 _) trodAll_mk0)) (fun sp _ => trodAll_mk1 (structReads _ sp)) (fun _ _ => rfl) rfl
    (hg.frame _) hg.2.1 (ok_one (by kernel_rfl) rfl (okWide_bool_mk Try.underlying4 _))⟩

theorem over : Rows.fieldLogsRow.holds Try.pinned (OpenSpec.ofChange Rows.fieldLogsSpec) :=
  OpenClaim.holds_of_wide 6 Try.f6 rfl rfl rfl rfl rfl rfl rfl ⟨rfl, rfl, rfl, rfl, rfl⟩ rfl rfl rfl rfl rfl (by kernel_rfl) Try.func6 (by kernel_rfl)
    (of_decide_eq_true (by kernel_rfl)) (by unfold Func.isWrapper; first | (rw [if_pos (by decide +kernel)]; kernel_rfl) | (rw [if_neg (by decide +kernel)]; exact ⟨rfl, rfl⟩))
    (fun os started H enc _ => lifted os started H enc)

end Go.Proofs.Ytdfeehbbgigplaa.fieldLogs

namespace Go.Proofs.Ytdfeehbbgigplaa
theorem fieldLogs_holds : Rows.FieldLogsSaid := fieldLogs.over
#print axioms fieldLogs_holds
end Go.Proofs.Ytdfeehbbgigplaa
