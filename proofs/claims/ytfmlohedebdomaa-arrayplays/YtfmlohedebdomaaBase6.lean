/- Vectors beside an array (Aw), where an array's blocks lie (Base); what each call tells, for all inputs at once; bytes.Equal. -/
import Derived.Test.YtfmlohedebdomaaRpt6
import Derived.Test.YtfmlohedebdomaaLose6
import Derived.Test.YtfmlohedebdomaaNew6
set_option linter.unusedSimpArgs false
set_option linter.unusedVariables false
namespace Go.Proofs.Ytfmlohedebdomaa
open Go.RowKit

/-- The vector v reads as xs, and lies apart from F. -/
structure Aw (F : Nat → Prop) (w : World) (v : Value) (xs : List Nat) : Prop where
  vec : Vec w v xs
  off : xs ≠ [] → ∀ g, v.ownBlock = some g → ¬ F g
/-- The blocks F are new since w0, and nothing of w0 is other than it was. -/
structure Base (w0 : World) (F : Nat → Prop) (w : World) : Prop where
  grown : w0.grownBy w none
  lo : ∀ i, F i → w0.heap.size ≤ i

theorem Vec.block {w : World} {v : Value} {xs : List Nat} (h : Vec w v xs) (hx : xs ≠ []) {g : Nat} (hg : v.ownBlock = some g) : g < w.heap.size := by
  obtain ⟨p, cap, rfl, _, _, h5⟩ := h.form
  obtain ⟨b, off, rfl, hc⟩ := h5 hx
  obtain rfl : b = g := Option.some.inj hg
  have h0 : 0 < xs.length := List.length_pos_iff.2 hx
  exact World.block_lt_of_cell? w _ (hc 0 h0)
theorem Aw.step {F F' : Nat → Prop} {w w' : World} {v : Value} {xs : List Nat} (h : Aw F w v xs) (s : Step F w F' w') : Aw F' w' v xs :=
  ⟨h.vec.upd s.upd h.off, fun hx g hg hf => by
    rcases s.sub g hf with h1 | h1
    · exact h.off hx g hg h1
    · have := h.vec.block hx hg; omega⟩
theorem Aw.keep {F : Nat → Prop} {w w' : World} {v : Value} {xs : List Nat} (h : Aw F w v xs) (g : w.grownBy w' none) : Aw F w' v xs := h.step (Step.new g)
theorem Part.aw {F : Nat → Prop} {w w' : World} {v : Value} {xs : List Nat} (h : Part w.heap.size w' v xs) (hF : ∀ i, F i → i < w.heap.size) : Aw F w' v xs :=
  ⟨h.vec, fun _ g hg hf => by have h1 := (h.lt hg).1; have h2 := hF g hf; omega⟩
theorem Own.aw {F : Nat → Prop} {w w' : World} {v : Value} {xs : List Nat} (h : Own w.heap.size w' v xs) (hF : ∀ i, F i → i < w.heap.size) : Aw F w' v xs := h.part.aw hF
theorem Base.aw {w0 w : World} {F : Nat → Prop} {v : Value} {xs : List Nat} (h : Base w0 F w) (hv : Vec w0 v xs) : Aw F w v xs :=
  ⟨hv.keep h.grown, fun hx g hg hf => by have h1 := h.lo g hf; have h2 := hv.block hx hg; omega⟩
theorem Base.step {w0 w w' : World} {F F' : Nat → Prop} (h : Base w0 F w) (s : Step F w F' w') : Base w0 F' w' := by
  obtain ⟨h1, h2⟩ := s.low h.grown h.lo
  exact ⟨h1, h2⟩
theorem Base.keep {w0 w w' : World} {F : Nat → Prop} (h : Base w0 F w) (g : w.grownBy w' none) : Base w0 F w' := h.step (Step.new g)
theorem base_nil {w0 w : World} (g : w0.grownBy w none) : Base w0 (fun _ => False) w := ⟨g, fun _ h => h.elim⟩

/-- What a Read tells. -/
def AM.Raw.read (R : AM.Raw) (d k : Int) : List Nat := if R.reach d k = 0 then AM.look R.C d.toNat k.toNat else []

section
variable {F : Nat → Prop} {w : World} {a : Nat} {R : AM.Raw}

theorem read_any (h : Is F w a R) (d k : Int) : Calls Try.prog 15 #[ptr a, .int .i64 d, .int .i64 k] w fun e w' => ∃ p n c, e = .returned (.tuple #[.slice p n c, .int .i64 (R.reach d k : Int)]) ∧ Own w.heap.size w' (.slice p n c) (R.read d k) ∧ w.grownBy w' none := by
  by_cases hr : R.reach d k = 0
  · obtain ⟨_, h1, _, h2, _⟩ := AM.reach_zero hr
    obtain ⟨d', rfl⟩ : ∃ n : Nat, d = (n : Int) := ⟨d.toNat, by omega⟩
    obtain ⟨k', rfl⟩ : ∃ n : Nat, k = (n : Int) := ⟨k.toNat, by omega⟩
    refine (read_yes h hr).mono ?_
    rintro e w' ⟨p, rfl, h3, h4⟩
    refine ⟨p, 64, 64, by rw [hr]; rfl, ?_, h4⟩
    simp only [AM.Raw.read, if_pos hr, Int.toNat_natCast]
    exact h3
  · refine (read_no h hr).mono ?_
    rintro e w' ⟨rfl, rfl⟩
    refine ⟨none, 0, 0, rfl, ?_, World.grownBy.refl _ _⟩
    simp only [AM.Raw.read, if_neg hr]
    exact Own.nil _ _
theorem read_at (h : Is F w a R) {d k : Int} {c : Int} {xs : List Nat} (h1 : (R.reach d k : Int) = c) (h2 : R.read d k = xs) : Calls Try.prog 15 #[ptr a, .int .i64 d, .int .i64 k] w fun e w' => ∃ p n m, e = .returned (.tuple #[.slice p n m, .int .i64 c]) ∧ Aw F w' (.slice p n m) xs ∧ w.grownBy w' none := by
  refine (read_any h d k).mono ?_
  rintro e w' ⟨p, n, m, rfl, h3, h4⟩
  subst h1
  subst h2
  exact ⟨p, n, m, rfl, h3.aw h.lt, h4⟩
theorem write_at (h : Is F w a R) {d k : Int} {v : Value} {b : List Nat} (hv : Aw F w v b) (hL : R.L.length ≤ 1000000) {c : Int} {R' : AM.Raw} (h1 : ((R.writes d k b).1 : Int) = c) (h2 : (R.writes d k b).2 = R') :
    Calls Try.prog 13 #[ptr a, .int .i64 d, .int .i64 k, v] w fun e w' => e = .returned (.int .i64 c) ∧ ∃ F', Is F' w' a R' ∧ Step F w F' w' := by
  subst h1
  subst h2
  exact write_any h d k hv.vec hv.off hL
theorem crash_at (h : Is F w a R) (hL : R.L.length ≤ 1000000) {v : Value} {ps : List Nat} (hv : Aw F w v ps) {R' : AM.Raw} (h2 : R.crash ps = R') :
    Calls Try.prog 26 #[ptr a, v] w fun e w' => e = .returned (.tuple #[]) ∧ ∃ F', Is F' w' a R' ∧ Step F w F' w' := by
  subst h2
  refine (crash_yes h hL hv.vec hv.off).mono ?_
  rintro e w' ⟨rfl, h3, h4⟩
  exact ⟨rfl, F, h3, h4⟩
theorem lose_at (h : Is F w a R) {d : Int} (hL : R.L.length ≤ 1000000) {c : Int} {R' : AM.Raw} (h1 : ((R.lose d).1 : Int) = c) (h2 : (R.lose d).2 = R') :
    Calls Try.prog 20 #[ptr a, .int .i64 d] w fun e w' => e = .returned (.int .i64 c) ∧ ∃ F', Is F' w' a R' ∧ Step F w F' w' := by
  subst h1
  subst h2
  refine (lose_any h d hL).mono ?_
  rintro e w' ⟨rfl, h3, h4⟩
  exact ⟨rfl, F, h3, h4⟩
theorem replace_at (h : Is F w a R) {d : Int} {c : Int} {R' : AM.Raw} (h1 : ((R.replace d).1 : Int) = c) (h2 : (R.replace d).2 = R') :
    Calls Try.prog 22 #[ptr a, .int .i64 d] w fun e w' => e = .returned (.int .i64 c) ∧ ∃ F', Is F' w' a R' ∧ Step F w F' w' := by
  subst h1
  subst h2
  exact replace_any h d
theorem barrier_at (h : Is F w a R) {c : Int} {R' : AM.Raw} (h1 : (R.barrier.1 : Int) = c) (h2 : R.barrier.2 = R') :
    Calls Try.prog 18 #[ptr a] w fun e w' => e = .returned (.int .i64 c) ∧ ∃ F', Is F' w' a R' ∧ Step F w F' w' := by
  subst h1
  subst h2
  refine (barrier_yes h).mono ?_
  rintro e w' ⟨rfl, h3, h4⟩
  exact ⟨rfl, F, h3, h4⟩
theorem fuse_at (h : Is F w a R) {n : Int} (hn : n < 9223372036854775808) {R' : AM.Raw} (h2 : R.fused n = R') :
    Calls Try.prog 24 #[ptr a, .int .i64 n] w fun e w' => e = .returned (.tuple #[]) ∧ ∃ F', Is F' w' a R' ∧ Step F w F' w' := by
  subst h2
  refine (fuse_yes h hn).mono ?_
  rintro e w' ⟨rfl, h3, h4⟩
  exact ⟨rfl, F, h3, h4⟩
theorem full_at (hF : ∀ i, F i → i < w.heap.size) {x : Nat} (hx : x < 256) {c : Int} (hc : (x : Int) = c) : Calls Try.prog 29 #[.int .u8 c] w fun e w' => ∃ p, e = .returned (.slice p 64 64) ∧ Aw F w' (.slice p 64 64) (fl x) ∧ w.grownBy w' none := by
  subst hc
  refine (full_yes hx).mono ?_
  rintro e w' ⟨g, rfl, h1, h2⟩
  exact ⟨_, rfl, h1.aw hF, h2⟩
end

theorem new_at {w : World} {N n : Nat} (h1 : 1 ≤ N) (h2 : N ≤ 255) (h3 : 1 ≤ n) (h4 : n ≤ 4096) {c d : Int} (hc : (N : Int) = c) (hd : (n : Int) = d) :
    Calls Try.prog 10 #[.int .i64 c, .int .i64 d] w fun e w' => ∃ a, e = .returned (.tuple #[ptr a, .int .i64 0]) ∧ ∃ F, Is F w' a (AM.Raw.new N n) ∧ Base w F w' := by
  subst hc
  subst hd
  refine (new_yes h1 h2 h3 h4).mono ?_
  rintro e w' ⟨a, rfl, ⟨F, h5, h6⟩, h7⟩
  exact ⟨a, rfl, F, h5, h7, h6⟩

theorem equal_any {w : World} {a b : Value} {xs ys : List Nat} (ha : Vec w a xs) (hb : Vec w b ys) :
    Calls Try.prog 17 #[a, b] w fun e w' => e = .returned (.bool (decide (xs = ys))) ∧ w' = w := by
  have h1 := convert_vec ha
  have h2 := convert_vec hb
  have h3 := str_cmp ha.small hb.small
  go_enter Try.func17, Try.ntmps17
  go_wp2
  go_ret
  exact ⟨rfl, rfl⟩

end Go.Proofs.Ytfmlohedebdomaa
