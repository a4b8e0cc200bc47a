/- Packed: PD8, PutHas8, Copy6, RRep6, Copy7. -/
import Derived.Deep.RegionHeld3
import Derived.BigRegion
import Derived.Test.YtfjlpifaaknmpaaGreatSk1
import Derived.Test.YtfjlpifaaknmpaaGreatSk2
import Derived.Test.YtfjlpifaaknmpaaGreatSk3
import Derived.Test.YtfjlpifaaknmpaaGreatSk4
import Derived.Test.YtfjlpifaaknmpaaGreatSk5
import Derived.Test.YtfjlpifaaknmpaaGreatSk6
import Derived.Test.YtfjlpifaaknmpaaGreatSk11
import Derived.Test.YtfjlpifaaknmpaaGreatSk14
import Derived.Test.YtfjlpifaaknmpaaGreatSk15
import Derived.Test.YtfjlpifaaknmpaaGreatSk16
import Derived.Test.YtfjlpifaaknmpaaGreatSk17
import Derived.Test.YtfjlpifaaknmpaaGreatSk18
import Derived.Test.YtfjlpifaaknmpaaGreatSk7
import Derived.Test.YtfjlpifaaknmpaaGreatSk8
import Derived.Test.YtfjlpifaaknmpaaGreatSk9
import Derived.Test.YtfjlpifaaknmpaaGreatSk10
import Derived.Test.YtfjlpifaaknmpaaGreatSk12
import Derived.Test.YtfjlpifaaknmpaaGreatSk13
/- What a Read makes of the chunks that it finds. -/
set_option linter.unusedSimpArgs false
set_option linter.unusedVariables false
set_option maxRecDepth 100000
namespace Go.Proofs.YtfjlpifaaknmpaaGreat
namespace SP

def ints (l : List Nat) : List Int := l.map Int.ofNat
theorem ints_len (l : List Nat) : (ints l).length = l.length := by simp [ints]
theorem ints_get (l : List Nat) {i : Nat} (h : i < l.length) : (ints l).getD i 0 = ((l.getD i 0 : Nat) : Int) := by simp [ints, List.getD, h]
theorem ints_app (l : List Nat) (x : Nat) : ints (l ++ [x]) = ints l ++ [(x : Int)] := by simp [ints]
theorem told_app (R : AM.Raw) (g : Geo) (slot : Nat) (l : List Nat) (x : Nat) : told R g slot (l ++ [x]) = told R g slot l ++ [datD R g slot x] := by simp [told]
theorem told_len (R : AM.Raw) (g : Geo) (slot : Nat) (l : List Nat) : (told R g slot l).length = l.length := by simp [told]
theorem told_get (R : AM.Raw) (g : Geo) (slot : Nat) (l : List Nat) {i : Nat} (h : i < l.length) : (told R g slot l).getD i [] = datD R g slot (l.getD i 0) := by simp [told, List.getD, h]

structure Pick (R : AM.Raw) (g : Geo) (slot : Nat) (l : List Nat) : Prop where
  pair : l.Pairwise (· < ·)
  mem : ∀ x ∈ l, x < g.n ∧ yesD R g slot x = true
theorem hits_pick (R : AM.Raw) (g : Geo) (slot m : Nat) : Pick R g slot (hits R g slot m g.n) := ⟨hits_pair R g slot m g.n, fun x hx => by
  obtain ⟨h1, h2⟩ := hits_mem hx
  unfold has at h2
  simp only [Bool.and_eq_true] at h2
  exact ⟨h1, h2.1⟩⟩
theorem found_pick (R : AM.Raw) (g : Geo) (slot m : Nat) : Pick R g slot (found R g slot m) :=
  ⟨(hits_pick R g slot m).pair.sublist (List.take_sublist _ _), fun x hx => (hits_pick R g slot m).mem x (List.mem_of_mem_take hx)⟩
theorem Pick.row {R : AM.Raw} {g : Geo} {slot : Nat} {l : List Nat} (h : Pick R g slot l) {j : Nat} (hj : j < l.length) : ((told R g slot l).getD j []).length = 448 := by
  rw [told_get R g slot l hj]
  have e : l.getD j 0 = l[j] := by simp [List.getD, hj]
  rw [e]
  exact dat_len (h.mem _ (List.getElem_mem hj)).2
theorem Pick.ok {R : AM.Raw} {g : Geo} {slot : Nat} {l : List Nat} (h : Pick R g slot l) (hg : g.Ok R) : decOK (g.k : Int) (g.n : Int) (ints l) (told R g slot l) := by
  refine ⟨mayI_iff.2 ⟨by have := hg.k1; omega, by have := hg.kn; omega, by have := hg.n255; omega⟩, by rw [ints_len, told_len], evenB_iff.2 fun j hj => ?_, fun i hi => ?_⟩
  · rw [told_len] at hj
    rw [h.row hj, h.row (by omega)]
  · rw [ints_len] at hi
    have e : l.getD i 0 = l[i] := by simp [List.getD, hi]
    have h1 := (h.mem _ (List.getElem_mem hi)).1
    rw [ints_get l hi, e]
    refine ⟨by omega, by simp; exact h1, fun i' hi' => ?_⟩
    rw [ints_get l (by omega), show l.getD i' 0 = l[i'] from by simp [List.getD, show i' < l.length from by omega]]
    have := List.pairwise_iff_getElem.1 h.pair i' i (by omega) hi hi'
    omega

theorem found_len {R : AM.Raw} {g : Geo} {slot m : Nat} (h : g.k ≤ (hits R g slot m g.n).length) : (found R g slot m).length = g.k := by simp [found]; omega
theorem found_get {R : AM.Raw} {g : Geo} {slot m i : Nat} (h : i < g.k) : (found R g slot m).getD i 0 = (hits R g slot m g.n).getD i 0 := by simp [found, List.getD, List.getElem?_take, h]

theorem DecP.yes {k n : Int} {ls : List Int} {X P : List (List Nat)} {a : Int} (h : DecP k n ls X P a) (ok : decOK k n ls X) (hk : k ≤ ls.length) : a = 0 ∧ Tells ls k.toNat (X.getD 0 []).length X P := by
  rcases h with ⟨h1, _, _⟩ | ⟨_, h2, _, _⟩ | ⟨_, _, h3, h4⟩
  · exact absurd ok h1
  · omega
  · exact ⟨h3, h4⟩
theorem DecR.yes {k n : Int} {ls : List Int} {X P : List (List Nat)} {a : Int} (h : DecR k n ls X P a) (ok : decOK k n ls X) (hk : k ≤ ls.length) : a = 0 ∧ Has ls k.toNat (X.getD 0 []).length X P := by
  rcases h with ⟨h1, _, _⟩ | ⟨_, h2, _, _⟩ | ⟨_, _, h3, h4⟩
  · exact absurd ok h1
  · omega
  · exact ⟨h3, h4⟩

/-- Both sides read the same. -/
theorem dec_both {R : AM.Raw} {g : Geo} {slot m : Nat} (hg : g.Ok R) (hk : g.k ≤ (hits R g slot m g.n).length) {P Q : List (List Nat)} {a b : Int}
    (h : DecP g.k g.n (ints (found R g slot m)) (told R g slot (found R g slot m)) P a) (h' : DecR g.k g.n (ints (hits R g slot m g.n)) (told R g slot (hits R g slot m g.n)) Q b) : a = 0 ∧ b = 0 ∧ Q = P := by
  have hl := found_len hk
  have k1 := hg.k1
  obtain ⟨rfl, ht⟩ := DecP.yes h ((found_pick R g slot m).ok hg) (by rw [ints_len, hl]; omega)
  obtain ⟨rfl, hs⟩ := DecR.yes h' ((hits_pick R g slot m).ok hg) (by rw [ints_len]; omega)
  refine ⟨rfl, rfl, ?_⟩
  have L1 : ((told R g slot (found R g slot m)).getD 0 []).length = 448 := (found_pick R g slot m).row (by omega)
  have L2 : ((told R g slot (hits R g slot m g.n)).getD 0 []).length = 448 := (hits_pick R g slot m).row (by omega)
  rw [L1] at ht
  rw [L2] at hs
  simp only [Int.toNat_natCast] at ht hs
  refine ht Q hs.1 hs.2.1 fun i t hi ht' => ?_
  have := hs.2.2 i t hi ht'
  rw [ints_get _ (by omega)] at this
  rw [ints_get _ (by omega), found_get hi, this]
  unfold at2
  rw [told_get _ _ _ _ (by omega), told_get _ _ _ _ (by omega), found_get hi]

theorem at2_codeRow {D : List (List Nat)} {k L i t : Nat} (h : t < L) : (codeRow D k L i).getD t 0 = codeAt D k i t := by simp [codeRow, List.getD, h]
/-- What is found are chunks of the code of D0: they tell D0. -/
theorem dec_is {R : AM.Raw} {g : Geo} {slot m : Nat} (hg : g.Ok R) (hk : g.k ≤ (hits R g slot m g.n).length) {P D0 : List (List Nat)} {a : Int}
    (h : DecP g.k g.n (ints (found R g slot m)) (told R g slot (found R g slot m)) P a) (hD : Shape D0 g.k 448) (hs : ∀ i j, at2 D0 i j < 256)
    (hc : ∀ d, d < g.n → has R g slot m d = true → datD R g slot d = codeRow D0 g.k 448 d) : a = 0 ∧ P = D0 := by
  have hl := found_len hk
  have k1 := hg.k1
  obtain ⟨rfl, ht⟩ := DecP.yes h ((found_pick R g slot m).ok hg) (by rw [ints_len, hl]; omega)
  refine ⟨rfl, ?_⟩
  have L1 : ((told R g slot (found R g slot m)).getD 0 []).length = 448 := (found_pick R g slot m).row (by omega)
  rw [L1] at ht
  simp only [Int.toNat_natCast] at ht
  refine (ht D0 hD hs fun i t hi ht' => ?_).symm
  rw [ints_get _ (by omega)]
  unfold at2
  rw [told_get _ _ _ _ (by omega)]
  have hil : i < (found R g slot m).length := by omega
  have e : (found R g slot m).getD i 0 = (found R g slot m)[i] := by simp [List.getD, hil]
  have hm : (found R g slot m)[i] ∈ hits R g slot m g.n := by
    have h1 : (found R g slot m)[i] ∈ found R g slot m := List.getElem_mem hil
    unfold found at h1
    exact List.mem_of_mem_take h1
  obtain ⟨h1, h2⟩ := hits_mem hm
  rw [e, hc _ h1 h2, at2_codeRow ht']
  rfl

/-- What the program's Read answers. -/
def RdP (R : AM.Raw) (g : Geo) (slot : Int) (m : Nat) (out : List Nat) (e : Nat) : Prop :=
  (why R g slot ≠ 0 ∧ out = [] ∧ e = why R g slot) ∨ (why R g slot = 0 ∧ m = 0 ∧ out = [] ∧ e = 1) ∨ (why R g slot = 0 ∧ m ≠ 0 ∧ (hits R g slot.toNat m g.n).length < g.k ∧ out = [] ∧ e = 20) ∨
  (why R g slot = 0 ∧ m ≠ 0 ∧ g.k ≤ (hits R g slot.toNat m g.n).length ∧ e = 0 ∧ ∃ P a, DecP g.k g.n (ints (found R g slot.toNat m)) (told R g slot.toNat (found R g slot.toNat m)) P a ∧ out = P.flatten)
/-- What the document's answers. -/
def RdR (R : AM.Raw) (g : Geo) (slot : Int) (m : Nat) (out : List Nat) (e : Nat) : Prop :=
  (why R g slot ≠ 0 ∧ out = [] ∧ e = why R g slot) ∨ (why R g slot = 0 ∧ m = 0 ∧ out = [] ∧ e = 1) ∨ (why R g slot = 0 ∧ m ≠ 0 ∧ (hits R g slot.toNat m g.n).length < g.k ∧ out = [] ∧ e = 20) ∨
  (why R g slot = 0 ∧ m ≠ 0 ∧ g.k ≤ (hits R g slot.toNat m g.n).length ∧ e = 0 ∧ ∃ P a, DecR g.k g.n (ints (hits R g slot.toNat m g.n)) (told R g slot.toNat (hits R g slot.toNat m g.n)) P a ∧ out = P.flatten)
theorem Rd.one {R : AM.Raw} {g : Geo} {slot : Int} {m : Nat} (hg : g.Ok R) {o o' : List Nat} {e e' : Nat} (h : RdP R g slot m o e) (h' : RdR R g slot m o' e') : o' = o ∧ e' = e := by
  rcases h with ⟨a1, rfl, rfl⟩ | ⟨a1, a2, rfl, rfl⟩ | ⟨a1, a2, a3, rfl, rfl⟩ | ⟨a1, a2, a3, rfl, P, a, hP, rfl⟩ <;>
  rcases h' with ⟨b1, rfl, rfl⟩ | ⟨b1, b2, rfl, rfl⟩ | ⟨b1, b2, b3, rfl, rfl⟩ | ⟨b1, b2, b3, rfl, Q, b, hQ, rfl⟩ <;> first
    | exact ⟨rfl, rfl⟩
    | (exfalso; omega)
    | (obtain ⟨_, _, rfl⟩ := dec_both hg a3 hP hQ; exact ⟨rfl, rfl⟩)

/-- A segment's data chunks. -/
def parts (xs : List Nat) (k : Nat) : List (List Nat) := (List.range k).map fun j => (xs.drop (448 * j)).take 448
theorem parts_len (xs : List Nat) (k : Nat) : (parts xs k).length = k := by simp [parts]
theorem parts_get (xs : List Nat) {k j : Nat} (h : j < k) : (parts xs k).getD j [] = (xs.drop (448 * j)).take 448 := by simp [parts, List.getD, h]
theorem parts_succ (xs : List Nat) (k : Nat) : parts xs (k + 1) = parts xs k ++ [(xs.drop (448 * k)).take 448] := by simp [parts, List.range_succ]
theorem parts_shape {xs : List Nat} {k : Nat} (h : xs.length = k * 448) : Shape (parts xs k) k 448 := ⟨parts_len xs k, fun j hj => by rw [parts_get xs hj]; simp; omega⟩
theorem parts_small {xs : List Nat} (h : ∀ x ∈ xs, x < 256) (k : Nat) : ∀ i j, at2 (parts xs k) i j < 256 := fun i j => by
  unfold at2
  by_cases hi : i < k
  · rw [parts_get xs hi]
    refine SM.getD_lt (fun x hx => h x (List.mem_of_mem_drop (List.mem_of_mem_take hx))) j
  · simp [parts, List.getD, hi]
theorem parts_flat (xs : List Nat) : ∀ k, (parts xs k).flatten = xs.take (448 * k)
  | 0 => by simp [parts]
  | k + 1 => by
    rw [parts_succ, List.flatten_append, parts_flat xs k]
    simp only [List.flatten_cons, List.flatten_nil, List.append_nil]
    rw [Nat.mul_add, Nat.mul_one, List.take_add]
theorem parts_all {xs : List Nat} {k : Nat} (h : xs.length = k * 448) : (parts xs k).flatten = xs := by
  rw [parts_flat]
  exact List.take_of_length_le (by omega)
theorem parts_fits {R : AM.Raw} {g : Geo} (hg : g.Ok R) {xs : List Nat} (h : xs.length = g.k * 448) : fitsB (g.k : Int) (g.n : Int) (parts xs g.k) = true := by
  have h1 := hg.k1
  have h2 := hg.kn
  have h3 := hg.n255
  have sh := parts_shape h
  refine fitsB_iff.2 ⟨⟨by omega, by omega, by omega⟩, by rw [parts_len], evenB_iff.2 fun j hj => ?_⟩
  rw [parts_len] at hj
  rw [sh.row j hj, sh.row 0 (by omega)]
/-- A segment's chunks. -/
def code (g : Geo) (xs : List Nat) : List (List Nat) := codeList (parts xs g.k) g.k g.n 448
theorem code_get (g : Geo) (xs : List Nat) {d : Nat} (h : d < g.n) : (code g xs).getD d [] = codeRow (parts xs g.k) g.k 448 d := by simp [code, codeList, List.getD, h]
theorem code_len (g : Geo) (xs : List Nat) : (code g xs).length = g.n := by simp [code, codeList]
theorem code_row (g : Geo) (xs : List Nat) {d : Nat} (h : d < g.n) : ((code g xs).getD d []).length = 448 := by rw [code_get g xs h]; simp [codeRow]

def write (R : AM.Raw) (g : Geo) (slot : Int) (m : Nat) (xs : List Nat) : Nat × AM.Raw :=
  if why R g slot ≠ 0 then (why R g slot, R) else if m = 0 ∨ xs.length ≠ g.k * 448 then (1, R) else if R.ons < g.k then (20, R) else wrTo R g slot.toNat m (code g xs) g.n
def put (R : AM.Raw) (g : Geo) (d slot : Int) (m : Nat) (part : List Nat) : Nat × AM.Raw :=
  if whyD R g d slot ≠ 0 then (whyD R g d slot, R) else if m = 0 ∨ part.length ≠ 448 then (1, R) else lays R g slot.toNat d.toNat m part
theorem write_kept (R : AM.Raw) (g : Geo) (slot : Int) (m : Nat) (xs : List Nat) : Kept R (write R g slot m xs).2 := by
  unfold write
  split
  · exact Kept.refl R
  · split
    · exact Kept.refl R
    · split
      · exact Kept.refl R
      · exact wrTo_kept _ _ _ _ _ _
end SP
end Go.Proofs.YtfjlpifaaknmpaaGreat

/- Contracts of stripe.Put and stripe.Has. -/
set_option linter.unusedSimpArgs false
set_option linter.unusedVariables false
set_option maxRecDepth 100000
namespace Go.Proofs.YtfjlpifaaknmpaaGreat
open Go.RowKit

def SP.hasE (R : AM.Raw) (g : SP.Geo) (d slot : Int) (m : Nat) : Nat := if SP.whyD R g d slot ≠ 0 then SP.whyD R g d slot else if m = 0 then 1 else 0
def SP.hasV (R : AM.Raw) (g : SP.Geo) (d slot : Int) (m : Nat) : Bool := decide (SP.hasE R g d slot m = 0) && (SP.yesD R g slot.toNat d.toNat && decide (SP.numD R g slot.toNat d.toNat = m))
section
variable {F F' : Nat → Prop} {w w' : World} {s a : Nat} {g : SP.Geo} {R R' : AM.Raw}
theorem sreachD_at (h : SI F w s a g R) {d slot c : Int} (hc : (SP.whyD R g d slot : Int) = c) : Calls Tryz.prog 63 #[ptr s, .int .i64 d, .int .i64 slot] w fun e w' => e = .returned (.int .i64 c) ∧ w' = w := by
  subst hc; exact sreachD_yes h d slot
theorem shas_all (h : SI F w s a g R) (d slot : Int) (m : Nat) :
    Calls Tryz.prog 19 #[ptr s, .int .i64 d, .int .i64 slot, .int .u64 (m : Int)] w fun e w' => e = .returned (.tuple #[.bool (SP.hasV R g d slot m), .int .i64 (SP.hasE R g d slot m : Int)]) ∧ w.grownBy w' none := by
  by_cases hy : SP.whyD R g d slot = 0
  · by_cases hm : m = 0
    · have e1 : SP.hasE R g d slot m = 1 := by unfold SP.hasE; rw [if_neg (by omega), if_pos hm]
      have e2 : SP.hasV R g d slot m = false := by unfold SP.hasV; rw [e1]; rfl
      rw [e1, e2]
      subst hm
      have HR : Hid (Calls Tryz.prog 63 #[ptr s, .int .i64 d, .int .i64 slot] w fun e w'' => e = .returned (.int .i64 0) ∧ w'' = w) := sreachD_at h (by rw [hy]; rfl)
      clear h hy e1 e2
      go_enter Tryz.func19, Tryz.ntmps19
      go_wp2_with (go_at_call 63; refine HR.out.mono ?_; rintro e w9 ⟨rfl, hw9⟩; obtain rfl := hw9.symm; clear hw9)
      go_ret2
      exact ⟨rfl, World.grownBy.refl _ _⟩
    · have e1 : SP.hasE R g d slot m = 0 := by unfold SP.hasE; rw [if_neg (by omega), if_neg hm]
      obtain ⟨y1, y2, y3⟩ := SP.whyD_zero hy
      obtain ⟨y4, y5, y6⟩ := SP.why_zero y1
      have e2 : SP.hasV R g d slot m = (CM.yes (SP.sects R g slot.toNat d.toNat) && decide (CM.tN (SP.sects R g slot.toNat d.toNat) = m)) := by unfold SP.hasV SP.yesD SP.numD; rw [e1]; simp
      obtain ⟨d', rfl⟩ : ∃ n : Nat, d = (n : Int) := ⟨d.toNat, by omega⟩
      obtain ⟨sl, rfl⟩ : ∃ n : Nat, slot = (n : Int) := ⟨slot.toNat, by omega⟩
      rw [Int.toNat_natCast, Int.toNat_natCast] at e2
      have HR : Hid (Calls Tryz.prog 63 #[ptr s, .int .i64 (d' : Int), .int .i64 (sl : Int)] w fun e w'' => e = .returned (.int .i64 0) ∧ w'' = w) := sreachD_at h (by rw [hy]; rfl)
      have SEC : Hid (Calls Tryz.prog 65 #[ptr s, .int .i64 (d' : Int), .int .i64 (sl : Int)] w fun e w' => ∃ v us, e = .returned v ∧ Mat w' v us (SP.sects R g sl d') ∧ w.grownBy w' none) := ssectors_any h y4 (by omega) (by omega)
      have hne : ((m : Int) == 0) = false := eqb_no (b := 0) hm
      rw [e1, e2]
      clear h hy e1 e2 y1 y2 y3 y4 y5 y6 hm
      generalize SP.sects R g sl d' = X at *
      go_enter Tryz.func19, Tryz.ntmps19
      go_wp2_with (first
        | (go_at_call 63; refine HR.out.mono ?_; rintro e w9 ⟨rfl, hw9⟩; obtain rfl := hw9.symm; clear hw9)
        | (go_at_call 65; refine SEC.out.mono ?_; rintro e w1 ⟨v, us, rfl, m1, g1⟩; have M1 : Hid (Mat w1 v us X) := m1; have G1 : Hid (w.grownBy w1 none) := g1; clear m1 g1)
        | (go_at_call 64; refine (whole_any m M1.out).mono ?_; rintro e w2 ⟨rfl, g2⟩; have G2 : Hid (w.grownBy w2 none) := grown_trans G1.out g2; clear g2))
      go_ret2
      exact ⟨rfl, G2.out⟩
  · have e1 : SP.hasE R g d slot m = SP.whyD R g d slot := by unfold SP.hasE; rw [if_pos hy]
    have e2 : SP.hasV R g d slot m = false := by unfold SP.hasV; rw [e1, decide_eq_false hy]; rfl
    rw [e1, e2]
    obtain ⟨y, hy1⟩ : ∃ y, y = SP.whyD R g d slot := ⟨_, rfl⟩
    have HR : Hid (Calls Tryz.prog 63 #[ptr s, .int .i64 d, .int .i64 slot] w fun e w'' => e = .returned (.int .i64 (y : Int)) ∧ w'' = w) := sreachD_at h (by rw [hy1])
    rw [← hy1] at hy ⊢
    have hne : ((y : Int) != 0) = true := neb_yes (b := 0) hy
    clear h hy hy1 e1 e2
    go_enter Tryz.func19, Tryz.ntmps19
    go_wp2_with (go_at_call 63; refine HR.out.mono ?_; rintro e w9 ⟨rfl, hw9⟩; obtain rfl := hw9.symm; clear hw9)
    go_ret2
    exact ⟨rfl, World.grownBy.refl _ _⟩

theorem lays_off {slot d m : Nat} {part : List Nat} (hg : g.Ok R) (h0 : R.off = false) (hs : slot < g.s) (hd : d < g.n) (ho : R.on (d : Int) = false) : SP.lays R g slot d m part = (9, R) := by
  have hr := SP.reach_on hg h0 (i := 0) hs (by omega) hd
  rw [ho] at hr
  have e1 : SP.layTo R g slot d (CM.secs m part 8) 1 = (9, R) := by
    rw [SP.layTo_succ rfl]
    show AM.Raw.writes R _ _ _ = _
    unfold AM.Raw.writes
    rw [if_pos (by rw [hr]; decide), hr]
    rfl
  unfold SP.lays
  rw [SP.layTo_stop (j := 1) (by rw [e1]; show (9 : Nat) ≠ 0; omega) 8 (by omega), e1]

set_option maxHeartbeats 1600000 in
/-- What Put does, whatever is asked. -/
theorem sput_all (h : SI F w s a g R) (d slot : Int) (m : Nat) {v : Value} {xs : List Nat} (hv : Vec w v xs) (hL : R.L.length ≤ 990000) :
    Calls Tryz.prog 17 #[ptr s, .int .i64 d, .int .i64 slot, .int .u64 (m : Int), v] w fun e w' => e = .returned (.int .i64 ((SP.put R g d slot m xs).1 : Int)) ∧ ∃ F', SI F' w' s a g (SP.put R g d slot m xs).2 ∧ Step F w F' w' := by
  obtain ⟨q, N, cap, rfl, hN⟩ := hv.opened
  unfold SP.put
  by_cases hy : SP.whyD R g d slot = 0
  · have HR : Hid (Calls Tryz.prog 63 #[ptr s, .int .i64 d, .int .i64 slot] w fun e w'' => e = .returned (.int .i64 0) ∧ w'' = w) := sreachD_at h (by rw [hy]; rfl)
    rw [if_neg (by omega)]
    by_cases ha : m = 0 ∨ xs.length ≠ 448
    · rw [if_pos ha]
      have H : Hid (SI F w s a g R) := h
      by_cases hm : m = 0
      · subst hm
        clear h hy ha hv hN
        go_enter Tryz.func17, Tryz.ntmps17
        go_wp2_with (go_at_call 63; refine HR.out.mono ?_; rintro e w9 ⟨rfl, hw9⟩; obtain rfl := hw9.symm; clear hw9)
        go_ret
        exact ⟨rfl, F, H.out, Step.refl _ _⟩
      · have i1 : ((m : Int) == 0) = false := eqb_no (b := 0) hm
        have i2 : ((N : Int) != 448) = true := neb_yes (b := 448) (by rcases ha with h' | h' <;> omega)
        clear h hy ha hv hN
        go_enter Tryz.func17, Tryz.ntmps17
        go_wp2_with (go_at_call 63; refine HR.out.mono ?_; rintro e w9 ⟨rfl, hw9⟩; obtain rfl := hw9.symm; clear hw9)
        go_ret
        exact ⟨rfl, F, H.out, Step.refl _ _⟩
    · rw [if_neg ha]
      have i1 : ((m : Int) == 0) = false := eqb_no (b := 0) (by omega)
      have i2 : ((N : Int) != 448) = false := neb_no (b := 448) (by omega)
      obtain ⟨y1, y2, y3⟩ := SP.whyD_zero hy
      obtain ⟨y4, y5, y6⟩ := SP.why_zero y1
      obtain ⟨d', rfl⟩ : ∃ n : Nat, d = (n : Int) := ⟨d.toNat, by omega⟩
      obtain ⟨sl, rfl⟩ : ∃ n : Nat, slot = (n : Int) := ⟨slot.toNat, by omega⟩
      rw [Int.toNat_natCast, Int.toNat_natCast]
      have c0 := h.at1
      obtain ⟨o, ho⟩ : ∃ o, o = R.on (d' : Int) := ⟨_, rfl⟩
      have ON : Hid (Calls Tryz.prog 48 #[ptr a, .int .i64 (d' : Int)] w fun e w' => e = .returned (.bool o) ∧ w' = w) := by rw [ho]; exact on_yes h.i (d' : Int)
      cases o
      · rw [lays_off h.ok y4 (by omega) (by omega) ho.symm]
        have H : Hid (SI F w s a g R) := h
        clear h hy ha hv hN y1 y2 y3 y4 y5 y6 ho
        go_enter Tryz.func17, Tryz.ntmps17
        go_wp2_with (first
          | (go_at_call 63; refine HR.out.mono ?_; rintro e w9 ⟨rfl, hw9⟩; obtain rfl := hw9.symm; clear hw9)
          | (go_at_call 48; refine ON.out.mono ?_; rintro e w9 ⟨rfl, hw9⟩; obtain rfl := hw9.symm; clear hw9))
        go_ret
        exact ⟨rfl, F, H.out, Step.refl _ _⟩
      · obtain ⟨c, hc⟩ : ∃ c, c = (SP.lays R g sl d' m xs).1 := ⟨_, rfl⟩
        have LA : Hid (Calls Tryz.prog 49 #[ptr s, .int .i64 (d' : Int), .int .i64 (sl : Int), .int .u64 (m : Int), .slice q N cap] w fun e w' => e = .returned (.int .i64 (c : Int)) ∧ ∃ F', SI F' w' s a g (SP.lays R g sl d' m xs).2 ∧ Step F w F' w') := by
          rw [hc]
          exact slay_any h (by omega) hv (by omega) (by omega) (by omega)
        rw [← hc]
        clear h hy ha hv hN y1 y2 y3 y4 y5 y6 ho hc
        go_enter Tryz.func17, Tryz.ntmps17
        go_wp2_with (first
          | (go_at_call 63; refine HR.out.mono ?_; rintro e w9 ⟨rfl, hw9⟩; obtain rfl := hw9.symm; clear hw9)
          | (go_at_call 48; refine ON.out.mono ?_; rintro e w9 ⟨rfl, hw9⟩; obtain rfl := hw9.symm; clear hw9)
          | (go_at_call 49; refine LA.out.mono ?_; rintro e w4 ⟨rfl, F4, i4', st4⟩; have I4 : Hid (SI F4 w4 s a g (SP.lays R g sl d' m xs).2) := i4'; have T4 : Hid (Step F w F4 w4) := st4; clear i4' st4))
        go_ret
        exact ⟨rfl, F4, I4.out, T4.out⟩
  · rw [if_pos hy]
    obtain ⟨y, hy1⟩ : ∃ y, y = SP.whyD R g d slot := ⟨_, rfl⟩
    have HR : Hid (Calls Tryz.prog 63 #[ptr s, .int .i64 d, .int .i64 slot] w fun e w'' => e = .returned (.int .i64 (y : Int)) ∧ w'' = w) := sreachD_at h (by rw [hy1])
    have H : Hid (SI F w s a g R) := h
    rw [← hy1] at hy ⊢
    have hne : ((y : Int) != 0) = true := neb_yes (b := 0) hy
    clear h hy hy1 hv hN
    go_enter Tryz.func17, Tryz.ntmps17
    go_wp2_with (go_at_call 63; refine HR.out.mono ?_; rintro e w9 ⟨rfl, hw9⟩; obtain rfl := hw9.symm; clear hw9)
    go_ret
    exact ⟨rfl, F, H.out, Step.refl _ _⟩
end
end Go.Proofs.YtfjlpifaaknmpaaGreat

/- The contracts of slices.Clone at drives and at writes. -/
set_option linter.unusedSimpArgs false
set_option linter.unusedVariables false
set_option maxRecDepth 100000
namespace Go.Proofs.YtfjlpifaaknmpaaGreat
open Go.RowKit

theorem run_append_rows {w : World} {B : Nat} {t ty e : TypeId} {z : Value} {size bytes : Nat} (hu : Tryz.prog.underlying t = some (.slice e)) (hinfo : (Tryz.prog.info? e).map (fun i => (i.zero, i.size, i.bytes)) = some (some z, size, bytes)) (hzs : z.cells.size = size) (hsz : 0 < size)
    {v : Value} {n : Nat} {xs : List Value} (hown : w.ownsRow B e size v n xs) {a : Addr} {m c : Nat} {news : List Value} (hl : news.length = m * size) (hnews : ∀ j u, news[j]? = some u → w.cell? (a.add j) = some u) (h1 : ∀ u ∈ news, u.oneCell' = true)
    (h63 : n + m ≤ maxLen) (hbytes : (n + m) * bytes ≤ 140737488355328) (hB : B ≤ w.heap.size) :
    ∃ v' w', (Builtin.append_ #[t, t] ty #[v, .slice (some a) m c]).run Tryz.prog w = .ok v' w' ∧ w'.ownsRow B e size v' (n + m) (xs ++ news) ∧ w.grownBy w' v.ownBlock := by
  obtain ⟨i, hi, hz0, hz1, hz2⟩ := info_parts hinfo
  obtain ⟨v', w', hr, h2, h3, _⟩ := run_append_own (P := Tryz.prog) w B t ty e i z size bytes hu hi hz0 hz1 hz2 hzs hsz v n xs hown a m c news hl hnews h1 h63 hbytes hB
  exact ⟨v', w', hr, h2, h3⟩
theorem rows_slice {w : World} {B e size n : Nat} {v : Value} {xs : List Value} (h : w.ownsRow B e size v n xs) : ∃ p c, v = .slice p n c := by
  rcases h.2 with ⟨rfl, hn⟩ | ⟨g, cap, cur, rfl, _⟩
  · subst hn; exact ⟨_, _, rfl⟩
  · exact ⟨_, _, rfl⟩

end Go.Proofs.YtfjlpifaaknmpaaGreat

/- The document's own array of disks in memory (RL, RIs). -/
set_option linter.unusedSimpArgs false
set_option linter.unusedVariables false
set_option maxRecDepth 100000
namespace Go.Proofs.YtfjlpifaaknmpaaGreat
open Go.RowKit

namespace AM
structure Fl where
  d : Nat
  k : Nat
  b : List Nat
/-- The document's array: disks (none: gone) of sectors, what is in flight, the fuse, the power. -/
structure RA where
  D : List (Option (List (List Nat)))
  n : Nat
  L : List Fl
  left : Nat
  dark : Bool
end AM

/-- The cells of its disks, of its flights. -/
def drow (ds : List Value) (D : List (Option (List (List Nat)))) : List Value := (ds.zip D).flatMap (fun x => [x.1, .bool x.2.isNone])
def frow (fs : List Value) (L : List AM.Fl) : List Value := (fs.zip L).flatMap (fun x => [.int .i64 (x.2.d : Int), .int .i64 (x.2.k : Int), x.1])

structure RL (G : Nat → Prop) (w : World) (r : Nat) (dp : Option Addr) (dc : Nat) (ds : List Value) (lp : Option Addr) (lc : Nat) (fs : List Value) (A : AM.RA) : Prop where
  lt : ∀ i, G i → i < w.heap.size
  top : w.heap[r]? = some (.cells #[.slice dp A.D.length dc, .int .i64 (A.n : Int), .slice lp A.L.length lc, .int .i64 (A.left : Int), .bool A.dark] 131 (0, 0))
  dsk : w.ownsRow 0 133 2 (.slice dp A.D.length dc) A.D.length (drow ds A.D)
  dlen : ds.length = A.D.length
  sec : ∀ (i : Nat) (v : Value), ds[i]? = some v → (A.D[i]? = some none ∧ v = .slice none 0 0) ∨ ∃ (ss : List (List Nat)) (vs : List Value), A.D[i]? = some (some ss) ∧ w.ownsRow 0 40 1 v A.n vs ∧ ss.length = A.n ∧ ∀ (k : Nat) (u : Value) (b : List Nat), vs[k]? = some u → ss[k]? = some b → Own 0 w u b ∧ ∀ g, u.ownBlock = some g → G g
  fly : w.ownsRow 0 135 3 (.slice lp A.L.length lc) A.L.length (frow fs A.L)
  flen : fs.length = A.L.length
  fv : ∀ (i : Nat) (u : Value) (x : AM.Fl), fs[i]? = some u → A.L[i]? = some x → Own 0 w u x.b ∧ ∀ g, u.ownBlock = some g → G g
  Gr : G r
  Gd : ∀ g, (Value.slice dp A.D.length dc).ownBlock = some g → G g
  Gs : ∀ (i : Nat) (v : Value), ds[i]? = some v → ∀ g, v.ownBlock = some g → G g
  Gl : ∀ g, (Value.slice lp A.L.length lc).ownBlock = some g → G g
  ap : ∀ (i j : Nat) (u v : Value), ds[i]? = some u → ds[j]? = some v → ∀ g, u.ownBlock = some g → v.ownBlock = some g → i = j
  left : A.left < 9223372036854775808
  n2 : A.n ≤ 4096
  d2 : A.D.length ≤ 255

def RIs (G : Nat → Prop) (w : World) (r : Nat) (A : AM.RA) : Prop := ∃ dp dc ds lp lc fs, RL G w r dp dc ds lp lc fs A

section
variable {G : Nat → Prop} {w : World} {r : Nat} {dp : Option Addr} {dc : Nat} {ds : List Value} {lp : Option Addr} {lc : Nat} {fs : List Value} {A : AM.RA}
theorem RL.is (h : RL G w r dp dc ds lp lc fs A) : RIs G w r A := ⟨dp, dc, ds, lp, lc, fs, h⟩
theorem Own.same0 {w w' : World} {u : Value} {b : List Nat} (h : Own 0 w u b) (hb : ∀ g, u.ownBlock = some g → w'.heap[g]? = w.heap[g]?) : Own 0 w' u b := ⟨h.small, h.len, ownsRow_same h.row hb⟩

/-- Blocks of other types turned: the parts that are of the types that did not. -/
theorem RL.sec_same (h : RL G w r dp dc ds lp lc fs A) {w' : World} (hS : ∀ g c, G g → w.heap[g]? = some (.cells c 40 (0, 0)) → w'.heap[g]? = w.heap[g]?) (hB : ∀ g c, G g → w.heap[g]? = some (.cells c 5 (0, 0)) → w'.heap[g]? = w.heap[g]?) :
    ∀ (i : Nat) (v : Value), ds[i]? = some v → (A.D[i]? = some none ∧ v = .slice none 0 0) ∨ ∃ (ss : List (List Nat)) (vs : List Value), A.D[i]? = some (some ss) ∧ w'.ownsRow 0 40 1 v A.n vs ∧ ss.length = A.n ∧ ∀ (k : Nat) (u : Value) (b : List Nat), vs[k]? = some u → ss[k]? = some b → Own 0 w' u b ∧ ∀ g, u.ownBlock = some g → G g := fun i v hv => by
  rcases h.sec i v hv with h1 | ⟨ss, vs, h1, h2, h3, h4⟩
  · exact .inl h1
  · refine .inr ⟨ss, vs, h1, ownsRow_same h2 (fun g hg => ?_), h3, fun k u b hu hb => ⟨(h4 k u b hu hb).1.same0 (fun g hg => ?_), (h4 k u b hu hb).2⟩⟩
    · obtain ⟨c, hc⟩ := rowBlock h2 hg
      exact hS g c (h.Gs i v hv g hg) hc
    · obtain ⟨c, hc⟩ := rowBlock (h4 k u b hu hb).1.row hg
      exact hB g c ((h4 k u b hu hb).2 g hg) hc
theorem RL.fv_same (h : RL G w r dp dc ds lp lc fs A) {w' : World} (hB : ∀ g c, G g → w.heap[g]? = some (.cells c 5 (0, 0)) → w'.heap[g]? = w.heap[g]?) :
    ∀ (i : Nat) (u : Value) (x : AM.Fl), fs[i]? = some u → A.L[i]? = some x → Own 0 w' u x.b ∧ ∀ g, u.ownBlock = some g → G g := fun i u x hu hx => ⟨(h.fv i u x hu hx).1.same0 (fun g hg => by
    obtain ⟨c, hc⟩ := rowBlock (h.fv i u x hu hx).1.row hg
    exact hB g c ((h.fv i u x hu hx).2 g hg) hc), (h.fv i u x hu hx).2⟩
theorem RL.same (h : RL G w r dp dc ds lp lc fs A) {w' : World} (hb : ∀ i, G i → w'.heap[i]? = w.heap[i]?) (hl : ∀ i, G i → i < w'.heap.size) : RL G w' r dp dc ds lp lc fs A :=
  ⟨hl, by rw [hb r h.Gr]; exact h.top, ownsRow_same h.dsk (fun g hg => hb g (h.Gd g hg)), h.dlen, h.sec_same (fun g c hg _ => hb g hg) (fun g c hg _ => hb g hg), ownsRow_same h.fly (fun g hg => hb g (h.Gl g hg)), h.flen, h.fv_same (fun g c hg _ => hb g hg), h.Gr, h.Gd, h.Gs, h.Gl, h.ap, h.left, h.n2, h.d2⟩
theorem RIs.lt (h : RIs G w r A) : ∀ i, G i → i < w.heap.size := by obtain ⟨_, _, _, _, _, _, h⟩ := h; exact h.lt
theorem RIs.same (h : RIs G w r A) {w' : World} (hb : ∀ i, G i → w'.heap[i]? = w.heap[i]?) (hl : ∀ i, G i → i < w'.heap.size) : RIs G w' r A := by
  obtain ⟨dp, dc, ds, lp, lc, fs, h⟩ := h
  exact (h.same hb hl).is
theorem RIs.keep (h : RIs G w r A) {w' : World} (g : w.grownBy w' none) : RIs G w' r A := h.same (fun i hi => g.block i (h.lt i hi) (by simp)) (fun i hi => Nat.lt_of_lt_of_le (h.lt i hi) g.size)
theorem RL.keep (h : RL G w r dp dc ds lp lc fs A) {w' : World} (g : w.grownBy w' none) : RL G w' r dp dc ds lp lc fs A := h.same (fun i hi => g.block i (h.lt i hi) (by simp)) (fun i hi => Nat.lt_of_lt_of_le (h.lt i hi) g.size)
theorem RL.topCells (h : RL G w r dp dc ds lp lc fs A) : w.cell? ⟨r, 0, none⟩ = some (.slice dp A.D.length dc) ∧ w.cell? ⟨r, 1, none⟩ = some (.int .i64 (A.n : Int)) ∧ w.cell? ⟨r, 2, none⟩ = some (.slice lp A.L.length lc) ∧ w.cell? ⟨r, 3, none⟩ = some (.int .i64 (A.left : Int)) ∧ w.cell? ⟨r, 4, none⟩ = some (.bool A.dark) :=
  ⟨topCell (j := 0) h.top rfl, topCell (j := 1) h.top rfl, topCell (j := 2) h.top rfl, topCell (j := 3) h.top rfl, topCell (j := 4) h.top rfl⟩

/-- The head turned: fuse and power. -/
theorem RL.turn (h : RL G w r dp dc ds lp lc fs A) {w' : World} (g : w.grownBy w' (some r)) {l' : Nat} {k' : Bool} (hl : l' < 9223372036854775808)
    (ht : w'.heap[r]? = some (.cells #[.slice dp A.D.length dc, .int .i64 (A.n : Int), .slice lp A.L.length lc, .int .i64 (l' : Int), .bool k'] 131 (0, 0))) : RL G w' r dp dc ds lp lc fs { A with left := l', dark := k' } := by
  have hb : ∀ (i : Nat) (c : Array Value) (t : TypeId), G i → w.heap[i]? = some (.cells c t (0, 0)) → t ≠ 131 → w'.heap[i]? = w.heap[i]? := fun i c t hi hc hn => g.block i (h.lt i hi) (fun e => by
    obtain rfl := Option.some.inj e
    exact hn (heap_ty hc h.top))
  refine ⟨fun i hi => Nat.lt_of_lt_of_le (h.lt i hi) g.size, ht, ownsRow_same h.dsk (fun b hb' => ?_), h.dlen, h.sec_same (fun b c hb' hc => hb b c _ hb' hc (by decide)) (fun b c hb' hc => hb b c _ hb' hc (by decide)), ownsRow_same h.fly (fun b hb' => ?_), h.flen, h.fv_same (fun b c hb' hc => hb b c _ hb' hc (by decide)), h.Gr, h.Gd, h.Gs, h.Gl, h.ap, hl, h.n2, h.d2⟩
  · obtain ⟨c, hc⟩ := rowBlock h.dsk hb'
    exact hb b c _ (h.Gd b hb') hc (by decide)
  · obtain ⟨c, hc⟩ := rowBlock h.fly hb'
    exact hb b c _ (h.Gl b hb') hc (by decide)
/-- Another slice of what is in flight. -/
theorem RL.flown (h : RL G w r dp dc ds lp lc fs A) {G' : Nat → Prop} {w1 w' : World} (hG : ∀ i, G i → G' i) (hlt : ∀ i, G' i → i < w1.heap.size) {old : Option Nat} (g1 : w.grownBy w1 old) (ho : ∀ g, old = some g → (Value.slice lp A.L.length lc).ownBlock = some g) {L' : List AM.Fl} {fs' : List Value} {lp' : Option Addr} {lc' : Nat}
    (hrow : w1.ownsRow 0 135 3 (.slice lp' L'.length lc') L'.length (frow fs' L')) (hfl : fs'.length = L'.length) (hGl : ∀ g, (Value.slice lp' L'.length lc').ownBlock = some g → G' g)
    (hfv : ∀ (i : Nat) (u : Value) (x : AM.Fl), fs'[i]? = some u → L'[i]? = some x → Own 0 w1 u x.b ∧ ∀ g, u.ownBlock = some g → G' g) (e : w' = w1.setCell ⟨r, 2, none⟩ (.slice lp' L'.length lc')) : RL G' w' r dp dc ds lp' lc' fs' { A with L := L' } := by
  have hb1 : ∀ (i : Nat) (c : Array Value) (t : TypeId), G i → w.heap[i]? = some (.cells c t (0, 0)) → t ≠ 135 → w1.heap[i]? = w.heap[i]? := fun i c t hi hc hn => g1.block i (h.lt i hi) (fun e => by
    obtain ⟨c', hc'⟩ := rowBlock h.fly (ho i e.symm)
    exact hn (heap_ty hc hc'))
  have ht1 := (hb1 r _ _ h.Gr h.top (by decide)).trans h.top
  have hb2 : ∀ (i : Nat) (c : Array Value) (t : TypeId), w1.heap[i]? = some (.cells c t (0, 0)) → t ≠ 131 → w'.heap[i]? = w1.heap[i]? := fun i c t hc hn => by
    rw [e]
    exact Below.heap_setCell _ _ _ _ (fun e' => by
      have e' : i = r := e'
      subst e'
      exact hn (heap_ty hc ht1))
  have hb : ∀ (i : Nat) (c : Array Value) (t : TypeId), G i → w.heap[i]? = some (.cells c t (0, 0)) → t ≠ 135 → t ≠ 131 → w'.heap[i]? = w.heap[i]? := fun i c t hi hc h1 h2 => by
    have := hb1 i c t hi hc h1
    rw [hb2 i c t (this.trans hc) h2, this]
  have hsz : w'.heap.size = w1.heap.size := by rw [e]; simp
  refine ⟨fun i hi => by rw [hsz]; exact hlt i hi, ?_, ownsRow_same h.dsk (fun b hb' => ?_), h.dlen, fun i v hv => ?_, ownsRow_same hrow (fun b hb' => ?_), hfl, fun i u x hu hx => ⟨(hfv i u x hu hx).1.same0 (fun b hb' => ?_), (hfv i u x hu hx).2⟩, hG r h.Gr, fun g hg => hG g (h.Gd g hg), fun i v hv g hg => hG g (h.Gs i v hv g hg), hGl, h.ap, h.left, h.n2, h.d2⟩
  · rw [e, heap_setCell_same _ _ _ _ _ _ ht1]; rfl
  · obtain ⟨c, hc⟩ := rowBlock h.dsk hb'
    exact hb b c _ (h.Gd b hb') hc (by decide) (by decide)
  · rcases h.sec_same (w' := w') (fun b c hb' hc => hb b c _ hb' hc (by decide) (by decide)) (fun b c hb' hc => hb b c _ hb' hc (by decide) (by decide)) i v hv with h1 | ⟨ss, vs, h1, h2, h3, h4⟩
    · exact .inl h1
    · exact .inr ⟨ss, vs, h1, h2, h3, fun k u b hu hb => ⟨(h4 k u b hu hb).1, fun g hg => hG g ((h4 k u b hu hb).2 g hg)⟩⟩
  · obtain ⟨c, hc⟩ := rowBlock hrow hb'
    exact hb2 b c _ hc (by decide)
  · obtain ⟨c, hc⟩ := rowBlock (hfv i u x hu hx).1.row hb'
    exact hb2 b c _ hc (by decide)
end
end Go.Proofs.YtfjlpifaaknmpaaGreat

/- The contract of Copy. -/
set_option linter.unusedSimpArgs false
set_option linter.unusedVariables false
set_option maxRecDepth 100000
namespace Go.Proofs.YtfjlpifaaknmpaaGreat
open Go.RowKit

/-- A copy that has its first k drives. -/
structure Half (w0 w : World) (a2 dg2 : Nat) (dv : List Value) (k : Nat) (R : AM.Raw) (fp : Option Addr) (fc : Nat) : Prop where
  top : w.heap[a2]? = some (.cells #[.slice (some ⟨dg2, 0, none⟩) R.C.length R.C.length, .int .i64 (R.n : Int), .slice fp R.L.length fc, .int .i64 (R.fuse : Int), .bool R.off] 121 (0, 0))
  dsk : w.heap[dg2]? = some (.cells dv.toArray 117 (0, 0))
  len : dv.length = R.C.length
  a_lo : w0.heap.size ≤ a2
  d_lo : w0.heap.size ≤ dg2
  don : ∀ (i : Nat) (v : Value), dv[i]? = some v → i < k → (R.C[i]? = some none ∧ v = .slice none 0 0) ∨ ∃ xs, R.C[i]? = some (some xs) ∧ w.ownsRow w0.heap.size 124 64 v R.n (xs.map bv)
  ap : ∀ (i j : Nat) (u v : Value), i < k → j < k → dv[i]? = some u → dv[j]? = some v → ∀ g, u.ownBlock = some g → v.ownBlock = some g → i = j
  grown : w0.grownBy w none

section
variable {w0 w : World} {a2 dg2 : Nat} {dv : List Value} {k : Nat} {R : AM.Raw} {fp : Option Addr} {fc : Nat}
theorem rows_blk {w : World} {B e size n : Nat} {v : Value} {xs : List Value} (h : w.ownsRow B e size v n xs) {g : Nat} (hg : v.ownBlock = some g) : B ≤ g ∧ g < w.heap.size ∧ ∃ c, w.heap[g]? = some (.cells c e (0, 0)) := by
  rcases h.2 with ⟨rfl, _⟩ | ⟨g', cap, cur, rfl, h1, h2, _⟩
  · cases hg
  · obtain rfl : g' = g := Option.some.inj hg
    exact ⟨h1, (Array.getElem?_eq_some_iff.1 h2).1, cur, h2⟩
theorem Half.a_lt (h : Half w0 w a2 dg2 dv k R fp fc) : a2 < w.heap.size := (Array.getElem?_eq_some_iff.1 h.top).1
theorem Half.d_lt (h : Half w0 w a2 dg2 dv k R fp fc) : dg2 < w.heap.size := (Array.getElem?_eq_some_iff.1 h.dsk).1
theorem Half.keep (h : Half w0 w a2 dg2 dv k R fp fc) {w' : World} (g : w.grownBy w' none) : Half w0 w' a2 dg2 dv k R fp fc := by
  refine ⟨by rw [g.block a2 h.a_lt (by simp)]; exact h.top, by rw [g.block dg2 h.d_lt (by simp)]; exact h.dsk, h.len, h.a_lo, h.d_lo, fun i v hv hi => ?_, h.ap, grown_trans h.grown g⟩
  rcases h.don i v hv hi with h1 | ⟨xs, h1, h2⟩
  · exact .inl h1
  · exact .inr ⟨xs, h1, ownsRow_same h2 (fun b hb => g.block b (rows_blk h2 hb).2.1 (by simp))⟩
theorem Half.put (h : Half w0 w a2 dg2 dv k R fp fc) (hk : k < R.C.length) {w1 : World} (g1 : w.grownBy w1 none) {v : Value}
    (hv : (R.C[k]? = some none ∧ v = .slice none 0 0) ∨ ∃ xs, R.C[k]? = some (some xs) ∧ w1.ownsRow w.heap.size 124 64 v R.n (xs.map bv)) : Half w0 (w1.setCell ⟨dg2, k, none⟩ v) a2 dg2 (dv.set k v) (k + 1) R fp fc := by
  have h1 := h.keep g1
  have hdl : k < dv.length := by rw [h.len]; exact hk
  have hb : ∀ i, i ≠ dg2 → (w1.setCell ⟨dg2, k, none⟩ v).heap[i]? = w1.heap[i]? := fun i hne => Below.heap_setCell _ _ _ _ hne
  have hsplit : ∀ (i : Nat) (u : Value), (dv.set k v)[i]? = some u → i < k + 1 → (i = k ∧ u = v) ∨ (i < k ∧ dv[i]? = some u) := fun i u hu hi => by
    by_cases c : k = i
    · subst c
      rw [List.getElem?_set, if_pos rfl, if_pos hdl] at hu
      exact .inl ⟨rfl, (Option.some.inj hu).symm⟩
    · rw [List.getElem?_set, if_neg c] at hu
      exact .inr ⟨by omega, hu⟩
  have hnew : ∀ g, v.ownBlock = some g → w.heap.size ≤ g := fun g hg => by
    rcases hv with ⟨_, rfl⟩ | ⟨xs, _, h2⟩
    · cases hg
    · exact (rows_blk h2 hg).1
  have hold : ∀ (i : Nat) (u : Value), dv[i]? = some u → i < k → ∀ g, u.ownBlock = some g → g < w.heap.size := fun i u hu hi g hg => by
    rcases h.don i u hu hi with ⟨_, rfl⟩ | ⟨xs, _, h2⟩
    · cases hg
    · exact (rows_blk h2 hg).2.1
  refine ⟨?_, ?_, by simpa using h.len, h.a_lo, h.d_lo, fun i u hu hi => ?_, fun i j u u' hi hj hu hu' g hg hg' => ?_, ?_⟩
  · rw [hb a2 (ne_ty h1.top h1.dsk (by decide))]; exact h1.top
  · rw [heap_setCell_same _ _ _ _ _ _ h1.dsk]; simp
  · rcases hsplit i u hu hi with ⟨rfl, rfl⟩ | ⟨hlt, hu⟩
    · rcases hv with h2 | ⟨xs, h2, h3⟩
      · exact .inl h2
      · refine .inr ⟨xs, h2, ownsRow_down (ownsRow_same h3 (fun g hg => hb g ?_)) h.grown.size⟩
        obtain ⟨_, _, c, hc⟩ := rows_blk h3 hg
        exact ne_ty hc h1.dsk (by decide)
    · rcases h1.don i u hu hlt with h2 | ⟨xs, h2, h3⟩
      · exact .inl h2
      · refine .inr ⟨xs, h2, ownsRow_same h3 (fun g hg => hb g ?_)⟩
        obtain ⟨_, _, c, hc⟩ := rows_blk h3 hg
        exact ne_ty hc h1.dsk (by decide)
  · rcases hsplit i u hu hi with ⟨e1, e2⟩ | ⟨hlt, hu2⟩
    · rcases hsplit j u' hu' hj with ⟨e3, e4⟩ | ⟨hlt', hu3⟩
      · omega
      · have := hnew g (by rw [← e2]; exact hg); have := hold j u' hu3 hlt' g hg'; omega
    · rcases hsplit j u' hu' hj with ⟨e3, e4⟩ | ⟨hlt', hu3⟩
      · have := hnew g (by rw [← e4]; exact hg'); have := hold i u hu2 hlt g hg; omega
      · exact h.ap i j u u' hlt hlt' hu2 hu3 g hg hg'
  · exact gb_setCell h1.grown h.d_lo v
theorem Half.fin (h : Half w0 w a2 dg2 dv R.C.length R fp fc) (hok : R.Ok) {w1 : World} (g1 : w.grownBy w1 none) {fp2 : Option Addr} {fc2 : Nat} (hrow : w1.ownsRow w0.heap.size 126 130 (.slice fp2 R.L.length fc2) R.L.length (wrow R.L)) :
    Is (fun i => w0.heap.size ≤ i ∧ i < w1.heap.size) (w1.setCell ⟨a2, 2, none⟩ (.slice fp2 R.L.length fc2)) a2 R ∧ w0.grownBy (w1.setCell ⟨a2, 2, none⟩ (.slice fp2 R.L.length fc2)) none := by
  have h1 := h.keep g1
  have hb : ∀ i, i ≠ a2 → (w1.setCell ⟨a2, 2, none⟩ (.slice fp2 R.L.length fc2)).heap[i]? = w1.heap[i]? := fun i hne => Below.heap_setCell _ _ _ _ hne
  have hdi : ∀ (i : Nat) (v : Value), dv[i]? = some v → i < R.C.length := fun i v hv => by
    have := (List.getElem?_eq_some_iff.1 hv).1
    rw [h.len] at this
    exact this
  refine ⟨⟨dg2, dv, fp2, fc2, ⟨hok, fun i hi => by simpa using hi.2, ?_, ?_, h.len, fun i v hv => ?_, ?_, ⟨h1.a_lo, h1.a_lt⟩, ⟨h1.d_lo, h1.d_lt⟩, fun i v hv g hg => ?_, fun g hg => ?_, fun i j u v hu hv => h.ap i j u v (hdi i u hu) (hdi j v hv) hu hv⟩⟩, gb_setCell h1.grown h.a_lo _⟩
  · rw [heap_setCell_same _ _ _ _ _ _ h1.top]; rfl
  · rw [hb dg2 (ne_ty h1.dsk h1.top (by decide))]; exact h1.dsk
  · rcases h1.don i v hv (hdi i v hv) with h2 | ⟨xs, h2, h3⟩
    · exact .inl h2
    · refine .inr ⟨xs, h2, ownsRow_down (ownsRow_same h3 (fun g hg => hb g ?_)) (Nat.zero_le _)⟩
      obtain ⟨_, _, c, hc⟩ := rows_blk h3 hg
      exact ne_ty hc h1.top (by decide)
  · refine ownsRow_down (ownsRow_same hrow (fun g hg => hb g ?_)) (Nat.zero_le _)
    obtain ⟨_, _, c, hc⟩ := rows_blk hrow hg
    exact ne_ty hc h1.top (by decide)
  · rcases h1.don i v hv (hdi i v hv) with ⟨_, rfl⟩ | ⟨xs, h2, h3⟩
    · cases hg
    · exact ⟨(rows_blk h3 hg).1, (rows_blk h3 hg).2.1⟩
  · exact ⟨(rows_blk hrow hg).1, (rows_blk hrow hg).2.1⟩
end
end Go.Proofs.YtfjlpifaaknmpaaGreat

