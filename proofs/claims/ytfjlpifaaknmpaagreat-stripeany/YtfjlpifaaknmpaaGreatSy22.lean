/- Packed: PD8, IntA4, Late2. -/
import Derived.Deep.RegionHeld3
import Derived.BigRegion
import Derived.Test.YtfjlpifaaknmpaaGreatSy1
import Derived.Test.YtfjlpifaaknmpaaGreatSy2
import Derived.Test.YtfjlpifaaknmpaaGreatSy3
import Derived.Test.YtfjlpifaaknmpaaGreatSy4
import Derived.Test.YtfjlpifaaknmpaaGreatSy5
import Derived.Test.YtfjlpifaaknmpaaGreatSy6
import Derived.Test.YtfjlpifaaknmpaaGreatSy11
import Derived.Test.YtfjlpifaaknmpaaGreatSy17
import Derived.Test.YtfjlpifaaknmpaaGreatSy18
import Derived.Test.YtfjlpifaaknmpaaGreatSy19
import Derived.Test.YtfjlpifaaknmpaaGreatSy20
import Derived.Test.YtfjlpifaaknmpaaGreatSy21
import Derived.ArgAppend
import Derived.Maps.AppendAt
import Derived.Test.YtfjlpifaaknmpaaGreatSy14
/- What a Read makes of the chunks that it finds. -/
set_option linter.unusedSimpArgs false
set_option linter.unusedVariables false
set_option maxRecDepth 100000
namespace Go.Proofs.YtfjlpifaaknmpaaGreat
namespace SP

def ints (l : List Nat) : List Int := l.map Int.ofNat
theorem ints_len (l : List Nat) : (ints l).length = l.length := by simp [ints]
theorem ints_get (l : List Nat) {i : Nat} (h : i < l.length) : (ints l).getD i 0 = ((l.getD i 0 : Nat) : Int) := by simp [ints, List.getD, h]
theorem ints_app (l : List Nat) (x : Nat) : ints (l ++ [x]) = ints l ++ [(x : Int)] := by simp [ints]
theorem told_app (R : AM.Raw) (g : Geo) (slot : Nat) (l : List Nat) (x : Nat) : told R g slot (l ++ [x]) = told R g slot l ++ [datD R g slot x] := by simp [told]
theorem told_len (R : AM.Raw) (g : Geo) (slot : Nat) (l : List Nat) : (told R g slot l).length = l.length := by simp [told]
theorem told_get (R : AM.Raw) (g : Geo) (slot : Nat) (l : List Nat) {i : Nat} (h : i < l.length) : (told R g slot l).getD i [] = datD R g slot (l.getD i 0) := by simp [told, List.getD, h]

structure Pick (R : AM.Raw) (g : Geo) (slot : Nat) (l : List Nat) : Prop where
  pair : l.Pairwise (· < ·)
  mem : ∀ x ∈ l, x < g.n ∧ yesD R g slot x = true
theorem hits_pick (R : AM.Raw) (g : Geo) (slot m : Nat) : Pick R g slot (hits R g slot m g.n) := ⟨hits_pair R g slot m g.n, fun x hx => by
  obtain ⟨h1, h2⟩ := hits_mem hx
  unfold has at h2
  simp only [Bool.and_eq_true] at h2
  exact ⟨h1, h2.1⟩⟩
theorem found_pick (R : AM.Raw) (g : Geo) (slot m : Nat) : Pick R g slot (found R g slot m) :=
  ⟨(hits_pick R g slot m).pair.sublist (List.take_sublist _ _), fun x hx => (hits_pick R g slot m).mem x (List.mem_of_mem_take hx)⟩
theorem Pick.row {R : AM.Raw} {g : Geo} {slot : Nat} {l : List Nat} (h : Pick R g slot l) {j : Nat} (hj : j < l.length) : ((told R g slot l).getD j []).length = 448 := by
  rw [told_get R g slot l hj]
  have e : l.getD j 0 = l[j] := by simp [List.getD, hj]
  rw [e]
  exact dat_len (h.mem _ (List.getElem_mem hj)).2
theorem Pick.ok {R : AM.Raw} {g : Geo} {slot : Nat} {l : List Nat} (h : Pick R g slot l) (hg : g.Ok R) : decOK (g.k : Int) (g.n : Int) (ints l) (told R g slot l) := by
  refine ⟨mayI_iff.2 ⟨by have := hg.k1; omega, by have := hg.kn; omega, by have := hg.n255; omega⟩, by rw [ints_len, told_len], evenB_iff.2 fun j hj => ?_, fun i hi => ?_⟩
  · rw [told_len] at hj
    rw [h.row hj, h.row (by omega)]
  · rw [ints_len] at hi
    have e : l.getD i 0 = l[i] := by simp [List.getD, hi]
    have h1 := (h.mem _ (List.getElem_mem hi)).1
    rw [ints_get l hi, e]
    refine ⟨by omega, by simp; exact h1, fun i' hi' => ?_⟩
    rw [ints_get l (by omega), show l.getD i' 0 = l[i'] from by simp [List.getD, show i' < l.length from by omega]]
    have := List.pairwise_iff_getElem.1 h.pair i' i (by omega) hi hi'
    omega

theorem found_len {R : AM.Raw} {g : Geo} {slot m : Nat} (h : g.k ≤ (hits R g slot m g.n).length) : (found R g slot m).length = g.k := by simp [found]; omega
theorem found_get {R : AM.Raw} {g : Geo} {slot m i : Nat} (h : i < g.k) : (found R g slot m).getD i 0 = (hits R g slot m g.n).getD i 0 := by simp [found, List.getD, List.getElem?_take, h]

theorem DecP.yes {k n : Int} {ls : List Int} {X P : List (List Nat)} {a : Int} (h : DecP k n ls X P a) (ok : decOK k n ls X) (hk : k ≤ ls.length) : a = 0 ∧ Tells ls k.toNat (X.getD 0 []).length X P := by
  rcases h with ⟨h1, _, _⟩ | ⟨_, h2, _, _⟩ | ⟨_, _, h3, h4⟩
  · exact absurd ok h1
  · omega
  · exact ⟨h3, h4⟩
theorem DecR.yes {k n : Int} {ls : List Int} {X P : List (List Nat)} {a : Int} (h : DecR k n ls X P a) (ok : decOK k n ls X) (hk : k ≤ ls.length) : a = 0 ∧ Has ls k.toNat (X.getD 0 []).length X P := by
  rcases h with ⟨h1, _, _⟩ | ⟨_, h2, _, _⟩ | ⟨_, _, h3, h4⟩
  · exact absurd ok h1
  · omega
  · exact ⟨h3, h4⟩

/-- Both sides read the same. -/
theorem dec_both {R : AM.Raw} {g : Geo} {slot m : Nat} (hg : g.Ok R) (hk : g.k ≤ (hits R g slot m g.n).length) {P Q : List (List Nat)} {a b : Int}
    (h : DecP g.k g.n (ints (found R g slot m)) (told R g slot (found R g slot m)) P a) (h' : DecR g.k g.n (ints (hits R g slot m g.n)) (told R g slot (hits R g slot m g.n)) Q b) : a = 0 ∧ b = 0 ∧ Q = P := by
  have hl := found_len hk
  have k1 := hg.k1
  obtain ⟨rfl, ht⟩ := DecP.yes h ((found_pick R g slot m).ok hg) (by rw [ints_len, hl]; omega)
  obtain ⟨rfl, hs⟩ := DecR.yes h' ((hits_pick R g slot m).ok hg) (by rw [ints_len]; omega)
  refine ⟨rfl, rfl, ?_⟩
  have L1 : ((told R g slot (found R g slot m)).getD 0 []).length = 448 := (found_pick R g slot m).row (by omega)
  have L2 : ((told R g slot (hits R g slot m g.n)).getD 0 []).length = 448 := (hits_pick R g slot m).row (by omega)
  rw [L1] at ht
  rw [L2] at hs
  simp only [Int.toNat_natCast] at ht hs
  refine ht Q hs.1 hs.2.1 fun i t hi ht' => ?_
  have := hs.2.2 i t hi ht'
  rw [ints_get _ (by omega)] at this
  rw [ints_get _ (by omega), found_get hi, this]
  unfold at2
  rw [told_get _ _ _ _ (by omega), told_get _ _ _ _ (by omega), found_get hi]

theorem at2_codeRow {D : List (List Nat)} {k L i t : Nat} (h : t < L) : (codeRow D k L i).getD t 0 = codeAt D k i t := by simp [codeRow, List.getD, h]
/-- What is found are chunks of the code of D0: they tell D0. -/
theorem dec_is {R : AM.Raw} {g : Geo} {slot m : Nat} (hg : g.Ok R) (hk : g.k ≤ (hits R g slot m g.n).length) {P D0 : List (List Nat)} {a : Int}
    (h : DecP g.k g.n (ints (found R g slot m)) (told R g slot (found R g slot m)) P a) (hD : Shape D0 g.k 448) (hs : ∀ i j, at2 D0 i j < 256)
    (hc : ∀ d, d < g.n → has R g slot m d = true → datD R g slot d = codeRow D0 g.k 448 d) : a = 0 ∧ P = D0 := by
  have hl := found_len hk
  have k1 := hg.k1
  obtain ⟨rfl, ht⟩ := DecP.yes h ((found_pick R g slot m).ok hg) (by rw [ints_len, hl]; omega)
  refine ⟨rfl, ?_⟩
  have L1 : ((told R g slot (found R g slot m)).getD 0 []).length = 448 := (found_pick R g slot m).row (by omega)
  rw [L1] at ht
  simp only [Int.toNat_natCast] at ht
  refine (ht D0 hD hs fun i t hi ht' => ?_).symm
  rw [ints_get _ (by omega)]
  unfold at2
  rw [told_get _ _ _ _ (by omega)]
  have hil : i < (found R g slot m).length := by omega
  have e : (found R g slot m).getD i 0 = (found R g slot m)[i] := by simp [List.getD, hil]
  have hm : (found R g slot m)[i] ∈ hits R g slot m g.n := by
    have h1 : (found R g slot m)[i] ∈ found R g slot m := List.getElem_mem hil
    unfold found at h1
    exact List.mem_of_mem_take h1
  obtain ⟨h1, h2⟩ := hits_mem hm
  rw [e, hc _ h1 h2, at2_codeRow ht']
  rfl

/-- What the program's Read answers. -/
def RdP (R : AM.Raw) (g : Geo) (slot : Int) (m : Nat) (out : List Nat) (e : Nat) : Prop :=
  (why R g slot ≠ 0 ∧ out = [] ∧ e = why R g slot) ∨ (why R g slot = 0 ∧ m = 0 ∧ out = [] ∧ e = 1) ∨ (why R g slot = 0 ∧ m ≠ 0 ∧ (hits R g slot.toNat m g.n).length < g.k ∧ out = [] ∧ e = 20) ∨
  (why R g slot = 0 ∧ m ≠ 0 ∧ g.k ≤ (hits R g slot.toNat m g.n).length ∧ e = 0 ∧ ∃ P a, DecP g.k g.n (ints (found R g slot.toNat m)) (told R g slot.toNat (found R g slot.toNat m)) P a ∧ out = P.flatten)
/-- What the document's answers. -/
def RdR (R : AM.Raw) (g : Geo) (slot : Int) (m : Nat) (out : List Nat) (e : Nat) : Prop :=
  (why R g slot ≠ 0 ∧ out = [] ∧ e = why R g slot) ∨ (why R g slot = 0 ∧ m = 0 ∧ out = [] ∧ e = 1) ∨ (why R g slot = 0 ∧ m ≠ 0 ∧ (hits R g slot.toNat m g.n).length < g.k ∧ out = [] ∧ e = 20) ∨
  (why R g slot = 0 ∧ m ≠ 0 ∧ g.k ≤ (hits R g slot.toNat m g.n).length ∧ e = 0 ∧ ∃ P a, DecR g.k g.n (ints (hits R g slot.toNat m g.n)) (told R g slot.toNat (hits R g slot.toNat m g.n)) P a ∧ out = P.flatten)
theorem Rd.one {R : AM.Raw} {g : Geo} {slot : Int} {m : Nat} (hg : g.Ok R) {o o' : List Nat} {e e' : Nat} (h : RdP R g slot m o e) (h' : RdR R g slot m o' e') : o' = o ∧ e' = e := by
  rcases h with ⟨a1, rfl, rfl⟩ | ⟨a1, a2, rfl, rfl⟩ | ⟨a1, a2, a3, rfl, rfl⟩ | ⟨a1, a2, a3, rfl, P, a, hP, rfl⟩ <;>
  rcases h' with ⟨b1, rfl, rfl⟩ | ⟨b1, b2, rfl, rfl⟩ | ⟨b1, b2, b3, rfl, rfl⟩ | ⟨b1, b2, b3, rfl, Q, b, hQ, rfl⟩ <;> first
    | exact ⟨rfl, rfl⟩
    | (exfalso; omega)
    | (obtain ⟨_, _, rfl⟩ := dec_both hg a3 hP hQ; exact ⟨rfl, rfl⟩)

/-- A segment's data chunks. -/
def parts (xs : List Nat) (k : Nat) : List (List Nat) := (List.range k).map fun j => (xs.drop (448 * j)).take 448
theorem parts_len (xs : List Nat) (k : Nat) : (parts xs k).length = k := by simp [parts]
theorem parts_get (xs : List Nat) {k j : Nat} (h : j < k) : (parts xs k).getD j [] = (xs.drop (448 * j)).take 448 := by simp [parts, List.getD, h]
theorem parts_succ (xs : List Nat) (k : Nat) : parts xs (k + 1) = parts xs k ++ [(xs.drop (448 * k)).take 448] := by simp [parts, List.range_succ]
theorem parts_shape {xs : List Nat} {k : Nat} (h : xs.length = k * 448) : Shape (parts xs k) k 448 := ⟨parts_len xs k, fun j hj => by rw [parts_get xs hj]; simp; omega⟩
theorem parts_small {xs : List Nat} (h : ∀ x ∈ xs, x < 256) (k : Nat) : ∀ i j, at2 (parts xs k) i j < 256 := fun i j => by
  unfold at2
  by_cases hi : i < k
  · rw [parts_get xs hi]
    refine SM.getD_lt (fun x hx => h x (List.mem_of_mem_drop (List.mem_of_mem_take hx))) j
  · simp [parts, List.getD, hi]
theorem parts_flat (xs : List Nat) : ∀ k, (parts xs k).flatten = xs.take (448 * k)
  | 0 => by simp [parts]
  | k + 1 => by
    rw [parts_succ, List.flatten_append, parts_flat xs k]
    simp only [List.flatten_cons, List.flatten_nil, List.append_nil]
    rw [Nat.mul_add, Nat.mul_one, List.take_add]
theorem parts_all {xs : List Nat} {k : Nat} (h : xs.length = k * 448) : (parts xs k).flatten = xs := by
  rw [parts_flat]
  exact List.take_of_length_le (by omega)
theorem parts_fits {R : AM.Raw} {g : Geo} (hg : g.Ok R) {xs : List Nat} (h : xs.length = g.k * 448) : fitsB (g.k : Int) (g.n : Int) (parts xs g.k) = true := by
  have h1 := hg.k1
  have h2 := hg.kn
  have h3 := hg.n255
  have sh := parts_shape h
  refine fitsB_iff.2 ⟨⟨by omega, by omega, by omega⟩, by rw [parts_len], evenB_iff.2 fun j hj => ?_⟩
  rw [parts_len] at hj
  rw [sh.row j hj, sh.row 0 (by omega)]
/-- A segment's chunks. -/
def code (g : Geo) (xs : List Nat) : List (List Nat) := codeList (parts xs g.k) g.k g.n 448
theorem code_get (g : Geo) (xs : List Nat) {d : Nat} (h : d < g.n) : (code g xs).getD d [] = codeRow (parts xs g.k) g.k 448 d := by simp [code, codeList, List.getD, h]
theorem code_len (g : Geo) (xs : List Nat) : (code g xs).length = g.n := by simp [code, codeList]
theorem code_row (g : Geo) (xs : List Nat) {d : Nat} (h : d < g.n) : ((code g xs).getD d []).length = 448 := by rw [code_get g xs h]; simp [codeRow]

def write (R : AM.Raw) (g : Geo) (slot : Int) (m : Nat) (xs : List Nat) : Nat × AM.Raw :=
  if why R g slot ≠ 0 then (why R g slot, R) else if m = 0 ∨ xs.length ≠ g.k * 448 then (1, R) else if R.ons < g.k then (20, R) else wrTo R g slot.toNat m (code g xs) g.n
def put (R : AM.Raw) (g : Geo) (d slot : Int) (m : Nat) (part : List Nat) : Nat × AM.Raw :=
  if whyD R g d slot ≠ 0 then (whyD R g d slot, R) else if m = 0 ∨ part.length ≠ 448 then (1, R) else lays R g slot.toNat d.toNat m part
theorem write_kept (R : AM.Raw) (g : Geo) (slot : Int) (m : Nat) (xs : List Nat) : Kept R (write R g slot m xs).2 := by
  unfold write
  split
  · exact Kept.refl R
  · split
    · exact Kept.refl R
    · split
      · exact Kept.refl R
      · exact wrTo_kept _ _ _ _ _ _
end SP
end Go.Proofs.YtfjlpifaaknmpaaGreat

/- Appends to rows of ints; what stays apart. -/
set_option linter.unusedVariables false
set_option maxRecDepth 100000
namespace Go.Proofs.YtfjlpifaaknmpaaGreat
open Go.RowKit

/-- Rows of two element types lie in two blocks. -/
theorem row_apart {B B' : Nat} {w : World} {e e' : TypeId} {v u : Value} {n m : Nat} {xs ys : List Value} (ne : e ≠ e') (hv : w.ownsRow B e 1 v n xs) (hu : w.ownsRow B' e' 1 u m ys) : Ap v u := by
  unfold Ap
  rcases hv.2 with ⟨rfl, _⟩ | ⟨g, cap, cur, rfl, _, hg, _⟩
  · exact .inl rfl
  · rcases hu.2 with ⟨rfl, _⟩ | ⟨g', cap', cur', rfl, _, hg', _⟩
    · exact .inr (by simp [Value.ownBlock])
    · refine .inr fun h => ?_
      have e1 : g = g' := by simpa [Value.ownBlock] using h
      subst e1
      rw [hg] at hg'
      injection hg' with h1
      injection h1 with _ h2 _
      exact ne h2
theorem IOwn.kept {B : Nat} {w w' : World} {v : Value} {ls : List Int} {row : Option Nat} (h : IOwn B w v ls) (g : w.grownBy w' row) (ne : v.ownBlock = none ∨ v.ownBlock ≠ row) : IOwn B w' v ls := ⟨h.len, h.row.kept g ne⟩
theorem IOwn.hi {B : Nat} {w : World} {v : Value} {ls : List Int} (h : IOwn B w v ls) : Hi w.heap.size v := fun k hk => (h.row.lt k hk).2
theorem IOwn.nil (B : Nat) (w : World) : IOwn B w (.slice none 0 0) [] := ⟨by simp, World.ownsRow_nil w B 3 1⟩
theorem IVec.kept {w w' : World} {v : Value} {ls : List Int} {row : Option Nat} (h : IVec w v ls) (g : w.grownBy w' row) (ne : v.ownBlock = none ∨ v.ownBlock ≠ row) : IVec w' v ls := by
  obtain ⟨h2, p, cap, rfl, h3, h4, h5⟩ := h
  refine ⟨h2, p, cap, rfl, h3, h4, fun hx => ?_⟩
  obtain ⟨b, off, rfl, hc⟩ := h5 hx
  refine ⟨b, off, rfl, fun j hj => g.cell (hc j hj) ?_⟩
  rcases ne with ne | ne
  · simp [Value.ownBlock] at ne
  · simpa [Value.ownBlock] using ne
theorem IVec.cut {w : World} {p : Option Addr} {len cap c' : Nat} {ls : List Int} (h : IVec w (.slice p len cap) ls) {n : Nat} (hn : n ≤ ls.length) (hc : n ≤ c') (hm : c' ≤ cap) : IVec w (.slice p n c') (ls.take n) := by
  obtain ⟨h2, p', cap', e, h3, h4, h5⟩ := h
  injection e with e1 e2 e3
  subst e1
  subst e3
  have hl : (ls.take n).length = n := by simp; omega
  refine ⟨by omega, p, c', by rw [hl], by omega, by omega, fun hne => ?_⟩
  obtain ⟨b, off, e, hc⟩ := h5 (fun e => hne (by rw [e]; simp))
  refine ⟨b, off, e, fun j hj => ?_⟩
  rw [hl] at hj
  rw [hc j (by omega)]
  simp [List.getD, hj]
theorem IVec.tail {w : World} {b off len cap : Nat} {ls : List Int} (h : IVec w (.slice (some ⟨b, off, none⟩) len cap) ls) {n : Nat} (hn : n ≤ ls.length) : IVec w (.slice (some ⟨b, off + n, none⟩) (len - n) (cap - n)) (ls.drop n) := by
  obtain ⟨h2, p', cap', e, h3, h4, h5⟩ := h
  injection e with e1 e2 e3
  subst e3
  have hl : (ls.drop n).length = len - n := by simp; omega
  refine ⟨by omega, _, _, by rw [hl], by omega, by omega, fun hne => ⟨b, off + n, rfl, fun j hj => ?_⟩⟩
  rw [hl] at hj
  obtain ⟨b', off', e', hc⟩ := h5 (fun e => hne (by rw [e]; simp))
  rw [← e1] at e'
  injection e' with e'
  injection e' with e3 e4
  subst e3
  subst e4
  rw [Nat.add_assoc, hc (n + j) (by omega)]
  simp [List.getD]
theorem IVec.none {w : World} (p : Option Addr) (c : Nat) (hc : c ≤ maxLen) : IVec w (.slice p 0 c) [] := ⟨by simp, p, c, rfl, by simp, hc, fun h => absurd rfl h⟩

theorem run_append_int {B : Nat} {w : World} {dv : Value} {ls : List Int} (hd : IOwn B w dv ls) (ad : Addr) {x : Int} (hu : w.cell? ad = some (.int .i64 x)) (hB : B ≤ w.heap.size) (hl : (ls.length + 1) * 8 ≤ 140737488351232) (ty : TypeId) :
    ∃ v' w', (Builtin.append_ #[95, 95] ty #[dv, .slice (some ad) 1 1]).run Tryz.prog w = .ok v' w' ∧ IOwn B w' v' (ls ++ [x]) ∧ w.grownBy w' dv.ownBlock ∧ (v'.ownBlock = dv.ownBlock ∨ v'.ownBlock = some w.heap.size) := by
  obtain ⟨i0, hi, hz0, hz1, hz2⟩ := info_parts Tryz.infoI
  obtain ⟨v', w', r1, r2, r3, _, r5⟩ := run_append_own_at (P := Tryz.prog) w B 95 ty 3 i0 (.int .i64 0) 1 8 Tryz.underlying95 hi hz0 hz1 hz2 rfl (by decide) dv ls.length _ hd.row ad 1 1 [.int .i64 x] (by simp)
    (fun j v hj => by
      match j, hj with
      | 0, hj => simp at hj; subst hj; simpa [Addr.add] using hu)
    (fun v hv => by simp at hv; subst hv; rfl) (by unfold maxLen; omega) (by omega) hB
  exact ⟨v', w', r1, ⟨by simpa using hl, by simpa using r2⟩, r3, r5⟩
theorem step_append_int {ops : Array Oper} {o : Oper} {a : Act} {w : World} {K : Act → World → Prop} {Q : Exit → Act → World → Prop} {E : Prop} (hgd : o.guard = none) (d s : Operand)
    (ho : o.op = .call { callee := .builtin .append, args := #[d, s], argTypes := #[95, 95] }) (dv : Value) (ad : Addr) (hed : a.eval d = dv) (hes : a.eval s = .slice (some ad) 1 1)
    {B : Nat} {ls : List Int} {x : Int} (hd : IOwn B w dv ls) (hu : w.cell? ad = some (.int .i64 x)) (hB : B ≤ w.heap.size) (hl : (ls.length + 1) * 8 ≤ 140737488351232)
    (h : ∀ v' w', IOwn B w' v' (ls ++ [x]) → w.grownBy w' dv.ownBlock → (v'.ownBlock = dv.ownBlock ∨ v'.ownBlock = some w.heap.size) → K (a.put o.dst v') w') :
    if Region.wanted o (yielded ops a.tmps) = true then Oper.wp Tryz.prog o a w K Q else E := by
  have hw : Region.wanted o (yielded ops a.tmps) = true := by simp [Region.wanted, hgd]
  rw [if_pos hw]
  obtain ⟨v', w', hrun, r1, r2, r3⟩ := run_append_int hd ad hu hB hl o.type
  unfold Oper.wp
  simp [execOp, ho, resolve, invoke, builtin, hed, hes, hrun, Result.andThen]
  exact h _ _ r1 r2 r3

end Go.Proofs.YtfjlpifaaknmpaaGreat

/- A region that draws its order, whose last two operations come one behind the other, behind all the others. No text of the program is named. -/
set_option linter.unusedSimpArgs false
set_option linter.unusedVariables false
set_option maxRecDepth 100000
namespace Go.Proofs.YtfjlpifaaknmpaaGreat

section
variable {P : Program} {md : Region.Mode} {Q : Exit → Act → World → Prop} {S : World → Prop}

theorem held_of_any {ops : Array Oper} : ∀ (fuel : Nat) (listed : Array Bool) (a : Act) (w : World), wpAny P md ops Q fuel listed a w → wpAnyH P md ops Q (fun _ => True) fuel listed a w
  | 0, _, _, _, h => h
  | fuel + 1, _, _, _, h => ⟨h.1, fun i hi => wpOp_mono (fun a' w' h' => ⟨trivial, held_of_any fuel _ a' w' h'⟩) (h.2 i hi)⟩

theorem region_last2 {id : Nat} {ops all : Array Oper} {o1 o2 : Oper} {a : Act} {w : World} (he : all = (ops.push o1).push o2) (hm : P.follows .mixedOrders = true) (hl1 : lastOk .any (ops.push o1) = true) (hl2 : lastOk .any ((ops.push o1).push o2) = true) (hS : S w.drew)
    (h : S w.drew → wpAnyH P .any ops (lastQ P (ops.push o1) o1 (lastQ P ((ops.push o1).push o2) o2 Q)) S ops.size (Array.replicate ops.size false) a w.drew) : (Code.region id all true).wp P Q a w := by
  refine region_last (S := fun _ => True) he hm hl2 trivial (fun _ => ?_)
  have := any_last (Q := lastQ P ((ops.push o1).push o2) o2 Q) (S := S) (lastOk_of hl1) ops.size (Array.replicate ops.size false) a w.drew (by simp) (fun j o ho hj => by
    by_cases c : j < ops.size <;> simp [c] at hj) (h hS)
  have e : Array.replicate (ops.push o1).size false = (Array.replicate ops.size false).push false := by rw [Array.size_push, Array.replicate_succ]
  rw [e, Array.size_push]
  exact held_of_any _ _ _ _ this
theorem push_of_back {all ops : Array Oper} {oL : Oper} (hp : all.pop = ops) (hb : all.back? = some oL) : all = ops.push oL := by
  subst hp
  have hne : all.size ≠ 0 := fun h0 => by
    have : all = #[] := Array.eq_empty_of_size_eq_zero h0
    subst this
    simp at hb
  rw [Array.back?_eq_getElem?] at hb
  obtain ⟨h1, h2⟩ := Array.getElem?_eq_some_iff.1 hb
  apply Array.ext_getElem?
  intro k
  rw [Array.getElem?_push, Array.getElem?_pop, Array.size_pop]
  by_cases c : k = all.size - 1
  · subst c; simp [hb]
  · by_cases c2 : k < all.size - 1
    · simp [c]
      intro hk
      omega
    · simp [c]
      intro hk
      omega
theorem region_late2 {id : Nat} {ops ops1 all : Array Oper} {o1 o2 : Oper} {a : Act} {w : World} (hp2 : all.pop = ops1) (hp1 : ops1.pop = ops) (hb2 : all.back? = some o2) (hb1 : ops1.back? = some o1) (hm : P.follows .mixedOrders = true)
    (hl1 : lastOk .any ops1 = true) (hl2 : lastOk .any all = true) (hS : S w.drew)
    (h : S w.drew → wpAnyH P .any ops (lastQ P ops1 o1 (lastQ P all o2 Q)) S ops.size (Array.replicate ops.size false) a w.drew) : (Code.region id all true).wp P Q a w := by
  have e1 := push_of_back hp1 hb1
  have e2 := push_of_back hp2 hb2
  subst e1
  subst e2
  exact region_last2 (S := S) rfl hm hl1 hl2 hS h
end
end Go.Proofs.YtfjlpifaaknmpaaGreat

