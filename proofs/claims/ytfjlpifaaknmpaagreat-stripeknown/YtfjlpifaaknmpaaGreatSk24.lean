/- Packed: Made8, IntA4, Late2, RdC8. -/
import Derived.Deep.RegionHeld3
import Derived.Deep.MidRow
import Derived.Test.YtfjlpifaaknmpaaGreatSk1
import Derived.Test.YtfjlpifaaknmpaaGreatSk2
import Derived.Test.YtfjlpifaaknmpaaGreatSk3
import Derived.Test.YtfjlpifaaknmpaaGreatSk4
import Derived.Test.YtfjlpifaaknmpaaGreatSk5
import Derived.Test.YtfjlpifaaknmpaaGreatSk6
import Derived.Test.YtfjlpifaaknmpaaGreatSk7
import Derived.Test.YtfjlpifaaknmpaaGreatSk8
import Derived.Test.YtfjlpifaaknmpaaGreatSk9
import Derived.Test.YtfjlpifaaknmpaaGreatSk10
import Derived.Test.YtfjlpifaaknmpaaGreatSk11
import Derived.Test.YtfjlpifaaknmpaaGreatSk12
import Derived.Test.YtfjlpifaaknmpaaGreatSk14
import Derived.Test.YtfjlpifaaknmpaaGreatSk19
import Derived.Test.YtfjlpifaaknmpaaGreatSk20
import Derived.Test.YtfjlpifaaknmpaaGreatSk21
import Derived.Test.YtfjlpifaaknmpaaGreatSk22
import Derived.Test.YtfjlpifaaknmpaaGreatSk23
import Derived.ArgAppend
import Derived.Maps.AppendAt
import Derived.Test.YtfjlpifaaknmpaaGreatSk15
import Derived.Test.YtfjlpifaaknmpaaGreatSk16
import Derived.Test.YtfjlpifaaknmpaaGreatSk17
import Derived.BigRegion
import Derived.Test.YtfjlpifaaknmpaaGreatSk13
import Derived.Test.YtfjlpifaaknmpaaGreatSk18
/- The contract of hayricklaw08.Made. -/
set_option linter.unusedSimpArgs false
set_option linter.unusedVariables false
set_option maxRecDepth 100000
namespace Go.Proofs.YtfjlpifaaknmpaaGreat
open Go.RowKit

/-- The program's Stripes and the document's, apart from each other, both new since w0. -/
structure Duo (F G : Nat → Prop) (w0 w : World) (s a t r : Nat) (g : SP.Geo) (R : AM.Raw) : Prop where
  i : SI F w s a g R
  j : RSI G w t r g R
  ap : ∀ k, F k → G k → False
  bi : ∀ k, F k → w0.heap.size ≤ k
  bj : ∀ k, G k → w0.heap.size ≤ k
  ls : w0.heap.size ≤ s
  lt : w0.heap.size ≤ t
  nt : ¬ F t
  ns : ¬ G s
  gr : w0.grownBy w none

section
variable {F G F' G' : Nat → Prop} {w0 w w' : World} {s a t r : Nat} {g : SP.Geo} {R R' : AM.Raw}
theorem Duo.keep (h : Duo F G w0 w s a t r g R) (gr : w.grownBy w' none) : Duo F G w0 w' s a t r g R :=
  ⟨h.i.keep gr, h.j.keep gr, h.ap, h.bi, h.bj, h.ls, h.lt, h.nt, h.ns, grown_trans h.gr gr⟩

set_option maxHeartbeats 6400000 in
theorem made8_yes (w : World) {k more S f : Nat} (h1 : 1 ≤ k) (h2 : 1 ≤ more) (h3 : k + more ≤ 255) (h4 : 1 ≤ S) (h5 : S ≤ 128) (h6 : f + 8 * S ≤ 4096) :
    Calls Tryz.prog 7 #[.int .i64 (k : Int), .int .i64 (more : Int), .int .i64 (S : Int), .int .i64 (f : Int)] w fun e w' => ∃ s t, e = .returned (.tuple #[ptr s, .pointer (some ⟨t, 0, none⟩)]) ∧ ∃ F G a r, Duo F G w w' s a t r ⟨k, k + more, S, f⟩ (AM.Raw.new (k + more) (f + 8 * S)) := by
  obtain ⟨N, hN⟩ : ∃ N, N = k + more := ⟨_, rfl⟩
  obtain ⟨n, hn⟩ : ∃ n, n = f + 8 * S := ⟨_, rfl⟩
  rw [← hN, ← hn]
  have hw1 : IntKind.i64.wrap ((k : Int) + (more : Int)) = (N : Int) := by
    have e : (k : Int) + (more : Int) = (N : Int) := by omega
    rw [e]; exact IntWalk.i64_in _ (by omega)
  have hw2 : IntKind.i64.wrap (8 * (S : Int)) = 8 * (S : Int) := IntWalk.i64_in _ (by omega)
  have hw3 : IntKind.i64.wrap ((f : Int) + 8 * (S : Int)) = (n : Int) := by
    have e : (f : Int) + 8 * (S : Int) = (n : Int) := by omega
    rw [e]; exact IntWalk.i64_in _ (by omega)
  have HG : Hid (∀ R : AM.Raw, R.C.length = N → R.n = n → SP.Geo.Ok ⟨k, N, S, f⟩ R) := fun R e1 e2 => ⟨h1, by show k < N; omega, by show N ≤ 255; omega, h4, h5, by show f + 8 * S ≤ R.n; omega, e1⟩
  have HNN : Hid (1 ≤ N ∧ N ≤ 255 ∧ 1 ≤ n ∧ n ≤ 4096) := ⟨by omega, by omega, by omega, by omega⟩
  have HB : Hid (∀ w', (w.alloc (.cells #[.int .i64 (k : Int), .int .i64 (N : Int), .int .i64 (S : Int)] 32)).grownBy w' none → w'.cell? ⟨w.heap.size, 0, none⟩ = some (.int .i64 (k : Int)) ∧ w'.cell? ⟨w.heap.size, 1, none⟩ = some (.int .i64 (N : Int)) ∧ w'.cell? ⟨w.heap.size, 2, none⟩ = some (.int .i64 (S : Int))) := fun w' g1 => by
    have h0 := heap_alloc_new w (.cells #[.int .i64 (k : Int), .int .i64 (N : Int), .int .i64 (S : Int)] 32)
    exact ⟨g1.cell (cell_of_row _ _ 0 _ _ _ h0) (by simp), g1.cell (cell_of_row _ _ 1 _ _ _ h0) (by simp), g1.cell (cell_of_row _ _ 2 _ _ _ h0) (by simp)⟩
  have HR : Hid ((AM.Raw.new N n).C.length = N ∧ (AM.Raw.new N n).n = n ∧ AM.Sim (AM.Raw.new N n) (AM.RA.new N n)) := ⟨by simp [AM.Raw.new], rfl, AM.sim_new (by omega) (by omega) (by omega) (by omega)⟩
  have GA : Hid (w.grownBy (w.alloc (.cells #[.int .i64 (k : Int), .int .i64 (N : Int), .int .i64 (S : Int)] 32)) none) := World.grownBy_alloc w _ none
  clear h1 h2 h3 h4 h5 h6 hN hn
  go_enter Tryz.func7, Tryz.ntmps7
  go_wp2_with (first
    | (go_at_call 41; refine (new_at HNN.out.1 HNN.out.2.1 HNN.out.2.2.1 HNN.out.2.2.2 rfl rfl).mono ?_; rintro e w1 ⟨a, rfl, F, i1, b1⟩; have I1 : Hid (Is F w1 a (AM.Raw.new N n)) := i1; have B1 : Hid (Base (w.alloc (.cells #[.int .i64 (k : Int), .int .i64 (N : Int), .int .i64 (S : Int)] 32)) F w1) := b1; obtain ⟨b10, b11, b12⟩ := HB.out _ b1.grown; clear i1 b1)
    | fail)
  clear b10 b12
  go_wp2_with (first
    | (go_at_call 42; refine (rnew_at HNN.out.1 HNN.out.2.1 HNN.out.2.2.1 HNN.out.2.2.2 rfl rfl).mono ?_; rintro e w2 ⟨r, rfl, G, j2, b2⟩; have J2 : Hid (RIs G w2 r (AM.RA.new N n)) := j2; have B2 : Hid (Base w1 G w2) := b2; obtain ⟨b20, b21, b22⟩ := HB.out _ (grown_trans B1.out.grown b2.grown); clear j2 b2)
    | fail)
  have I2 : Hid (Is F w2 a (AM.Raw.new N n)) := I1.out.keep B2.out.grown
  have AP : Hid ((∀ i, F i → G i → False) ∧ (∀ i, F i → w.heap.size ≤ i) ∧ (∀ i, G i → w.heap.size ≤ i) ∧ (∀ i, F i → i < w1.heap.size) ∧ (∀ i, G i → i < w2.heap.size)) := by
    have s0 := GA.out.size
    have s1 := B1.out.grown.size
    have s2 := B2.out.grown.size
    refine ⟨fun i hf hg => ?_, fun i hf => ?_, fun i hg => ?_, fun i hf => I1.out.lt i hf, fun i hg => J2.out.lt i hg⟩
    · have := I1.out.lt i hf; have := B2.out.lo i hg; omega
    · have := B1.out.lo i hf; omega
    · have := B2.out.lo i hg; omega
  have G2 : Hid (w.grownBy w2 none) := grown_trans GA.out (grown_trans B1.out.grown B2.out.grown)
  have SN : Hid (Calls Tryz.prog 40 #[ptr a, .agg #[.int .i64 (k : Int), .int .i64 (N : Int), .int .i64 (S : Int)], .int .i64 (f : Int)] w2 fun e w' => ∃ s, e = .returned (.tuple #[ptr s, .int .i64 0]) ∧ SI F w' s a ⟨k, N, S, f⟩ (AM.Raw.new N n) ∧ w2.heap.size ≤ s ∧ w2.grownBy w' none) := snew_yes I2.out (HG.out _ HR.out.1 HR.out.2.1)
  have HB2 : Hid (∀ w', w2.grownBy w' none → w'.cell? ⟨w.heap.size, 0, none⟩ = some (.int .i64 (k : Int)) ∧ w'.cell? ⟨w.heap.size, 1, none⟩ = some (.int .i64 (N : Int)) ∧ w'.cell? ⟨w.heap.size, 2, none⟩ = some (.int .i64 (S : Int))) := fun w' g1 => HB.out _ (grown_trans (grown_trans B1.out.grown B2.out.grown) g1)
  have SZ : Hid (w1.heap.size ≤ w2.heap.size) := B2.out.grown.size
  clear I1 B1 B2 b11 HB
  go_wp2_with (first
    | (go_at_call 40; refine SN.out.mono ?_; rintro e w3 ⟨s, rfl, i3, l3, g3⟩; have I3 : Hid (SI F w3 s a ⟨k, N, S, f⟩ (AM.Raw.new N n) ∧ w2.heap.size ≤ s) := ⟨i3, l3⟩; have G3 : Hid (w2.grownBy w3 none) := g3; obtain ⟨b30, b31, b32⟩ := HB2.out _ g3; clear i3 l3 g3)
    | fail)
  have RN : Hid (Calls Tryz.prog 43 #[rptr r, .agg #[.int .i64 (k : Int), .int .i64 (N : Int), .int .i64 (S : Int)], .int .i64 (f : Int)] w3 fun e w' => ∃ t, e = .returned (.tuple #[.pointer (some ⟨t, 0, none⟩), .int .i64 0]) ∧ RSI G w' t r ⟨k, N, S, f⟩ (AM.Raw.new N n) ∧ w3.heap.size ≤ t ∧ w3.grownBy w' none) := rsnew_yes (J2.out.keep G3.out) HR.out.2.2 (HG.out _ HR.out.1 HR.out.2.1)
  clear SN J2 I2 HB2
  go_wp2_with (go_at_call 43; refine RN.out.mono ?_; rintro e w4 ⟨t, rfl, j4, l4, g4⟩; have J4 : Hid (RSI G w4 t r ⟨k, N, S, f⟩ (AM.Raw.new N n) ∧ w3.heap.size ≤ t) := ⟨j4, l4⟩; have G4 : Hid (w3.grownBy w4 none) := g4; clear j4 l4 g4)
  go_ret2
  have s0 := G2.out.size
  have s1 := SZ.out
  have s3 := G3.out.size
  have s4 := J4.out.2
  have s5 := I3.out.2
  exact ⟨_, _, rfl, F, G, a, r, I3.out.1.keep G4.out, J4.out.1, AP.out.1, AP.out.2.1, AP.out.2.2.1, by omega, by omega, fun hf => by have := AP.out.2.2.2.1 _ hf; omega, fun hg => by have := AP.out.2.2.2.2 _ hg; omega, grown_trans G2.out (grown_trans G3.out G4.out)⟩
end
end Go.Proofs.YtfjlpifaaknmpaaGreat

/- Appends to rows of ints; what stays apart. -/
set_option linter.unusedVariables false
set_option maxRecDepth 100000
namespace Go.Proofs.YtfjlpifaaknmpaaGreat
open Go.RowKit

/-- Rows of two element types lie in two blocks. -/
theorem row_apart {B B' : Nat} {w : World} {e e' : TypeId} {v u : Value} {n m : Nat} {xs ys : List Value} (ne : e ≠ e') (hv : w.ownsRow B e 1 v n xs) (hu : w.ownsRow B' e' 1 u m ys) : Ap v u := by
  unfold Ap
  rcases hv.2 with ⟨rfl, _⟩ | ⟨g, cap, cur, rfl, _, hg, _⟩
  · exact .inl rfl
  · rcases hu.2 with ⟨rfl, _⟩ | ⟨g', cap', cur', rfl, _, hg', _⟩
    · exact .inr (by simp [Value.ownBlock])
    · refine .inr fun h => ?_
      have e1 : g = g' := by simpa [Value.ownBlock] using h
      subst e1
      rw [hg] at hg'
      injection hg' with h1
      injection h1 with _ h2 _
      exact ne h2
theorem IOwn.kept {B : Nat} {w w' : World} {v : Value} {ls : List Int} {row : Option Nat} (h : IOwn B w v ls) (g : w.grownBy w' row) (ne : v.ownBlock = none ∨ v.ownBlock ≠ row) : IOwn B w' v ls := ⟨h.len, h.row.kept g ne⟩
theorem IOwn.hi {B : Nat} {w : World} {v : Value} {ls : List Int} (h : IOwn B w v ls) : Hi w.heap.size v := fun k hk => (h.row.lt k hk).2
theorem IOwn.nil (B : Nat) (w : World) : IOwn B w (.slice none 0 0) [] := ⟨by simp, World.ownsRow_nil w B 3 1⟩
theorem IVec.kept {w w' : World} {v : Value} {ls : List Int} {row : Option Nat} (h : IVec w v ls) (g : w.grownBy w' row) (ne : v.ownBlock = none ∨ v.ownBlock ≠ row) : IVec w' v ls := by
  obtain ⟨h2, p, cap, rfl, h3, h4, h5⟩ := h
  refine ⟨h2, p, cap, rfl, h3, h4, fun hx => ?_⟩
  obtain ⟨b, off, rfl, hc⟩ := h5 hx
  refine ⟨b, off, rfl, fun j hj => g.cell (hc j hj) ?_⟩
  rcases ne with ne | ne
  · simp [Value.ownBlock] at ne
  · simpa [Value.ownBlock] using ne
theorem IVec.cut {w : World} {p : Option Addr} {len cap c' : Nat} {ls : List Int} (h : IVec w (.slice p len cap) ls) {n : Nat} (hn : n ≤ ls.length) (hc : n ≤ c') (hm : c' ≤ cap) : IVec w (.slice p n c') (ls.take n) := by
  obtain ⟨h2, p', cap', e, h3, h4, h5⟩ := h
  injection e with e1 e2 e3
  subst e1
  subst e3
  have hl : (ls.take n).length = n := by simp; omega
  refine ⟨by omega, p, c', by rw [hl], by omega, by omega, fun hne => ?_⟩
  obtain ⟨b, off, e, hc⟩ := h5 (fun e => hne (by rw [e]; simp))
  refine ⟨b, off, e, fun j hj => ?_⟩
  rw [hl] at hj
  rw [hc j (by omega)]
  simp [List.getD, hj]
theorem IVec.tail {w : World} {b off len cap : Nat} {ls : List Int} (h : IVec w (.slice (some ⟨b, off, none⟩) len cap) ls) {n : Nat} (hn : n ≤ ls.length) : IVec w (.slice (some ⟨b, off + n, none⟩) (len - n) (cap - n)) (ls.drop n) := by
  obtain ⟨h2, p', cap', e, h3, h4, h5⟩ := h
  injection e with e1 e2 e3
  subst e3
  have hl : (ls.drop n).length = len - n := by simp; omega
  refine ⟨by omega, _, _, by rw [hl], by omega, by omega, fun hne => ⟨b, off + n, rfl, fun j hj => ?_⟩⟩
  rw [hl] at hj
  obtain ⟨b', off', e', hc⟩ := h5 (fun e => hne (by rw [e]; simp))
  rw [← e1] at e'
  injection e' with e'
  injection e' with e3 e4
  subst e3
  subst e4
  rw [Nat.add_assoc, hc (n + j) (by omega)]
  simp [List.getD]
theorem IVec.none {w : World} (p : Option Addr) (c : Nat) (hc : c ≤ maxLen) : IVec w (.slice p 0 c) [] := ⟨by simp, p, c, rfl, by simp, hc, fun h => absurd rfl h⟩

theorem run_append_int {B : Nat} {w : World} {dv : Value} {ls : List Int} (hd : IOwn B w dv ls) (ad : Addr) {x : Int} (hu : w.cell? ad = some (.int .i64 x)) (hB : B ≤ w.heap.size) (hl : (ls.length + 1) * 8 ≤ 140737488351232) (ty : TypeId) :
    ∃ v' w', (Builtin.append_ #[95, 95] ty #[dv, .slice (some ad) 1 1]).run Tryz.prog w = .ok v' w' ∧ IOwn B w' v' (ls ++ [x]) ∧ w.grownBy w' dv.ownBlock ∧ (v'.ownBlock = dv.ownBlock ∨ v'.ownBlock = some w.heap.size) := by
  obtain ⟨i0, hi, hz0, hz1, hz2⟩ := info_parts Tryz.infoI
  obtain ⟨v', w', r1, r2, r3, _, r5⟩ := run_append_own_at (P := Tryz.prog) w B 95 ty 3 i0 (.int .i64 0) 1 8 Tryz.underlying95 hi hz0 hz1 hz2 rfl (by decide) dv ls.length _ hd.row ad 1 1 [.int .i64 x] (by simp)
    (fun j v hj => by
      match j, hj with
      | 0, hj => simp at hj; subst hj; simpa [Addr.add] using hu)
    (fun v hv => by simp at hv; subst hv; rfl) (by unfold maxLen; omega) (by omega) hB
  exact ⟨v', w', r1, ⟨by simpa using hl, by simpa using r2⟩, r3, r5⟩
theorem step_append_int {ops : Array Oper} {o : Oper} {a : Act} {w : World} {K : Act → World → Prop} {Q : Exit → Act → World → Prop} {E : Prop} (hgd : o.guard = none) (d s : Operand)
    (ho : o.op = .call { callee := .builtin .append, args := #[d, s], argTypes := #[95, 95] }) (dv : Value) (ad : Addr) (hed : a.eval d = dv) (hes : a.eval s = .slice (some ad) 1 1)
    {B : Nat} {ls : List Int} {x : Int} (hd : IOwn B w dv ls) (hu : w.cell? ad = some (.int .i64 x)) (hB : B ≤ w.heap.size) (hl : (ls.length + 1) * 8 ≤ 140737488351232)
    (h : ∀ v' w', IOwn B w' v' (ls ++ [x]) → w.grownBy w' dv.ownBlock → (v'.ownBlock = dv.ownBlock ∨ v'.ownBlock = some w.heap.size) → K (a.put o.dst v') w') :
    if Region.wanted o (yielded ops a.tmps) = true then Oper.wp Tryz.prog o a w K Q else E := by
  have hw : Region.wanted o (yielded ops a.tmps) = true := by simp [Region.wanted, hgd]
  rw [if_pos hw]
  obtain ⟨v', w', hrun, r1, r2, r3⟩ := run_append_int hd ad hu hB hl o.type
  unfold Oper.wp
  simp [execOp, ho, resolve, invoke, builtin, hed, hes, hrun, Result.andThen]
  exact h _ _ r1 r2 r3

end Go.Proofs.YtfjlpifaaknmpaaGreat

/- A region that draws its order, whose last two operations come one behind the other, behind all the others. No text of the program is named. -/
set_option linter.unusedSimpArgs false
set_option linter.unusedVariables false
set_option maxRecDepth 100000
namespace Go.Proofs.YtfjlpifaaknmpaaGreat

section
variable {P : Program} {md : Region.Mode} {Q : Exit → Act → World → Prop} {S : World → Prop}

theorem held_of_any {ops : Array Oper} : ∀ (fuel : Nat) (listed : Array Bool) (a : Act) (w : World), wpAny P md ops Q fuel listed a w → wpAnyH P md ops Q (fun _ => True) fuel listed a w
  | 0, _, _, _, h => h
  | fuel + 1, _, _, _, h => ⟨h.1, fun i hi => wpOp_mono (fun a' w' h' => ⟨trivial, held_of_any fuel _ a' w' h'⟩) (h.2 i hi)⟩

theorem region_last2 {id : Nat} {ops all : Array Oper} {o1 o2 : Oper} {a : Act} {w : World} (he : all = (ops.push o1).push o2) (hm : P.follows .mixedOrders = true) (hl1 : lastOk .any (ops.push o1) = true) (hl2 : lastOk .any ((ops.push o1).push o2) = true) (hS : S w.drew)
    (h : S w.drew → wpAnyH P .any ops (lastQ P (ops.push o1) o1 (lastQ P ((ops.push o1).push o2) o2 Q)) S ops.size (Array.replicate ops.size false) a w.drew) : (Code.region id all true).wp P Q a w := by
  refine region_last (S := fun _ => True) he hm hl2 trivial (fun _ => ?_)
  have := any_last (Q := lastQ P ((ops.push o1).push o2) o2 Q) (S := S) (lastOk_of hl1) ops.size (Array.replicate ops.size false) a w.drew (by simp) (fun j o ho hj => by
    by_cases c : j < ops.size <;> simp [c] at hj) (h hS)
  have e : Array.replicate (ops.push o1).size false = (Array.replicate ops.size false).push false := by rw [Array.size_push, Array.replicate_succ]
  rw [e, Array.size_push]
  exact held_of_any _ _ _ _ this
theorem push_of_back {all ops : Array Oper} {oL : Oper} (hp : all.pop = ops) (hb : all.back? = some oL) : all = ops.push oL := by
  subst hp
  have hne : all.size ≠ 0 := fun h0 => by
    have : all = #[] := Array.eq_empty_of_size_eq_zero h0
    subst this
    simp at hb
  rw [Array.back?_eq_getElem?] at hb
  obtain ⟨h1, h2⟩ := Array.getElem?_eq_some_iff.1 hb
  apply Array.ext_getElem?
  intro k
  rw [Array.getElem?_push, Array.getElem?_pop, Array.size_pop]
  by_cases c : k = all.size - 1
  · subst c; simp [hb]
  · by_cases c2 : k < all.size - 1
    · simp [c]
      intro hk
      omega
    · simp [c]
      intro hk
      omega
theorem region_late2 {id : Nat} {ops ops1 all : Array Oper} {o1 o2 : Oper} {a : Act} {w : World} (hp2 : all.pop = ops1) (hp1 : ops1.pop = ops) (hb2 : all.back? = some o2) (hb1 : ops1.back? = some o1) (hm : P.follows .mixedOrders = true)
    (hl1 : lastOk .any ops1 = true) (hl2 : lastOk .any all = true) (hS : S w.drew)
    (h : S w.drew → wpAnyH P .any ops (lastQ P ops1 o1 (lastQ P all o2 Q)) S ops.size (Array.replicate ops.size false) a w.drew) : (Code.region id all true).wp P Q a w := by
  have e1 := push_of_back hp1 hb1
  have e2 := push_of_back hp2 hb2
  subst e1
  subst e2
  exact region_last2 (S := S) rfl hm hl1 hl2 hS h
end
end Go.Proofs.YtfjlpifaaknmpaaGreat

/- Contracts of the closure within stripe.Read. -/
set_option linter.unusedSimpArgs false
set_option linter.unusedVariables false
set_option maxRecDepth 100000
namespace Go.Proofs.YtfjlpifaaknmpaaGreat
open Go.RowKit

/-- What the closure within Read captured: the stamp, the disks found so far, their data so far, the Stripes. -/
structure RdI (w0 : World) (B0 A D Sb s m : Nat) (w : World) (va va' : Value) (l : List Nat) (vt vt' : Value) (us : List Value) (X : List (List Nat)) : Prop where
  b0 : Boxed w B0 39 (.int .u64 (m : Int))
  ba : Boxed w A 95 va
  bd : Boxed w D 87 vt
  bs : Boxed w Sb 27 (ptr s)
  ia : IOwn w0.heap.size w va' (SP.ints l)
  mt : RMat 5 w0.heap.size w vt' us X
  lA : w0.heap.size ≤ A
  lD : w0.heap.size ≤ D
  gr : w0.grownBy w none

theorem boxed_ne {w : World} {A D : Nat} {t t' : TypeId} {u v : Value} (h : Boxed w A t u) (h' : Boxed w D t' v) (ne : t ≠ t') : A ≠ D := fun e => by
  subst e
  have h3 := (show w.heap[A]? = _ from h).symm.trans (show w.heap[A]? = _ from h')
  simp at h3
  exact ne h3.2
theorem RMat.boxed {T : TypeId} {B A : Nat} {w : World} {v u : Value} {us : List Value} {X : List (List Nat)} {t : TypeId} (h : RMat T B w v us X) (hb : Boxed w A t u) (h1 : t ≠ 40) (h2 : t ≠ T) {w' : World} (g : w.grownBy w' (some A)) : RMat T B w' v us X :=
  h.kept g (fun r hr c f => by
    obtain rfl := Option.some.inj hr
    rw [show w.heap[A]? = _ from hb]
    simp [h1, h2])
theorem RMat.rowed {T : TypeId} {B B' n : Nat} {w : World} {v u : Value} {us xs : List Value} {X : List (List Nat)} {t : TypeId} (h : RMat T B w v us X) (hr : w.ownsRow B' t 1 u n xs) (h1 : t ≠ 40) (h2 : t ≠ T) {w' : World} (g : w.grownBy w' u.ownBlock) : RMat T B w' v us X :=
  h.kept g (fun r e c f => by
    obtain ⟨c', hc'⟩ := rowBlock hr e
    rw [hc']
    simp [h1, h2])

section
variable {w0 w w' : World} {B0 A D Sb s m : Nat} {va va' vt vt' : Value} {l : List Nat} {us : List Value} {X : List (List Nat)}
theorem RdI.keep (h : RdI w0 B0 A D Sb s m w va va' l vt vt' us X) (g : w.grownBy w' none) : RdI w0 B0 A D Sb s m w' va va' l vt vt' us X :=
  ⟨h.b0.kept g (by simp), h.ba.kept g (by simp), h.bd.kept g (by simp), h.bs.kept g (by simp), h.ia.keep g, h.mt.keep g, h.lA, h.lD, grown_trans h.gr g⟩
theorem RdI.cells (h : RdI w0 B0 A D Sb s m w va va' l vt vt' us X) : w.cell? ⟨A, 0, none⟩ = some va ∧ w.cell? ⟨D, 0, none⟩ = some vt := ⟨h.ba.cell, h.bd.cell⟩
theorem RdI.app1 (h : RdI w0 B0 A D Sb s m w va va' l vt vt' us X) {v2 : Value} {j : Nat} (o : IOwn w0.heap.size w' v2 (SP.ints l ++ [(j : Int)])) (g : w.grownBy w' va'.ownBlock) : RdI w0 B0 A D Sb s m w' va v2 (l ++ [j]) vt vt' us X :=
  ⟨h.b0.kept g (h.b0.not_row (by decide) h.ia.row), h.ba.kept g (h.ba.not_row (by decide) h.ia.row), h.bd.kept g (h.bd.not_row (by decide) h.ia.row), h.bs.kept g (h.bs.not_row (by decide) h.ia.row), by rw [SP.ints_app]; exact o, h.mt.rowed h.ia.row (by decide) (by decide) g, h.lA, h.lD, grown_new h.gr g (fun i e => h.ia.lo i e)⟩
theorem RdI.app2 (h : RdI w0 B0 A D Sb s m w va va' l vt vt' us X) {v2 v : Value} {ys : List Nat} (hu : Arr 5 w0.heap.size w v ys) (hl : (us.length + 1) * 24 ≤ 140737488351232) (hr : w'.ownsRow w0.heap.size 40 1 v2 (us.length + 1) (us ++ [v])) (g : w.grownBy w' vt'.ownBlock) : RdI w0 B0 A D Sb s m w' va va' l vt v2 (us ++ [v]) (X ++ [ys]) :=
  ⟨h.b0.kept g (h.b0.not_row (by decide) h.mt.row), h.ba.kept g (h.ba.not_row (by decide) h.mt.row), h.bd.kept g (h.bd.not_row (by decide) h.mt.row), h.bs.kept g (h.bs.not_row (by decide) h.mt.row), h.ia.kept g (row_apart (by decide) h.ia.row h.mt.row), h.mt.more (by decide) hu hl hr g, h.lA, h.lD, grown_new h.gr g (fun i e => h.mt.lo i e)⟩
theorem IOwn.boxed {B A : Nat} {w w' : World} {v u : Value} {ls : List Int} {t : TypeId} (h : IOwn B w v ls) (hb : Boxed w A t u) (ht : t ≠ 3) (g : w.grownBy w' (some A)) : IOwn B w' v ls :=
  h.kept g (by
    have := hb.not_row ht h.row
    cases e : v.ownBlock with
    | none => exact .inl rfl
    | some k => exact .inr (fun e2 => this (by rw [e, ← e2])))
theorem RdI.setA (h : RdI w0 B0 A D Sb s m w va va' l vt vt' us X) : RdI w0 B0 A D Sb s m (w.setCell ⟨A, 0, none⟩ va') va' va' l vt vt' us X :=
  have g := grownBy_setCell' w A va'
  ⟨h.b0.kept g (fun e => boxed_ne h.b0 h.ba (by decide) (Option.some.inj e)), h.ba.set _, h.bd.kept g (fun e => boxed_ne h.bd h.ba (by decide) (Option.some.inj e)), h.bs.kept g (fun e => boxed_ne h.bs h.ba (by decide) (Option.some.inj e)), h.ia.boxed h.ba (by decide) g, h.mt.boxed h.ba (by decide) (by decide) g, h.lA, h.lD, grown_new h.gr g (fun i e => by have := Option.some.inj e; have := h.lA; omega)⟩
theorem RdI.setD (h : RdI w0 B0 A D Sb s m w va va' l vt vt' us X) : RdI w0 B0 A D Sb s m (w.setCell ⟨D, 0, none⟩ vt') va va' l vt' vt' us X :=
  have g := grownBy_setCell' w D vt'
  ⟨h.b0.kept g (fun e => boxed_ne h.b0 h.bd (by decide) (Option.some.inj e)), h.ba.kept g (fun e => boxed_ne h.ba h.bd (by decide) (Option.some.inj e)), h.bd.set _, h.bs.kept g (fun e => boxed_ne h.bs h.bd (by decide) (Option.some.inj e)), h.ia.boxed h.bd (by decide) g, h.mt.boxed h.bd (by decide) (by decide) g, h.lA, h.lD, grown_new h.gr g (fun i e => by have := Option.some.inj e; have := h.lD; omega)⟩

set_option maxHeartbeats 3200000 in
/-- A chunk of another stamp. -/
theorem rd_no (h : RdI w0 B0 A D Sb s m w va va l vt vt us X) {j n k : Nat} {v : Value} (hn : n ≠ m) (hK : ∀ w', w0.grownBy w' none → w'.cell? ⟨s, 1, none⟩ = some (.int .i64 (k : Int))) :
    Calls Tryz.prog 56 #[.int .i64 (j : Int), .int .u64 (n : Int), v, .pointer (some ⟨B0, 0, none⟩), .pointer (some ⟨A, 0, none⟩), .pointer (some ⟨D, 0, none⟩), .pointer (some ⟨Sb, 0, none⟩)] w fun e w' => e = .returned (.bool (decide (l.length < k))) ∧ RdI w0 B0 A D Sb s m w' va va l vt vt us X := by
  obtain ⟨ap, an, ac, rfl, ha⟩ := h.ia.ivec.opened
  have HA : Hid (an = l.length) := by show _ = _; rw [ha, SP.ints_len]
  have T : Hid (RdI w0 B0 A D Sb s m w (.slice ap an ac) (.slice ap an ac) l vt vt us X) := h
  have HK : Hid (∀ w', w0.grownBy w' none → w'.cell? ⟨s, 1, none⟩ = some (.int .i64 (k : Int))) := hK
  have hne : ((n : Int) == (m : Int)) = false := eqb_no hn
  have c0 := h.b0.cell
  clear h ha hK hn
  go_enter Tryz.func56, Tryz.ntmps56
  go_wp2_with fail
  have HS9 : Hid (∀ w', w.grownBy w' none → w'.cell? ⟨A, 0, none⟩ = some (.slice ap an ac) ∧ w'.cell? ⟨Sb, 0, none⟩ = some (ptr s) ∧ w'.cell? ⟨s, 1, none⟩ = some (.int .i64 (k : Int))) := fun w' g' => ⟨(T.out.keep g').ba.cell, (T.out.keep g').bs.cell, HK.out w' (T.out.keep g').gr⟩
  clear c0
  go_region_held3 (fun w' => w'.cell? ⟨A, 0, none⟩ = some (.slice ap an ac) ∧ w'.cell? ⟨Sb, 0, none⟩ = some (ptr s) ∧ w'.cell? ⟨s, 1, none⟩ = some (.int .i64 (k : Int))) (exact HS9.out _ (grown_drewN w 1)) (fail)
  go_wp2
  go_ret
  exact ⟨by rw [HA.out]; rfl, T.out.keep (grown_drewN w 1)⟩

set_option maxHeartbeats 12800000 in
/-- A chunk of the stamp. -/
theorem rd_yes {vp : Option Addr} {vn vc : Nat} (h : RdI w0 B0 A D Sb s m w va va l (.slice vp vn vc) (.slice vp vn vc) us X) {j k : Nat} {pv : Option Addr} {nv cv : Nat} {ys : List Nat} (hv : Own w0.heap.size w (.slice pv nv cv) ys) (hl : l.length < 255) (hl2 : us.length < 255) (hK : ∀ w', w0.grownBy w' none → w'.cell? ⟨s, 1, none⟩ = some (.int .i64 (k : Int))) :
    Calls Tryz.prog 56 #[.int .i64 (j : Int), .int .u64 (m : Int), .slice pv nv cv, .pointer (some ⟨B0, 0, none⟩), .pointer (some ⟨A, 0, none⟩), .pointer (some ⟨D, 0, none⟩), .pointer (some ⟨Sb, 0, none⟩)] w fun e w' => e = .returned (.bool (decide ((l ++ [j]).length < k))) ∧ ∃ va' vt' us', RdI w0 B0 A D Sb s m w' va' va' (l ++ [j]) vt' vt' us' (X ++ [ys]) := by
  have HK : Hid (∀ w', w0.grownBy w' none → w'.cell? ⟨s, 1, none⟩ = some (.int .i64 (k : Int))) := hK
  have hne : ((m : Int) == (m : Int)) = true := eqb_yes rfl
  have c0 := h.b0.cell
  have HL : Hid (((SP.ints l).length + 1) * 8 ≤ 140737488351232 ∧ (us.length + 1) * 24 ≤ 140737488351232) := ⟨by rw [SP.ints_len]; omega, by omega⟩
  have HLL : Hid ((l ++ [j]).length = l.length + 1) := by show _ = _; simp
  have T : Hid (RdI w0 B0 A D Sb s m w.drew va va l (.slice vp vn vc) (.slice vp vn vc) us X) := h.keep (gb_drew (World.grownBy.refl _ _))
  obtain ⟨H, hH⟩ : ∃ H, H = w0.heap.size := ⟨_, rfl⟩
  have V : Hid (Own w0.heap.size w.drew (.slice pv nv cv) ys) := hv.keep (gb_drew (World.grownBy.refl _ _))
  clear h hv hl hl2 hK hH H
  go_enter Tryz.func56, Tryz.ntmps56
  go_wp2_with fail
  clear c0 hne
  refine region_late2 (S := fun w' => w'.cell? ⟨A, 0, none⟩ = some va ∧ w'.cell? ⟨D, 0, none⟩ = some (.slice vp vn vc)) (by simp only [List.pop_toArray, List.dropLast]; exact rfl) (by simp only [List.pop_toArray, List.dropLast]; exact rfl) (by rfl) (by rfl) (by kernel_rfl) (by kernel_rfl) (by kernel_rfl) ?_ (fun hHeld => ?_)
  · exact T.out.cells
  generalize w.drew = wd at *
  refine wpAnyH_take (i := 0) (v := ?_) rfl (by kernel_rfl) (by kernel_rfl) (by kernel_rfl) (fun _ _ _ h => h) (Or.inl ⟨by rfl, ?_⟩) (by assumption) ?_
  rotate_left
  · intro w hSw; (try dsimp only at hSw); obtain ⟨hS1, hS2⟩ := hSw; first | (go_simp; done) | (go_simp; with_reducible rfl)
  simp only [Act.put, List.getElem_toArray, List.getElem_cons_succ, List.getElem_cons_zero, List.setIfInBounds_toArray, List.set_cons_zero, List.set_cons_succ]
  refine wpAnyH_take (i := 1) (v := ?_) rfl (by kernel_rfl) (by kernel_rfl) (by kernel_rfl) (fun _ _ _ h => h) (Or.inl ⟨by rfl, ?_⟩) (by assumption) ?_
  rotate_left
  · intro w hSw; (try dsimp only at hSw); obtain ⟨hS1, hS2⟩ := hSw; first | (go_simp; done) | (go_simp; with_reducible rfl)
  simp only [Act.put, List.getElem_toArray, List.getElem_cons_succ, List.getElem_cons_zero, List.setIfInBounds_toArray, List.set_cons_zero, List.set_cons_succ]
  refine wpAnyH_take (i := 4) (v := ?_) rfl (by kernel_rfl) (by kernel_rfl) (by kernel_rfl) (fun _ _ _ h => h) (Or.inl ⟨by rfl, ?_⟩) (by assumption) ?_
  rotate_left
  · intro w hSw; (try dsimp only at hSw); obtain ⟨hS1, hS2⟩ := hSw; first | (go_simp; done) | (go_simp; with_reducible rfl)
  simp only [Act.put, List.getElem_toArray, List.getElem_cons_succ, List.getElem_cons_zero, List.setIfInBounds_toArray, List.set_cons_zero, List.set_cons_succ]
  refine wpAnyH_take (i := 5) (v := ?_) rfl (by kernel_rfl) (by kernel_rfl) (by kernel_rfl) (fun _ _ _ h => h) (Or.inl ⟨by rfl, ?_⟩) (by assumption) ?_
  rotate_left
  · intro w hSw; (try dsimp only at hSw); obtain ⟨hS1, hS2⟩ := hSw; first | (go_simp; done) | (go_simp; with_reducible rfl)
  simp only [Act.put, List.getElem_toArray, List.getElem_cons_succ, List.getElem_cons_zero, List.setIfInBounds_toArray, List.set_cons_zero, List.set_cons_succ]
  refine wpAnyH_ready (rs := [2, 6]) (by kernel_rfl) (by simp) ?_
  refine AllReadyH.cons rfl (fun K hK => ?_) (AllReadyH.cons rfl (fun K hK => ?_) AllReadyH.nil)
  · skip
    go_simp
    have Tn : Hid (RdI w0 B0 A D Sb s m (wd.alloc (.cells #[.int .i64 (j : Int)] 3)) va va l (.slice vp vn vc) (.slice vp vn vc) us X) := T.out.keep (World.grownBy_alloc wd _ none)
    have Vn : Hid (Own w0.heap.size (wd.alloc (.cells #[.int .i64 (j : Int)] 3)) (.slice pv nv cv) ys) := V.out.keep (World.grownBy_alloc wd _ none)
    have C2 : Hid (Boxed (wd.alloc (.cells #[.int .i64 (j : Int)] 3)) wd.heap.size 3 (.int .i64 (j : Int))) := Boxed.new wd _ _
    refine hK.out _ _ (Tn.out.cells) (fun hHeld => ?_)
    clear hK K
    (try simp only [Act.put, List.getElem_toArray, List.getElem_cons_succ, List.getElem_cons_zero, List.setIfInBounds_toArray, List.set_cons_zero, List.set_cons_succ])
    clear T V
    have T := Tn
    have V := Vn
    clear Tn Vn
    obtain ⟨z2, hz2⟩ : ∃ z, z = wd.heap.size := ⟨_, rfl⟩
    rw [← hz2] at C2
    (try rw [← hz2])
    clear hz2
    generalize wd.alloc (.cells #[.int .i64 (j : Int)] 3) = w1 at *
    refine wpAnyH_ready (rs := [3, 6]) (by kernel_rfl) (by simp) ?_
    refine AllReadyH.cons rfl (fun K hK => ?_) (AllReadyH.cons rfl (fun K hK => ?_) AllReadyH.nil)
    · skip
      refine step_append_int (by rfl) _ _ (by rfl) va ⟨z2, 0, none⟩ (by rfl) (by rfl) T.out.ia C2.out.cell T.out.gr.size HL.out.1 ?_
      intro va2 w2 oa ga ata
      have Tn : Hid (RdI w0 B0 A D Sb s m w2 va va2 (l ++ [j]) (.slice vp vn vc) (.slice vp vn vc) us X) := T.out.app1 oa ga
      have Vn : Hid (Own w0.heap.size w2 (.slice pv nv cv) ys) := V.out.kept ga (row_apart (by decide) V.out.row T.out.ia.row)
      clear oa ga ata
      refine hK.out _ _ (Tn.out.cells) (fun hHeld => ?_)
      clear hK K
      (try simp only [Act.put, List.getElem_toArray, List.getElem_cons_succ, List.getElem_cons_zero, List.setIfInBounds_toArray, List.set_cons_zero, List.set_cons_succ])
      clear T V C2
      have T := Tn
      have V := Vn
      clear Tn Vn
      refine wpAnyH_ready (rs := [6]) (by kernel_rfl) (by simp) ?_
      refine AllReadyH.cons rfl (fun K hK => ?_) AllReadyH.nil
      go_simp
      have Tn : Hid (RdI w0 B0 A D Sb s m (w2.alloc (.cells #[.slice pv nv cv] 40)) va va2 (l ++ [j]) (.slice vp vn vc) (.slice vp vn vc) us X) := T.out.keep (World.grownBy_alloc w2 _ none)
      have Vn : Hid (Own w0.heap.size (w2.alloc (.cells #[.slice pv nv cv] 40)) (.slice pv nv cv) ys) := V.out.keep (World.grownBy_alloc w2 _ none)
      have C6 : Hid (Boxed (w2.alloc (.cells #[.slice pv nv cv] 40)) w2.heap.size 40 (.slice pv nv cv)) := Boxed.new w2 _ _
      refine hK.out _ _ (Tn.out.cells) (fun hHeld => ?_)
      clear hK K
      (try simp only [Act.put, List.getElem_toArray, List.getElem_cons_succ, List.getElem_cons_zero, List.setIfInBounds_toArray, List.set_cons_zero, List.set_cons_succ])
      clear T V
      have T := Tn
      have V := Vn
      clear Tn Vn
      obtain ⟨z6, hz6⟩ : ∃ z, z = w2.heap.size := ⟨_, rfl⟩
      rw [← hz6] at C6
      (try rw [← hz6])
      clear hz6
      generalize w2.alloc (.cells #[.slice pv nv cv] 40) = w3 at *
      refine wpAnyH_ready (rs := [7]) (by kernel_rfl) (by simp) ?_
      refine AllReadyH.cons rfl (fun K hK => ?_) AllReadyH.nil
      refine step_append_row (by rfl) _ _ (by rfl) (.slice vp vn vc) ⟨z6, 0, none⟩ (by rfl) (by rfl) T.out.mt.row C6.out.cell rfl T.out.gr.size HL.out.2 ?_
      intro vt2 w4 rt gt att
      have Tn : Hid (RdI w0 B0 A D Sb s m w4 va va2 (l ++ [j]) (.slice vp vn vc) vt2 (us ++ [.slice pv nv cv]) (X ++ [ys])) := T.out.app2 V.out.arr HL.out.2 rt gt
      clear rt gt att
      refine hK.out _ _ (Tn.out.cells) (fun hHeld => ?_)
      clear hK K
      (try simp only [Act.put, List.getElem_toArray, List.getElem_cons_succ, List.getElem_cons_zero, List.setIfInBounds_toArray, List.set_cons_zero, List.set_cons_succ])
      clear T V C6
      have T := Tn
      clear Tn
      refine wpAnyH_done (by kernel_rfl) ?_ _
      refine lastQ_normal ?_
      obtain ⟨ap, an, ac, rfl, ha2⟩ := T.out.ia.ivec.opened
      obtain ⟨tp, tn, tc, rfl, ht2⟩ := T.out.mt.mat.row.opened
      have kc := T.out.ba.cell
      have kf := T.out.ba.frozen
      have hal : an = l.length + 1 := by rw [ha2, SP.ints_len]; simp
      have HAL : Hid (an = l.length + 1) := hal
      clear ha2 ht2 hal
      go_wp2
      clear kc kf
      have Tn : Hid (RdI w0 B0 A D Sb s m (w4.setCell ⟨A, 0, none⟩ (.slice ap an ac)) (.slice ap an ac) (.slice ap an ac) (l ++ [j]) (.slice vp vn vc) (.slice tp tn tc) (us ++ [.slice pv nv cv]) (X ++ [ys])) := T.out.setA
      clear T
      have T := Tn
      clear Tn
      generalize w4.setCell ⟨A, 0, none⟩ (.slice ap an ac) = w8 at *
      refine lastQ_normal ?_
      have kc := T.out.bd.cell
      have kf := T.out.bd.frozen
      go_wp2_with fail
      clear kc kf
      have Tn : Hid (RdI w0 B0 A D Sb s m (w8.setCell ⟨D, 0, none⟩ (.slice tp tn tc)) (.slice ap an ac) (.slice ap an ac) (l ++ [j]) (.slice tp tn tc) (.slice tp tn tc) (us ++ [.slice pv nv cv]) (X ++ [ys])) := T.out.setD
      clear T
      have T := Tn
      clear Tn
      generalize w8.setCell ⟨D, 0, none⟩ (.slice tp tn tc) = w9 at *
      have HS9 : Hid (∀ w', w9.grownBy w' none → w'.cell? ⟨A, 0, none⟩ = some (.slice ap an ac) ∧ w'.cell? ⟨Sb, 0, none⟩ = some (ptr s) ∧ w'.cell? ⟨s, 1, none⟩ = some (.int .i64 (k : Int))) := fun w' g' => ⟨(T.out.keep g').ba.cell, (T.out.keep g').bs.cell, HK.out w' (T.out.keep g').gr⟩
      go_region_held3 (fun w' => w'.cell? ⟨A, 0, none⟩ = some (.slice ap an ac) ∧ w'.cell? ⟨Sb, 0, none⟩ = some (ptr s) ∧ w'.cell? ⟨s, 1, none⟩ = some (.int .i64 (k : Int))) (exact HS9.out _ (grown_drewN w9 1)) (fail)
      go_wp2
      go_ret
      exact ⟨by rw [HAL.out, HLL.out]; rfl, _, _, _, T.out.keep (grown_drewN w9 1)⟩
    · skip
      go_simp
      have Tn : Hid (RdI w0 B0 A D Sb s m (w1.alloc (.cells #[.slice pv nv cv] 40)) va va l (.slice vp vn vc) (.slice vp vn vc) us X) := T.out.keep (World.grownBy_alloc w1 _ none)
      have Vn : Hid (Own w0.heap.size (w1.alloc (.cells #[.slice pv nv cv] 40)) (.slice pv nv cv) ys) := V.out.keep (World.grownBy_alloc w1 _ none)
      have C6 : Hid (Boxed (w1.alloc (.cells #[.slice pv nv cv] 40)) w1.heap.size 40 (.slice pv nv cv)) := Boxed.new w1 _ _
      have Cn : Hid (Boxed (w1.alloc (.cells #[.slice pv nv cv] 40)) z2 3 (.int .i64 (j : Int))) := C2.out.alloc _
      refine hK.out _ _ (Tn.out.cells) (fun hHeld => ?_)
      clear hK K
      (try simp only [Act.put, List.getElem_toArray, List.getElem_cons_succ, List.getElem_cons_zero, List.setIfInBounds_toArray, List.set_cons_zero, List.set_cons_succ])
      clear T V C2
      have T := Tn
      have V := Vn
      clear Tn Vn
      have C2 := Cn
      clear Cn
      obtain ⟨z6, hz6⟩ : ∃ z, z = w1.heap.size := ⟨_, rfl⟩
      rw [← hz6] at C6
      (try rw [← hz6])
      clear hz6
      generalize w1.alloc (.cells #[.slice pv nv cv] 40) = w2 at *
      refine wpAnyH_ready (rs := [3]) (by kernel_rfl) (by simp) ?_
      refine AllReadyH.cons rfl (fun K hK => ?_) AllReadyH.nil
      refine step_append_int (by rfl) _ _ (by rfl) va ⟨z2, 0, none⟩ (by rfl) (by rfl) T.out.ia C2.out.cell T.out.gr.size HL.out.1 ?_
      intro va2 w3 oa ga ata
      have Tn : Hid (RdI w0 B0 A D Sb s m w3 va va2 (l ++ [j]) (.slice vp vn vc) (.slice vp vn vc) us X) := T.out.app1 oa ga
      have Vn : Hid (Own w0.heap.size w3 (.slice pv nv cv) ys) := V.out.kept ga (row_apart (by decide) V.out.row T.out.ia.row)
      have Cn : Hid (Boxed w3 z6 40 (.slice pv nv cv)) := C6.out.kept ga (C6.out.not_row (by decide) T.out.ia.row)
      clear oa ga ata
      refine hK.out _ _ (Tn.out.cells) (fun hHeld => ?_)
      clear hK K
      (try simp only [Act.put, List.getElem_toArray, List.getElem_cons_succ, List.getElem_cons_zero, List.setIfInBounds_toArray, List.set_cons_zero, List.set_cons_succ])
      clear T V C2 C6
      have T := Tn
      have V := Vn
      clear Tn Vn
      have C6 := Cn
      clear Cn
      refine wpAnyH_ready (rs := [7]) (by kernel_rfl) (by simp) ?_
      refine AllReadyH.cons rfl (fun K hK => ?_) AllReadyH.nil
      refine step_append_row (by rfl) _ _ (by rfl) (.slice vp vn vc) ⟨z6, 0, none⟩ (by rfl) (by rfl) T.out.mt.row C6.out.cell rfl T.out.gr.size HL.out.2 ?_
      intro vt2 w4 rt gt att
      have Tn : Hid (RdI w0 B0 A D Sb s m w4 va va2 (l ++ [j]) (.slice vp vn vc) vt2 (us ++ [.slice pv nv cv]) (X ++ [ys])) := T.out.app2 V.out.arr HL.out.2 rt gt
      clear rt gt att
      refine hK.out _ _ (Tn.out.cells) (fun hHeld => ?_)
      clear hK K
      (try simp only [Act.put, List.getElem_toArray, List.getElem_cons_succ, List.getElem_cons_zero, List.setIfInBounds_toArray, List.set_cons_zero, List.set_cons_succ])
      clear T V C6
      have T := Tn
      clear Tn
      refine wpAnyH_done (by kernel_rfl) ?_ _
      refine lastQ_normal ?_
      obtain ⟨ap, an, ac, rfl, ha2⟩ := T.out.ia.ivec.opened
      obtain ⟨tp, tn, tc, rfl, ht2⟩ := T.out.mt.mat.row.opened
      have kc := T.out.ba.cell
      have kf := T.out.ba.frozen
      have hal : an = l.length + 1 := by rw [ha2, SP.ints_len]; simp
      have HAL : Hid (an = l.length + 1) := hal
      clear ha2 ht2 hal
      go_wp2
      clear kc kf
      have Tn : Hid (RdI w0 B0 A D Sb s m (w4.setCell ⟨A, 0, none⟩ (.slice ap an ac)) (.slice ap an ac) (.slice ap an ac) (l ++ [j]) (.slice vp vn vc) (.slice tp tn tc) (us ++ [.slice pv nv cv]) (X ++ [ys])) := T.out.setA
      clear T
      have T := Tn
      clear Tn
      generalize w4.setCell ⟨A, 0, none⟩ (.slice ap an ac) = w8 at *
      refine lastQ_normal ?_
      have kc := T.out.bd.cell
      have kf := T.out.bd.frozen
      go_wp2_with fail
      clear kc kf
      have Tn : Hid (RdI w0 B0 A D Sb s m (w8.setCell ⟨D, 0, none⟩ (.slice tp tn tc)) (.slice ap an ac) (.slice ap an ac) (l ++ [j]) (.slice tp tn tc) (.slice tp tn tc) (us ++ [.slice pv nv cv]) (X ++ [ys])) := T.out.setD
      clear T
      have T := Tn
      clear Tn
      generalize w8.setCell ⟨D, 0, none⟩ (.slice tp tn tc) = w9 at *
      have HS9 : Hid (∀ w', w9.grownBy w' none → w'.cell? ⟨A, 0, none⟩ = some (.slice ap an ac) ∧ w'.cell? ⟨Sb, 0, none⟩ = some (ptr s) ∧ w'.cell? ⟨s, 1, none⟩ = some (.int .i64 (k : Int))) := fun w' g' => ⟨(T.out.keep g').ba.cell, (T.out.keep g').bs.cell, HK.out w' (T.out.keep g').gr⟩
      go_region_held3 (fun w' => w'.cell? ⟨A, 0, none⟩ = some (.slice ap an ac) ∧ w'.cell? ⟨Sb, 0, none⟩ = some (ptr s) ∧ w'.cell? ⟨s, 1, none⟩ = some (.int .i64 (k : Int))) (exact HS9.out _ (grown_drewN w9 1)) (fail)
      go_wp2
      go_ret
      exact ⟨by rw [HAL.out, HLL.out]; rfl, _, _, _, T.out.keep (grown_drewN w9 1)⟩
  · skip
    go_simp
    have Tn : Hid (RdI w0 B0 A D Sb s m (wd.alloc (.cells #[.slice pv nv cv] 40)) va va l (.slice vp vn vc) (.slice vp vn vc) us X) := T.out.keep (World.grownBy_alloc wd _ none)
    have Vn : Hid (Own w0.heap.size (wd.alloc (.cells #[.slice pv nv cv] 40)) (.slice pv nv cv) ys) := V.out.keep (World.grownBy_alloc wd _ none)
    have C6 : Hid (Boxed (wd.alloc (.cells #[.slice pv nv cv] 40)) wd.heap.size 40 (.slice pv nv cv)) := Boxed.new wd _ _
    refine hK.out _ _ (Tn.out.cells) (fun hHeld => ?_)
    clear hK K
    (try simp only [Act.put, List.getElem_toArray, List.getElem_cons_succ, List.getElem_cons_zero, List.setIfInBounds_toArray, List.set_cons_zero, List.set_cons_succ])
    clear T V
    have T := Tn
    have V := Vn
    clear Tn Vn
    obtain ⟨z6, hz6⟩ : ∃ z, z = wd.heap.size := ⟨_, rfl⟩
    rw [← hz6] at C6
    (try rw [← hz6])
    clear hz6
    generalize wd.alloc (.cells #[.slice pv nv cv] 40) = w1 at *
    refine wpAnyH_ready (rs := [2]) (by kernel_rfl) (by simp) ?_
    refine AllReadyH.cons rfl (fun K hK => ?_) AllReadyH.nil
    go_simp
    have Tn : Hid (RdI w0 B0 A D Sb s m (w1.alloc (.cells #[.int .i64 (j : Int)] 3)) va va l (.slice vp vn vc) (.slice vp vn vc) us X) := T.out.keep (World.grownBy_alloc w1 _ none)
    have Vn : Hid (Own w0.heap.size (w1.alloc (.cells #[.int .i64 (j : Int)] 3)) (.slice pv nv cv) ys) := V.out.keep (World.grownBy_alloc w1 _ none)
    have C2 : Hid (Boxed (w1.alloc (.cells #[.int .i64 (j : Int)] 3)) w1.heap.size 3 (.int .i64 (j : Int))) := Boxed.new w1 _ _
    have Cn : Hid (Boxed (w1.alloc (.cells #[.int .i64 (j : Int)] 3)) z6 40 (.slice pv nv cv)) := C6.out.alloc _
    refine hK.out _ _ (Tn.out.cells) (fun hHeld => ?_)
    clear hK K
    (try simp only [Act.put, List.getElem_toArray, List.getElem_cons_succ, List.getElem_cons_zero, List.setIfInBounds_toArray, List.set_cons_zero, List.set_cons_succ])
    clear T V C6
    have T := Tn
    have V := Vn
    clear Tn Vn
    have C6 := Cn
    clear Cn
    obtain ⟨z2, hz2⟩ : ∃ z, z = w1.heap.size := ⟨_, rfl⟩
    rw [← hz2] at C2
    (try rw [← hz2])
    clear hz2
    generalize w1.alloc (.cells #[.int .i64 (j : Int)] 3) = w2 at *
    refine wpAnyH_ready (rs := [3]) (by kernel_rfl) (by simp) ?_
    refine AllReadyH.cons rfl (fun K hK => ?_) AllReadyH.nil
    refine step_append_int (by rfl) _ _ (by rfl) va ⟨z2, 0, none⟩ (by rfl) (by rfl) T.out.ia C2.out.cell T.out.gr.size HL.out.1 ?_
    intro va2 w3 oa ga ata
    have Tn : Hid (RdI w0 B0 A D Sb s m w3 va va2 (l ++ [j]) (.slice vp vn vc) (.slice vp vn vc) us X) := T.out.app1 oa ga
    have Vn : Hid (Own w0.heap.size w3 (.slice pv nv cv) ys) := V.out.kept ga (row_apart (by decide) V.out.row T.out.ia.row)
    have Cn : Hid (Boxed w3 z6 40 (.slice pv nv cv)) := C6.out.kept ga (C6.out.not_row (by decide) T.out.ia.row)
    clear oa ga ata
    refine hK.out _ _ (Tn.out.cells) (fun hHeld => ?_)
    clear hK K
    (try simp only [Act.put, List.getElem_toArray, List.getElem_cons_succ, List.getElem_cons_zero, List.setIfInBounds_toArray, List.set_cons_zero, List.set_cons_succ])
    clear T V C2 C6
    have T := Tn
    have V := Vn
    clear Tn Vn
    have C6 := Cn
    clear Cn
    refine wpAnyH_ready (rs := [7]) (by kernel_rfl) (by simp) ?_
    refine AllReadyH.cons rfl (fun K hK => ?_) AllReadyH.nil
    refine step_append_row (by rfl) _ _ (by rfl) (.slice vp vn vc) ⟨z6, 0, none⟩ (by rfl) (by rfl) T.out.mt.row C6.out.cell rfl T.out.gr.size HL.out.2 ?_
    intro vt2 w4 rt gt att
    have Tn : Hid (RdI w0 B0 A D Sb s m w4 va va2 (l ++ [j]) (.slice vp vn vc) vt2 (us ++ [.slice pv nv cv]) (X ++ [ys])) := T.out.app2 V.out.arr HL.out.2 rt gt
    clear rt gt att
    refine hK.out _ _ (Tn.out.cells) (fun hHeld => ?_)
    clear hK K
    (try simp only [Act.put, List.getElem_toArray, List.getElem_cons_succ, List.getElem_cons_zero, List.setIfInBounds_toArray, List.set_cons_zero, List.set_cons_succ])
    clear T V C6
    have T := Tn
    clear Tn
    refine wpAnyH_done (by kernel_rfl) ?_ _
    refine lastQ_normal ?_
    obtain ⟨ap, an, ac, rfl, ha2⟩ := T.out.ia.ivec.opened
    obtain ⟨tp, tn, tc, rfl, ht2⟩ := T.out.mt.mat.row.opened
    have kc := T.out.ba.cell
    have kf := T.out.ba.frozen
    have hal : an = l.length + 1 := by rw [ha2, SP.ints_len]; simp
    have HAL : Hid (an = l.length + 1) := hal
    clear ha2 ht2 hal
    go_wp2
    clear kc kf
    have Tn : Hid (RdI w0 B0 A D Sb s m (w4.setCell ⟨A, 0, none⟩ (.slice ap an ac)) (.slice ap an ac) (.slice ap an ac) (l ++ [j]) (.slice vp vn vc) (.slice tp tn tc) (us ++ [.slice pv nv cv]) (X ++ [ys])) := T.out.setA
    clear T
    have T := Tn
    clear Tn
    generalize w4.setCell ⟨A, 0, none⟩ (.slice ap an ac) = w8 at *
    refine lastQ_normal ?_
    have kc := T.out.bd.cell
    have kf := T.out.bd.frozen
    go_wp2_with fail
    clear kc kf
    have Tn : Hid (RdI w0 B0 A D Sb s m (w8.setCell ⟨D, 0, none⟩ (.slice tp tn tc)) (.slice ap an ac) (.slice ap an ac) (l ++ [j]) (.slice tp tn tc) (.slice tp tn tc) (us ++ [.slice pv nv cv]) (X ++ [ys])) := T.out.setD
    clear T
    have T := Tn
    clear Tn
    generalize w8.setCell ⟨D, 0, none⟩ (.slice tp tn tc) = w9 at *
    have HS9 : Hid (∀ w', w9.grownBy w' none → w'.cell? ⟨A, 0, none⟩ = some (.slice ap an ac) ∧ w'.cell? ⟨Sb, 0, none⟩ = some (ptr s) ∧ w'.cell? ⟨s, 1, none⟩ = some (.int .i64 (k : Int))) := fun w' g' => ⟨(T.out.keep g').ba.cell, (T.out.keep g').bs.cell, HK.out w' (T.out.keep g').gr⟩
    go_region_held3 (fun w' => w'.cell? ⟨A, 0, none⟩ = some (.slice ap an ac) ∧ w'.cell? ⟨Sb, 0, none⟩ = some (ptr s) ∧ w'.cell? ⟨s, 1, none⟩ = some (.int .i64 (k : Int))) (exact HS9.out _ (grown_drewN w9 1)) (fail)
    go_wp2
    go_ret
    exact ⟨by rw [HAL.out, HLL.out]; rfl, _, _, _, T.out.keep (grown_drewN w9 1)⟩
end
end Go.Proofs.YtfjlpifaaknmpaaGreat

