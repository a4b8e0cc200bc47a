/- Packed: Two6, Ply6, RNew8, Made8, Data8, Sec8, Tak7. -/
import Derived.Deep.RegionHeld3
import Derived.Deep.MidRow
import Derived.Test.YtfjlpifaaknmpaaGreatSy1
import Derived.Test.YtfjlpifaaknmpaaGreatSy2
import Derived.Test.YtfjlpifaaknmpaaGreatSy3
import Derived.Test.YtfjlpifaaknmpaaGreatSy4
import Derived.Test.YtfjlpifaaknmpaaGreatSy5
import Derived.Test.YtfjlpifaaknmpaaGreatSy6
import Derived.Test.YtfjlpifaaknmpaaGreatSy7
import Derived.Test.YtfjlpifaaknmpaaGreatSy8
import Derived.Test.YtfjlpifaaknmpaaGreatSy9
import Derived.Test.YtfjlpifaaknmpaaGreatSy10
import Derived.Test.YtfjlpifaaknmpaaGreatSy12
import Derived.Test.YtfjlpifaaknmpaaGreatSy13
import Derived.Test.YtfjlpifaaknmpaaGreatSy14
import Derived.Test.YtfjlpifaaknmpaaGreatSy15
import Derived.Laws.BitsAllLaws
import Derived.Test.YtfjlpifaaknmpaaGreatSy11
import Derived.RangeFuncBox
/- The program's array beside the document's (Two_a); Alike. -/
set_option linter.unusedSimpArgs false
set_option linter.unusedVariables false
set_option maxRecDepth 100000
namespace Go.Proofs.YtfjlpifaaknmpaaGreat
open Go.RowKit

/-- The program's array and the document's, apart from each other, both new since w0. -/
structure Two_a (F G : Nat → Prop) (w0 w : World) (a r : Nat) (R : AM.Raw) (A : AM.RA) : Prop where
  i : Is F w a R
  j : RIs G w r A
  ap : ∀ k, F k → G k → False
  bi : Base w0 F w
  bj : Base w0 G w

section
variable {F G F' G' : Nat → Prop} {w0 w w' : World} {a r : Nat} {R R' : AM.Raw} {A A' : AM.RA}
theorem Two_a.keep (h : Two_a F G w0 w a r R A) (g : w.grownBy w' none) : Two_a F G w0 w' a r R A := ⟨h.i.keep g, h.j.keep g, h.ap, h.bi.keep g, h.bj.keep g⟩
theorem AM.Sim.fit {R : AM.Raw} {A : AM.RA} (h : AM.Sim R A) : A.Fit := fun l hl => by
  rw [h.L] at hl
  obtain ⟨x, hx, rfl⟩ := List.mem_map.1 hl
  have hw := h.ok.L x hx
  obtain ⟨xs, hxs⟩ := hw.on
  refine ⟨?_, by rw [h.n]; exact hw.k⟩
  rw [h.isSome]
  show (R.C.getD x.d none).isSome = true
  simp [List.getD, hxs]
end
end Go.Proofs.YtfjlpifaaknmpaaGreat

/- What ArrayPlays keeps; each call with its answer as a letter. -/
set_option linter.unusedSimpArgs false
set_option linter.unusedVariables false
set_option maxRecDepth 100000
namespace Go.Proofs.YtfjlpifaaknmpaaGreat
open Go.RowKit

section
variable {F G F' G' : Nat → Prop} {w0 w w' : World} {a r : Nat} {R R' : AM.Raw} {A A' : AM.RA}
/-- A block beside both is turned. -/
theorem Two_a.poke (h : Two_a F G w0 w a r R A) {g : Nat} (gr : w.grownBy w' (some g)) (hF : ¬ F g) (hG : ¬ G g) (hlo : w0.heap.size ≤ g) : Two_a F G w0 w' a r R A := by
  have hb : ∀ (H : Nat → Prop), ¬ H g → (∀ k, H k → k < w.heap.size) → ∀ k, H k → w'.heap[k]? = w.heap[k]? := fun H hH hl k hk => gr.block k (hl k hk) (fun e => hH (by rw [← Option.some.inj e]; exact hk))
  have hl : ∀ (H : Nat → Prop), (∀ k, H k → k < w.heap.size) → ∀ k, H k → k < w'.heap.size := fun H hl k hk => Nat.lt_of_lt_of_le (hl k hk) gr.size
  have g0 : w0.grownBy w' none := grown_new h.bi.grown gr (fun i e => by rw [← Option.some.inj e]; exact hlo)
  exact ⟨h.i.same (hb F hF h.i.lt) (hl F h.i.lt), h.j.same (hb G hG h.j.lt) (hl G h.j.lt), h.ap, ⟨g0, h.bi.lo⟩, ⟨g0, h.bj.lo⟩⟩

/-- The state between two calls. -/
def Ply (w0 w : World) (a r i : Nat) : Prop := ∃ F G R A, Two_a F G w0 w a r R A ∧ AM.Sim R A ∧ R.L.length ≤ i
theorem Ply.grown {i : Nat} (h : Ply w0 w a r i) : w0.grownBy w none := by obtain ⟨_, _, _, _, h, _, _⟩ := h; exact h.bi.grown
theorem Ply.keep {i : Nat} (h : Ply w0 w a r i) (g : w.grownBy w' none) : Ply w0 w' a r i := by
  obtain ⟨F, G, R, A, h1, h2, h3⟩ := h
  exact ⟨F, G, R, A, h1.keep g, h2, h3⟩
/-- A row of the call's own that is spoilt, beside both. -/
structure Spo (F G : Nat → Prop) (w0 w : World) (v : Value) (xs : List Nat) : Prop where
  part : Part_a w0.heap.size w v xs
  offF : ∀ g, v.ownBlock = some g → ¬ F g
  offG : ∀ g, v.ownBlock = some g → ¬ G g
theorem Spo.keep {v : Value} {xs : List Nat} (h : Spo F G w0 w v xs) (g : w.grownBy w' none) : Spo F G w0 w' v xs := ⟨h.part.keep g, h.offF, h.offG⟩
/-- One byte spoilt. -/
theorem Spo.spot {p : Option Addr} {n cap : Nat} {xs : List Nat} (h : Spo F G w0 w (.slice p n cap) xs) (t : Two_a F G w0 w a r R A) {k : Nat} (hk : k < xs.length) :
    ∃ (g x : Nat), p = some ⟨g, 0, none⟩ ∧ w.cell? ⟨g, k, none⟩ = some (.int .u8 (x : Int)) ∧ w.frozen? ⟨g, k, none⟩ = false ∧ x < 256 ∧ w0.heap.size ≤ g ∧ (∃ c, w.heap[g]? = some (.cells c 5 (0, 0))) ∧
      Two_a F G w0 (w.setCell ⟨g, k, none⟩ (.int .u8 ((x ^^^ 255 : Nat) : Int))) a r R A ∧ Spo F G w0 (w.setCell ⟨g, k, none⟩ (.int .u8 ((x ^^^ 255 : Nat) : Int))) (.slice (some ⟨g, 0, none⟩) n cap) (xs.set k (x ^^^ 255)) := by
  obtain ⟨g, rfl, hn, hc, hf, hx, hp, hg⟩ := h.part.spot hk
  have hlt := h.part.lt (g := g) rfl
  have hz : xs.getD k 0 ^^^ 255 < 256 := Nat.xor_lt_two_pow (n := 8) hx (by decide)
  exact ⟨g, _, rfl, hc, hf, hx, hlt.1, h.part.ty rfl, t.poke (hg _) (h.offF g rfl) (h.offG g rfl) hlt.1, ⟨hp _ hz, h.offF, h.offG⟩⟩

theorem rnew_at {w : World} {N n : Nat} (h1 : 1 ≤ N) (h2 : N ≤ 255) (h3 : 1 ≤ n) (h4 : n ≤ 4096) {c d : Int} (hc : (N : Int) = c) (hd : (n : Int) = d) :
    Calls Tryz.prog 42 #[.int .i64 c, .int .i64 d] w fun e w' => ∃ r, e = .returned (.tuple #[rptr r, .int .i64 0]) ∧ ∃ G, RIs G w' r (AM.RA.new N n) ∧ Base w G w' := by
  subst hc
  subst hd
  exact rnew_yes h1 h2 h3 h4
end
end Go.Proofs.YtfjlpifaaknmpaaGreat

/- The document's Stripes in memory (RSI); the contract of its New. -/
set_option linter.unusedSimpArgs false
set_option linter.unusedVariables false
set_option maxRecDepth 100000
namespace Go.Proofs.YtfjlpifaaknmpaaGreat
open Go.RowKit

/-- The document's Stripes at block t over its array at block r, which is as the program's R. -/
structure RSI (G : Nat → Prop) (w : World) (t r : Nat) (g : SP.Geo) (R : AM.Raw) : Prop where
  j : ∃ A, RIs G w r A ∧ AM.Sim R A
  top : w.heap[t]? = some (.cells #[rptr r, .int .i64 (g.k : Int), .int .i64 (g.n : Int), .int .i64 (g.s : Int), .int .i64 (g.f : Int)] 36 (0, 0))
  nf : ¬ G t
  ok : g.Ok R

section
variable {G G' : Nat → Prop} {w w' : World} {t r : Nat} {g : SP.Geo} {R R' : AM.Raw} {A : AM.RA}
theorem RSI.lt (h : RSI G w t r g R) : t < w.heap.size := (Array.getElem?_eq_some_iff.1 h.top).1
theorem RSI.step {A' : AM.RA} (h : RSI G w t r g R) (hj : RIs G' w' r A') (hs : AM.Sim R' A') (st : Step G w G' w') (ok : g.Ok R') : RSI G' w' t r g R' :=
  ⟨⟨A', hj, hs⟩, by rw [st.upd.block t h.lt h.nf]; exact h.top, fun hf => by
    rcases st.sub t hf with h1 | h1
    · exact h.nf h1
    · have := h.lt; omega, ok⟩
theorem RSI.keep (h : RSI G w t r g R) (gr : w.grownBy w' none) : RSI G w' t r g R := by
  obtain ⟨A, h1, h2⟩ := h.j
  exact h.step (h1.keep gr) h2 (Step.new gr) h.ok
theorem RSI.at1 (h : RSI G w t r g R) : w.cell? ⟨t, 0, none⟩ = some (rptr r) := topCell (j := 0) h.top rfl
theorem RSI.at2 (h : RSI G w t r g R) : w.cell? ⟨t, 1, none⟩ = some (.int .i64 (g.k : Int)) := topCell (j := 1) h.top rfl
theorem RSI.at3 (h : RSI G w t r g R) : w.cell? ⟨t, 2, none⟩ = some (.int .i64 (g.n : Int)) := topCell (j := 2) h.top rfl
theorem RSI.at4 (h : RSI G w t r g R) : w.cell? ⟨t, 3, none⟩ = some (.int .i64 (g.s : Int)) := topCell (j := 3) h.top rfl
theorem RSI.at5 (h : RSI G w t r g R) : w.cell? ⟨t, 4, none⟩ = some (.int .i64 (g.f : Int)) := topCell (j := 4) h.top rfl

set_option maxHeartbeats 6400000 in
/-- The document's New: which Stripes may be. -/
theorem rsnew_any (h : RIs G w r A) (hs : AM.Sim R A) (hok : R.Ok) {K N S f : Int} (hf : f < 9223372036854775808) :
    Calls Tryz.prog 43 #[rptr r, .agg #[.int .i64 K, .int .i64 N, .int .i64 S], .int .i64 f] w fun e w' => (SP.okNew R K N S f = true ∧ ∃ t, e = .returned (.tuple #[.pointer (some ⟨t, 0, none⟩), .int .i64 0]) ∧ w'.heap[t]? = some (.cells #[rptr r, .int .i64 K, .int .i64 N, .int .i64 S, .int .i64 f] 36 (0, 0)) ∧ w.heap.size ≤ t ∧ w.grownBy w' none) ∨
      (SP.okNew R K N S f = false ∧ e = .returned (.tuple #[.pointer none, .int .i64 1]) ∧ w.grownBy w' none) := by
  obtain ⟨b, hb⟩ : ∃ b, b = mayI K N := ⟨_, rfl⟩
  have MA : Hid (∀ w', Calls Tryz.prog 93 #[.int .i64 K, .int .i64 N] w' fun e w'' => e = .returned (.bool b) ∧ w'' = w') := fun w' => by
    rw [hb]; exact refMay4_any K N w'
  have GA : Hid (w.grownBy (w.alloc (.cells #[.int .i64 K, .int .i64 N, .int .i64 S] 32)) none) := World.grownBy_alloc w _ none
  have HOK : Hid (SP.okNew R K N S f = true ↔ b = true ∧ 1 ≤ S ∧ S ≤ 128 ∧ 0 ≤ f ∧ (R.C.length : Int) = N ∧ f ≤ (R.n : Int) - 8 * S) := by
    show _ ↔ _
    rw [SP.okNew_iff, hb, mayI_iff]
  have HNO : Hid (¬ (b = true ∧ 1 ≤ S ∧ S ≤ 128 ∧ 0 ≤ f ∧ (R.C.length : Int) = N ∧ f ≤ (R.n : Int) - 8 * S) → SP.okNew R K N S f = false) := fun hh => by
    rw [Bool.eq_false_iff]
    exact fun hc => hh (HOK.out.1 hc)
  have hn2 := hok.n2
  obtain ⟨dp, dc, ds, lp, lc, fs, hrl⟩ := h.keep GA.out
  obtain ⟨z0, z1, _, _, _⟩ := hrl.topCells
  rw [hs.len] at z0
  rw [hs.n] at z1
  obtain ⟨L, hL⟩ : ∃ L, L = R.C.length := ⟨_, rfl⟩
  obtain ⟨n, hn⟩ : ∃ n, n = R.n := ⟨_, rfl⟩
  rw [← hL] at z0
  rw [← hn] at z1 hn2
  have HLn : Hid (L = R.C.length ∧ n = R.n) := ⟨hL, hn⟩
  clear h hs hok hb hrl hL hn
  cases b
  · go_enter Tryz.func43, Tryz.ntmps43
    go_wp2_with (go_at_call 93; refine (MA.out _).mono ?_; rintro e w9 ⟨rfl, hw9⟩; obtain rfl := hw9.symm; clear hw9)
    go_ret2
    exact .inr ⟨HNO.out (fun h => by simp at h), rfl, GA.out⟩
  · by_cases h1 : S < 1
    · go_enter Tryz.func43, Tryz.ntmps43
      go_wp2_with (go_at_call 93; refine (MA.out _).mono ?_; rintro e w9 ⟨rfl, hw9⟩; obtain rfl := hw9.symm; clear hw9)
      go_ret2
      exact .inr ⟨HNO.out (fun h => by omega), rfl, GA.out⟩
    · by_cases h2 : 128 < S
      · go_enter Tryz.func43, Tryz.ntmps43
        go_wp2_with (go_at_call 93; refine (MA.out _).mono ?_; rintro e w9 ⟨rfl, hw9⟩; obtain rfl := hw9.symm; clear hw9)
        go_ret2
        exact .inr ⟨HNO.out (fun h => by omega), rfl, GA.out⟩
      · by_cases h3 : f < 0
        · go_enter Tryz.func43, Tryz.ntmps43
          go_wp2_with (go_at_call 93; refine (MA.out _).mono ?_; rintro e w9 ⟨rfl, hw9⟩; obtain rfl := hw9.symm; clear hw9)
          go_ret2
          exact .inr ⟨HNO.out (fun h => by omega), rfl, GA.out⟩
        · have HF : Hid (0 ≤ f ∧ f < 9223372036854775808 ∧ 1 ≤ S ∧ S ≤ 128) := ⟨by omega, hf, by omega, by omega⟩
          have hw1 : IntKind.i64.wrap (8 * S) = 8 * S := IntWalk.i64_in _ (by omega)
          have hw2 : IntKind.i64.wrap ((n : Int) - f) = (n : Int) - f := IntWalk.i64_in _ (by omega)
          by_cases h4 : (L : Int) = N
          · have i4 : ((L : Int) != N) = false := by simp [h4]
            by_cases h5 : (n : Int) < f
            · have i5 : decide ((n : Int) < f) = true := decide_eq_true h5
              go_enter Tryz.func43, Tryz.ntmps43
              go_wp2_with (first | (go_at_call 93; refine (MA.out _).mono ?_; rintro e w9 ⟨rfl, hw9⟩; obtain rfl := hw9.symm; clear hw9) | fail)
              go_quiet (fail)
              go_wp2
              go_ret2
              exact .inr ⟨HNO.out (fun h => by have := HLn.out; have := HF.out; omega), rfl, by first | exact grown_trans GA.out (grown_drewN _ _) | exact GA.out⟩
            · have i5 : decide ((n : Int) < f) = false := decide_eq_false h5
              by_cases h6 : (n : Int) - f < 8 * S
              · have i6 : decide ((n : Int) - f < 8 * S) = true := decide_eq_true h6
                go_enter Tryz.func43, Tryz.ntmps43
                go_wp2_with (first | (go_at_call 93; refine (MA.out _).mono ?_; rintro e w9 ⟨rfl, hw9⟩; obtain rfl := hw9.symm; clear hw9) | fail)
                go_quiet (fail)
                go_wp2
                go_ret2
                exact .inr ⟨HNO.out (fun h => by have := HLn.out; have := HF.out; omega), rfl, by first | exact grown_trans GA.out (grown_drewN _ _) | exact GA.out⟩
              · have i6 : decide ((n : Int) - f < 8 * S) = false := decide_eq_false h6
                go_enter Tryz.func43, Tryz.ntmps43
                go_wp2_with (first | (go_at_call 93; refine (MA.out _).mono ?_; rintro e w9 ⟨rfl, hw9⟩; obtain rfl := hw9.symm; clear hw9) | fail)
                go_quiet (fail)
                go_wp2
                go_ret2
                refine .inl ⟨HOK.out.2 ⟨by first | rfl | trivial, by omega, by omega, by omega, by have := HLn.out; omega, by have := HLn.out; omega⟩, _, rfl, ?_, ?_, ?_⟩
                · rw [show w.heap.size + 1 = ((w.alloc (.cells #[.int .i64 K, .int .i64 N, .int .i64 S] 32)).drewN nq).heap.size from by simp]
                  exact heap_alloc_new _ _
                · simp
                · exact gb_alloc (grown_trans GA.out (grown_drewN _ _)) _
          · have i4 : ((L : Int) != N) = true := by simp [h4]
            go_enter Tryz.func43, Tryz.ntmps43
            go_wp2_with (first | (go_at_call 93; refine (MA.out _).mono ?_; rintro e w9 ⟨rfl, hw9⟩; obtain rfl := hw9.symm; clear hw9) | fail)
            go_quiet (fail)
            go_wp2
            go_ret2
            exact .inr ⟨HNO.out (fun h => by have := HLn.out; omega), rfl, by first | exact grown_trans GA.out (grown_drewN _ _) | exact GA.out⟩
theorem rsnew_yes (h : RIs G w r A) (hs : AM.Sim R A) (hg : g.Ok R) :
    Calls Tryz.prog 43 #[rptr r, geoV g, .int .i64 (g.f : Int)] w fun e w' => ∃ t, e = .returned (.tuple #[.pointer (some ⟨t, 0, none⟩), .int .i64 0]) ∧ RSI G w' t r g R ∧ w.heap.size ≤ t ∧ w.grownBy w' none := by
  have hfn : (g.f : Int) < 9223372036854775808 := by have := hg.room; have := hs.ok.n2; omega
  refine (rsnew_any h hs hs.ok hfn).mono ?_
  rintro e w' (⟨_, t, rfl, h1, h2, h3⟩ | ⟨h1, _, _⟩)
  · refine ⟨t, rfl, ⟨⟨A, h.keep h3, hs⟩, h1, fun hf => ?_, hg⟩, h2, h3⟩
    have := h.lt t hf
    omega
  · exfalso
    rw [Bool.eq_false_iff] at h1
    have := hg.k1
    have := hg.kn
    have := hg.n255
    have := hg.s1
    have := hg.s2
    have := hg.room
    have := hg.len
    exact h1 (SP.okNew_iff.2 ⟨⟨by omega, by omega, by omega⟩, by omega, by omega, by omega, by omega, by omega⟩)
end
end Go.Proofs.YtfjlpifaaknmpaaGreat

/- The contract of hayricklaw08.Made. -/
set_option linter.unusedSimpArgs false
set_option linter.unusedVariables false
set_option maxRecDepth 100000
namespace Go.Proofs.YtfjlpifaaknmpaaGreat
open Go.RowKit

/-- The program's Stripes and the document's, apart from each other, both new since w0. -/
structure Duo (F G : Nat → Prop) (w0 w : World) (s a t r : Nat) (g : SP.Geo) (R : AM.Raw) : Prop where
  i : SI F w s a g R
  j : RSI G w t r g R
  ap : ∀ k, F k → G k → False
  bi : ∀ k, F k → w0.heap.size ≤ k
  bj : ∀ k, G k → w0.heap.size ≤ k
  ls : w0.heap.size ≤ s
  lt : w0.heap.size ≤ t
  nt : ¬ F t
  ns : ¬ G s
  gr : w0.grownBy w none

section
variable {F G F' G' : Nat → Prop} {w0 w w' : World} {s a t r : Nat} {g : SP.Geo} {R R' : AM.Raw}
theorem Duo.keep (h : Duo F G w0 w s a t r g R) (gr : w.grownBy w' none) : Duo F G w0 w' s a t r g R :=
  ⟨h.i.keep gr, h.j.keep gr, h.ap, h.bi, h.bj, h.ls, h.lt, h.nt, h.ns, grown_trans h.gr gr⟩

set_option maxHeartbeats 6400000 in
theorem made8_yes (w : World) {k more S f : Nat} (h1 : 1 ≤ k) (h2 : 1 ≤ more) (h3 : k + more ≤ 255) (h4 : 1 ≤ S) (h5 : S ≤ 128) (h6 : f + 8 * S ≤ 4096) :
    Calls Tryz.prog 7 #[.int .i64 (k : Int), .int .i64 (more : Int), .int .i64 (S : Int), .int .i64 (f : Int)] w fun e w' => ∃ s t, e = .returned (.tuple #[ptr s, .pointer (some ⟨t, 0, none⟩)]) ∧ ∃ F G a r, Duo F G w w' s a t r ⟨k, k + more, S, f⟩ (AM.Raw.new (k + more) (f + 8 * S)) := by
  obtain ⟨N, hN⟩ : ∃ N, N = k + more := ⟨_, rfl⟩
  obtain ⟨n, hn⟩ : ∃ n, n = f + 8 * S := ⟨_, rfl⟩
  rw [← hN, ← hn]
  have hw1 : IntKind.i64.wrap ((k : Int) + (more : Int)) = (N : Int) := by
    have e : (k : Int) + (more : Int) = (N : Int) := by omega
    rw [e]; exact IntWalk.i64_in _ (by omega)
  have hw2 : IntKind.i64.wrap (8 * (S : Int)) = 8 * (S : Int) := IntWalk.i64_in _ (by omega)
  have hw3 : IntKind.i64.wrap ((f : Int) + 8 * (S : Int)) = (n : Int) := by
    have e : (f : Int) + 8 * (S : Int) = (n : Int) := by omega
    rw [e]; exact IntWalk.i64_in _ (by omega)
  have HG : Hid (∀ R : AM.Raw, R.C.length = N → R.n = n → SP.Geo.Ok ⟨k, N, S, f⟩ R) := fun R e1 e2 => ⟨h1, by show k < N; omega, by show N ≤ 255; omega, h4, h5, by show f + 8 * S ≤ R.n; omega, e1⟩
  have HNN : Hid (1 ≤ N ∧ N ≤ 255 ∧ 1 ≤ n ∧ n ≤ 4096) := ⟨by omega, by omega, by omega, by omega⟩
  have HB : Hid (∀ w', (w.alloc (.cells #[.int .i64 (k : Int), .int .i64 (N : Int), .int .i64 (S : Int)] 32)).grownBy w' none → w'.cell? ⟨w.heap.size, 0, none⟩ = some (.int .i64 (k : Int)) ∧ w'.cell? ⟨w.heap.size, 1, none⟩ = some (.int .i64 (N : Int)) ∧ w'.cell? ⟨w.heap.size, 2, none⟩ = some (.int .i64 (S : Int))) := fun w' g1 => by
    have h0 := heap_alloc_new w (.cells #[.int .i64 (k : Int), .int .i64 (N : Int), .int .i64 (S : Int)] 32)
    exact ⟨g1.cell (cell_of_row _ _ 0 _ _ _ h0) (by simp), g1.cell (cell_of_row _ _ 1 _ _ _ h0) (by simp), g1.cell (cell_of_row _ _ 2 _ _ _ h0) (by simp)⟩
  have HR : Hid ((AM.Raw.new N n).C.length = N ∧ (AM.Raw.new N n).n = n ∧ AM.Sim (AM.Raw.new N n) (AM.RA.new N n)) := ⟨by simp [AM.Raw.new], rfl, AM.sim_new (by omega) (by omega) (by omega) (by omega)⟩
  have GA : Hid (w.grownBy (w.alloc (.cells #[.int .i64 (k : Int), .int .i64 (N : Int), .int .i64 (S : Int)] 32)) none) := World.grownBy_alloc w _ none
  clear h1 h2 h3 h4 h5 h6 hN hn
  go_enter Tryz.func7, Tryz.ntmps7
  go_wp2_with (first
    | (go_at_call 41; refine (new_at HNN.out.1 HNN.out.2.1 HNN.out.2.2.1 HNN.out.2.2.2 rfl rfl).mono ?_; rintro e w1 ⟨a, rfl, F, i1, b1⟩; have I1 : Hid (Is F w1 a (AM.Raw.new N n)) := i1; have B1 : Hid (Base (w.alloc (.cells #[.int .i64 (k : Int), .int .i64 (N : Int), .int .i64 (S : Int)] 32)) F w1) := b1; obtain ⟨b10, b11, b12⟩ := HB.out _ b1.grown; clear i1 b1)
    | fail)
  clear b10 b12
  go_wp2_with (first
    | (go_at_call 42; refine (rnew_at HNN.out.1 HNN.out.2.1 HNN.out.2.2.1 HNN.out.2.2.2 rfl rfl).mono ?_; rintro e w2 ⟨r, rfl, G, j2, b2⟩; have J2 : Hid (RIs G w2 r (AM.RA.new N n)) := j2; have B2 : Hid (Base w1 G w2) := b2; obtain ⟨b20, b21, b22⟩ := HB.out _ (grown_trans B1.out.grown b2.grown); clear j2 b2)
    | fail)
  have I2 : Hid (Is F w2 a (AM.Raw.new N n)) := I1.out.keep B2.out.grown
  have AP : Hid ((∀ i, F i → G i → False) ∧ (∀ i, F i → w.heap.size ≤ i) ∧ (∀ i, G i → w.heap.size ≤ i) ∧ (∀ i, F i → i < w1.heap.size) ∧ (∀ i, G i → i < w2.heap.size)) := by
    have s0 := GA.out.size
    have s1 := B1.out.grown.size
    have s2 := B2.out.grown.size
    refine ⟨fun i hf hg => ?_, fun i hf => ?_, fun i hg => ?_, fun i hf => I1.out.lt i hf, fun i hg => J2.out.lt i hg⟩
    · have := I1.out.lt i hf; have := B2.out.lo i hg; omega
    · have := B1.out.lo i hf; omega
    · have := B2.out.lo i hg; omega
  have G2 : Hid (w.grownBy w2 none) := grown_trans GA.out (grown_trans B1.out.grown B2.out.grown)
  have SN : Hid (Calls Tryz.prog 40 #[ptr a, .agg #[.int .i64 (k : Int), .int .i64 (N : Int), .int .i64 (S : Int)], .int .i64 (f : Int)] w2 fun e w' => ∃ s, e = .returned (.tuple #[ptr s, .int .i64 0]) ∧ SI F w' s a ⟨k, N, S, f⟩ (AM.Raw.new N n) ∧ w2.heap.size ≤ s ∧ w2.grownBy w' none) := snew_yes I2.out (HG.out _ HR.out.1 HR.out.2.1)
  have HB2 : Hid (∀ w', w2.grownBy w' none → w'.cell? ⟨w.heap.size, 0, none⟩ = some (.int .i64 (k : Int)) ∧ w'.cell? ⟨w.heap.size, 1, none⟩ = some (.int .i64 (N : Int)) ∧ w'.cell? ⟨w.heap.size, 2, none⟩ = some (.int .i64 (S : Int))) := fun w' g1 => HB.out _ (grown_trans (grown_trans B1.out.grown B2.out.grown) g1)
  have SZ : Hid (w1.heap.size ≤ w2.heap.size) := B2.out.grown.size
  clear I1 B1 B2 b11 HB
  go_wp2_with (first
    | (go_at_call 40; refine SN.out.mono ?_; rintro e w3 ⟨s, rfl, i3, l3, g3⟩; have I3 : Hid (SI F w3 s a ⟨k, N, S, f⟩ (AM.Raw.new N n) ∧ w2.heap.size ≤ s) := ⟨i3, l3⟩; have G3 : Hid (w2.grownBy w3 none) := g3; obtain ⟨b30, b31, b32⟩ := HB2.out _ g3; clear i3 l3 g3)
    | fail)
  have RN : Hid (Calls Tryz.prog 43 #[rptr r, .agg #[.int .i64 (k : Int), .int .i64 (N : Int), .int .i64 (S : Int)], .int .i64 (f : Int)] w3 fun e w' => ∃ t, e = .returned (.tuple #[.pointer (some ⟨t, 0, none⟩), .int .i64 0]) ∧ RSI G w' t r ⟨k, N, S, f⟩ (AM.Raw.new N n) ∧ w3.heap.size ≤ t ∧ w3.grownBy w' none) := rsnew_yes (J2.out.keep G3.out) HR.out.2.2 (HG.out _ HR.out.1 HR.out.2.1)
  clear SN J2 I2 HB2
  go_wp2_with (go_at_call 43; refine RN.out.mono ?_; rintro e w4 ⟨t, rfl, j4, l4, g4⟩; have J4 : Hid (RSI G w4 t r ⟨k, N, S, f⟩ (AM.Raw.new N n) ∧ w3.heap.size ≤ t) := ⟨j4, l4⟩; have G4 : Hid (w3.grownBy w4 none) := g4; clear j4 l4 g4)
  go_ret2
  have s0 := G2.out.size
  have s1 := SZ.out
  have s3 := G3.out.size
  have s4 := J4.out.2
  have s5 := I3.out.2
  exact ⟨_, _, rfl, F, G, a, r, I3.out.1.keep G4.out, J4.out.1, AP.out.1, AP.out.2.1, AP.out.2.2.1, by omega, by omega, fun hf => by have := AP.out.2.2.2.1 _ hf; omega, fun hg => by have := AP.out.2.2.2.2 _ hg; omega, grown_trans G2.out (grown_trans G3.out G4.out)⟩
end
end Go.Proofs.YtfjlpifaaknmpaaGreat

/- The contract of hayricklaw08.Data. -/
set_option linter.unusedSimpArgs false
set_option linter.unusedVariables false
set_option maxRecDepth 100000
namespace Go.Proofs.YtfjlpifaaknmpaaGreat
open Go.RowKit

/-- A segment's bytes from x on. -/
def dat8 (x i : Nat) : Nat := (x + i % 251 + i / 448) % 256
def datL (k x : Nat) : List Nat := (List.range (k * 448)).map (dat8 x)
theorem datL_len (k x : Nat) : (datL k x).length = k * 448 := by simp [datL]
theorem datL_small (k x : Nat) : ∀ y ∈ datL k x, y < 256 := fun y hy => by
  unfold datL at hy
  obtain ⟨i, _, rfl⟩ := List.mem_map.1 hy
  unfold dat8
  omega
def datTo (k x j : Nat) : List Nat := (List.range (k * 448)).map fun i => if i < j then dat8 x i else 0
theorem datTo_zero (k x : Nat) : datTo k x 0 = List.replicate (k * 448) 0 := by
  apply List.ext_getElem
  · simp [datTo]
  · intro i h1 h2
    simp [datTo]
theorem datTo_all (k x : Nat) : datTo k x (k * 448) = datL k x := by
  unfold datTo datL
  apply List.map_congr_left
  intro i hi
  rw [if_pos (List.mem_range.1 hi)]
theorem datTo_succ (k x : Nat) {j : Nat} (h : j < k * 448) : (datTo k x j).set j (dat8 x j) = datTo k x (j + 1) := by
  apply List.ext_getElem
  · simp [datTo]
  · intro i h1 h2
    simp only [datTo, List.getElem_set, List.getElem_map, List.getElem_range]
    by_cases c : j = i
    · subst c; simp
    · rw [if_neg c]
      by_cases c2 : i < j
      · rw [if_pos c2, if_pos (by omega)]
      · rw [if_neg c2, if_neg (by omega)]

set_option maxHeartbeats 3200000 in
theorem data_yes (w : World) {k x : Nat} (hk : 1 ≤ k) (hk2 : k ≤ 255) (hx : x < 256) :
    Calls Tryz.prog 10 #[.int .i64 (k : Int), .int .u8 (x : Int)] w fun e w' => ∃ p n c, e = .returned (.slice p n c) ∧ Own w.heap.size w' (.slice p n c) (datL k x) ∧ w.grownBy w' none := by
  obtain ⟨n, hn⟩ : ∃ n, n = k * 448 := ⟨_, rfl⟩
  have hw : IntKind.i64.wrap ((k : Int) * 448) = (n : Int) := by
    have e : (k : Int) * 448 = (n : Int) := by omega
    rw [e]
    exact IntWalk.i64_in _ (by omega)
  have hnl : n ≤ 200000 := by omega
  have HN : Hid (n = k * 448 ∧ k ≤ 255) := ⟨hn, hk2⟩
  clear hn hk hk2
  go_enter Tryz.func10, Tryz.ntmps10
  go_wp2_with (at_make; refine wpList_make_vec rfl _ _ rfl n rfl rfl (by omega) ?_; intro w1 p o1 g1; have O1 : Hid (Own w.heap.size w1 (.slice p n n) (List.replicate n 0)) := o1; have G1 : Hid (w.grownBy w1 none) := g1; clear o1 g1)
  clear hw
  go_loopw [12] (fun ti wr => ∃ j : Nat, j ≤ n ∧ ti = .int .i64 j ∧ Hid (Own w.heap.size wr (.slice p n n) (datTo k x j)) ∧ Hid (w.grownBy wr none)) (fun ti _ => n - (intOf ti).toNat)
  case atStart => exact ⟨0, by omega, rfl, by rw [datTo_zero, ← HN.out.1]; exact O1.out, G1⟩
  case round =>
    clear O1 G1
    obtain ⟨j, hj, rfl, OK, GK⟩ := hrel
    by_cases hlt : j < n
    · have i3 : (j : Int) < (n : Int) := by omega
      have i4 : (0 : Int) ≤ (j : Int) := by omega
      have hlo := OK.out.lo
      obtain ⟨b, hpb, _, hr, hf, hb, hset, hgr⟩ := OK.out.spot (k := j) (by have := HN.out; simp [datTo]; omega)
      subst hpb
      have HLO : Hid (w.heap.size ≤ b) := hlo b rfl
      have HS : Hid (∀ z : Nat, z < 256 → Own w.heap.size (wr.setCell ⟨b, j, none⟩ (.int .u8 (z : Int))) (.slice (some ⟨b, 0, none⟩) n n) ((datTo k x j).set j z)) := hset
      have HG : Hid (∀ u, wr.grownBy (wr.setCell ⟨b, j, none⟩ u) (some b)) := hgr
      clear hlo hset hgr hb OK
      go_wp2
      have HV : ((x : Int) + (j : Int) % 251 + (j : Int) / 448) % 256 = ((dat8 x j : Nat) : Int) := by unfold dat8; omega
      rw [HV]
      go_roundw
      case rel => exact ⟨j + 1, by omega, by go_num, (by
        have h1 := HS.out (dat8 x j) (by unfold dat8; omega)
        rw [datTo_succ k x (by have := HN.out; omega)] at h1
        exact h1), grown_new GK.out (HG.out _) (fun i e => by have := Option.some.inj e; have := HLO.out; omega)⟩
      case measure => simp [intOf]; omega
    · have i3 : ¬ (j : Int) < (n : Int) := by omega
      have hjn : Hid (j = k * 448) := by show _ = _; have := HN.out; omega
      go_wp2
      go_ret
      exact ⟨_, _, _, rfl, by rw [← datTo_all, ← hjn.out]; exact OK.out, GK.out⟩
end Go.Proofs.YtfjlpifaaknmpaaGreat

/- The contract of stripe.sectors. -/
set_option linter.unusedSimpArgs false
set_option linter.unusedVariables false
set_option maxRecDepth 100000
namespace Go.Proofs.YtfjlpifaaknmpaaGreat
open Go.RowKit

section
variable {F F' : Nat → Prop} {w w' : World} {s a : Nat} {g : SP.Geo} {R R' : AM.Raw}
theorem sread_on (h : SI F w s a g R) (h0 : R.off = false) {d slot i : Nat} (hd : d < g.n) (hs : slot < g.s) (hi : i < 8) (ho : R.on (d : Int) = true) :
    Calls Tryz.prog 90 #[ptr a, .int .i64 (d : Int), .int .i64 ((g.f + 8 * slot + i : Nat) : Int)] w fun e w' => ∃ p, e = .returned (.tuple #[.slice p 64 64, .int .i64 0]) ∧ Own w.heap.size w' (.slice p 64 64) (AM.look R.C d (g.f + 8 * slot + i)) ∧ w.grownBy w' none := by
  have hr := SP.reach_on h.ok h0 hs hi hd
  rw [if_pos ho] at hr
  have := read_yes h.i hr
  exact this
theorem sread_off (h : SI F w s a g R) (h0 : R.off = false) {d slot i : Nat} (hd : d < g.n) (hs : slot < g.s) (hi : i < 8) (ho : R.on (d : Int) = false) :
    Calls Tryz.prog 90 #[ptr a, .int .i64 (d : Int), .int .i64 ((g.f + 8 * slot + i : Nat) : Int)] w fun e w' => e = .returned (.tuple #[.slice none 0 0, .int .i64 9]) ∧ w' = w := by
  have hr := SP.reach_on h.ok h0 hs hi hd
  rw [ho] at hr
  have := read_no h.i (d := (d : Int)) (k := ((g.f + 8 * slot + i : Nat) : Int)) (by rw [hr]; decide)
  rw [hr] at this
  exact this

set_option maxHeartbeats 1600000 in
theorem ssectors_on (h : SI F w s a g R) (h0 : R.off = false) {d slot : Nat} (hd : d < g.n) (hs : slot < g.s) (ho : R.on (d : Int) = true) :
    Calls Tryz.prog 65 #[ptr s, .int .i64 (d : Int), .int .i64 (slot : Int)] w fun e w' => ∃ v us, e = .returned v ∧ RMat 5 w.heap.size w' v us (SP.sectTo R g slot d 8) ∧ w.grownBy w' none := by
  have H : Hid (SI F w s a g R) := h
  have HN : Hid (R.off = false ∧ d < g.n ∧ slot < g.s ∧ R.on (d : Int) = true ∧ g.f + 8 * slot + 8 ≤ 4096) := ⟨h0, hd, hs, ho, by have := h.ok.room; have := h.i.ok.n2; omega⟩
  obtain ⟨w1, hmk0, hrow, g1⟩ := run_make_rows0 w (n := 8) (by omega)
  have hmk : (Instr.makeSlice 87 (.int .i64 0) (.int .i64 8)).run Tryz.prog w = .ok (.slice (some ⟨w.heap.size, 0, none⟩) 0 8) w1 := hmk0
  clear hmk0
  have HR : Hid (w1.ownsRow w.heap.size 40 1 (.slice (some ⟨w.heap.size, 0, none⟩) 0 8) 0 []) := hrow
  have HG : Hid (w.grownBy w1 none) := g1
  clear h h0 hd hs ho hrow g1
  go_enter Tryz.func65, Tryz.ntmps65
  go_wp2_with fail
  clear hmk
  go_loopw [7, 12] (fun tl ti wr => ∃ k : Nat, k ≤ 8 ∧ ti = .int .i64 k ∧ Hid (∃ us, RMat 5 w.heap.size wr tl us (SP.sectTo R g slot d k)) ∧ Hid (w.grownBy wr none)) (fun _ ti _ => 8 - (intOf ti).toNat)
  case atStart => exact ⟨0, by omega, rfl, ⟨[], ⟨by simp, HR.out, rfl, by simp [SP.sectTo]⟩⟩, HG⟩
  case round =>
    obtain ⟨k, hk, rfl, OK, GK⟩ := hrel
    obtain ⟨us, OM⟩ := OK.out
    have MK : Hid (RMat 5 w.heap.size wr u7 us (SP.sectTo R g slot d k)) := OM
    have HL : Hid ((us.length + 1) * 24 ≤ 140737488351232) := by show _ ≤ _; rw [OM.same, SP.sectTo_len]; omega
    clear OM OK
    by_cases hlt : k < 8
    · have i4 : (k : Int) < 8 := by omega
      have GD : Hid (w.grownBy (wr.drewN 1) none) := grown_trans GK.out (grown_drewN wr 1)
      have HC : Hid (∀ w', wr.grownBy w' none → w'.cell? ⟨s, 0, none⟩ = some (ptr a)) := fun w' g' => (H.out.keep (grown_trans GK.out g')).at1
      obtain ⟨b, hb⟩ : ∃ b, b = g.f + 8 * slot := ⟨_, rfl⟩
      obtain ⟨q, hq⟩ : ∃ q, q = g.f + 8 * slot + k := ⟨_, rfl⟩
      have HB : Hid (Calls Tryz.prog 98 #[ptr s, .int .i64 (slot : Int)] (wr.drewN 1) fun e w' => e = .returned (.int .i64 (b : Int)) ∧ w' = wr.drewN 1) := by
        rw [hb]; exact sbegin_yes (H.out.keep GD.out) HN.out.2.2.1
      have RD : Hid (Calls Tryz.prog 90 #[ptr a, .int .i64 (d : Int), .int .i64 (q : Int)] (wr.drewN 1) fun e w' => ∃ p, e = .returned (.tuple #[.slice p 64 64, .int .i64 0]) ∧ Own (wr.drewN 1).heap.size w' (.slice p 64 64) (AM.look R.C d q) ∧ (wr.drewN 1).grownBy w' none) := by
        rw [hq]; exact sread_on (H.out.keep GD.out) HN.out.1 HN.out.2.1 HN.out.2.2.1 hlt HN.out.2.2.2.1
      have hw : IntKind.i64.wrap ((b : Int) + (k : Int)) = (q : Int) := by
        have e : (b : Int) + (k : Int) = (q : Int) := by omega
        have := HN.out.2.2.2.2
        rw [e]
        exact IntWalk.i64_in _ (by omega)
      have HS : Hid (SP.sectTo R g slot d (k + 1) = SP.sectTo R g slot d k ++ [AM.look R.C d q]) := by rw [hq]; exact SP.sectTo_succ R g slot d k
      clear hb hq
      generalize SP.sectTo R g slot d k = XK at *
      generalize AM.look R.C d q = SK at *
      go_wp2_with fail
      go_region_held3 (fun w' => w'.cell? ⟨s, 0, none⟩ = some (ptr a)) (first | exact HC.out _ (grown_drewN _ 1) | exact HC.out _ (grown_trans (grown_drewN _ 1) G1.out))
        ((first
          | (go_at_call 98; refine HB.out.mono ?_; rintro e w9 ⟨rfl, hw9⟩; obtain rfl := hw9.symm; clear hw9)
          | (go_at_call 90; refine RD.out.mono ?_; rintro e w2 ⟨p, rfl, op, g2⟩; have G1 : Hid ((wr.drewN 1).grownBy w2 none) := g2; have OP : Hid (Arr 5 w.heap.size w2 (.slice p 64 64) SK) := op.arr.down GD.out.size; clear op g2)))
      have M1 : Hid (RMat 5 w.heap.size w2 u7 us XK) := (MK.out.keep (grown_drewN wr 1)).keep G1.out
      have G2 : Hid (w.grownBy w2 none) := grown_trans GD.out G1.out
      clear HB RD hw GD G1 MK
      go_wp2_with (at_builtin; refine wpList_append_row rfl _ _ rfl _ ⟨w2.heap.size, 0, none⟩ rfl rfl (M1.out.keep (World.grownBy_alloc w2 _ none)).row (cell_new1 _ _ rfl) rfl (gb_alloc G2.out _).size HL.out ?_; intro v3 w3 r3 g3 at3; have M3 : Hid (RMat 5 w.heap.size w3 v3 (us ++ [.slice p 64 64]) (XK ++ [SK])) := (M1.out.keep (World.grownBy_alloc w2 _ none)).more (by decide) (OP.out.keep (World.grownBy_alloc w2 _ none)) HL.out r3 g3; have G3 : Hid (w.grownBy w3 none) := grown_new (gb_alloc G2.out _) g3 (fun i e => M1.out.lo i e); clear r3 g3 at3)
      go_roundw
      case rel => exact ⟨k + 1, by omega, by go_num, ⟨_, by rw [HS.out]; exact M3.out⟩, G3⟩
      case measure => simp [intOf]; omega
    · obtain rfl : k = 8 := by omega
      go_wp2
      go_ret
      exact ⟨_, _, rfl, MK.out, GK.out⟩
set_option maxHeartbeats 1600000 in
theorem ssectors_off (h : SI F w s a g R) (h0 : R.off = false) {d slot : Nat} (hd : d < g.n) (hs : slot < g.s) (ho : R.on (d : Int) = false) :
    Calls Tryz.prog 65 #[ptr s, .int .i64 (d : Int), .int .i64 (slot : Int)] w fun e w' => e = .returned (.slice none 0 0) ∧ w.grownBy w' none := by
  have H : Hid (SI F w s a g R) := h
  have HN : Hid (R.off = false ∧ d < g.n ∧ slot < g.s ∧ R.on (d : Int) = false ∧ g.f + 8 * slot + 8 ≤ 4096) := ⟨h0, hd, hs, ho, by have := h.ok.room; have := h.i.ok.n2; omega⟩
  obtain ⟨w1, hmk0, hrow, g1⟩ := run_make_rows0 w (n := 8) (by omega)
  have hmk : (Instr.makeSlice 87 (.int .i64 0) (.int .i64 8)).run Tryz.prog w = .ok (.slice (some ⟨w.heap.size, 0, none⟩) 0 8) w1 := hmk0
  clear hmk0
  have HG : Hid (w.grownBy w1 none) := g1
  clear h h0 hd hs ho hrow g1
  go_enter Tryz.func65, Tryz.ntmps65
  go_wp2_with fail
  clear hmk
  go_loopw [7, 12] (fun tl ti wr => ti = .int .i64 0 ∧ tl = .slice (some ⟨w.heap.size, 0, none⟩) 0 8 ∧ Hid (w.grownBy wr none)) (fun _ ti _ => 8 - (intOf ti).toNat)
  case atStart => exact ⟨rfl, rfl, HG⟩
  case round =>
    obtain ⟨rfl, rfl, GK⟩ := hrel
    have GD : Hid (w.grownBy (wr.drewN 1) none) := grown_trans GK.out (grown_drewN wr 1)
    have HC : Hid (∀ w', wr.grownBy w' none → w'.cell? ⟨s, 0, none⟩ = some (ptr a)) := fun w' g' => (H.out.keep (grown_trans GK.out g')).at1
    obtain ⟨b, hb⟩ : ∃ b, b = g.f + 8 * slot := ⟨_, rfl⟩
    have HB : Hid (Calls Tryz.prog 98 #[ptr s, .int .i64 (slot : Int)] (wr.drewN 1) fun e w' => e = .returned (.int .i64 (b : Int)) ∧ w' = wr.drewN 1) := by
      rw [hb]; exact sbegin_yes (H.out.keep GD.out) HN.out.2.2.1
    have RD : Hid (Calls Tryz.prog 90 #[ptr a, .int .i64 (d : Int), .int .i64 (b : Int)] (wr.drewN 1) fun e w' => e = .returned (.tuple #[.slice none 0 0, .int .i64 9]) ∧ w' = wr.drewN 1) := by
      rw [hb]; exact sread_off (i := 0) (H.out.keep GD.out) HN.out.1 HN.out.2.1 HN.out.2.2.1 (by omega) HN.out.2.2.2.1
    have hw : IntKind.i64.wrap (b : Int) = (b : Int) := by
      have := HN.out.2.2.2.2
      exact IntWalk.i64_in _ (by omega)
    clear hb
    go_wp2_with fail
    go_region_held3 (fun w' => w'.cell? ⟨s, 0, none⟩ = some (ptr a)) (exact HC.out _ (grown_drewN _ 1))
      ((first
        | (go_at_call 98; refine HB.out.mono ?_; rintro e w9 ⟨rfl, hw9⟩; obtain rfl := hw9.symm; clear hw9)
        | (go_at_call 90; refine RD.out.mono ?_; rintro e w2 ⟨rfl, hw2⟩; obtain rfl := hw2.symm; clear hw2)))
    go_wp2
    go_ret
    exact ⟨rfl, GD.out⟩
/-- The sectors of a disk in a slot. -/
theorem ssectors_any (h : SI F w s a g R) (h0 : R.off = false) {d slot : Nat} (hd : d < g.n) (hs : slot < g.s) :
    Calls Tryz.prog 65 #[ptr s, .int .i64 (d : Int), .int .i64 (slot : Int)] w fun e w' => ∃ v us, e = .returned v ∧ Mat w' v us (SP.sects R g slot d) ∧ w.grownBy w' none := by
  cases ho : R.on (d : Int)
  · rw [SP.sects_off ho]
    refine (ssectors_off h h0 hd hs ho).mono ?_
    rintro e w' ⟨rfl, g1⟩
    exact ⟨_, _, rfl, Mat.nil _, g1⟩
  · rw [SP.sects_on ho]
    refine (ssectors_on h h0 hd hs ho).mono ?_
    rintro e w' ⟨v, us, rfl, m, g1⟩
    exact ⟨_, _, rfl, m.mat, g1⟩
end
end Go.Proofs.YtfjlpifaaknmpaaGreat

/- Contracts of the closure within chunk.Take, and of chunk.walk over it. -/
set_option maxRecDepth 100000
namespace Go.Proofs.YtfjlpifaaknmpaaGreat
open Go.RowKit

/-- The two captured variables of Take: the stamp told so far, the data so far. -/
structure Tak (w0 : World) (A D : Nat) (w : World) (a : Nat) (dv : Value) (cur : List Nat) : Prop where
  ca : Boxed w A 39 (.int .u64 (a : Int))
  cd : Boxed w D 40 dv
  own : Own w0.heap.size w dv cur
  lA : w0.heap.size ≤ A
  lD : w0.heap.size ≤ D
  gr : w0.grownBy w none

theorem Own.notBox {B D : Nat} {w : World} {v u : Value} {xs : List Nat} {T : TypeId} (hT : T ≠ 5) (h : Own B w v xs) (hb : Boxed w D T u) : v.ownBlock = none ∨ v.ownBlock ≠ some D := by
  rcases h.row.2 with ⟨rfl, _⟩ | ⟨g, cap, cur, rfl, _, hg, _⟩
  · exact .inl rfl
  · refine .inr fun e => ?_
    obtain rfl : g = D := by simpa [Value.ownBlock] using e
    rw [show w.heap[g]? = _ from hb] at hg
    simp at hg
    exact hT hg.2

theorem Tak.keep {w0 w w' : World} {A D a : Nat} {dv : Value} {cur : List Nat} (h : Tak w0 A D w a dv cur) (g : w.grownBy w' none) : Tak w0 A D w' a dv cur :=
  ⟨h.ca.kept g (by simp), h.cd.kept g (by simp), h.own.keep g, h.lA, h.lD, grown_trans h.gr g⟩
theorem Tak.ne {w0 w : World} {A D a : Nat} {dv : Value} {cur : List Nat} (h : Tak w0 A D w a dv cur) : A ≠ D := fun e => by
  have h1 := h.ca
  have h2 := h.cd
  subst e
  have h3 := (show w.heap[A]? = _ from h1).symm.trans (show w.heap[A]? = _ from h2)
  simp at h3
/-- The stamp is set. -/
theorem Tak.setA {w0 w : World} {A D a : Nat} {dv : Value} {cur : List Nat} (h : Tak w0 A D w a dv cur) (n : Nat) : Tak w0 A D (w.setCell ⟨A, 0, none⟩ (.int .u64 (n : Int))) n dv cur :=
  ⟨h.ca.set _, h.cd.kept (grownBy_setCell' w A _) (fun e => h.ne (Option.some.inj e).symm), h.own.kept (grownBy_setCell' w A _) (h.own.notBox (by decide) h.ca), h.lA, h.lD, grown_new h.gr (grownBy_setCell' w A _) (fun i e => by have := Option.some.inj e; have := h.lA; omega)⟩
/-- The data grow, the variable still as it was. -/
theorem Tak.grow {w0 w w' : World} {A D a : Nat} {dv : Value} {cur : List Nat} (h : Tak w0 A D w a dv cur) (g : w.grownBy w' dv.ownBlock) :
    Boxed w' A 39 (.int .u64 (a : Int)) ∧ Boxed w' D 40 dv ∧ w0.grownBy w' none :=
  ⟨h.ca.kept g (fun e => by rcases h.own.notBox (by decide) h.ca with h1 | h1 <;> simp_all), h.cd.kept g (fun e => by rcases h.own.notBox (by decide) h.cd with h1 | h1 <;> simp_all), grown_new h.gr g h.own.lo⟩
theorem Tak.setD {w0 w' : World} {A D a : Nat} {dv dv' : Value} {cur' : List Nat} (lA : w0.heap.size ≤ A) (lD : w0.heap.size ≤ D) (ne : A ≠ D) (o : Own w0.heap.size w' dv' cur') (hA : Boxed w' A 39 (.int .u64 (a : Int))) (hD : Boxed w' D 40 dv) (gr : w0.grownBy w' none) :
    Tak w0 A D (w'.setCell ⟨D, 0, none⟩ dv') a dv' cur' :=
  ⟨hA.kept (grownBy_setCell' w' D _) (fun e => ne (Option.some.inj e)), hD.set _, o.kept (grownBy_setCell' w' D _) (o.notBox (by decide) hD), lA, lD, grown_new gr (grownBy_setCell' w' D _) (fun i e => by have := Option.some.inj e; omega)⟩

set_option maxHeartbeats 1600000 in
theorem tk_yes {w0 w : World} {A D a n B : Nat} {dv v : Value} {cur ld : List Nat} (T : Tak w0 A D w a dv cur) (hv : Own B w v ld) (hl : cur.length + ld.length ≤ 140737488351232) (hn : n ≠ 0) (ha : a = 0 ∨ a = n) :
    Calls Tryz.prog 128 #[.int .u64 (n : Int), v, .pointer (some ⟨A, 0, none⟩), .pointer (some ⟨D, 0, none⟩)] w fun e w' => e = .returned (.bool true) ∧ ∃ dv', Tak w0 A D w' n dv' (cur ++ ld) := by
  have hn0 : ((n : Int) != 0) = true := neb_yes (b := 0) hn
  have hnn : ((n : Int) == (n : Int)) = true := eqb_yes rfl
  have cA := T.ca.cell
  have fA := T.ca.frozen
  obtain ⟨dp, dn, dc, rfl, hd0⟩ := T.own.vec.opened
  clear hd0
  have LL : Hid (w0.heap.size ≤ A ∧ w0.heap.size ≤ D ∧ A ≠ D ∧ cur.length + ld.length ≤ 140737488351232) := ⟨T.lA, T.lD, T.ne, hl⟩
  by_cases h0 : a = 0
  · have i0 : ((a : Int) == 0) = true := eqb_yes (b := 0) h0
    have T1 : Hid (Tak w0 A D (w.setCell ⟨A, 0, none⟩ (.int .u64 (n : Int))) n (.slice dp dn dc) cur) := T.setA n
    have HV : Hid (Vec (w.setCell ⟨A, 0, none⟩ (.int .u64 (n : Int))) v ld) := (hv.kept (grownBy_setCell' w A _) (hv.notBox (by decide) T.ca)).vec
    have cD := T1.out.cd.cell
    have fD := T1.out.cd.frozen
    clear T hv hl hn ha h0
    go_enter Tryz.func128, Tryz.ntmps128
    go_wp2_with (at_builtin; refine wpList_append_vec rfl _ _ rfl _ _ rfl rfl T1.out.own HV.out T1.out.gr.size LL.out.2.2.2 ?_; intro v2 w2 o2 g2; obtain ⟨k1, k2, k3⟩ := T1.out.grow g2; have T2 : Hid (Tak w0 A D (w2.setCell ⟨D, 0, none⟩ v2) n v2 (cur ++ ld)) := Tak.setD LL.out.1 LL.out.2.1 LL.out.2.2.1 o2 k1 k2 k3; obtain ⟨q2, n2, c2, rfl, hz2⟩ := o2.vec.opened; clear hz2; have kc := k2.cell; have kf := k2.frozen; have ka := T2.out.ca.cell; clear k1 k2 k3 o2 g2)
    go_ret
    exact ⟨rfl, _, T2.out⟩
  · have i0 : ((a : Int) == 0) = false := eqb_no (b := 0) h0
    obtain rfl : a = n := by omega
    have T1 : Hid (Tak w0 A D w a (.slice dp dn dc) cur) := T
    have HV : Hid (Vec w v ld) := hv.vec
    have cD := T1.out.cd.cell
    have fD := T1.out.cd.frozen
    clear T hv hl hn ha h0
    go_enter Tryz.func128, Tryz.ntmps128
    go_wp2_with (at_builtin; refine wpList_append_vec rfl _ _ rfl _ _ rfl rfl T1.out.own HV.out T1.out.gr.size LL.out.2.2.2 ?_; intro v2 w2 o2 g2; obtain ⟨k1, k2, k3⟩ := T1.out.grow g2; have T2 : Hid (Tak w0 A D (w2.setCell ⟨D, 0, none⟩ v2) a v2 (cur ++ ld)) := Tak.setD LL.out.1 LL.out.2.1 LL.out.2.2.1 o2 k1 k2 k3; obtain ⟨q2, n2, c2, rfl, hz2⟩ := o2.vec.opened; clear hz2; have kc := k2.cell; have kf := k2.frozen; have ka := T2.out.ca.cell; clear k1 k2 k3 o2 g2)
    go_ret
    exact ⟨rfl, _, T2.out⟩

set_option maxHeartbeats 1600000 in
theorem tk_no {w0 w : World} {A D a n B : Nat} {dv v : Value} {cur ld : List Nat} (T : Tak w0 A D w a dv cur) (hv : Own B w v ld) (hl : cur.length + ld.length ≤ 140737488351232) (hn : n = 0 ∨ (a ≠ 0 ∧ a ≠ n)) :
    Calls Tryz.prog 128 #[.int .u64 (n : Int), v, .pointer (some ⟨A, 0, none⟩), .pointer (some ⟨D, 0, none⟩)] w fun e w' => e = .returned (.bool false) ∧ w0.grownBy w' none := by
  have cA := T.ca.cell
  have fA := T.ca.frozen
  obtain ⟨dp, dn, dc, rfl, hd0⟩ := T.own.vec.opened
  clear hd0
  have LL : Hid (w0.heap.size ≤ A ∧ w0.heap.size ≤ D ∧ A ≠ D ∧ cur.length + ld.length ≤ 140737488351232) := ⟨T.lA, T.lD, T.ne, hl⟩
  by_cases h0 : a = 0
  · have hz : n = 0 := by omega
    have i0 : ((a : Int) == 0) = true := eqb_yes (b := 0) h0
    have i1 : ((n : Int) != 0) = false := neb_no (b := 0) hz
    have T1 : Hid (Tak w0 A D (w.setCell ⟨A, 0, none⟩ (.int .u64 (n : Int))) n (.slice dp dn dc) cur) := T.setA n
    have HV : Hid (Vec (w.setCell ⟨A, 0, none⟩ (.int .u64 (n : Int))) v ld) := (hv.kept (grownBy_setCell' w A _) (hv.notBox (by decide) T.ca)).vec
    have cD := T1.out.cd.cell
    have fD := T1.out.cd.frozen
    clear T hv hl hn h0 hz
    go_enter Tryz.func128, Tryz.ntmps128
    go_wp2_with (at_builtin; refine wpList_append_vec rfl _ _ rfl _ _ rfl rfl T1.out.own HV.out T1.out.gr.size LL.out.2.2.2 ?_; intro v2 w2 o2 g2; obtain ⟨k1, k2, k3⟩ := T1.out.grow g2; have T2 : Hid (Tak w0 A D (w2.setCell ⟨D, 0, none⟩ v2) n v2 (cur ++ ld)) := Tak.setD LL.out.1 LL.out.2.1 LL.out.2.2.1 o2 k1 k2 k3; obtain ⟨q2, n2, c2, rfl, hz2⟩ := o2.vec.opened; clear hz2; have kc := k2.cell; have kf := k2.frozen; have ka := T2.out.ca.cell; clear k1 k2 k3 o2 g2)
    go_ret
    exact ⟨rfl, T2.out.gr⟩
  · have i0 : ((a : Int) == 0) = false := eqb_no (b := 0) h0
    have T1 : Hid (Tak w0 A D w a (.slice dp dn dc) cur) := T
    have HV : Hid (Vec w v ld) := hv.vec
    have cD := T1.out.cd.cell
    have fD := T1.out.cd.frozen
    by_cases hz : n = 0
    · have i1 : ((n : Int) != 0) = false := neb_no (b := 0) hz
      clear T hv hl hn h0 hz
      go_enter Tryz.func128, Tryz.ntmps128
      go_wp2_with (at_builtin; refine wpList_append_vec rfl _ _ rfl _ _ rfl rfl T1.out.own HV.out T1.out.gr.size LL.out.2.2.2 ?_; intro v2 w2 o2 g2; obtain ⟨k1, k2, k3⟩ := T1.out.grow g2; have T2 : Hid (Tak w0 A D (w2.setCell ⟨D, 0, none⟩ v2) a v2 (cur ++ ld)) := Tak.setD LL.out.1 LL.out.2.1 LL.out.2.2.1 o2 k1 k2 k3; obtain ⟨q2, n2, c2, rfl, hz2⟩ := o2.vec.opened; clear hz2; have kc := k2.cell; have kf := k2.frozen; have ka := T2.out.ca.cell; clear k1 k2 k3 o2 g2)
      go_ret
      exact ⟨rfl, T2.out.gr⟩
    · have i1 : ((n : Int) != 0) = true := neb_yes (b := 0) hz
      have i2 : ((n : Int) == (a : Int)) = false := eqb_no (by omega)
      clear T hv hl hn h0 hz
      go_enter Tryz.func128, Tryz.ntmps128
      go_wp2_with (at_builtin; refine wpList_append_vec rfl _ _ rfl _ _ rfl rfl T1.out.own HV.out T1.out.gr.size LL.out.2.2.2 ?_; intro v2 w2 o2 g2; obtain ⟨k1, k2, k3⟩ := T1.out.grow g2; have T2 : Hid (Tak w0 A D (w2.setCell ⟨D, 0, none⟩ v2) a v2 (cur ++ ld)) := Tak.setD LL.out.1 LL.out.2.1 LL.out.2.2.1 o2 k1 k2 k3; obtain ⟨q2, n2, c2, rfl, hz2⟩ := o2.vec.opened; clear hz2; have kc := k2.cell; have kf := k2.frozen; have ka := T2.out.ca.cell; clear k1 k2 k3 o2 g2)
      go_ret
      exact ⟨rfl, T2.out.gr⟩
end Go.Proofs.YtfjlpifaaknmpaaGreat

