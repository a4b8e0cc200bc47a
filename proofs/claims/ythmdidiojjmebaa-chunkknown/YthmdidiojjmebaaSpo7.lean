/- Rows of the call's own that are spoilt, a place in each. -/
import Derived.Test.YthmdidiojjmebaaLift
import Derived.Test.YthmdidiojjmebaaWake7
import Derived.Test.YthmdidiojjmebaaRSame7
namespace Go.Proofs.Ythmdidiojjmebaa
open Go.RowKit

theorem u64_wf {n : Int} (h : (Lit.int .u64 n).wf = true) : 0 ≤ n ∧ n < 18446744073709551616 := by
  have : 0 ≤ n ∧ n ≤ 18446744073709551615 := by simpa [Lit.wf, IntKind.min, IntKind.max, IntKind.signed, IntKind.bits] using h
  omega
theorem xor_one {y : Nat} (h : y < 256) : ∃ z : Nat, z < 256 ∧ bits .xor .u8 (y : Int) 1 = (z : Int) :=
  ⟨y ^^^ 1, Nat.xor_lt_two_pow (n := 8) h (by decide), u8_xor_nat y 1 h (by decide)⟩

theorem arr_row {T : TypeId} (hT : T ≠ 23) {B B' : Nat} {w : World} {v u : Value} {us : List Value} {n : Nat} {xs : List Nat} (hr : w.ownsRow B 23 1 v n us) (hu : Arr T B' w u xs) : u.ownBlock = none ∨ u.ownBlock ≠ v.ownBlock := by
  rcases hu.row.2 with ⟨rfl, _⟩ | ⟨g, cap, cur, rfl, _, hg, _⟩
  · exact .inl rfl
  · rcases hr.2 with ⟨rfl, _⟩ | ⟨g', cap', cur', rfl, _, hg', _⟩
    · exact .inr (by simp [Value.ownBlock])
    · refine .inr fun e => ?_
      simp only [Value.ownBlock, Option.some.injEq] at e
      subst e
      rw [hg] at hg'
      simp at hg'
      exact hT hg'.2
theorem ap_symm {v u : Value} (h : v.ownBlock = none ∨ v.ownBlock ≠ u.ownBlock) : u.ownBlock = none ∨ u.ownBlock ≠ v.ownBlock := by
  cases hu : u.ownBlock with
  | none => exact .inl rfl
  | some k =>
    rcases h with h | h
    · rw [h]; exact .inr (by simp)
    · exact .inr fun e => h (by rw [hu, e])

/-- Sectors of the call's own from block H on, whatever they read as. -/
structure Spo (T : TypeId) (w0 : World) (H : Nat) (w : World) (v : Value) (us : List Value) : Prop where
  len : us.length * 24 ≤ 140737488351232
  row : w.ownsRow H 23 1 v us.length us
  vec : ∀ j, j < us.length → ∃ ys, ys.length = 64 ∧ Arr T H w (us.getD j undef) ys
  lt : w0.heap.size ≤ H
  gr : w0.grownBy w none

theorem Spo.keep {T : TypeId} {w0 w w' : World} {H : Nat} {v : Value} {us : List Value} (h : Spo T w0 H w v us) (g : w.grownBy w' none) : Spo T w0 H w' v us :=
  ⟨h.len, h.row.kept g (by cases h : v.ownBlock <;> simp), fun j hj => by obtain ⟨ys, h1, h2⟩ := h.vec j hj; exact ⟨ys, h1, h2.keep g⟩, h.lt, grown_trans h.gr g⟩
theorem Spo.cells {T : TypeId} {w0 w : World} {H : Nat} {v : Value} {us : List Value} (h : Spo T w0 H w v us) : Cells w v us := by
  refine ⟨h.len, ?_⟩
  have hr := h.row
  rcases h.row.2 with ⟨rfl, hn⟩ | ⟨g, cap, cur, rfl, hb, hg, hc, hm, hs, ht⟩
  · have : us = [] := List.eq_nil_of_length_eq_zero hn
    subst this
    exact ⟨none, 0, rfl, Nat.le_refl _, by decide, fun h => absurd rfl h⟩
  · refine ⟨some ⟨g, 0, none⟩, cap, rfl, hc, hm, fun _ => ⟨g, 0, rfl, fun j hj => ?_⟩⟩
    have := hr.cells (g := g) rfl j (us.getD j undef) (by simp [List.getD, hj])
    rwa [add_at] at this

/-- A place of a sector is written. -/
theorem Spo.poke {T : TypeId} (hT : T ≠ 23) {w0 w : World} {H : Nat} {v : Value} {us : List Value} (h : Spo T w0 H w v us) {k : Nat} {p : Option Addr} {n c : Nat} (hk : k < us.length) (ek : us.getD k undef = .slice p n c) {j : Nat} (hj : j < 64) :
    ∃ g x, p = some ⟨g, 0, none⟩ ∧ n = 64 ∧ x < 256 ∧ w.cell? ⟨g, j, none⟩ = some (.int .u8 ((x : Nat) : Int)) ∧ w.frozen? ⟨g, j, none⟩ = false ∧ ∀ z : Nat, z < 256 → Spo T w0 H (w.setCell ⟨g, j, none⟩ (.int .u8 (z : Int))) v us := by
  obtain ⟨xs, hl, o⟩ := h.vec k hk
  rw [ek] at o
  obtain ⟨g, rfl, hnn, hc, hf, h256, hset, hgrow⟩ := o.spot (k := j) (by omega)
  have hlo := o.lo g rfl
  have hlt := h.lt
  refine ⟨g, _, rfl, by omega, h256, hc, hf, fun z hz => ⟨h.len, h.row.kept (hgrow _) ?_, fun i hi => ?_, h.lt, grown_new h.gr (hgrow _) (fun i e => by have := Option.some.inj e; omega)⟩⟩
  · exact ap_symm (arr_row hT h.row o)
  · obtain ⟨ys, hyl, oy⟩ := h.vec i hi
    rcases oy.row.2 with ⟨ev, hz0⟩ | ⟨gi, ci, cur, ev, hb, hgi, hc1, hmx, hcs, ht⟩
    · exact ⟨ys, hyl, oy.kept (hgrow _) (by rw [ev]; exact .inl rfl)⟩
    · by_cases hgg : gi = g
      · subst hgg
        obtain ⟨g2, e2, _, _, _, _, hset2, _⟩ := (show Arr T H w (.slice (some ⟨gi, 0, none⟩) ys.length ci) ys by rw [← ev]; exact oy).spot (k := j) (by omega)
        obtain rfl : gi = g2 := (by injection e2 with e2; injection e2 with e2)
        exact ⟨ys.set j z, by simpa using hyl, by rw [ev]; exact hset2 z hz⟩
      · exact ⟨ys, hyl, oy.kept (hgrow _) (by rw [ev]; exact .inr (fun e => hgg (Option.some.inj e)))⟩
theorem RMat.spo {T : TypeId} {w0 w : World} {B : Nat} {v : Value} {us : List Value} {X : List (List Nat)} (h : RMat T B w v us X) (hX : ∀ j, j < X.length → (X.getD j []).length = 64) (hl : w0.heap.size ≤ B) (hg : w0.grownBy w none) : Spo T w0 B w v us :=
  ⟨h.len, h.row, fun j hj => ⟨_, hX j (by have := h.same; omega), h.vec j (by have := h.same; omega)⟩, hl, hg⟩
theorem putS_64 (n : Nat) (xs : List Nat) : ∀ j, j < (CM.putS n xs).length → ((CM.putS n xs).getD j []).length = 64 := by
  unfold CM.putS
  split
  · rename_i h
    obtain ⟨h0, h1, h2, h3⟩ := CM.fit_iff.1 h
    intro j hj
    rw [CM.secs_len] at hj
    rw [CM.secs_get n xs hj, SM.sec_len (by rw [CM.ld_len (by omega)]; exact Nat.le_refl _)]
  · simp
end Go.Proofs.Ythmdidiojjmebaa
