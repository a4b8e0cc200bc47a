/- The contract of hayricklaw03.spoil: it changes nothing but the matrix's own rows. -/
import Derived.Test.YtdeajclghlbhcaaRowsM
import Derived.Test.YtdeajclghlbhcaaRefMat
namespace Go.Proofs.Ytdeajclghlbhcaa
open Go.RowKit

/-- Rows of the call's own from block H on, whatever they read as. -/
structure Part (H : Nat) (w : World) (v : Value) (us : List Value) : Prop where
  len : us.length * 24 ≤ 140737488351232
  row : w.ownsRow H 39 1 v us.length us
  vec : ∀ j, j < us.length → ∃ xs, Own H w (us.getD j undef) xs
/-- Several such matrices, in a world that has grown out of w0. -/
structure Rags (w0 : World) (H : Nat) (w : World) (ms : List (Value × List Value)) : Prop where
  all : ∀ m ∈ ms, Part H w m.1 m.2
  lt : w0.heap.size ≤ H
  gr : w0.grownBy w none

theorem OwnMat.part {B H : Nat} {w : World} {v : Value} {us : List Value} {X : List (List Nat)} (h : OwnMat B w v us X) (hB : H ≤ B) : Part H w v us :=
  have h' : OwnMat H w v us X := ⟨h.len, ⟨h.row.1, by
    rcases h.row.2 with h | ⟨g, cp, cur, a1, a2, a3⟩
    · exact .inl h
    · exact .inr ⟨g, cp, cur, a1, by omega, a3⟩⟩, h.same, fun j hj => (h.vec j hj).down hB⟩
  ⟨h'.len, h'.row, fun j hj => ⟨_, h'.vec j (by have := h'.same; omega)⟩⟩
theorem Part.keep {H : Nat} {w w' : World} {v : Value} {us : List Value} (h : Part H w v us) (g : w.grownBy w' none) : Part H w' v us :=
  ⟨h.len, h.row.kept g (by cases h : v.ownBlock <;> simp), fun j hj => by obtain ⟨xs, o⟩ := h.vec j hj; exact ⟨xs, o.keep g⟩⟩

theorem Part.cells {H : Nat} {w : World} {v : Value} {us : List Value} (h : Part H w v us) : Cells w v us := Out.cells (B := H) ⟨h.len, h.row⟩

theorem Rags.at {w0 w : World} {H : Nat} {ms : List (Value × List Value)} {v : Value} {us : List Value} (h : Rags w0 H w ms) (hm : (v, us) ∈ ms) : Part H w v us := h.all _ hm

/-- A place of a row is written. -/
theorem Rags.poke {w0 w : World} {H : Nat} {ms : List (Value × List Value)} {v : Value} {us : List Value} (h : Rags w0 H w ms) (hm : (v, us) ∈ ms) {k : Nat} {p : Option Addr} {n c : Nat} (hk : k < us.length) (ek : us.getD k undef = .slice p n c) {j : Nat} (hj : j < n) :
    ∃ g x, p = some ⟨g, 0, none⟩ ∧ x < 256 ∧ w.cell? ⟨g, j, none⟩ = some (.int .u8 ((x : Nat) : Int)) ∧ w.frozen? ⟨g, j, none⟩ = false ∧ ∀ z : Nat, z < 256 → Rags w0 H (w.setCell ⟨g, j, none⟩ (.int .u8 (z : Int))) ms := by
  obtain ⟨xs, o⟩ := (h.at hm).vec k hk
  rw [ek] at o
  obtain ⟨p', n', c', e', hn'⟩ := o.vec.opened
  injection e' with e1 e2 e3
  obtain ⟨g, rfl, hnn, hc, hf, h256, hset, hgrow⟩ := o.spot (k := j) (by omega)
  have hlo := o.lo g rfl
  have hlt := h.lt
  refine ⟨g, _, rfl, h256, hc, hf, fun z hz => ⟨fun m hmm => ⟨(h.all m hmm).len, (h.all m hmm).row.kept (hgrow _) ?_, fun i hi => ?_⟩, h.lt, grown_new h.gr (hgrow _) (fun i e => by have := Option.some.inj e; omega)⟩⟩
  · exact Ap.symm (show Ap (.slice (some ⟨g, 0, none⟩) n c) m.1 from apart_kinds (h.all m hmm).row o)
  · obtain ⟨ys, oy⟩ := (h.all m hmm).vec i hi
    rcases oy.row.2 with ⟨ev, hz0⟩ | ⟨gi, ci, cur, ev, hb, hgi, hc1, hmx, hcs, ht⟩
    · exact ⟨ys, oy.kept (hgrow _) (by rw [ev]; exact .inl rfl)⟩
    · by_cases hgg : gi = g
      · subst hgg
        by_cases hjy : j < ys.length
        · obtain ⟨g2, e2, _, _, _, _, hset2, _⟩ := (show Own H w (.slice (some ⟨gi, 0, none⟩) ys.length ci) ys by rw [← ev]; exact oy).spot (k := j) hjy
          obtain rfl : gi = g2 := (by injection e2 with e2; injection e2 with e2)
          exact ⟨_, by rw [ev]; exact hset2 z hz⟩
        · refine ⟨ys, oy.small, oy.len, by simp, .inr ⟨gi, ci, cur.setIfInBounds j (.int .u8 (z : Int)), ev, hb, ?_, hc1, hmx, by simpa using hcs, ?_⟩⟩
          · rw [setCell_eq_setRow w gi j cur 5 (0, 0) _ hgi]
            exact setRow_heap w gi cur _ 5 _ hgi
          · simp only [Array.toList_setIfInBounds]
            rw [List.take_set, ht, List.set_eq_of_length_le (by simp; omega)]
      · exact ⟨ys, oy.kept (hgrow _) (by rw [ev]; exact .inr (fun e => hgg (Option.some.inj e)))⟩

end Go.Proofs.Ytdeajclghlbhcaa
