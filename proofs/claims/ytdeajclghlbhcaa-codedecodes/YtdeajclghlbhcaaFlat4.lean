/- Rows of the call's own that are spoilt, one by one; great; what Encode and One answer, told once for both. -/
import Derived.Test.YtdeajclghlbhcaaSpoil
import Derived.Test.YtdeajclghlbhcaaRefEnc4
import Derived.Test.YtdeajclghlbhcaaDec4
import Derived.Laws.BitsAllLaws
set_option linter.unusedVariables false
namespace Go.Proofs.Ytdeajclghlbhcaa
open Go.RowKit

/-- Slices of the call's own from block H on, whatever they read as, and slices of slices, in a world that has grown out of w0. -/
structure Flat (w0 : World) (H : Nat) (w : World) (rows : List (Value × List Value)) (vs : List Value) : Prop where
  out : ∀ m ∈ rows, Out H w m.1 m.2
  vec : ∀ v ∈ vs, ∃ xs, Own H w v xs
  lt : w0.heap.size ≤ H
  gr : w0.grownBy w none

/-- A place of a slice is written. -/
theorem Flat.poke {w0 w : World} {H : Nat} {rows : List (Value × List Value)} {vs : List Value} (h : Flat w0 H w rows vs) {p : Option Addr} {n c : Nat} (hm : Value.slice p n c ∈ vs) {j : Nat} (hj : j < n) :
    ∃ g x, p = some ⟨g, 0, none⟩ ∧ x < 256 ∧ w.cell? ⟨g, j, none⟩ = some (.int .u8 ((x : Nat) : Int)) ∧ w.frozen? ⟨g, j, none⟩ = false ∧ ∀ z : Nat, z < 256 → Flat w0 H (w.setCell ⟨g, j, none⟩ (.int .u8 (z : Int))) rows vs := by
  obtain ⟨xs, o⟩ := h.vec _ hm
  obtain ⟨p', n', c', e', hn'⟩ := o.vec.opened
  injection e' with e1 e2 e3
  obtain ⟨g, rfl, hnn, hc, hf, h256, hset, hgrow⟩ := o.spot (k := j) (by omega)
  have hlo := o.lo g rfl
  have hlt := h.lt
  refine ⟨g, _, rfl, h256, hc, hf, fun z hz => ⟨fun m hmm => (h.out m hmm).kept (hgrow _) ?_, fun u hu => ?_, h.lt, grown_new h.gr (hgrow _) (fun i e => by have := Option.some.inj e; omega)⟩⟩
  · exact Ap.symm (show Ap (.slice (some ⟨g, 0, none⟩) n c) m.1 from apart_kinds (h.out m hmm).row o)
  · obtain ⟨ys, oy⟩ := h.vec u hu
    rcases oy.row.2 with ⟨ev, hz0⟩ | ⟨gi, ci, cur, ev, hb, hgi, hc1, hmx, hcs, ht⟩
    · exact ⟨ys, oy.kept (hgrow _) (by rw [ev]; exact .inl rfl)⟩
    · by_cases hgg : gi = g
      · subst hgg
        by_cases hjy : j < ys.length
        · obtain ⟨g2, e2, _, _, _, _, hset2, _⟩ := (show Own H w (.slice (some ⟨gi, 0, none⟩) ys.length ci) ys by rw [← ev]; exact oy).spot (k := j) hjy
          obtain rfl : gi = g2 := (by injection e2 with e2; injection e2 with e2)
          exact ⟨_, by rw [ev]; exact hset2 z hz⟩
        · refine ⟨ys, oy.small, oy.len, by simp, .inr ⟨gi, ci, cur.setIfInBounds j (.int .u8 (z : Int)), ev, hb, ?_, hc1, hmx, by simpa using hcs, ?_⟩⟩
          · rw [setCell_eq_setRow w gi j cur 5 (0, 0) _ hgi]
            exact setRow_heap w gi cur _ 5 _ hgi
          · simp only [Array.toList_setIfInBounds]
            rw [List.take_set, ht, List.set_eq_of_length_le (by simp; omega)]
      · exact ⟨ys, oy.kept (hgrow _) (by rw [ev]; exact .inr (fun e => hgg (Option.some.inj e)))⟩
theorem OwnMat.flat {w0 w : World} {B H : Nat} {v : Value} {us : List Value} {X : List (List Nat)} (h : OwnMat B w v us X) (hB : H ≤ B) (hl : w0.heap.size ≤ H) (hg : w0.grownBy w none) : Flat w0 H w [(v, us)] us := by
  have h' := h.down hB
  refine ⟨fun m hm => ?_, fun u hu => ?_, hl, hg⟩
  · obtain rfl : m = (v, us) := by simpa using hm
    exact h'.out
  · obtain ⟨j, hj, rfl⟩ := List.getElem_of_mem hu
    have := h'.vec j (by have := h'.same; omega)
    exact ⟨_, by simpa [List.getD, hj] using this⟩
theorem Flat.more {w0 w : World} {H : Nat} {rows : List (Value × List Value)} {vs : List Value} (h : Flat w0 H w rows vs) {u : Value} {xs : List Nat} {B : Nat} (o : Own B w u xs) (hB : H ≤ B) : Flat w0 H w rows (u :: vs) :=
  ⟨h.out, fun v hv => by
    rcases List.mem_cons.1 hv with rfl | hv
    · exact ⟨xs, o.down hB⟩
    · exact h.vec v hv, h.lt, h.gr⟩

theorem xor_255 {y : Nat} (h : y < 256) : ∃ z : Nat, z < 256 ∧ bits .xor .u8 (y : Int) 255 = (z : Int) :=
  ⟨y ^^^ 255, Nat.xor_lt_two_pow (n := 8) h (by decide), u8_xor_nat y 255 h (by decide)⟩

def AnyB (e : Ending) : Prop := ∃ b, e = .returned (.bool b)

set_option maxHeartbeats 1600000 in
theorem great4_any {w : World} {r : Value} {vs : List Value} {X : List (List Nat)} (k n : Int) (mr : Mat w r vs X) :
    Calls Try.prog 15 #[.int .i64 k, .int .i64 n, r] w fun e w' => AnyB e ∧ w' = w := by
  obtain ⟨q, N, cap, rfl, hN⟩ := mr.row.opened
  have hNl : N ≤ 140737488351232 := by have := mr.row.len; omega
  have MR : Hid (Mat w (.slice q N cap) vs X) := mr
  have HN : Hid (N = vs.length ∧ N = X.length) := ⟨hN, by have := mr.same; omega⟩
  have MM : Hid (∃ b, Calls Try.prog 10 #[.int .i64 k, .int .i64 n] w fun e w' => e = .returned (.bool b) ∧ w' = w) := ⟨_, codeMay_any k n w⟩
  obtain ⟨b, M1⟩ := MM.out
  have M2 : Hid (Calls Try.prog 10 #[.int .i64 k, .int .i64 n] w fun e w' => e = .returned (.bool b) ∧ w' = w) := M1
  clear mr hN MM M1
  go_enter Try.func15, Try.ntmps15
  go_wp2_with fail
  go_loop [7, 11] (fun tn ti => ∃ (k : Nat) (x : Int), k ≤ N ∧ ti = .int .i64 k ∧ tn = .int .i64 x) (fun _ ti => N - (intOf ti).toNat)
  case atStart => exact ⟨0, 0, by omega, rfl, rfl⟩
  case round =>
    obtain ⟨j, x, hk, rfl, rfl⟩ := hrel
    by_cases hlt : j < N
    · obtain ⟨b, off, rfl, hr⟩ := MR.out.row.spot (k := j) (by have := HN.out; omega)
      obtain ⟨pk, nk, ck, ek, hnk⟩ := (MR.out.vec j (by have := HN.out; omega)).opened
      have hl : nk ≤ 140737488351232 := by rw [hnk]; exact (MR.out.vec j (by have := HN.out; omega)).len
      rw [ek] at hr
      clear ek hnk
      have i1 : (j : Int) < (N : Int) := by omega
      have i3 : (0 : Int) ≤ (j : Int) := by omega
      go_wp2
      go_round
      case rel => exact ⟨j + 1, _, by omega, by go_num, rfl⟩
      case measure => simp [intOf]; omega
    · have i1 : ¬ (j : Int) < (N : Int) := by omega
      by_cases h3 : (3000 : Int) < x
      · go_wp2
        go_ret
        exact ⟨⟨_, rfl⟩, rfl⟩
      · cases b
        · go_wp2_with (go_at_call 10; refine M2.out.mono ?_; rintro e w1 ⟨rfl, hw⟩; obtain rfl := hw.symm; clear hw)
          go_ret
          exact ⟨⟨_, rfl⟩, rfl⟩
        · by_cases h6 : (60000 : Int) < IntKind.i64.wrap (n * x)
          · go_wp2_with (go_at_call 10; refine M2.out.mono ?_; rintro e w1 ⟨rfl, hw⟩; obtain rfl := hw.symm; clear hw)
            all_goals
              go_ret
              exact ⟨⟨_, rfl⟩, rfl⟩
          · go_wp2_with (go_at_call 10; refine M2.out.mono ?_; rintro e w1 ⟨rfl, hw⟩; obtain rfl := hw.symm; clear hw)
            all_goals
              go_ret
              exact ⟨⟨_, rfl⟩, rfl⟩
end Go.Proofs.Ytdeajclghlbhcaa
