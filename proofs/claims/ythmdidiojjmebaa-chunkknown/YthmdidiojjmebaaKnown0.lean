/- For ChunkKnown: an append of many rows, literals, what Put and Take tell of what is none. -/
import Derived.Test.YthmdidiojjmebaaSpo7
namespace Go.Proofs.Ythmdidiojjmebaa
open Go.RowKit

theorem take_none {w : World} {r : Value} {us : List Value} {X : List (List Nat)} (mr : Mat w r us X) (h : CM.yes X = false) :
    Calls Try.prog 12 #[r] w fun e w' => ∃ p c, e = .returned (.tuple #[.int .u64 0, .slice p 0 c, .bool false]) ∧ w.grownBy w' none := by
  have h1 := cTake_any mr
  rw [h, tN_no h, tL_no h] at h1
  refine h1.mono ?_
  rintro e w' ⟨u, he, ho, hg⟩
  obtain ⟨p, n, c, rfl, hn⟩ := ho.vec.opened
  subst hn
  exact ⟨p, c, he, hg⟩
theorem whole_none {w : World} {r : Value} {us : List Value} {X : List (List Nat)} (mr : Mat w r us X) (h : CM.yes X = false) :
    Calls Try.prog 14 #[r, .int .u64 0] w fun e w' => e = .returned (.bool false) ∧ w.grownBy w' none := by
  have h1 := whole_any 0 mr
  rw [h, Bool.false_and] at h1
  exact h1
theorem put_none {w : World} {n : Nat} {v : Value} {xs : List Nat} {E : Int} (hv : Vec w v xs) (h : CM.putE n xs = E) (h0 : E ≠ 0) :
    Calls Try.prog 8 #[.int .u64 (n : Int), v] w fun e w' => ∃ p c, e = .returned (.tuple #[.slice p 0 c, .int .i64 E]) ∧ w.grownBy w' none := by
  have h1 := cPut_any (n := n) hv
  refine h1.mono ?_
  rintro e w' ⟨u, us, he, hm, hg⟩
  have hS : CM.putS n xs = [] := by unfold CM.putS; rw [if_neg (fun hf => h0 (by rw [← h]; exact (CM.putE_fit n xs).2 hf))]
  rw [hS] at hm
  obtain ⟨p, m, c, rfl, hn⟩ := hm.mat.row.opened
  obtain rfl : m = 0 := by have := mat_n hm.mat; simp at this; omega
  rw [h] at he
  exact ⟨p, c, he, hg⟩
theorem Vec.none0 (w : World) : Vec w (.slice none 0 0) [] := ⟨by simp, by simp, none, 0, rfl, Nat.le_refl _, by decide, fun h => absurd rfl h⟩

/-- A slice of slices, behind a row of the call's own. -/
theorem run_append_rows {B : Nat} {w : World} {dv : Value} {us vs : List Value} {b off cap : Nat} (hd : w.ownsRow B 23 1 dv us.length us) (hs : ∀ j, j < vs.length → w.cell? ⟨b, off + j, none⟩ = some (vs.getD j undef)) (h1 : ∀ v ∈ vs, v.oneCell' = true) (hB : B ≤ w.heap.size) (hl : (us.length + vs.length) * 24 ≤ 140737488351232) (ty : TypeId) :
    ∃ v' w', (Builtin.append_ #[24, 24] ty #[dv, .slice (some ⟨b, off, none⟩) vs.length cap]).run Try.prog w = .ok v' w' ∧ w'.ownsRow B 23 1 v' (us.length + vs.length) (us ++ vs) ∧ w.grownBy w' dv.ownBlock ∧ (v'.ownBlock = dv.ownBlock ∨ v'.ownBlock = some w.heap.size) := by
  obtain ⟨i0, hi, hz0, hz1, hz2⟩ := info_parts Try.info22
  obtain ⟨v', w', r1, r2, r3, _, r5⟩ := run_append_own_at (P := Try.prog) w B 24 ty 23 i0 (.slice none 0 0) 1 24 Try.underlying24 hi hz0 hz1 hz2 rfl (by decide) dv us.length us hd ⟨b, off, none⟩ vs.length cap vs (by simp)
    (fun j v hj => by
      have hj' := (List.getElem?_eq_some_iff.1 hj).1
      have := hs j hj'
      rw [add_off, this]
      simpa [List.getD, hj'] using hj)
    h1 (by unfold maxLen; omega) (by omega) hB
  exact ⟨v', w', r1, by simpa using r2, r3, r5⟩
theorem step_append_rows {ops : Array Oper} {o : Oper} {a : Act} {w : World} {K : Act → World → Prop} {Q : Exit → Act → World → Prop} {E : Prop} (hgd : o.guard = none) (d s : Operand)
    (ho : o.op = .call { callee := .builtin .append, args := #[d, s], argTypes := #[24, 24] }) (dv : Value) {vs us : List Value} {b off cap n : Nat} (hed : a.eval d = dv) (hes : a.eval s = .slice (some ⟨b, off, none⟩) n cap)
    {B : Nat} (hd : w.ownsRow B 23 1 dv us.length us) (hn : n = vs.length) (hs : ∀ j, j < vs.length → w.cell? ⟨b, off + j, none⟩ = some (vs.getD j undef)) (h1 : ∀ v ∈ vs, v.oneCell' = true) (hB : B ≤ w.heap.size) (hl : (us.length + vs.length) * 24 ≤ 140737488351232)
    (h : ∀ v' w', w'.ownsRow B 23 1 v' (us.length + vs.length) (us ++ vs) → w.grownBy w' dv.ownBlock → (v'.ownBlock = dv.ownBlock ∨ v'.ownBlock = some w.heap.size) → K (a.put o.dst v') w') :
    if Region.wanted o (yielded ops a.tmps) = true then Oper.wp Try.prog o a w K Q else E := by
  subst hn
  have hw : Region.wanted o (yielded ops a.tmps) = true := by simp [Region.wanted, hgd]
  rw [if_pos hw]
  obtain ⟨v', w', hrun, r1, r2, r3⟩ := run_append_rows (cap := cap) hd hs h1 hB hl o.type
  unfold Oper.wp
  simp [execOp, ho, resolve, invoke, builtin, hed, hes, hrun, Result.andThen]
  exact h _ _ r1 r2 r3

theorem cells_lit {g n : Nat} {w : World} {vs : List Value} (h : w.heap[g]? = some (.cells vs.toArray 23 (0, 0))) (hn : n = vs.length) (hl : vs.length * 24 ≤ 140737488351232) : Cells w (.slice (some ⟨g, 0, none⟩) n n) vs := by
  subst hn
  refine ⟨hl, _, _, rfl, Nat.le_refl _, by unfold maxLen; omega, fun _ => ⟨g, 0, rfl, fun j hj => ?_⟩⟩
  simp [World.cell?, h, List.getD, hj]
theorem cells_row {B : Nat} {w : World} {v : Value} {us : List Value} (hl : us.length * 24 ≤ 140737488351232) (hr : w.ownsRow B 23 1 v us.length us) : Cells w v us := by
  refine ⟨hl, ?_⟩
  rcases hr.2 with ⟨rfl, hn⟩ | ⟨g, cap, cur, rfl, hb, hg, hc, hm, hs, ht⟩
  · have : us = [] := List.eq_nil_of_length_eq_zero hn
    subst this
    exact ⟨none, 0, rfl, Nat.le_refl _, by decide, fun h => absurd rfl h⟩
  · refine ⟨some ⟨g, 0, none⟩, cap, rfl, hc, hm, fun _ => ⟨g, 0, rfl, fun j hj => ?_⟩⟩
    have := hr.cells (g := g) rfl j (us.getD j undef) (by simp [List.getD, hj])
    rwa [add_at] at this
theorem slice_h8 {b off n c hi : Nat} (h : hi ≤ c) (W : World) : (Instr.slice 23 (.slice (some ⟨b, off, none⟩) n c) none (some (.int .i64 (hi : Int))) none).run Try.prog W = .ok (.slice (some ⟨b, off, none⟩) hi c) W := by
  obtain ⟨i0, hi0, hz0, hz1, hz2⟩ := info_parts Try.info5
  have h1 : (Instr.sliceBound (.int .i64 (hi : Int)) c .sliceAcap).run Try.prog W = .ok hi W := by
    have := run_sliceBound (P := Try.prog) W .i64 (hi : Int) c .sliceAcap (by omega) (by omega)
    simpa using this
  simp [Instr.slice, run_underlying Try.underlying23, Instr.sliceBounds, h1, sizeOf, typeInfo, hi0, add_off]
theorem mat_two {W : World} {a b : Value} {x y : List Nat} (ha : Vec W a x) (hb : Vec W b y) : Mat (W.alloc (.cells #[a, b] 23)) (.slice (some ⟨W.heap.size, 0, none⟩) 2 2) [a, b] [x, y] :=
  ⟨cells_lit (heap_alloc_new W _) rfl (by simp), rfl, fun j hj => by
    have g := World.grownBy_alloc W (.cells #[a, b] 23) none
    match j, hj with
    | 0, _ => exact ha.keep g
    | 1, _ => exact hb.keep g⟩
theorem two_no {x y : List Nat} (h : y.length ≠ 64) : CM.yes [x, y] = false := by
  cases e : CM.yes [x, y] with
  | false => rfl
  | true => exact absurd ((CM.yes_iff.1 e).2.2 1 (by simp)).1 h
end Go.Proofs.Ythmdidiojjmebaa
