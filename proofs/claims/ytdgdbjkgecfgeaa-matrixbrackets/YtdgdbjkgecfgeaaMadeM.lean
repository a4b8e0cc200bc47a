/- Memory for hayricklaw03.made: a byte appended to a row that lies in a matrix of the call's own. -/
import Derived.Test.YtdgdbjkgecfgeaaMulM
import Derived.Maps.AppendAt
namespace Go.Proofs.Ytdgdbjkgecfgeaa
open Go.RowKit

/-- A byte more. -/
theorem run_append_byte {B : Nat} {w : World} {dv : Value} {xs : List Nat} (hd : Own B w dv xs) (ad : Addr) {x : Nat} (hx : x < 256) (hu : w.cell? ad = some (bv x)) (hB : B ≤ w.heap.size) (hl : xs.length + 1 ≤ 140737488351232) (ty : TypeId) :
    ∃ v' w', (Builtin.append_ #[45, 45] ty #[dv, .slice (some ad) 1 1]).run Try.prog w = .ok v' w' ∧ Own B w' v' (xs ++ [x]) ∧ w.grownBy w' dv.ownBlock ∧ (v'.ownBlock = dv.ownBlock ∨ v'.ownBlock = some w.heap.size) := by
  obtain ⟨i0, hi, hz0, hz1, hz2⟩ := info_parts Try.info5
  obtain ⟨v', w', r1, r2, r3, _, r5⟩ := run_append_own_at (P := Try.prog) w B 45 ty 5 i0 (.int .u8 0) 1 1 Try.underlying45 hi hz0 hz1 hz2 rfl (by decide) dv xs.length (xs.map bv) hd.row ad 1 1 [bv x] (by simp)
    (fun j v hj => by
      match j, hj with
      | 0, hj => simp at hj; subst hj; simpa [Addr.add] using hu)
    (fun v hv => by simp at hv; subst hv; rfl) (by unfold maxLen; omega) (by omega) hB
  refine ⟨v', w', r1, ⟨fun y hy => ?_, by simpa using hl, by simpa using r2⟩, r3, r5⟩
  rcases List.mem_append.1 hy with h | h
  · exact hd.small y h
  · simp at h; omega

theorem wpList_append_byte {w : World} {ops : Array Oper} {rest : List Oper} {o : Oper} {a : Act} {Q : Exit → Act → World → Prop} (hgd : o.guard = none) (d s : Operand)
    (ho : o.op = .call { callee := .builtin .append, args := #[d, s], argTypes := #[45, 45] }) (dv : Value) (ad : Addr) (hed : a.eval d = dv) (hes : a.eval s = .slice (some ad) 1 1)
    {B : Nat} {xs : List Nat} {x : Nat} (hd : Own B w dv xs) (hx : x < 256) (hu : w.cell? ad = some (bv x)) (hB : B ≤ w.heap.size) (hl : xs.length + 1 ≤ 140737488351232)
    (h : ∀ v' w', Own B w' v' (xs ++ [x]) → w.grownBy w' dv.ownBlock → (v'.ownBlock = dv.ownBlock ∨ v'.ownBlock = some w.heap.size) → wpList Try.prog ops Q rest (a.put o.dst v') w') : wpList Try.prog ops Q (o :: rest) a w := by
  refine wpList_plain hgd fun K hK => ?_
  obtain ⟨v', w', hrun, r1, r2, r3⟩ := run_append_byte hd ad hx hu hB hl o.type
  unfold Oper.wp
  simp [execOp, ho, resolve, invoke, builtin, hed, hes, hrun, Result.andThen]
  exact hK _ _ (h _ _ r1 r2 r3)

theorem Sep.regrow {H k : Nat} {us : List Value} {v' : Value} (h : Sep us) (hk : k < us.length) (hh : ∀ j, j < us.length → Hi H (us.getD j undef)) (hv : v'.ownBlock = (us.getD k undef).ownBlock ∨ v'.ownBlock = some H) : Sep (us.set k v') := by
  intro i j hi hj hne
  simp only [List.length_set] at hi hj
  by_cases e1 : k = i
  · subst e1
    rw [getD_set_self _ _ _ _ hi, getD_set_ne _ _ _ hne]
    exact ((h j k hj hk (fun e => hne e.symm)).grown (hh j hj) hv).symm
  · rw [getD_set_ne _ _ _ e1]
    by_cases e2 : k = j
    · subst e2
      rw [getD_set_self _ _ _ _ hj]
      exact (h i k hi hk hne).grown (hh i hi) hv
    · rw [getD_set_ne _ _ _ e2]
      exact h i j hi hj hne

/-- A row has grown (in its place or elsewhere) and is put back. -/
theorem OwnMat.regrow {B k : Nat} {w w2 : World} {g n cap : Nat} {us : List Value} {X : List (List Nat)} {v' : Value} {ys : List Nat} (h : OwnMat B w (.slice (some ⟨g, 0, none⟩) n cap) us X) (hs : Sep us) (hk : k < X.length)
    (gr : w.grownBy w2 (us.getD k undef).ownBlock) (o : Own B w2 v' ys) :
    w2.cell? ⟨g, k, none⟩ = some (us.getD k undef) ∧ w2.frozen? ⟨g, k, none⟩ = false ∧ OwnMat B (w2.setCell ⟨g, k, none⟩ v') (.slice (some ⟨g, 0, none⟩) n cap) (us.set k v') (X.set k ys) ∧ w2.grownBy (w2.setCell ⟨g, k, none⟩ v') (some g) := by
  have hsm := h.same
  have hrow2 : w2.ownsRow B 45 1 (.slice (some ⟨g, 0, none⟩) n cap) us.length us := h.row.kept gr (Ap.symm (show Ap _ _ from apart_kinds h.row (h.vec k hk)))
  have hrow2' := hrow2
  have hr := hrow2
  rcases hrow2.2 with ⟨e, hn⟩ | ⟨g', cap', cur, e, hb, hg, hc, hm, hs', ht⟩
  · omega
  · injection e with e1 e2 e3
    injection e1 with e1
    injection e1 with e1 _ _
    subst e1 e2 e3
    have hcell : w2.cell? ⟨g, k, none⟩ = some (us.getD k undef) := by
      have := hr.cells (g := g) rfl k (us.getD k undef) (by simp [List.getD, show k < us.length from by omega])
      rwa [add_at, Nat.zero_add] at this
    have hgr : ∀ u, w2.grownBy (w2.setCell ⟨g, k, none⟩ u) (some g) := fun u => ⟨rfl, rfl, rfl, by simp, fun i hi hne => Below.heap_setCell _ _ _ _ (by simpa using hne)⟩
    have hown : ∀ u ys, Own B w2 u ys → Own B (w2.setCell ⟨g, k, none⟩ v') u ys := fun u ys hu => hu.kept (hgr v') (apart_kinds hrow2' hu)
    refine ⟨hcell, by simp [World.frozen?, hg], ⟨by simpa using h.len, ⟨by simp, .inr ⟨g, cap, cur.setIfInBounds k v', by simp, hb, ?_, by simpa using hc, hm, by simpa using hs', ?_⟩⟩, by simpa using h.same, fun j hj => ?_⟩, hgr _⟩
    · rw [setCell_eq_setRow w2 g k cur 45 (0, 0) _ hg]
      exact setRow_heap w2 g cur _ 45 _ hg
    · simp only [Array.toList_setIfInBounds, List.length_set]
      rw [List.take_set, ht]
    · simp only [List.length_set] at hj
      by_cases e : k = j
      · subst e
        rw [getD_set_self _ _ _ _ (by omega), getD_set_self _ _ _ _ hj]
        exact hown _ _ o
      · rw [getD_set_ne _ _ _ e, getD_set_ne _ _ _ e]
        exact hown _ _ ((h.vec j hj).kept gr (hs j k (by omega) (by omega) (fun x => e x.symm)))
end Go.Proofs.Ytdgdbjkgecfgeaa
