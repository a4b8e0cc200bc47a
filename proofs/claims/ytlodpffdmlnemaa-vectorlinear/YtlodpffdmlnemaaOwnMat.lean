/- Slices of vectors that the call itself makes (OwnMat); a store into an own vector; Combine's and the document's Combine's answer at whatever rows. -/
import Derived.Test.YtlodpffdmlnemaaRefComb
namespace Go.Proofs.Ytlodpffdmlnemaa
open Go.RowKit

theorem Try.info22 : (Try.prog.info? 22).map (fun i => (i.zero, i.size, i.bytes)) = some (some (.slice none 0 0), 1, 24) := by kernel_rfl

structure OwnMat (B : Nat) (w : World) (v : Value) (us : List Value) (xss : List (List Nat)) : Prop where
  len : us.length * 24 ≤ 140737488351232
  row : w.ownsRow B 22 1 v us.length us
  same : us.length = xss.length
  vec : ∀ j, j < xss.length → Own B w (us.getD j undef) (xss.getD j [])

theorem apart_kinds {B B' : Nat} {w : World} {v u : Value} {n : Nat} {us : List Value} {xs : List Nat} (hv : w.ownsRow B 22 1 v n us) (hu : Own B' w u xs) : u.ownBlock = none ∨ u.ownBlock ≠ v.ownBlock := by
  rcases hu.row.2 with ⟨rfl, _⟩ | ⟨g, cap, cur, rfl, _, hg, _⟩
  · exact .inl rfl
  · rcases hv.2 with ⟨rfl, _⟩ | ⟨g', cap', cur', rfl, _, hg', _⟩
    · exact .inr (by simp [Value.ownBlock])
    · refine .inr fun e => ?_
      simp only [Value.ownBlock, Option.some.injEq] at e
      subst e
      rw [hg] at hg'
      simp at hg'

theorem OwnMat.nil (B : Nat) (w : World) : OwnMat B w (.slice none 0 0) [] [] := ⟨by simp, World.ownsRow_nil w B 22 1, rfl, by simp⟩

theorem OwnMat.lo {B : Nat} {w : World} {v : Value} {us : List Value} {xss : List (List Nat)} (h : OwnMat B w v us xss) : Lo B v := fun k hk => (h.row.lt k hk).1
theorem OwnMat.hi {B : Nat} {w : World} {v : Value} {us : List Value} {xss : List (List Nat)} (h : OwnMat B w v us xss) : Hi w.heap.size v := fun k hk => (h.row.lt k hk).2

theorem OwnMat.keep {B : Nat} {w w' : World} {v : Value} {us : List Value} {xss : List (List Nat)} (h : OwnMat B w v us xss) (g : w.grownBy w' none) : OwnMat B w' v us xss :=
  ⟨h.len, h.row.kept g (by cases h : v.ownBlock <;> simp), h.same, fun j hj => (h.vec j hj).keep g⟩

theorem OwnMat.mat {B : Nat} {w : World} {v : Value} {us : List Value} {xss : List (List Nat)} (h : OwnMat B w v us xss) : Mat w v us xss := by
  refine ⟨⟨h.len, ?_⟩, h.same, fun j hj => (h.vec j hj).vec⟩
  have hr := h.row
  rcases h.row.2 with ⟨rfl, hn⟩ | ⟨g, cap, cur, rfl, hb, hg, hc, hm, hs, ht⟩
  · have : us = [] := List.eq_nil_of_length_eq_zero hn
    subst this
    exact ⟨none, 0, rfl, Nat.le_refl _, by decide, fun h => absurd rfl h⟩
  · refine ⟨some ⟨g, 0, none⟩, cap, rfl, hc, hm, fun _ => ⟨g, 0, rfl, fun j hj => ?_⟩⟩
    have := hr.cells (g := g) rfl j (us.getD j undef) (by simp [List.getD, hj])
    rwa [add_at] at this

/-- One own vector more: 'mine = append(mine, u)', u laid in a block of its own first. -/
theorem OwnMat.more {B : Nat} {w w2 : World} {v v' u : Value} {us : List Value} {xss : List (List Nat)} {xs : List Nat} (h : OwnMat B w v us xss) (hu : Own B w u xs)
    (hl : (us.length + 1) * 24 ≤ 140737488351232) (hr : w2.ownsRow B 22 1 v' (us.length + 1) (us ++ [u])) (hg : w.grownBy w2 v.ownBlock) : OwnMat B w2 v' (us ++ [u]) (xss ++ [xs]) := by
  refine ⟨by simpa using hl, by simpa using hr, by simp [h.same], fun j hj => ?_⟩
  have hs := h.same
  by_cases hj' : j < xss.length
  · have e1 : (us ++ [u]).getD j undef = us.getD j undef := by simp [List.getD, List.getElem?_append, show j < us.length from by omega]
    have e2 : (xss ++ [xs]).getD j [] = xss.getD j [] := by simp [List.getD, List.getElem?_append, hj']
    rw [e1, e2]
    exact (h.vec j hj').kept hg (apart_kinds h.row (h.vec j hj'))
  · have hj2 : j = xss.length := by simp at hj; omega
    have e1 : (us ++ [u]).getD j undef = u := by simp [List.getD, hj2, ← hs]
    have e2 : (xss ++ [xs]).getD j [] = xs := by simp [List.getD, hj2]
    rw [e1, e2]
    exact hu.kept hg (apart_kinds h.row hu)

/-- A place of an own vector, to be read and written. -/
theorem Own.spot {B : Nat} {w : World} {p : Option Addr} {n cap : Nat} {xs : List Nat} (h : Own B w (.slice p n cap) xs) {k : Nat} (hk : k < xs.length) :
    ∃ g, p = some ⟨g, 0, none⟩ ∧ n = xs.length ∧ w.cell? ⟨g, k, none⟩ = some (.int .u8 ((xs.getD k 0 : Nat) : Int)) ∧ w.frozen? ⟨g, k, none⟩ = false ∧ xs.getD k 0 < 256 ∧
      (∀ z : Nat, z < 256 → Own B (w.setCell ⟨g, k, none⟩ (.int .u8 (z : Int))) (.slice (some ⟨g, 0, none⟩) n cap) (xs.set k z)) ∧ ∀ u, w.grownBy (w.setCell ⟨g, k, none⟩ u) (some g) := by
  have hv := h.vec.at hk
  have hr := h.row
  rcases h.row.2 with ⟨e, hn⟩ | ⟨g, cap', cur, e, hb, hg, hc, hm, hs, ht⟩
  · omega
  · injection e with e1 e2 e3
    subst e1
    subst e2
    subst e3
    obtain ⟨b, off, c2, e4, hcell, hsm⟩ := hv
    injection e4 with e5 _ _
    injection e5 with e5
    injection e5 with e6 e7
    subst e6
    subst e7
    rw [Nat.zero_add] at hcell
    refine ⟨g, rfl, rfl, hcell, by simp [World.frozen?, hg], hsm, fun z hz => ⟨fun x hx => ?_, by simpa using h.len, by simp, .inr ⟨g, cap, cur.setIfInBounds k (.int .u8 (z : Int)), by simp, hb, ?_, by simpa using hc, hm, by simpa using hs, ?_⟩⟩, fun u => ⟨rfl, rfl, rfl, by simp, fun i hi hne => Below.heap_setCell _ _ _ _ (by simpa using hne)⟩⟩
    · rcases List.mem_or_eq_of_mem_set hx with h1 | h1
      · exact h.small x h1
      · rw [h1]; exact hz
    · rw [setCell_eq_setRow w g k cur 5 (0, 0) _ hg]
      exact setRow_heap w g cur _ 5 _ hg
    · simp only [Array.toList_setIfInBounds, List.length_set, List.map_set]
      rw [← ht, List.take_set]

/-! ## Combine's answer at whatever rows -/

def fits (xss : List (List Nat)) : Bool := (List.range xss.length).all fun k => (xss.getD k []).length == (xss.getD 0 []).length
def combE (cs : List Nat) (xss : List (List Nat)) : Int := if cs.length = xss.length ∧ fits xss = true then 0 else 1
def combZ (cs : List Nat) (xss : List (List Nat)) : List Nat := if cs.length = xss.length ∧ fits xss = true then vcomb cs xss else []

theorem fits_iff (xss : List (List Nat)) : fits xss = true ↔ ∀ k, k < xss.length → (xss.getD k []).length = (xss.getD 0 []).length := by
  simp only [fits, List.all_eq_true, List.mem_range, beq_iff_eq]

theorem first_not (p : Nat → Bool) : ∀ n, (∃ k, k < n ∧ p k = false) → ∃ m, m < n ∧ p m = false ∧ ∀ k, k < m → p k = true
  | 0, h => by obtain ⟨k, hk, _⟩ := h; omega
  | n + 1, h => by
    by_cases h2 : ∃ k, k < n ∧ p k = false
    · obtain ⟨m, h3, h4, h5⟩ := first_not p n h2
      exact ⟨m, by omega, h4, h5⟩
    · obtain ⟨k, hk, hp⟩ := h
      have hkn : k = n := by
        by_cases e : k = n
        · exact e
        · exact absurd ⟨k, by omega, hp⟩ h2
      subst hkn
      refine ⟨k, by omega, hp, fun j hj => ?_⟩
      cases e : p j with
      | true => rfl
      | false => exact absurd ⟨j, hj, e⟩ h2

theorem not_fits {xss : List (List Nat)} (h : ¬ fits xss = true) : ∃ m, m < xss.length ∧ (xss.getD m []).length ≠ (xss.getD 0 []).length ∧ ∀ k, k < m → (xss.getD k []).length = (xss.getD 0 []).length := by
  have h2 : ∃ k, k < xss.length ∧ ((xss.getD k []).length == (xss.getD 0 []).length) = false := by
    refine Classical.byContradiction fun hn => h ((fits_iff xss).2 fun k hk => ?_)
    cases e : ((xss.getD k []).length == (xss.getD 0 []).length) with
    | true => exact eq_of_beq e
    | false => exact absurd ⟨k, hk, e⟩ hn
  obtain ⟨m, h3, h4, h5⟩ := first_not (fun k => (xss.getD k []).length == (xss.getD 0 []).length) _ h2
  exact ⟨m, h3, by simpa using h4, fun k hk => eq_of_beq (h5 k hk)⟩

theorem mat_none {w : World} {r : Value} {vs : List Value} (h : Mat w r vs []) : vs = [] := List.eq_nil_of_length_eq_zero h.same

theorem combine_all {w : World} {c r : Value} {cs : List Nat} {vs : List Value} {xss : List (List Nat)} (vc : Vec w c cs) (mr : Mat w r vs xss) :
    Calls Try.prog 19 #[c, r] w fun e w' => ∃ v, e = .returned (.tuple #[v, .int .i64 (combE cs xss)]) ∧ Own w.heap.size w' v (combZ cs xss) ∧ w.grownBy w' none := by
  by_cases hl : cs.length = xss.length
  · by_cases hf : fits xss = true
    · unfold combE combZ
      rw [if_pos ⟨hl, hf⟩, if_pos ⟨hl, hf⟩]
      by_cases h0 : xss = []
      · subst h0
        have hc : cs = [] := List.eq_nil_of_length_eq_zero hl
        subst hc
        obtain rfl := mat_none mr
        exact (combine_none vc mr).mono fun e w' ⟨h1, h2⟩ => ⟨_, h1, Own.nil _ _, h2⟩
      · exact combine_yes vc mr hl (List.length_pos_iff.2 h0) ((fits_iff xss).1 hf)
    · unfold combE combZ
      rw [if_neg (fun h => hf h.2), if_neg (fun h => hf h.2)]
      obtain ⟨m, h1, h2, h3⟩ := not_fits hf
      exact (combine_no vc mr hl m h1 h3 h2).mono fun e w' ⟨h1, h2⟩ => ⟨_, h1, Own.nil _ _, h2⟩
  · unfold combE combZ
    rw [if_neg (fun h => hl h.1), if_neg (fun h => hl h.1)]
    exact (combine_count vc mr hl).mono fun e w' ⟨h1, h2⟩ => ⟨_, h1, Own.nil _ _, h2⟩

theorem refCombine_all {w : World} {c r : Value} {cs : List Nat} {vs : List Value} {xss : List (List Nat)} (vc : Vec w c cs) (mr : Mat w r vs xss) :
    Calls Try.prog 20 #[c, r] w fun e w' => ∃ v, e = .returned (.tuple #[v, .int .i64 (combE cs xss)]) ∧ Own w.heap.size w' v (combZ cs xss) ∧ w.grownBy w' none := by
  by_cases hl : cs.length = xss.length
  · by_cases hf : fits xss = true
    · unfold combE combZ
      rw [if_pos ⟨hl, hf⟩, if_pos ⟨hl, hf⟩]
      by_cases h0 : xss = []
      · subst h0
        have hc : cs = [] := List.eq_nil_of_length_eq_zero hl
        subst hc
        obtain rfl := mat_none mr
        exact (refCombine_none vc mr).mono fun e w' ⟨h1, h2⟩ => ⟨_, h1, Own.nil _ _, h2⟩
      · exact refCombine_yes vc mr hl (List.length_pos_iff.2 h0) ((fits_iff xss).1 hf)
    · unfold combE combZ
      rw [if_neg (fun h => hf h.2), if_neg (fun h => hf h.2)]
      obtain ⟨m, h1, h2, h3⟩ := not_fits hf
      exact (refCombine_no vc mr hl m h1 h3 h2).mono fun e w' ⟨h1, h2⟩ => ⟨_, h1, Own.nil _ _, h2⟩
  · unfold combE combZ
    rw [if_neg (fun h => hl h.1), if_neg (fun h => hl h.1)]
    exact (refCombine_count vc mr hl).mono fun e w' ⟨h1, h2⟩ => ⟨_, h1, Own.nil _ _, h2⟩
end Go.Proofs.Ytlodpffdmlnemaa
