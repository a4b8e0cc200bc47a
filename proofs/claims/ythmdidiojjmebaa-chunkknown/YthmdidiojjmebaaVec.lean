/- Vectors of bytes in memory: a slice that reads as a list of numbers below 256 (Vec), one that lies in a row of the call's own (Own); what keeps them. -/
import Derived.Test.YthmdidiojjmebaaChecked
import Derived.WalkKit
import Derived.WalkSpells
import Derived.WalkLawsBesides
import Derived.Deep.OwnRows
namespace Go.Proofs.Ythmdidiojjmebaa
open Go.RowKit

abbrev bv (x : Nat) : Value := .int .u8 (x : Int)

theorem bv_one (x : Nat) : (bv x).oneCell' = true := rfl

/-- The slice v has the elements xs in the world w. -/
structure Vec (w : World) (v : Value) (xs : List Nat) : Prop where
  small : ∀ x ∈ xs, x < 256
  len : xs.length ≤ 140737488351232
  form : ∃ p cap, v = .slice p xs.length cap ∧ xs.length ≤ cap ∧ cap ≤ maxLen ∧
    (xs ≠ [] → ∃ b off, p = some ⟨b, off, none⟩ ∧ ∀ j, j < xs.length → w.cell? ⟨b, off + j, none⟩ = some (bv (xs.getD j 0)))

/-- The slice v lies in a row of its own, in a block from B on, and has the elements xs. -/
structure Own (B : Nat) (w : World) (v : Value) (xs : List Nat) : Prop where
  small : ∀ x ∈ xs, x < 256
  len : xs.length ≤ 140737488351232
  row : w.ownsRow B 5 1 v xs.length (xs.map bv)

/-- The slice v has the elements vs (each of one cell; at most 24 bytes each) in the world w. -/
structure Cells (w : World) (v : Value) (vs : List Value) : Prop where
  len : vs.length * 24 ≤ 140737488351232
  form : ∃ p cap, v = .slice p vs.length cap ∧ vs.length ≤ cap ∧ cap ≤ maxLen ∧
    (vs ≠ [] → ∃ b off, p = some ⟨b, off, none⟩ ∧ ∀ j, j < vs.length → w.cell? ⟨b, off + j, none⟩ = some (vs.getD j undef))

/-- A slice of vectors: its elements vs read as the lists xss. -/
structure Mat (w : World) (v : Value) (vs : List Value) (xss : List (List Nat)) : Prop where
  row : Cells w v vs
  same : vs.length = xss.length
  vec : ∀ j, j < xss.length → Vec w (vs.getD j undef) (xss.getD j [])

def Lo (B : Nat) (v : Value) : Prop := ∀ k, v.ownBlock = some k → B ≤ k
def Hi (B : Nat) (v : Value) : Prop := ∀ k, v.ownBlock = some k → k < B

theorem apart_of {H : Nat} {v u : Value} (hv : Hi H v) (hu : Lo H u) : v.ownBlock = none ∨ v.ownBlock ≠ u.ownBlock := by
  cases h : v.ownBlock with
  | none => exact .inl rfl
  | some k =>
    refine .inr fun e => ?_
    have h1 := hv k h
    have h2 := hu k e.symm
    omega

theorem apart_of' {H : Nat} {v u : Value} (hv : Lo H v) (hu : Hi H u) : v.ownBlock = none ∨ v.ownBlock ≠ u.ownBlock := by
  cases h : v.ownBlock with
  | none => exact .inl rfl
  | some k =>
    refine .inr fun e => ?_
    have h1 := hv k h
    have h2 := hu k e.symm
    omega

theorem Hi.mono {H H' : Nat} {v : Value} (h : Hi H v) (l : H ≤ H') : Hi H' v := fun k hk => Nat.lt_of_lt_of_le (h k hk) l
theorem Lo.mono {H H' : Nat} {v : Value} (h : Lo H v) (l : H' ≤ H) : Lo H' v := fun k hk => Nat.le_trans l (h k hk)

theorem Own.lo {B : Nat} {w : World} {v : Value} {xs : List Nat} (h : Own B w v xs) : Lo B v := fun k hk => (h.row.lt k hk).1
theorem Own.hi {B : Nat} {w : World} {v : Value} {xs : List Nat} (h : Own B w v xs) : Hi w.heap.size v := fun k hk => (h.row.lt k hk).2

theorem Own.kept {B : Nat} {w w' : World} {v : Value} {xs : List Nat} {row : Option Nat} (h : Own B w v xs) (g : w.grownBy w' row) (ne : v.ownBlock = none ∨ v.ownBlock ≠ row) : Own B w' v xs :=
  ⟨h.small, h.len, h.row.kept g ne⟩

theorem Own.keep {B : Nat} {w w' : World} {v : Value} {xs : List Nat} (h : Own B w v xs) (g : w.grownBy w' none) : Own B w' v xs :=
  h.kept g (by cases h : v.ownBlock <;> simp)

theorem Vec.kept {w w' : World} {v : Value} {xs : List Nat} {row : Option Nat} (h : Vec w v xs) (g : w.grownBy w' row) (ne : v.ownBlock = none ∨ v.ownBlock ≠ row) : Vec w' v xs := by
  obtain ⟨h1, h2, p, cap, rfl, h3, h4, h5⟩ := h
  refine ⟨h1, h2, p, cap, rfl, h3, h4, fun hx => ?_⟩
  obtain ⟨b, off, rfl, hc⟩ := h5 hx
  refine ⟨b, off, rfl, fun j hj => g.cell (hc j hj) ?_⟩
  rcases ne with ne | ne
  · simp [Value.ownBlock] at ne
  · simpa [Value.ownBlock] using ne

theorem Vec.keep {w w' : World} {v : Value} {xs : List Nat} (h : Vec w v xs) (g : w.grownBy w' none) : Vec w' v xs :=
  h.kept g (by cases h : v.ownBlock <;> simp)

theorem getD_map_bv (xs : List Nat) (j : Nat) (h : j < xs.length) : (xs.map bv)[j]? = some (bv (xs.getD j 0)) := by
  simp [List.getD, h]

theorem add_at (g j : Nat) : (⟨g, 0, none⟩ : Addr).add j = ⟨g, 0 + j, none⟩ := by
  unfold Addr.add; split <;> simp_all
theorem add_off (g o j : Nat) : (⟨g, o, none⟩ : Addr).add j = ⟨g, o + j, none⟩ := by
  unfold Addr.add; split <;> simp_all

theorem Own.vec {B : Nat} {w : World} {v : Value} {xs : List Nat} (h : Own B w v xs) : Vec w v xs := by
  refine ⟨h.small, h.len, ?_⟩
  have hr := h.row
  rcases h.row.2 with ⟨rfl, hn⟩ | ⟨g, cap, cur, rfl, hb, hg, hc, hm, hs, ht⟩
  · have : xs = [] := List.eq_nil_of_length_eq_zero hn
    subst this
    exact ⟨none, 0, rfl, Nat.le_refl _, by decide, fun h => absurd rfl h⟩
  · refine ⟨some ⟨g, 0, none⟩, cap, rfl, hc, hm, fun _ => ⟨g, 0, rfl, fun j hj => ?_⟩⟩
    have := hr.cells (g := g) rfl j _ (getD_map_bv xs j hj)
    rwa [add_at] at this

theorem grown_trans {a b c : World} {row : Option Nat} (h : a.grownBy b row) (k : b.grownBy c row) : a.grownBy c row :=
  ⟨k.os.trans h.os, k.tape.trans h.tape, k.output.trans h.output, Nat.le_trans h.size k.size, fun i hi hr => (k.block i (Nat.lt_of_lt_of_le hi h.size) hr).trans (h.block i hi hr)⟩
theorem grown_any {a b : World} (h : a.grownBy b none) (row : Option Nat) : a.grownBy b row :=
  ⟨h.os, h.tape, h.output, h.size, fun i hi _ => h.block i hi (by simp)⟩
/-- A store into a block that was not there before. -/
theorem grown_new {a b c : World} {row : Option Nat} (h : a.grownBy b none) (k : b.grownBy c row) (hr : ∀ i, row = some i → a.heap.size ≤ i) : a.grownBy c none :=
  ⟨k.os.trans h.os, k.tape.trans h.tape, k.output.trans h.output, Nat.le_trans h.size k.size, fun i hi _ => (k.block i (Nat.lt_of_lt_of_le hi h.size) (fun e => by have := hr i e.symm; omega)).trans (h.block i hi (by simp))⟩
theorem grown_drewN (w : World) (n : Nat) : w.grownBy (w.drewN n) none := ⟨rfl, rfl, rfl, Nat.le_refl _, fun _ _ _ => rfl⟩
theorem grown_below {a b : World} {row : Option Nat} {B : Nat} (h : a.grownBy b row) (hB : B ≤ a.heap.size) (hr : ∀ i, row = some i → B ≤ i) : Below B a b :=
  (Below.refl B a).grown h hB hr

theorem Cells.kept {w w' : World} {v : Value} {vs : List Value} {row : Option Nat} (h : Cells w v vs) (g : w.grownBy w' row) (ne : v.ownBlock = none ∨ v.ownBlock ≠ row) : Cells w' v vs := by
  obtain ⟨h2, p, cap, rfl, h3, h4, h5⟩ := h
  refine ⟨h2, p, cap, rfl, h3, h4, fun hx => ?_⟩
  obtain ⟨b, off, rfl, hc⟩ := h5 hx
  refine ⟨b, off, rfl, fun j hj => g.cell (hc j hj) ?_⟩
  rcases ne with ne | ne
  · simp [Value.ownBlock] at ne
  · simpa [Value.ownBlock] using ne

theorem Cells.keep {w w' : World} {v : Value} {vs : List Value} (h : Cells w v vs) (g : w.grownBy w' none) : Cells w' v vs :=
  h.kept g (by cases h : v.ownBlock <;> simp)

theorem Mat.keep {w w' : World} {v : Value} {vs : List Value} {xss : List (List Nat)} (h : Mat w v vs xss) (g : w.grownBy w' none) : Mat w' v vs xss :=
  ⟨h.row.keep g, h.same, fun j hj => (h.vec j hj).keep g⟩

/-- The element at a place, as the walk asks for it. -/
theorem Vec.at {w : World} {v : Value} {xs : List Nat} (h : Vec w v xs) {k : Nat} (hk : k < xs.length) :
    ∃ b off cap, v = .slice (some ⟨b, off, none⟩) xs.length cap ∧ w.cell? ⟨b, off + k, none⟩ = some (.int .u8 ((xs.getD k 0 : Nat) : Int)) ∧ xs.getD k 0 < 256 := by
  obtain ⟨h1, h2, p, cap, rfl, h3, h4, h5⟩ := h
  obtain ⟨b, off, rfl, hc⟩ := h5 (fun e => by subst e; simp at hk)
  refine ⟨b, off, cap, rfl, hc k hk, h1 _ ?_⟩
  simp [List.getD, hk]

theorem Cells.at {w : World} {v : Value} {vs : List Value} (h : Cells w v vs) {k : Nat} (hk : k < vs.length) :
    ∃ b off cap, v = .slice (some ⟨b, off, none⟩) vs.length cap ∧ w.cell? ⟨b, off + k, none⟩ = some (vs.getD k undef) := by
  obtain ⟨h2, p, cap, rfl, h3, h4, h5⟩ := h
  obtain ⟨b, off, rfl, hc⟩ := h5 (fun e => by subst e; simp at hk)
  exact ⟨b, off, cap, rfl, hc k hk⟩

theorem Try.info5 : (Try.prog.info? 5).map (fun i => (i.zero, i.size, i.bytes)) = some (some (.int .u8 0), 1, 1) := by kernel_rfl

end Go.Proofs.Ythmdidiojjmebaa
