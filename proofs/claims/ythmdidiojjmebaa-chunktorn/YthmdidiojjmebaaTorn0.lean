/- The walk of ChunkTorn. -/
import Derived.Test.YthmdidiojjmebaaSpo7
import Derived.Deep.Grids
namespace Go.Proofs.Ythmdidiojjmebaa.chunkTorn
open Go.ChangeShapes Go.WideShapes Go.ChangeAt Go.RowKit

/-- The slice v reads as the truth values bs. -/
structure BVec (w : World) (v : Value) (bs : List Bool) : Prop where
  form : ∃ p cap, v = .slice p bs.length cap ∧ bs.length ≤ cap ∧ cap ≤ maxLen ∧ (bs ≠ [] → ∃ b off, p = some ⟨b, off, none⟩ ∧ ∀ j, j < bs.length → w.cell? ⟨b, off + j, none⟩ = some (.bool (bs.getD j false)))
theorem BVec.keep {w w' : World} {v : Value} {bs : List Bool} (h : BVec w v bs) (g : w.grownBy w' none) : BVec w' v bs := by
  obtain ⟨p, cap, rfl, h1, h2, h3⟩ := h.form
  exact ⟨p, cap, rfl, h1, h2, fun hne => by
    obtain ⟨b, off, e, hc⟩ := h3 hne
    exact ⟨b, off, e, fun j hj => g.cell (hc j hj) (by simp)⟩⟩
theorem BVec.opened {w : World} {v : Value} {bs : List Bool} (h : BVec w v bs) : ∃ p n cap, v = .slice p n cap ∧ n = bs.length ∧ n ≤ maxLen := by
  obtain ⟨p, cap, e, h1, h2, _⟩ := h.form
  exact ⟨p, _, cap, e, rfl, by omega⟩
theorem BVec.spot {w : World} {p : Option Addr} {n cap : Nat} {bs : List Bool} (h : BVec w (.slice p n cap) bs) {k : Nat} (hk : k < bs.length) : ∃ b off, p = some ⟨b, off, none⟩ ∧ w.cell? ⟨b, off + k, none⟩ = some (.bool (bs.getD k false)) := by
  obtain ⟨p', cap', e, h1, h2, h3⟩ := h.form
  injection e with e1 e2 e3
  subst e1
  obtain ⟨b, off, e, hc⟩ := h3 (fun e => by subst e; simp at hk)
  exact ⟨b, off, e, hc k hk⟩

section
variable {H : Type} {enc : TypeId × Value → H}
theorem Try.cells4 : Try.prog.cellsOf 4 = 1 := by kernel_rfl
theorem bools_arg {W : World} {v : Value} {d : DataW H} {p : List MemPlace} {base : Nat} {q : Nat → Prop} (hv : Value.okWide Try.prog W .any base 37 v) (h : DataW.Trod enc Try.prog W 0 (fun _ => true) true 37 v d p) (_ : ∀ n ∈ d.weights Try.prog 37, q n) : ∃ bs, BVec W v bs := by
  obtain ⟨a0, len0, cap0, rfl⟩ := okWide_slice Try.underlying37 hv
  obtain ⟨fuel, hf⟩ := h
  rcases Deep.open_bools Try.underlying37 Try.underlying4 Try.cells4 hf with ⟨hcs, _⟩ | ⟨a, l, c, B, hcs, _, hl, hm, _, hcell⟩
  · simp [Value.cells] at hcs
    obtain ⟨rfl, rfl, rfl⟩ := hcs
    exact ⟨[], none, 0, rfl, Nat.le_refl _, by decide, fun h => absurd rfl h⟩
  · simp [Value.cells] at hcs
    obtain ⟨rfl, rfl, rfl⟩ := hcs
    refine ⟨(List.range len0).map B, some a, cap0, by simp, by simpa using hl, hm, fun hne => ?_⟩
    have hpos : 0 < len0 := by
      rcases Nat.eq_zero_or_pos len0 with h | h
      · subst h; simp at hne
      · exact h
    obtain ⟨b, off, spot⟩ := a
    have h0 := hcell 0 (by omega)
    have hspot : spot = none := by simpa [Addr.add] using World.cell?_spot h0
    subst hspot
    refine ⟨b, off, rfl, fun j hj => ?_⟩
    have hj' : j < len0 := by simpa using hj
    have := hcell j (by omega)
    rw [add_off] at this
    rw [this]
    simp [List.getD, hj']
end

theorem min2 (a b : Nat) (ts : Array TypeId) (t : TypeId) (W : World) : (Builtin.min_ ts t #[.int .i64 (a : Int), .int .i64 (b : Int)]).run Try.prog W = .ok (.int .i64 ((min a b : Nat) : Int)) W := by
  rw [run_min_int2]
  congr 2
  split <;> omega
theorem slice_h7 {b off n c hi : Nat} (h : hi ≤ c) (W : World) : (Instr.slice 23 (.slice (some ⟨b, off, none⟩) n c) none (some (.int .i64 (hi : Int))) none).run Try.prog W = .ok (.slice (some ⟨b, off, none⟩) hi c) W := by
  obtain ⟨i0, hi0, hz0, hz1, hz2⟩ := info_parts Try.info5
  have h1 : (Instr.sliceBound (.int .i64 (hi : Int)) c .sliceAcap).run Try.prog W = .ok hi W := by
    have := run_sliceBound (P := Try.prog) W .i64 (hi : Int) c .sliceAcap (by omega) (by omega)
    simpa using this
  simp [Instr.slice, run_underlying Try.underlying23, Instr.sliceBounds, h1, sizeOf, typeInfo, hi0, add_off]

/-- The bit that makes a stamp none but 0. -/
theorem or_one {n : Nat} (hn : n < 18446744073709551616) : ∃ n1 : Nat, n1 ≠ 0 ∧ n1 < 18446744073709551616 ∧ bits .or .u64 (n : Int) 1 = (n1 : Int) := by
  have h := u64_or_nat n 1 hn (by decide)
  refine ⟨n ||| 1, ?_, Nat.or_lt_two_pow (n := 64) hn (by decide), h⟩
  intro e
  have h2 : (n ||| 1) &&& 1 = 0 := by rw [e]; rfl
  rw [Nat.and_or_distrib_right] at h2
  have h3 : (1 : Nat) &&& 1 = 1 := rfl
  rw [h3] at h2
  have h4 : 1 ≤ (n &&& 1) ||| 1 := Nat.right_le_or
  omega
/-- The list of the mix, in memory: each row is one of the two chunks' own. -/
structure MixI (wh : World) (w : World) (v : Value) (ux uy : List Value) (C : List Bool) (i : Nat) : Prop where
  row : w.ownsRow wh.heap.size 23 1 v i ((List.range i).map fun j => if C.getD j false = true then uy.getD j undef else ux.getD j undef)
  gr : wh.grownBy w none
theorem MixI.mat {wh w : World} {v vx vy : Value} {ux uy : List Value} {C : List Bool} {i : Nat} {X Y : List (List Nat)} (h : MixI wh w v ux uy C i) (hi : i ≤ 64) (mx : Mat wh vx ux X) (my : Mat wh vy uy Y) (hX : i ≤ X.length) (hY : i ≤ Y.length) :
    Mat w v ((List.range i).map fun j => if C.getD j false = true then uy.getD j undef else ux.getD j undef) (CM.mix C X Y i) := by
  have hl : ((List.range i).map fun j => if C.getD j false = true then uy.getD j undef else ux.getD j undef).length = i := by simp
  refine ⟨⟨by rw [hl]; omega, ?_⟩, by rw [hl, CM.mix_len], fun j hj => ?_⟩
  · have hr := h.row
    rcases h.row.2 with ⟨rfl, hn⟩ | ⟨g, cap, cur, rfl, hb, hg, hc, hm, hs, ht⟩
    · subst hn
      exact ⟨none, 0, rfl, Nat.le_refl _, by decide, fun h => absurd rfl h⟩
    · refine ⟨some ⟨g, 0, none⟩, cap, by rw [hl], by rw [hl]; exact hc, hm, fun _ => ⟨g, 0, rfl, fun j hj => ?_⟩⟩
      rw [hl] at hj
      have := hr.cells (g := g) rfl j _ (by simp [hj]; rfl)
      rw [add_at] at this
      rw [this]
      simp [List.getD, hj]
  · rw [CM.mix_len] at hj
    rw [CM.mix_get C X Y hj]
    have e : ((List.range i).map fun j => if C.getD j false = true then uy.getD j undef else ux.getD j undef).getD j undef = if C.getD j false = true then uy.getD j undef else ux.getD j undef := by simp [List.getD, hj]; rfl
    rw [e]
    split
    · exact (my.vec j (by omega)).keep h.gr
    · exact (mx.vec j (by omega)).keep h.gr
theorem MixI.zero (wh : World) (ux uy : List Value) (C : List Bool) : MixI wh wh (.slice none 0 0) ux uy C 0 := ⟨World.ownsRow_nil wh _ _ _, World.grownBy.refl _ _⟩
end Go.Proofs.Ythmdidiojjmebaa.chunkTorn
