/- Arguments that are read as data, as vectors in memory: a []byte (vec_arg), a [][]byte (mat_arg). -/
import Derived.Test.YthmdidiojjmebaaRows
import Derived.Test.YthmdidiojjmebaaVec
import Derived.WalkKit
import Derived.ProofKit
import Derived.OpenShut
import Derived.ChangeOld
import Derived.Below
import Derived.SizedLaws
import Derived.Deep.Matrix
namespace Go.Proofs.Ythmdidiojjmebaa
open Go.ChangeShapes Go.WideShapes Go.ChangeAt Go.RowKit

theorem Try.laidOut : laidOutB Try.prog = true := by kernel_rfl
theorem Try.own : ownKnob Try.prog.godebug = none := by kernel_rfl
theorem Try.cells5 : Try.prog.cellsOf 5 = 1 := by kernel_rfl
theorem Try.cells22 : Try.prog.cellsOf 23 = 1 := by kernel_rfl
theorem Try.bytes5 : Try.prog.bytesOf 5 = 1 := by kernel_rfl
theorem Try.bytes22 : Try.prog.bytesOf 23 = 24 := by kernel_rfl

theorem byte_wf {n : Int} (h : (Lit.int .u8 n).wf = true) : 0 ≤ n ∧ n < 256 := by
  have : 0 ≤ n ∧ n ≤ 255 := by simpa [Lit.wf, IntKind.min, IntKind.max, IntKind.signed, IntKind.bits] using h
  omega

/-- A slice whose first n cells hold the numbers zs (each a byte). -/
theorem vec_of {W : World} {p : Option Addr} {len cap : Nat} {zs : List Int} (hl : len ≤ cap) (hm : cap ≤ maxLen) (hz : len ≤ zs.length) (hb : len ≤ 140737488351232)
    (hw : ∀ n ∈ zs, (Lit.int .u8 n).wf = true) (hp : p = none → len = 0) (hc : ∀ a, p = some a → ∀ c, c < len → W.cell? (a.add c) = some (.int .u8 (zs.getD c 0))) :
    Vec W (.slice p len cap) ((zs.take len).map Int.toNat) := by
  have hlen : ((zs.take len).map Int.toNat).length = len := by simp; omega
  have hget : ∀ j, j < len → ((((zs.take len).map Int.toNat).getD j 0 : Nat) : Int) = zs.getD j 0 := fun j hj => by
    have hj' : j < zs.length := by omega
    have h0 := byte_wf (hw zs[j] (List.getElem_mem _))
    simp [List.getD, hj, hj']
    omega
  refine ⟨fun x hx => ?_, by omega, p, cap, by rw [hlen], by omega, hm, fun hne => ?_⟩
  · obtain ⟨y, hy, rfl⟩ := List.mem_map.1 hx
    have := byte_wf (hw y (List.mem_of_mem_take hy))
    omega
  · have hpos : 0 < len := by
      rcases Nat.eq_zero_or_pos len with h | h
      · subst h; simp at hne
      · exact h
    cases p with
    | none => exact absurd (hp rfl) (by omega)
    | some a =>
      obtain ⟨b, off, spot⟩ := a
      have h0 := hc _ rfl 0 hpos
      have hspot : spot = none := by simpa [Addr.add] using World.cell?_spot h0
      subst hspot
      refine ⟨b, off, rfl, fun j hj => ?_⟩
      have hj' : j < len := by omega
      have := hc _ rfl j hj'
      rw [add_off] at this
      rw [this, bv, hget j hj']

section
variable {H : Type} {enc : TypeId × Value → H}

theorem vec_arg {W : World} {v : Value} {d : DataW H} {p : List MemPlace} {base : Nat} (hv : Value.okWide Try.prog W .any base 23 v) (h : DataW.Trod enc Try.prog W 0 (fun _ => true) true 23 v d p)
    (hz : ∀ elems spare, d = .slice elems spare → (elems.length + spare.length) * Try.prog.bytesOf 5 ≤ reachBytes) : ∃ xs, Vec W v xs := by
  obtain ⟨a0, len0, cap0, rfl⟩ := okWide_slice Try.underlying23 hv
  obtain ⟨fuel, hf⟩ := h
  rcases open_ints Try.underlying23 Try.underlying5 Try.cells5 hf with ⟨hcs, _⟩ | ⟨x, l, c, zs, hcs, _, hl, hm, hzz, hx, hcell, hwz⟩
  · simp [Value.cells] at hcs
    obtain ⟨rfl, rfl, rfl⟩ := hcs
    exact ⟨[], by simp, by simp, none, 0, rfl, Nat.le_refl _, by decide, fun h => absurd rfl h⟩
  · simp [Value.cells] at hcs
    obtain ⟨rfl, rfl, rfl⟩ := hcs
    simp only [if_true] at hzz
    simp only [Prod.mk.injEq] at hx
    have hb := hz _ _ hx.1
    rw [Try.bytes5] at hb
    simp only [lits, List.length_map, List.length_take, List.length_drop, reachBytes] at hb
    refine ⟨_, vec_of (zs := zs) hl hm (by omega) (by omega) hwz (by simp) (fun a ha c hc => ?_)⟩
    cases ha
    exact hcell c (by omega)

theorem weights_all {P : Program} {e : TypeId} : ∀ {ds : List (DataW H)} {d : DataW H}, d ∈ ds → ∀ n ∈ d.weights P e, n ∈ DataW.weightsAll P e ds
  | x :: r, d, hd, n, hn => by
    simp only [DataW.weightsAll, List.mem_append]
    rcases List.mem_cons.1 hd with rfl | h
    · exact .inl hn
    · exact .inr (weights_all h n hn)

theorem mat_arg {W : World} {v : Value} {d : DataW H} {p : List MemPlace} {base : Nat} (hv : Value.okWide Try.prog W .any base 24 v) (h : DataW.Trod enc Try.prog W 0 (fun _ => true) true 24 v d p)
    (hz : ∀ n ∈ d.weights Try.prog 24, n ≤ reachBytes) : ∃ vs xss, Mat W v vs xss := by
  obtain ⟨a0, len0, cap0, rfl⟩ := okWide_slice Try.underlying24 hv
  obtain ⟨fuel, hf⟩ := h
  rcases Deep.open_int_rows Try.underlying24 Try.underlying23 Try.underlying5 Try.cells22 Try.cells5 hf with ⟨hcs, _⟩ | ⟨x, len, cap, A, L, C, Z, hcs, _, hl, hm, hx, hrow⟩
  · simp [Value.cells] at hcs
    obtain ⟨rfl, rfl, rfl⟩ := hcs
    exact ⟨[], [], ⟨by simp, none, 0, rfl, Nat.le_refl _, by decide, fun h => absurd rfl h⟩, rfl, by simp⟩
  · simp [Value.cells] at hcs
    obtain ⟨rfl, rfl, rfl⟩ := hcs
    simp only [Prod.mk.injEq] at hx
    obtain ⟨rfl, rfl⟩ := hx
    simp only [DataW.weights, Try.underlying24, List.mem_cons, List.mem_append] at hz
    have hout := hz _ (.inl rfl)
    rw [Try.bytes22] at hout
    simp only [List.length_map, List.length_range, reachBytes] at hout
    have hin : ∀ r, r < len0 → L r ≤ 140737488351232 := fun r hr => by
      obtain ⟨_, h1, h2, h3, h4, h5, h6⟩ := hrow r (by omega)
      cases hA : A r with
      | none => have := h5 hA; omega
      | some a =>
        have := hz ((L r + (C r - L r)) * Try.prog.bytesOf 5) (.inr (.inl (weights_all (d := Deep.intRow .u8 (A r) (L r) (Z r)) (List.mem_map.2 ⟨r, List.mem_range.2 hr, rfl⟩) _ (by
          simp only [Deep.intRow, hA, DataW.weights, Try.underlying23, lits, List.length_map, List.length_take, List.length_drop, List.mem_cons]
          left
          rw [h3, Nat.min_eq_left h1]))))
        rw [Try.bytes5] at this
        simp only [reachBytes] at this
        omega
    refine ⟨(List.range len0).map fun r => .slice (A r) (L r) (C r), (List.range len0).map fun r => ((Z r).take (L r)).map Int.toNat, ⟨by simp; omega, some x, cap0, by simp, by simpa using hl, hm, fun hne => ?_⟩, by simp, fun j hj => ?_⟩
    · have hpos : 0 < len0 := by
        rcases Nat.eq_zero_or_pos len0 with h | h
        · subst h; simp at hne
        · exact h
      obtain ⟨b, off, spot⟩ := x
      have h0 := (hrow 0 (by omega)).1
      have hspot : spot = none := by simpa [Addr.add] using World.cell?_spot h0
      subst hspot
      refine ⟨b, off, rfl, fun j hj => ?_⟩
      have hj' : j < len0 := by simpa using hj
      have := (hrow j (by omega)).1
      rw [add_off] at this
      rw [this]
      simp [List.getD, hj']
    · have hj' : j < len0 := by simpa using hj
      obtain ⟨_, h1, h2, h3, h4, h5, h6⟩ := hrow j (by omega)
      have := vec_of (W := W) (p := A j) (len := L j) (cap := C j) (zs := Z j) h1 h2 (by omega) (hin j hj') h4 (fun h => by have := h5 h; omega) (fun a ha c hc => (h6 a ha).2 c (by omega))
      simpa [List.getD, hj'] using this
end
end Go.Proofs.Ythmdidiojjmebaa
