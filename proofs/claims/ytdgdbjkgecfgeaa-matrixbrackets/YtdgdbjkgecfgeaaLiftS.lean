/- An argument of type hayricklaw03.Sizes read as data: four bytes and four vectors. -/
import Derived.Test.YtdgdbjkgecfgeaaLift
import Derived.Lib.SmallJoins
namespace Go.Proofs.Ytdgdbjkgecfgeaa
open Go.ChangeShapes Go.WideShapes Go.ChangeAt Go.RowKit

section
variable {H : Type} {enc : TypeId × Value → H}

theorem vec_trod {W : World} {v : Value} {y : DataW H × List MemPlace} {fuel : Nat} (hf : DataW.trod enc Try.prog W 0 (fun _ => true) true fuel 45 [v] = some y)
    (hz : ∀ elems spare, y.1 = .slice elems spare → (elems.length + spare.length) * Try.prog.bytesOf 5 ≤ reachBytes) : ∃ xs, Vec W v xs := by
  rcases open_ints Try.underlying45 Try.underlying5 Try.cells5 hf with ⟨hcs, _⟩ | ⟨x, l, c, zs, hcs, _, hl, hm, hzz, hx, hcell, hwz⟩
  · simp at hcs
    subst hcs
    exact ⟨[], by simp, by simp, none, 0, rfl, Nat.le_refl _, by decide, fun h => absurd rfl h⟩
  · simp at hcs
    subst hcs
    simp only [if_true] at hzz
    have hb := hz _ _ (by rw [hx])
    rw [Try.bytes5] at hb
    simp only [lits, List.length_map, List.length_take, List.length_drop, reachBytes] at hb
    refine ⟨_, vec_of (zs := zs) hl hm (by omega) (by omega) hwz (by simp) (fun a ha c hc => ?_)⟩
    cases ha
    exact hcell c (by omega)

theorem Try.cellsS : Try.prog.cellsOf 47 = 8 := by kernel_rfl

theorem sizes_arg {W : World} {v : Value} {d : DataW H} {p : List MemPlace} {base : Nat} (hv : Value.okWide Try.prog W .any base 47 v) (h : DataW.Trod enc Try.prog W 0 (fun _ => true) true 47 v d p)
    (hz : ∀ n ∈ d.weights Try.prog 47, n ≤ reachBytes) :
    ∃ (A B C D : Nat) (x y z r : Value) (xs ys zs rs : List Nat), v = .agg #[.int .u8 (A : Int), .int .u8 (B : Int), .int .u8 (C : Int), .int .u8 (D : Int), x, y, z, r] ∧ A < 256 ∧ B < 256 ∧ C < 256 ∧ D < 256 ∧ Vec W x xs ∧ Vec W y ys ∧ Vec W z zs ∧ Vec W r rs := by
  obtain ⟨cs, rfl, hsz⟩ := okWide_struct Try.underlying47 hv
  have h8 := hsz.trans Try.cellsS
  obtain ⟨l⟩ := cs
  obtain ⟨fuel, hf⟩ := h
  obtain ⟨q, n, _, hx, hl, hlen, hff⟩ := DataW.trod_struct Try.underlying47 hf
  match l, h8 with
  | [c0, c1, c2, c3, c4, c5, c6, c7], _ =>
  match q, hlen with
  | [y0, y1, y2, y3, y4, y5, y6, y7], _ =>
  have t0 := hff 0 _ rfl
  have t1 := hff 1 _ rfl
  have t2 := hff 2 _ rfl
  have t3 := hff 3 _ rfl
  have t4 := hff 4 _ rfl
  have t5 := hff 5 _ rfl
  have t6 := hff 6 _ rfl
  have t7 := hff 7 _ rfl
  simp [Value.cells, Try.cells5] at t0 t1 t2 t3
  simp [Value.cells, Try.cells22] at t4 t5 t6 t7
  simp at hx
  obtain ⟨rfl, rfl⟩ := hx
  simp [DataW.weights, Try.underlying47, DataW.weightsEach] at hz
  obtain ⟨A, e0, _, w0⟩ := DataW.trod_int Try.underlying5 t0
  obtain ⟨B, e1, _, w1⟩ := DataW.trod_int Try.underlying5 t1
  obtain ⟨C, e2, _, w2⟩ := DataW.trod_int Try.underlying5 t2
  obtain ⟨D, e3, _, w3⟩ := DataW.trod_int Try.underlying5 t3
  simp at e0 e1 e2 e3
  subst e0 e1 e2 e3
  have b0 := byte_wf w0
  have b1 := byte_wf w1
  have b2 := byte_wf w2
  have b3 := byte_wf w3
  obtain ⟨A, rfl⟩ := Int.eq_ofNat_of_zero_le b0.1
  obtain ⟨B, rfl⟩ := Int.eq_ofNat_of_zero_le b1.1
  obtain ⟨C, rfl⟩ := Int.eq_ofNat_of_zero_le b2.1
  obtain ⟨D, rfl⟩ := Int.eq_ofNat_of_zero_le b3.1
  have key : ∀ {y : DataW H × List MemPlace}, (∀ n ∈ y.1.weights Try.prog 45, n ≤ reachBytes) → ∀ elems spare, y.1 = .slice elems spare → (elems.length + spare.length) * Try.prog.bytesOf 5 ≤ reachBytes := fun hw elems spare e => hw _ (by rw [e]; simp [DataW.weights, Try.underlying45])
  obtain ⟨xs, vx⟩ := vec_trod t4 (key fun n hn => hz n (by simp [hn]))
  obtain ⟨ys, vy⟩ := vec_trod t5 (key fun n hn => hz n (by simp [hn]))
  obtain ⟨zs, vz⟩ := vec_trod t6 (key fun n hn => hz n (by simp [hn]))
  obtain ⟨rs, vr⟩ := vec_trod t7 (key fun n hn => hz n (by simp [hn]))
  exact ⟨A, B, C, D, _, _, _, _, xs, ys, zs, rs, rfl, by omega, by omega, by omega, by omega, vx, vy, vz, vr⟩
end
end Go.Proofs.Ytdgdbjkgecfgeaa
