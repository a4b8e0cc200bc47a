/- Packed: LiftT8. -/
import Derived.Lib.SmallJoins
import Derived.Test.YtfjlpifaaknmpaaSn1
import Derived.Test.YtfjlpifaaknmpaaSn2
import Derived.Test.YtfjlpifaaknmpaaSn3
import Derived.Test.YtfjlpifaaknmpaaSn19
/- An argument of the type hayricklaw08.Torn read as data. -/
set_option linter.unusedSimpArgs false
set_option linter.unusedVariables false
set_option maxRecDepth 100000
namespace Go.Proofs.Ytfjlpifaaknmpaa
open Go.ChangeShapes Go.WideShapes Go.ChangeAt Go.RowKit

section
variable {H : Type} {enc : TypeId × Value → H}
theorem vec_trod9 {W : World} {v : Value} {y : DataW H × List MemPlace} {fuel : Nat} (hf : DataW.trod enc Try.prog W 0 (fun _ => true) true fuel 44 [v] = some y)
    (hz : ∀ elems spare, y.1 = .slice elems spare → (elems.length + spare.length) * Try.prog.bytesOf 5 ≤ reachBytes) : ∃ xs, Vec W v xs := by
  rcases open_ints Try.underlying44 Try.underlying5 Try.cells5 hf with ⟨hcs, _⟩ | ⟨x, l, c, zs, hcs, _, hl, hm, hzz, hx, hcell, hwz⟩
  · simp at hcs
    subst hcs
    exact ⟨[], by simp, by simp, none, 0, rfl, Nat.le_refl _, by decide, fun h => absurd rfl h⟩
  · simp at hcs
    subst hcs
    simp only [if_true] at hzz
    have hb := hz _ _ (by rw [hx])
    rw [Try.bytes5] at hb
    simp only [lits, List.length_map, List.length_take, List.length_drop, reachBytes] at hb
    refine ⟨_, vec_of (zs := zs) hl hm (by omega) (by omega) hwz (by simp) (fun a ha c hc => ?_)⟩
    cases ha
    exact hcell c (by omega)
theorem Try.cellsTorn : Try.prog.cellsOf 46 = 7 := by kernel_rfl
theorem Try.cellsB9 : Try.prog.cellsOf 4 = 1 := by kernel_rfl
theorem torn_arg {W : World} {v : Value} {d : DataW H} {p : List MemPlace} {base : Nat} (hv : Value.okWide Try.prog W .any base 46 v) (h : DataW.Trod enc Try.prog W 0 (fun _ => true) true 46 v d p)
    (hz : ∀ n ∈ d.weights Try.prog 46, n ≤ reachBytes) :
    ∃ (K M : Int) (X Y F : Nat) (S : Bool) (x : Value) (ps : List Nat), v = .agg #[.int .i64 K, .int .i64 M, .int .u8 (X : Int), .int .u8 (Y : Int), .int .u8 (F : Int), .bool S, x] ∧ X < 256 ∧ Y < 256 ∧ F < 256 ∧ Vec W x ps := by
  obtain ⟨cs, rfl, hsz⟩ := okWide_struct Try.underlying46 hv
  have h8 := hsz.trans Try.cellsTorn
  obtain ⟨l⟩ := cs
  obtain ⟨fuel, hf⟩ := h
  obtain ⟨q, n, _, hx, hl, hlen, hff⟩ := DataW.trod_struct Try.underlying46 hf
  match l, h8 with
  | [c0, c1, c2, c3, c4, c5, c6], _ =>
  match q, hlen with
  | [y0, y1, y2, y3, y4, y5, y6], _ =>
  have t0 := hff 0 _ rfl
  have t1 := hff 1 _ rfl
  have t2 := hff 2 _ rfl
  have t3 := hff 3 _ rfl
  have t4 := hff 4 _ rfl
  have t5 := hff 5 _ rfl
  have t6 := hff 6 _ rfl
  simp [Value.cells, Try.cellsI] at t0 t1
  simp [Value.cells, Try.cells5] at t2 t3 t4
  simp [Value.cells, Try.cellsB9] at t5
  simp [Value.cells, Try.cells22] at t6
  simp at hx
  obtain ⟨rfl, rfl⟩ := hx
  simp [DataW.weights, Try.underlying46, DataW.weightsEach] at hz
  obtain ⟨K, e0, _, w0⟩ := DataW.trod_int Try.underlying3 t0
  obtain ⟨M, e1, _, w1⟩ := DataW.trod_int Try.underlying3 t1
  obtain ⟨X, e2, _, w2⟩ := DataW.trod_int Try.underlying5 t2
  obtain ⟨Y, e3, _, w3⟩ := DataW.trod_int Try.underlying5 t3
  obtain ⟨F, e4, _, w4⟩ := DataW.trod_int Try.underlying5 t4
  obtain ⟨S, e5, _⟩ := DataW.trod_bool Try.underlying4 t5
  simp at e0 e1 e2 e3 e4 e5
  subst e0 e1 e2 e3 e4 e5
  have b2 := byte_wf w2
  have b3 := byte_wf w3
  have b4 := byte_wf w4
  obtain ⟨X, rfl⟩ := Int.eq_ofNat_of_zero_le b2.1
  obtain ⟨Y, rfl⟩ := Int.eq_ofNat_of_zero_le b3.1
  obtain ⟨F, rfl⟩ := Int.eq_ofNat_of_zero_le b4.1
  have key : ∀ {y : DataW H × List MemPlace}, (∀ n ∈ y.1.weights Try.prog 44, n ≤ reachBytes) → ∀ elems spare, y.1 = .slice elems spare → (elems.length + spare.length) * Try.prog.bytesOf 5 ≤ reachBytes := fun hw elems spare e => hw _ (by rw [e]; simp [DataW.weights, Try.underlying44])
  obtain ⟨ps, vp⟩ := vec_trod9 t6 (key fun n hn => hz n (by simp [hn]))
  exact ⟨K, M, X, Y, F, S, _, ps, rfl, by omega, by omega, by omega, vp⟩
end
end Go.Proofs.Ytfjlpifaaknmpaa

