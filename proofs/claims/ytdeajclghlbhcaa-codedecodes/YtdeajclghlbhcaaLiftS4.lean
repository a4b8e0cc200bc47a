/- Arguments of the types hayricklaw04.Shape, Enc and Dec read as data. -/
import Derived.Test.YtdeajclghlbhcaaLift
import Derived.Test.YtdeajclghlbhcaaInts
import Derived.Lib.SmallJoins
set_option linter.unusedVariables false
namespace Go.Proofs.Ytdeajclghlbhcaa
open Go.ChangeShapes Go.WideShapes Go.ChangeAt Go.RowKit

section
variable {H : Type} {enc : TypeId × Value → H}

theorem vec_trod {W : World} {v : Value} {y : DataW H × List MemPlace} {fuel : Nat} (hf : DataW.trod enc Try.prog W 0 (fun _ => true) true fuel 39 [v] = some y)
    (hz : ∀ elems spare, y.1 = .slice elems spare → (elems.length + spare.length) * Try.prog.bytesOf 5 ≤ reachBytes) : ∃ xs, Vec W v xs := by
  rcases open_ints Try.underlying39 Try.underlying5 Try.cells5 hf with ⟨hcs, _⟩ | ⟨x, l, c, zs, hcs, _, hl, hm, hzz, hx, hcell, hwz⟩
  · simp at hcs
    subst hcs
    exact ⟨[], by simp, by simp, none, 0, rfl, Nat.le_refl _, by decide, fun h => absurd rfl h⟩
  · simp at hcs
    subst hcs
    simp only [if_true] at hzz
    have hb := hz _ _ (by rw [hx])
    rw [Try.bytes5] at hb
    simp only [lits, List.length_map, List.length_take, List.length_drop, reachBytes] at hb
    refine ⟨_, vec_of (zs := zs) hl hm (by omega) (by omega) hwz (by simp) (fun a ha c hc => ?_)⟩
    cases ha
    exact hcell c (by omega)

theorem ivec_trod {W : World} {v : Value} {y : DataW H × List MemPlace} {fuel : Nat} (hf : DataW.trod enc Try.prog W 0 (fun _ => true) true fuel 45 [v] = some y)
    (hz : ∀ elems spare, y.1 = .slice elems spare → (elems.length + spare.length) * Try.prog.bytesOf 3 ≤ reachBytes) : ∃ xs, IVec W v xs ∧ xs.length * 8 ≤ 140737488351232 := by
  rcases open_ints Try.underlying45 Try.underlying3 Try.cellsI hf with ⟨hcs, _⟩ | ⟨x, l, c, zs, hcs, _, hl, hm, hzz, hx, hcell, hwz⟩
  · simp at hcs
    subst hcs
    exact ⟨[], ⟨by simp, none, 0, rfl, Nat.le_refl _, by decide, fun h => absurd rfl h⟩, by simp⟩
  · simp at hcs
    subst hcs
    simp only [if_true] at hzz
    have hb := hz _ _ (by rw [hx])
    rw [Try.bytesI] at hb
    simp only [lits, List.length_map, List.length_take, List.length_drop, reachBytes] at hb
    refine ⟨_, ivec_of (zs := zs) hl hm (by omega) (by omega) (by simp) (fun a ha c hc => ?_), by simp; omega⟩
    cases ha
    exact hcell c (by omega)

theorem mat_trod {W : World} {v : Value} {y : DataW H × List MemPlace} {fuel : Nat} (hf : DataW.trod enc Try.prog W 0 (fun _ => true) true fuel 24 [v] = some y)
    (hz : ∀ n ∈ y.1.weights Try.prog 24, n ≤ reachBytes) : ∃ vs xss, Mat W v vs xss := by
  rcases Deep.open_int_rows Try.underlying24 Try.underlying39 Try.underlying5 Try.cells22 Try.cells5 hf with ⟨hcs, _⟩ | ⟨x, len0, cap0, A, L, C, Z, hcs, _, hl, hm, hx, hrow⟩
  · simp at hcs
    subst hcs
    exact ⟨[], [], ⟨by simp, none, 0, rfl, Nat.le_refl _, by decide, fun h => absurd rfl h⟩, rfl, by simp⟩
  · simp at hcs
    subst hcs
    rw [hx] at hz
    simp only [DataW.weights, Try.underlying24, List.mem_cons, List.mem_append] at hz
    have hout := hz _ (.inl rfl)
    rw [Try.bytes22] at hout
    simp only [List.length_map, List.length_range, reachBytes] at hout
    have hin : ∀ r, r < len0 → L r ≤ 140737488351232 := fun r hr => by
      obtain ⟨_, h1, h2, h3, h4, h5, h6⟩ := hrow r (by omega)
      cases hA : A r with
      | none => have := h5 hA; omega
      | some a =>
        have := hz ((L r + (C r - L r)) * Try.prog.bytesOf 5) (.inr (.inl (weights_all (d := Deep.intRow .u8 (A r) (L r) (Z r)) (List.mem_map.2 ⟨r, List.mem_range.2 hr, rfl⟩) _ (by
          simp only [Deep.intRow, hA, DataW.weights, Try.underlying39, lits, List.length_map, List.length_take, List.length_drop, List.mem_cons]
          left
          rw [h3, Nat.min_eq_left h1]))))
        rw [Try.bytes5] at this
        simp only [reachBytes] at this
        omega
    refine ⟨(List.range len0).map fun r => .slice (A r) (L r) (C r), (List.range len0).map fun r => ((Z r).take (L r)).map Int.toNat, ⟨by simp; omega, some x, cap0, by simp, by simpa using hl, hm, fun hne => ?_⟩, by simp, fun j hj => ?_⟩
    · have hpos : 0 < len0 := by
        rcases Nat.eq_zero_or_pos len0 with h | h
        · subst h; simp at hne
        · exact h
      obtain ⟨b, off, spot⟩ := x
      have h0 := (hrow 0 (by omega)).1
      have hspot : spot = none := by simpa [Addr.add] using World.cell?_spot h0
      subst hspot
      refine ⟨b, off, rfl, fun j hj => ?_⟩
      have hj' : j < len0 := by simpa using hj
      have := (hrow j (by omega)).1
      rw [add_off] at this
      rw [this]
      simp [List.getD, hj']
    · have hj' : j < len0 := by simpa using hj
      obtain ⟨_, h1, h2, h3, h4, h5, h6⟩ := hrow j (by omega)
      have := vec_of (W := W) (p := A j) (len := L j) (cap := C j) (zs := Z j) h1 h2 (by omega) (hin j hj') h4 (fun h => by have := h5 h; omega) (fun a ha c hc => (h6 a ha).2 c (by omega))
      simpa [List.getD, hj'] using this

theorem Try.cellsShape : Try.prog.cellsOf 52 = 5 := by kernel_rfl
theorem Try.cellsEnc : Try.prog.cellsOf 33 = 4 := by kernel_rfl
theorem Try.cellsDec : Try.prog.cellsOf 47 = 4 := by kernel_rfl
theorem Try.cellsMat : Try.prog.cellsOf 24 = 1 := by kernel_rfl
theorem Try.cellsIs : Try.prog.cellsOf 45 = 1 := by kernel_rfl

theorem shape_arg {W : World} {v : Value} {d : DataW H} {p : List MemPlace} {base : Nat} (hv : Value.okWide Try.prog W .any base 52 v) (h : DataW.Trod enc Try.prog W 0 (fun _ => true) true 52 v d p)
    (hz : ∀ n ∈ d.weights Try.prog 52, n ≤ reachBytes) :
    ∃ (A B C : Nat) (x y : Value) (xs ys : List Nat), v = .agg #[.int .u8 (A : Int), .int .u8 (B : Int), .int .u8 (C : Int), x, y] ∧ A < 256 ∧ B < 256 ∧ C < 256 ∧ Vec W x xs ∧ Vec W y ys := by
  obtain ⟨cs, rfl, hsz⟩ := okWide_struct Try.underlying52 hv
  have h8 := hsz.trans Try.cellsShape
  obtain ⟨l⟩ := cs
  obtain ⟨fuel, hf⟩ := h
  obtain ⟨q, n, _, hx, hl, hlen, hff⟩ := DataW.trod_struct Try.underlying52 hf
  match l, h8 with
  | [c0, c1, c2, c3, c4], _ =>
  match q, hlen with
  | [y0, y1, y2, y3, y4], _ =>
  have t0 := hff 0 _ rfl
  have t1 := hff 1 _ rfl
  have t2 := hff 2 _ rfl
  have t3 := hff 3 _ rfl
  have t4 := hff 4 _ rfl
  simp [Value.cells, Try.cells5] at t0 t1 t2
  simp [Value.cells, Try.cells22] at t3 t4
  simp at hx
  obtain ⟨rfl, rfl⟩ := hx
  simp [DataW.weights, Try.underlying52, DataW.weightsEach] at hz
  obtain ⟨A, e0, _, w0⟩ := DataW.trod_int Try.underlying5 t0
  obtain ⟨B, e1, _, w1⟩ := DataW.trod_int Try.underlying5 t1
  obtain ⟨C, e2, _, w2⟩ := DataW.trod_int Try.underlying5 t2
  simp at e0 e1 e2
  subst e0 e1 e2
  have b0 := byte_wf w0
  have b1 := byte_wf w1
  have b2 := byte_wf w2
  obtain ⟨A, rfl⟩ := Int.eq_ofNat_of_zero_le b0.1
  obtain ⟨B, rfl⟩ := Int.eq_ofNat_of_zero_le b1.1
  obtain ⟨C, rfl⟩ := Int.eq_ofNat_of_zero_le b2.1
  have key : ∀ {y : DataW H × List MemPlace}, (∀ n ∈ y.1.weights Try.prog 39, n ≤ reachBytes) → ∀ elems spare, y.1 = .slice elems spare → (elems.length + spare.length) * Try.prog.bytesOf 5 ≤ reachBytes := fun hw elems spare e => hw _ (by rw [e]; simp [DataW.weights, Try.underlying39])
  obtain ⟨xs, vx⟩ := vec_trod t3 (key fun n hn => hz n (by simp [hn]))
  obtain ⟨ys, vy⟩ := vec_trod t4 (key fun n hn => hz n (by simp [hn]))
  exact ⟨A, B, C, _, _, xs, ys, rfl, by omega, by omega, by omega, vx, vy⟩

theorem enc_arg {W : World} {v : Value} {d : DataW H} {p : List MemPlace} {base : Nat} (hv : Value.okWide Try.prog W .any base 33 v) (h : DataW.Trod enc Try.prog W 0 (fun _ => true) true 33 v d p)
    (hz : ∀ n ∈ d.weights Try.prog 33, n ≤ reachBytes) :
    ∃ (A B C : Int) (x : Value) (vs : List Value) (X : List (List Nat)), v = .agg #[.int .i64 A, .int .i64 B, .int .i64 C, x] ∧ Mat W x vs X := by
  obtain ⟨cs, rfl, hsz⟩ := okWide_struct Try.underlying33 hv
  have h8 := hsz.trans Try.cellsEnc
  obtain ⟨l⟩ := cs
  obtain ⟨fuel, hf⟩ := h
  obtain ⟨q, n, _, hx, hl, hlen, hff⟩ := DataW.trod_struct Try.underlying33 hf
  match l, h8 with
  | [c0, c1, c2, c3], _ =>
  match q, hlen with
  | [y0, y1, y2, y3], _ =>
  have t0 := hff 0 _ rfl
  have t1 := hff 1 _ rfl
  have t2 := hff 2 _ rfl
  have t3 := hff 3 _ rfl
  simp [Value.cells, Try.cellsI] at t0 t1 t2
  simp [Value.cells, Try.cellsMat] at t3
  simp at hx
  obtain ⟨rfl, rfl⟩ := hx
  simp [DataW.weights, Try.underlying33, DataW.weightsEach] at hz
  obtain ⟨A, e0, _, w0⟩ := DataW.trod_int Try.underlying3 t0
  obtain ⟨B, e1, _, w1⟩ := DataW.trod_int Try.underlying3 t1
  obtain ⟨C, e2, _, w2⟩ := DataW.trod_int Try.underlying3 t2
  simp at e0 e1 e2
  subst e0 e1 e2
  obtain ⟨vs, X, m⟩ := mat_trod t3 (fun n hn => hz n (by simp [hn]))
  exact ⟨A, B, C, _, vs, X, rfl, m⟩

theorem dec_arg {W : World} {v : Value} {d : DataW H} {p : List MemPlace} {base : Nat} (hv : Value.okWide Try.prog W .any base 47 v) (h : DataW.Trod enc Try.prog W 0 (fun _ => true) true 47 v d p)
    (hz : ∀ n ∈ d.weights Try.prog 47, n ≤ reachBytes) :
    ∃ (A B : Int) (l x : Value) (ls : List Int) (vs : List Value) (X : List (List Nat)), v = .agg #[.int .i64 A, .int .i64 B, l, x] ∧ IVec W l ls ∧ ls.length * 8 ≤ 140737488351232 ∧ Mat W x vs X := by
  obtain ⟨cs, rfl, hsz⟩ := okWide_struct Try.underlying47 hv
  have h8 := hsz.trans Try.cellsDec
  obtain ⟨l⟩ := cs
  obtain ⟨fuel, hf⟩ := h
  obtain ⟨q, n, _, hx, hl, hlen, hff⟩ := DataW.trod_struct Try.underlying47 hf
  match l, h8 with
  | [c0, c1, c2, c3], _ =>
  match q, hlen with
  | [y0, y1, y2, y3], _ =>
  have t0 := hff 0 _ rfl
  have t1 := hff 1 _ rfl
  have t2 := hff 2 _ rfl
  have t3 := hff 3 _ rfl
  simp [Value.cells, Try.cellsI] at t0 t1
  simp [Value.cells, Try.cellsIs] at t2
  simp [Value.cells, Try.cellsMat] at t3
  simp at hx
  obtain ⟨rfl, rfl⟩ := hx
  simp [DataW.weights, Try.underlying47, DataW.weightsEach] at hz
  obtain ⟨A, e0, _, w0⟩ := DataW.trod_int Try.underlying3 t0
  obtain ⟨B, e1, _, w1⟩ := DataW.trod_int Try.underlying3 t1
  simp at e0 e1
  subst e0 e1
  have key : ∀ {y : DataW H × List MemPlace}, (∀ n ∈ y.1.weights Try.prog 45, n ≤ reachBytes) → ∀ elems spare, y.1 = .slice elems spare → (elems.length + spare.length) * Try.prog.bytesOf 3 ≤ reachBytes := fun hw elems spare e => hw _ (by rw [e]; simp [DataW.weights, Try.underlying45])
  obtain ⟨ls, vl, h8l⟩ := ivec_trod t2 (key fun n hn => hz n (by simp [hn]))
  obtain ⟨vs, X, m⟩ := mat_trod t3 (fun n hn => hz n (by simp [hn]))
  exact ⟨A, B, _, _, ls, vs, X, rfl, vl, h8l, m⟩
end
end Go.Proofs.Ytdeajclghlbhcaa
