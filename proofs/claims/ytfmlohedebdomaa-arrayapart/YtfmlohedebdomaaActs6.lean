/- An argument of the type []Act read as data (Acts). -/
import Derived.Test.YtfmlohedebdomaaLift5
import Derived.Deep.Slices
import Derived.Deep.MidRow
set_option linter.unusedVariables false
namespace Go.Proofs.Ytfmlohedebdomaa
open Go.ChangeShapes Go.WideShapes Go.ChangeAt Go.RowKit

/-- A call, as data. -/
structure ActR where
  what : Int
  disk : Int
  at_ : Int
  x : Nat
  bval : Value
  b : List Nat
  short : Bool
def acells (c : ActR) : List Value := [.int .i64 c.what, .int .i64 c.disk, .int .i64 c.at_, .int .u8 (c.x : Int), c.bval, .bool c.short]
def I64 (n : Int) : Prop := -9223372036854775808 ≤ n ∧ n ≤ 9223372036854775807
theorem i64_wf {n : Int} (h : (Lit.int .i64 n).wf = true) : I64 n := by
  have : -9223372036854775808 ≤ n ∧ n ≤ 9223372036854775807 := by simpa [Lit.wf, IntKind.min, IntKind.max, IntKind.signed, IntKind.bits] using h
  exact this
structure ActOk (w : World) (c : ActR) : Prop where
  what : I64 c.what
  disk : I64 c.disk
  at_ : I64 c.at_
  x : c.x < 256
  vec : Vec w c.bval c.b
/-- The slice v has the calls l. -/
structure Acts (w : World) (v : Value) (l : List ActR) : Prop where
  len : l.length ≤ 140737488351232
  form : ∃ p cap, v = .slice p l.length cap ∧ (l ≠ [] → ∃ b off, p = some ⟨b, off, none⟩ ∧ ∀ (i : Nat) (c : ActR), l[i]? = some c → w.rangeAt b (off + i * 6) (acells c))
  ok : ∀ c ∈ l, ActOk w c
theorem ActOk.keep {w w' : World} {c : ActR} (h : ActOk w c) (g : w.grownBy w' none) : ActOk w' c := ⟨h.what, h.disk, h.at_, h.x, h.vec.keep g⟩
theorem Acts.keep {w w' : World} {v : Value} {l : List ActR} (h : Acts w v l) (g : w.grownBy w' none) : Acts w' v l := by
  refine ⟨h.len, ?_, fun c hc => (h.ok c hc).keep g⟩
  obtain ⟨p, cap, rfl, h2⟩ := h.form
  refine ⟨p, cap, rfl, fun hl => ?_⟩
  obtain ⟨b, off, e, h3⟩ := h2 hl
  exact ⟨b, off, e, fun i c hc j u hj => g.cell (h3 i c hc j u hj) (by simp)⟩
theorem Acts.opened {w : World} {v : Value} {l : List ActR} (h : Acts w v l) : ∃ p n cap, v = .slice p n cap ∧ n = l.length := by
  obtain ⟨p, cap, e, _⟩ := h.form
  exact ⟨p, _, cap, e, rfl⟩
theorem Acts.at {w : World} {p : Option Addr} {n cap : Nat} {l : List ActR} (h : Acts w (.slice p n cap) l) {i : Nat} (hi : i < l.length) : ∃ b off, p = some ⟨b, off, none⟩ ∧ w.rangeAt b (off + i * 6) (acells l[i]) ∧ ActOk w l[i] := by
  obtain ⟨p', cap', e, h2⟩ := h.form
  injection e with e1 _ _
  subst e1
  obtain ⟨b, off, e, h3⟩ := h2 (fun e => by subst e; simp at hi)
  exact ⟨b, off, e, h3 i _ (List.getElem?_eq_getElem hi), h.ok _ (List.getElem_mem hi)⟩

theorem Try.cells34 : Try.prog.cellsOf 34 = 6 := by kernel_rfl
theorem Try.cells3 : Try.prog.cellsOf 3 = 1 := by kernel_rfl
theorem Try.cells4 : Try.prog.cellsOf 4 = 1 := by kernel_rfl
theorem Try.cells22 : Try.prog.cellsOf 32 = 1 := by kernel_rfl
theorem Try.bytes34 : 24 ≤ Try.prog.bytesOf 34 := by decide +kernel

section
variable {H : Type} {enc : TypeId × Value → H}

theorem weights_all {P : Program} {t : TypeId} : ∀ {l : List (DataW H)} {d : DataW H}, d ∈ l → ∀ n ∈ d.weights P t, n ∈ DataW.weightsAll P t l := by
  intro l
  induction l with
  | nil => intro d h; cases h
  | cons x r ih =>
    intro d h n hn
    simp only [DataW.weightsAll, List.mem_append]
    rcases List.mem_cons.1 h with rfl | h
    · exact .inl hn
    · exact .inr (ih h n hn)

theorem vec_trod {W : World} {v : Value} {y : DataW H × List MemPlace} {fuel : Nat} (hf : DataW.trod enc Try.prog W 0 (fun _ => true) true fuel 32 [v] = some y)
    (hz : ∀ elems spare, y.1 = .slice elems spare → (elems.length + spare.length) * Try.prog.bytesOf 5 ≤ reachBytes) : ∃ xs, Vec W v xs := by
  rcases open_ints Try.underlying32 Try.underlying5 Try.cells5 hf with ⟨hcs, _⟩ | ⟨x, l, c, zs, hcs, _, hl, hm, hzz, hx, hcell, hwz⟩
  · simp at hcs
    subst hcs
    exact ⟨[], by simp, by simp, none, 0, rfl, Nat.le_refl _, by decide, fun h => absurd rfl h⟩
  · simp at hcs
    subst hcs
    simp only [if_true] at hzz
    have hb := hz _ _ (by rw [hx])
    rw [Try.bytes5] at hb
    simp only [lits, List.length_map, List.length_take, List.length_drop, reachBytes] at hb
    refine ⟨_, vec_of (zs := zs) hl hm (by omega) (by omega) hwz (by simp) (fun a ha c hc => ?_)⟩
    cases ha
    exact hcell c (by omega)

theorem act_trod {W : World} {cs : List Value} {y : DataW H × List MemPlace} {fuel : Nat} (hf : DataW.trod enc Try.prog W 0 (fun _ => true) true fuel 34 cs = some y)
    (hz : ∀ n ∈ y.1.weights Try.prog 34, n ≤ reachBytes) : ∃ c : ActR, cs = acells c ∧ ActOk W c := by
  obtain ⟨q, n, _, hx, hl, hlen, hff⟩ := DataW.trod_struct Try.underlying34 hf
  have h8 := hl.trans Try.cells34
  match cs, h8 with
  | [c0, c1, c2, c3, c4, c5], _ =>
  match q, hlen with
  | [y0, y1, y2, y3, y4, y5], _ =>
  have t0 := hff 0 _ rfl
  have t1 := hff 1 _ rfl
  have t2 := hff 2 _ rfl
  have t3 := hff 3 _ rfl
  have t4 := hff 4 _ rfl
  have t5 := hff 5 _ rfl
  simp [Try.cells3] at t0 t1 t2
  simp [Try.cells5] at t3
  simp [Try.cells22] at t4
  simp [Try.cells4] at t5
  subst hx
  simp [DataW.weights, Try.underlying34, DataW.weightsEach] at hz
  obtain ⟨A, e0, _, w0⟩ := DataW.trod_int Try.underlying3 t0
  obtain ⟨B, e1, _, w1⟩ := DataW.trod_int Try.underlying3 t1
  obtain ⟨C, e2, _, w2⟩ := DataW.trod_int Try.underlying3 t2
  obtain ⟨X, e3, _, w3⟩ := DataW.trod_int Try.underlying5 t3
  obtain ⟨S, e5, _⟩ := DataW.trod_bool Try.underlying4 t5
  simp at e0 e1 e2 e3 e5
  subst e0 e1 e2 e3 e5
  have b3 := byte_wf w3
  obtain ⟨X, rfl⟩ := Int.eq_ofNat_of_zero_le b3.1
  have key : ∀ {y : DataW H × List MemPlace}, (∀ n ∈ y.1.weights Try.prog 32, n ≤ reachBytes) → ∀ elems spare, y.1 = .slice elems spare → (elems.length + spare.length) * Try.prog.bytesOf 5 ≤ reachBytes := fun hw elems spare e => hw _ (by rw [e]; simp [DataW.weights, Try.underlying32])
  obtain ⟨xs, vx⟩ := vec_trod t4 (key fun n hn => hz n (by simp [hn]))
  exact ⟨⟨A, B, C, X, c4, xs, S⟩, rfl, i64_wf w0, i64_wf w1, i64_wf w2, by show X < 256; omega, vx⟩

theorem acts_arg {W : World} {v : Value} {d : DataW H} {p : List MemPlace} {base : Nat} (hv : Value.okWide Try.prog W .any base 22 v) (h : DataW.Trod enc Try.prog W 0 (fun _ => true) true 22 v d p)
    (hz : ∀ n ∈ d.weights Try.prog 22, n ≤ reachBytes) : ∃ l, Acts W v l := by
  obtain ⟨a0, len0, cap0, rfl⟩ := okWide_slice Try.underlying22 hv
  obtain ⟨fuel, hf⟩ := h
  rcases Deep.open_slice Try.underlying22 hf with ⟨hcs, _⟩ | ⟨x, len, cap, m, n, D, Pl, hcs, _, hl, hm, hmm, hx, hrow⟩
  · simp [Value.cells] at hcs
    obtain ⟨rfl, rfl, rfl⟩ := hcs
    exact ⟨[], by simp, ⟨none, 0, rfl, fun h => absurd rfl h⟩, by simp⟩
  · simp [Value.cells] at hcs
    obtain ⟨rfl, rfl, rfl⟩ := hcs
    simp only [if_true] at hmm
    subst hmm
    simp only [Prod.mk.injEq] at hx
    obtain ⟨hx1, hx2⟩ := hx
    subst hx1
    clear hx2
    simp only [DataW.weights, Try.underlying22, List.mem_cons, List.mem_append] at hz
    have hout := hz _ (.inl rfl)
    have h24 := Try.bytes34
    simp only [List.length_map, List.length_range, reachBytes] at hout
    have hlen : len0 * 24 ≤ 140737488355328 := by
      have h1 : len0 * 24 ≤ (len0 + (m - len0)) * Try.prog.bytesOf 34 := Nat.mul_le_mul (by omega) h24
      omega
    rw [Try.cells34] at hrow
    have hex : ∀ i, i < len0 → ∃ c : ActR, W.cells? 0 (x.add (i * 6)) 6 = some (acells c) ∧ ActOk W c := fun i hi => by
      obtain ⟨cs', h1, h2⟩ := hrow i (by omega)
      obtain ⟨c, e, hc⟩ := act_trod h2 (fun n hn => hz n (.inr (.inl (weights_all (d := D i) (List.mem_map.2 ⟨i, List.mem_range.2 hi, rfl⟩) n hn))))
      exact ⟨c, by rw [h1, e], hc⟩
    have hin : Inhabited ActR := ⟨⟨0, 0, 0, 0, .slice none 0 0, [], false⟩⟩
    obtain ⟨C, hC⟩ := Deep.choose_lt (α := ActR) (p := fun i c => W.cells? 0 (x.add (i * 6)) 6 = some (acells c) ∧ ActOk W c) hex
    refine ⟨(List.range len0).map C, by simp; omega, ⟨some x, m, by simp, fun hne => ?_⟩, fun c hc => ?_⟩
    · have hpos : 0 < len0 := by
        rcases Nat.eq_zero_or_pos len0 with h | h
        · subst h; simp at hne
        · exact h
      obtain ⟨b, off, spot⟩ := x
      obtain ⟨_, _, hc0⟩ := World.cells?_some (hC 0 hpos).1
      have h0 := (hc0 0 (by decide)).trans (show (acells (C 0))[0]? = some (.int .i64 (C 0).what) from rfl)
      have hspot : spot = none := by simpa [Addr.add] using World.cell?_spot h0
      subst hspot
      refine ⟨b, off, rfl, fun i c hc j u hj => ?_⟩
      obtain ⟨hi, hci⟩ := List.getElem?_eq_some_iff.1 hc
      simp only [List.length_map, List.length_range] at hi
      simp only [List.getElem_map, List.getElem_range] at hci
      subst hci
      have hj6 : j < 6 := (List.getElem?_eq_some_iff.1 hj).1
      obtain ⟨_, _, hcell⟩ := World.cells?_some (hC i hi).1
      have := hcell j hj6
      rw [add_off, add_off, hj] at this
      exact this
    · obtain ⟨i, hi, rfl⟩ := List.mem_map.1 hc
      exact (hC i (List.mem_range.1 hi)).2
end
end Go.Proofs.Ytfmlohedebdomaa
