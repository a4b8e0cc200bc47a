/- A []int argument read as data; append([]int{}, l...). -/
import Derived.Test.YtdeajclghlbhcaaLift
import Derived.Test.YtdeajclghlbhcaaRowsM
namespace Go.Proofs.Ytdeajclghlbhcaa
open Go.ChangeShapes Go.WideShapes Go.ChangeAt Go.RowKit

theorem Try.cellsI : Try.prog.cellsOf 3 = 1 := by kernel_rfl
theorem Try.bytesI : Try.prog.bytesOf 3 = 8 := by kernel_rfl
theorem Try.infoI : (Try.prog.info? 3).map (fun i => (i.zero, i.size, i.bytes)) = some (some (.int .i64 0), 1, 8) := by kernel_rfl

theorem ivec_of {W : World} {p : Option Addr} {len cap : Nat} {zs : List Int} (hl : len ≤ cap) (hm : cap ≤ maxLen) (hz : len ≤ zs.length) (hb : len ≤ 140737488351232)
    (hp : p = none → len = 0) (hc : ∀ a, p = some a → ∀ c, c < len → W.cell? (a.add c) = some (.int .i64 (zs.getD c 0))) :
    IVec W (.slice p len cap) (zs.take len) := by
  have hlen : (zs.take len).length = len := by simp; omega
  refine ⟨by omega, p, cap, by rw [hlen], by omega, hm, fun hne => ?_⟩
  have hpos : 0 < len := by
    rcases Nat.eq_zero_or_pos len with h | h
    · subst h; simp at hne
    · exact h
  cases p with
  | none => exact absurd (hp rfl) (by omega)
  | some a =>
    obtain ⟨b, off, spot⟩ := a
    have h0 := hc _ rfl 0 hpos
    have hspot : spot = none := by simpa [Addr.add] using World.cell?_spot h0
    subst hspot
    refine ⟨b, off, rfl, fun j hj => ?_⟩
    have hj' : j < len := by omega
    have := hc _ rfl j hj'
    rw [add_off] at this
    rw [this]
    simp [List.getD, hj']

section
variable {H : Type} {enc : TypeId × Value → H}

theorem ivec_arg {W : World} {v : Value} {d : DataW H} {p : List MemPlace} {base : Nat} (hv : Value.okWide Try.prog W .any base 45 v) (h : DataW.Trod enc Try.prog W 0 (fun _ => true) true 45 v d p)
    (hz : ∀ elems spare, d = .slice elems spare → (elems.length + spare.length) * Try.prog.bytesOf 3 ≤ reachBytes) : ∃ xs, IVec W v xs ∧ xs.length * 8 ≤ 140737488351232 := by
  obtain ⟨a0, len0, cap0, rfl⟩ := okWide_slice Try.underlying45 hv
  obtain ⟨fuel, hf⟩ := h
  rcases open_ints Try.underlying45 Try.underlying3 Try.cellsI hf with ⟨hcs, _⟩ | ⟨x, l, c, zs, hcs, _, hl, hm, hzz, hx, hcell, hwz⟩
  · simp [Value.cells] at hcs
    obtain ⟨rfl, rfl, rfl⟩ := hcs
    exact ⟨[], ⟨by simp, none, 0, rfl, Nat.le_refl _, by decide, fun h => absurd rfl h⟩, by simp⟩
  · simp [Value.cells] at hcs
    obtain ⟨rfl, rfl, rfl⟩ := hcs
    simp only [if_true] at hzz
    simp only [Prod.mk.injEq] at hx
    have hb := hz _ _ hx.1
    rw [Try.bytesI] at hb
    simp only [lits, List.length_map, List.length_take, List.length_drop, reachBytes] at hb
    refine ⟨_, ivec_of (zs := zs) hl hm (by omega) (by omega) (by simp) (fun a ha c hc => ?_), by simp; omega⟩
    cases ha
    exact hcell c (by omega)
end

/-- Behind an empty row of ints that the call has just made: all of whatever ints. -/
theorem run_append_ints {w : World} {s : Value} {ls : List Int} (hs : IVec w s ls) (h8 : ls.length * 8 ≤ 140737488351232) (ty : TypeId) :
    ∃ v' w', (Builtin.append_ #[45, 45] ty #[.slice (some ⟨w.heap.size, 0, none⟩) 0 0, s]).run Try.prog (w.alloc (.cells #[] 3)) = .ok v' w' ∧ IVec w' v' ls ∧ w.grownBy w' none := by
  obtain ⟨i0, hi, hz0, hz1, hz2⟩ := info_parts Try.infoI
  have hrow : (w.alloc (.cells #[] 3)).ownsRow w.heap.size 3 1 (.slice (some ⟨w.heap.size, 0, none⟩) 0 0) 0 [] := ⟨by simp, .inr ⟨w.heap.size, 0, #[], rfl, Nat.le_refl _, heap_alloc_new w _, Nat.le_refl _, by decide, by simp, by simp⟩⟩
  have hs' := hs.keep (World.grownBy_alloc w (.cells #[] 3) none)
  obtain ⟨s2, p, cap, rfl, s3, s4, s5⟩ := hs'
  cases p with
  | none =>
    have hy : ls = [] := by
      refine Classical.byContradiction fun hy => ?_
      obtain ⟨b, off, e, _⟩ := s5 hy
      cases e
    subst hy
    refine ⟨.slice (some ⟨w.heap.size, 0, none⟩) 0 0, w.alloc (.cells #[] 3), ?_, ⟨by simp, _, 0, rfl, Nat.le_refl _, by decide, fun h => absurd rfl h⟩, World.grownBy_alloc _ _ none⟩
    simp [Builtin.append_, run_underlying Try.underlying45, sizeOf, typeInfo, hi, Builtin.lenOf, Builtin.firstCells, storeCells]
  | some a =>
    obtain ⟨v', w', h1, h2, h3, _⟩ := run_append_own (P := Try.prog) (w.alloc (.cells #[] 3)) w.heap.size 45 ty 3 i0 (.int .i64 0) 1 8 Try.underlying45 hi hz0 hz1 hz2 rfl (by decide) (.slice (some ⟨w.heap.size, 0, none⟩) 0 0) 0 [] hrow a ls.length cap (ls.map (fun x => .int .i64 x)) (by simp)
      (fun j u hj => by
        have hj' : j < ls.length := by
          have := (List.getElem?_eq_some_iff.1 hj).1
          simpa using this
        obtain ⟨b, off, e, hc⟩ := s5 (fun e => by subst e; simp at hj')
        obtain rfl := Option.some.inj e
        rw [show (ls.map (fun x => Value.int .i64 x))[j]? = some (.int .i64 (ls.getD j 0)) from by simp [List.getD, hj']] at hj
        rw [add_off, hc j hj']; exact hj)
      (fun v hv => by obtain ⟨x, _, rfl⟩ := List.mem_map.1 hv; rfl) (by unfold maxLen; omega) (by omega) (by simp)
    refine ⟨v', w', h1, ?_, grown_new (World.grownBy_alloc w _ none) h3 (fun i e => by simp [Value.ownBlock] at e; omega)⟩
    have hr := h2
    rcases h2.2 with ⟨rfl, hn⟩ | ⟨g, cap', cur, rfl, hb, hg, hc, hm, hs1, ht⟩
    · simp at hn
      subst hn
      exact ⟨by simp, none, 0, rfl, Nat.le_refl _, by decide, fun h => absurd rfl h⟩
    · refine ⟨by omega, some ⟨g, 0, none⟩, cap', by simp, by simpa using hc, hm, fun _ => ⟨g, 0, rfl, fun j hj => ?_⟩⟩
      have := hr.cells (g := g) rfl j (.int .i64 (ls.getD j 0)) (by simp [List.getD, hj])
      rwa [add_at] at this

theorem wpList_append_ints {w : World} {ops : Array Oper} {rest : List Oper} {o : Oper} {a : Act} {Q : Exit → Act → World → Prop} (hgd : o.guard = none) (d s : Operand)
    (ho : o.op = .call { callee := .builtin .append, args := #[d, s], argTypes := #[45, 45] }) (sv : Value) (hed : a.eval d = .slice (some ⟨w.heap.size, 0, none⟩) 0 0) (hes : a.eval s = sv)
    {ls : List Int} (hs : IVec w sv ls) (h8 : ls.length * 8 ≤ 140737488351232)
    (h : ∀ v' w', IVec w' v' ls → w.grownBy w' none → wpList Try.prog ops Q rest (a.put o.dst v') w') : wpList Try.prog ops Q (o :: rest) a (w.alloc (.cells #[] 3)) := by
  refine wpList_plain hgd fun K hK => ?_
  obtain ⟨v', w', hrun, h1, h2⟩ := run_append_ints hs h8 o.type
  unfold Oper.wp
  simp [execOp, ho, resolve, invoke, builtin, hed, hes, hrun, Result.andThen]
  exact hK _ _ (h _ _ h1 h2)
end Go.Proofs.Ytdeajclghlbhcaa
