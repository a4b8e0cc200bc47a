/- Laws on vectors in memory: string(v), append(own, v...); contracts of bytes.Equal, vector.Same, hayricklaw02.own. -/
import Derived.Test.YthmdidiojjmebaaVec
import Derived.Laws.BytesArg
import Derived.Deep.RegionHeld3
namespace Go.Proofs.Ythmdidiojjmebaa
open Go.RowKit

/-- The bytes as a string. -/
def strOf (xs : List Nat) : ByteArray := strOfNums (xs.map fun (x : Nat) => (x : Int))

theorem convert_vec {w : World} {v : Value} {xs : List Nat} (h : Vec w v xs) : (convert 23 9 v).run Try.prog w = .ok (.string (strOf xs)) w := by
  obtain ⟨h1, h2, p, cap, rfl, h3, h4, h5⟩ := h
  by_cases hx : xs = []
  · subst hx
    cases p with
    | none => exact run_convert_bytes_nil w 23 5 Try.underlying23 Try.underlying5 _ _ 9 Try.underlying9
    | some a =>
      rw [run_convert_bytes_string w 23 9 5 _ _ cap Try.underlying23 Try.underlying5 Try.underlying9]
      have hl : (loadCells a 0).run Try.prog w = .ok (([] : List Int).map (Value.int .u8)).toArray w := by simpa using run_loadCells_list (P := Try.prog) w a [] (by simp)
      exact run_bytesToString w a 0 cap [] hl
  · obtain ⟨b, off, rfl, hc⟩ := h5 hx
    refine run_convert_bytes_arg w 23 5 Try.underlying23 Try.underlying5 b off xs.length cap _ (by simp) (fun i hi => ?_) 9 Try.underlying9
    rw [hc i hi]
    simp [List.getD, hi]

theorem strOf_eq {xs ys : List Nat} (hx : ∀ x ∈ xs, x < 256) (hy : ∀ x ∈ ys, x < 256) (h : strOf xs = strOf ys) : xs = ys := by
  have e : ∀ zs : List Nat, (∀ x ∈ zs, x < 256) → (strOf zs).data.toList.map UInt8.toNat = zs := fun zs hz => by
    simp only [strOf, strOfNums, List.map_map, List.toList_toArray]
    apply List.ext_getElem
    · simp
    · intro i h1 h2
      have := hz zs[i] (List.getElem_mem _)
      simp
      omega
  rw [← e xs hx, ← e ys hy, h]

/-- What the test 'string(a) == string(b)' comes to. -/
theorem str_cmp {xs ys : List Nat} (hx : ∀ x ∈ xs, x < 256) (hy : ∀ x ∈ ys, x < 256) : ((strOf xs).toList == (strOf ys).toList) = decide (xs = ys) := by
  by_cases e : xs = ys
  · subst e; simp
  · have : (strOf xs).toList ≠ (strOf ys).toList := fun h => e (strOf_eq hx hy (by
      rw [ByteArray.toList_eq, ByteArray.toList_eq] at h
      have h2 := Array.toList_inj.1 h
      cases hx : strOf xs
      cases hy : strOf ys
      rw [hx, hy] at h2
      exact congrArg ByteArray.mk h2))
    simp [this, e]
theorem str_list (xs : List Nat) : (strOf xs).toList = xs.map UInt8.ofNat := by
  rw [ByteArray.toList_eq]
  simp [strOf, strOfNums]

/-- Behind an own vector whatever vector. -/
theorem run_append_vec {B : Nat} {w : World} {d s : Value} {xs ys : List Nat} (hd : Own B w d xs) (hs : Vec w s ys) (hB : B ≤ w.heap.size) (hl : xs.length + ys.length ≤ 140737488351232) (ty : TypeId) :
    ∃ v' w', (Builtin.append_ #[23, 23] ty #[d, s]).run Try.prog w = .ok v' w' ∧ Own B w' v' (xs ++ ys) ∧ w.grownBy w' d.ownBlock := by
  obtain ⟨i0, hi, hz0, hz1, hz2⟩ := info_parts Try.info5
  have hsm : ∀ x ∈ xs ++ ys, x < 256 := fun x hx => by
    rcases List.mem_append.1 hx with h | h
    · exact hd.small x h
    · exact hs.small x h
  obtain ⟨s1, s2, p, cap, rfl, s3, s4, s5⟩ := hs
  cases p with
  | none =>
    have hy : ys = [] := by
      refine Classical.byContradiction fun hy => ?_
      obtain ⟨b, off, e, _⟩ := s5 hy
      cases e
    subst hy
    rcases hd.row.2 with ⟨rfl, hn⟩ | ⟨g, dcap, cur, rfl, hb, hg, hcc, hm, hcs, ht⟩
    · have hx : xs = [] := List.eq_nil_of_length_eq_zero hn
      subst hx
      refine ⟨.slice none 0 0, w, ?_, hd, World.grownBy.refl _ _⟩
      simp [Builtin.append_, run_underlying Try.underlying23, sizeOf, typeInfo, hi, Builtin.lenOf, Builtin.firstCells]
    · refine ⟨.slice (some ⟨g, 0, none⟩) xs.length dcap, w, ?_, by simpa using hd, World.grownBy.refl _ _⟩
      simp [Builtin.append_, run_underlying Try.underlying23, sizeOf, typeInfo, hi, Builtin.lenOf, Builtin.firstCells, hcc, storeCells]
  | some a =>
    obtain ⟨v', w', h1, h2, h3, _⟩ := run_append_own (P := Try.prog) w B 23 ty 5 i0 (.int .u8 0) 1 1 Try.underlying23 hi hz0 hz1 hz2 rfl (by decide) d xs.length (xs.map bv) hd.row a ys.length cap (ys.map bv) (by simp)
      (fun j u hj => by
        have hj' : j < ys.length := by
          have := (List.getElem?_eq_some_iff.1 hj).1
          simpa using this
        obtain ⟨b, off, e, hc⟩ := s5 (fun e => by subst e; simp at hj')
        obtain rfl := Option.some.inj e
        rw [getD_map_bv ys j hj'] at hj
        rw [add_off, hc j hj']; exact hj)
      (fun v hv => by obtain ⟨x, _, rfl⟩ := List.mem_map.1 hv; rfl) (by unfold maxLen; omega) (by omega) hB
    exact ⟨v', w', h1, ⟨hsm, by simpa using hl, by simpa using h2⟩, h3⟩

theorem Own.nil (B : Nat) (w : World) : Own B w (.slice none 0 0) [] := ⟨by simp, by simp, World.ownsRow_nil w B 5 1⟩

/-- append(d, s...) in a list of operations. -/
theorem wpList_append_vec {w : World} {ops : Array Oper} {rest : List Oper} {o : Oper} {a : Act} {Q : Exit → Act → World → Prop} (hgd : o.guard = none) (d s : Operand)
    (ho : o.op = .call { callee := .builtin .append, args := #[d, s], argTypes := #[23, 23] }) (dv sv : Value) (hed : a.eval d = dv) (hes : a.eval s = sv)
    {B : Nat} {xs ys : List Nat} (hd : Own B w dv xs) (hs : Vec w sv ys) (hB : B ≤ w.heap.size) (hl : xs.length + ys.length ≤ 140737488351232)
    (h : ∀ v' w', Own B w' v' (xs ++ ys) → w.grownBy w' dv.ownBlock → wpList Try.prog ops Q rest (a.put o.dst v') w') : wpList Try.prog ops Q (o :: rest) a w := by
  refine wpList_plain hgd fun K hK => ?_
  obtain ⟨v', w', hrun, h1, h2⟩ := run_append_vec hd hs hB hl o.type
  unfold Oper.wp
  simp [execOp, ho, resolve, invoke, builtin, hed, hes, hrun, Result.andThen]
  exact hK _ _ (h _ _ h1 h2)

/-- The same as a step of a region that draws. -/
theorem step_append_vec {ops : Array Oper} {o : Oper} {a : Act} {w : World} {K : Act → World → Prop} {Q : Exit → Act → World → Prop} {E : Prop} (hgd : o.guard = none) (d s : Operand)
    (ho : o.op = .call { callee := .builtin .append, args := #[d, s], argTypes := #[23, 23] }) (dv sv : Value) (hed : a.eval d = dv) (hes : a.eval s = sv)
    {B : Nat} {xs ys : List Nat} (hd : Own B w dv xs) (hs : Vec w sv ys) (hB : B ≤ w.heap.size) (hl : xs.length + ys.length ≤ 140737488351232)
    (h : ∀ v' w', Own B w' v' (xs ++ ys) → w.grownBy w' dv.ownBlock → K (a.put o.dst v') w') :
    if Region.wanted o (yielded ops a.tmps) = true then Oper.wp Try.prog o a w K Q else E := by
  have hw : Region.wanted o (yielded ops a.tmps) = true := by simp [Region.wanted, hgd]
  rw [if_pos hw]
  obtain ⟨v', w', hrun, h1, h2⟩ := run_append_vec hd hs hB hl o.type
  unfold Oper.wp
  simp [execOp, ho, resolve, invoke, builtin, hed, hes, hrun, Result.andThen]
  exact h _ _ h1 h2

end Go.Proofs.Ythmdidiojjmebaa
