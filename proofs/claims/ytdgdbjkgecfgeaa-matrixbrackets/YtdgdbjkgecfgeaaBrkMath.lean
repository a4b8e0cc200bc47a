/- For MatrixBrackets: brackets and rows of products, as lists; an own row of ints, and one int more. -/
import Derived.Test.YtdgdbjkgecfgeaaMulInv
import Derived.Test.YtdgdbjkgecfgeaaInts
import Derived.Maps.AppendAt
namespace Go.Proofs.Ytdgdbjkgecfgeaa
open Go.RowKit

theorem mul_brackets {X Y Z : List (List Nat)} {a b c d : Nat} (hX : Shape X a b) (hY : Shape Y b c) (hZ : Shape Z c d) (hb : 1 ≤ b) (hc : 1 ≤ c) (sX : ∀ i j, at2 X i j < 256) (sY : ∀ i j, at2 Y i j < 256) (sZ : ∀ i j, at2 Z i j < 256) :
    mulList (mulList X Y) Z = mulList X (mulList Y Z) := by
  have h1 := mul_shape hX hY hb
  have h2 := mul_shape hY hZ hc
  refine shape_ext (mul_shape h1 hZ hc) (mul_shape hX h2 hb) ?_
  refine (mul_at h1 hZ hc).trans ((MX.mm_congr (mul_at hX hY hb) (MX.Eq2.refl c d _)).trans ?_)
  refine (MX.mm_assoc (fun i j _ _ => sX i j) (fun i j _ _ => sY i j) (fun i j _ _ => sZ i j)).trans ?_
  exact ((mul_at hX h2 hb).trans (MX.mm_congr (MX.Eq2.refl a b _) (mul_at hY hZ hc))).symm

theorem rows_get (X : List (List Nat)) (ls : List Int) {i : Nat} (hi : i < ls.length) : (rowsList X ls).getD i [] = X.getD (ls.getD i 0).toNat [] := by
  simp [rowsList, List.getD, hi]
theorem rows_shape {X : List (List Nat)} {ls : List Int} {a b : Nat} (hX : Shape X a b) (h : ∀ j, j < ls.length → 0 ≤ ls.getD j 0 ∧ ls.getD j 0 < a) : Shape (rowsList X ls) ls.length b :=
  ⟨by simp [rowsList], fun j hj => by rw [rows_get X ls hj]; exact hX.row _ (by have := h j hj; omega)⟩

/-- Rows of a product are the product of those rows. -/
theorem rows_mul {X Y : List (List Nat)} {ls : List Int} {a b c : Nat} (hX : Shape X a b) (hY : Shape Y b c) (hb : 1 ≤ b) (h : ∀ j, j < ls.length → 0 ≤ ls.getD j 0 ∧ ls.getD j 0 < a) :
    mulList (rowsList X ls) Y = rowsList (mulList X Y) ls := by
  have hR := rows_shape hX h
  have hP := mul_shape hX hY hb
  refine shape_ext (mul_shape hR hY hb) (rows_shape hP h) (fun i j hi hj => ?_)
  have hl := h i hi
  rw [mul_at hR hY hb i j hi hj]
  have e1 : at2 (rowsList (mulList X Y) ls) i j = at2 (mulList X Y) (ls.getD i 0).toNat j := by unfold at2; rw [rows_get _ ls hi]
  rw [e1, mul_at hX hY hb _ j (by omega) hj]
  unfold MX.mm
  refine MX.xs_congr fun t _ => ?_
  have e2 : at2 (rowsList X ls) i t = at2 X (ls.getD i 0).toNat t := by unfold at2; rw [rows_get _ ls hi]
  rw [e2]

/-- The slice v lies in a row of its own, in a block from B on, and has the ints ls. -/
structure IOwn (B : Nat) (w : World) (v : Value) (ls : List Int) : Prop where
  len : ls.length * 8 ≤ 140737488351232
  row : w.ownsRow B 3 1 v ls.length (ls.map fun x => .int .i64 x)

theorem IOwn.ivec {B : Nat} {w : World} {v : Value} {ls : List Int} (h : IOwn B w v ls) : IVec w v ls := by
  have hl := h.len
  have hr := h.row
  rcases h.row.2 with ⟨rfl, hn⟩ | ⟨g, cap', cur, rfl, hb, hg, hc, hm, hs1, ht⟩
  · obtain rfl : ls = [] := List.eq_nil_of_length_eq_zero hn
    exact ⟨by simp, none, 0, rfl, Nat.le_refl _, by decide, fun h => absurd rfl h⟩
  · refine ⟨by omega, some ⟨g, 0, none⟩, cap', rfl, hc, hm, fun _ => ⟨g, 0, rfl, fun j hj => ?_⟩⟩
    have := hr.cells (g := g) rfl j (.int .i64 (ls.getD j 0)) (by simp [List.getD, hj])
    rwa [add_at] at this
theorem IOwn.keep {B : Nat} {w w' : World} {v : Value} {ls : List Int} (h : IOwn B w v ls) (g : w.grownBy w' none) : IOwn B w' v ls :=
  ⟨h.len, h.row.kept g (by cases h : v.ownBlock <;> simp)⟩
theorem IOwn.lo {B : Nat} {w : World} {v : Value} {ls : List Int} (h : IOwn B w v ls) : Lo B v := fun k hk => (h.row.lt k hk).1

theorem iown_lit {B g : Nat} {w : World} {x : Int} (h : w.heap[g]? = some (.cells #[.int .i64 x] 3 (0, 0))) (hB : B ≤ g) : IOwn B w (.slice (some ⟨g, 0, none⟩) 1 1) [x] :=
  ⟨by simp, by simp, .inr ⟨g, 1, _, rfl, hB, h, Nat.le_refl _, by decide, by simp, by simp⟩⟩

theorem wpList_append_int {w : World} {ops : Array Oper} {rest : List Oper} {o : Oper} {a : Act} {Q : Exit → Act → World → Prop} (hgd : o.guard = none) (d s : Operand)
    (ho : o.op = .call { callee := .builtin .append, args := #[d, s], argTypes := #[23, 23] }) (dv : Value) (ad : Addr) (hed : a.eval d = dv) (hes : a.eval s = .slice (some ad) 1 1)
    {B : Nat} {ls : List Int} {x : Int} (hd : IOwn B w dv ls) (hu : w.cell? ad = some (.int .i64 x)) (hB : B ≤ w.heap.size) (hl : (ls.length + 1) * 8 ≤ 140737488351232)
    (h : ∀ v' w', IOwn B w' v' (ls ++ [x]) → w.grownBy w' dv.ownBlock → wpList Try.prog ops Q rest (a.put o.dst v') w') : wpList Try.prog ops Q (o :: rest) a w := by
  refine wpList_plain hgd fun K hK => ?_
  obtain ⟨i0, hi, hz0, hz1, hz2⟩ := info_parts Try.infoI
  obtain ⟨v', w', r1, r2, r3, _⟩ := run_append_own (P := Try.prog) w B 23 o.type 3 i0 (.int .i64 0) 1 8 Try.underlying23 hi hz0 hz1 hz2 rfl (by decide) dv ls.length (ls.map fun x => .int .i64 x) hd.row ad 1 1 [.int .i64 x] (by simp)
    (fun j v hj => by
      match j, hj with
      | 0, hj => simp at hj; subst hj; simpa [Addr.add] using hu)
    (fun v hv => by simp at hv; subst hv; rfl) (by unfold maxLen; omega) (by omega) hB
  have ho' : IOwn B w' v' (ls ++ [x]) := ⟨by simpa using hl, by simpa using r2⟩
  unfold Oper.wp
  simp [execOp, ho, resolve, invoke, builtin, hed, hes, r1, Result.andThen]
  exact hK _ _ (h _ _ ho' r3)
end Go.Proofs.Ytdgdbjkgecfgeaa
