/- The contracts of slices.Clone at drives and at writes. -/
import Derived.Test.YtfmlohedebdomaaBase6
set_option linter.unusedSimpArgs false
set_option linter.unusedVariables false
namespace Go.Proofs.Ytfmlohedebdomaa
open Go.RowKit

theorem run_append_rows {w : World} {B : Nat} {t ty e : TypeId} {z : Value} {size bytes : Nat} (hu : Try.prog.underlying t = some (.slice e)) (hinfo : (Try.prog.info? e).map (fun i => (i.zero, i.size, i.bytes)) = some (some z, size, bytes)) (hzs : z.cells.size = size) (hsz : 0 < size)
    {v : Value} {n : Nat} {xs : List Value} (hown : w.ownsRow B e size v n xs) {a : Addr} {m c : Nat} {news : List Value} (hl : news.length = m * size) (hnews : ∀ j u, news[j]? = some u → w.cell? (a.add j) = some u) (h1 : ∀ u ∈ news, u.oneCell' = true)
    (h63 : n + m ≤ maxLen) (hbytes : (n + m) * bytes ≤ 140737488355328) (hB : B ≤ w.heap.size) :
    ∃ v' w', (Builtin.append_ #[t, t] ty #[v, .slice (some a) m c]).run Try.prog w = .ok v' w' ∧ w'.ownsRow B e size v' (n + m) (xs ++ news) ∧ w.grownBy w' v.ownBlock := by
  obtain ⟨i, hi, hz0, hz1, hz2⟩ := info_parts hinfo
  obtain ⟨v', w', hr, h2, h3, _⟩ := run_append_own (P := Try.prog) w B t ty e i z size bytes hu hi hz0 hz1 hz2 hzs hsz v n xs hown a m c news hl hnews h1 h63 hbytes hB
  exact ⟨v', w', hr, h2, h3⟩
theorem wpList_append_rows {w : World} {ops : Array Oper} {rest : List Oper} {o : Oper} {ac : Act} {Q : Exit → Act → World → Prop} (hgd : o.guard = none) (d s : Operand) {B : Nat} {t e : TypeId} {z : Value} {size bytes : Nat}
    (ho : o.op = .call { callee := .builtin .append, args := #[d, s], argTypes := #[t, t] }) (hu : Try.prog.underlying t = some (.slice e)) (hinfo : (Try.prog.info? e).map (fun i => (i.zero, i.size, i.bytes)) = some (some z, size, bytes)) (hzs : z.cells.size = size) (hsz : 0 < size)
    {v : Value} {n : Nat} {xs : List Value} {a : Addr} {m c : Nat} {news : List Value} (hed : ac.eval d = v) (hes : ac.eval s = .slice (some a) m c) (hown : w.ownsRow B e size v n xs) (hl : news.length = m * size) (hnews : ∀ j u, news[j]? = some u → w.cell? (a.add j) = some u) (h1 : ∀ u ∈ news, u.oneCell' = true)
    (h63 : n + m ≤ maxLen) (hbytes : (n + m) * bytes ≤ 140737488355328) (hB : B ≤ w.heap.size)
    (h : ∀ v' w', w'.ownsRow B e size v' (n + m) (xs ++ news) → w.grownBy w' v.ownBlock → wpList Try.prog ops Q rest (ac.put o.dst v') w') : wpList Try.prog ops Q (o :: rest) ac w := by
  refine wpList_plain hgd fun K hK => ?_
  obtain ⟨v', w', hrun, r1, r2⟩ := run_append_rows (ty := o.type) (c := c) hu hinfo hzs hsz hown hl hnews h1 h63 hbytes hB
  unfold Oper.wp
  simp [execOp, ho, resolve, invoke, builtin, hed, hes, hrun, Result.andThen]
  exact hK _ _ (h _ _ r1 r2)
theorem rows_lit (w : World) {B : Nat} (e size : Nat) (hB : B ≤ w.heap.size) : (w.alloc (.cells #[] e)).ownsRow B e size (.slice (some ⟨w.heap.size, 0, none⟩) 0 0) 0 [] :=
  ⟨by simp, .inr ⟨w.heap.size, 0, #[], rfl, hB, heap_alloc_new w _, Nat.le_refl _, by decide, by simp, by simp⟩⟩
theorem rows_slice {w : World} {B e size n : Nat} {v : Value} {xs : List Value} (h : w.ownsRow B e size v n xs) : ∃ p c, v = .slice p n c := by
  rcases h.2 with ⟨rfl, hn⟩ | ⟨g, cap, cur, rfl, _⟩
  · subst hn; exact ⟨_, _, rfl⟩
  · exact ⟨_, _, rfl⟩

theorem run_zeroSec (w : World) : (zeroValue 77).run Try.prog w = .ok (.agg (rowOf (AM.zs 64))) w := by
  obtain ⟨i, hi, h0, h1, h2⟩ := info_parts zeroSec
  simp [zeroValue, typeInfo, hi, h0]
theorem lit_drv (w : World) : (Instr.buildSlice 66 0 #[]).run Try.prog w = .ok (.slice (some ⟨w.heap.size, 0, none⟩) 0 0) (w.alloc (.cells #[] 77)) := by
  simp [Instr.buildSlice, run_underlying Try.underlying66, run_size Try.sizeSec, run_zeroSec, newRow, Instr.fill, Array.range]
theorem lit_wrs (w : World) : (Instr.buildSlice 62 0 #[]).run Try.prog w = .ok (.slice (some ⟨w.heap.size, 0, none⟩) 0 0) (w.alloc (.cells #[] 79)) := by
  simp [Instr.buildSlice, run_underlying Try.underlying62, run_size Try.sizeWr, run_zeroW, newRow, Instr.fill, Array.range]
theorem eq_drv_nil (W : World) : (binOp BinOp.eql 66 (.slice none 0 0) (.slice none 0 0)).run Try.prog W = .ok (.bool true) W := by kernel_rfl
theorem eq_drv_no (g n c : Nat) (W : World) : (binOp BinOp.eql 66 (.slice (some ⟨g, 0, none⟩) n c) (.slice none 0 0)).run Try.prog W = .ok (.bool false) W := by kernel_rfl
theorem eq_wrs_nil (W : World) : (binOp BinOp.eql 62 (.slice none 0 0) (.slice none 0 0)).run Try.prog W = .ok (.bool true) W := by kernel_rfl
theorem eq_wrs_no (g n c : Nat) (W : World) : (binOp BinOp.eql 62 (.slice (some ⟨g, 0, none⟩) n c) (.slice none 0 0)).run Try.prog W = .ok (.bool false) W := by kernel_rfl
set_option maxRecDepth 100000 in
theorem clone_drv_nil (w : World) : Calls Try.prog 51 #[.slice none 0 0] w fun e w' => e = .returned (.slice none 0 0) ∧ w' = w := by
  have heq := eq_drv_nil
  go_enter Try.func51, Try.ntmps51
  go_wp2
  go_ret
  exact ⟨rfl, rfl⟩
set_option maxRecDepth 100000 in
theorem clone_wr_nil (w : World) : Calls Try.prog 52 #[.slice none 0 0] w fun e w' => e = .returned (.slice none 0 0) ∧ w' = w := by
  have heq := eq_wrs_nil
  go_enter Try.func52, Try.ntmps52
  go_wp2
  go_ret
  exact ⟨rfl, rfl⟩
set_option maxRecDepth 100000 in
theorem clone_drv_yes {w : World} {g0 n c0 : Nat} {xs : List Nat} (h : w.ownsRow 0 77 64 (.slice (some ⟨g0, 0, none⟩) n c0) n (xs.map bv)) (hn : n ≤ 4096) : Calls Try.prog 51 #[.slice (some ⟨g0, 0, none⟩) n c0] w fun e w' => ∃ p c, e = .returned (.slice p n c) ∧ w'.ownsRow w.heap.size 77 64 (.slice p n c) n (xs.map bv) ∧ w.grownBy w' none := by
  have HG : Hid (w.grownBy (w.alloc (.cells #[] 77)) none) := World.grownBy_alloc _ _ none
  have HE : Hid ((w.alloc (.cells #[] 77)).ownsRow w.heap.size 77 64 (.slice (some ⟨w.heap.size, 0, none⟩) 0 0) 0 []) := rows_lit w _ _ (Nat.le_refl _)
  have HL : Hid ((xs.map bv).length = n * 64) := h.1
  have HC : Hid (∀ j u, (xs.map bv)[j]? = some u → (w.alloc (.cells #[] 77)).cell? ((⟨g0, 0, none⟩ : Addr).add j) = some u) := fun j u hj => by
    have h1 := h.cells (g := g0) rfl j u hj
    exact HG.out.cell h1 (by simp)
  have HN : Hid (n ≤ 4096) := hn
  have HO : Hid (∀ u ∈ xs.map bv, u.oneCell' = true) := fun u hu => by obtain ⟨x, _, rfl⟩ := List.mem_map.1 hu; rfl
  clear h hn
  generalize xs.map bv = ys at *
  have hbs := lit_drv
  have heq := eq_drv_no g0 n c0
  go_enter Try.func51, Try.ntmps51
  go_wp2_with (first | (at_builtin; refine wpList_append_rows rfl _ _ rfl Try.underlying66 zeroSec (by rw [Value.cells, rowOf_size, AM.zs_len]) (by decide) rfl rfl HE.out HL.out HC.out HO.out (by have := HN.out; unfold maxLen; omega) (by have := HN.out; omega) (by simp) ?_; intro v9 w9 ho hg; rw [Nat.zero_add, List.nil_append] at ho; have HO9 : Hid (w9.ownsRow w.heap.size 77 64 v9 n ys) := ho; have HG9 : Hid (w.grownBy w9 none) := grown_new HG.out hg (fun i e => by have e2 : w.heap.size = i := Option.some.inj e; omega); clear ho hg) | fail)
  go_ret
  obtain ⟨p9, c9, rfl⟩ := rows_slice HO9.out
  exact ⟨p9, c9, rfl, HO9.out, HG9.out⟩
set_option maxRecDepth 100000 in
theorem clone_wr_yes {w : World} {g0 n c0 : Nat} {ys : List Value} (h : w.ownsRow 0 79 130 (.slice (some ⟨g0, 0, none⟩) n c0) n ys) (hn : n ≤ 1000000) (ho : ∀ u ∈ ys, u.oneCell' = true) : Calls Try.prog 52 #[.slice (some ⟨g0, 0, none⟩) n c0] w fun e w' => ∃ p c, e = .returned (.slice p n c) ∧ w'.ownsRow w.heap.size 79 130 (.slice p n c) n ys ∧ w.grownBy w' none := by
  have HG : Hid (w.grownBy (w.alloc (.cells #[] 79)) none) := World.grownBy_alloc _ _ none
  have HE : Hid ((w.alloc (.cells #[] 79)).ownsRow w.heap.size 79 130 (.slice (some ⟨w.heap.size, 0, none⟩) 0 0) 0 []) := rows_lit w _ _ (Nat.le_refl _)
  have HL : Hid (ys.length = n * 130) := h.1
  have HC : Hid (∀ j u, ys[j]? = some u → (w.alloc (.cells #[] 79)).cell? ((⟨g0, 0, none⟩ : Addr).add j) = some u) := fun j u hj => by
    have h1 := h.cells (g := g0) rfl j u hj
    exact HG.out.cell h1 (by simp)
  have HN : Hid (n ≤ 1000000) := hn
  have HO : Hid (∀ u ∈ ys, u.oneCell' = true) := ho
  clear h hn ho
  have hbs := lit_wrs
  have heq := eq_wrs_no g0 n c0
  go_enter Try.func52, Try.ntmps52
  go_wp2_with (first | (at_builtin; refine wpList_append_rows rfl _ _ rfl Try.underlying62 zeroW (by simp [Value.cells, wcells, AM.zs_len]) (by decide) rfl rfl HE.out HL.out HC.out HO.out (by have := HN.out; unfold maxLen; omega) (by have := HN.out; omega) (by simp) ?_; intro v9 w9 ho hg; rw [Nat.zero_add, List.nil_append] at ho; have HO9 : Hid (w9.ownsRow w.heap.size 79 130 v9 n ys) := ho; have HG9 : Hid (w.grownBy w9 none) := grown_new HG.out hg (fun i e => by have e2 : w.heap.size = i := Option.some.inj e; omega); clear ho hg) | fail)
  go_ret
  obtain ⟨p9, c9, rfl⟩ := rows_slice HO9.out
  exact ⟨p9, c9, rfl, HO9.out, HG9.out⟩
end Go.Proofs.Ytfmlohedebdomaa
