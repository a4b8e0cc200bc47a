/- The contracts of within and sector. -/
import Derived.Test.YtfmlohedebdomaaBase6
import Derived.Test.YtfmlohedebdomaaActs6
set_option linter.unusedSimpArgs false
set_option linter.unusedVariables false
namespace Go.Proofs.Ytfmlohedebdomaa
open Go.RowKit

theorem within_any (w : World) {k : Int} (hk : I64 k) {n : Nat} (h0 : 0 < n) (h1 : n ≤ 1000) : Calls Try.prog 34 #[.int .i64 k, .int .i64 (n : Int)] w fun e w' => ∃ r : Nat, r < n ∧ e = .returned (.int .i64 (r : Int)) ∧ w' = w := by
  obtain ⟨u, hu⟩ : ∃ u : Nat, IntKind.u64.wrap k = (u : Int) := by
    rw [IntKind.wrap_u64]
    exact ⟨(k % 18446744073709551616).toNat, by omega⟩
  have e1 : IntKind.u64.wrap (n : Int) = (n : Int) := by rw [IntKind.wrap_u64]; omega
  obtain ⟨r, hr⟩ : ∃ r : Nat, r = u % n := ⟨_, rfl⟩
  have hlt : r < n := by rw [hr]; exact Nat.mod_lt _ h0
  have e2 : ((u : Int)).tmod (n : Int) = (r : Int) := by rw [hr]; rfl
  have e3 : IntKind.u64.wrap (r : Int) = (r : Int) := by rw [IntKind.wrap_u64]; omega
  have e4 : IntKind.i64.wrap (r : Int) = (r : Int) := IntWalk.i64_in _ (by omega)
  have e5 : ¬ (n : Int) = 0 := by omega
  have HL : Hid (r < n) := hlt
  clear hr hlt hk
  go_enter Try.func34, Try.ntmps34
  go_wp2
  go_ret
  exact ⟨r, HL.out, rfl, rfl⟩

/-- A call as a variable of its own. -/
theorem zeroAct : (Try.prog.info? 34).map (fun i => (i.zero, i.size, i.bytes)) = some (some (.agg #[.int .i64 0, .int .i64 0, .int .i64 0, .int .u8 0, .slice none 0 0, .bool false]), 6, 64) := by kernel_rfl
theorem run_zeroAct (w : World) : (zeroValue 34).run Try.prog w = .ok (.agg #[.int .i64 0, .int .i64 0, .int .i64 0, .int .u8 0, .slice none 0 0, .bool false]) w := by
  obtain ⟨i, hi, h0, h1, h2⟩ := info_parts zeroAct
  simp [zeroValue, typeInfo, hi, h0]
theorem Try.sizeAct : (Try.prog.info? 34).map (·.size) = some 6 := by kernel_rfl
theorem ActOk.one {w : World} {c : ActR} (h : ActOk w c) : ∀ u ∈ acells c, u.oneCell' = true := by
  intro u hu
  obtain ⟨p, n, cap, e, _⟩ := h.vec.opened
  simp only [acells, e, List.mem_cons, List.not_mem_nil, or_false] at hu
  rcases hu with rfl | rfl | rfl | rfl | rfl | rfl <;> rfl
/-- What a range over calls reads, and where it lays it. -/
structure Laid (w : World) (b o bk : Nat) (AR : Array Value) (c : ActR) : Prop where
  ar : AR = (acells c).toArray
  range : w.rangeAt b o (acells c)
  size : (Try.prog.info? 34).map (·.size) = some AR.size
  six : AR.size = 6
  one : AR.all (·.oneCell') = true
  ok : ActOk w c
theorem laid {w : World} {b o : Nat} {c : ActR} (h : w.rangeAt b o (acells c)) (hc : ActOk w c) : ∃ AR, Laid w b o w.heap.size AR c :=
  ⟨_, rfl, h, Try.sizeAct, rfl, all_oneCell_toArray hc.one, hc⟩
theorem Laid.size2 {w : World} {b o bk : Nat} {AR : Array Value} {c : ActR} (h : Laid w b o bk AR c) : (Try.prog.info? 34).map (·.size) = some (acells c).length := Try.sizeAct
theorem wpList_load_act {w : World} {ops : Array Oper} {rest : List Oper} {op : Oper} {a : Act} {Q : Exit → Act → World → Prop} (hgd : op.guard = none) (x : Operand) (ho : op.op = .load 34 x) {b o bk : Nat} {AR : Array Value} {c : ActR} (hx : a.eval x = .pointer (some ⟨b, o, none⟩)) (hl : Laid w b o bk AR c)
    (h : wpList Try.prog ops Q rest (a.put op.dst (.agg AR)) w) : wpList Try.prog ops Q (op :: rest) a w := by
  refine wpList_load_mid hgd 34 x ho b o hx (acells c) _ hl.range Try.underlying34 rfl hl.size2 ?_
  rw [← hl.ar]
  exact h
theorem wpList_store_act {w : World} {ops : Array Oper} {rest : List Oper} {op : Oper} {a : Act} {Q : Exit → Act → World → Prop} (hgd : op.guard = none) (x y : Operand) (ho : op.op = .store 34 x y) {b o bk : Nat} {AR : Array Value} {c : ActR} {w0 : World} (hl : Laid w0 b o bk AR c) {ZR : Array Value} (hz : ZR.size = 6)
    (hx : a.eval x = .pointer (some ⟨w0.heap.size, 0, none⟩)) (hy : a.eval y = .agg AR) (hw : w = w0.alloc (.cells ZR 34))
    (h : ∀ w', w'.heap[w0.heap.size]? = some (.cells AR 34 (0, 0)) → w0.grownBy w' none → wpList Try.prog ops Q rest (a.put op.dst undef) w') : wpList Try.prog ops Q (op :: rest) a w := by
  subst hw
  refine wpList_store_row hgd 34 x y ho w0.heap.size AR hx hy 34 ZR (heap_alloc_new w0 _) hl.size (by rw [hz, hl.six]) hl.one ?_
  rw [World.setRow_alloc_new]
  exact h _ (heap_alloc_new w0 _) (World.grownBy_alloc _ _ none)
/-- The six places of a call that is a variable. -/
structure Var (w : World) (bk : Nat) (c : ActR) : Prop where
  heap : w.heap[bk]? = some (.cells (acells c).toArray 34 (0, 0))
theorem Var.cell {w : World} {bk : Nat} {c : ActR} (h : Var w bk c) : w.cell? ⟨bk, 0, none⟩ = some (.int .i64 c.what) ∧ w.cell? ⟨bk, 1, none⟩ = some (.int .i64 c.disk) ∧ w.cell? ⟨bk, 2, none⟩ = some (.int .i64 c.at_) ∧ w.cell? ⟨bk, 3, none⟩ = some (.int .u8 (c.x : Int)) ∧ w.cell? ⟨bk, 4, none⟩ = some c.bval ∧ w.cell? ⟨bk, 5, none⟩ = some (.bool c.short) :=
  ⟨topCell h.heap rfl, topCell h.heap rfl, topCell h.heap rfl, topCell h.heap rfl, topCell h.heap rfl, topCell h.heap rfl⟩
theorem Var.step {F F' : Nat → Prop} {w w' : World} {bk : Nat} {c : ActR} (h : Var w bk c) (s : Step F w F' w') (hF : ¬ F bk) : Var w' bk c ∧ ¬ F' bk := by
  have hlt : bk < w.heap.size := (Array.getElem?_eq_some_iff.1 h.heap).1
  refine ⟨⟨by rw [s.upd.block bk hlt hF]; exact h.heap⟩, fun hf => ?_⟩
  rcases s.sub bk hf with h1 | h1
  · exact hF h1
  · omega
theorem Var.keep {w w' : World} {bk : Nat} {c : ActR} (h : Var w bk c) (g : w.grownBy w' none) : Var w' bk c :=
  ⟨by rw [g.block bk (Array.getElem?_eq_some_iff.1 h.heap).1 (by simp)]; exact h.heap⟩
end Go.Proofs.Ytfmlohedebdomaa
