/- Rows of runes of a call's own; append of one rune. -/
import Derived.Test.YtfflpmcflpbopaaDoorWhl
import Derived.Maps.AppendAt
import Derived.Lib.Hide
set_option linter.unusedVariables false
namespace Go.Proofs.YtfflpmcflpbopaaDoor
open Go.RowKit

theorem gb_new {a b c : World} {row : Option Nat} (h : a.grownBy b none) (k : b.grownBy c row) (hr : ∀ i, row = some i → a.heap.size ≤ i) : a.grownBy c none :=
  ⟨k.os.trans h.os, k.tape.trans h.tape, k.output.trans h.output, Nat.le_trans h.size k.size, fun i hi _ => (k.block i (Nat.lt_of_lt_of_le hi h.size) (fun e => by have := hr i e.symm; omega)).trans (h.block i hi (by simp))⟩
theorem cell_new1 {W : World} {g : Nat} (x : Value) (t : TypeId) (h : g = W.heap.size) : (W.alloc (.cells #[x] t)).cell? ⟨g, 0, none⟩ = some x := by
  subst h
  have h := heap_alloc_new W (.cells #[x] t)
  unfold World.cell?
  rw [h]; rfl

/-- The runes as the program's values. -/
def rv (n : Nat) : Value := .int .i32 (n : Int)
/-- The slice v has the runes ls, in a row of its own, in a block from B on. -/
structure ROwn (B : Nat) (w : World) (v : Value) (ls : List Nat) : Prop where
  len : ls.length * 4 ≤ 140737488355328
  row : w.ownsRow B 21 1 v ls.length (ls.map rv)
theorem ROwn.nil (B : Nat) (w : World) : ROwn B w (.slice none 0 0) [] := ⟨by simp, World.ownsRow_nil w B 21 1⟩
theorem row_kept {B : Nat} {w w' : World} {v : Value} {t : TypeId} {n : Nat} {xs : List Value} {row : Option Nat} (h : w.ownsRow B t 1 v n xs) (g : w.grownBy w' row) (ne : v.ownBlock = none ∨ v.ownBlock ≠ row) : w'.ownsRow B t 1 v n xs := by
  refine ⟨h.1, h.2.imp id ?_⟩
  rintro ⟨k, cap, cur, rfl, hb, hg, hr⟩
  refine ⟨k, cap, cur, rfl, hb, ?_, hr⟩
  have hlt : k < w.heap.size := (Array.getElem?_eq_some_iff.1 hg).1
  rw [g.block k hlt (by rcases ne with ne | ne <;> simp [Value.ownBlock] at ne <;> exact ne)]
  exact hg
theorem ROwn.keep {B : Nat} {w w' : World} {v : Value} {ls : List Nat} (h : ROwn B w v ls) (g : w.grownBy w' none) : ROwn B w' v ls := ⟨h.len, row_kept h.row g (Classical.em _)⟩
theorem ROwn.lo {B : Nat} {w : World} {v : Value} {ls : List Nat} (h : ROwn B w v ls) : ∀ i, v.ownBlock = some i → B ≤ i := by
  intro i hi
  rcases h.row.2 with ⟨rfl, _⟩ | ⟨k, cap, cur, rfl, hb, _⟩
  · simp [Value.ownBlock] at hi
  · simp [Value.ownBlock] at hi; omega
/-- An iterator lies in no row of cells. -/
theorem ROwn.it {B : Nat} {w : World} {v : Value} {ls : List Nat} (h : ROwn B w v ls) {k p : Nat} {s : ByteArray} (hk : w.heap[k]? = some (.stringIter s p)) : v.ownBlock ≠ some k := by
  intro hi
  rcases h.row.2 with ⟨rfl, _⟩ | ⟨g, cap, cur, rfl, hb, hg, _⟩
  · simp [Value.ownBlock] at hi
  · simp [Value.ownBlock] at hi
    rw [hi, hk] at hg
    cases hg
theorem ROwn.iterAt {B : Nat} {w : World} {v : Value} {ls : List Nat} (h : ROwn B w v ls) {k p : Nat} {s : ByteArray} (hk : w.heap[k]? = some (.stringIter s p)) (p' : Nat) : ROwn B (w.iterAt k s p') v ls := by
  have hne := h.it hk
  refine ⟨h.len, h.row.1, h.row.2.imp id ?_⟩
  rintro ⟨g, cap, cur, rfl, hb, hg, hr⟩
  refine ⟨g, cap, cur, rfl, hb, ?_, hr⟩
  rw [Lib.iterAt_other w k g s p' (fun e => hne (by simp [Value.ownBlock, e]))]
  exact hg
theorem ROwn.opened {B : Nat} {w : World} {v : Value} {ls : List Nat} (h : ROwn B w v ls) : ∃ p c, v = .slice p ls.length c := by
  rcases h.row.2 with ⟨rfl, h0⟩ | ⟨g, cap, cur, rfl, hb, hg, _⟩
  · exact ⟨none, 0, by rw [h0]⟩
  · exact ⟨_, _, rfl⟩
theorem info_i32 : (Tryd.prog.info? 21).map (fun i => (i.zero, i.size, i.bytes)) = some (some (.int .i32 0), 1, 4) := by kernel_rfl
theorem und_runes : Tryd.prog.underlying 24 = some (.slice 21) := by kernel_rfl
theorem run_append_rune {B : Nat} {w : World} {dv : Value} {ls : List Nat} (hd : ROwn B w dv ls) (ad : Addr) {x : Nat} (hu : w.cell? ad = some (rv x)) (hB : B ≤ w.heap.size) (hl : (ls.length + 1) * 4 ≤ 140737488355328) (ty : TypeId) :
    ∃ v' w', (Builtin.append_ #[24, 24] ty #[dv, .slice (some ad) 1 1]).run Tryd.prog w = .ok v' w' ∧ ROwn B w' v' (ls ++ [x]) ∧ w.grownBy w' dv.ownBlock ∧ (v'.ownBlock = dv.ownBlock ∨ v'.ownBlock = some w.heap.size) := by
  obtain ⟨i0, hi, hz0, hz1, hz2⟩ := info_parts info_i32
  obtain ⟨v', w', r1, r2, r3, _, r5⟩ := run_append_own_at (P := Tryd.prog) w B 24 ty 21 i0 (.int .i32 0) 1 4 und_runes hi hz0 hz1 hz2 rfl (by decide) dv ls.length _ hd.row ad 1 1 [rv x] (by simp)
    (fun j v hj => by
      match j, hj with
      | 0, hj => simp at hj; subst hj; simpa [Addr.add] using hu)
    (fun v hv => by simp at hv; subst hv; rfl) (by unfold maxLen; omega) (by omega) hB
  exact ⟨v', w', r1, ⟨by simpa using hl, by simpa using r2⟩, r3, r5⟩
theorem wpList_append_rune {w : World} {ops : Array Oper} {rest : List Oper} {o : Oper} {a : Act} {Q : Exit → Act → World → Prop} (hgd : o.guard = none) (d s : Operand)
    (ho : o.op = .call { callee := .builtin .append, args := #[d, s], argTypes := #[24, 24] }) (dv : Value) (ad : Addr) (hed : a.eval d = dv) (hes : a.eval s = .slice (some ad) 1 1)
    {B : Nat} {ls : List Nat} {x : Nat} (hd : ROwn B w dv ls) (hu : w.cell? ad = some (rv x)) (hB : B ≤ w.heap.size) (hl : (ls.length + 1) * 4 ≤ 140737488355328)
    (h : ∀ v' w', ROwn B w' v' (ls ++ [x]) → w.grownBy w' dv.ownBlock → (v'.ownBlock = dv.ownBlock ∨ v'.ownBlock = some w.heap.size) → wpList Tryd.prog ops Q rest (a.put o.dst v') w') : wpList Tryd.prog ops Q (o :: rest) a w := by
  refine wpList_plain hgd fun K hK => ?_
  obtain ⟨v', w', hrun, r1, r2, r3⟩ := run_append_rune hd ad hu hB hl o.type
  unfold Oper.wp
  simp [execOp, ho, resolve, invoke, builtin, hed, hes, hrun, Result.andThen]
  exact hK _ _ (h _ _ r1 r2 r3)

theorem It.app {w W w2 : World} {s : ByteArray} {p : Nat} {row : Option Nat} (ha : W.heap[w.heap.size]? = some (.stringIter s p)) (hn : row ≠ some w.heap.size) (g : W.grownBy w2 row) (g2 : w.grownBy w2 none) (hp : p ≤ s.size) : It w w2 s p :=
  ⟨hp, by rw [g.block _ (Array.getElem?_eq_some_iff.1 ha).1 hn.symm]; exact ha, g2⟩
set_option maxRecDepth 100000 in
theorem runes_any (s : ByteArray) (w : World) (hlim : s.size * 4 ≤ 140737488355328) :
    Calls Tryd.prog 13 #[.string s] w fun e w' => ∃ p c, e = .returned (.slice p (R.runes (bs s)).length c) ∧ ROwn w.heap.size w' (.slice p (R.runes (bs s)).length c) (R.runes (bs s)) ∧ w.grownBy w' none := by
  have hlen : (R.runes (bs s)).length ≤ s.size := by have := R.runes_len (bs s); rw [bs_len] at this; exact this
  obtain ⟨L, hL⟩ : ∃ L, R.runes (bs s) = L := ⟨_, rfl⟩
  rw [hL] at hlen ⊢
  go_enter Tryd.func13, Tryd.ntmps13
  go_wp2
  go_loopw [3] (fun u3 wr => ∃ (p : Nat) (ls : List Nat), It w wr s p ∧ L = ls ++ R.runes ((bs s).drop p) ∧ Hid (ROwn w.heap.size wr u3 ls)) (fun u3 wr => s.size - wr.iterPos w.heap.size)
  case atStart => exact ⟨0, [], It.start w s, by rw [← hL]; rfl, ROwn.nil _ _⟩
  case round =>
    obtain ⟨p, ls, hI, hc, OK⟩ := hrel
    have hpos := hI.pos
    obtain ⟨ap, ac, e3⟩ := OK.out.opened
    subst e3
    by_cases hlt : p < s.size
    · have hnx : ∀ ty, (Instr.next (.pointer (some ⟨w.heap.size, 0, none⟩)) true ty).run Tryd.prog wr = _ := fun ty => next_bs wr w.heap.size s p ty hI.at_ hlt
      have hI2 := hI.next hlt
      have hpos2 := hI2.pos
      have hwd := width_bs hlt
      rw [R.runes_cons _ (ne_bs hlt), List.drop_drop] at hc
      have HL : Hid ((ls.length + 1) * 4 ≤ 140737488355328) := by
        show _ ≤ _
        rw [hc] at hlen
        simp only [List.length_append, List.length_cons] at hlen
        omega
      obtain ⟨W, hW⟩ : ∃ W, W = wr.iterAt w.heap.size s (p + R.wd ((bs s).drop p)) := ⟨_, rfl⟩
      have O2 : Hid (ROwn w.heap.size W (.slice ap ls.length ac) ls) := by rw [hW]; exact OK.out.iterAt hI.at_ _
      rw [← hW] at hI2 hpos2 hnx
      clear hW
      obtain ⟨X, hX⟩ : ∃ X, R.rn ((bs s).drop p) = X := ⟨_, rfl⟩
      rw [hX] at hnx hc
      have HI : Hid (It w W s (p + R.wd ((bs s).drop p))) := hI2
      have OA : Hid (ROwn w.heap.size (W.alloc (.cells #[.int .i32 (X : Int)] 21)) (.slice ap ls.length ac) ls) := O2.out.keep (World.grownBy_alloc W _ none)
      have HA : Hid ((W.alloc (.cells #[.int .i32 (X : Int)] 21)).heap[w.heap.size]? = some (.stringIter s (p + R.wd ((bs s).drop p)))) := gb_heap (World.grownBy_alloc W _ none) hI2.at_
      have HN : Hid ((Value.slice ap ls.length ac).ownBlock ≠ some w.heap.size) := OA.out.it HA.out
      go_wp2_with (at_builtin; refine wpList_append_rune rfl _ _ rfl _ ⟨W.heap.size, 0, none⟩ rfl rfl OA.out (cell_new1 _ _ rfl) (gb_alloc HI.out.gr _).size HL.out ?_; intro v2 w2 o2 g2 a2; have O3 : Hid (ROwn w.heap.size w2 v2 (ls ++ [X])) := o2; have G2 : Hid (w.grownBy w2 none) := gb_new (gb_alloc HI.out.gr _) g2 (fun i e => OA.out.lo i e); have I3 : Hid (It w w2 s (p + R.wd ((bs s).drop p))) := It.app HA.out HN.out g2 G2.out HI.out.le; clear o2 g2 a2)
      go_roundw
      case rel => exact ⟨_, ls ++ [X], I3.out, by rw [hc, List.append_assoc]; rfl, O3⟩
      case measure => rw [hpos, I3.out.pos]; omega
    · have hnx : ∀ ty, (Instr.next (.pointer (some ⟨w.heap.size, 0, none⟩)) true ty).run Tryd.prog wr = _ := fun ty => next_bs_end wr w.heap.size s p ty hI.at_ hlt
      have hnil : (bs s).drop p = [] := List.drop_of_length_le (by rw [bs_len]; omega)
      rw [hnil, R.runes_nil, List.append_nil] at hc
      subst hc
      go_wp2
      go_ret
      exact ⟨_, _, rfl, OK.out, hI.gr⟩
end Go.Proofs.YtfflpmcflpbopaaDoor
