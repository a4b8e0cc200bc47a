/- Strings as plain lists of bytes; steps of a string's iterator; the frame of calls that make new memory alone. -/
import Derived.Test.YtfflpmcflpbopaaDoorRCut
import Derived.Test.YtfflpmcflpbopaaDoorChecked
import Derived.WalkKit
import Derived.Lib.OthersKept
import Derived.Lib.Strings
import Derived.Lib.Bytealg
import Derived.Lib.DecodeNEq
set_option linter.unusedVariables false
namespace Go.Proofs.YtfflpmcflpbopaaDoor
open Go.RowKit

/-- A string's bytes. -/
def bs (s : ByteArray) : List Nat := s.data.toList.map UInt8.toNat
theorem bs_len (s : ByteArray) : (bs s).length = s.size := by unfold bs; rw [List.length_map, Lib.size_eq]
theorem map_inj : ∀ {a b : List UInt8}, a.map UInt8.toNat = b.map UInt8.toNat → a = b
  | [], [], _ => rfl
  | [], _ :: _, h => by simp at h
  | _ :: _, [], h => by simp at h
  | x :: a, y :: b, h => by
    simp only [List.map_cons, List.cons.injEq] at h
    rw [UInt8.toNat_inj.1 h.1, map_inj h.2]
theorem bs_inj {a b : ByteArray} (h : bs a = bs b) : a = b := by
  have := map_inj h
  rw [← Lib.mk_data a, ← Lib.mk_data b, this]
theorem bs_eq (a b : ByteArray) : (a.toList == b.toList) = decide (bs a = bs b) := by
  rw [Lib.toList_data, Lib.toList_data]
  by_cases h : bs a = bs b
  · rw [bs_inj h]; simp
  · have : a.data ≠ b.data := fun e => h (by unfold bs; rw [e])
    simp [h, this]
theorem bs_lt (s : ByteArray) (x : Nat) (h : x ∈ bs s) : x < 256 := by
  obtain ⟨y, _, rfl⟩ := List.mem_map.1 h
  exact y.toNat_lt
theorem bs_get (s : ByteArray) (i : Nat) (h : i < s.size) : (s[i]'h).toNat = (bs s).getD i 0 := by
  have hl : i < s.data.toList.length := by rw [← Lib.size_eq]; exact h
  unfold bs
  rw [List.getD_eq_getElem?_getD, List.getElem?_map, List.getElem?_eq_getElem hl]
  rfl
theorem bs_get! (s : ByteArray) (i : Nat) : (s.get! i).toNat = (bs s).getD i 0 := by
  by_cases h : i < s.size
  · rw [← bs_get s i h]
    congr 1
    cases s with
    | mk d => exact getElem!_pos d i h
  · have hl : (bs s).length ≤ i := by rw [bs_len]; omega
    rw [List.getD_eq_getElem?_getD, List.getElem?_eq_none hl]
    have e : s.get! i = default := by
      cases s with
      | mk d => exact getElem!_neg d i h
    rw [e]; rfl
theorem bs_extract (s : ByteArray) (a b : Nat) : bs (s.extract a b) = ((bs s).drop a).take (b - a) := by
  unfold bs
  rw [Lib.extract_data, List.map_take, List.map_drop]
theorem bs_drop (s : ByteArray) (a b : Nat) (h : s.size ≤ b) : bs (s.extract a b) = (bs s).drop a := by
  rw [bs_extract, List.take_of_length_le]
  rw [List.length_drop, bs_len]; omega
theorem bs_take (s : ByteArray) (b : Nat) : bs (s.extract 0 b) = (bs s).take b := by
  rw [bs_extract, List.drop_zero, Nat.sub_zero]
theorem bs_append (a b : ByteArray) : bs (a ++ b) = bs a ++ bs b := by
  unfold bs
  rw [← List.map_append]
  congr 1
theorem bs_nil_iff (s : ByteArray) : bs s = [] ↔ s.size = 0 := by
  rw [← bs_len]; exact List.length_eq_zero_iff.symm
theorem bs_empty (s : ByteArray) (h : s.size = 0) : bs s = [] := (bs_nil_iff s).2 h

/-- The model's reading of a rune is the plain one. -/
theorem decode_bs (s : ByteArray) (p : Nat) : Utf8.decode s p = R.dec ((bs s).drop p) := by
  rw [Lib.decode_at]
  unfold R.dec
  rw [List.length_drop, bs_len]
  simp only [bs_get!, List.getD_eq_getElem?_getD, List.getElem?_drop, Nat.add_zero]
theorem ne_bs {s : ByteArray} {p : Nat} (h : p < s.size) : (bs s).drop p ≠ [] := R.ne_nil (by rw [bs_len]; exact h)
theorem width_bs {s : ByteArray} {p : Nat} (h : p < s.size) : 1 ≤ R.wd ((bs s).drop p) ∧ R.wd ((bs s).drop p) ≤ 4 ∧ p + R.wd ((bs s).drop p) ≤ s.size := by
  have h1 := R.wd_pos _ (ne_bs h)
  rw [List.length_drop, bs_len] at h1
  omega

section
variable {P : Program}
/-- A step of a string's iterator, in whatever block. -/
theorem next_bs (w : World) (k : Nat) (s : ByteArray) (p : Nat) (ty : TypeId) (hk : w.heap[k]? = some (.stringIter s p)) (h : p < s.size) :
    (Instr.next (.pointer (some ⟨k, 0, none⟩)) true ty).run P w =
      .ok (.tuple #[.bool true, .int .i64 p, .int .i32 (R.rn ((bs s).drop p))]) (w.iterAt k s (p + R.wd ((bs s).drop p))) := by
  rw [Lib.run_next_any_at w k s p ty hk h, decode_bs]; rfl
theorem next_bs_end (w : World) (k : Nat) (s : ByteArray) (p : Nat) (ty : TypeId) (hk : w.heap[k]? = some (.stringIter s p)) (h : ¬ p < s.size) :
    (Instr.next (.pointer (some ⟨k, 0, none⟩)) true ty).run P w = .ok (.tuple #[.bool false]) w := Lib.run_next_end_at w k s p ty hk h
end

/-! ### The frame -/
theorem gb_trans {a w w' : World} {row : Option Nat} (h : a.grownBy w row) (k : w.grownBy w' row) : a.grownBy w' row :=
  ⟨k.os.trans h.os, k.tape.trans h.tape, k.output.trans h.output, Nat.le_trans h.size k.size, fun i hi hr => (k.block i (Nat.lt_of_lt_of_le hi h.size) hr).trans (h.block i hi hr)⟩
theorem gb_alloc {a w : World} (h : a.grownBy w none) (o : Obj) : a.grownBy (w.alloc o) none := gb_trans h (World.grownBy_alloc w o none)
theorem gb_drew {a w : World} {row : Option Nat} (h : a.grownBy w row) : a.grownBy w.drew row := ⟨h.os, h.tape, h.output, h.size, h.block⟩
theorem gb_below {a w w' : World} {row : Option Nat} (h : a.grownBy w row) (hb : Below w.heap.size w w') : a.grownBy w' row :=
  gb_trans h ⟨hb.os, hb.tape, hb.output, hb.size, fun i hi _ => hb.block i hi⟩
/-- A block that was there. -/
theorem gb_heap {a w : World} (h : a.grownBy w none) {k : Nat} {o : Obj} (hk : a.heap[k]? = some o) : w.heap[k]? = some o := by
  have hlt : k < a.heap.size := (Array.getElem?_eq_some_iff.1 hk).1
  rw [h.block k hlt (by simp)]; exact hk
/-- Moving an iterator on that was not there before. -/
theorem gb_iter {a w : World} (h : a.grownBy w none) {k : Nat} (hk : a.heap.size ≤ k) (s : ByteArray) (p : Nat) : a.grownBy (w.iterAt k s p) none :=
  ⟨h.os, h.tape, h.output, by rw [Lib.iterAt_size]; exact h.size, fun i hi hr => by rw [Lib.iterAt_other w k i s p (by omega)]; exact h.block i hi hr⟩
theorem iterPos_at {w : World} {k p : Nat} {s : ByteArray} (h : w.heap[k]? = some (.stringIter s p)) : w.iterPos k = p := by
  unfold World.iterPos; rw [h]

/-! ### The order of bytes -/
theorem compare_bs : ∀ (a b : List UInt8), Lib.compareBytes a b = R.lex (a.map UInt8.toNat) (b.map UInt8.toNat)
  | [], [] => rfl
  | [], _ :: _ => rfl
  | _ :: _, [] => rfl
  | x :: a, y :: b => by
    have ih := compare_bs a b
    simp only [Lib.compareBytes, List.map_cons, R.lex, ih, UInt8.lt_iff_toNat_lt]
theorem less_bs : ∀ (a b : List UInt8), Op.bytesLess a b = decide (R.lex (a.map UInt8.toNat) (b.map UInt8.toNat) = -1)
  | [], [] => rfl
  | [], _ :: _ => rfl
  | _ :: _, [] => by simp [Op.bytesLess, R.lex]
  | x :: a, y :: b => by
    have ih := less_bs a b
    simp only [Op.bytesLess, List.map_cons, R.lex, ih, UInt8.lt_iff_toNat_lt]
    by_cases h1 : x.toNat < y.toNat
    · simp [h1]
    · by_cases h2 : y.toNat < x.toNat
      · have : x ≠ y := fun e => by rw [e] at h2; omega
        simp [h1, h2, this]
      · have : x = y := UInt8.toNat_inj.1 (by omega)
        simp [this]
/-- What begins with the rune fffd. -/
theorem prefix_bs (l : List UInt8) (hl : l ≠ []) (hr : R.rn (l.map UInt8.toNat) = 65533) : Lib.hasPrefix l [239, 191, 189] = !R.bad (l.map UInt8.toNat) := by
  have hne : l.map UInt8.toNat ≠ [] := by simpa using hl
  rcases R.head_cases _ hne with ⟨c, t, hc, e⟩ | ⟨hb, h1, h2⟩
  · rw [e] at hr ⊢
    rw [R.rn_enc hc] at hr
    subst hr
    rw [R.bad_enc hc]
    have e2 : R.enc 65533 = [239, 191, 189] := by decide
    rw [e2] at e
    match l, e with
    | [], e => simp at e
    | [_], e => simp at e
    | [_, _], e => simp at e
    | a :: b :: c :: r, e =>
      simp only [List.map_cons, List.cons_append, List.nil_append, List.cons.injEq] at e
      have a1 : a = 239 := UInt8.toNat_inj.1 e.1
      have a2 : b = 191 := UInt8.toNat_inj.1 e.2.1
      have a3 : c = 189 := UInt8.toNat_inj.1 e.2.2.1
      subst a1; subst a2; subst a3
      simp [Lib.hasPrefix]
  · rw [hb]
    cases h : Lib.hasPrefix l [239, 191, 189] with
    | false => rfl
    | true =>
      exfalso
      unfold Lib.hasPrefix at h
      obtain ⟨t, rfl⟩ := List.isPrefixOf_iff_prefix.1 h
      have e : ([239, 191, 189] ++ t).map UInt8.toNat = R.enc 65533 ++ t.map UInt8.toNat := by
        rw [List.map_append]; congr 1
      rw [e, R.bad_enc (by unfold R.ok; omega)] at hb
      cases hb
end Go.Proofs.YtfflpmcflpbopaaDoor
