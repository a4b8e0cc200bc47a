/- Contracts of the closure within chunk.Take, and of chunk.walk over it. -/
import Derived.Test.YthmdidiojjmebaaRTake7
import Derived.RangeFuncBox
namespace Go.Proofs.Ythmdidiojjmebaa
open Go.RowKit

/-- The two captured variables of Take: the stamp told so far, the data so far. -/
structure Tak (w0 : World) (A D : Nat) (w : World) (a : Nat) (dv : Value) (cur : List Nat) : Prop where
  ca : Boxed w A 22 (.int .u64 (a : Int))
  cd : Boxed w D 23 dv
  own : Own w0.heap.size w dv cur
  lA : w0.heap.size ≤ A
  lD : w0.heap.size ≤ D
  gr : w0.grownBy w none

theorem Own.notBox {B D : Nat} {w : World} {v u : Value} {xs : List Nat} {T : TypeId} (hT : T ≠ 5) (h : Own B w v xs) (hb : Boxed w D T u) : v.ownBlock = none ∨ v.ownBlock ≠ some D := by
  rcases h.row.2 with ⟨rfl, _⟩ | ⟨g, cap, cur, rfl, _, hg, _⟩
  · exact .inl rfl
  · refine .inr fun e => ?_
    obtain rfl : g = D := by simpa [Value.ownBlock] using e
    rw [show w.heap[g]? = _ from hb] at hg
    simp at hg
    exact hT hg.2

theorem Tak.keep {w0 w w' : World} {A D a : Nat} {dv : Value} {cur : List Nat} (h : Tak w0 A D w a dv cur) (g : w.grownBy w' none) : Tak w0 A D w' a dv cur :=
  ⟨h.ca.kept g (by simp), h.cd.kept g (by simp), h.own.keep g, h.lA, h.lD, grown_trans h.gr g⟩
theorem Tak.ne {w0 w : World} {A D a : Nat} {dv : Value} {cur : List Nat} (h : Tak w0 A D w a dv cur) : A ≠ D := fun e => by
  have h1 := h.ca
  have h2 := h.cd
  subst e
  have h3 := (show w.heap[A]? = _ from h1).symm.trans (show w.heap[A]? = _ from h2)
  simp at h3
/-- The stamp is set. -/
theorem Tak.setA {w0 w : World} {A D a : Nat} {dv : Value} {cur : List Nat} (h : Tak w0 A D w a dv cur) (n : Nat) : Tak w0 A D (w.setCell ⟨A, 0, none⟩ (.int .u64 (n : Int))) n dv cur :=
  ⟨h.ca.set _, h.cd.kept (grownBy_setCell' w A _) (fun e => h.ne (Option.some.inj e).symm), h.own.kept (grownBy_setCell' w A _) (h.own.notBox (by decide) h.ca), h.lA, h.lD, grown_new h.gr (grownBy_setCell' w A _) (fun i e => by have := Option.some.inj e; have := h.lA; omega)⟩
/-- The data grow, the variable still as it was. -/
theorem Tak.grow {w0 w w' : World} {A D a : Nat} {dv : Value} {cur : List Nat} (h : Tak w0 A D w a dv cur) (g : w.grownBy w' dv.ownBlock) :
    Boxed w' A 22 (.int .u64 (a : Int)) ∧ Boxed w' D 23 dv ∧ w0.grownBy w' none :=
  ⟨h.ca.kept g (fun e => by rcases h.own.notBox (by decide) h.ca with h1 | h1 <;> simp_all), h.cd.kept g (fun e => by rcases h.own.notBox (by decide) h.cd with h1 | h1 <;> simp_all), grown_new h.gr g h.own.lo⟩
theorem Tak.setD {w0 w' : World} {A D a : Nat} {dv dv' : Value} {cur' : List Nat} (lA : w0.heap.size ≤ A) (lD : w0.heap.size ≤ D) (ne : A ≠ D) (o : Own w0.heap.size w' dv' cur') (hA : Boxed w' A 22 (.int .u64 (a : Int))) (hD : Boxed w' D 23 dv) (gr : w0.grownBy w' none) :
    Tak w0 A D (w'.setCell ⟨D, 0, none⟩ dv') a dv' cur' :=
  ⟨hA.kept (grownBy_setCell' w' D _) (fun e => ne (Option.some.inj e)), hD.set _, o.kept (grownBy_setCell' w' D _) (o.notBox (by decide) hD), lA, lD, grown_new gr (grownBy_setCell' w' D _) (fun i e => by have := Option.some.inj e; omega)⟩

set_option maxHeartbeats 1600000 in
theorem tk_yes {w0 w : World} {A D a n B : Nat} {dv v : Value} {cur ld : List Nat} (T : Tak w0 A D w a dv cur) (hv : Own B w v ld) (hl : cur.length + ld.length ≤ 140737488351232) (hn : n ≠ 0) (ha : a = 0 ∨ a = n) :
    Calls Try.prog 18 #[.int .u64 (n : Int), v, .pointer (some ⟨A, 0, none⟩), .pointer (some ⟨D, 0, none⟩)] w fun e w' => e = .returned (.bool true) ∧ ∃ dv', Tak w0 A D w' n dv' (cur ++ ld) := by
  have hn0 : ((n : Int) != 0) = true := neb_yes (b := 0) hn
  have hnn : ((n : Int) == (n : Int)) = true := eqb_yes rfl
  have cA := T.ca.cell
  have fA := T.ca.frozen
  obtain ⟨dp, dn, dc, rfl, hd0⟩ := T.own.vec.opened
  clear hd0
  have LL : Hid (w0.heap.size ≤ A ∧ w0.heap.size ≤ D ∧ A ≠ D ∧ cur.length + ld.length ≤ 140737488351232) := ⟨T.lA, T.lD, T.ne, hl⟩
  by_cases h0 : a = 0
  · have i0 : ((a : Int) == 0) = true := eqb_yes (b := 0) h0
    have T1 : Hid (Tak w0 A D (w.setCell ⟨A, 0, none⟩ (.int .u64 (n : Int))) n (.slice dp dn dc) cur) := T.setA n
    have HV : Hid (Vec (w.setCell ⟨A, 0, none⟩ (.int .u64 (n : Int))) v ld) := (hv.kept (grownBy_setCell' w A _) (hv.notBox (by decide) T.ca)).vec
    have cD := T1.out.cd.cell
    have fD := T1.out.cd.frozen
    clear T hv hl hn ha h0
    go_enter Try.func18, Try.ntmps18
    go_wp2_with (at_builtin; refine wpList_append_vec rfl _ _ rfl _ _ rfl rfl T1.out.own HV.out T1.out.gr.size LL.out.2.2.2 ?_; intro v2 w2 o2 g2; obtain ⟨k1, k2, k3⟩ := T1.out.grow g2; have T2 : Hid (Tak w0 A D (w2.setCell ⟨D, 0, none⟩ v2) n v2 (cur ++ ld)) := Tak.setD LL.out.1 LL.out.2.1 LL.out.2.2.1 o2 k1 k2 k3; obtain ⟨q2, n2, c2, rfl, hz2⟩ := o2.vec.opened; clear hz2; have kc := k2.cell; have kf := k2.frozen; have ka := T2.out.ca.cell; clear k1 k2 k3 o2 g2)
    go_ret
    exact ⟨rfl, _, T2.out⟩
  · have i0 : ((a : Int) == 0) = false := eqb_no (b := 0) h0
    obtain rfl : a = n := by omega
    have T1 : Hid (Tak w0 A D w a (.slice dp dn dc) cur) := T
    have HV : Hid (Vec w v ld) := hv.vec
    have cD := T1.out.cd.cell
    have fD := T1.out.cd.frozen
    clear T hv hl hn ha h0
    go_enter Try.func18, Try.ntmps18
    go_wp2_with (at_builtin; refine wpList_append_vec rfl _ _ rfl _ _ rfl rfl T1.out.own HV.out T1.out.gr.size LL.out.2.2.2 ?_; intro v2 w2 o2 g2; obtain ⟨k1, k2, k3⟩ := T1.out.grow g2; have T2 : Hid (Tak w0 A D (w2.setCell ⟨D, 0, none⟩ v2) a v2 (cur ++ ld)) := Tak.setD LL.out.1 LL.out.2.1 LL.out.2.2.1 o2 k1 k2 k3; obtain ⟨q2, n2, c2, rfl, hz2⟩ := o2.vec.opened; clear hz2; have kc := k2.cell; have kf := k2.frozen; have ka := T2.out.ca.cell; clear k1 k2 k3 o2 g2)
    go_ret
    exact ⟨rfl, _, T2.out⟩

set_option maxHeartbeats 1600000 in
theorem tk_no {w0 w : World} {A D a n B : Nat} {dv v : Value} {cur ld : List Nat} (T : Tak w0 A D w a dv cur) (hv : Own B w v ld) (hl : cur.length + ld.length ≤ 140737488351232) (hn : n = 0 ∨ (a ≠ 0 ∧ a ≠ n)) :
    Calls Try.prog 18 #[.int .u64 (n : Int), v, .pointer (some ⟨A, 0, none⟩), .pointer (some ⟨D, 0, none⟩)] w fun e w' => e = .returned (.bool false) ∧ w0.grownBy w' none := by
  have cA := T.ca.cell
  have fA := T.ca.frozen
  obtain ⟨dp, dn, dc, rfl, hd0⟩ := T.own.vec.opened
  clear hd0
  have LL : Hid (w0.heap.size ≤ A ∧ w0.heap.size ≤ D ∧ A ≠ D ∧ cur.length + ld.length ≤ 140737488351232) := ⟨T.lA, T.lD, T.ne, hl⟩
  by_cases h0 : a = 0
  · have hz : n = 0 := by omega
    have i0 : ((a : Int) == 0) = true := eqb_yes (b := 0) h0
    have i1 : ((n : Int) != 0) = false := neb_no (b := 0) hz
    have T1 : Hid (Tak w0 A D (w.setCell ⟨A, 0, none⟩ (.int .u64 (n : Int))) n (.slice dp dn dc) cur) := T.setA n
    have HV : Hid (Vec (w.setCell ⟨A, 0, none⟩ (.int .u64 (n : Int))) v ld) := (hv.kept (grownBy_setCell' w A _) (hv.notBox (by decide) T.ca)).vec
    have cD := T1.out.cd.cell
    have fD := T1.out.cd.frozen
    clear T hv hl hn h0 hz
    go_enter Try.func18, Try.ntmps18
    go_wp2_with (at_builtin; refine wpList_append_vec rfl _ _ rfl _ _ rfl rfl T1.out.own HV.out T1.out.gr.size LL.out.2.2.2 ?_; intro v2 w2 o2 g2; obtain ⟨k1, k2, k3⟩ := T1.out.grow g2; have T2 : Hid (Tak w0 A D (w2.setCell ⟨D, 0, none⟩ v2) n v2 (cur ++ ld)) := Tak.setD LL.out.1 LL.out.2.1 LL.out.2.2.1 o2 k1 k2 k3; obtain ⟨q2, n2, c2, rfl, hz2⟩ := o2.vec.opened; clear hz2; have kc := k2.cell; have kf := k2.frozen; have ka := T2.out.ca.cell; clear k1 k2 k3 o2 g2)
    go_ret
    exact ⟨rfl, T2.out.gr⟩
  · have i0 : ((a : Int) == 0) = false := eqb_no (b := 0) h0
    have T1 : Hid (Tak w0 A D w a (.slice dp dn dc) cur) := T
    have HV : Hid (Vec w v ld) := hv.vec
    have cD := T1.out.cd.cell
    have fD := T1.out.cd.frozen
    by_cases hz : n = 0
    · have i1 : ((n : Int) != 0) = false := neb_no (b := 0) hz
      clear T hv hl hn h0 hz
      go_enter Try.func18, Try.ntmps18
      go_wp2_with (at_builtin; refine wpList_append_vec rfl _ _ rfl _ _ rfl rfl T1.out.own HV.out T1.out.gr.size LL.out.2.2.2 ?_; intro v2 w2 o2 g2; obtain ⟨k1, k2, k3⟩ := T1.out.grow g2; have T2 : Hid (Tak w0 A D (w2.setCell ⟨D, 0, none⟩ v2) a v2 (cur ++ ld)) := Tak.setD LL.out.1 LL.out.2.1 LL.out.2.2.1 o2 k1 k2 k3; obtain ⟨q2, n2, c2, rfl, hz2⟩ := o2.vec.opened; clear hz2; have kc := k2.cell; have kf := k2.frozen; have ka := T2.out.ca.cell; clear k1 k2 k3 o2 g2)
      go_ret
      exact ⟨rfl, T2.out.gr⟩
    · have i1 : ((n : Int) != 0) = true := neb_yes (b := 0) hz
      have i2 : ((n : Int) == (a : Int)) = false := eqb_no (by omega)
      clear T hv hl hn h0 hz
      go_enter Try.func18, Try.ntmps18
      go_wp2_with (at_builtin; refine wpList_append_vec rfl _ _ rfl _ _ rfl rfl T1.out.own HV.out T1.out.gr.size LL.out.2.2.2 ?_; intro v2 w2 o2 g2; obtain ⟨k1, k2, k3⟩ := T1.out.grow g2; have T2 : Hid (Tak w0 A D (w2.setCell ⟨D, 0, none⟩ v2) a v2 (cur ++ ld)) := Tak.setD LL.out.1 LL.out.2.1 LL.out.2.2.1 o2 k1 k2 k3; obtain ⟨q2, n2, c2, rfl, hz2⟩ := o2.vec.opened; clear hz2; have kc := k2.cell; have kf := k2.frozen; have ka := T2.out.ca.cell; clear k1 k2 k3 o2 g2)
      go_ret
      exact ⟨rfl, T2.out.gr⟩
end Go.Proofs.Ythmdidiojjmebaa
