/- Packed: Put5, All5, Rows7, Sec8, RTake7, Iter7. -/
import Derived.Deep.RegionHeld3
import Derived.Test.YtfjlpifaaknmpaaGreatSk1
import Derived.Test.YtfjlpifaaknmpaaGreatSk2
import Derived.Test.YtfjlpifaaknmpaaGreatSk3
import Derived.Test.YtfjlpifaaknmpaaGreatSk4
import Derived.Test.YtfjlpifaaknmpaaGreatSk5
import Derived.Test.YtfjlpifaaknmpaaGreatSk11
import Derived.Maps.AppendAt
import Derived.Laws.MakeOwn
import Derived.Test.YtfjlpifaaknmpaaGreatSk6
import Derived.Test.YtfjlpifaaknmpaaGreatSk7
import Derived.Test.YtfjlpifaaknmpaaGreatSk8
import Derived.Test.YtfjlpifaaknmpaaGreatSk9
import Derived.Test.YtfjlpifaaknmpaaGreatSk10
import Derived.RangeFuncNested
import Derived.RangeFuncBound
import Derived.RangeFuncCalls
import Derived.RangeFuncLeaves
import Derived.RangeFuncBox
import Derived.Shelf.Abstract
import Derived.WalkKit
import Derived.OwnWalkIn
import Derived.TacticsInMore
import Derived.LoopNIn
import Derived.LoopIn
/- Contracts of stamp.Put, stamp.Take and stamp.Is. -/
set_option maxRecDepth 100000
namespace Go.Proofs.YtfjlpifaaknmpaaGreat
open Go.RowKit

theorem zeroS (w : World) : (zeroValue 123).run Tryz.prog w = .ok (.agg (rowOf (SM.z 64))) w := by
  have h : (Tryz.prog.info? 123).map (fun i => (i.zero, i.size)) = some (some (.agg (rowOf (SM.z 64))), 64) := by kernel_rfl
  cases hq : Tryz.prog.info? 123 with
  | none => simp [hq] at h
  | some i => simp [hq] at h; simp [zeroValue, typeInfo, hq, h.1]

/-- A slice that is a sector in a row of its own. -/
abbrev Sect (B : Nat) (w : World) (v : Value) (xs : List Nat) : Prop := Arr 123 B w v xs

theorem sec_cur (n : Nat) (ld : List Nat) (h : ld.length ≤ 56) : (SM.mk n ++ SM.z 56).take 8 ++ ld ++ (SM.mk n ++ SM.z 56).drop (8 + ld.length) = SM.sec n ld := by
  have e1 : (SM.mk n ++ SM.z 56).take 8 = SM.mk n := by rw [List.take_append_of_le_length (by rw [SM.mk_len]; exact Nat.le_refl _), List.take_of_length_le (by rw [SM.mk_len]; exact Nat.le_refl _)]
  have e2 : (SM.mk n ++ SM.z 56).drop (8 + ld.length) = SM.z (56 - ld.length) := by
    rw [List.drop_append, SM.mk_len, List.drop_eq_nil_of_le (by rw [SM.mk_len]; omega), List.nil_append, SM.z_drop, Nat.add_sub_cancel_left]
  rw [e1, e2, SM.sec, List.append_assoc]

set_option maxHeartbeats 1600000 in
theorem put_yes {w : World} {n : Nat} {v : Value} {ld : List Nat} (hv : Vec w v ld) (hl : ld.length ≤ 56) :
    Calls Tryz.prog 141 #[.int .u64 (n : Int), v] w fun e w' => ∃ p, e = .returned (.tuple #[.slice p 64 64, .int .i64 0]) ∧ Sect w.heap.size w' (.slice p 64 64) (SM.sec n ld) ∧ w.grownBy w' none := by
  obtain ⟨q, N, cap, rfl, hN⟩ := hv.opened
  have i1 : ¬ (56 : Int) < (N : Int) := by omega
  have HN : Hid (N = ld.length) := hN
  have HV : Hid (∀ w', w.grownBy w' none → Vec w' (.slice q N cap) ld) := fun w' g => hv.keep g
  clear hv hN
  have zS := zeroS
  have zM := zeroM
  go_enter Tryz.func141, Tryz.ntmps141
  go_wp2_with (first
    | (go_at_call 159; refine (marked_any n _).mono ?_; rintro e w2 ⟨rfl, g2⟩)
    | (refine wpList_store_row rfl 214 (.tmp 7) (.tmp 12) rfl w2.heap.size (rowOf (SM.mk n)) rfl rfl 214 (rowOf (SM.z 8)) (heap_alloc_new w2 _) (infoM (SM.mk_len n)) (by rw [rowOf_size, rowOf_size, SM.mk_len, SM.z_len]) (rowOf_one _) ?_))
  clear zS zM
  have HA : Hid (((w2.alloc (.cells (rowOf (SM.z 8)) 214)).setRow w2.heap.size (rowOf (SM.mk n))).heap[w.heap.size]? = some (.cells (rowOf (SM.z 64)) 123 (0, 0))) := by
    have hlt : w.heap.size < w2.heap.size := by have := g2.size; simp at this; omega
    show _ = _
    rw [setRow_other _ _ _ _ (by omega)]
    refine heap_old _ _ ?_
    rw [g2.block _ (by simp) (by simp)]
    exact heap_alloc_new w _
  have HB : Hid (((w2.alloc (.cells (rowOf (SM.z 8)) 214)).setRow w2.heap.size (rowOf (SM.mk n))).heap[w2.heap.size]? = some (.cells (rowOf (SM.mk n)) 214 (0, 0))) := setRow_heap _ _ _ _ _ _ (heap_alloc_new w2 _)
  have HG : Hid (w.grownBy ((w2.alloc (.cells (rowOf (SM.z 8)) 214)).setRow w2.heap.size (rowOf (SM.mk n))) none) := gb_setRow (gb_alloc (grown_trans (gb_alloc (World.grownBy.refl _ _) _) g2) _) (by have := g2.size; simp at this; omega) _
  have HLT : Hid (w.heap.size < w2.heap.size) := by have := g2.size; simp at this; show _ < _; omega
  clear g2
  generalize (w2.alloc (.cells (rowOf (SM.z 8)) 214)).setRow w2.heap.size (rowOf (SM.mk n)) = W at *
  generalize w2.heap.size = h2 at *
  go_wp2_with fail
  have VB : Hid (Vec W.drew (.slice (some ⟨h2, 0, none⟩) 8 8) (SM.mk n)) := ((Arr.whole (B := 0) (n := 8) HB.out (Nat.zero_le _) (by rw [SM.mk_len]) (SM.mk_small n) (by rw [SM.mk_len]; decide)).vec.keep (grown_drewN W 1))
  go_region_held3 (fun w' => w.grownBy w' none) (first | exact gb_drew HG.out | exact HG4.out)
    ((refine step_copy_part (T := 123) (cur := SM.z 64) (ys := SM.mk n) (by rfl) _ _ (by rfl) _ (by rfl) (by rfl) HA.out VB.out (by rw [SM.mk_len]; decide) (by rw [SM.mk_len, SM.z_len]; decide) ?_; intro w4 h4 g4; have HG4 : Hid (w.grownBy w4 none) := grown_new (gb_drew HG.out) g4 (fun i e => by have := Option.some.inj e; omega)))
  have H4 : Hid (w4.heap[w.heap.size]? = some (.cells (rowOf (SM.mk n ++ SM.z 56)) 123 (0, 0))) := by
    show _ = _
    rw [h4, List.take_zero, List.nil_append, SM.mk_len, SM.z_drop]
  clear h4 g4 VB HA HB HG HLT
  have hS : Hid ((SM.mk n ++ SM.z 56).take 8 ++ ld ++ (SM.mk n ++ SM.z 56).drop (8 + ld.length) = SM.sec n ld) := sec_cur n ld hl
  have HL : Hid ((SM.mk n ++ SM.z 56).length = 64) := by show _ = _; rw [List.length_append, SM.mk_len, SM.z_len]
  have VL : Hid (∀ x ∈ ld, x < 256) := (HV.out _ HG4.out).small
  generalize SM.mk n ++ SM.z 56 = cur at *
  go_wp2_with (refine wpList_copy_part rfl _ _ rfl _ (cur := cur) (ys := ld) rfl rfl H4.out (HV.out _ HG4.out) hl (by rw [HL.out]; omega) ?_; intro w5 h5 g5)
  go_ret2
  rw [hS.out] at h5
  exact ⟨_, rfl, Arr.whole h5 (Nat.le_refl _) (SM.sec_len hl).symm (SM.sec_small VL.out) (by rw [SM.sec_len hl]; decide), grown_new HG4.out g5 (fun i e => by have := Option.some.inj e; omega)⟩

theorem take_short {w : World} {v : Value} {xs : List Nat} (hv : Vec w v xs) (hl : xs.length < 64) :
    Calls Tryz.prog 68 #[v] w fun e w' => e = .returned (.tuple #[.int .u64 0, .slice none 0 0, .int .i64 4]) ∧ w' = w := by
  obtain ⟨q, N, cap, rfl, hN⟩ := hv.opened
  have i1 : (N : Int) < 64 := by omega
  clear hv hN
  go_enter Tryz.func68, Tryz.ntmps68
  go_wp2
  go_ret3
  exact ⟨rfl, rfl⟩
theorem take_long {w : World} {v : Value} {xs : List Nat} (hv : Vec w v xs) (hl : 64 < xs.length) :
    Calls Tryz.prog 68 #[v] w fun e w' => e = .returned (.tuple #[.int .u64 0, .slice none 0 0, .int .i64 3]) ∧ w' = w := by
  obtain ⟨q, N, cap, rfl, hN⟩ := hv.opened
  have i1 : (64 : Int) < (N : Int) := by omega
  clear hv hN
  go_enter Tryz.func68, Tryz.ntmps68
  go_wp2
  go_ret3
  exact ⟨rfl, rfl⟩

set_option maxHeartbeats 800000 in
theorem take_yes {w : World} {v : Value} {xs : List Nat} (hv : Vec w v xs) (hl : xs.length = 64) :
    Calls Tryz.prog 68 #[v] w fun e w' => ∃ p, e = .returned (.tuple #[.int .u64 ((SM.val xs 8 : Nat) : Int), .slice p 56 56, .int .i64 0]) ∧ Own w.heap.size w' (.slice p 56 56) (xs.drop 8) ∧ w.grownBy w' none := by
  obtain ⟨q, N, cap, rfl, hN⟩ := hv.opened
  obtain rfl : N = 64 := by omega
  obtain ⟨b, off, rfl, _⟩ := hv.spot (k := 0) (by omega)
  have hcap : 64 ≤ cap := by
    obtain ⟨p', cap', e, h3, _⟩ := hv.form
    injection e with e1 e2 e3
    omega
  have hcm : cap ≤ maxLen := by
    obtain ⟨p', cap', e, _, h4, _⟩ := hv.form
    injection e with e1 e2 e3
    omega
  have HV : Hid (∀ w', w.grownBy w' none → Vec w' (.slice (some ⟨b, off, none⟩) 64 cap) xs) := fun w' g => hv.keep g
  have HT : Hid (∀ w', w.grownBy w' none → Vec w' (.slice (some ⟨b, off + 8, none⟩) 56 (cap - 8)) (xs.drop 8)) := fun w' g => (hv.keep g).tail_a (by omega)
  clear hv hN
  unfold maxLen at hcm
  go_enter Tryz.func68, Tryz.ntmps68
  go_wp2_with (first
    | (at_make; refine wpList_make_vec rfl _ _ rfl 56 rfl rfl (by decide) ?_; intro w1 p ou g1; have OU : Hid (Own w.heap.size w1 (.slice p 56 56) (SM.z 56)) := ou; have G1 : Hid (w.grownBy w1 none) := g1; clear ou g1)
    | (refine wpList_copy_vec rfl _ _ rfl _ _ rfl rfl OU.out (HT.out _ G1.out) (by rw [SM.z_len, List.length_drop, hl]) ?_; intro w2 o2 g2; have O2 : Hid (Own w.heap.size w2 (.slice p 56 56) (xs.drop 8)) := o2; have G2 : Hid (w.grownBy w2 none) := grown_new G1.out g2 (fun i e => OU.out.lo i e); clear o2 g2)
    | (go_at_call 116; refine (stampOf_any (HV.out _ G2.out) (by omega)).mono ?_; rintro e w3 ⟨rfl, hw⟩; obtain rfl := hw.symm; clear hw))
  go_ret3
  exact ⟨p, rfl, O2.out, G2.out⟩

end Go.Proofs.YtfjlpifaaknmpaaGreat

/- What Put and Take answer, told once for all loads and bytes, and for the document's too. -/
set_option maxRecDepth 100000
namespace Go.Proofs.YtfjlpifaaknmpaaGreat
open Go.RowKit

def putS (n : Nat) (ld : List Nat) : List Nat := if ld.length ≤ 56 then SM.sec n ld else []
def putE (ld : List Nat) : Int := if ld.length ≤ 56 then 0 else 3
def takeN (xs : List Nat) : Nat := if xs.length = 64 then SM.val xs 8 else 0
def takeL (xs : List Nat) : List Nat := if xs.length = 64 then xs.drop 8 else []
def takeE (xs : List Nat) : Int := if xs.length = 64 then 0 else if xs.length < 64 then 4 else 3
theorem take_all {w : World} {v : Value} {xs : List Nat} (hv : Vec w v xs) :
    Calls Tryz.prog 68 #[v] w fun e w' => ∃ p k, e = .returned (.tuple #[.int .u64 ((takeN xs : Nat) : Int), .slice p k k, .int .i64 (takeE xs)]) ∧ Own w.heap.size w' (.slice p k k) (takeL xs) ∧ w.grownBy w' none := by
  unfold takeN takeL takeE
  by_cases hl : xs.length = 64
  · rw [if_pos hl, if_pos hl, if_pos hl]
    exact (take_yes hv hl).mono fun e w' ⟨p, h⟩ => ⟨p, 56, h⟩
  · rw [if_neg hl, if_neg hl, if_neg hl]
    by_cases h2 : xs.length < 64
    · rw [if_pos h2]
      exact (take_short hv h2).mono fun e w' ⟨h1, h2⟩ => ⟨none, 0, h1, Own.nil _ _, by rw [h2]; exact World.grownBy.refl _ _⟩
    · rw [if_neg h2]
      exact (take_long hv (by omega)).mono fun e w' ⟨h1, h2⟩ => ⟨none, 0, h1, Own.nil _ _, by rw [h2]; exact World.grownBy.refl _ _⟩
end Go.Proofs.YtfjlpifaaknmpaaGreat

/- Slices of slices that the call makes, their rows in blocks of whatever one type (RMat); append of one row; make with room. -/
set_option maxRecDepth 100000
namespace Go.Proofs.YtfjlpifaaknmpaaGreat
open Go.RowKit

theorem mat_n {w : World} {p : Option Addr} {n c : Nat} {us : List Value} {X : List (List Nat)} (h : Mat w (.slice p n c) us X) : us.length = n ∧ X.length = n := by
  have hs := h.same
  obtain ⟨p', n', c', e', h'⟩ := h.row.opened
  injection e' with e1 e2 e3
  omega
theorem Mat.nil (w : World) : Mat w (.slice none 0 0) [] [] := ⟨⟨by simp, none, 0, rfl, Nat.le_refl _, by decide, fun h => absurd rfl h⟩, rfl, by simp⟩

/-- A slice of slices of the call's own, each row in a block of its own of the type T. -/
structure RMat (T : TypeId) (B : Nat) (w : World) (v : Value) (us : List Value) (X : List (List Nat)) : Prop where
  len : us.length * 24 ≤ 140737488351232
  row : w.ownsRow B 40 1 v us.length us
  same : us.length = X.length
  vec : ∀ j, j < X.length → Arr T B w (us.getD j undef) (X.getD j [])

theorem RMat.nil (T : TypeId) (B : Nat) (w : World) : RMat T B w (.slice none 0 0) [] [] := ⟨by simp, World.ownsRow_nil w B 40 1, rfl, by simp⟩
theorem RMat.lo {T : TypeId} {B : Nat} {w : World} {v : Value} {us : List Value} {X : List (List Nat)} (h : RMat T B w v us X) : Lo B v := fun k hk => (h.row.lt k hk).1
theorem RMat.hi {T : TypeId} {B : Nat} {w : World} {v : Value} {us : List Value} {X : List (List Nat)} (h : RMat T B w v us X) : Hi w.heap.size v := fun k hk => (h.row.lt k hk).2
theorem RMat.keep {T : TypeId} {B : Nat} {w w' : World} {v : Value} {us : List Value} {X : List (List Nat)} (h : RMat T B w v us X) (g : w.grownBy w' none) : RMat T B w' v us X :=
  ⟨h.len, h.row.kept g (by cases h : v.ownBlock <;> simp), h.same, fun j hj => (h.vec j hj).keep g⟩
/-- A block that is none of these turns. -/
theorem RMat.kept {T : TypeId} {B : Nat} {w w' : World} {v : Value} {us : List Value} {X : List (List Nat)} {row : Option Nat} (h : RMat T B w v us X) (g : w.grownBy w' row) (hr : ∀ r, row = some r → ∀ c f, w.heap[r]? ≠ some (.cells c 40 f) ∧ w.heap[r]? ≠ some (.cells c T f)) : RMat T B w' v us X := by
  refine ⟨h.len, h.row.kept g ?_, h.same, fun j hj => (h.vec j hj).kept g ?_⟩
  · rcases h.row.2 with ⟨e, _⟩ | ⟨b, cap, cur, e, _, hg, _⟩
    · subst e; exact .inl rfl
    · subst e
      exact .inr fun e => (hr b (by simpa [Value.ownBlock] using e.symm) cur (0, 0)).1 hg
  · rcases (h.vec j hj).row.2 with ⟨e, _⟩ | ⟨b, cap, cur, e, _, hg, _⟩
    · rw [e]; exact .inl rfl
    · rw [e]
      exact .inr fun e => (hr b (by simpa [Value.ownBlock] using e.symm) cur (0, 0)).2 hg

theorem RMat.apart {T T' : TypeId} (hT : T' ≠ 40) {B B' : Nat} {w : World} {v u : Value} {us : List Value} {X : List (List Nat)} {xs : List Nat} (h : RMat T B w v us X) (hu : Arr T' B' w u xs) : u.ownBlock = none ∨ u.ownBlock ≠ v.ownBlock := by
  rcases hu.row.2 with ⟨rfl, _⟩ | ⟨g, cap, cur, rfl, _, hg, _⟩
  · exact .inl rfl
  · rcases h.row.2 with ⟨rfl, _⟩ | ⟨g', cap', cur', rfl, _, hg', _⟩
    · exact .inr (by simp [Value.ownBlock])
    · refine .inr fun e => ?_
      simp only [Value.ownBlock, Option.some.injEq] at e
      subst e
      rw [hg] at hg'
      simp at hg'
      exact hT hg'.2

/-- One row more. -/
theorem RMat.more {T : TypeId} (hT : T ≠ 40) {B : Nat} {w w2 : World} {v v' u : Value} {us : List Value} {X : List (List Nat)} {xs : List Nat} (h : RMat T B w v us X) (hu : Arr T B w u xs)
    (hl : (us.length + 1) * 24 ≤ 140737488351232) (hr : w2.ownsRow B 40 1 v' (us.length + 1) (us ++ [u])) (hg : w.grownBy w2 v.ownBlock) : RMat T B w2 v' (us ++ [u]) (X ++ [xs]) := by
  refine ⟨by simpa using hl, by simpa using hr, by simp [h.same], fun j hj => ?_⟩
  have hs := h.same
  by_cases hj' : j < X.length
  · have e1 : (us ++ [u]).getD j undef = us.getD j undef := by simp [List.getD, List.getElem?_append, show j < us.length from by omega]
    have e2 : (X ++ [xs]).getD j [] = X.getD j [] := by simp [List.getD, List.getElem?_append, hj']
    rw [e1, e2]
    exact (h.vec j hj').kept hg (h.apart hT (h.vec j hj'))
  · have hj2 : j = X.length := by simp at hj; omega
    have e1 : (us ++ [u]).getD j undef = u := by simp [List.getD, hj2, ← hs]
    have e2 : (X ++ [xs]).getD j [] = xs := by simp [List.getD, hj2]
    rw [e1, e2]
    exact hu.kept hg (h.apart hT hu)

theorem RMat.mat {T : TypeId} {B : Nat} {w : World} {v : Value} {us : List Value} {X : List (List Nat)} (h : RMat T B w v us X) : Mat w v us X := by
  refine ⟨⟨h.len, ?_⟩, h.same, fun j hj => (h.vec j hj).vec⟩
  have hr := h.row
  rcases h.row.2 with ⟨rfl, hn⟩ | ⟨g, cap, cur, rfl, hb, hg, hc, hm, hs, ht⟩
  · have : us = [] := List.eq_nil_of_length_eq_zero hn
    subst this
    exact ⟨none, 0, rfl, Nat.le_refl _, by decide, fun h => absurd rfl h⟩
  · refine ⟨some ⟨g, 0, none⟩, cap, rfl, hc, hm, fun _ => ⟨g, 0, rfl, fun j hj => ?_⟩⟩
    have := hr.cells (g := g) rfl j (us.getD j undef) (by simp [List.getD, hj])
    rwa [add_at] at this
theorem RMat.down {T : TypeId} {B B' : Nat} {w : World} {v : Value} {us : List Value} {X : List (List Nat)} (h : RMat T B' w v us X) (hB : B ≤ B') : RMat T B w v us X :=
  ⟨h.len, ⟨h.row.1, by
    rcases h.row.2 with h | ⟨g, cp, cur, a1, a2, a3⟩
    · exact .inl h
    · exact .inr ⟨g, cp, cur, a1, by omega, a3⟩⟩, h.same, fun j hj => (h.vec j hj).down hB⟩

theorem run_append_row {B : Nat} {w : World} {dv : Value} {us : List Value} (hd : w.ownsRow B 40 1 dv us.length us) (ad : Addr) {u : Value} (hu : w.cell? ad = some u) (h1 : u.oneCell' = true) (hB : B ≤ w.heap.size) (hl : (us.length + 1) * 24 ≤ 140737488351232) (ty : TypeId) :
    ∃ v' w', (Builtin.append_ #[87, 87] ty #[dv, .slice (some ad) 1 1]).run Tryz.prog w = .ok v' w' ∧ w'.ownsRow B 40 1 v' (us.length + 1) (us ++ [u]) ∧ w.grownBy w' dv.ownBlock ∧ (v'.ownBlock = dv.ownBlock ∨ v'.ownBlock = some w.heap.size) := by
  obtain ⟨i0, hi, hz0, hz1, hz2⟩ := info_parts Tryz.info22
  obtain ⟨v', w', r1, r2, r3, _, r5⟩ := run_append_own_at (P := Tryz.prog) w B 87 ty 40 i0 (.slice none 0 0) 1 24 Tryz.underlying87 hi hz0 hz1 hz2 rfl (by decide) dv us.length us hd ad 1 1 [u] (by simp)
    (fun j v hj => by
      match j, hj with
      | 0, hj => simp at hj; subst hj; simpa [Addr.add] using hu)
    (fun v hv => by simp at hv; subst hv; exact h1) (by unfold maxLen; omega) (by omega) hB
  exact ⟨v', w', r1, by simpa using r2, r3, r5⟩

theorem wpList_append_row {w : World} {ops : Array Oper} {rest : List Oper} {o : Oper} {a : Act} {Q : Exit → Act → World → Prop} (hgd : o.guard = none) (d s : Operand)
    (ho : o.op = .call { callee := .builtin .append, args := #[d, s], argTypes := #[87, 87] }) (dv : Value) (ad : Addr) (hed : a.eval d = dv) (hes : a.eval s = .slice (some ad) 1 1)
    {B : Nat} {us : List Value} {u : Value} (hd : w.ownsRow B 40 1 dv us.length us) (hu : w.cell? ad = some u) (h1 : u.oneCell' = true) (hB : B ≤ w.heap.size) (hl : (us.length + 1) * 24 ≤ 140737488351232)
    (h : ∀ v' w', w'.ownsRow B 40 1 v' (us.length + 1) (us ++ [u]) → w.grownBy w' dv.ownBlock → (v'.ownBlock = dv.ownBlock ∨ v'.ownBlock = some w.heap.size) → wpList Tryz.prog ops Q rest (a.put o.dst v') w') : wpList Tryz.prog ops Q (o :: rest) a w := by
  refine wpList_plain hgd fun K hK => ?_
  obtain ⟨v', w', hrun, r1, r2, r3⟩ := run_append_row hd ad hu h1 hB hl o.type
  unfold Oper.wp
  simp [execOp, ho, resolve, invoke, builtin, hed, hes, hrun, Result.andThen]
  exact hK _ _ (h _ _ r1 r2 r3)

theorem step_append_row {ops : Array Oper} {o : Oper} {a : Act} {w : World} {K : Act → World → Prop} {Q : Exit → Act → World → Prop} {E : Prop} (hgd : o.guard = none) (d s : Operand)
    (ho : o.op = .call { callee := .builtin .append, args := #[d, s], argTypes := #[87, 87] }) (dv : Value) (ad : Addr) (hed : a.eval d = dv) (hes : a.eval s = .slice (some ad) 1 1)
    {B : Nat} {us : List Value} {u : Value} (hd : w.ownsRow B 40 1 dv us.length us) (hu : w.cell? ad = some u) (h1 : u.oneCell' = true) (hB : B ≤ w.heap.size) (hl : (us.length + 1) * 24 ≤ 140737488351232)
    (h : ∀ v' w', w'.ownsRow B 40 1 v' (us.length + 1) (us ++ [u]) → w.grownBy w' dv.ownBlock → (v'.ownBlock = dv.ownBlock ∨ v'.ownBlock = some w.heap.size) → K (a.put o.dst v') w') :
    if Region.wanted o (yielded ops a.tmps) = true then Oper.wp Tryz.prog o a w K Q else E := by
  have hw : Region.wanted o (yielded ops a.tmps) = true := by simp [Region.wanted, hgd]
  rw [if_pos hw]
  obtain ⟨v', w', hrun, r1, r2, r3⟩ := run_append_row hd ad hu h1 hB hl o.type
  unfold Oper.wp
  simp [execOp, ho, resolve, invoke, builtin, hed, hes, hrun, Result.andThen]
  exact h _ _ r1 r2 r3

/-- make([]byte, 0, n). -/
theorem run_make_room (W : World) {n : Nat} (hn : n ≤ 140737488351232) : ∃ w', (Instr.makeSlice 40 (.int .i64 0) (.int .i64 (n : Int))).run Tryz.prog W = .ok (.slice (some ⟨W.heap.size, 0, none⟩) 0 n) w' ∧ Own W.heap.size w' (.slice (some ⟨W.heap.size, 0, none⟩) 0 n) [] ∧ W.grownBy w' none := by
  obtain ⟨i0, hi, hz0, hz1, hz2⟩ := info_parts Tryz.info5
  obtain ⟨w', h1, h2, h3⟩ := run_make_own (P := Tryz.prog) W W.heap.size 40 5 i0 (.int .u8 0) 1 Tryz.underlying40 hi hz0 hz1 .i64 .i64 n (by rw [hz2]; omega) (by unfold maxLen; omega) (Nat.le_refl _)
  exact ⟨w', h1, ⟨by simp, by simp, by simpa using h2⟩, h3⟩
theorem wpList_make_room {w : World} {ops : Array Oper} {rest : List Oper} {o : Oper} {a : Act} {Q : Exit → Act → World → Prop} (hgd : o.guard = none) (l c : Operand)
    (ho : o.op = Op.makeSlice 40 l c) (n : Nat) (hel : a.eval l = .int .i64 0) (hec : a.eval c = .int .i64 (n : Int)) (hn : n ≤ 140737488351232)
    (h : ∀ w1, Own w.heap.size w1 (.slice (some ⟨w.heap.size, 0, none⟩) 0 n) [] → w.grownBy w1 none → wpList Tryz.prog ops Q rest (a.put o.dst (.slice (some ⟨w.heap.size, 0, none⟩) 0 n)) w1) : wpList Tryz.prog ops Q (o :: rest) a w := by
  refine wpList_plain hgd fun K hK => ?_
  obtain ⟨w', hrun, r1, r2⟩ := run_make_room w hn
  unfold Oper.wp
  simp [execOp, ho, hel, hec, hrun, Result.andThen]
  exact hK _ _ (h _ r1 r2)
/-- make([][]byte, 0, n). -/
theorem run_make_rows0 (W : World) {n : Nat} (hn : n * 24 ≤ 140737488351232) : ∃ w', (Instr.makeSlice 87 (.int .i64 0) (.int .i64 (n : Int))).run Tryz.prog W = .ok (.slice (some ⟨W.heap.size, 0, none⟩) 0 n) w' ∧ w'.ownsRow W.heap.size 40 1 (.slice (some ⟨W.heap.size, 0, none⟩) 0 n) 0 [] ∧ W.grownBy w' none := by
  obtain ⟨i0, hi, hz0, hz1, hz2⟩ := info_parts Tryz.info22
  exact run_make_own (P := Tryz.prog) W W.heap.size 87 40 i0 (.slice none 0 0) 1 Tryz.underlying87 hi hz0 hz1 .i64 .i64 n (by rw [hz2]; omega) (by unfold maxLen; omega) (Nat.le_refl _)
end Go.Proofs.YtfjlpifaaknmpaaGreat

/- The contract of stripe.sectors. -/
set_option linter.unusedSimpArgs false
set_option linter.unusedVariables false
set_option maxRecDepth 100000
namespace Go.Proofs.YtfjlpifaaknmpaaGreat
open Go.RowKit

section
variable {F F' : Nat → Prop} {w w' : World} {s a : Nat} {g : SP.Geo} {R R' : AM.Raw}
theorem sread_on (h : SI F w s a g R) (h0 : R.off = false) {d slot i : Nat} (hd : d < g.n) (hs : slot < g.s) (hi : i < 8) (ho : R.on (d : Int) = true) :
    Calls Tryz.prog 90 #[ptr a, .int .i64 (d : Int), .int .i64 ((g.f + 8 * slot + i : Nat) : Int)] w fun e w' => ∃ p, e = .returned (.tuple #[.slice p 64 64, .int .i64 0]) ∧ Own w.heap.size w' (.slice p 64 64) (AM.look R.C d (g.f + 8 * slot + i)) ∧ w.grownBy w' none := by
  have hr := SP.reach_on h.ok h0 hs hi hd
  rw [if_pos ho] at hr
  have := read_yes h.i hr
  exact this
theorem sread_off (h : SI F w s a g R) (h0 : R.off = false) {d slot i : Nat} (hd : d < g.n) (hs : slot < g.s) (hi : i < 8) (ho : R.on (d : Int) = false) :
    Calls Tryz.prog 90 #[ptr a, .int .i64 (d : Int), .int .i64 ((g.f + 8 * slot + i : Nat) : Int)] w fun e w' => e = .returned (.tuple #[.slice none 0 0, .int .i64 9]) ∧ w' = w := by
  have hr := SP.reach_on h.ok h0 hs hi hd
  rw [ho] at hr
  have := read_no h.i (d := (d : Int)) (k := ((g.f + 8 * slot + i : Nat) : Int)) (by rw [hr]; decide)
  rw [hr] at this
  exact this

set_option maxHeartbeats 1600000 in
theorem ssectors_on (h : SI F w s a g R) (h0 : R.off = false) {d slot : Nat} (hd : d < g.n) (hs : slot < g.s) (ho : R.on (d : Int) = true) :
    Calls Tryz.prog 65 #[ptr s, .int .i64 (d : Int), .int .i64 (slot : Int)] w fun e w' => ∃ v us, e = .returned v ∧ RMat 5 w.heap.size w' v us (SP.sectTo R g slot d 8) ∧ w.grownBy w' none := by
  have H : Hid (SI F w s a g R) := h
  have HN : Hid (R.off = false ∧ d < g.n ∧ slot < g.s ∧ R.on (d : Int) = true ∧ g.f + 8 * slot + 8 ≤ 4096) := ⟨h0, hd, hs, ho, by have := h.ok.room; have := h.i.ok.n2; omega⟩
  obtain ⟨w1, hmk0, hrow, g1⟩ := run_make_rows0 w (n := 8) (by omega)
  have hmk : (Instr.makeSlice 87 (.int .i64 0) (.int .i64 8)).run Tryz.prog w = .ok (.slice (some ⟨w.heap.size, 0, none⟩) 0 8) w1 := hmk0
  clear hmk0
  have HR : Hid (w1.ownsRow w.heap.size 40 1 (.slice (some ⟨w.heap.size, 0, none⟩) 0 8) 0 []) := hrow
  have HG : Hid (w.grownBy w1 none) := g1
  clear h h0 hd hs ho hrow g1
  go_enter Tryz.func65, Tryz.ntmps65
  go_wp2_with fail
  clear hmk
  go_loopw [7, 12] (fun tl ti wr => ∃ k : Nat, k ≤ 8 ∧ ti = .int .i64 k ∧ Hid (∃ us, RMat 5 w.heap.size wr tl us (SP.sectTo R g slot d k)) ∧ Hid (w.grownBy wr none)) (fun _ ti _ => 8 - (intOf ti).toNat)
  case atStart => exact ⟨0, by omega, rfl, ⟨[], ⟨by simp, HR.out, rfl, by simp [SP.sectTo]⟩⟩, HG⟩
  case round =>
    obtain ⟨k, hk, rfl, OK, GK⟩ := hrel
    obtain ⟨us, OM⟩ := OK.out
    have MK : Hid (RMat 5 w.heap.size wr u7 us (SP.sectTo R g slot d k)) := OM
    have HL : Hid ((us.length + 1) * 24 ≤ 140737488351232) := by show _ ≤ _; rw [OM.same, SP.sectTo_len]; omega
    clear OM OK
    by_cases hlt : k < 8
    · have i4 : (k : Int) < 8 := by omega
      have GD : Hid (w.grownBy (wr.drewN 1) none) := grown_trans GK.out (grown_drewN wr 1)
      have HC : Hid (∀ w', wr.grownBy w' none → w'.cell? ⟨s, 0, none⟩ = some (ptr a)) := fun w' g' => (H.out.keep (grown_trans GK.out g')).at1
      obtain ⟨b, hb⟩ : ∃ b, b = g.f + 8 * slot := ⟨_, rfl⟩
      obtain ⟨q, hq⟩ : ∃ q, q = g.f + 8 * slot + k := ⟨_, rfl⟩
      have HB : Hid (Calls Tryz.prog 98 #[ptr s, .int .i64 (slot : Int)] (wr.drewN 1) fun e w' => e = .returned (.int .i64 (b : Int)) ∧ w' = wr.drewN 1) := by
        rw [hb]; exact sbegin_yes (H.out.keep GD.out) HN.out.2.2.1
      have RD : Hid (Calls Tryz.prog 90 #[ptr a, .int .i64 (d : Int), .int .i64 (q : Int)] (wr.drewN 1) fun e w' => ∃ p, e = .returned (.tuple #[.slice p 64 64, .int .i64 0]) ∧ Own (wr.drewN 1).heap.size w' (.slice p 64 64) (AM.look R.C d q) ∧ (wr.drewN 1).grownBy w' none) := by
        rw [hq]; exact sread_on (H.out.keep GD.out) HN.out.1 HN.out.2.1 HN.out.2.2.1 hlt HN.out.2.2.2.1
      have hw : IntKind.i64.wrap ((b : Int) + (k : Int)) = (q : Int) := by
        have e : (b : Int) + (k : Int) = (q : Int) := by omega
        have := HN.out.2.2.2.2
        rw [e]
        exact IntWalk.i64_in _ (by omega)
      have HS : Hid (SP.sectTo R g slot d (k + 1) = SP.sectTo R g slot d k ++ [AM.look R.C d q]) := by rw [hq]; exact SP.sectTo_succ R g slot d k
      clear hb hq
      generalize SP.sectTo R g slot d k = XK at *
      generalize AM.look R.C d q = SK at *
      go_wp2_with fail
      go_region_held3 (fun w' => w'.cell? ⟨s, 0, none⟩ = some (ptr a)) (first | exact HC.out _ (grown_drewN _ 1) | exact HC.out _ (grown_trans (grown_drewN _ 1) G1.out))
        ((first
          | (go_at_call 98; refine HB.out.mono ?_; rintro e w9 ⟨rfl, hw9⟩; obtain rfl := hw9.symm; clear hw9)
          | (go_at_call 90; refine RD.out.mono ?_; rintro e w2 ⟨p, rfl, op, g2⟩; have G1 : Hid ((wr.drewN 1).grownBy w2 none) := g2; have OP : Hid (Arr 5 w.heap.size w2 (.slice p 64 64) SK) := op.arr.down GD.out.size; clear op g2)))
      have M1 : Hid (RMat 5 w.heap.size w2 u7 us XK) := (MK.out.keep (grown_drewN wr 1)).keep G1.out
      have G2 : Hid (w.grownBy w2 none) := grown_trans GD.out G1.out
      clear HB RD hw GD G1 MK
      go_wp2_with (at_builtin; refine wpList_append_row rfl _ _ rfl _ ⟨w2.heap.size, 0, none⟩ rfl rfl (M1.out.keep (World.grownBy_alloc w2 _ none)).row (cell_new1 _ _ rfl) rfl (gb_alloc G2.out _).size HL.out ?_; intro v3 w3 r3 g3 at3; have M3 : Hid (RMat 5 w.heap.size w3 v3 (us ++ [.slice p 64 64]) (XK ++ [SK])) := (M1.out.keep (World.grownBy_alloc w2 _ none)).more (by decide) (OP.out.keep (World.grownBy_alloc w2 _ none)) HL.out r3 g3; have G3 : Hid (w.grownBy w3 none) := grown_new (gb_alloc G2.out _) g3 (fun i e => M1.out.lo i e); clear r3 g3 at3)
      go_roundw
      case rel => exact ⟨k + 1, by omega, by go_num, ⟨_, by rw [HS.out]; exact M3.out⟩, G3⟩
      case measure => simp [intOf]; omega
    · obtain rfl : k = 8 := by omega
      go_wp2
      go_ret
      exact ⟨_, _, rfl, MK.out, GK.out⟩
set_option maxHeartbeats 1600000 in
theorem ssectors_off (h : SI F w s a g R) (h0 : R.off = false) {d slot : Nat} (hd : d < g.n) (hs : slot < g.s) (ho : R.on (d : Int) = false) :
    Calls Tryz.prog 65 #[ptr s, .int .i64 (d : Int), .int .i64 (slot : Int)] w fun e w' => e = .returned (.slice none 0 0) ∧ w.grownBy w' none := by
  have H : Hid (SI F w s a g R) := h
  have HN : Hid (R.off = false ∧ d < g.n ∧ slot < g.s ∧ R.on (d : Int) = false ∧ g.f + 8 * slot + 8 ≤ 4096) := ⟨h0, hd, hs, ho, by have := h.ok.room; have := h.i.ok.n2; omega⟩
  obtain ⟨w1, hmk0, hrow, g1⟩ := run_make_rows0 w (n := 8) (by omega)
  have hmk : (Instr.makeSlice 87 (.int .i64 0) (.int .i64 8)).run Tryz.prog w = .ok (.slice (some ⟨w.heap.size, 0, none⟩) 0 8) w1 := hmk0
  clear hmk0
  have HG : Hid (w.grownBy w1 none) := g1
  clear h h0 hd hs ho hrow g1
  go_enter Tryz.func65, Tryz.ntmps65
  go_wp2_with fail
  clear hmk
  go_loopw [7, 12] (fun tl ti wr => ti = .int .i64 0 ∧ tl = .slice (some ⟨w.heap.size, 0, none⟩) 0 8 ∧ Hid (w.grownBy wr none)) (fun _ ti _ => 8 - (intOf ti).toNat)
  case atStart => exact ⟨rfl, rfl, HG⟩
  case round =>
    obtain ⟨rfl, rfl, GK⟩ := hrel
    have GD : Hid (w.grownBy (wr.drewN 1) none) := grown_trans GK.out (grown_drewN wr 1)
    have HC : Hid (∀ w', wr.grownBy w' none → w'.cell? ⟨s, 0, none⟩ = some (ptr a)) := fun w' g' => (H.out.keep (grown_trans GK.out g')).at1
    obtain ⟨b, hb⟩ : ∃ b, b = g.f + 8 * slot := ⟨_, rfl⟩
    have HB : Hid (Calls Tryz.prog 98 #[ptr s, .int .i64 (slot : Int)] (wr.drewN 1) fun e w' => e = .returned (.int .i64 (b : Int)) ∧ w' = wr.drewN 1) := by
      rw [hb]; exact sbegin_yes (H.out.keep GD.out) HN.out.2.2.1
    have RD : Hid (Calls Tryz.prog 90 #[ptr a, .int .i64 (d : Int), .int .i64 (b : Int)] (wr.drewN 1) fun e w' => e = .returned (.tuple #[.slice none 0 0, .int .i64 9]) ∧ w' = wr.drewN 1) := by
      rw [hb]; exact sread_off (i := 0) (H.out.keep GD.out) HN.out.1 HN.out.2.1 HN.out.2.2.1 (by omega) HN.out.2.2.2.1
    have hw : IntKind.i64.wrap (b : Int) = (b : Int) := by
      have := HN.out.2.2.2.2
      exact IntWalk.i64_in _ (by omega)
    clear hb
    go_wp2_with fail
    go_region_held3 (fun w' => w'.cell? ⟨s, 0, none⟩ = some (ptr a)) (exact HC.out _ (grown_drewN _ 1))
      ((first
        | (go_at_call 98; refine HB.out.mono ?_; rintro e w9 ⟨rfl, hw9⟩; obtain rfl := hw9.symm; clear hw9)
        | (go_at_call 90; refine RD.out.mono ?_; rintro e w2 ⟨rfl, hw2⟩; obtain rfl := hw2.symm; clear hw2)))
    go_wp2
    go_ret
    exact ⟨rfl, GD.out⟩
/-- The sectors of a disk in a slot. -/
theorem ssectors_any (h : SI F w s a g R) (h0 : R.off = false) {d slot : Nat} (hd : d < g.n) (hs : slot < g.s) :
    Calls Tryz.prog 65 #[ptr s, .int .i64 (d : Int), .int .i64 (slot : Int)] w fun e w' => ∃ v us, e = .returned v ∧ Mat w' v us (SP.sects R g slot d) ∧ w.grownBy w' none := by
  cases ho : R.on (d : Int)
  · rw [SP.sects_off ho]
    refine (ssectors_off h h0 hd hs ho).mono ?_
    rintro e w' ⟨rfl, g1⟩
    exact ⟨_, _, rfl, Mat.nil _, g1⟩
  · rw [SP.sects_on ho]
    refine (ssectors_on h h0 hd hs ho).mono ?_
    rintro e w' ⟨v, us, rfl, m, g1⟩
    exact ⟨_, _, rfl, m.mat, g1⟩
end
end Go.Proofs.YtfjlpifaaknmpaaGreat

/- The document's Take (hayrickref07). -/
set_option maxRecDepth 100000
namespace Go.Proofs.YtfjlpifaaknmpaaGreat
open Go.RowKit


theorem eqb_no {a b : Nat} (h : a ≠ b) : ((a : Int) == (b : Int)) = false := by simp; omega
theorem eqb_yes {a b : Nat} (h : a = b) : ((a : Int) == (b : Int)) = true := by simp; omega
theorem neb_yes {a b : Nat} (h : a ≠ b) : ((a : Int) != (b : Int)) = true := by simp; omega
theorem neb_no {a b : Nat} (h : a = b) : ((a : Int) != (b : Int)) = false := by simp; omega
theorem tN_no {X : List (List Nat)} (h : CM.yes X = false) : CM.tN X = 0 := by simp [CM.tN, h]
theorem tL_no {X : List (List Nat)} (h : CM.yes X = false) : CM.tL X = [] := by simp [CM.tL, h]
/-- The stamp behind k sectors. -/
def stAt (X : List (List Nat)) (k : Nat) : Nat := if k = 0 then 0 else SM.val (X.getD 0 []) 8
theorem okTo_more {X : List (List Nat)} {k : Nat} (h : CM.okTo X k) (h1 : (X.getD k []).length = 64) (h2 : SM.val (X.getD k []) 8 ≠ 0) (h3 : k = 0 ∨ SM.val (X.getD k []) 8 = SM.val (X.getD 0 []) 8) : CM.okTo X (k + 1) := fun j hj => by
  by_cases e : j = k
  · subst e
    refine ⟨h1, ?_, h2⟩
    rcases h3 with h3 | h3
    · subst h3; rfl
    · exact h3
  · exact h j (by omega)
theorem stAt_next {X : List (List Nat)} {k : Nat} (h3 : k = 0 ∨ SM.val (X.getD k []) 8 = SM.val (X.getD 0 []) 8) : stAt X (k + 1) = SM.val (X.getD k []) 8 := by
  unfold stAt
  rw [if_neg (by omega)]
  rcases h3 with h3 | h3
  · subst h3; rfl
  · exact h3.symm

end Go.Proofs.YtfjlpifaaknmpaaGreat

/- slices.Chunk over bytes: loads of 56. -/
set_option maxRecDepth 100000
namespace Go.Proofs.YtfjlpifaaknmpaaGreat
open Go.RowKit Go.Shelf
attribute [local go_sem] Oper.semAt_some

/-- A place, brought below m. -/
def cl (m x : Nat) : Nat := min x (m - 1)
theorem cl_lt {m x : Nat} (h : 0 < m) : cl m x < m := by unfold cl; omega
theorem cl_self {m x : Nat} (h : x < m) : cl m x = x := by unfold cl; omega
/-- What the iterator hands on. -/
def encL_c (b off m x : Nat) : Array Value := #[.slice (some ⟨b, off + 56 * cl m x, none⟩) 56 56]
/-- What a round keeps: the two captured variables. -/
def Kp7 (Bs Bn : Nat) (W W' : World) : Prop := W'.heap[Bs]? = W.heap[Bs]? ∧ W'.heap[Bn]? = W.heap[Bn]?

theorem chunk_any (w : World) (p : Option Addr) (n c : Nat) :
    Calls Tryz.prog 140 #[.slice p n c, .int .i64 56] w fun e w' => e = .returned (.func (.func 158) #[] #[.pointer (some ⟨w.heap.size, 0, none⟩), .pointer (some ⟨w.heap.size + 1, 0, none⟩)]) ∧ w' = (w.alloc (.cells #[.slice p n c] 40)).alloc (.cells #[.int .i64 56] 3) := by
  go_enter Tryz.func140, Tryz.ntmps140
  go_wp2
  go_ret
  exact ⟨rfl, rfl⟩

theorem slice_lo7 {b off n c lo : Nat} (h3 : lo < n) (hc : n ≤ c) (W : World) : (Instr.slice 40 (.slice (some ⟨b, off, none⟩) n c) (some (.int .i64 (lo : Int))) none none).run Tryz.prog W = .ok (.slice (some ⟨b, off + lo, none⟩) (n - lo) (c - lo)) W := by
  obtain ⟨i0, hi0, hz0, hz1, hz2⟩ := info_parts Tryz.info5
  have e2 : (Instr.sliceBound (.int .i64 (lo : Int)) n .sliceB).run Tryz.prog W = .ok lo W := by
    have := run_sliceBound (P := Tryz.prog) W .i64 (lo : Int) n .sliceB (by omega) (by omega)
    simpa using this
  have h4 : ¬ c = lo := by omega
  simp [Instr.slice, run_underlying Tryz.underlying40, Instr.sliceBounds, e2, sizeOf, typeInfo, hi0, hz1, h4, add_off]
theorem slice_lhm {b off n c lo hi : Nat} (h2 : hi ≤ c) (h3 : lo < hi) (W : World) : (Instr.slice 40 (.slice (some ⟨b, off, none⟩) n c) (some (.int .i64 (lo : Int))) (some (.int .i64 (hi : Int))) (some (.int .i64 (hi : Int)))).run Tryz.prog W = .ok (.slice (some ⟨b, off + lo, none⟩) (hi - lo) (hi - lo)) W := by
  obtain ⟨i0, hi0, hz0, hz1, hz2⟩ := info_parts Tryz.info5
  have e0 : (Instr.sliceBound (.int .i64 (hi : Int)) c .slice3Acap).run Tryz.prog W = .ok hi W := by
    have := run_sliceBound (P := Tryz.prog) W .i64 (hi : Int) c .slice3Acap (by omega) (by omega)
    simpa using this
  have e1 : (Instr.sliceBound (.int .i64 (hi : Int)) hi .slice3B).run Tryz.prog W = .ok hi W := by
    have := run_sliceBound (P := Tryz.prog) W .i64 (hi : Int) hi .slice3B (by omega) (by omega)
    simpa using this
  have e2 : (Instr.sliceBound (.int .i64 (lo : Int)) hi .slice3C).run Tryz.prog W = .ok lo W := by
    have := run_sliceBound (P := Tryz.prog) W .i64 (lo : Int) hi .slice3C (by omega) (by omega)
    simpa using this
  have h4 : ¬ hi = lo := by omega
  simp [Instr.slice, run_underlying Tryz.underlying40, Instr.sliceBounds, e0, e1, e2, sizeOf, typeInfo, hi0, hz1, h4, add_off]

set_option maxRecDepth 100000 in
set_option maxHeartbeats 2000000 in
theorem chunk1_in (n : Nat) (hn : 1 ≤ n) (l Bs Bn b off N cap m : Nat) (hN : N = 56 * m) (hm : m ≤ 64) (hcap : N ≤ cap) (J Jx : List Nat → World → Prop)
    (hY : ∀ pre x W, J pre W → pre.length < m → YieldAt Fence.wide (n - 1) Tryz.prog l (encL_c b off m x) W fun e W' =>
      (e = .returned (.bool true) ∧ J (pre ++ [x]) W' ∧ Kp7 Bs Bn W W') ∨ (e = .returned (.bool false) ∧ Jx (pre ++ [x]) W'))
    (W : World) (hBs : Boxed W Bs 40 (.slice (some ⟨b, off, none⟩) N cap)) (hBn : Boxed W Bn 3 (.int .i64 56)) (hJd : ∀ pre W, J pre W → J pre W.drew) (h0 : J [] W) :
    CallsIn Fence.wide n Tryz.prog 158 #[.func (.yield l) #[] #[], .pointer (some ⟨Bs, 0, none⟩), .pointer (some ⟨Bn, 0, none⟩)] W fun e W' => (∃ v, e = .returned v) ∧
      ((∃ ys, ys = List.range m ∧ J ys W') ∨ (∃ pre, (∃ k, k ≤ m ∧ pre = List.range k) ∧ Jx pre W')) := by
  have HN : Hid (N = 56 * m ∧ N ≤ cap) := ⟨hN, hcap⟩
  have HY : Hid _ := hY
  clear hN hcap hY
  refine callsIn_of_wp Tryz.func158 rfl trivial ?_ rfl
  simp only [Tryz.ntmps158, List.size_toArray, List.length_cons, List.length_nil, Nat.reduceAdd, Nat.reduceSub, Array.replicate_succ, Array.replicate_zero, List.push_toArray, List.append_toArray, List.nil_append, List.cons_append]
  gi_wp2
  gi_loopw [4] (fun i wr => ∃ k : Nat, k ≤ m ∧ i = .int .i64 (56 * (k : Int)) ∧ Hid (J (List.range k) wr) ∧ Hid (Boxed wr Bs 40 (.slice (some ⟨b, off, none⟩) N cap) ∧ Boxed wr Bn 3 (.int .i64 56)))
    (fun i _ => 56 * m - (intOf i).toNat)
  case atStart => exact ⟨0, Nat.zero_le _, rfl, h0, hBs, hBn⟩
  case round =>
    clear hBs hBn h0
    obtain ⟨k, hk, rfl, hJs, hB⟩ := hrel
    have c1 := hB.out.1.cell
    by_cases hlt : k < m
    · have i1 : 56 * (k : Int) < (N : Int) := by have := HN.out; omega
      have HY2 : Hid (YieldAt Fence.wide (n - 1) Tryz.prog l (encL_c b off m k) wr.drew fun e W' => (e = .returned (.bool true) ∧ J (List.range k ++ [k]) W' ∧ Kp7 Bs Bn wr.drew W') ∨ (e = .returned (.bool false) ∧ Jx (List.range k ++ [k]) W')) := HY.out _ _ _ (hJd _ _ hJs.out) (by simpa using hlt)
      have s1 := fun W => slice_lo7 (b := b) (off := off) (n := N) (c := cap) (lo := 56 * k) (by have := HN.out; omega) HN.out.2 W
      rw [show ((56 * k : Nat) : Int) = 56 * (k : Int) by omega] at s1
      obtain ⟨R, hR⟩ : ∃ R, R = N - 56 * k := ⟨_, rfl⟩
      rw [← hR] at s1
      have iR : ¬ (R : Int) < 56 := by have := HN.out; omega
      have HB : Hid (∀ w', wr.grownBy w' none → w'.cell? ⟨Bs, 0, none⟩ = some (.slice (some ⟨b, off, none⟩) N cap) ∧ w'.cell? ⟨Bn, 0, none⟩ = some (.int .i64 56)) := fun w' g => ⟨g.cell hB.out.1.cell (by simp), g.cell hB.out.2.cell (by simp)⟩
      clear hR hJs
      gi_wp2
      refine wpIn_wide.2 ?_
      go_region_held3 (fun w' => w'.cell? ⟨Bs, 0, none⟩ = some (.slice (some ⟨b, off, none⟩) N cap) ∧ w'.cell? ⟨Bn, 0, none⟩ = some (.int .i64 56)) (first | exact HB.out _ (grown_drewN _ 1)) (fail)
      clear s1 i1
      have eL : encL_c b off m k = #[.slice (some ⟨b, off + 56 * k, none⟩) 56 56] := by simp [encL_c, cl_self hlt]
      rw [eL] at HY2
      obtain ⟨fn, tmps, assign, body, hy, hR⟩ := HY2.out
      have s2 := fun W => slice_lhm (b := b) (off := off) (n := N) (c := cap) (lo := 56 * k) (hi := 56 * k + 56) (by have := HN.out; omega) (by omega) W
      rw [show ((56 * k + 56 : Nat) : Int) = 56 * (k : Int) + 56 by omega, show ((56 * k : Nat) : Int) = 56 * (k : Int) by omega, show 56 * k + 56 - 56 * k = 56 by omega] at s2
      have d1 : wr.drew.cell? ⟨Bs, 0, none⟩ = some (.slice (some ⟨b, off, none⟩) N cap) := c1
      clear HY2 eL c1
      gi_wp2
      refine hR.mono ?_
      rintro e W3 (⟨rfl, hJ3, hk3⟩ | ⟨rfl, hJx3⟩)
      · have HJ3 : Hid (J (List.range k ++ [k]) W3) := hJ3
        have hB3 : Hid (Boxed W3 Bs 40 (.slice (some ⟨b, off, none⟩) N cap) ∧ Boxed W3 Bn 3 (.int .i64 56)) := ⟨hk3.1.trans hB.out.1, hk3.2.trans hB.out.2⟩
        have c3 := hB3.out.2.cell
        clear hJ3 hk3 hy hR s2 d1
        gi_wp2
        go_roundw
        case rel => exact ⟨k + 1, by omega, by go_num, by rw [List.range_succ]; exact HJ3, hB3⟩
        case measure => simp [intOf]; omega
      · have HJ3 : Hid (Jx (List.range k ++ [k]) W3) := hJx3
        clear hJx3 hy hR s2 d1
        gi_wp2
        refine bodyPost_ret (results_none rfl _ _ _) rfl ?_
        exact ⟨⟨_, rfl⟩, .inr ⟨_, ⟨k + 1, by omega, (List.range_succ).symm⟩, HJ3.out⟩⟩
    · obtain rfl : k = m := by omega
      have i1 : ¬ 56 * (k : Int) < (N : Int) := by have := HN.out; omega
      gi_wp2
      go_end0
      exact ⟨⟨_, rfl⟩, .inl hJs.out⟩
end Go.Proofs.YtfjlpifaaknmpaaGreat

