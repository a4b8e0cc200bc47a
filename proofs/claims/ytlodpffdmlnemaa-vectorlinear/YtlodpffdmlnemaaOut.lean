/- Slices of slices that the call makes over vectors that lie elsewhere (Out): one element appended; which rows stay apart. -/
import Derived.Test.YtlodpffdmlnemaaOwnMat
import Derived.Maps.AppendAt
namespace Go.Proofs.Ytlodpffdmlnemaa
open Go.RowKit

structure Out (B : Nat) (w : World) (v : Value) (us : List Value) : Prop where
  len : us.length * 24 ≤ 140737488351232
  row : w.ownsRow B 22 1 v us.length us

theorem Out.nil (B : Nat) (w : World) : Out B w (.slice none 0 0) [] := ⟨by simp, World.ownsRow_nil w B 22 1⟩
theorem Out.lo {B : Nat} {w : World} {v : Value} {us : List Value} (h : Out B w v us) : Lo B v := fun k hk => (h.row.lt k hk).1
theorem Out.hi {B : Nat} {w : World} {v : Value} {us : List Value} (h : Out B w v us) : Hi w.heap.size v := fun k hk => (h.row.lt k hk).2
theorem Out.kept {B : Nat} {w w' : World} {v : Value} {us : List Value} {row : Option Nat} (h : Out B w v us) (g : w.grownBy w' row) (ne : v.ownBlock = none ∨ v.ownBlock ≠ row) : Out B w' v us :=
  ⟨h.len, h.row.kept g ne⟩
theorem Out.keep {B : Nat} {w w' : World} {v : Value} {us : List Value} (h : Out B w v us) (g : w.grownBy w' none) : Out B w' v us :=
  h.kept g (by cases h : v.ownBlock <;> simp)
theorem OwnMat.out {B : Nat} {w : World} {v : Value} {us : List Value} {xss : List (List Nat)} (h : OwnMat B w v us xss) : Out B w v us := ⟨h.len, h.row⟩

theorem Out.cells {B : Nat} {w : World} {v : Value} {us : List Value} (h : Out B w v us) : Cells w v us := by
  refine ⟨h.len, ?_⟩
  have hr := h.row
  rcases h.row.2 with ⟨rfl, hn⟩ | ⟨g, cap, cur, rfl, hb, hg, hc, hm, hs, ht⟩
  · have : us = [] := List.eq_nil_of_length_eq_zero hn
    subst this
    exact ⟨none, 0, rfl, Nat.le_refl _, by decide, fun h => absurd rfl h⟩
  · refine ⟨some ⟨g, 0, none⟩, cap, rfl, hc, hm, fun _ => ⟨g, 0, rfl, fun j hj => ?_⟩⟩
    have := hr.cells (g := g) rfl j (us.getD j undef) (by simp [List.getD, hj])
    rwa [add_at] at this

/-- Two values that lie in blocks of their own, or in none. -/
def Ap (v u : Value) : Prop := v.ownBlock = none ∨ v.ownBlock ≠ u.ownBlock

theorem Ap.symm {v u : Value} (h : Ap v u) : Ap u v := by
  unfold Ap at *
  cases hu : u.ownBlock with
  | none => exact .inl rfl
  | some k =>
    rcases h with h | h
    · rw [h]; exact .inr (by simp)
    · exact .inr fun e => h (by rw [hu, e])

/-- Behind an append: what lay apart from the row, and was there before, lies apart from the new one. -/
theorem Ap.grown {H : Nat} {t v v' : Value} (h : Ap t v) (ht : Hi H t) (hv : v'.ownBlock = v.ownBlock ∨ v'.ownBlock = some H) : Ap t v' := by
  rcases hv with e | e
  · unfold Ap at *
    rw [e]; exact h
  · unfold Ap
    cases hk : t.ownBlock with
    | none => exact .inl rfl
    | some k =>
      refine .inr ?_
      rw [e]
      intro h2
      have := ht k hk
      have := Option.some.inj h2
      omega

theorem run_append_out {B : Nat} {w : World} {dv : Value} {us : List Value} (hd : Out B w dv us) (ad : Addr) {u : Value} (hu : w.cell? ad = some u) (h1 : u.oneCell' = true) (hB : B ≤ w.heap.size) (hl : (us.length + 1) * 24 ≤ 140737488351232) (ty : TypeId) :
    ∃ v' w', (Builtin.append_ #[38, 38] ty #[dv, .slice (some ad) 1 1]).run Try.prog w = .ok v' w' ∧ Out B w' v' (us ++ [u]) ∧ w.grownBy w' dv.ownBlock ∧ (v'.ownBlock = dv.ownBlock ∨ v'.ownBlock = some w.heap.size) := by
  obtain ⟨i0, hi, hz0, hz1, hz2⟩ := info_parts Try.info22
  obtain ⟨v', w', r1, r2, r3, _, r5⟩ := run_append_own_at (P := Try.prog) w B 38 ty 22 i0 (.slice none 0 0) 1 24 Try.underlying38 hi hz0 hz1 hz2 rfl (by decide) dv us.length us hd.row ad 1 1 [u] (by simp)
    (fun j v hj => by
      match j, hj with
      | 0, hj => simp at hj; subst hj; simpa [Addr.add] using hu)
    (fun v hv => by simp at hv; subst hv; exact h1) (by unfold maxLen; omega) (by omega) hB
  exact ⟨v', w', r1, ⟨by simpa using hl, by simpa using r2⟩, r3, r5⟩

theorem wpList_append_out {w : World} {ops : Array Oper} {rest : List Oper} {o : Oper} {a : Act} {Q : Exit → Act → World → Prop} (hgd : o.guard = none) (d s : Operand)
    (ho : o.op = .call { callee := .builtin .append, args := #[d, s], argTypes := #[38, 38] }) (dv : Value) (ad : Addr) (hed : a.eval d = dv) (hes : a.eval s = .slice (some ad) 1 1)
    {B : Nat} {us : List Value} {u : Value} (hd : Out B w dv us) (hu : w.cell? ad = some u) (h1 : u.oneCell' = true) (hB : B ≤ w.heap.size) (hl : (us.length + 1) * 24 ≤ 140737488351232)
    (h : ∀ v' w', Out B w' v' (us ++ [u]) → w.grownBy w' dv.ownBlock → (v'.ownBlock = dv.ownBlock ∨ v'.ownBlock = some w.heap.size) → wpList Try.prog ops Q rest (a.put o.dst v') w') : wpList Try.prog ops Q (o :: rest) a w := by
  refine wpList_plain hgd fun K hK => ?_
  obtain ⟨v', w', hrun, r1, r2, r3⟩ := run_append_out hd ad hu h1 hB hl o.type
  unfold Oper.wp
  simp [execOp, ho, resolve, invoke, builtin, hed, hes, hrun, Result.andThen]
  exact hK _ _ (h _ _ r1 r2 r3)

theorem step_append_out {ops : Array Oper} {o : Oper} {a : Act} {w : World} {K : Act → World → Prop} {Q : Exit → Act → World → Prop} {E : Prop} (hgd : o.guard = none) (d s : Operand)
    (ho : o.op = .call { callee := .builtin .append, args := #[d, s], argTypes := #[38, 38] }) (dv : Value) (ad : Addr) (hed : a.eval d = dv) (hes : a.eval s = .slice (some ad) 1 1)
    {B : Nat} {us : List Value} {u : Value} (hd : Out B w dv us) (hu : w.cell? ad = some u) (h1 : u.oneCell' = true) (hB : B ≤ w.heap.size) (hl : (us.length + 1) * 24 ≤ 140737488351232)
    (h : ∀ v' w', Out B w' v' (us ++ [u]) → w.grownBy w' dv.ownBlock → (v'.ownBlock = dv.ownBlock ∨ v'.ownBlock = some w.heap.size) → K (a.put o.dst v') w') :
    if Region.wanted o (yielded ops a.tmps) = true then Oper.wp Try.prog o a w K Q else E := by
  have hw : Region.wanted o (yielded ops a.tmps) = true := by simp [Region.wanted, hgd]
  rw [if_pos hw]
  obtain ⟨v', w', hrun, r1, r2, r3⟩ := run_append_out hd ad hu h1 hB hl o.type
  unfold Oper.wp
  simp [execOp, ho, resolve, invoke, builtin, hed, hes, hrun, Result.andThen]
  exact h _ _ r1 r2 r3

/-- A slice's beginning, as a value. -/
def cutv (n : Nat) : Value → Value
  | .slice p _ c => .slice p n c
  | v => v

/-- The first k slices, each cut. -/
def cutrow (n k : Nat) (us : List Value) : List Value := (us.take k).map (cutv n)

theorem cutrow_len (n k : Nat) (us : List Value) (h : k ≤ us.length) : (cutrow n k us).length = k := by simp [cutrow]; omega
theorem cutrow_more (n k : Nat) (us : List Value) (h : k < us.length) {p : Option Addr} {l c : Nat} (e : us.getD k undef = .slice p l c) : cutrow n k us ++ [.slice p n c] = cutrow n (k + 1) us := by
  unfold cutrow
  rw [List.take_succ_eq_append_getElem h, List.map_append]
  have : us[k] = .slice p l c := by simpa [List.getD, h] using e
  rw [this]
  rfl
theorem cutrow_get (n k j : Nat) (us : List Value) (h : j < k) (hk : k ≤ us.length) : (cutrow n k us).getD j undef = cutv n (us.getD j undef) := by
  simp [cutrow, List.getD, h, show j < us.length from by omega]

/-- Rows cut to n numbers. -/
def cutx (n k : Nat) (X : List (List Nat)) : List (List Nat) := (X.take k).map (List.take n)
theorem cutx_len (n k : Nat) (X : List (List Nat)) (h : k ≤ X.length) : (cutx n k X).length = k := by simp [cutx]; omega
theorem cutx_get (n k j : Nat) (X : List (List Nat)) (h : j < k) (hk : k ≤ X.length) : (cutx n k X).getD j [] = (X.getD j []).take n := by
  simp [cutx, List.getD, h, show j < X.length from by omega]

/-- What was appended, as a slice of vectors. -/
theorem mat_cut {B n k : Nat} {w0 w : World} {r v : Value} {us : List Value} {X : List (List Nat)} (hm : Mat w0 r us X) (g : w0.grownBy w none) (ho : Out B w v (cutrow n k us)) (hk : k ≤ X.length) (hn : ∀ j, j < k → n ≤ (X.getD j []).length) :
    Mat w v (cutrow n k us) (cutx n k X) := by
  have hs := hm.same
  refine ⟨ho.cells, by rw [cutrow_len _ _ _ (by omega), cutx_len _ _ _ hk], fun j hj => ?_⟩
  rw [cutx_len _ _ _ hk] at hj
  rw [cutrow_get _ _ _ _ hj (by omega), cutx_get _ _ _ _ hj hk]
  have hv := (hm.vec j (by omega)).keep g
  obtain ⟨p, l, c, e, _⟩ := hv.opened
  rw [e] at hv ⊢
  exact hv.cut (hn j hj)

theorem gr1 (w : World) (X : Obj) : w.grownBy ((w.alloc X).drew) none := ⟨rfl, rfl, rfl, by simp, fun k hk _ => heap_alloc_old w X hk⟩
theorem gr2 (w : World) (X Y : Obj) : w.grownBy (((w.alloc X).alloc Y).drew) none := grown_trans (World.grownBy_alloc w X none) (gr1 (w.alloc X) Y)

/-- Another row of slices grows: what lies apart from it stays. -/
theorem OwnMat.keptOut {B B' : Nat} {w w' : World} {v t : Value} {us us' : List Value} {xss : List (List Nat)} (h : OwnMat B w v us xss) (ht : Out B' w t us') (g : w.grownBy w' t.ownBlock) (ap : Ap v t) : OwnMat B w' v us xss :=
  ⟨h.len, h.row.kept g ap, h.same, fun j hj => (h.vec j hj).kept g (apart_kinds ht.row (h.vec j hj))⟩

theorem two_appends {B : Nat} {w wr W w1 W' w2 : World} {a b s va vb : Value} {UA UB UA' UB' usS : List Value} {S : List (List Nat)}
    (OA : Out B wr a UA) (OB : Out B wr b UB) (OS : OwnMat B wr s usS S) (AP : Ap a b ∧ Ap a s ∧ Ap b s) (GK : w.grownBy wr none) (hB : B = w.heap.size)
    (g1 : wr.grownBy W none) (ga : W.grownBy w1 a.ownBlock) (oa : Out B w1 va UA') (ata : va.ownBlock = a.ownBlock ∨ va.ownBlock = some W.heap.size)
    (g2 : w1.grownBy W' none) (gb : W'.grownBy w2 b.ownBlock) (ob : Out B w2 vb UB') (atb : vb.ownBlock = b.ownBlock ∨ vb.ownBlock = some W'.heap.size) :
    Out B w2 va UA' ∧ Out B w2 vb UB' ∧ OwnMat B w2 s usS S ∧ (Ap va vb ∧ Ap va s ∧ Ap vb s) ∧ w.grownBy w2 none := by
  have hbW : Hi W.heap.size b := OB.hi.mono g1.size
  have hsW : Hi W.heap.size s := OS.hi.mono g1.size
  have hsW' : Hi W'.heap.size s := hsW.mono (Nat.le_trans ga.size g2.size)
  have hvW' : Hi W'.heap.size va := oa.hi.mono g2.size
  have a1 : Ap b va := AP.1.symm.grown hbW ata
  have a2 : Ap s va := AP.2.1.symm.grown hsW ata
  have a3 : Ap s vb := AP.2.2.symm.grown hsW' atb
  have a4 : Ap va vb := a1.symm.grown hvW' atb
  have ob1 : Out B W' b UB := ((OB.keep g1).kept ga AP.1.symm).keep g2
  refine ⟨(oa.keep g2).kept gb a1.symm, ob, ?_, ⟨a4, a2.symm, a3.symm⟩, ?_⟩
  · exact (((OS.keep g1).keptOut (OA.keep g1) ga AP.2.1.symm).keep g2).keptOut ob1 gb AP.2.2.symm
  · have h1 : w.grownBy w1 none := grown_new (grown_trans GK g1) ga (by rw [← hB]; exact OA.lo)
    exact grown_new (grown_trans h1 g2) gb (by rw [← hB]; exact OB.lo)

/-- What stands in the second loop: two rows of cut slices, one of own sums, each apart from the others; nothing that was there at w has turned. -/
def Inv (w wr : World) (a b s : Value) (UA UB usS : List Value) (S : List (List Nat)) : Prop :=
  Out w.heap.size wr a UA ∧ Out w.heap.size wr b UB ∧ OwnMat w.heap.size wr s usS S ∧ (Ap a b ∧ Ap a s ∧ Ap b s) ∧ w.grownBy wr none

theorem Inv.grown {w wr : World} {a b s : Value} {UA UB usS : List Value} {S : List (List Nat)} (h : Inv w wr a b s UA UB usS S) : w.grownBy wr none := h.2.2.2.2

theorem Inv.keep {w wr w' : World} {a b s : Value} {UA UB usS : List Value} {S : List (List Nat)} (h : Inv w wr a b s UA UB usS S) (g : wr.grownBy w' none) : Inv w w' a b s UA UB usS S :=
  ⟨h.1.keep g, h.2.1.keep g, h.2.2.1.keep g, h.2.2.2.1, grown_trans h.2.2.2.2 g⟩

/-- A new vector of bytes is written. -/
theorem Inv.wrote {w wr w3 w4 : World} {a b s u : Value} {UA UB usS : List Value} {S : List (List Nat)} {xs : List Nat} (h : Inv w wr a b s UA UB usS S) (g3 : wr.grownBy w3 none) (ou : Own wr.heap.size w3 u xs) (g4 : w3.grownBy w4 u.ownBlock) : Inv w w4 a b s UA UB usS S := by
  obtain ⟨h1, h2, h3, h4, h5⟩ := h
  have k1 := h1.keep g3
  have k2 := h2.keep g3
  have k3 := h3.keep g3
  have ap : ∀ {t : Value}, Hi wr.heap.size t → Ap t u := fun ht => apart_of ht ou.lo
  refine ⟨k1.kept g4 (ap h1.hi), k2.kept g4 (ap h2.hi), ⟨k3.len, k3.row.kept g4 (ap h3.hi), k3.same, fun j hj => (k3.vec j hj).kept g4 (ap (h3.vec j hj).hi)⟩, h4, ?_⟩
  exact grown_new (grown_trans h5 g3) g4 (ou.lo.mono h5.size)

/-- The sums grow by one. -/
theorem Inv.more {w W w5 : World} {a b s vS u : Value} {UA UB usS : List Value} {S : List (List Nat)} {xs : List Nat} (h : Inv w W a b s UA UB usS S) (ou : Own w.heap.size W u xs) (hl : (usS.length + 1) * 24 ≤ 140737488351232)
    (oS : Out w.heap.size w5 vS (usS ++ [u])) (gS : W.grownBy w5 s.ownBlock) (atS : vS.ownBlock = s.ownBlock ∨ vS.ownBlock = some W.heap.size) : Inv w w5 a b vS UA UB (usS ++ [u]) (S ++ [xs]) := by
  obtain ⟨h1, h2, h3, ⟨p1, p2, p3⟩, h5⟩ := h
  refine ⟨h1.kept gS p2, h2.kept gS p3, h3.more ou hl (by simpa using oS.row) gS, ⟨p1, p2.grown h1.hi atS, p3.grown h2.hi atS⟩, ?_⟩
  exact grown_new h5 gS h3.lo
end Go.Proofs.Ytlodpffdmlnemaa
