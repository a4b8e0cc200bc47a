/- Packed: RdC8, Con8. -/
import Derived.Deep.RegionHeld3
import Derived.BigRegion
import Derived.Test.YtfjlpifaaknmpaaGreatSy1
import Derived.Test.YtfjlpifaaknmpaaGreatSy2
import Derived.Test.YtfjlpifaaknmpaaGreatSy3
import Derived.Test.YtfjlpifaaknmpaaGreatSy4
import Derived.Test.YtfjlpifaaknmpaaGreatSy5
import Derived.Test.YtfjlpifaaknmpaaGreatSy6
import Derived.Test.YtfjlpifaaknmpaaGreatSy7
import Derived.Test.YtfjlpifaaknmpaaGreatSy8
import Derived.Test.YtfjlpifaaknmpaaGreatSy9
import Derived.Test.YtfjlpifaaknmpaaGreatSy10
import Derived.Test.YtfjlpifaaknmpaaGreatSy11
import Derived.Test.YtfjlpifaaknmpaaGreatSy12
import Derived.Test.YtfjlpifaaknmpaaGreatSy14
import Derived.Test.YtfjlpifaaknmpaaGreatSy16
import Derived.Test.YtfjlpifaaknmpaaGreatSy17
import Derived.Test.YtfjlpifaaknmpaaGreatSy18
import Derived.Test.YtfjlpifaaknmpaaGreatSy19
import Derived.Test.YtfjlpifaaknmpaaGreatSy20
import Derived.Test.YtfjlpifaaknmpaaGreatSy21
import Derived.Test.YtfjlpifaaknmpaaGreatSy22
import Derived.Lib.AppendZeros
/- Contracts of the closure within stripe.Read. -/
set_option linter.unusedSimpArgs false
set_option linter.unusedVariables false
set_option maxRecDepth 100000
namespace Go.Proofs.YtfjlpifaaknmpaaGreat
open Go.RowKit

/-- What the closure within Read captured: the stamp, the disks found so far, their data so far, the Stripes. -/
structure RdI (w0 : World) (B0 A D Sb s m : Nat) (w : World) (va va' : Value) (l : List Nat) (vt vt' : Value) (us : List Value) (X : List (List Nat)) : Prop where
  b0 : Boxed w B0 39 (.int .u64 (m : Int))
  ba : Boxed w A 95 va
  bd : Boxed w D 87 vt
  bs : Boxed w Sb 27 (ptr s)
  ia : IOwn w0.heap.size w va' (SP.ints l)
  mt : RMat 5 w0.heap.size w vt' us X
  lA : w0.heap.size ≤ A
  lD : w0.heap.size ≤ D
  gr : w0.grownBy w none

theorem boxed_ne {w : World} {A D : Nat} {t t' : TypeId} {u v : Value} (h : Boxed w A t u) (h' : Boxed w D t' v) (ne : t ≠ t') : A ≠ D := fun e => by
  subst e
  have h3 := (show w.heap[A]? = _ from h).symm.trans (show w.heap[A]? = _ from h')
  simp at h3
  exact ne h3.2
theorem RMat.boxed {T : TypeId} {B A : Nat} {w : World} {v u : Value} {us : List Value} {X : List (List Nat)} {t : TypeId} (h : RMat T B w v us X) (hb : Boxed w A t u) (h1 : t ≠ 40) (h2 : t ≠ T) {w' : World} (g : w.grownBy w' (some A)) : RMat T B w' v us X :=
  h.kept g (fun r hr c f => by
    obtain rfl := Option.some.inj hr
    rw [show w.heap[A]? = _ from hb]
    simp [h1, h2])
theorem RMat.rowed {T : TypeId} {B B' n : Nat} {w : World} {v u : Value} {us xs : List Value} {X : List (List Nat)} {t : TypeId} (h : RMat T B w v us X) (hr : w.ownsRow B' t 1 u n xs) (h1 : t ≠ 40) (h2 : t ≠ T) {w' : World} (g : w.grownBy w' u.ownBlock) : RMat T B w' v us X :=
  h.kept g (fun r e c f => by
    obtain ⟨c', hc'⟩ := rowBlock hr e
    rw [hc']
    simp [h1, h2])

section
variable {w0 w w' : World} {B0 A D Sb s m : Nat} {va va' vt vt' : Value} {l : List Nat} {us : List Value} {X : List (List Nat)}
theorem RdI.keep (h : RdI w0 B0 A D Sb s m w va va' l vt vt' us X) (g : w.grownBy w' none) : RdI w0 B0 A D Sb s m w' va va' l vt vt' us X :=
  ⟨h.b0.kept g (by simp), h.ba.kept g (by simp), h.bd.kept g (by simp), h.bs.kept g (by simp), h.ia.keep g, h.mt.keep g, h.lA, h.lD, grown_trans h.gr g⟩
theorem RdI.cells (h : RdI w0 B0 A D Sb s m w va va' l vt vt' us X) : w.cell? ⟨A, 0, none⟩ = some va ∧ w.cell? ⟨D, 0, none⟩ = some vt := ⟨h.ba.cell, h.bd.cell⟩
theorem RdI.app1 (h : RdI w0 B0 A D Sb s m w va va' l vt vt' us X) {v2 : Value} {j : Nat} (o : IOwn w0.heap.size w' v2 (SP.ints l ++ [(j : Int)])) (g : w.grownBy w' va'.ownBlock) : RdI w0 B0 A D Sb s m w' va v2 (l ++ [j]) vt vt' us X :=
  ⟨h.b0.kept g (h.b0.not_row (by decide) h.ia.row), h.ba.kept g (h.ba.not_row (by decide) h.ia.row), h.bd.kept g (h.bd.not_row (by decide) h.ia.row), h.bs.kept g (h.bs.not_row (by decide) h.ia.row), by rw [SP.ints_app]; exact o, h.mt.rowed h.ia.row (by decide) (by decide) g, h.lA, h.lD, grown_new h.gr g (fun i e => h.ia.lo i e)⟩
theorem RdI.app2 (h : RdI w0 B0 A D Sb s m w va va' l vt vt' us X) {v2 v : Value} {ys : List Nat} (hu : Arr 5 w0.heap.size w v ys) (hl : (us.length + 1) * 24 ≤ 140737488351232) (hr : w'.ownsRow w0.heap.size 40 1 v2 (us.length + 1) (us ++ [v])) (g : w.grownBy w' vt'.ownBlock) : RdI w0 B0 A D Sb s m w' va va' l vt v2 (us ++ [v]) (X ++ [ys]) :=
  ⟨h.b0.kept g (h.b0.not_row (by decide) h.mt.row), h.ba.kept g (h.ba.not_row (by decide) h.mt.row), h.bd.kept g (h.bd.not_row (by decide) h.mt.row), h.bs.kept g (h.bs.not_row (by decide) h.mt.row), h.ia.kept g (row_apart (by decide) h.ia.row h.mt.row), h.mt.more (by decide) hu hl hr g, h.lA, h.lD, grown_new h.gr g (fun i e => h.mt.lo i e)⟩
theorem IOwn.boxed {B A : Nat} {w w' : World} {v u : Value} {ls : List Int} {t : TypeId} (h : IOwn B w v ls) (hb : Boxed w A t u) (ht : t ≠ 3) (g : w.grownBy w' (some A)) : IOwn B w' v ls :=
  h.kept g (by
    have := hb.not_row ht h.row
    cases e : v.ownBlock with
    | none => exact .inl rfl
    | some k => exact .inr (fun e2 => this (by rw [e, ← e2])))
theorem RdI.setA (h : RdI w0 B0 A D Sb s m w va va' l vt vt' us X) : RdI w0 B0 A D Sb s m (w.setCell ⟨A, 0, none⟩ va') va' va' l vt vt' us X :=
  have g := grownBy_setCell' w A va'
  ⟨h.b0.kept g (fun e => boxed_ne h.b0 h.ba (by decide) (Option.some.inj e)), h.ba.set _, h.bd.kept g (fun e => boxed_ne h.bd h.ba (by decide) (Option.some.inj e)), h.bs.kept g (fun e => boxed_ne h.bs h.ba (by decide) (Option.some.inj e)), h.ia.boxed h.ba (by decide) g, h.mt.boxed h.ba (by decide) (by decide) g, h.lA, h.lD, grown_new h.gr g (fun i e => by have := Option.some.inj e; have := h.lA; omega)⟩
theorem RdI.setD (h : RdI w0 B0 A D Sb s m w va va' l vt vt' us X) : RdI w0 B0 A D Sb s m (w.setCell ⟨D, 0, none⟩ vt') va va' l vt' vt' us X :=
  have g := grownBy_setCell' w D vt'
  ⟨h.b0.kept g (fun e => boxed_ne h.b0 h.bd (by decide) (Option.some.inj e)), h.ba.kept g (fun e => boxed_ne h.ba h.bd (by decide) (Option.some.inj e)), h.bd.set _, h.bs.kept g (fun e => boxed_ne h.bs h.bd (by decide) (Option.some.inj e)), h.ia.boxed h.bd (by decide) g, h.mt.boxed h.bd (by decide) (by decide) g, h.lA, h.lD, grown_new h.gr g (fun i e => by have := Option.some.inj e; have := h.lD; omega)⟩

set_option maxHeartbeats 3200000 in
/-- A chunk of another stamp. -/
theorem rd_no (h : RdI w0 B0 A D Sb s m w va va l vt vt us X) {j n k : Nat} {v : Value} (hn : n ≠ m) (hK : ∀ w', w0.grownBy w' none → w'.cell? ⟨s, 1, none⟩ = some (.int .i64 (k : Int))) :
    Calls Tryz.prog 56 #[.int .i64 (j : Int), .int .u64 (n : Int), v, .pointer (some ⟨B0, 0, none⟩), .pointer (some ⟨A, 0, none⟩), .pointer (some ⟨D, 0, none⟩), .pointer (some ⟨Sb, 0, none⟩)] w fun e w' => e = .returned (.bool (decide (l.length < k))) ∧ RdI w0 B0 A D Sb s m w' va va l vt vt us X := by
  obtain ⟨ap, an, ac, rfl, ha⟩ := h.ia.ivec.opened
  have HA : Hid (an = l.length) := by show _ = _; rw [ha, SP.ints_len]
  have T : Hid (RdI w0 B0 A D Sb s m w (.slice ap an ac) (.slice ap an ac) l vt vt us X) := h
  have HK : Hid (∀ w', w0.grownBy w' none → w'.cell? ⟨s, 1, none⟩ = some (.int .i64 (k : Int))) := hK
  have hne : ((n : Int) == (m : Int)) = false := eqb_no hn
  have c0 := h.b0.cell
  clear h ha hK hn
  go_enter Tryz.func56, Tryz.ntmps56
  go_wp2_with fail
  have HS9 : Hid (∀ w', w.grownBy w' none → w'.cell? ⟨A, 0, none⟩ = some (.slice ap an ac) ∧ w'.cell? ⟨Sb, 0, none⟩ = some (ptr s) ∧ w'.cell? ⟨s, 1, none⟩ = some (.int .i64 (k : Int))) := fun w' g' => ⟨(T.out.keep g').ba.cell, (T.out.keep g').bs.cell, HK.out w' (T.out.keep g').gr⟩
  clear c0
  go_region_held3 (fun w' => w'.cell? ⟨A, 0, none⟩ = some (.slice ap an ac) ∧ w'.cell? ⟨Sb, 0, none⟩ = some (ptr s) ∧ w'.cell? ⟨s, 1, none⟩ = some (.int .i64 (k : Int))) (exact HS9.out _ (grown_drewN w 1)) (fail)
  go_wp2
  go_ret
  exact ⟨by rw [HA.out]; rfl, T.out.keep (grown_drewN w 1)⟩

set_option maxHeartbeats 12800000 in
/-- A chunk of the stamp. -/
theorem rd_yes {vp : Option Addr} {vn vc : Nat} (h : RdI w0 B0 A D Sb s m w va va l (.slice vp vn vc) (.slice vp vn vc) us X) {j k : Nat} {pv : Option Addr} {nv cv : Nat} {ys : List Nat} (hv : Own w0.heap.size w (.slice pv nv cv) ys) (hl : l.length < 255) (hl2 : us.length < 255) (hK : ∀ w', w0.grownBy w' none → w'.cell? ⟨s, 1, none⟩ = some (.int .i64 (k : Int))) :
    Calls Tryz.prog 56 #[.int .i64 (j : Int), .int .u64 (m : Int), .slice pv nv cv, .pointer (some ⟨B0, 0, none⟩), .pointer (some ⟨A, 0, none⟩), .pointer (some ⟨D, 0, none⟩), .pointer (some ⟨Sb, 0, none⟩)] w fun e w' => e = .returned (.bool (decide ((l ++ [j]).length < k))) ∧ ∃ va' vt' us', RdI w0 B0 A D Sb s m w' va' va' (l ++ [j]) vt' vt' us' (X ++ [ys]) := by
  have HK : Hid (∀ w', w0.grownBy w' none → w'.cell? ⟨s, 1, none⟩ = some (.int .i64 (k : Int))) := hK
  have hne : ((m : Int) == (m : Int)) = true := eqb_yes rfl
  have c0 := h.b0.cell
  have HL : Hid (((SP.ints l).length + 1) * 8 ≤ 140737488351232 ∧ (us.length + 1) * 24 ≤ 140737488351232) := ⟨by rw [SP.ints_len]; omega, by omega⟩
  have HLL : Hid ((l ++ [j]).length = l.length + 1) := by show _ = _; simp
  have T : Hid (RdI w0 B0 A D Sb s m w.drew va va l (.slice vp vn vc) (.slice vp vn vc) us X) := h.keep (gb_drew (World.grownBy.refl _ _))
  obtain ⟨H, hH⟩ : ∃ H, H = w0.heap.size := ⟨_, rfl⟩
  have V : Hid (Own w0.heap.size w.drew (.slice pv nv cv) ys) := hv.keep (gb_drew (World.grownBy.refl _ _))
  clear h hv hl hl2 hK hH H
  go_enter Tryz.func56, Tryz.ntmps56
  go_wp2_with fail
  clear c0 hne
  refine region_late2 (S := fun w' => w'.cell? ⟨A, 0, none⟩ = some va ∧ w'.cell? ⟨D, 0, none⟩ = some (.slice vp vn vc)) (by simp only [List.pop_toArray, List.dropLast]; exact rfl) (by simp only [List.pop_toArray, List.dropLast]; exact rfl) (by rfl) (by rfl) (by kernel_rfl) (by kernel_rfl) (by kernel_rfl) ?_ (fun hHeld => ?_)
  · exact T.out.cells
  generalize w.drew = wd at *
  refine wpAnyH_take (i := 0) (v := ?_) rfl (by kernel_rfl) (by kernel_rfl) (by kernel_rfl) (fun _ _ _ h => h) (Or.inl ⟨by rfl, ?_⟩) (by assumption) ?_
  rotate_left
  · intro w hSw; (try dsimp only at hSw); obtain ⟨hS1, hS2⟩ := hSw; first | (go_simp; done) | (go_simp; with_reducible rfl)
  simp only [Act.put, List.getElem_toArray, List.getElem_cons_succ, List.getElem_cons_zero, List.setIfInBounds_toArray, List.set_cons_zero, List.set_cons_succ]
  refine wpAnyH_take (i := 1) (v := ?_) rfl (by kernel_rfl) (by kernel_rfl) (by kernel_rfl) (fun _ _ _ h => h) (Or.inl ⟨by rfl, ?_⟩) (by assumption) ?_
  rotate_left
  · intro w hSw; (try dsimp only at hSw); obtain ⟨hS1, hS2⟩ := hSw; first | (go_simp; done) | (go_simp; with_reducible rfl)
  simp only [Act.put, List.getElem_toArray, List.getElem_cons_succ, List.getElem_cons_zero, List.setIfInBounds_toArray, List.set_cons_zero, List.set_cons_succ]
  refine wpAnyH_take (i := 4) (v := ?_) rfl (by kernel_rfl) (by kernel_rfl) (by kernel_rfl) (fun _ _ _ h => h) (Or.inl ⟨by rfl, ?_⟩) (by assumption) ?_
  rotate_left
  · intro w hSw; (try dsimp only at hSw); obtain ⟨hS1, hS2⟩ := hSw; first | (go_simp; done) | (go_simp; with_reducible rfl)
  simp only [Act.put, List.getElem_toArray, List.getElem_cons_succ, List.getElem_cons_zero, List.setIfInBounds_toArray, List.set_cons_zero, List.set_cons_succ]
  refine wpAnyH_take (i := 5) (v := ?_) rfl (by kernel_rfl) (by kernel_rfl) (by kernel_rfl) (fun _ _ _ h => h) (Or.inl ⟨by rfl, ?_⟩) (by assumption) ?_
  rotate_left
  · intro w hSw; (try dsimp only at hSw); obtain ⟨hS1, hS2⟩ := hSw; first | (go_simp; done) | (go_simp; with_reducible rfl)
  simp only [Act.put, List.getElem_toArray, List.getElem_cons_succ, List.getElem_cons_zero, List.setIfInBounds_toArray, List.set_cons_zero, List.set_cons_succ]
  refine wpAnyH_ready (rs := [2, 6]) (by kernel_rfl) (by simp) ?_
  refine AllReadyH.cons rfl (fun K hK => ?_) (AllReadyH.cons rfl (fun K hK => ?_) AllReadyH.nil)
  · skip
    go_simp
    have Tn : Hid (RdI w0 B0 A D Sb s m (wd.alloc (.cells #[.int .i64 (j : Int)] 3)) va va l (.slice vp vn vc) (.slice vp vn vc) us X) := T.out.keep (World.grownBy_alloc wd _ none)
    have Vn : Hid (Own w0.heap.size (wd.alloc (.cells #[.int .i64 (j : Int)] 3)) (.slice pv nv cv) ys) := V.out.keep (World.grownBy_alloc wd _ none)
    have C2 : Hid (Boxed (wd.alloc (.cells #[.int .i64 (j : Int)] 3)) wd.heap.size 3 (.int .i64 (j : Int))) := Boxed.new wd _ _
    refine hK.out _ _ (Tn.out.cells) (fun hHeld => ?_)
    clear hK K
    (try simp only [Act.put, List.getElem_toArray, List.getElem_cons_succ, List.getElem_cons_zero, List.setIfInBounds_toArray, List.set_cons_zero, List.set_cons_succ])
    clear T V
    have T := Tn
    have V := Vn
    clear Tn Vn
    obtain ⟨z2, hz2⟩ : ∃ z, z = wd.heap.size := ⟨_, rfl⟩
    rw [← hz2] at C2
    (try rw [← hz2])
    clear hz2
    generalize wd.alloc (.cells #[.int .i64 (j : Int)] 3) = w1 at *
    refine wpAnyH_ready (rs := [3, 6]) (by kernel_rfl) (by simp) ?_
    refine AllReadyH.cons rfl (fun K hK => ?_) (AllReadyH.cons rfl (fun K hK => ?_) AllReadyH.nil)
    · skip
      refine step_append_int (by rfl) _ _ (by rfl) va ⟨z2, 0, none⟩ (by rfl) (by rfl) T.out.ia C2.out.cell T.out.gr.size HL.out.1 ?_
      intro va2 w2 oa ga ata
      have Tn : Hid (RdI w0 B0 A D Sb s m w2 va va2 (l ++ [j]) (.slice vp vn vc) (.slice vp vn vc) us X) := T.out.app1 oa ga
      have Vn : Hid (Own w0.heap.size w2 (.slice pv nv cv) ys) := V.out.kept ga (row_apart (by decide) V.out.row T.out.ia.row)
      clear oa ga ata
      refine hK.out _ _ (Tn.out.cells) (fun hHeld => ?_)
      clear hK K
      (try simp only [Act.put, List.getElem_toArray, List.getElem_cons_succ, List.getElem_cons_zero, List.setIfInBounds_toArray, List.set_cons_zero, List.set_cons_succ])
      clear T V C2
      have T := Tn
      have V := Vn
      clear Tn Vn
      refine wpAnyH_ready (rs := [6]) (by kernel_rfl) (by simp) ?_
      refine AllReadyH.cons rfl (fun K hK => ?_) AllReadyH.nil
      go_simp
      have Tn : Hid (RdI w0 B0 A D Sb s m (w2.alloc (.cells #[.slice pv nv cv] 40)) va va2 (l ++ [j]) (.slice vp vn vc) (.slice vp vn vc) us X) := T.out.keep (World.grownBy_alloc w2 _ none)
      have Vn : Hid (Own w0.heap.size (w2.alloc (.cells #[.slice pv nv cv] 40)) (.slice pv nv cv) ys) := V.out.keep (World.grownBy_alloc w2 _ none)
      have C6 : Hid (Boxed (w2.alloc (.cells #[.slice pv nv cv] 40)) w2.heap.size 40 (.slice pv nv cv)) := Boxed.new w2 _ _
      refine hK.out _ _ (Tn.out.cells) (fun hHeld => ?_)
      clear hK K
      (try simp only [Act.put, List.getElem_toArray, List.getElem_cons_succ, List.getElem_cons_zero, List.setIfInBounds_toArray, List.set_cons_zero, List.set_cons_succ])
      clear T V
      have T := Tn
      have V := Vn
      clear Tn Vn
      obtain ⟨z6, hz6⟩ : ∃ z, z = w2.heap.size := ⟨_, rfl⟩
      rw [← hz6] at C6
      (try rw [← hz6])
      clear hz6
      generalize w2.alloc (.cells #[.slice pv nv cv] 40) = w3 at *
      refine wpAnyH_ready (rs := [7]) (by kernel_rfl) (by simp) ?_
      refine AllReadyH.cons rfl (fun K hK => ?_) AllReadyH.nil
      refine step_append_row (by rfl) _ _ (by rfl) (.slice vp vn vc) ⟨z6, 0, none⟩ (by rfl) (by rfl) T.out.mt.row C6.out.cell rfl T.out.gr.size HL.out.2 ?_
      intro vt2 w4 rt gt att
      have Tn : Hid (RdI w0 B0 A D Sb s m w4 va va2 (l ++ [j]) (.slice vp vn vc) vt2 (us ++ [.slice pv nv cv]) (X ++ [ys])) := T.out.app2 V.out.arr HL.out.2 rt gt
      clear rt gt att
      refine hK.out _ _ (Tn.out.cells) (fun hHeld => ?_)
      clear hK K
      (try simp only [Act.put, List.getElem_toArray, List.getElem_cons_succ, List.getElem_cons_zero, List.setIfInBounds_toArray, List.set_cons_zero, List.set_cons_succ])
      clear T V C6
      have T := Tn
      clear Tn
      refine wpAnyH_done (by kernel_rfl) ?_ _
      refine lastQ_normal ?_
      obtain ⟨ap, an, ac, rfl, ha2⟩ := T.out.ia.ivec.opened
      obtain ⟨tp, tn, tc, rfl, ht2⟩ := T.out.mt.mat.row.opened
      have kc := T.out.ba.cell
      have kf := T.out.ba.frozen
      have hal : an = l.length + 1 := by rw [ha2, SP.ints_len]; simp
      have HAL : Hid (an = l.length + 1) := hal
      clear ha2 ht2 hal
      go_wp2
      clear kc kf
      have Tn : Hid (RdI w0 B0 A D Sb s m (w4.setCell ⟨A, 0, none⟩ (.slice ap an ac)) (.slice ap an ac) (.slice ap an ac) (l ++ [j]) (.slice vp vn vc) (.slice tp tn tc) (us ++ [.slice pv nv cv]) (X ++ [ys])) := T.out.setA
      clear T
      have T := Tn
      clear Tn
      generalize w4.setCell ⟨A, 0, none⟩ (.slice ap an ac) = w8 at *
      refine lastQ_normal ?_
      have kc := T.out.bd.cell
      have kf := T.out.bd.frozen
      go_wp2_with fail
      clear kc kf
      have Tn : Hid (RdI w0 B0 A D Sb s m (w8.setCell ⟨D, 0, none⟩ (.slice tp tn tc)) (.slice ap an ac) (.slice ap an ac) (l ++ [j]) (.slice tp tn tc) (.slice tp tn tc) (us ++ [.slice pv nv cv]) (X ++ [ys])) := T.out.setD
      clear T
      have T := Tn
      clear Tn
      generalize w8.setCell ⟨D, 0, none⟩ (.slice tp tn tc) = w9 at *
      have HS9 : Hid (∀ w', w9.grownBy w' none → w'.cell? ⟨A, 0, none⟩ = some (.slice ap an ac) ∧ w'.cell? ⟨Sb, 0, none⟩ = some (ptr s) ∧ w'.cell? ⟨s, 1, none⟩ = some (.int .i64 (k : Int))) := fun w' g' => ⟨(T.out.keep g').ba.cell, (T.out.keep g').bs.cell, HK.out w' (T.out.keep g').gr⟩
      go_region_held3 (fun w' => w'.cell? ⟨A, 0, none⟩ = some (.slice ap an ac) ∧ w'.cell? ⟨Sb, 0, none⟩ = some (ptr s) ∧ w'.cell? ⟨s, 1, none⟩ = some (.int .i64 (k : Int))) (exact HS9.out _ (grown_drewN w9 1)) (fail)
      go_wp2
      go_ret
      exact ⟨by rw [HAL.out, HLL.out]; rfl, _, _, _, T.out.keep (grown_drewN w9 1)⟩
    · skip
      go_simp
      have Tn : Hid (RdI w0 B0 A D Sb s m (w1.alloc (.cells #[.slice pv nv cv] 40)) va va l (.slice vp vn vc) (.slice vp vn vc) us X) := T.out.keep (World.grownBy_alloc w1 _ none)
      have Vn : Hid (Own w0.heap.size (w1.alloc (.cells #[.slice pv nv cv] 40)) (.slice pv nv cv) ys) := V.out.keep (World.grownBy_alloc w1 _ none)
      have C6 : Hid (Boxed (w1.alloc (.cells #[.slice pv nv cv] 40)) w1.heap.size 40 (.slice pv nv cv)) := Boxed.new w1 _ _
      have Cn : Hid (Boxed (w1.alloc (.cells #[.slice pv nv cv] 40)) z2 3 (.int .i64 (j : Int))) := C2.out.alloc _
      refine hK.out _ _ (Tn.out.cells) (fun hHeld => ?_)
      clear hK K
      (try simp only [Act.put, List.getElem_toArray, List.getElem_cons_succ, List.getElem_cons_zero, List.setIfInBounds_toArray, List.set_cons_zero, List.set_cons_succ])
      clear T V C2
      have T := Tn
      have V := Vn
      clear Tn Vn
      have C2 := Cn
      clear Cn
      obtain ⟨z6, hz6⟩ : ∃ z, z = w1.heap.size := ⟨_, rfl⟩
      rw [← hz6] at C6
      (try rw [← hz6])
      clear hz6
      generalize w1.alloc (.cells #[.slice pv nv cv] 40) = w2 at *
      refine wpAnyH_ready (rs := [3]) (by kernel_rfl) (by simp) ?_
      refine AllReadyH.cons rfl (fun K hK => ?_) AllReadyH.nil
      refine step_append_int (by rfl) _ _ (by rfl) va ⟨z2, 0, none⟩ (by rfl) (by rfl) T.out.ia C2.out.cell T.out.gr.size HL.out.1 ?_
      intro va2 w3 oa ga ata
      have Tn : Hid (RdI w0 B0 A D Sb s m w3 va va2 (l ++ [j]) (.slice vp vn vc) (.slice vp vn vc) us X) := T.out.app1 oa ga
      have Vn : Hid (Own w0.heap.size w3 (.slice pv nv cv) ys) := V.out.kept ga (row_apart (by decide) V.out.row T.out.ia.row)
      have Cn : Hid (Boxed w3 z6 40 (.slice pv nv cv)) := C6.out.kept ga (C6.out.not_row (by decide) T.out.ia.row)
      clear oa ga ata
      refine hK.out _ _ (Tn.out.cells) (fun hHeld => ?_)
      clear hK K
      (try simp only [Act.put, List.getElem_toArray, List.getElem_cons_succ, List.getElem_cons_zero, List.setIfInBounds_toArray, List.set_cons_zero, List.set_cons_succ])
      clear T V C2 C6
      have T := Tn
      have V := Vn
      clear Tn Vn
      have C6 := Cn
      clear Cn
      refine wpAnyH_ready (rs := [7]) (by kernel_rfl) (by simp) ?_
      refine AllReadyH.cons rfl (fun K hK => ?_) AllReadyH.nil
      refine step_append_row (by rfl) _ _ (by rfl) (.slice vp vn vc) ⟨z6, 0, none⟩ (by rfl) (by rfl) T.out.mt.row C6.out.cell rfl T.out.gr.size HL.out.2 ?_
      intro vt2 w4 rt gt att
      have Tn : Hid (RdI w0 B0 A D Sb s m w4 va va2 (l ++ [j]) (.slice vp vn vc) vt2 (us ++ [.slice pv nv cv]) (X ++ [ys])) := T.out.app2 V.out.arr HL.out.2 rt gt
      clear rt gt att
      refine hK.out _ _ (Tn.out.cells) (fun hHeld => ?_)
      clear hK K
      (try simp only [Act.put, List.getElem_toArray, List.getElem_cons_succ, List.getElem_cons_zero, List.setIfInBounds_toArray, List.set_cons_zero, List.set_cons_succ])
      clear T V C6
      have T := Tn
      clear Tn
      refine wpAnyH_done (by kernel_rfl) ?_ _
      refine lastQ_normal ?_
      obtain ⟨ap, an, ac, rfl, ha2⟩ := T.out.ia.ivec.opened
      obtain ⟨tp, tn, tc, rfl, ht2⟩ := T.out.mt.mat.row.opened
      have kc := T.out.ba.cell
      have kf := T.out.ba.frozen
      have hal : an = l.length + 1 := by rw [ha2, SP.ints_len]; simp
      have HAL : Hid (an = l.length + 1) := hal
      clear ha2 ht2 hal
      go_wp2
      clear kc kf
      have Tn : Hid (RdI w0 B0 A D Sb s m (w4.setCell ⟨A, 0, none⟩ (.slice ap an ac)) (.slice ap an ac) (.slice ap an ac) (l ++ [j]) (.slice vp vn vc) (.slice tp tn tc) (us ++ [.slice pv nv cv]) (X ++ [ys])) := T.out.setA
      clear T
      have T := Tn
      clear Tn
      generalize w4.setCell ⟨A, 0, none⟩ (.slice ap an ac) = w8 at *
      refine lastQ_normal ?_
      have kc := T.out.bd.cell
      have kf := T.out.bd.frozen
      go_wp2_with fail
      clear kc kf
      have Tn : Hid (RdI w0 B0 A D Sb s m (w8.setCell ⟨D, 0, none⟩ (.slice tp tn tc)) (.slice ap an ac) (.slice ap an ac) (l ++ [j]) (.slice tp tn tc) (.slice tp tn tc) (us ++ [.slice pv nv cv]) (X ++ [ys])) := T.out.setD
      clear T
      have T := Tn
      clear Tn
      generalize w8.setCell ⟨D, 0, none⟩ (.slice tp tn tc) = w9 at *
      have HS9 : Hid (∀ w', w9.grownBy w' none → w'.cell? ⟨A, 0, none⟩ = some (.slice ap an ac) ∧ w'.cell? ⟨Sb, 0, none⟩ = some (ptr s) ∧ w'.cell? ⟨s, 1, none⟩ = some (.int .i64 (k : Int))) := fun w' g' => ⟨(T.out.keep g').ba.cell, (T.out.keep g').bs.cell, HK.out w' (T.out.keep g').gr⟩
      go_region_held3 (fun w' => w'.cell? ⟨A, 0, none⟩ = some (.slice ap an ac) ∧ w'.cell? ⟨Sb, 0, none⟩ = some (ptr s) ∧ w'.cell? ⟨s, 1, none⟩ = some (.int .i64 (k : Int))) (exact HS9.out _ (grown_drewN w9 1)) (fail)
      go_wp2
      go_ret
      exact ⟨by rw [HAL.out, HLL.out]; rfl, _, _, _, T.out.keep (grown_drewN w9 1)⟩
  · skip
    go_simp
    have Tn : Hid (RdI w0 B0 A D Sb s m (wd.alloc (.cells #[.slice pv nv cv] 40)) va va l (.slice vp vn vc) (.slice vp vn vc) us X) := T.out.keep (World.grownBy_alloc wd _ none)
    have Vn : Hid (Own w0.heap.size (wd.alloc (.cells #[.slice pv nv cv] 40)) (.slice pv nv cv) ys) := V.out.keep (World.grownBy_alloc wd _ none)
    have C6 : Hid (Boxed (wd.alloc (.cells #[.slice pv nv cv] 40)) wd.heap.size 40 (.slice pv nv cv)) := Boxed.new wd _ _
    refine hK.out _ _ (Tn.out.cells) (fun hHeld => ?_)
    clear hK K
    (try simp only [Act.put, List.getElem_toArray, List.getElem_cons_succ, List.getElem_cons_zero, List.setIfInBounds_toArray, List.set_cons_zero, List.set_cons_succ])
    clear T V
    have T := Tn
    have V := Vn
    clear Tn Vn
    obtain ⟨z6, hz6⟩ : ∃ z, z = wd.heap.size := ⟨_, rfl⟩
    rw [← hz6] at C6
    (try rw [← hz6])
    clear hz6
    generalize wd.alloc (.cells #[.slice pv nv cv] 40) = w1 at *
    refine wpAnyH_ready (rs := [2]) (by kernel_rfl) (by simp) ?_
    refine AllReadyH.cons rfl (fun K hK => ?_) AllReadyH.nil
    go_simp
    have Tn : Hid (RdI w0 B0 A D Sb s m (w1.alloc (.cells #[.int .i64 (j : Int)] 3)) va va l (.slice vp vn vc) (.slice vp vn vc) us X) := T.out.keep (World.grownBy_alloc w1 _ none)
    have Vn : Hid (Own w0.heap.size (w1.alloc (.cells #[.int .i64 (j : Int)] 3)) (.slice pv nv cv) ys) := V.out.keep (World.grownBy_alloc w1 _ none)
    have C2 : Hid (Boxed (w1.alloc (.cells #[.int .i64 (j : Int)] 3)) w1.heap.size 3 (.int .i64 (j : Int))) := Boxed.new w1 _ _
    have Cn : Hid (Boxed (w1.alloc (.cells #[.int .i64 (j : Int)] 3)) z6 40 (.slice pv nv cv)) := C6.out.alloc _
    refine hK.out _ _ (Tn.out.cells) (fun hHeld => ?_)
    clear hK K
    (try simp only [Act.put, List.getElem_toArray, List.getElem_cons_succ, List.getElem_cons_zero, List.setIfInBounds_toArray, List.set_cons_zero, List.set_cons_succ])
    clear T V C6
    have T := Tn
    have V := Vn
    clear Tn Vn
    have C6 := Cn
    clear Cn
    obtain ⟨z2, hz2⟩ : ∃ z, z = w1.heap.size := ⟨_, rfl⟩
    rw [← hz2] at C2
    (try rw [← hz2])
    clear hz2
    generalize w1.alloc (.cells #[.int .i64 (j : Int)] 3) = w2 at *
    refine wpAnyH_ready (rs := [3]) (by kernel_rfl) (by simp) ?_
    refine AllReadyH.cons rfl (fun K hK => ?_) AllReadyH.nil
    refine step_append_int (by rfl) _ _ (by rfl) va ⟨z2, 0, none⟩ (by rfl) (by rfl) T.out.ia C2.out.cell T.out.gr.size HL.out.1 ?_
    intro va2 w3 oa ga ata
    have Tn : Hid (RdI w0 B0 A D Sb s m w3 va va2 (l ++ [j]) (.slice vp vn vc) (.slice vp vn vc) us X) := T.out.app1 oa ga
    have Vn : Hid (Own w0.heap.size w3 (.slice pv nv cv) ys) := V.out.kept ga (row_apart (by decide) V.out.row T.out.ia.row)
    have Cn : Hid (Boxed w3 z6 40 (.slice pv nv cv)) := C6.out.kept ga (C6.out.not_row (by decide) T.out.ia.row)
    clear oa ga ata
    refine hK.out _ _ (Tn.out.cells) (fun hHeld => ?_)
    clear hK K
    (try simp only [Act.put, List.getElem_toArray, List.getElem_cons_succ, List.getElem_cons_zero, List.setIfInBounds_toArray, List.set_cons_zero, List.set_cons_succ])
    clear T V C2 C6
    have T := Tn
    have V := Vn
    clear Tn Vn
    have C6 := Cn
    clear Cn
    refine wpAnyH_ready (rs := [7]) (by kernel_rfl) (by simp) ?_
    refine AllReadyH.cons rfl (fun K hK => ?_) AllReadyH.nil
    refine step_append_row (by rfl) _ _ (by rfl) (.slice vp vn vc) ⟨z6, 0, none⟩ (by rfl) (by rfl) T.out.mt.row C6.out.cell rfl T.out.gr.size HL.out.2 ?_
    intro vt2 w4 rt gt att
    have Tn : Hid (RdI w0 B0 A D Sb s m w4 va va2 (l ++ [j]) (.slice vp vn vc) vt2 (us ++ [.slice pv nv cv]) (X ++ [ys])) := T.out.app2 V.out.arr HL.out.2 rt gt
    clear rt gt att
    refine hK.out _ _ (Tn.out.cells) (fun hHeld => ?_)
    clear hK K
    (try simp only [Act.put, List.getElem_toArray, List.getElem_cons_succ, List.getElem_cons_zero, List.setIfInBounds_toArray, List.set_cons_zero, List.set_cons_succ])
    clear T V C6
    have T := Tn
    clear Tn
    refine wpAnyH_done (by kernel_rfl) ?_ _
    refine lastQ_normal ?_
    obtain ⟨ap, an, ac, rfl, ha2⟩ := T.out.ia.ivec.opened
    obtain ⟨tp, tn, tc, rfl, ht2⟩ := T.out.mt.mat.row.opened
    have kc := T.out.ba.cell
    have kf := T.out.ba.frozen
    have hal : an = l.length + 1 := by rw [ha2, SP.ints_len]; simp
    have HAL : Hid (an = l.length + 1) := hal
    clear ha2 ht2 hal
    go_wp2
    clear kc kf
    have Tn : Hid (RdI w0 B0 A D Sb s m (w4.setCell ⟨A, 0, none⟩ (.slice ap an ac)) (.slice ap an ac) (.slice ap an ac) (l ++ [j]) (.slice vp vn vc) (.slice tp tn tc) (us ++ [.slice pv nv cv]) (X ++ [ys])) := T.out.setA
    clear T
    have T := Tn
    clear Tn
    generalize w4.setCell ⟨A, 0, none⟩ (.slice ap an ac) = w8 at *
    refine lastQ_normal ?_
    have kc := T.out.bd.cell
    have kf := T.out.bd.frozen
    go_wp2_with fail
    clear kc kf
    have Tn : Hid (RdI w0 B0 A D Sb s m (w8.setCell ⟨D, 0, none⟩ (.slice tp tn tc)) (.slice ap an ac) (.slice ap an ac) (l ++ [j]) (.slice tp tn tc) (.slice tp tn tc) (us ++ [.slice pv nv cv]) (X ++ [ys])) := T.out.setD
    clear T
    have T := Tn
    clear Tn
    generalize w8.setCell ⟨D, 0, none⟩ (.slice tp tn tc) = w9 at *
    have HS9 : Hid (∀ w', w9.grownBy w' none → w'.cell? ⟨A, 0, none⟩ = some (.slice ap an ac) ∧ w'.cell? ⟨Sb, 0, none⟩ = some (ptr s) ∧ w'.cell? ⟨s, 1, none⟩ = some (.int .i64 (k : Int))) := fun w' g' => ⟨(T.out.keep g').ba.cell, (T.out.keep g').bs.cell, HK.out w' (T.out.keep g').gr⟩
    go_region_held3 (fun w' => w'.cell? ⟨A, 0, none⟩ = some (.slice ap an ac) ∧ w'.cell? ⟨Sb, 0, none⟩ = some (ptr s) ∧ w'.cell? ⟨s, 1, none⟩ = some (.int .i64 (k : Int))) (exact HS9.out _ (grown_drewN w9 1)) (fail)
    go_wp2
    go_ret
    exact ⟨by rw [HAL.out, HLL.out]; rfl, _, _, _, T.out.keep (grown_drewN w9 1)⟩
end
end Go.Proofs.YtfjlpifaaknmpaaGreat

/- slices.Grow of none, and slices.Concat. -/
set_option linter.unusedSimpArgs false
set_option linter.unusedVariables false
set_option maxRecDepth 100000
namespace Go.Proofs.YtfjlpifaaknmpaaGreat
open Go.RowKit

theorem Tryz.underI : Tryz.prog.underlying 3 = some (.int .i64) := by kernel_rfl
theorem run_zeros (w : World) {n : Nat} (h0 : 0 < n) (hn : n ≤ 1000000) (ty : TypeId) : ∃ w' C, (Builtin.append_ #[40, 3] ty #[.slice none 0 0, .int .i64 (n : Int)]).run Tryz.prog w = .ok (.slice (some ⟨w.heap.size, 0, none⟩) n C) w' ∧ Own w.heap.size w' (.slice (some ⟨w.heap.size, 0, none⟩) 0 C) [] ∧ w.grownBy w' none ∧ n ≤ C := by
  obtain ⟨i0, hi, hz0, hz1, hz2⟩ := info_parts Tryz.info5
  have hr := Lib.run_append_nil_zeros (P := Tryz.prog) w 40 3 ty 5 i0 (.int .u8 0) .i64 .i64 Tryz.underlying40 Tryz.underI hi hz0 n h0 (by rw [hz1]; decide) (by omega) (by rw [hz2]; omega)
  have h1 := grownCap_ge w n 0 5
  have h2 := grownCap_le_maxLen w n 0 5 (by unfold maxLen; omega)
  refine ⟨_, _, hr, ⟨by simp, by simp, ⟨by simp, .inr ⟨w.heap.size, _, _, rfl, Nat.le_refl _, heap_alloc_new w.drew _, Nat.zero_le _, h2, ?_, by simp⟩⟩⟩, gb_alloc (gb_drew (World.grownBy.refl _ _)) _, h1⟩
  simp [Builtin.zeroCells, Value.cells]
  omega

set_option maxHeartbeats 1600000 in
theorem grow_none (w : World) {n : Nat} (h0 : 0 < n) (hn : n ≤ 1000000) : Calls Tryz.prog 108 #[.slice none 0 0, .int .i64 (n : Int)] w fun e w' => ∃ v, e = .returned v ∧ Own w.heap.size w' v [] ∧ w.grownBy w' none := by
  have i1 : ¬ (n : Int) < 0 := by omega
  have i2 : (0 : Int) < (n : Int) := by omega
  have i3 : IntKind.i64.wrap (n : Int) = (n : Int) := IntWalk.i64_in _ (by omega)
  have HR : Hid (∀ ty, ∃ w' C, (Builtin.append_ #[40, 3] ty #[.slice none 0 0, .int .i64 (n : Int)]).run Tryz.prog w = .ok (.slice (some ⟨w.heap.size, 0, none⟩) n C) w' ∧ Own w.heap.size w' (.slice (some ⟨w.heap.size, 0, none⟩) 0 C) [] ∧ w.grownBy w' none ∧ n ≤ C) := fun ty => run_zeros w h0 hn ty
  clear h0 hn
  go_enter Tryz.func108, Tryz.ntmps108
  go_wp2_with (at_builtin; obtain ⟨w1, C, hr, ho, hg, hC⟩ := HR.out _; refine Lib.wpList_append_run _ rfl _ _ _ _ rfl _ _ rfl rfl _ _ hr ?_; have O1 : Hid (Own w.heap.size w1 (.slice (some ⟨w.heap.size, 0, none⟩) 0 C) []) := ho; have G1 : Hid (w.grownBy w1 none) := hg; have hC0 : ¬ C = 0 := (by omega); clear hr ho hg hC)
  go_ret
  exact ⟨_, rfl, O1.out, G1.out⟩

theorem take_flat {X : List (List Nat)} {j : Nat} (h : j < X.length) : (X.take (j + 1)).flatten = (X.take j).flatten ++ X.getD j [] := by
  rw [List.take_succ_eq_append_getElem h, List.flatten_append]
  simp [List.getD, h]
theorem flat_len {X : List (List Nat)} (h : ∀ j, j < X.length → (X.getD j []).length = 448) : ∀ j, j ≤ X.length → ((X.take j).flatten).length = 448 * j
  | 0, _ => by simp
  | j + 1, hj => by
    rw [take_flat (by omega), List.length_append, flat_len h j (by omega), h j (by omega)]
    omega

set_option maxHeartbeats 3200000 in
theorem concat_yes {w : World} {r : Value} {us : List Value} {X : List (List Nat)} (mr : Mat w r us X) (h1 : 1 ≤ X.length) (h2 : X.length ≤ 255) (hl : ∀ j, j < X.length → (X.getD j []).length = 448) :
    Calls Tryz.prog 58 #[r] w fun e w' => ∃ v, e = .returned v ∧ Own w.heap.size w' v X.flatten ∧ w.grownBy w' none := by
  obtain ⟨q, N, cap, rfl, hN⟩ := mr.row.opened
  have hs := mr.same
  have hNl : N ≤ 255 := by omega
  have MR : Hid (Mat w (.slice q N cap) us X) := mr
  have HN : Hid (N = us.length ∧ N = X.length ∧ 1 ≤ N ∧ N ≤ 255 ∧ ∀ j, j < X.length → (X.getD j []).length = 448) := ⟨hN, by omega, by omega, by omega, hl⟩
  clear mr hN hs h1 h2 hl
  go_enter Tryz.func58, Tryz.ntmps58
  go_wp2_with fail
  go_loopw [3, 11] (fun ts ti wr => ∃ j : Nat, j ≤ N ∧ ts = .int .i64 ((448 * j : Nat) : Int) ∧ ti = .int .i64 j ∧ Hid (w.grownBy wr none)) (fun _ ti _ => N - (intOf ti).toNat)
  case atStart => exact ⟨0, by omega, rfl, rfl, World.grownBy.refl _ _⟩
  case round =>
    obtain ⟨j, hj, rfl, rfl, GK⟩ := hrel
    by_cases hlt : j < N
    · have i3 : (j : Int) < (N : Int) := by omega
      have i4 : (0 : Int) ≤ (j : Int) := by omega
      obtain ⟨b, off, rfl, hr⟩ := (MR.out.keep GK.out).row.spot (k := j) (by have := HN.out; omega)
      obtain ⟨pk, nk, ck, ek, hnk⟩ := ((MR.out.keep GK.out).vec j (by have := HN.out; omega)).opened
      have hn448 : nk = 448 := by rw [hnk]; exact HN.out.2.2.2.2 j (by have := HN.out; omega)
      subst hn448
      rw [ek] at hr
      have hw : IntKind.i64.wrap (((448 * j : Nat) : Int) + 448) = ((448 * (j + 1) : Nat) : Int) := by
        have e : ((448 * j : Nat) : Int) + 448 = ((448 * (j + 1) : Nat) : Int) := by omega
        rw [e]
        exact IntWalk.i64_in _ (by omega)
      obtain ⟨t, ht⟩ : ∃ t, t = 448 * (j + 1) := ⟨_, rfl⟩
      rw [← ht] at hw
      have i5 : ¬ (t : Int) < 0 := by omega
      have HT : Hid (t = 448 * (j + 1)) := ht
      obtain ⟨t0, ht0⟩ : ∃ t0, t0 = 448 * j := ⟨_, rfl⟩
      rw [← ht0] at hw ⊢
      clear ek hnk ht ht0
      go_wp2
      go_roundw
      case rel => exact ⟨j + 1, by omega, by rw [HT.out], by go_num, GK⟩
      case measure => simp [intOf]; omega
    · have i3 : ¬ (j : Int) < (N : Int) := by omega
      have hjN : j = N := by omega
      obtain ⟨t, ht⟩ : ∃ t, t = 448 * j := ⟨_, rfl⟩
      rw [← ht]
      have GR : Hid (Calls Tryz.prog 108 #[.slice none 0 0, .int .i64 (t : Int)] wr fun e w' => ∃ v, e = .returned v ∧ Own wr.heap.size w' v [] ∧ wr.grownBy w' none) := grow_none wr (by have := HN.out; omega) (by have := HN.out; omega)
      clear ht hjN
      go_wp2_with (first
        | (go_at_call 108; refine GR.out.mono ?_; rintro e w1 ⟨v, rfl, o1, g1⟩; have O1 : Hid (Own w.heap.size w1 v []) := o1.down GK.out.size; have G1 : Hid (w.grownBy w1 none) := grown_trans GK.out g1; clear o1 g1)
        | fail)
      clear GR GK
      go_loopw [6, 27] (fun tv ti wr => ∃ j : Nat, j ≤ N ∧ ti = .int .i64 j ∧ Hid (Own w.heap.size wr tv (X.take j).flatten) ∧ Hid (w.grownBy wr none)) (fun _ ti _ => N - (intOf ti).toNat)
      case atStart => exact ⟨0, by omega, rfl, O1, G1⟩
      case round =>
        clear O1 G1
        obtain ⟨k, hk, rfl, OK, GK⟩ := hrel
        by_cases hlt2 : k < N
        · have i6 : (k : Int) < (N : Int) := by omega
          have i7 : (0 : Int) ≤ (k : Int) := by omega
          obtain ⟨b, off, rfl, hr⟩ := (MR.out.keep GK.out).row.spot (k := k) (by have := HN.out; omega)
          obtain ⟨pk, nk, ck, ek, hnk⟩ := ((MR.out.keep GK.out).vec k (by have := HN.out; omega)).opened
          have VX : Hid (Vec wr (.slice pk nk ck) (X.getD k [])) := by rw [← ek]; exact (MR.out.keep GK.out).vec k (by have := HN.out; omega)
          rw [ek] at hr
          have HL : Hid ((X.take k).flatten.length + (X.getD k []).length ≤ 140737488351232) := by
            show _ ≤ _
            rw [flat_len HN.out.2.2.2.2 k (by have := HN.out; omega), HN.out.2.2.2.2 k (by have := HN.out; omega)]
            have := HN.out
            omega
          have HF : Hid ((X.take (k + 1)).flatten = (X.take k).flatten ++ X.getD k []) := take_flat (by have := HN.out; omega)
          obtain ⟨dp, dn, dc, rfl, hd0⟩ := OK.out.vec.opened
          clear ek hnk hd0
          generalize (X.take k).flatten = FX at *
          generalize X.getD k [] = XK at *
          go_wp2_with (at_builtin; refine wpList_append_vec rfl _ _ rfl _ _ rfl rfl OK.out VX.out GK.out.size HL.out ?_; intro v2 w2 o2 g2; have O2 : Hid (Own w.heap.size w2 v2 (FX ++ XK)) := o2; have G2 : Hid (w.grownBy w2 none) := grown_new GK.out g2 (fun i e => OK.out.lo i e); clear o2 g2)
          go_roundw
          case rel => exact ⟨k + 1, by omega, by go_num, by rw [HF.out]; exact O2, G2⟩
          case measure => simp [intOf]; omega
        · have i6 : ¬ (k : Int) < (N : Int) := by omega
          have HX : Hid ((X.take k).flatten = X.flatten) := by
            show _ = _
            rw [List.take_of_length_le (by have := HN.out; omega)]
          go_wp2
          go_ret
          exact ⟨_, rfl, by rw [← HX.out]; exact OK.out, GK.out⟩
end Go.Proofs.YtfjlpifaaknmpaaGreat

