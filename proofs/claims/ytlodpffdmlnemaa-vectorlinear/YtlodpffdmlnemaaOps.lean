/- Contracts of vector.AddTo, MulAdd, Scale, Dot. -/
import Derived.Test.YtlodpffdmlnemaaTold
import Derived.Laws.CopyOwn
import Derived.Deep.RegionHeld3
import Derived.Deep.DrawnRows
namespace Go.Proofs.Ytlodpffdmlnemaa
open Go.RowKit

theorem Try.size5 : (Try.prog.info? 5).map (·.size) = some 1 := by kernel_rfl

/-- A whole vector over another of its length. -/
theorem run_copy_vec {B : Nat} {w : World} {d s : Value} {xs ys : List Nat} (hd : Own B w d xs) (hs : Vec w s ys) (hl : ys.length = xs.length) (ty : TypeId) :
    ∃ w', (Builtin.copy_ #[22, 22] ty #[d, s]).run Try.prog w = .ok (goInt xs.length) w' ∧ Own B w' d ys ∧ w.grownBy w' d.ownBlock := by
  obtain ⟨s1, s2, p, cap, rfl, s3, s4, s5⟩ := hs
  by_cases hx : xs = []
  · subst hx
    have : ys = [] := List.eq_nil_of_length_eq_zero hl
    subst this
    obtain ⟨p', c', rfl, _⟩ := hd.vec.form
    refine ⟨w, run_copy_none (P := Try.prog) w 22 22 ty 5 p' p 0 c' 0 cap Try.underlying22 Try.size5 (by simp), hd, World.grownBy.refl _ _⟩
  · have hy : ys ≠ [] := fun e => hx (List.eq_nil_of_length_eq_zero (by rw [← hl, e]; rfl))
    obtain ⟨b, off, rfl, hc⟩ := s5 hy
    rcases hd.row.2 with ⟨rfl, hn⟩ | ⟨g, dcap, cur, rfl, hb, hg, hcc, hm, hcs, ht⟩
    · exact absurd (List.eq_nil_of_length_eq_zero hn) hx
    · have hr := run_copy_row (P := Try.prog) w 22 22 ty 5 g 0 xs.length dcap ⟨b, off, none⟩ ys.length cap cur 5 (ys.map bv) Try.underlying22 Try.size5 hg (by rw [List.length_map, hl]; simp)
        (fun j v hj => by
          have hj' : j < ys.length := by
            have := (List.getElem?_eq_some_iff.1 hj).1
            simpa using this
          rw [getD_map_bv ys j hj'] at hj
          rw [add_off, hc j hj']; exact hj) (by simp; omega) (fun v hv => by obtain ⟨x, _, rfl⟩ := List.mem_map.1 hv; rfl)
      refine ⟨w.setRow g (ys.map bv ++ cur.toList.drop xs.length).toArray, by rw [hr]; simp [hl], ⟨s1, s2, by simp, .inr ⟨g, dcap, _, by rw [hl], hb, setRow_heap w g cur _ 5 _ hg, by omega, hm, ?_, ?_⟩⟩, ⟨rfl, rfl, rfl, by simp, fun k _ hk => setRow_other w g k _ (fun e => hk (by simp [Value.ownBlock, e]))⟩⟩
      · simp; omega
      · simp

theorem step_copy_vec {ops : Array Oper} {o : Oper} {a : Act} {w : World} {K : Act → World → Prop} {Q : Exit → Act → World → Prop} {E : Prop} (hgd : o.guard = none) (d s : Operand)
    (ho : o.op = .call { callee := .builtin .copy, args := #[d, s], argTypes := #[22, 22] }) (dv sv : Value) (hed : a.eval d = dv) (hes : a.eval s = sv)
    {B : Nat} {xs ys : List Nat} (hd : Own B w dv xs) (hs : Vec w sv ys) (hl : ys.length = xs.length)
    (h : ∀ w', Own B w' dv ys → w.grownBy w' dv.ownBlock → K (a.put o.dst (goInt xs.length)) w') :
    if Region.wanted o (yielded ops a.tmps) = true then Oper.wp Try.prog o a w K Q else E := by
  have hw : Region.wanted o (yielded ops a.tmps) = true := by simp [Region.wanted, hgd]
  rw [if_pos hw]
  obtain ⟨w', hrun, h1, h2⟩ := run_copy_vec hd hs hl o.type
  unfold Oper.wp
  simp [execOp, ho, resolve, invoke, builtin, hed, hes, hrun, Result.andThen]
  exact h _ h1 h2

theorem enters23 : ∀ args w, (callFunc 23 args).run Try.prog w = .ok (.enter 23 args) w := by
  intro args w
  simp [go_sem, callFunc, Try.func23, Try.f23]

theorem told_add {w : World} {bd bs : Nat} {d s : Value} {xs ys : List Nat} (hd : w.cell? ⟨bd, 0, none⟩ = some d) (hs : w.cell? ⟨bs, 0, none⟩ = some s)
    (vd : Vec w d xs) (vs : Vec w s ys) (hl : ys.length = xs.length) :
    Told 23 #[.pointer (some ⟨bd, 0, none⟩), .pointer (some ⟨bs, 0, none⟩)] xs.length (fun k => xs.getD k 0 ^^^ ys.getD k 0) w :=
  ⟨enters23, fun k hk w' g => (addTo1_any k bd bs d s xs ys w' (g.cell hd (by simp)) (g.cell hs (by simp)) (vd.keep g) (vs.keep g) hk (by omega)).mono fun _ _ ⟨h1, m, h2⟩ => ⟨h1, by rw [h2]; exact grown_drewN _ _⟩⟩

theorem Vec.opened {w : World} {v : Value} {xs : List Nat} (h : Vec w v xs) : ∃ p n cap, v = .slice p n cap ∧ n = xs.length := by
  obtain ⟨p, cap, e, _⟩ := h.form
  exact ⟨p, _, cap, e, rfl⟩

theorem cell_box1 (w : World) (v u : Value) (t t' : TypeId) : ((w.alloc (.cells #[v] t)).alloc (.cells #[u] t')).cell? ⟨w.heap.size, 0, none⟩ = some v := by simp [go_sem]
theorem cell_box2 (w : World) (v u : Value) (t t' : TypeId) : ((w.alloc (.cells #[v] t)).alloc (.cells #[u] t')).cell? ⟨w.heap.size + 1, 0, none⟩ = some u := by simp [go_sem]

theorem xor_small {xs ys : List Nat} (hx : ∀ x ∈ xs, x < 256) (hy : ∀ x ∈ ys, x < 256) (j : Nat) : xs.getD j 0 ^^^ ys.getD j 0 < 256 := by
  have h : ∀ (l : List Nat), (∀ x ∈ l, x < 256) → l.getD j 0 < 256 := fun l hl => by
    by_cases hj : j < l.length
    · exact hl _ (by simp [List.getD, hj])
    · simp [List.getD, hj]
  exact M.xor_lt (h xs hx) (h ys hy)

set_option maxHeartbeats 800000 in
theorem addTo_any {B : Nat} {w : World} {d s : Value} {xs ys : List Nat} (hd : Own B w d xs) (hs : Vec w s ys) (hl : ys.length = xs.length) :
    Calls Try.prog 10 #[d, s] w fun e w' => e = .returned (.int .i64 0) ∧ Own B w' d ((List.range xs.length).map fun k => xs.getD k 0 ^^^ ys.getD k 0) ∧ w.grownBy w' d.ownBlock := by
  obtain ⟨p, n, c, rfl, hn⟩ := hd.vec.opened
  obtain ⟨q, n', c', rfl, hn'⟩ := hs.opened
  have hfit : ((n : Int) == (n' : Int)) = true := by simp [hn, hn', hl]
  have HN : Hid (n = xs.length ∧ ys.length = xs.length) := ⟨hn, hl⟩
  clear hl hn hn'
  go_enter Try.func10, Try.ntmps10
  go_wp2_with (go_at_call 21; refine (fit_any _ _ _ _ _ _ _).mono ?_; rintro e w2 ⟨rfl, hw⟩; obtain rfl := hw.symm; clear hw)
  have G0 : w.grownBy ((w.alloc (.cells #[.slice p n c] 22)).alloc (.cells #[.slice q n' c'] 22)) none := grown_trans (World.grownBy_alloc w _ none) (World.grownBy_alloc _ _ none)
  have C1 := cell_box1 w (.slice p n c) (.slice q n' c') 22 22
  have C2 := cell_box2 w (.slice p n c) (.slice q n' c') 22 22
  generalize (w.alloc (.cells #[.slice p n c] 22)).alloc (.cells #[.slice q n' c'] 22) = W at *
  have HT : ∀ w', W.grownBy w' none → Told 23 #[.pointer (some ⟨w.heap.size, 0, none⟩), .pointer (some ⟨w.heap.size + 1, 0, none⟩)] n (fun k => xs.getD k 0 ^^^ ys.getD k 0) w' := by
    intro w' g
    have hh := HN.out
    rw [hh.1]
    exact told_add (g.cell C1 (by simp)) (g.cell C2 (by simp)) ((hd.vec.keep G0).keep g) ((hs.keep G0).keep g) hh.2
  have HL : Hid (n ≤ 140737488351232) := by rw [HN.out.1]; exact hd.len
  have HS : Hid (∀ j, j < n → xs.getD j 0 ^^^ ys.getD j 0 < 256) := fun j _ => xor_small hd.small hs.small j
  have HX : ∀ w1 w2, (W.drewN 1).grownBy w1 none → w1.grownBy w2 (Value.slice p n c).ownBlock → w2.cell? ⟨w.heap.size, 0, none⟩ = some (.slice p n c) := by
    intro w1 w2 h1 h2
    refine h2.cell (h1.cell C1 (by simp)) fun e => ?_
    have := hd.hi _ e.symm
    simp at this
  go_region_held3 (fun w' => w'.cell? ⟨w.heap.size, 0, none⟩ = some (.slice p n c)) (first | exact C1 | exact hg.cell C1 (by simp) | exact HX _ _ hg hg2)
    (first
      | (go_at_call 22; refine (list_any 23 _ n (fun k => xs.getD k 0 ^^^ ys.getD k 0) _ HL.out HS.out (HT _ (grown_drewN W 1))).mono ?_; rintro e w1 ⟨v, rfl, ho, hg⟩)
      | (refine step_copy_vec (by rfl) _ _ (by rfl) _ _ (by rfl) (by rfl) (xs := xs) ((hd.keep G0).keep (grown_trans (grown_drewN W 1) hg)) ho.vec (by simp [HN.out.1]) ?_; intro w2 ho2 hg2))
  have R : Hid (Own B w2 (.slice p n c) ((List.range xs.length).map fun k => xs.getD k 0 ^^^ ys.getD k 0) ∧ w.grownBy w2 (Value.slice p n c).ownBlock) :=
    ⟨by rw [← HN.out.1]; exact ho2, grown_trans (grown_any (grown_trans G0 (grown_trans (grown_drewN W 1) hg)) _) hg2⟩
  clear ho ho2 hg hg2 HT HX HS
  go_wp2
  go_ret
  exact ⟨rfl, R.out.1, R.out.2⟩

theorem addTo_no {w : World} {d s : Value} {xs ys : List Nat} (hd : Vec w d xs) (hs : Vec w s ys) (hl : ys.length ≠ xs.length) :
    Calls Try.prog 10 #[d, s] w fun e w' => e = .returned (.int .i64 1) ∧ w.grownBy w' none := by
  obtain ⟨p, n, c, rfl, hn⟩ := hd.opened
  obtain ⟨q, n', c', rfl, hn'⟩ := hs.opened
  have hfit : ((n : Int) == (n' : Int)) = false := by simp [hn, hn']; omega
  clear hl hn hn'
  go_enter Try.func10, Try.ntmps10
  go_wp2_with (go_at_call 21; refine (fit_any _ _ _ _ _ _ _).mono ?_; rintro e w2 ⟨rfl, hw⟩; obtain rfl := hw.symm; clear hw)
  go_ret
  exact ⟨rfl, grown_trans (World.grownBy_alloc w _ none) (World.grownBy_alloc _ _ none)⟩

def vadd (xs ys : List Nat) : List Nat := (List.range xs.length).map fun k => xs.getD k 0 ^^^ ys.getD k 0
def vmad (xs ys : List Nat) (c : Nat) : List Nat := (List.range xs.length).map fun k => xs.getD k 0 ^^^ M.mul c (ys.getD k 0)
def vscale (c : Nat) (xs : List Nat) : List Nat := (List.range xs.length).map fun k => M.mul c (xs.getD k 0)
def vdot (xs ys : List Nat) : Nat := xsum (fun k => M.mul (xs.getD k 0) (ys.getD k 0)) xs.length

theorem addTo_yes {B : Nat} {w : World} {d s : Value} {xs ys : List Nat} (hd : Own B w d xs) (hs : Vec w s ys) (hl : ys.length = xs.length) :
    Calls Try.prog 10 #[d, s] w fun e w' => e = .returned (.int .i64 0) ∧ Own B w' d (vadd xs ys) ∧ w.grownBy w' d.ownBlock := addTo_any hd hs hl

theorem getD_small {xs : List Nat} (hx : ∀ x ∈ xs, x < 256) (j : Nat) : xs.getD j 0 < 256 := by
  by_cases hj : j < xs.length
  · exact hx _ (by simp [List.getD, hj])
  · simp [List.getD, hj]

theorem enters25 : ∀ args w, (callFunc 25 args).run Try.prog w = .ok (.enter 25 args) w := by
  intro args w
  simp [go_sem, callFunc, Try.func25, Try.f25]
theorem enters28 : ∀ args w, (callFunc 28 args).run Try.prog w = .ok (.enter 28 args) w := by
  intro args w
  simp [go_sem, callFunc, Try.func28, Try.f28]
theorem enters30 : ∀ args w, (callFunc 30 args).run Try.prog w = .ok (.enter 30 args) w := by
  intro args w
  simp [go_sem, callFunc, Try.func30, Try.f30]

theorem cell_box31 (w : World) (v u x : Value) (t t' t'' : TypeId) : (((w.alloc (.cells #[v] t)).alloc (.cells #[u] t')).alloc (.cells #[x] t'')).cell? ⟨w.heap.size, 0, none⟩ = some v := by simp [go_sem]
theorem cell_box32 (w : World) (v u x : Value) (t t' t'' : TypeId) : (((w.alloc (.cells #[v] t)).alloc (.cells #[u] t')).alloc (.cells #[x] t'')).cell? ⟨w.heap.size + 1, 0, none⟩ = some u := by simp [go_sem]
theorem cell_box33 (w : World) (v u x : Value) (t t' t'' : TypeId) : (((w.alloc (.cells #[v] t)).alloc (.cells #[u] t')).alloc (.cells #[x] t'')).cell? ⟨w.heap.size + 2, 0, none⟩ = some x := by simp [go_sem]

set_option maxHeartbeats 800000 in
theorem mulAdd_nat {B : Nat} {w : World} {d s : Value} {xs ys : List Nat} {c : Nat} (h256 : c < 256) (hd : Own B w d xs) (hs : Vec w s ys) (hl : ys.length = xs.length) :
    Calls Try.prog 11 #[d, s, .int .u8 (c : Int)] w fun e w' => e = .returned (.int .i64 0) ∧ Own B w' d (vmad xs ys c) ∧ w.grownBy w' d.ownBlock := by
  obtain ⟨p, n, cp, rfl, hn⟩ := hd.vec.opened
  obtain ⟨q, n', cp', rfl, hn'⟩ := hs.opened
  have hfit : ((n : Int) == (n' : Int)) = true := by simp [hn, hn', hl]
  have HN : Hid (n = xs.length ∧ ys.length = xs.length) := ⟨hn, hl⟩
  clear hl hn hn'
  go_enter Try.func11, Try.ntmps11
  go_wp2_with (go_at_call 21; refine (fit_any _ _ _ _ _ _ _).mono ?_; rintro e w2 ⟨rfl, hw⟩; obtain rfl := hw.symm; clear hw)
  have G0 : w.grownBy (((w.alloc (.cells #[.slice p n cp] 22)).alloc (.cells #[.slice q n' cp'] 22)).alloc (.cells #[.int .u8 (c : Int)] 5)) none := grown_trans (grown_trans (World.grownBy_alloc w _ none) (World.grownBy_alloc _ _ none)) (World.grownBy_alloc _ _ none)
  have C1 := cell_box31 w (.slice p n cp) (.slice q n' cp') (.int .u8 (c : Int)) 22 22 5
  have C2 := cell_box32 w (.slice p n cp) (.slice q n' cp') (.int .u8 (c : Int)) 22 22 5
  have C3 := cell_box33 w (.slice p n cp) (.slice q n' cp') (.int .u8 (c : Int)) 22 22 5
  generalize ((w.alloc (.cells #[.slice p n cp] 22)).alloc (.cells #[.slice q n' cp'] 22)).alloc (.cells #[.int .u8 (c : Int)] 5) = W at *
  have HT : ∀ w', W.grownBy w' none → Told 25 #[.pointer (some ⟨w.heap.size, 0, none⟩), .pointer (some ⟨w.heap.size + 2, 0, none⟩), .pointer (some ⟨w.heap.size + 1, 0, none⟩)] n (fun k => xs.getD k 0 ^^^ M.mul c (ys.getD k 0)) w' := by
    intro w' g
    have hh := HN.out
    rw [hh.1]
    exact ⟨enters25, fun k hk w2 g2 => (mulAdd1_any k _ _ _ _ _ c xs ys w2 ((grown_trans g g2).cell C1 (by simp)) ((grown_trans g g2).cell C3 (by simp)) ((grown_trans g g2).cell C2 (by simp)) h256
      ((hd.vec.keep G0).keep (grown_trans g g2)) ((hs.keep G0).keep (grown_trans g g2)) hk (by omega)).mono fun _ _ ⟨h1, m, h2⟩ => ⟨h1, by rw [h2]; exact grown_drewN _ _⟩⟩
  have HL : Hid (n ≤ 140737488351232) := by rw [HN.out.1]; exact hd.len
  have HS : Hid (∀ j, j < n → xs.getD j 0 ^^^ M.mul c (ys.getD j 0) < 256) := fun j _ => M.xor_lt (getD_small hd.small j) (M.mul_lt _ h256)
  have HX : ∀ w1 w2, (W.drewN 1).grownBy w1 none → w1.grownBy w2 (Value.slice p n cp).ownBlock → w2.cell? ⟨w.heap.size, 0, none⟩ = some (.slice p n cp) := by
    intro w1 w2 h1 h2
    refine h2.cell (h1.cell C1 (by simp)) fun e => ?_
    have := hd.hi _ e.symm
    simp at this
  go_region_held3 (fun w' => w'.cell? ⟨w.heap.size, 0, none⟩ = some (.slice p n cp)) (first | exact C1 | exact hg.cell C1 (by simp) | exact HX _ _ hg hg2)
    (first
      | (go_at_call 22; refine (list_any 25 _ n (fun k => xs.getD k 0 ^^^ M.mul c (ys.getD k 0)) _ HL.out HS.out (HT _ (grown_drewN W 1))).mono ?_; rintro e w1 ⟨v, rfl, ho, hg⟩)
      | (refine step_copy_vec (by rfl) _ _ (by rfl) _ _ (by rfl) (by rfl) (xs := xs) ((hd.keep G0).keep (grown_trans (grown_drewN W 1) hg)) ho.vec (by simp [HN.out.1]) ?_; intro w2 ho2 hg2))
  have R : Hid (Own B w2 (.slice p n cp) (vmad xs ys c) ∧ w.grownBy w2 (Value.slice p n cp).ownBlock) :=
    ⟨by unfold vmad; rw [← HN.out.1]; exact ho2, grown_trans (grown_any (grown_trans G0 (grown_trans (grown_drewN W 1) hg)) _) hg2⟩
  clear ho ho2 hg hg2 HT HX HS
  go_wp2
  go_ret
  exact ⟨rfl, R.out.1, R.out.2⟩

theorem mulAdd_yes {B : Nat} {w : World} {d s : Value} {xs ys : List Nat} {c : Int} (h0 : 0 ≤ c) (h256 : c < 256) (hd : Own B w d xs) (hs : Vec w s ys) (hl : ys.length = xs.length) :
    Calls Try.prog 11 #[d, s, .int .u8 c] w fun e w' => e = .returned (.int .i64 0) ∧ Own B w' d (vmad xs ys c.toNat) ∧ w.grownBy w' d.ownBlock := by
  obtain ⟨m, rfl⟩ := Int.eq_ofNat_of_zero_le h0
  exact mulAdd_nat (by omega) hd hs hl

theorem mulAdd_no {w : World} {d s : Value} {xs ys : List Nat} {c : Int} (hd : Vec w d xs) (hs : Vec w s ys) (hl : ys.length ≠ xs.length) :
    Calls Try.prog 11 #[d, s, .int .u8 c] w fun e w' => e = .returned (.int .i64 1) ∧ w.grownBy w' none := by
  obtain ⟨p, n, cp, rfl, hn⟩ := hd.opened
  obtain ⟨q, n', cp', rfl, hn'⟩ := hs.opened
  have hfit : ((n : Int) == (n' : Int)) = false := by simp [hn, hn']; omega
  clear hl hn hn'
  go_enter Try.func11, Try.ntmps11
  go_wp2_with (go_at_call 21; refine (fit_any _ _ _ _ _ _ _).mono ?_; rintro e w2 ⟨rfl, hw⟩; obtain rfl := hw.symm; clear hw)
  go_ret
  exact ⟨rfl, grown_trans (grown_trans (World.grownBy_alloc w _ none) (World.grownBy_alloc _ _ none)) (World.grownBy_alloc _ _ none)⟩

set_option maxHeartbeats 800000 in
theorem scale_nat {B : Nat} {w : World} {d : Value} {xs : List Nat} {c : Nat} (h256 : c < 256) (hd : Own B w d xs) :
    Calls Try.prog 13 #[d, .int .u8 (c : Int)] w fun e w' => e = .returned (.tuple #[]) ∧ Own B w' d (vscale c xs) ∧ w.grownBy w' d.ownBlock := by
  obtain ⟨p, n, cp, rfl, hn⟩ := hd.vec.opened
  have HN : Hid (n = xs.length) := hn
  clear hn
  go_enter Try.func13, Try.ntmps13
  go_wp2
  have G0 : w.grownBy ((w.alloc (.cells #[.slice p n cp] 22)).alloc (.cells #[.int .u8 (c : Int)] 5)) none := grown_trans (World.grownBy_alloc w _ none) (World.grownBy_alloc _ _ none)
  have C1 := cell_box1 w (.slice p n cp) (.int .u8 (c : Int)) 22 5
  have C2 := cell_box2 w (.slice p n cp) (.int .u8 (c : Int)) 22 5
  generalize (w.alloc (.cells #[.slice p n cp] 22)).alloc (.cells #[.int .u8 (c : Int)] 5) = W at *
  have HT : ∀ w', W.grownBy w' none → Told 28 #[.pointer (some ⟨w.heap.size + 1, 0, none⟩), .pointer (some ⟨w.heap.size, 0, none⟩)] n (fun k => M.mul c (xs.getD k 0)) w' := by
    intro w' g
    rw [HN.out]
    exact ⟨enters28, fun k hk w2 g2 => (scale1_any k _ _ _ c xs w2 ((grown_trans g g2).cell C2 (by simp)) ((grown_trans g g2).cell C1 (by simp)) h256
      ((hd.vec.keep G0).keep (grown_trans g g2)) hk).mono fun _ _ ⟨h1, m, h2⟩ => ⟨h1, by rw [h2]; exact grown_drewN _ _⟩⟩
  have HL : Hid (n ≤ 140737488351232) := by rw [HN.out]; exact hd.len
  have HS : Hid (∀ j, j < n → M.mul c (xs.getD j 0) < 256) := fun j _ => M.mul_lt _ h256
  have HX : ∀ w1 w2, (W.drewN 1).grownBy w1 none → w1.grownBy w2 (Value.slice p n cp).ownBlock → w2.cell? ⟨w.heap.size, 0, none⟩ = some (.slice p n cp) := by
    intro w1 w2 h1 h2
    refine h2.cell (h1.cell C1 (by simp)) fun e => ?_
    have := hd.hi _ e.symm
    simp at this
  go_region_held3 (fun w' => w'.cell? ⟨w.heap.size, 0, none⟩ = some (.slice p n cp)) (first | exact C1 | exact hg.cell C1 (by simp) | exact HX _ _ hg hg2)
    (first
      | (go_at_call 22; refine (list_any 28 _ n (fun k => M.mul c (xs.getD k 0)) _ HL.out HS.out (HT _ (grown_drewN W 1))).mono ?_; rintro e w1 ⟨v, rfl, ho, hg⟩)
      | (refine step_copy_vec (by rfl) _ _ (by rfl) _ _ (by rfl) (by rfl) (xs := xs) ((hd.keep G0).keep (grown_trans (grown_drewN W 1) hg)) ho.vec (by simp [HN.out]) ?_; intro w2 ho2 hg2))
  have R : Hid (Own B w2 (.slice p n cp) (vscale c xs) ∧ w.grownBy w2 (Value.slice p n cp).ownBlock) :=
    ⟨by unfold vscale; rw [← HN.out]; exact ho2, grown_trans (grown_any (grown_trans G0 (grown_trans (grown_drewN W 1) hg)) _) hg2⟩
  clear ho ho2 hg hg2 HT HX HS
  go_wp2
  go_end0
  exact ⟨rfl, R.out.1, R.out.2⟩

theorem scale_yes {B : Nat} {w : World} {d : Value} {xs : List Nat} {c : Int} (h0 : 0 ≤ c) (h256 : c < 256) (hd : Own B w d xs) :
    Calls Try.prog 13 #[d, .int .u8 c] w fun e w' => e = .returned (.tuple #[]) ∧ Own B w' d (vscale c.toNat xs) ∧ w.grownBy w' d.ownBlock := by
  obtain ⟨m, rfl⟩ := Int.eq_ofNat_of_zero_le h0
  exact scale_nat (by omega) hd

set_option maxHeartbeats 800000 in
theorem dot_yes {w : World} {d s : Value} {xs ys : List Nat} (hd : Vec w d xs) (hs : Vec w s ys) (hl : ys.length = xs.length) :
    Calls Try.prog 16 #[d, s] w fun e w' => e = .returned (.tuple #[bv (vdot xs ys), .int .i64 0]) ∧ w.grownBy w' none := by
  obtain ⟨p, n, cp, rfl, hn⟩ := hd.opened
  obtain ⟨q, n', cp', rfl, hn'⟩ := hs.opened
  have hfit : ((n : Int) == (n' : Int)) = true := by simp [hn, hn', hl]
  have HN : Hid (n = xs.length ∧ ys.length = xs.length) := ⟨hn, hl⟩
  clear hl hn hn'
  have G0 : w.grownBy ((w.alloc (.cells #[.slice p n cp] 22)).alloc (.cells #[.slice q n' cp'] 22)) none := grown_trans (World.grownBy_alloc w _ none) (World.grownBy_alloc _ _ none)
  have C1 := cell_box1 w (.slice p n cp) (.slice q n' cp') 22 22
  have C2 := cell_box2 w (.slice p n cp) (.slice q n' cp') 22 22
  have HT : Told 30 #[.pointer (some ⟨w.heap.size, 0, none⟩), .pointer (some ⟨w.heap.size + 1, 0, none⟩)] n (fun k => M.mul (xs.getD k 0) (ys.getD k 0)) ((w.alloc (.cells #[.slice p n cp] 22)).alloc (.cells #[.slice q n' cp'] 22)) := by
    have hh := HN.out
    exact ⟨enters30, fun k hk w2 g2 => (dot1_any k _ _ _ _ xs ys w2 (g2.cell C1 (by simp)) (g2.cell C2 (by simp))
      ((hd.keep G0).keep g2) ((hs.keep G0).keep g2) (by omega) (by omega)).mono fun _ _ ⟨h1, m, h2⟩ => ⟨h1, by rw [h2]; exact grown_drewN _ _⟩⟩
  have HL : Hid (n ≤ 140737488351232) := by rw [HN.out.1]; exact hd.len
  have HS : Hid (∀ j, j < n → M.mul (xs.getD j 0) (ys.getD j 0) < 256) := fun j _ => M.mul_lt _ (getD_small hd.small j)
  have HD : Hid (xsum (fun k => M.mul (xs.getD k 0) (ys.getD k 0)) n = vdot xs ys) := by rw [HN.out.1]; rfl
  have HG : Hid (w.grownBy ((w.alloc (.cells #[.slice p n cp] 22)).alloc (.cells #[.slice q n' cp'] 22)) none) := G0
  clear C1 C2 G0
  go_enter Try.func16, Try.ntmps16
  go_wp2_with (first
    | (go_at_call 21; refine (fit_any _ _ _ _ _ _ _).mono ?_; rintro e w2 ⟨rfl, hw⟩; obtain rfl := hw.symm; clear hw)
    | (go_at_call 29; refine (sum_any 30 _ n (fun k => M.mul (xs.getD k 0) (ys.getD k 0)) _ HL.out HS.out HT).mono ?_; rintro e w2 ⟨rfl, hg2⟩; have HG2 : Hid _ := hg2; clear hg2; rw [HD.out]))
  go_ret2
  exact ⟨rfl, grown_trans HG.out HG2.out⟩

theorem dot_no {w : World} {d s : Value} {xs ys : List Nat} (hd : Vec w d xs) (hs : Vec w s ys) (hl : ys.length ≠ xs.length) :
    Calls Try.prog 16 #[d, s] w fun e w' => e = .returned (.tuple #[.int .u8 0, .int .i64 1]) ∧ w.grownBy w' none := by
  obtain ⟨p, n, cp, rfl, hn⟩ := hd.opened
  obtain ⟨q, n', cp', rfl, hn'⟩ := hs.opened
  have hfit : ((n : Int) == (n' : Int)) = false := by simp [hn, hn']; omega
  clear hl hn hn'
  go_enter Try.func16, Try.ntmps16
  go_wp2_with (go_at_call 21; refine (fit_any _ _ _ _ _ _ _).mono ?_; rintro e w2 ⟨rfl, hw⟩; obtain rfl := hw.symm; clear hw)
  go_ret2
  exact ⟨rfl, grown_trans (World.grownBy_alloc w _ none) (World.grownBy_alloc _ _ none)⟩
end Go.Proofs.Ytlodpffdmlnemaa
