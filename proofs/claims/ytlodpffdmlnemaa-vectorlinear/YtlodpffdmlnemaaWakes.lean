/- Contract of hayricklaw02.wakes: the chapter's rows hold. -/
import Derived.Test.YtlodpffdmlnemaaComb
import Derived.Test.YtlodpffdmlnemaaMem
namespace Go.Proofs.Ytlodpffdmlnemaa
open Go.RowKit

theorem own_lit {B g n : Nat} {w : World} {xs : List Nat} (h : w.heap[g]? = some (.cells (xs.map bv).toArray 5 (0, 0))) (hB : B ≤ g) (hn : n = xs.length) (hx : ∀ x ∈ xs, x < 256) (hl : xs.length ≤ 140737488351232) :
    Own B w (.slice (some ⟨g, 0, none⟩) n n) xs := by
  subst hn
  exact ⟨hx, hl, by simp, .inr ⟨g, _, _, rfl, hB, h, Nat.le_refl _, by unfold maxLen; omega, by simp, by simp [List.take_of_length_le]⟩⟩

theorem cells_lit {g n : Nat} {w : World} {vs : List Value} (h : w.heap[g]? = some (.cells vs.toArray 22 (0, 0))) (hn : n = vs.length) (hl : vs.length * 24 ≤ 140737488351232) :
    Cells w (.slice (some ⟨g, 0, none⟩) n n) vs := by
  subst hn
  refine ⟨hl, _, _, rfl, Nat.le_refl _, by unfold maxLen; omega, fun _ => ⟨g, 0, rfl, fun j hj => ?_⟩⟩
  simp [World.cell?, h, List.getD, hj]

theorem heap_new (w : World) (o : Obj) (g : Nat) (h : g = w.heap.size) : (w.alloc o).heap[g]? = some o := by subst h; exact heap_alloc_new w o
theorem heap_old (w : World) (o : Obj) {g : Nat} {b : Obj} (h : w.heap[g]? = some b) : (w.alloc o).heap[g]? = some b := by
  exact (Below.heap_alloc w o g (Array.getElem?_eq_some_iff.1 h).1).trans h

theorem apart_at {i j o o' n n' c c' : Nat} (h : i ≠ j) : (Value.slice (some ⟨i, o, none⟩) n c).ownBlock = none ∨ (Value.slice (some ⟨i, o, none⟩) n c).ownBlock ≠ (Value.slice (some ⟨j, o', none⟩) n' c').ownBlock :=
  .inr (by simp only [Value.ownBlock]; intro e; exact h (Option.some.inj e))

set_option maxHeartbeats 4000000 in
theorem wakes_any (w : World) : Calls Try.prog 15 #[] w fun e w' => e = .returned (.bool true) ∧ w.grownBy w' none := by
  go_enter Try.func15, Try.ntmps15
  go_wp2_with fail
  have oa : Own w.heap.size (((w.alloc (.cells #[bv 1, bv 2, bv 3] 5)).alloc (.cells #[bv 1, bv 2, bv 3] 5)).alloc (.cells #[bv 128, bv 1] 5)) (.slice (some ⟨w.heap.size, 0, none⟩) 3 3) [1, 2, 3] :=
    own_lit (heap_old _ _ (heap_old _ _ (heap_new _ _ _ rfl))) (Nat.le_refl _) rfl (by decide) (by decide)
  have ob : Own w.heap.size (((w.alloc (.cells #[bv 1, bv 2, bv 3] 5)).alloc (.cells #[bv 1, bv 2, bv 3] 5)).alloc (.cells #[bv 128, bv 1] 5)) (.slice (some ⟨w.heap.size + 1, 0, none⟩) 3 3) [1, 2, 3] :=
    own_lit (heap_old _ _ (heap_new _ _ _ (by simp))) (by omega) rfl (by decide) (by decide)
  have oc : Own w.heap.size (((w.alloc (.cells #[bv 1, bv 2, bv 3] 5)).alloc (.cells #[bv 1, bv 2, bv 3] 5)).alloc (.cells #[bv 128, bv 1] 5)) (.slice (some ⟨w.heap.size + 1 + 1, 0, none⟩) 2 2) [128, 1] :=
    own_lit (heap_new _ _ _ (by simp)) (by omega) rfl (by decide) (by decide)
  have g0 : w.grownBy (((w.alloc (.cells #[bv 1, bv 2, bv 3] 5)).alloc (.cells #[bv 1, bv 2, bv 3] 5)).alloc (.cells #[bv 128, bv 1] 5)) none :=
    grown_trans (grown_trans (World.grownBy_alloc w _ none) (World.grownBy_alloc _ _ none)) (World.grownBy_alloc _ _ none)
  refine (scale_yes (by omega) (by omega) oc).mono ?_
  rw [show vscale (Int.toNat 2) [128, 1] = [29, 2] from by decide]
  rintro e w1 ⟨rfl, oc1, g1⟩
  have oa1 := oa.kept g1 (apart_at (by omega))
  have ob1 := ob.kept g1 (apart_at (by omega))
  have G1 : Hid (w.grownBy w1 none) := grown_new g0 g1 (fun i h => by simp [Value.ownBlock] at h; omega)
  have hs : w.heap.size + 1 + 1 < w1.heap.size := oc1.hi _ rfl
  clear oa ob oc g0 g1
  go_wp2_with fail
  have d1 : Own w1.heap.size ((w1.alloc (.cells #[bv 1, bv 2] 5)).alloc (.cells #[bv 3, bv 4] 5)) (.slice (some ⟨w1.heap.size, 0, none⟩) 2 2) [1, 2] :=
    own_lit (heap_old _ _ (heap_new _ _ _ rfl)) (Nat.le_refl _) rfl (by decide) (by decide)
  have d2 : Own w1.heap.size ((w1.alloc (.cells #[bv 1, bv 2] 5)).alloc (.cells #[bv 3, bv 4] 5)) (.slice (some ⟨w1.heap.size + 1, 0, none⟩) 2 2) [3, 4] :=
    own_lit (heap_new _ _ _ (by simp)) (by omega) rfl (by decide) (by decide)
  have g1 : w1.grownBy ((w1.alloc (.cells #[bv 1, bv 2] 5)).alloc (.cells #[bv 3, bv 4] 5)) none := grown_trans (World.grownBy_alloc _ _ none) (World.grownBy_alloc _ _ none)
  refine (dot_yes d1.vec d2.vec rfl).mono ?_
  rw [show vdot [1, 2] [3, 4] = 11 from by decide]
  rintro e w2 ⟨rfl, g2⟩
  have oa2 := oa1.keep (grown_trans g1 g2)
  have ob2 := ob1.keep (grown_trans g1 g2)
  have oc2 := oc1.keep (grown_trans g1 g2)
  have G2 : Hid (w.grownBy w2 none) := grown_trans G1.out (grown_trans g1 g2)
  have hs2 : w.heap.size + 1 + 1 < w2.heap.size := oc2.hi _ rfl
  clear oa1 ob1 oc1 g1 g2 d1 d2 G1 hs
  go_wp2_with fail
  have q1 : Own w2.heap.size ((((w2.alloc (.cells #[bv 1, bv 2] 5)).alloc (.cells #[bv 1, bv 0] 5)).alloc (.cells #[bv 0, bv 1] 5)).alloc (.cells #[.slice (some ⟨w2.heap.size + 1, 0, none⟩) 2 2, .slice (some ⟨w2.heap.size + 1 + 1, 0, none⟩) 2 2] 22)) (.slice (some ⟨w2.heap.size, 0, none⟩) 2 2) [1, 2] :=
    own_lit (heap_old _ _ (heap_old _ _ (heap_old _ _ (heap_new _ _ _ rfl)))) (Nat.le_refl _) rfl (by decide) (by decide)
  have q2 : Own w2.heap.size ((((w2.alloc (.cells #[bv 1, bv 2] 5)).alloc (.cells #[bv 1, bv 0] 5)).alloc (.cells #[bv 0, bv 1] 5)).alloc (.cells #[.slice (some ⟨w2.heap.size + 1, 0, none⟩) 2 2, .slice (some ⟨w2.heap.size + 1 + 1, 0, none⟩) 2 2] 22)) (.slice (some ⟨w2.heap.size + 1, 0, none⟩) 2 2) [1, 0] :=
    own_lit (heap_old _ _ (heap_old _ _ (heap_new _ _ _ (by simp)))) (by omega) rfl (by decide) (by decide)
  have q3 : Own w2.heap.size ((((w2.alloc (.cells #[bv 1, bv 2] 5)).alloc (.cells #[bv 1, bv 0] 5)).alloc (.cells #[bv 0, bv 1] 5)).alloc (.cells #[.slice (some ⟨w2.heap.size + 1, 0, none⟩) 2 2, .slice (some ⟨w2.heap.size + 1 + 1, 0, none⟩) 2 2] 22)) (.slice (some ⟨w2.heap.size + 1 + 1, 0, none⟩) 2 2) [0, 1] :=
    own_lit (heap_old _ _ (heap_new _ _ _ (by simp))) (by omega) rfl (by decide) (by decide)
  have q4 : Mat ((((w2.alloc (.cells #[bv 1, bv 2] 5)).alloc (.cells #[bv 1, bv 0] 5)).alloc (.cells #[bv 0, bv 1] 5)).alloc (.cells #[.slice (some ⟨w2.heap.size + 1, 0, none⟩) 2 2, .slice (some ⟨w2.heap.size + 1 + 1, 0, none⟩) 2 2] 22)) (.slice (some ⟨w2.heap.size + 1 + 1 + 1, 0, none⟩) 2 2)
      [.slice (some ⟨w2.heap.size + 1, 0, none⟩) 2 2, .slice (some ⟨w2.heap.size + 1 + 1, 0, none⟩) 2 2] [[1, 0], [0, 1]] :=
    ⟨cells_lit (heap_new _ _ _ (by simp)) rfl (by simp), rfl, fun j hj => by
      match j, hj with
      | 0, _ => exact q2.vec
      | 1, _ => exact q3.vec⟩
  have g2 : w2.grownBy ((((w2.alloc (.cells #[bv 1, bv 2] 5)).alloc (.cells #[bv 1, bv 0] 5)).alloc (.cells #[bv 0, bv 1] 5)).alloc (.cells #[.slice (some ⟨w2.heap.size + 1, 0, none⟩) 2 2, .slice (some ⟨w2.heap.size + 1 + 1, 0, none⟩) 2 2] 22)) none :=
    grown_trans (grown_trans (grown_trans (World.grownBy_alloc _ _ none) (World.grownBy_alloc _ _ none)) (World.grownBy_alloc _ _ none)) (World.grownBy_alloc _ _ none)
  refine (combine_yes q1.vec q4 rfl (by decide) (by decide)).mono ?_
  rw [show vcomb [1, 2] [[1, 0], [0, 1]] = [1, 2] from by decide]
  rintro e w3 ⟨v, rfl, ov3, g3⟩
  have oa3 := oa2.keep (grown_trans g2 g3)
  have ob3 := ob2.keep (grown_trans g2 g3)
  have oc3 := oc2.keep (grown_trans g2 g3)
  have G3 : Hid (w.grownBy w3 none) := grown_trans G2.out (grown_trans g2 g3)
  have hs3 : w.heap.size + 1 + 1 < w3.heap.size := oc3.hi _ rfl
  have lov : Lo (w.heap.size + 1 + 1 + 1) v := ov3.lo.mono (by simp; omega)
  clear oa2 ob2 oc2 g2 g3 q1 q2 q3 q4 G2 hs2
  go_wp2_with fail
  have s1 : Own w3.heap.size (w3.alloc (.cells #[bv 3, bv 2, bv 1] 5)) (.slice (some ⟨w3.heap.size, 0, none⟩) 3 3) [3, 2, 1] :=
    own_lit (heap_new _ _ _ rfl) (Nat.le_refl _) rfl (by decide) (by decide)
  have g3 : w3.grownBy (w3.alloc (.cells #[bv 3, bv 2, bv 1] 5)) none := World.grownBy_alloc _ _ none
  refine (addTo_yes (oa3.keep g3) s1.vec rfl).mono ?_
  rw [show vadd [1, 2, 3] [3, 2, 1] = [2, 0, 2] from by decide]
  rintro e w4 ⟨rfl, oa4, g4⟩
  have ob4 := (ob3.keep g3).kept g4 (apart_at (by omega))
  have oc4 := (oc3.keep g3).kept g4 (apart_at (by omega))
  have ov4 := (ov3.keep g3).kept g4 (apart_of' lov (show Hi (w.heap.size + 1 + 1 + 1) _ from fun k hk => by simp [Value.ownBlock] at hk; omega))
  have G4 : Hid (w.grownBy w4 none) := grown_new (grown_trans G3.out g3) g4 (fun i h => by simp [Value.ownBlock] at h; omega)
  have hs4 : w.heap.size + 1 + 1 < w4.heap.size := oc4.hi _ rfl
  have ca := convert_vec oa4.vec
  have ca' : ((strOf [2, 0, 2]).toList == [2, 0, 2]) = true := by rw [str_list]; decide
  clear oa3 ob3 oc3 ov3 g3 g4 s1 G3 hs3 oa4
  go_wp2_with fail
  clear ca ca'
  have t1 : Own w4.heap.size (w4.alloc (.cells #[bv 3, bv 2, bv 1] 5)) (.slice (some ⟨w4.heap.size, 0, none⟩) 3 3) [3, 2, 1] :=
    own_lit (heap_new _ _ _ rfl) (Nat.le_refl _) rfl (by decide) (by decide)
  have g4 : w4.grownBy (w4.alloc (.cells #[bv 3, bv 2, bv 1] 5)) none := World.grownBy_alloc _ _ none
  refine (mulAdd_yes (by omega) (by omega) (ob4.keep g4) t1.vec rfl).mono ?_
  rw [show vmad [1, 2, 3] [3, 2, 1] (Int.toNat 2) = [7, 6, 1] from by decide]
  rintro e w5 ⟨rfl, ob5, g5⟩
  have oc5 := (oc4.keep g4).kept g5 (apart_at (by omega))
  have ov5 := (ov4.keep g4).kept g5 (apart_of' lov (show Hi (w.heap.size + 1 + 1 + 1) _ from fun k hk => by simp [Value.ownBlock] at hk; omega))
  have G5 : Hid (w.grownBy w5 none) := grown_new (grown_trans G4.out g4) g5 (fun i h => by simp [Value.ownBlock] at h; omega)
  have cb := convert_vec ob5.vec
  have cc := convert_vec oc5.vec
  have cv := convert_vec ov5.vec
  have cb' : ((strOf [7, 6, 1]).toList == [7, 6, 1]) = true := by rw [str_list]; decide
  have cc' : ((strOf [29, 2]).toList == [29, 2]) = true := by rw [str_list]; decide
  have cv' : ((strOf [1, 2]).toList == [1, 2]) = true := by rw [str_list]; decide
  clear ob4 oc4 ov4 g4 g5 t1 G4 hs4 ob5 oc5 ov5 lov
  go_wp2
  go_ret
  exact ⟨rfl, G5.out⟩
end Go.Proofs.Ytlodpffdmlnemaa
