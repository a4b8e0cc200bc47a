/- Contracts of code.combine and code.coded. -/
import Derived.Test.YtdeajclghlbhcaaRow4
import Derived.Test.YtdeajclghlbhcaaAsk
namespace Go.Proofs.Ytdeajclghlbhcaa
open Go.RowKit

/-- All chunks added, each times its number, behind the first k. -/
def combTo (al : List Nat) (X : List (List Nat)) (L k : Nat) : List Nat := (List.range L).map fun t => MX.xs (fun j => M.mul (al.getD j 0) (at2 X j t)) k
theorem combTo_len (al : List Nat) (X : List (List Nat)) (L k : Nat) : (combTo al X L k).length = L := by simp [combTo]
theorem combTo_zero (al : List Nat) (X : List (List Nat)) (L : Nat) : combTo al X L 0 = List.replicate L 0 := by
  apply List.ext_getElem
  · simp [combTo]
  · intro i h1 h2
    simp [combTo, MX.xs]
theorem combTo_get {al : List Nat} {X : List (List Nat)} {L k t : Nat} (h : t < L) : (combTo al X L k).getD t 0 = MX.xs (fun j => M.mul (al.getD j 0) (at2 X j t)) k := gd_map _ h
theorem combTo_step (al : List Nat) (X : List (List Nat)) (L k : Nat) : mix (fun t => (combTo al X L k).getD t 0 ^^^ M.mul (al.getD k 0) (at2 X k t)) (combTo al X L k) L = combTo al X L (k + 1) := by
  have h := mix_all (fun t => (combTo al X L k).getD t 0 ^^^ M.mul (al.getD k 0) (at2 X k t)) (combTo al X L k)
  rw [combTo_len] at h
  rw [h]
  refine List.map_congr_left fun t ht => ?_
  rw [combTo_get (List.mem_range.1 ht)]
  rfl

theorem heap_grown {w w' : World} (g : w.grownBy w' none) {i : Nat} {o : Obj} (h : w.heap[i]? = some o) : w'.heap[i]? = some o := by
  have hl : i < w.heap.size := (Array.getElem?_eq_some_iff.1 h).1
  rw [g.block i hl (by simp)]
  exact h

set_option maxHeartbeats 3200000 in
set_option maxRecDepth 100000 in
theorem combine_any {w : World} {ns cs : Value} {vs : List Value} {al : List Nat} {X : List (List Nat)} {L : Nat} (hn : Vec w ns al) (mr : Mat w cs vs X) (hX : Shape X X.length L) (hl : al.length = X.length) (h1 : 1 ≤ X.length) :
    Calls Try.prog 45 #[ns, cs] w fun e w' => ∃ p n c, e = .returned (.slice p n c) ∧ Own w.heap.size w' (.slice p n c) (combTo al X L al.length) ∧ w.grownBy w' none := by
  obtain ⟨qa, A, ca, rfl, hA⟩ := hn.opened
  obtain ⟨q, N, cap, rfl, hN⟩ := mr.row.opened
  have hs := mr.same
  have hAl : A ≤ 140737488351232 := by rw [hA]; exact hn.len
  obtain ⟨b, off, rfl, hc⟩ := mr.row.spot (k := 0) (by omega)
  obtain ⟨p0, n0, c0, e0, hn0⟩ := (mr.vec 0 (by omega)).opened
  have hLl : L ≤ 140737488351232 := by have := (mr.vec 0 (by omega)).len; rw [hX.row 0 (by omega)] at this; exact this
  obtain rfl : n0 = L := by rw [hn0]; exact hX.row 0 (by omega)
  rw [e0, Nat.add_zero] at hc
  have HN : Hid (A = al.length ∧ A = N ∧ N = X.length) := ⟨hA, by omega, by omega⟩
  have hN0 : (0 : Int) < (N : Int) := by omega
  have KA : Hid (∀ w', w.grownBy w' none → Vec w' (.slice qa A ca) al) := fun w' g => hn.keep g
  have KM : Hid (∀ w', w.grownBy w' none → Mat w' (.slice (some ⟨b, off, none⟩) N cap) vs X) := fun w' g => mr.keep g
  have HX : Hid (Shape X X.length n0) := hX
  clear e0 hn0 hN hs mr hn hA hl h1 hX
  go_enter Try.func45, Try.ntmps45
  go_wp2_with (at_make; refine wpList_make_vec rfl _ _ rfl n0 rfl rfl hLl ?_; intro w1 p ou g1; have OU : Hid (Own w.heap.size w1 (.slice p n0 n0) (combTo al X n0 0)) := (by rw [combTo_zero]; exact ou); have G1 : Hid (w.grownBy w1 none) := g1; clear ou g1)
  clear hc hN0
  go_loopw [18] (fun ti wr => ∃ k : Nat, k ≤ A ∧ ti = .int .i64 k ∧ Hid (Own w.heap.size wr (.slice p n0 n0) (combTo al X n0 k)) ∧ Hid (w.grownBy wr none)) (fun ti _ => A - (intOf ti).toNat)
  case atStart => exact ⟨0, by omega, rfl, OU, G1⟩
  case round =>
    clear OU G1
    obtain ⟨k, hk, rfl, OK, GK⟩ := hrel
    obtain ⟨wa, hwa⟩ : ∃ wa, wa = wr := ⟨wr, rfl⟩
    subst hwa
    by_cases hlt : k < A
    · have i1 : (k : Int) < (A : Int) := by omega
      have i2 : (k : Int) < (N : Int) := by have := HN.out; omega
      have i3 : (0 : Int) ≤ (k : Int) := by omega
      obtain ⟨ba, oa, rfl, hca, hsm⟩ := (KA.out _ GK.out).spot (k := k) (by have := HN.out; omega)
      obtain ⟨pk, nk, ck, ek, hnk⟩ := ((KM.out _ GK.out).vec k (by have := HN.out; omega)).opened
      obtain rfl : nk = n0 := by rw [hnk]; exact HX.out.row k (by have := HN.out; omega)
      have KC : Hid (∀ w', w.grownBy w' none → w'.cell? ⟨b, off + k, none⟩ = some (.slice pk nk ck)) := fun w' g => by
        obtain ⟨b1, o1, e1, hr⟩ := (KM.out _ g).row.spot (k := k) (by have := HN.out; have := (KM.out _ g).same; omega)
        obtain ⟨rfl, rfl⟩ : b = b1 ∧ off = o1 := by
          injection e1 with e1
          injection e1 with e2 e3
          exact ⟨e2, e3⟩
        rw [ek] at hr
        exact hr
      have KV : Hid (∀ w', w.grownBy w' none → Vec w' (.slice pk nk ck) (X.getD k [])) := fun w' g => by
        have h := (KM.out _ g).vec k (by have := HN.out; omega)
        rw [ek] at h
        exact h
      have HST : Hid (mix (fun t => (combTo al X nk k).getD t 0 ^^^ M.mul (al.getD k 0) (at2 X k t)) (combTo al X nk k) nk = combTo al X nk (k + 1)) := combTo_step al X nk k
      have HLen : Hid ((X.getD k []).length = nk) := hnk.symm
      have HAT : Hid (∀ t, at2 X k t = (X.getD k []).getD t 0) := fun t => rfl
      clear hnk ek
      generalize al.getD k 0 = a at *
      have z44 := zero44
      have PP : Hid (∀ w, Calls Try.prog 53 #[.int .u8 (a : Int)] w fun e w' => e = .returned (.agg (prodTo a 256)) ∧ w.grownBy w' none) := fun w => products_any a w hsm
      have SZ : (prodTo a 256).size = 256 := prodTo_size a 256
      have ST : ∀ W : World, (storeCells ⟨W.heap.size, 0, none⟩ (prodTo a 256).toList).run Try.prog (W.alloc (.cells (logTo 0) 84)) = .ok () (W.alloc (.cells (prodTo a 256) 84)) := fun W => by
        have := run_storeCells_from (P := Try.prog) W.heap.size 84 (prodTo a 256).toList 0 (logTo 0) (W.alloc (.cells (logTo 0) 84)) (heap_alloc_new W _) (by simp [prodTo_size, logTo_size]) (mem_one (prodTo_one a 256))
        simpa [World.setRow_alloc_new] using this
      go_wp2_with (go_at_call 53; refine (PP.out _).mono ?_; rintro e w2 ⟨rfl, g2⟩; have hcc := KC.out _ (gb_alloc (grown_trans GK.out g2) (.cells (prodTo a 256) 84)); have G2 : Hid (wa.grownBy w2 none) := g2; clear g2)
      clear z44 SZ ST PP hcc hca
      have F2 : Hid (w.grownBy (w2.alloc (.cells (prodTo a 256) 84)) none ∧ Own w.heap.size (w2.alloc (.cells (prodTo a 256) 84)) (.slice p nk nk) (combTo al X nk k) ∧
          (w2.alloc (.cells (prodTo a 256) 84)).heap[w2.heap.size]? = some (.cells (prodTo a 256) 84 (0, 0)) ∧ Hi w2.heap.size (.slice p nk nk) ∧ w.heap.size ≤ w2.heap.size) :=
        ⟨gb_alloc (grown_trans GK.out G2.out) _, OK.out.keep (gb_alloc G2.out _), heap_alloc_new _ _, fun r e => by have := OK.out.hi r e; have := G2.out.size; omega, Nat.le_trans GK.out.size G2.out.size⟩
      clear G2 GK OK
      generalize w2.alloc (.cells (prodTo a 256) 84) = wb at *
      generalize w2.heap.size = g8 at *
      generalize hC : combTo al X nk k = C at *
      have HC : Hid (C.length = nk) := by show _ = _; rw [← hC, combTo_len]
      clear hC w2
      generalize hXK : X.getD k [] = XK at *
      have HAT' : Hid (∀ t, at2 X k t = XK.getD t 0) := fun t => by rw [HAT.out t]
      clear hXK HAT
      go_loopw [30] (fun ti wr => ∃ t : Nat, t ≤ nk ∧ ti = .int .i64 t ∧ Hid (Own w.heap.size wr (.slice p nk nk) (mix (fun t => C.getD t 0 ^^^ M.mul a (at2 X k t)) C t)) ∧ Hid (w.grownBy wr none) ∧ Hid (wr.heap[g8]? = some (.cells (prodTo a 256) 84 (0, 0)))) (fun ti _ => nk - (intOf ti).toNat)
      case atStart => exact ⟨0, by omega, rfl, by rw [mix_zero]; exact F2.out.2.1, F2.out.1, F2.out.2.2.1⟩
      case round =>
        obtain ⟨t, ht, rfl, OT, GT, PT⟩ := hrel
        by_cases htl : t < nk
        · have j1 : (t : Int) < (nk : Int) := by omega
          have j3 : (0 : Int) ≤ (t : Int) := by omega
          obtain ⟨bk, ok, rfl, hcx, hsx⟩ := (KV.out _ GT.out).spot (k := t) (by have := HLen.out; omega)
          obtain ⟨g, rfl, hz, hcs, hf, h1, hset, hgr⟩ := OT.out.spot (k := t) (by rw [mix_len]; have := HC.out; omega)
          rw [mix_get _ _ _ (by have := HC.out; omega)] at hcs h1
          have hgne : g ≠ g8 := by have := F2.out.2.2.2.1 g rfl; omega
          have hm : M.mul a (XK.getD t 0) < 256 := M.mul_lt _ hsm
          have hcp : wr.cell? ⟨g8, XK.getD t 0, none⟩ = some (.int .u8 ((M.mul a (XK.getD t 0) : Nat) : Int)) := by rw [cell_of_row _ _ _ _ _ _ PT.out, prodTo_get _ _ _ hsx, if_pos hsx]
          have hx := M.xor_lt h1 hm
          have HS : Hid _ := hset _ hx
          have HM : Hid ((mix (fun t => C.getD t 0 ^^^ M.mul a (at2 X k t)) C t).set t (C.getD t 0 ^^^ M.mul a (XK.getD t 0)) = mix (fun t => C.getD t 0 ^^^ M.mul a (at2 X k t)) C (t + 1)) := by
            show _ = _
            rw [← HAT'.out t]
            exact mix_set _ _ _
          have HG : Hid (w.grownBy (wr.setCell ⟨g, t, none⟩ (.int .u8 ((C.getD t 0 ^^^ M.mul a (XK.getD t 0) : Nat) : Int))) none) := grown_new GT.out (hgr _) (fun r e => OT.out.lo r e)
          have HP : Hid ((wr.setCell ⟨g, t, none⟩ (.int .u8 ((C.getD t 0 ^^^ M.mul a (XK.getD t 0) : Nat) : Int))).heap[g8]? = some (.cells (prodTo a 256) 84 (0, 0))) := by
            show _ = _
            rw [heap_setCell_other _ _ _ _ (fun e => hgne e.symm)]
            exact PT.out
          clear hset hgr hz hgne OT PT
          generalize mix (fun t => C.getD t 0 ^^^ M.mul a (at2 X k t)) C t = LT at *
          generalize C.getD t 0 = x at *
          generalize XK.getD t 0 = z at *
          have AA : Hid (∀ w, Calls Try.prog 43 #[.int .u8 (x : Int), .int .u8 ((M.mul a z : Nat) : Int)] w fun e w' => e = .returned (.int .u8 ((x ^^^ M.mul a z : Nat) : Int)) ∧ w' = w) := fun w => add_any _ _ w (by omega) (by omega) (by omega) (by omega)
          generalize M.mul a z = y at *
          generalize x ^^^ y = r at *
          have j4 : (z : Int) < 256 := by omega
          have j5 : (0 : Int) ≤ (z : Int) := by omega
          go_wp2_with fail
          go_region_with (go_at_call 43; refine (AA.out _).mono ?_; rintro e w1 ⟨rfl, hw⟩; obtain rfl := hw.symm; clear hw)
          all_goals
            go_wp2
            go_roundw
            case rel => exact ⟨t + 1, by omega, by go_num, by rw [← HM.out]; exact HS.out.keep (grown_drewN _ 1), grown_trans HG.out (grown_drewN _ 1), HP.out⟩
            case measure => simp [intOf]; omega
        · obtain rfl : t = nk := by omega
          have OT' : Hid (Own w.heap.size wr (.slice p t t) (combTo al X t (k + 1))) := by rw [← HST.out]; exact OT
          clear OT
          go_wp2
          go_roundw
          case rel => exact ⟨k + 1, by omega, by go_num, OT', GT⟩
          case measure => simp [intOf]; omega
    · obtain rfl : k = A := by omega
      go_wp2
      go_ret
      have h := OK.out
      rw [HN.out.1] at h
      exact ⟨p, n0, n0, rfl, h, GK.out⟩
end Go.Proofs.Ytdeajclghlbhcaa
