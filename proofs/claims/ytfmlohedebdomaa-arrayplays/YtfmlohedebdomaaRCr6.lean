/- The document's array: the contract of Crash. -/
import Derived.Test.YtfmlohedebdomaaRBar6
import Derived.Deep.RegionHeld3
set_option linter.unusedSimpArgs false
set_option linter.unusedVariables false
namespace Go.Proofs.Ytfmlohedebdomaa
open Go.RowKit
namespace AM.RA
def picked (A : RA) (ps : List Nat) (q : Nat) : RA := { A with D := ((A.L.zip ps).take q).foldl rpick A.D }
end AM.RA
theorem rpicks_on (Z : List (AM.Fl × Nat)) : ∀ (D : List (Option (List (List Nat)))) (e : Nat), ((Z.foldl AM.RA.rpick D).getD e none).isSome = (D.getD e none).isSome := by
  induction Z with
  | nil => intro D e; rfl
  | cons x r ih =>
    intro D e
    simp only [List.foldl_cons]
    rw [ih]
    unfold AM.RA.rpick
    split
    · rw [rlay_on]
    · rfl
theorem rpicks_len (Z : List (AM.Fl × Nat)) : ∀ (D : List (Option (List (List Nat)))), (Z.foldl AM.RA.rpick D).length = D.length := by
  induction Z with
  | nil => intro D; rfl
  | cons x r ih =>
    intro D
    simp only [List.foldl_cons]
    rw [ih]
    unfold AM.RA.rpick
    split
    · simp [AM.rlay]
    · rfl
theorem rpicked_step {A : AM.RA} {ps : List Nat} {q : Nat} (hq : q < A.L.length) (hp : q < ps.length) : (A.picked ps (q + 1)).D = AM.RA.rpick (A.picked ps q).D (A.L[q], ps.getD q 0) := by
  simp only [AM.RA.picked]
  have h : q < (A.L.zip ps).length := by simp; omega
  rw [List.take_succ_eq_append_getElem h, List.foldl_append]
  simp [List.getD, hp]
theorem picked_odd' {A : AM.RA} {ps : List Nat} {q : Nat} (hq : q < A.L.length) (hp : q < ps.length) (ho : ps.getD q 0 % 2 = 1) : A.picked ps (q + 1) = { A.picked ps q with D := AM.rlay (A.picked ps q).D A.L[q].d A.L[q].k A.L[q].b } := by
  have := rpicked_step hq hp
  have e : AM.RA.rpick (A.picked ps q).D (A.L[q], ps.getD q 0) = AM.rlay (A.picked ps q).D A.L[q].d A.L[q].k A.L[q].b := if_pos ho
  rw [e] at this
  show ({ A with D := (A.picked ps (q + 1)).D } : AM.RA) = _
  rw [this]
  rfl
theorem picked_even' {A : AM.RA} {ps : List Nat} {q : Nat} (hq : q < A.L.length) (hp : q < ps.length) (ho : ¬ ps.getD q 0 % 2 = 1) : A.picked ps (q + 1) = A.picked ps q := by
  have := rpicked_step hq hp
  have e : AM.RA.rpick (A.picked ps q).D (A.L[q], ps.getD q 0) = (A.picked ps q).D := if_neg ho
  rw [e] at this
  show ({ A with D := (A.picked ps (q + 1)).D } : AM.RA) = _
  rw [this]
  rfl
theorem picked_all {A : AM.RA} {ps : List Nat} {q : Nat} (h : A.L.length ≤ q ∨ ps.length ≤ q) : ({ A.picked ps q with L := [], left := 0, dark := false } : AM.RA) = A.crash ps := by
  simp only [AM.RA.picked, AM.RA.crash]
  rw [List.take_of_length_le (by simp; omega)]
section
variable {G : Nat → Prop} {w : World} {r : Nat}
theorem RL.reset {dp : Option Addr} {dc : Nat} {ds : List Value} {lp : Option Addr} {lc : Nat} {fs : List Value} {A : AM.RA} (h : RL G w r dp dc ds lp lc fs A) : RIs G (((w.setCell ⟨r, 2, none⟩ (.slice none 0 0)).setCell ⟨r, 3, none⟩ (.int .i64 0)).setCell ⟨r, 4, none⟩ (.bool false)) r { A with L := [], left := 0, dark := false } ∧ Step G w G (((w.setCell ⟨r, 2, none⟩ (.slice none 0 0)).setCell ⟨r, 3, none⟩ (.int .i64 0)).setCell ⟨r, 4, none⟩ (.bool false)) := by
  have g1 := h.gone
  refine ⟨(g1.turn (l' := 0) (k' := false) (grown_set2 (grown_set _ r 3 _) 4 _) (by decide) ?_).is, Step.of (grown_set2 (grown_set2 (grown_set w r 2 _) 3 _) 4 _) (fun i e => by obtain rfl := Option.some.inj e; exact h.Gr)⟩
  rw [heap_setCell_same _ _ _ _ _ _ (heap_setCell_same _ _ _ _ _ _ g1.top)]
  rfl

set_option maxHeartbeats 3200000 in
set_option maxRecDepth 100000 in
theorem rcrash_any {A1 : AM.RA} (h : RIs G w r A1) (hfit : A1.Fit) (hL : A1.L.length ≤ 1000000) {v : Value} {ps : List Nat} (hv : Vec w v ps) (hvF : ps ≠ [] → ∀ g, v.ownBlock = some g → ¬ G g) : Calls Try.prog 27 #[rptr r, v] w fun e w' => e = .returned (.tuple #[]) ∧ ∃ G', RIs G' w' r (A1.crash ps) ∧ Step G w G' w' := by
  obtain ⟨pp, m, cp, rfl, hm⟩ := hv.opened
  have HV : Hid (∀ W, Upd G w W → Vec W (.slice pp m cp) ps) := fun W u => hv.upd u hvF
  have HPS : Hid (m = ps.length) := hm
  have hmb : m ≤ 140737488351232 := by rw [hm]; exact hv.len
  have HFIT : Hid (A1.Fit) := hfit
  have HI1 : Hid (RIs G w r A1) := h
  obtain ⟨M, hM⟩ : ∃ M, M = A1.L.length := ⟨_, rfl⟩
  obtain ⟨N, hN⟩ : ∃ N, N = A1.D.length := ⟨_, rfl⟩
  have HM : Hid (M = A1.L.length) := hM
  have HN : Hid (N = A1.D.length) := hN
  rw [← hM] at hL
  have HD2 : Hid (N ≤ 255) := by
    obtain ⟨dp, dc, ds, lp, lc, fs, h1⟩ := h
    show _ ≤ _
    rw [hN]; exact h1.d2
  clear h hfit hv hvF hm hM hN
  go_enter Try.func27, Try.ntmps27
  go_wp2
  go_loopw [4] (fun ti wr => ∃ q : Nat, q ≤ M ∧ ti = .int .i64 (q : Int) ∧ Hid (∃ G', RIs G' wr r (A1.picked ps q) ∧ Step G w G' wr)) (fun ti _ => M - (intOf ti).toNat)
  case atStart => exact ⟨0, by omega, rfl, G, HI1.out, Step.refl G w⟩
  case round =>
    clear HI1
    obtain ⟨q, hq, rfl, HX⟩ := hrel
    by_cases hlt : q < M
    · have i1 : (q : Int) < (M : Int) := by omega
      by_cases hltm : q < m
      · have i5 : (q : Int) < (m : Int) := by omega
        have hpl : q < ps.length := by rw [← HPS.out]; exact hltm
        have hN255 := HD2.out
        have hvw : Vec wr (.slice pp m cp) ps := by
          obtain ⟨G', _, a2⟩ := HX.out
          exact HV.out wr a2.upd
        obtain ⟨pb, po, rfl, cpk, hp256⟩ := hvw.spot (k := q) hpl
        obtain ⟨y, hy⟩ : ∃ y, y = ps.getD q 0 := ⟨_, rfl⟩
        rw [← hy] at cpk hp256
        by_cases ho : y % 2 = 1
        · have o1 : (y : Int) % 2 = 1 := by omega
          have HODD : Hid (ps.getD q 0 % 2 = 1) := by rw [← hy]; exact ho
          have HPL : Hid (q < ps.length) := hpl
          clear hvw hy ho hpl
          obtain ⟨Gq, hri, hst⟩ := HX.out
          obtain ⟨dp, dc, ds, lp, lc, fs, hrl⟩ := hri
          have hql : q < A1.L.length := by rw [← HM.out]; exact hlt
          obtain ⟨hon, hkn⟩ := HFIT.out A1.L[q] (List.getElem_mem hql)
          obtain ⟨dg, lg, sg, c, u, ov, rfl, rfl, hdN, z0, z2, z3, z4, z5, z6, zc, zf, zv, hsg, n1, n2, n3, hfin⟩ := hrl.ready (A := A1.picked ps q) (q := q) hql (by show ((A1.picked ps q).D.getD A1.L[q].d none).isSome = true; unfold AM.RA.picked; simp only; rw [rpicks_on]; exact hon) hkn
          have HNXT : Hid (∀ (w1 : World) (u1 : Value), wr.grownBy w1 none → Own wr.heap.size w1 u1 A1.L[q].b → ∃ G', RIs G' (w1.setCell ⟨sg, A1.L[q].k, none⟩ u1) r (A1.picked ps (q + 1)) ∧ Step G w G' (w1.setCell ⟨sg, A1.L[q].k, none⟩ u1)) := fun w1 u1 g hu1 => by
            obtain ⟨G', a1, a2⟩ := hfin w1 u1 g hu1
            exact ⟨G', (by rw [picked_odd' hql HPL.out HODD.out]; exact a1), hst.trans a2⟩
          have hDl : (A1.picked ps q).D.length = N := by rw [HN.out]; exact rpicks_len _ _
          have hLl : A1.L.length = M := HM.out.symm
          obtain ⟨pu, nu, mu, rfl, hnu⟩ := zv.opened
          clear hnu
          have s0 : wr.cell? ⟨r, 0, none⟩ = some (.slice (some ⟨dg, 0, none⟩) N dc) := by rw [← hDl]; exact z0
          have s2 : wr.cell? ⟨r, 2, none⟩ = some (.slice (some ⟨lg, 0, none⟩) M lc) := by rw [← hLl]; exact z2
          have s3 : wr.cell? ⟨lg, q * 3, none⟩ = some (.int .i64 (A1.L[q].d : Int)) := z3
          have s4 : wr.cell? ⟨lg, q * 3 + 1, none⟩ = some (.int .i64 (A1.L[q].k : Int)) := z4
          have s5 : wr.cell? ⟨lg, q * 3 + 2, none⟩ = some (.slice pu nu mu) := z5
          have s6 : wr.cell? ⟨dg, A1.L[q].d * 2, none⟩ = some (.slice (some ⟨sg, 0, none⟩) A1.n c) := z6
          have co : wr.cell? ⟨sg, A1.L[q].k, none⟩ = some ov := zc
          have fo : wr.frozen? ⟨sg, A1.L[q].k, none⟩ = false := zf
          have hvu : Vec wr (.slice pu nu mu) A1.L[q].b := zv
          clear z0 z2 z3 z4 z5 z6 zc zf zv
          have hdD : A1.L[q].d < N := by rw [← hDl]; exact hdN
          have HSLT : Hid (sg < wr.heap.size) := hrl.lt sg hsg
          have HBF : Hid (wr.heap[sg]? = wr.heap[sg]?) := rfl
          have HB : Hid (Vec wr (.slice pu nu mu) A1.L[q].b) := hvu
          generalize A1.L[q].d = D at *
          generalize A1.L[q].k = K at *
          generalize A1.L[q].b = B at *
          obtain ⟨n, hn⟩ : ∃ n, n = A1.n := ⟨_, rfl⟩
          rw [← hn] at s6 hkn
          have hn4 : n ≤ 4096 := by rw [hn]; exact hrl.n2
          clear hn
          have kn : (K : Int) < (n : Int) := by omega
          have dn : (D : Int) < (N : Int) := by omega
          have HS : Hid (wr.cell? ⟨r, 0, none⟩ = some (.slice (some ⟨dg, 0, none⟩) N dc) ∧ wr.cell? ⟨r, 2, none⟩ = some (.slice (some ⟨lg, 0, none⟩) M lc) ∧ wr.cell? ⟨lg, q * 3, none⟩ = some (.int .i64 (D : Int)) ∧ wr.cell? ⟨lg, q * 3 + 1, none⟩ = some (.int .i64 (K : Int)) ∧ wr.cell? ⟨lg, q * 3 + 2, none⟩ = some (.slice pu nu mu) ∧ wr.cell? ⟨dg, D * 2, none⟩ = some (.slice (some ⟨sg, 0, none⟩) n c)) := ⟨s0, s2, s3, s4, s5, s6⟩
          have HSK : Hid (∀ W, wr.grownBy W none → W.cell? ⟨r, 0, none⟩ = some (.slice (some ⟨dg, 0, none⟩) N dc) ∧ W.cell? ⟨r, 2, none⟩ = some (.slice (some ⟨lg, 0, none⟩) M lc) ∧ W.cell? ⟨lg, q * 3, none⟩ = some (.int .i64 (D : Int)) ∧ W.cell? ⟨lg, q * 3 + 1, none⟩ = some (.int .i64 (K : Int)) ∧ W.cell? ⟨lg, q * 3 + 2, none⟩ = some (.slice pu nu mu) ∧ W.cell? ⟨dg, D * 2, none⟩ = some (.slice (some ⟨sg, 0, none⟩) n c)) := fun W g => ⟨g.cell s0 (by simp), g.cell s2 (by simp), g.cell s3 (by simp), g.cell s4 (by simp), g.cell s5 (by simp), g.cell s6 (by simp)⟩
          have HSS : Hid (∀ (W : World) (v : Value), wr.grownBy W none → (W.setCell ⟨sg, K, none⟩ v).cell? ⟨r, 0, none⟩ = some (.slice (some ⟨dg, 0, none⟩) N dc) ∧ (W.setCell ⟨sg, K, none⟩ v).cell? ⟨r, 2, none⟩ = some (.slice (some ⟨lg, 0, none⟩) M lc) ∧ (W.setCell ⟨sg, K, none⟩ v).cell? ⟨lg, q * 3, none⟩ = some (.int .i64 (D : Int)) ∧ (W.setCell ⟨sg, K, none⟩ v).cell? ⟨lg, q * 3 + 1, none⟩ = some (.int .i64 (K : Int)) ∧ (W.setCell ⟨sg, K, none⟩ v).cell? ⟨lg, q * 3 + 2, none⟩ = some (.slice pu nu mu) ∧ (W.setCell ⟨sg, K, none⟩ v).cell? ⟨dg, D * 2, none⟩ = some (.slice (some ⟨sg, 0, none⟩) n c)) := fun W v g => by
            obtain ⟨a1, a2, a3, a4, a5, a6⟩ := HSK.out W g
            exact ⟨by rw [World.cell?_setCell_far _ _ _ _ (Ne.symm n1)]; exact a1, by rw [World.cell?_setCell_far _ _ _ _ (Ne.symm n1)]; exact a2, by rw [World.cell?_setCell_far _ _ _ _ (Ne.symm n2)]; exact a3, by rw [World.cell?_setCell_far _ _ _ _ (Ne.symm n2)]; exact a4, by rw [World.cell?_setCell_far _ _ _ _ (Ne.symm n2)]; exact a5, by rw [World.cell?_setCell_far _ _ _ _ (Ne.symm n3)]; exact a6⟩
          have HCF : Hid (∀ W, wr.grownBy W none → W.cell? ⟨sg, K, none⟩ = some ov ∧ W.frozen? ⟨sg, K, none⟩ = false) := fun W g => ⟨g.cell co (by simp), by rw [World.frozen?_of_block (w := wr) (g.block sg HSLT.out (by simp))]; exact fo⟩
          clear hrl hfin hvu hsg s0 s3 s4 s5 s6 co fo n1 n2 n3 hst HX hon HBF hDl hLl hdN
          go_wp2_with fail
          go_region_held3 (fun w' => w'.cell? ⟨r, 0, none⟩ = some (.slice (some ⟨dg, 0, none⟩) N dc) ∧ w'.cell? ⟨r, 2, none⟩ = some (.slice (some ⟨lg, 0, none⟩) M lc) ∧ w'.cell? ⟨lg, q * 3, none⟩ = some (.int .i64 (D : Int)) ∧ w'.cell? ⟨lg, q * 3 + 1, none⟩ = some (.int .i64 (K : Int)) ∧ w'.cell? ⟨lg, q * 3 + 2, none⟩ = some (.slice pu nu mu) ∧ w'.cell? ⟨dg, D * 2, none⟩ = some (.slice (some ⟨sg, 0, none⟩) n c)) (first | exact HS.out | exact HSK.out _ (by first | exact World.grownBy.refl _ _ | exact gb_drew (World.grownBy.refl _ _) | exact gb_drew (gb_drew (World.grownBy.refl _ _))) | exact HSK.out _ HGF.out | exact HSK.out _ (gb_drew HGF.out) | exact HSS.out _ _ HGF.out | exact HSS.out _ _ (gb_drew HGF.out))
            ((go_at_call 44; refine (own_any (HB.out.keep (by first | exact World.grownBy.refl _ _ | exact gb_drew (World.grownBy.refl _ _) | exact gb_drew (gb_drew (World.grownBy.refl _ _))))).mono ?_; rintro e w8 ⟨p8, n8, c8, rfl, ho8, hg8⟩; have HGF : Hid (wr.grownBy w8 none) := grown_trans (by first | exact World.grownBy.refl _ _ | exact gb_drew (World.grownBy.refl _ _) | exact gb_drew (gb_drew (World.grownBy.refl _ _))) hg8; have co := (HCF.out _ HGF.out).1; have fo := (HCF.out _ HGF.out).2; have HX9 : Hid (∃ G', RIs G' (w8.setCell ⟨sg, K, none⟩ (.slice p8 n8 c8)) r (A1.picked ps (q + 1)) ∧ Step G w G' (w8.setCell ⟨sg, K, none⟩ (.slice p8 n8 c8))) := HNXT.out _ _ HGF.out ho8; clear ho8 hg8))
          have HX10 : Hid (∃ G', RIs G' (w8.setCell ⟨sg, K, none⟩ (.slice p8 n8 c8)).drew r (A1.picked ps (q + 1)) ∧ Step G w G' (w8.setCell ⟨sg, K, none⟩ (.slice p8 n8 c8)).drew) := by
            obtain ⟨G', a1, a2⟩ := HX9.out
            exact ⟨G', a1.keep (grown_drewN _ 1), a2.trans (Step.new (grown_drewN _ 1))⟩
          go_wp2
          go_roundw
          case rel => exact ⟨q + 1, by omega, by go_num, by first | exact HX9 | exact HX10⟩
          case measure => simp [intOf]; omega
        · have o1 : (y : Int) % 2 = 0 := by omega
          obtain ⟨Gq, hri, hst⟩ := HX.out
          have hql : q < A1.L.length := by rw [← HM.out]; exact hlt
          have HX9 : Hid (∃ G', RIs G' wr r (A1.picked ps (q + 1)) ∧ Step G w G' wr) := ⟨Gq, by rw [picked_even' hql hpl (by rw [← hy]; exact ho)]; exact hri, hst⟩
          obtain ⟨dp, dc, ds, lp, lc, fs, hrl⟩ := hri
          obtain ⟨_, _, z2, _, _⟩ := hrl.topCells
          have s2 : wr.cell? ⟨r, 2, none⟩ = some (.slice lp M lc) := by rw [HM.out]; exact z2
          clear z2 hrl hst hvw hy ho hpl HX hql
          go_wp2
          go_roundw
          case rel => exact ⟨q + 1, by omega, by go_num, HX9⟩
          case measure => simp [intOf]; omega
      · have i5 : ¬ (q : Int) < (m : Int) := by omega
        obtain ⟨Gq, hri, hst⟩ := HX.out
        obtain ⟨dp, dc, ds, lp, lc, fs, hrl⟩ := hri
        obtain ⟨z0, z1, z2, z3, z4⟩ := hrl.topCells
        have s2 : wr.cell? ⟨r, 2, none⟩ = some (.slice lp M lc) := by rw [HM.out]; exact z2
        have f2 := topFrozen 2 hrl.top
        have f3 := topFrozen 3 hrl.top
        have f4 := topFrozen 4 hrl.top
        have HF : Hid (RIs Gq (((wr.setCell ⟨r, 2, none⟩ (.slice none 0 0)).setCell ⟨r, 3, none⟩ (.int .i64 0)).setCell ⟨r, 4, none⟩ (.bool false)) r (A1.crash ps) ∧ Step G w Gq (((wr.setCell ⟨r, 2, none⟩ (.slice none 0 0)).setCell ⟨r, 3, none⟩ (.int .i64 0)).setCell ⟨r, 4, none⟩ (.bool false))) := ⟨by rw [← picked_all (A := A1) (ps := ps) (q := q) (by have := HPS.out; omega)]; exact hrl.reset.1, hst.trans hrl.reset.2⟩
        clear z0 z1 z2 hrl hst HX
        go_wp2
        go_end0
        exact ⟨rfl, Gq, HF.out⟩
    · have i1 : ¬ (q : Int) < (M : Int) := by omega
      obtain ⟨Gq, hri, hst⟩ := HX.out
      obtain ⟨dp, dc, ds, lp, lc, fs, hrl⟩ := hri
      obtain ⟨z0, z1, z2, z3, z4⟩ := hrl.topCells
      have s2 : wr.cell? ⟨r, 2, none⟩ = some (.slice lp M lc) := by rw [HM.out]; exact z2
      have f2 := topFrozen 2 hrl.top
      have f3 := topFrozen 3 hrl.top
      have f4 := topFrozen 4 hrl.top
      have HF : Hid (RIs Gq (((wr.setCell ⟨r, 2, none⟩ (.slice none 0 0)).setCell ⟨r, 3, none⟩ (.int .i64 0)).setCell ⟨r, 4, none⟩ (.bool false)) r (A1.crash ps) ∧ Step G w Gq (((wr.setCell ⟨r, 2, none⟩ (.slice none 0 0)).setCell ⟨r, 3, none⟩ (.int .i64 0)).setCell ⟨r, 4, none⟩ (.bool false))) := ⟨by rw [← picked_all (A := A1) (ps := ps) (q := q) (by have := HM.out; omega)]; exact hrl.reset.1, hst.trans hrl.reset.2⟩
      clear z0 z1 z2 hrl hst HX
      go_wp2
      go_end0
      exact ⟨rfl, Gq, HF.out⟩
end
end Go.Proofs.Ytfmlohedebdomaa
