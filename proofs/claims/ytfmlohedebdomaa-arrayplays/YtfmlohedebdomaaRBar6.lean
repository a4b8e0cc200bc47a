/- The document's array: the contracts of Barrier and Crash. -/
import Derived.Test.YtfmlohedebdomaaSimM
import Derived.Deep.RegionHeld3
set_option linter.unusedSimpArgs false
set_option linter.unusedVariables false
namespace Go.Proofs.Ytfmlohedebdomaa
open Go.RowKit

namespace AM.RA
/-- The flights are for disks that are on, and sectors that are there. -/
def Fit (A : RA) : Prop := ∀ l ∈ A.L, (A.D.getD l.d none).isSome = true ∧ l.k < A.n
def laid (A : RA) (q : Nat) : RA := { A with D := (A.L.take q).foldl (fun D l => rlay D l.d l.k l.b) A.D }
end AM.RA
theorem rlay_on (D : List (Option (List (List Nat)))) (d k : Nat) (b : List Nat) (e : Nat) : ((AM.rlay D d k b).getD e none).isSome = (D.getD e none).isSome := by
  unfold AM.rlay
  by_cases h : d = e
  · subst h
    by_cases hl : d < D.length
    · simp [List.getD, hl]
    · simp [List.getD, hl]
  · simp only [List.getD]
    rw [List.getElem?_set_ne h]
theorem rlays_on (L : List AM.Fl) : ∀ (D : List (Option (List (List Nat)))) (e : Nat), ((L.foldl (fun D l => AM.rlay D l.d l.k l.b) D).getD e none).isSome = (D.getD e none).isSome := by
  induction L with
  | nil => intro D e; rfl
  | cons l r ih => intro D e; simp only [List.foldl_cons]; rw [ih, rlay_on]
theorem laid_step {A : AM.RA} {q : Nat} (hq : q < A.L.length) : A.laid (q + 1) = { A.laid q with D := AM.rlay (A.laid q).D A.L[q].d A.L[q].k A.L[q].b } := by
  simp only [AM.RA.laid]
  rw [List.take_succ_eq_append_getElem hq, List.foldl_append]
  rfl
theorem some_of {α : Type} {D : List (Option α)} {e : Nat} (h : (D.getD e none).isSome = true) : ∃ x, D[e]? = some (some x) := by
  simp only [List.getD] at h
  cases hq : D[e]? with
  | none => simp [hq] at h
  | some o => cases o with
    | none => simp [hq] at h
    | some x => exact ⟨x, rfl⟩
theorem rlay_at {D : List (Option (List (List Nat)))} {d : Nat} {ss : List (List Nat)} (h : D[d]? = some (some ss)) (k : Nat) (b : List Nat) : AM.rlay D d k b = D.set d (some (ss.set k b)) := by
  unfold AM.rlay
  simp [List.getD, h]

section
variable {G : Nat → Prop} {w : World} {r : Nat} {A : AM.RA}
/-- One flight laid: what the region reads, and what it leaves. -/
theorem RL.ready {dp : Option Addr} {dc : Nat} {ds : List Value} {lp : Option Addr} {lc : Nat} {fs : List Value} (h : RL G w r dp dc ds lp lc fs A) {q : Nat} (hq : q < A.L.length) (hon : (A.D.getD (A.L[q]'hq).d none).isSome = true) (hk : (A.L[q]'hq).k < A.n) :
    ∃ (dg lg sg c : Nat) (u ov : Value), dp = some ⟨dg, 0, none⟩ ∧ lp = some ⟨lg, 0, none⟩ ∧ (A.L[q]'hq).d < A.D.length ∧ w.cell? ⟨r, 0, none⟩ = some (.slice (some ⟨dg, 0, none⟩) A.D.length dc) ∧ w.cell? ⟨r, 2, none⟩ = some (.slice (some ⟨lg, 0, none⟩) A.L.length lc) ∧
      w.cell? ⟨lg, q * 3, none⟩ = some (.int .i64 ((A.L[q]'hq).d : Int)) ∧ w.cell? ⟨lg, q * 3 + 1, none⟩ = some (.int .i64 ((A.L[q]'hq).k : Int)) ∧ w.cell? ⟨lg, q * 3 + 2, none⟩ = some u ∧ w.cell? ⟨dg, (A.L[q]'hq).d * 2, none⟩ = some (.slice (some ⟨sg, 0, none⟩) A.n c) ∧
      w.cell? ⟨sg, (A.L[q]'hq).k, none⟩ = some ov ∧ w.frozen? ⟨sg, (A.L[q]'hq).k, none⟩ = false ∧ Vec w u (A.L[q]'hq).b ∧ G sg ∧ r ≠ sg ∧ lg ≠ sg ∧ dg ≠ sg ∧
      (∀ (w1 : World) (u1 : Value), w.grownBy w1 none → Own w.heap.size w1 u1 (A.L[q]'hq).b → (∃ G', RIs G' (w1.setCell ⟨sg, (A.L[q]'hq).k, none⟩ u1) r { A with D := AM.rlay A.D (A.L[q]'hq).d (A.L[q]'hq).k (A.L[q]'hq).b } ∧ Step G w G' (w1.setCell ⟨sg, (A.L[q]'hq).k, none⟩ u1))) := by
  obtain ⟨ss, hss⟩ := some_of hon
  have hdl : (A.L[q]'hq).d < A.D.length := (List.getElem?_eq_some_iff.1 hss).1
  obtain ⟨c0, _, c2, _, _⟩ := h.topCells
  obtain ⟨dg, v, rfl, hv, e0, _, cd, hcd⟩ := h.disk hdl
  obtain ⟨lg, u, rfl, _, f0, f1, f2, hu, cl, hcl⟩ := h.flight hq
  obtain ⟨sg, c, ov, b, rfl, co, fo, _, _, hsg, cs, hcs⟩ := h.place hv hss hk
  refine ⟨dg, lg, sg, c, u, ov, rfl, rfl, hdl, c0, c2, f0, f1, f2, e0, co, fo, hu.vec, hsg, ne_ty h.top hcs (by decide), ne_ty hcl hcs (by decide), ne_ty hcd hcs (by decide), fun w1 u1 g1 hu1 => ?_⟩
  refine ⟨_, by rw [rlay_at hss]; exact (h.laid g1 hv hss hk hu1).is, ⟨⟨g1.os, g1.tape, g1.output, by simpa using g1.size, fun i hi hn => ?_⟩, fun i hi => ?_⟩⟩
  · rw [Below.heap_setCell _ _ _ _ (by intro e; have e : i = sg := e; rw [e] at hn; exact hn hsg)]
    exact g1.block i hi (by simp)
  · rcases hi with hi | hi
    · exact .inl hi
    · exact .inr (rows_blk hu1.row hi).1
theorem RL.gone {dp : Option Addr} {dc : Nat} {ds : List Value} {lp : Option Addr} {lc : Nat} {fs : List Value} (h : RL G w r dp dc ds lp lc fs A) : RL G (w.setCell ⟨r, 2, none⟩ (.slice none 0 0)) r dp dc ds none 0 [] { A with L := [] } :=
  h.flown (old := none) (fun _ h => h) h.lt (World.grownBy.refl w none) (fun g e => by cases e) (L' := []) (fs' := []) (lp' := none) (lc' := 0) (World.ownsRow_nil w 0 84 3) rfl (fun g hg => by cases hg) (fun i u x hu => by simp at hu) rfl

theorem laid_len (A : AM.RA) (q : Nat) : (A.laid q).D.length = A.D.length := by
  unfold AM.RA.laid
  generalize A.L.take q = Z
  simp only
  induction Z generalizing A with
  | nil => rfl
  | cons l r ih => simp only [List.foldl_cons]; have := ih { A with D := AM.rlay A.D l.d l.k l.b }; simp only at this; rw [this]; simp [AM.rlay]
set_option maxHeartbeats 3200000 in
set_option maxRecDepth 100000 in
theorem rbarrier_any (h : RIs G w r A) (hfit : A.Fit) (hL : A.L.length ≤ 1000000) : Calls Try.prog 19 #[rptr r] w fun e w' => e = .returned (.int .i64 (A.barrier.1 : Int)) ∧ ∃ G', RIs G' w' r A.barrier.2 ∧ Step G w G' w' := by
  have HI : Hid (RIs G w r A) := h
  obtain ⟨dp, dc, ds, lp, lc, fs, hrl⟩ := h
  obtain ⟨_, _, _, _, c4⟩ := hrl.topCells
  clear hrl
  cases hd : A.dark with
  | true =>
    rw [hd] at c4
    have HV : Hid (A.barrier = (8, A)) := by show _ = _; simp [AM.RA.barrier, hd]
    clear hd hfit
    go_enter Try.func19, Try.ntmps19
    go_wp2
    go_ret
    exact ⟨by rw [HV.out]; rfl, G, by rw [HV.out]; exact HI.out, Step.refl G w⟩
  | false =>
    rw [hd] at c4
    have hgo := rgoes_yes HI.out hd
    cases hbu : A.burns with
    | true =>
      rw [hbu] at hgo
      have HGO : Hid (Calls Try.prog 43 #[rptr r] w fun e w' => e = .returned (.bool true) ∧ RIs G w' r A.burnt ∧ Step G w G w') := hgo
      have HV : Hid (A.barrier = (8, A.burnt)) := by show _ = _; simp [AM.RA.barrier, hd, hbu]
      clear hd hfit hgo hbu
      go_enter Try.func19, Try.ntmps19
      go_wp2_with (go_at_call 43; refine HGO.out.mono ?_; rintro e w1 ⟨rfl, hi1, hs1⟩; have HI1 : Hid (RIs G w1 r A.burnt ∧ Step G w G w1) := ⟨hi1, hs1⟩; clear hi1 hs1)
      go_ret
      exact ⟨by rw [HV.out]; rfl, G, by rw [HV.out]; exact HI1.out.1, HI1.out.2⟩
    | false =>
      rw [hbu] at hgo
      have HGO : Hid (Calls Try.prog 43 #[rptr r] w fun e w' => e = .returned (.bool false) ∧ RIs G w' r A.burnt ∧ Step G w G w') := hgo
      obtain ⟨b1, b2, b3⟩ := AM.rburnt_D A
      have HV : Hid (A.barrier = (0, { A.burnt.laid A.burnt.L.length with L := [] })) := by
        show _ = _
        simp [AM.RA.barrier, hd, hbu, AM.RA.laid, b1, b3]
      have HFIT : Hid (A.burnt.Fit) := fun l hl => by rw [b1, b2]; exact hfit l (by rw [← b3]; exact hl)
      rw [← b3] at hL
      obtain ⟨A1, hA1⟩ : ∃ A1, A1 = A.burnt := ⟨_, rfl⟩
      rw [← hA1] at HGO HV HFIT hL
      obtain ⟨M, hM⟩ : ∃ M, M = A1.L.length := ⟨_, rfl⟩
      obtain ⟨N, hN⟩ : ∃ N, N = A1.D.length := ⟨_, rfl⟩
      have HM : Hid (M = A1.L.length) := hM
      have HN : Hid (N = A1.D.length) := hN
      rw [← hM] at hL
      clear hd hfit hgo hbu b1 b2 b3 hA1 hM hN
      go_enter Try.func19, Try.ntmps19
      go_wp2_with (go_at_call 43; refine HGO.out.mono ?_; rintro e w1 ⟨rfl, hi1, hs1⟩; have HI1 : Hid (RIs G w1 r A1 ∧ Step G w G w1) := ⟨hi1, hs1⟩; clear hi1 hs1)
      have HD2 : Hid (N ≤ 255) := by
        obtain ⟨dp, dc, ds, lp, lc, fs, h1⟩ := HI1.out.1
        show _ ≤ _
        rw [HN.out]; exact h1.d2
      go_loopw [3] (fun ti wr => ∃ q : Nat, q ≤ M ∧ ti = .int .i64 (q : Int) ∧ Hid (∃ G', RIs G' wr r (A1.laid q) ∧ Step G w G' wr)) (fun ti _ => M - (intOf ti).toNat)
      case atStart => exact ⟨0, by omega, rfl, G, HI1.out.1, HI1.out.2⟩
      case round =>
        clear HI1
        obtain ⟨q, hq, rfl, HX⟩ := hrel
        by_cases hlt : q < M
        · have i1 : (q : Int) < (M : Int) := by omega
          have hN255 := HD2.out
          obtain ⟨Gq, hri, hst⟩ := HX.out
          obtain ⟨dp, dc, ds, lp, lc, fs, hrl⟩ := hri
          have hql : q < A1.L.length := by rw [← HM.out]; exact hlt
          obtain ⟨hon, hkn⟩ := HFIT.out A1.L[q] (List.getElem_mem hql)
          obtain ⟨dg, lg, sg, c, u, ov, rfl, rfl, hdN, z0, z2, z3, z4, z5, z6, zc, zf, zv, hsg, n1, n2, n3, hfin⟩ := hrl.ready (A := A1.laid q) (q := q) hql (by show ((A1.laid q).D.getD A1.L[q].d none).isSome = true; unfold AM.RA.laid; simp only; rw [rlays_on]; exact hon) hkn
          have HNXT : Hid (∀ (w1 : World) (u1 : Value), wr.grownBy w1 none → Own wr.heap.size w1 u1 A1.L[q].b → ∃ G', RIs G' (w1.setCell ⟨sg, A1.L[q].k, none⟩ u1) r (A1.laid (q + 1)) ∧ Step G w G' (w1.setCell ⟨sg, A1.L[q].k, none⟩ u1)) := fun w1 u1 g hu1 => by
            obtain ⟨G', a1, a2⟩ := hfin w1 u1 g hu1
            exact ⟨G', (by rw [laid_step hql]; exact a1), hst.trans a2⟩
          have hDl : (A1.laid q).D.length = N := by rw [HN.out]; exact laid_len A1 q
          have hLl : A1.L.length = M := HM.out.symm
          obtain ⟨pu, nu, mu, rfl, hnu⟩ := zv.opened
          clear hnu
          have s0 : wr.cell? ⟨r, 0, none⟩ = some (.slice (some ⟨dg, 0, none⟩) N dc) := by rw [← hDl]; exact z0
          have s2 : wr.cell? ⟨r, 2, none⟩ = some (.slice (some ⟨lg, 0, none⟩) M lc) := by rw [← hLl]; exact z2
          have s3 : wr.cell? ⟨lg, q * 3, none⟩ = some (.int .i64 (A1.L[q].d : Int)) := z3
          have s4 : wr.cell? ⟨lg, q * 3 + 1, none⟩ = some (.int .i64 (A1.L[q].k : Int)) := z4
          have s5 : wr.cell? ⟨lg, q * 3 + 2, none⟩ = some (.slice pu nu mu) := z5
          have s6 : wr.cell? ⟨dg, A1.L[q].d * 2, none⟩ = some (.slice (some ⟨sg, 0, none⟩) A1.n c) := z6
          have co : wr.cell? ⟨sg, A1.L[q].k, none⟩ = some ov := zc
          have fo : wr.frozen? ⟨sg, A1.L[q].k, none⟩ = false := zf
          have hvu : Vec wr (.slice pu nu mu) A1.L[q].b := zv
          clear z0 z2 z3 z4 z5 z6 zc zf zv
          have hdD : A1.L[q].d < N := by rw [← hDl]; exact hdN
          have HSLT : Hid (sg < wr.heap.size) := hrl.lt sg hsg
          have HBF : Hid (wr.heap[sg]? = wr.heap[sg]?) := rfl
          have HB : Hid (Vec wr (.slice pu nu mu) A1.L[q].b) := hvu
          generalize A1.L[q].d = D at *
          generalize A1.L[q].k = K at *
          generalize A1.L[q].b = B at *
          obtain ⟨n, hn⟩ : ∃ n, n = A1.n := ⟨_, rfl⟩
          rw [← hn] at s6 hkn
          have hn4 : n ≤ 4096 := by rw [hn]; exact hrl.n2
          clear hn
          have kn : (K : Int) < (n : Int) := by omega
          have dn : (D : Int) < (N : Int) := by omega
          have HS : Hid (wr.cell? ⟨r, 0, none⟩ = some (.slice (some ⟨dg, 0, none⟩) N dc) ∧ wr.cell? ⟨r, 2, none⟩ = some (.slice (some ⟨lg, 0, none⟩) M lc) ∧ wr.cell? ⟨lg, q * 3, none⟩ = some (.int .i64 (D : Int)) ∧ wr.cell? ⟨lg, q * 3 + 1, none⟩ = some (.int .i64 (K : Int)) ∧ wr.cell? ⟨lg, q * 3 + 2, none⟩ = some (.slice pu nu mu) ∧ wr.cell? ⟨dg, D * 2, none⟩ = some (.slice (some ⟨sg, 0, none⟩) n c)) := ⟨s0, s2, s3, s4, s5, s6⟩
          have HSK : Hid (∀ W, wr.grownBy W none → W.cell? ⟨r, 0, none⟩ = some (.slice (some ⟨dg, 0, none⟩) N dc) ∧ W.cell? ⟨r, 2, none⟩ = some (.slice (some ⟨lg, 0, none⟩) M lc) ∧ W.cell? ⟨lg, q * 3, none⟩ = some (.int .i64 (D : Int)) ∧ W.cell? ⟨lg, q * 3 + 1, none⟩ = some (.int .i64 (K : Int)) ∧ W.cell? ⟨lg, q * 3 + 2, none⟩ = some (.slice pu nu mu) ∧ W.cell? ⟨dg, D * 2, none⟩ = some (.slice (some ⟨sg, 0, none⟩) n c)) := fun W g => ⟨g.cell s0 (by simp), g.cell s2 (by simp), g.cell s3 (by simp), g.cell s4 (by simp), g.cell s5 (by simp), g.cell s6 (by simp)⟩
          have HSS : Hid (∀ (W : World) (v : Value), wr.grownBy W none → (W.setCell ⟨sg, K, none⟩ v).cell? ⟨r, 0, none⟩ = some (.slice (some ⟨dg, 0, none⟩) N dc) ∧ (W.setCell ⟨sg, K, none⟩ v).cell? ⟨r, 2, none⟩ = some (.slice (some ⟨lg, 0, none⟩) M lc) ∧ (W.setCell ⟨sg, K, none⟩ v).cell? ⟨lg, q * 3, none⟩ = some (.int .i64 (D : Int)) ∧ (W.setCell ⟨sg, K, none⟩ v).cell? ⟨lg, q * 3 + 1, none⟩ = some (.int .i64 (K : Int)) ∧ (W.setCell ⟨sg, K, none⟩ v).cell? ⟨lg, q * 3 + 2, none⟩ = some (.slice pu nu mu) ∧ (W.setCell ⟨sg, K, none⟩ v).cell? ⟨dg, D * 2, none⟩ = some (.slice (some ⟨sg, 0, none⟩) n c)) := fun W v g => by
            obtain ⟨a1, a2, a3, a4, a5, a6⟩ := HSK.out W g
            exact ⟨by rw [World.cell?_setCell_far _ _ _ _ (Ne.symm n1)]; exact a1, by rw [World.cell?_setCell_far _ _ _ _ (Ne.symm n1)]; exact a2, by rw [World.cell?_setCell_far _ _ _ _ (Ne.symm n2)]; exact a3, by rw [World.cell?_setCell_far _ _ _ _ (Ne.symm n2)]; exact a4, by rw [World.cell?_setCell_far _ _ _ _ (Ne.symm n2)]; exact a5, by rw [World.cell?_setCell_far _ _ _ _ (Ne.symm n3)]; exact a6⟩
          have HCF : Hid (∀ W, wr.grownBy W none → W.cell? ⟨sg, K, none⟩ = some ov ∧ W.frozen? ⟨sg, K, none⟩ = false) := fun W g => ⟨g.cell co (by simp), by rw [World.frozen?_of_block (w := wr) (g.block sg HSLT.out (by simp))]; exact fo⟩
          clear hrl hfin hvu hsg s0 s3 s4 s5 s6 co fo n1 n2 n3 hst HX hon HBF hDl hLl hdN
          go_wp2_with fail
          go_region_held3 (fun w' => w'.cell? ⟨r, 0, none⟩ = some (.slice (some ⟨dg, 0, none⟩) N dc) ∧ w'.cell? ⟨r, 2, none⟩ = some (.slice (some ⟨lg, 0, none⟩) M lc) ∧ w'.cell? ⟨lg, q * 3, none⟩ = some (.int .i64 (D : Int)) ∧ w'.cell? ⟨lg, q * 3 + 1, none⟩ = some (.int .i64 (K : Int)) ∧ w'.cell? ⟨lg, q * 3 + 2, none⟩ = some (.slice pu nu mu) ∧ w'.cell? ⟨dg, D * 2, none⟩ = some (.slice (some ⟨sg, 0, none⟩) n c)) (first | exact HS.out | exact HSK.out _ (by first | exact World.grownBy.refl _ _ | exact gb_drew (World.grownBy.refl _ _) | exact gb_drew (gb_drew (World.grownBy.refl _ _))) | exact HSK.out _ HGF.out | exact HSK.out _ (gb_drew HGF.out) | exact HSS.out _ _ HGF.out | exact HSS.out _ _ (gb_drew HGF.out))
            ((go_at_call 44; refine (own_any (HB.out.keep (by first | exact World.grownBy.refl _ _ | exact gb_drew (World.grownBy.refl _ _) | exact gb_drew (gb_drew (World.grownBy.refl _ _))))).mono ?_; rintro e w8 ⟨p8, n8, c8, rfl, ho8, hg8⟩; have HGF : Hid (wr.grownBy w8 none) := grown_trans (by first | exact World.grownBy.refl _ _ | exact gb_drew (World.grownBy.refl _ _) | exact gb_drew (gb_drew (World.grownBy.refl _ _))) hg8; have co := (HCF.out _ HGF.out).1; have fo := (HCF.out _ HGF.out).2; have HX9 : Hid (∃ G', RIs G' (w8.setCell ⟨sg, K, none⟩ (.slice p8 n8 c8)) r (A1.laid (q + 1)) ∧ Step G w G' (w8.setCell ⟨sg, K, none⟩ (.slice p8 n8 c8))) := HNXT.out _ _ HGF.out ho8; clear ho8 hg8))
          have HX10 : Hid (∃ G', RIs G' (w8.setCell ⟨sg, K, none⟩ (.slice p8 n8 c8)).drew r (A1.laid (q + 1)) ∧ Step G w G' (w8.setCell ⟨sg, K, none⟩ (.slice p8 n8 c8)).drew) := by
            obtain ⟨G', a1, a2⟩ := HX9.out
            exact ⟨G', a1.keep (grown_drewN _ 1), a2.trans (Step.new (grown_drewN _ 1))⟩
          go_wp2
          go_roundw
          case rel => exact ⟨q + 1, by omega, by go_num, by first | exact HX9 | exact HX10⟩
          case measure => simp [intOf]; omega
        · have i1 : ¬ (q : Int) < (M : Int) := by omega
          obtain rfl : q = M := by omega
          obtain ⟨Gq, hri, hst⟩ := HX.out
          obtain ⟨dp, dc, ds, lp, lc, fs, hrl⟩ := hri
          obtain ⟨_, _, z2, _, _⟩ := hrl.topCells
          have s2 : wr.cell? ⟨r, 2, none⟩ = some (.slice lp q lc) := by rw [HM.out]; exact z2
          clear z2
          have f2 := topFrozen 2 hrl.top
          have HF : Hid (RIs Gq (wr.setCell ⟨r, 2, none⟩ (.slice none 0 0)) r A.barrier.2 ∧ Step G w Gq (wr.setCell ⟨r, 2, none⟩ (.slice none 0 0))) := ⟨by rw [HV.out, ← HM.out]; exact hrl.gone.is, hst.trans (Step.of (grown_set wr r 2 _) (fun i e => by obtain rfl := Option.some.inj e; exact hrl.Gr))⟩
          have HV0 : Hid (A.barrier.1 = 0) := by rw [HV.out]; exact rfl
          clear hrl hst HX HV
          go_wp2
          go_ret
          exact ⟨by rw [HV0.out]; rfl, Gq, HF.out⟩
end
end Go.Proofs.Ytfmlohedebdomaa
