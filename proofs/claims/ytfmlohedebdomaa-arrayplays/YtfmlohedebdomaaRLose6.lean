/- The document's array: the contract of Lose. -/
import Derived.Test.YtfmlohedebdomaaROn6
import Derived.Test.YtfmlohedebdomaaRDset6
import Derived.Deep.MidRow
set_option linter.unusedSimpArgs false
set_option linter.unusedVariables false
namespace Go.Proofs.Ytfmlohedebdomaa
open Go.RowKit

def krow (Z : List (Value × AM.Fl)) : List Value := Z.flatMap (fun x => [.int .i64 (x.2.d : Int), .int .i64 (x.2.k : Int), x.1])
theorem frow_krow (fs : List Value) (L : List AM.Fl) : frow fs L = krow (fs.zip L) := rfl
/-- Of the first q flights those that are not the disk d's. -/
def kz (fs : List Value) (L : List AM.Fl) (d q : Nat) : List (Value × AM.Fl) := ((fs.zip L).take q).filter (fun x => !(x.2.d == d))
theorem kz_yes {fs : List Value} {L : List AM.Fl} {d q : Nat} {u : Value} {x : AM.Fl} (hu : fs[q]? = some u) (hx : L[q]? = some x) (h : x.d ≠ d) : kz fs L d (q + 1) = kz fs L d q ++ [(u, x)] := by
  have hz : (fs.zip L)[q]? = some (u, x) := by rw [List.getElem?_zip_eq_some]; exact ⟨hu, hx⟩
  obtain ⟨hl, he⟩ := List.getElem?_eq_some_iff.1 hz
  unfold kz
  rw [List.take_succ_eq_append_getElem hl, List.filter_append, he, List.filter_cons_of_pos (by simp [h])]
  rfl
theorem kz_no {fs : List Value} {L : List AM.Fl} {d q : Nat} {u : Value} {x : AM.Fl} (hu : fs[q]? = some u) (hx : L[q]? = some x) (h : x.d = d) : kz fs L d (q + 1) = kz fs L d q := by
  have hz : (fs.zip L)[q]? = some (u, x) := by rw [List.getElem?_zip_eq_some]; exact ⟨hu, hx⟩
  obtain ⟨hl, he⟩ := List.getElem?_eq_some_iff.1 hz
  unfold kz
  rw [List.take_succ_eq_append_getElem hl, List.filter_append, he, List.filter_cons_of_neg (by simp [h])]
  simp
theorem kz_le (fs : List Value) (L : List AM.Fl) (d q : Nat) : (kz fs L d q).length ≤ q := Nat.le_trans (List.length_filter_le _ _) (by simp; omega)
theorem kz_snd : ∀ (fs : List Value) (L : List AM.Fl) (d : Nat), fs.length = L.length → (kz fs L d L.length).map (·.2) = L.filter (fun l => !(l.d == d)) := by
  intro fs L d h
  have e : (fs.zip L).take L.length = fs.zip L := List.take_of_length_le (by simp; omega)
  unfold kz
  rw [e]
  clear e
  induction fs generalizing L with
  | nil => cases L with
    | nil => rfl
    | cons _ _ => simp at h
  | cons u r ih => cases L with
    | nil => simp at h
    | cons x s =>
      have := ih s (by simpa using h)
      by_cases c : x.d = d
      · simp [c, this]
      · simp [c, this]
theorem kz_mem {fs : List Value} {L : List AM.Fl} {d q i : Nat} {u : Value} {x : AM.Fl} (h : (kz fs L d q)[i]? = some (u, x)) : ∃ j : Nat, fs[j]? = some u ∧ L[j]? = some x := by
  have h1 := List.mem_of_getElem? h
  have h2 := List.mem_of_mem_take (List.mem_filter.1 h1).1
  obtain ⟨j, hj, e⟩ := List.mem_iff_getElem.1 h2
  have : (fs.zip L)[j]? = some (u, x) := by rw [List.getElem?_eq_getElem hj, e]
  rw [List.getElem?_zip_eq_some] at this
  exact ⟨j, this⟩
theorem zip_parts (Z : List (Value × AM.Fl)) : (Z.map (·.1)).zip (Z.map (·.2)) = Z := by
  induction Z with
  | nil => rfl
  | cons x r ih => simp [ih]

section
variable {G : Nat → Prop} {w : World} {r : Nat} {A : AM.RA}
/-- What a round of the loop reads. -/
theorem RL.fcells {dp : Option Addr} {dc : Nat} {ds : List Value} {lp : Option Addr} {lc : Nat} {fs : List Value} (h : RL G w r dp dc ds lp lc fs A) {q : Nat} (hq : q < A.L.length) : ∃ (lg : Nat) (u : Value) (x : AM.Fl), lp = some ⟨lg, 0, none⟩ ∧ fs[q]? = some u ∧ A.L[q]? = some x ∧ (∃ pu nu mu, u = .slice pu nu mu) ∧
    w.cell? ⟨lg, q * 3, none⟩ = some (.int .i64 (x.d : Int)) ∧ w.rangeAt lg (q * 3) [.int .i64 (x.d : Int), .int .i64 (x.k : Int), u] := by
  obtain ⟨lg, u, e, hu, f0, f1, f2, ho, _⟩ := h.flight hq
  obtain ⟨pu, nu, mu, e2, _⟩ := ho.vec.opened
  refine ⟨lg, u, _, e, hu, List.getElem?_eq_getElem hq, ⟨pu, nu, mu, e2⟩, f0, fun j v hj => ?_⟩
  match j with
  | 0 => obtain rfl := Option.some.inj hj; exact f0
  | 1 => obtain rfl := Option.some.inj hj; exact f1
  | 2 => obtain rfl := Option.some.inj hj; exact f2
  | n + 3 => cases hj

set_option maxHeartbeats 3200000 in
set_option maxRecDepth 100000 in
theorem rlose_on (h : RIs G w r A) {d : Nat} (hd : d < A.D.length) (hon : (A.D.getD d none).isSome = true) (hL : A.L.length ≤ 1000000) : Calls Try.prog 21 #[rptr r, .int .i64 (d : Int)] w fun e w' => e = .returned (.int .i64 0) ∧ ∃ G', RIs G' w' r (A.lost d) ∧ Step G w G' w' := by
  obtain ⟨dp, dc, ds, lp, lc, fs, h⟩ := h
  have hD2 := h.d2
  obtain ⟨c0, y1, y2, y3, y4⟩ := h.topCells
  clear y1 y2 y3 y4
  obtain ⟨dg, v, rfl, hv, e0, z1, cc, hcc⟩ := h.disk hd
  have e1 : w.cell? ⟨dg, d * 2 + 1, none⟩ = some (.bool false) := by
    have : (A.D[d]'hd).isNone = false := by
      simp only [List.getD, List.getElem?_eq_getElem hd, Option.getD_some] at hon
      cases hq : A.D[d] with
      | none => rw [hq] at hon; cases hon
      | some _ => rfl
    rw [this] at z1; exact z1
  have fz0 := topFrozen (d * 2) hcc
  have fz1 := topFrozen (d * 2 + 1) hcc
  obtain ⟨W1, hW1⟩ : ∃ W1, W1 = (w.setCell ⟨dg, d * 2, none⟩ (.slice none 0 0)).setCell ⟨dg, d * 2 + 1, none⟩ (.bool true) := ⟨_, rfl⟩
  have h1 := h.dset (World.grownBy.refl w none) hd (v := .slice none 0 0) (o := none) (.inl ⟨rfl, rfl⟩)
  rw [show (Value.bool (none : Option (List (List Nat))).isNone) = .bool true from rfl, ← hW1] at h1
  have hh : (fun j => G j ∨ (w.heap.size ≤ j ∧ j < w.heap.size)) = G := by
    funext j
    apply propext
    constructor
    · rintro (h | h)
      · exact h
      · omega
    · exact Or.inl
  rw [hh] at h1
  clear hh
  have HST : Hid (Step G w G W1) := by
    rw [hW1]
    exact Step.of (grown_set2 (grown_set w dg _ _) _ _) (fun i e => by obtain rfl := Option.some.inj e; exact h.Gd _ rfl)
  obtain ⟨N, hN⟩ : ∃ N, N = A.D.length := ⟨_, rfl⟩
  obtain ⟨M, hM⟩ : ∃ M, M = A.L.length := ⟨_, rfl⟩
  rw [← hN] at c0 hD2 hd
  have HRL : Hid (RL G W1 r (some ⟨dg, 0, none⟩) dc (ds.set d (.slice none 0 0)) lp lc fs { A with D := A.D.set d none }) := h1
  have HM : Hid (M = A.L.length) := hM
  rw [← hM] at hL
  have HSZ : Hid (∀ i, G i → i < W1.heap.size) := h1.lt
  clear z1 h h1 hv hcc cc hon hN hM
  go_enter Try.func21, Try.ntmps21
  go_wp2
  rw [← hW1]
  clear e0 e1 fz0 fz1 hW1 c0
  go_loopw [5, 6] (fun tl ti wr => ∃ (q n c : Nat) (p : Option Addr), q ≤ M ∧ ti = .int .i64 (q : Int) ∧ tl = .slice p n c ∧ Hid (n = (kz fs A.L d q).length ∧ wr.ownsRow W1.heap.size 84 3 (.slice p n c) n (krow (kz fs A.L d q)) ∧ W1.grownBy wr none)) (fun _ ti _ => M - (intOf ti).toNat)
  case atStart => exact ⟨0, 0, 0, none, by omega, rfl, rfl, by simp [kz], by simp only [kz, List.take_zero, List.filter_nil]; exact World.ownsRow_nil _ _ _ _, World.grownBy.refl _ _⟩
  case round =>
    obtain ⟨q, n, c, p, hq, rfl, rfl, HX⟩ := hrel
    by_cases hlt : q < M
    · have i1 : (q : Int) < (M : Int) := by omega
      have hql : q < A.L.length := by rw [← HM.out]; exact hlt
      have hr := HRL.out.keep HX.out.2.2
      obtain ⟨_, _, z2, _, _⟩ := hr.topCells
      obtain ⟨lg, u, x, rfl, hu, hx, ⟨pu, nu, mu, rfl⟩, f0, hrg⟩ := hr.fcells (A := { A with D := A.D.set d none }) hql
      have s2 : wr.cell? ⟨r, 2, none⟩ = some (.slice (some ⟨lg, 0, none⟩) M lc) := by rw [HM.out]; exact z2
      have HRG : Hid (wr.rangeAt lg (q * 3) [.int .i64 (x.d : Int), .int .i64 (x.k : Int), .slice pu nu mu]) := hrg
      have hkl : (kz fs A.L d q).length ≤ q := kz_le ..
      clear z2 hr hrg
      by_cases c1 : x.d = d
      · have HS : Hid (kz fs A.L d (q + 1) = kz fs A.L d q) := kz_no hu hx c1
        rw [c1] at f0
        clear hu hx c1 HRG
        go_wp2
        go_roundw
        case rel => exact ⟨q + 1, n, c, p, by omega, by go_num, rfl, by rw [HS.out]; exact HX⟩
        case measure => simp [intOf]; omega
      · have HS : Hid (kz fs A.L d (q + 1) = kz fs A.L d q ++ [(.slice pu nu mu, x)]) := kz_yes hu hx c1
        have i2 : ¬ (x.d : Int) = (d : Int) := by omega
        have hlit := lit_fly wr (x.d : Int) (x.k : Int) pu nu mu
        obtain ⟨hn, hown, hg⟩ := HX.out
        have HN : Hid (n ≤ 1000000) := by show _ ≤ _; omega
        have HG1 : Hid (W1.grownBy (wr.alloc (.cells #[.int .i64 (x.d : Int), .int .i64 (x.k : Int), .slice pu nu mu] 84)) none) := gb_alloc hg _
        have HO1 : Hid ((wr.alloc (.cells #[.int .i64 (x.d : Int), .int .i64 (x.k : Int), .slice pu nu mu] 84)).ownsRow W1.heap.size 84 3 (.slice p n c) n (krow (kz fs A.L d q))) := ownsRow_same hown (fun g hg => Below.heap_alloc _ _ _ (rows_blk hown hg).2.1)
        have HLO : Hid (∀ g, (Value.slice p n c).ownBlock = some g → W1.heap.size ≤ g) := fun g hg => (rows_blk hown hg).1
        have HCE : Hid (∀ j u, ([.int .i64 (x.d : Int), .int .i64 (x.k : Int), .slice pu nu mu] : List Value)[j]? = some u → (wr.alloc (.cells #[.int .i64 (x.d : Int), .int .i64 (x.k : Int), .slice pu nu mu] 84)).cell? ((⟨wr.heap.size, 0, none⟩ : Addr).add j) = some u) := fun j u hj => by
          rw [add_at, Nat.zero_add]; exact topCell (heap_alloc_new wr _) (by simpa using hj)
        have HNE : Hid (n + 1 = (kz fs A.L d (q + 1)).length ∧ krow (kz fs A.L d (q + 1)) = krow (kz fs A.L d q) ++ [.int .i64 (x.d : Int), .int .i64 (x.k : Int), .slice pu nu mu]) := by
          rw [HS.out]
          exact ⟨by simp [hn], by unfold krow; rw [List.flatMap_append]; rfl⟩
        clear hu hx c1 hn hown hg HX hkl HS
        go_wp2_with (first
          | (refine wpList_load_mid rfl _ _ rfl _ _ rfl _ _ HRG.out Try.underlying84 rfl Try.sizeFly ?_)
          | (at_builtin; refine wpList_append_rows rfl _ _ rfl Try.underlying68 zeroFly rfl (by decide) rfl rfl HO1.out (news := [.int .i64 (x.d : Int), .int .i64 (x.k : Int), .slice pu nu mu]) rfl HCE.out (by intro u hu; simp at hu; rcases hu with rfl | rfl | rfl <;> rfl) (by have := HN.out; unfold maxLen; omega) (by have := HN.out; omega) (HG1.out.size) ?_; intro v9 w9 ho hg; have HO9 : Hid (w9.ownsRow W1.heap.size 84 3 v9 (n + 1) (krow (kz fs A.L d q) ++ [.int .i64 (x.d : Int), .int .i64 (x.k : Int), .slice pu nu mu])) := ho; have HG9 : Hid (W1.grownBy w9 none) := grown_new HG1.out hg (fun i e => HLO.out i e); clear ho hg)
          | fail)
        obtain ⟨p9, c9, rfl⟩ := rows_slice HO9.out
        have HX9 : Hid (n + 1 = (kz fs A.L d (q + 1)).length ∧ w9.ownsRow W1.heap.size 84 3 (.slice p9 (n + 1) c9) (n + 1) (krow (kz fs A.L d (q + 1))) ∧ W1.grownBy w9 none) := ⟨HNE.out.1, by rw [HNE.out.2]; exact HO9.out, HG9.out⟩
        go_roundw
        case rel => exact ⟨q + 1, by omega, by go_num, n + 1, c9, p9, rfl, HX9⟩
        case measure => simp [intOf]; omega
    · have i1 : ¬ (q : Int) < (M : Int) := by omega
      obtain rfl : q = M := by omega
      have hr := HRL.out.keep HX.out.2.2
      obtain ⟨_, _, z2, _, _⟩ := hr.topCells
      have s2 : wr.cell? ⟨r, 2, none⟩ = some (.slice lp q lc) := by rw [HM.out]; exact z2
      have f2 := topFrozen 2 hr.top
      obtain ⟨hn, hown, hg⟩ := HX.out
      have hfl : fs.length = A.L.length := hr.flen
      have hsn : (kz fs A.L d q).map (·.2) = (A.lost d).L := by rw [HM.out]; exact kz_snd fs A.L d hfl
      have hnl : n = (A.lost d).L.length := by rw [← hsn, List.length_map]; exact hn
      have HF : Hid (∃ G', RIs G' (wr.setCell ⟨r, 2, none⟩ (.slice p n c)) r (A.lost d) ∧ Step G w G' (wr.setCell ⟨r, 2, none⟩ (.slice p n c))) := by
        have hfin := HRL.out.flown (G' := fun i => G i ∨ (W1.heap.size ≤ i ∧ i < wr.heap.size)) (w1 := wr) (old := none) (fun i hi => .inl hi) (fun i hi => by
          rcases hi with hi | hi
          · exact Nat.lt_of_lt_of_le (HSZ.out i hi) hg.size
          · exact hi.2) hg (fun g e => by cases e) (L' := (A.lost d).L) (fs' := (kz fs A.L d q).map (·.1)) (lp' := p) (lc' := c) (by rw [frow_krow, ← hsn, zip_parts, List.length_map, ← hn]; exact ownsRow_down hown (Nat.zero_le _)) (by rw [← hsn]; simp) (fun g hgb => by
          rw [← hnl] at hgb
          exact .inr ⟨(rows_blk hown hgb).1, (rows_blk hown hgb).2.1⟩) (fun i u x hu hx => by
          rw [← hsn] at hx
          have hz : (kz fs A.L d q)[i]? = some (u, x) := by
            rw [List.getElem?_map] at hu hx
            cases hc : (kz fs A.L d q)[i]? with
            | none => rw [hc] at hu; cases hu
            | some y =>
              rw [hc] at hu hx
              obtain rfl := Option.some.inj hu
              obtain rfl := Option.some.inj hx
              rfl
          obtain ⟨j, h1, h2⟩ := kz_mem hz
          obtain ⟨q1, q2⟩ := hr.fv j u x h1 h2
          exact ⟨q1, fun g hg => .inl (q2 g hg)⟩) (w' := wr.setCell ⟨r, 2, none⟩ (.slice p (A.lost d).L.length c)) rfl
        rw [← hnl] at hfin
        refine ⟨_, hfin.is, HST.out.trans ⟨⟨hg.os, hg.tape, hg.output, by simpa using hg.size, fun i hi hni => ?_⟩, fun i hi => ?_⟩⟩
        · rw [Below.heap_setCell _ _ _ _ (by intro e; have e : i = r := e; rw [e] at hni; exact hni HRL.out.Gr)]
          exact hg.block i hi (by simp)
        · rcases hi with hi | hi
          · exact .inl hi
          · exact .inr hi.1
      clear z2 hr hn hown hg hfl hsn hnl HX HRL HST
      go_wp2
      go_ret
      exact ⟨rfl, HF.out⟩
theorem rlose_any (h : RIs G w r A) (d : Int) (hL : A.L.length ≤ 1000000) : Calls Try.prog 21 #[rptr r, .int .i64 d] w fun e w' => e = .returned (.int .i64 ((A.lose d).1 : Int)) ∧ ∃ G', RIs G' w' r (A.lose d).2 ∧ Step G w G' w' := by
  by_cases hin : 0 ≤ d ∧ d < (A.D.length : Int)
  · obtain ⟨n, rfl⟩ : ∃ n : Nat, d = (n : Int) := ⟨d.toNat, by omega⟩
    have hd : n < A.D.length := by omega
    cases hon : (A.D.getD n none).isSome with
    | true =>
      refine (rlose_on h hd hon hL).mono ?_
      rintro e w' ⟨rfl, G', h1, h2⟩
      have e : A.lose (n : Int) = (0, A.lost n) := by unfold AM.RA.lose; rw [if_pos hin, Int.toNat_natCast, if_pos hon]
      rw [e]
      exact ⟨rfl, G', h1, h2⟩
    | false =>
      have e : A.lose (n : Int) = (9, A) := by unfold AM.RA.lose; rw [if_pos hin, Int.toNat_natCast, hon]; rfl
      rw [e]
      have HI : Hid (RIs G w r A) := h
      obtain ⟨dg, dc, c0, e1⟩ := rgone_cell h hd
      rw [hon] at e1
      have e1 : w.cell? ⟨dg, n * 2 + 1, none⟩ = some (.bool true) := e1
      have hD2 : A.D.length ≤ 255 := by obtain ⟨_, _, _, _, _, _, h⟩ := h; exact h.d2
      clear h e hin hon
      generalize A.D.length = N at *
      go_enter Try.func21, Try.ntmps21
      go_wp2
      go_ret
      exact ⟨rfl, G, HI.out, Step.refl G w⟩
  · have e : A.lose d = (6, A) := by unfold AM.RA.lose; rw [if_neg hin]
    rw [e]
    have HI : Hid (RIs G w r A) := h
    obtain ⟨dp, dc, ds, lp, lc, fs, h⟩ := h
    obtain ⟨c0, _, _, _, _⟩ := h.topCells
    have hD2 := h.d2
    clear h e
    generalize A.D.length = N at *
    by_cases h0 : d < 0
    · clear hin
      go_enter Try.func21, Try.ntmps21
      go_wp2
      go_ret
      exact ⟨rfl, G, HI.out, Step.refl G w⟩
    · have h1 : (N : Int) ≤ d := by omega
      clear hin
      go_enter Try.func21, Try.ntmps21
      go_wp2
      go_ret
      exact ⟨rfl, G, HI.out, Step.refl G w⟩
end
end Go.Proofs.Ytfmlohedebdomaa
