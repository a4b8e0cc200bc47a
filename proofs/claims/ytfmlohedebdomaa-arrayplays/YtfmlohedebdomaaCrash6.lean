/- The writes in flight, one by one; contracts of undo and Crash. -/
import Derived.Test.YtfmlohedebdomaaBld6
set_option linter.unusedSimpArgs false
set_option linter.unusedVariables false
namespace Go.Proofs.Ytfmlohedebdomaa
open Go.RowKit

theorem flat_get {α : Type} {f : α → List Value} {m : Nat} {i : Nat} (hi : i < m) : ∀ {L : List α} (_ : ∀ l ∈ L, (f l).length = m) {j : Nat} (hj : j < L.length), (L.flatMap f)[j * m + i]? = (f L[j])[i]? := by
  intro L
  induction L with
  | nil => intro _ j hj; cases hj
  | cons x r ih =>
    intro hL j hj
    have hx := hL x (List.mem_cons_self ..)
    rw [List.flatMap_cons]
    cases j with
    | zero => rw [Nat.zero_mul, Nat.zero_add, List.getElem?_append_left (by rw [hx]; exact hi)]; rfl
    | succ j =>
      have e : (j + 1) * m + i = m + (j * m + i) := by rw [Nat.add_mul]; omega
      rw [e, List.getElem?_append_right (by rw [hx]; omega), hx, Nat.add_sub_cancel_left]
      exact ih (fun l hl => hL l (List.mem_cons_of_mem _ hl)) (by simpa using hj)

section
variable {F : Nat → Prop} {w : World} {a : Nat} {R : AM.Raw}

/-- The write of the number j. -/
theorem Lies.entry {dg : Nat} {dv : List Value} {fp : Option Addr} {fc : Nat} (h : Lies F w a dg dv fp fc R) {j : Nat} (hj : j < R.L.length) :
    ∃ fg, fp = some ⟨fg, 0, none⟩ ∧ w.cell? ⟨fg, j * 130, none⟩ = some (.int .i64 (R.L[j].d : Int)) ∧ w.cell? ⟨fg, j * 130 + 1, none⟩ = some (.int .i64 (R.L[j].k : Int)) ∧ Vec w (.slice (some ⟨fg, j * 130 + 2, none⟩) 64 64) R.L[j].was ∧ Vec w (.slice (some ⟨fg, j * 130 + 66, none⟩) 64 64) R.L[j].now ∧
      (∃ c, w.heap[fg]? = some (.cells c 79 (0, 0))) ∧ fg ≠ a := by
  have hl := h.ok.L R.L[j] (List.getElem_mem hj)
  have hlen : ∀ l ∈ R.L, (wcells l).length = 130 := fun l hm => wcells_len (h.ok.L l hm).was (h.ok.L l hm).now
  have hf := h.fly
  rcases hf.2 with ⟨e, h0⟩ | ⟨fg, cap, cur, e, _, hg, _⟩
  · omega
  · injection e with e1 e2 e3
    subst e1
    have hcell : ∀ i v, (wcells R.L[j])[i]? = some v → w.cell? ⟨fg, j * 130 + i, none⟩ = some v := fun i v hv => by
      have hi : i < 130 := by rw [← hlen _ (List.getElem_mem hj)]; exact (List.getElem?_eq_some_iff.1 hv).1
      exact ownsRow_cell hf (by show (R.L.flatMap wcells)[j * 130 + i]? = some v; rw [flat_get hi hlen hj]; exact hv)
    have h1 : (R.L[j].was.map bv).length = 64 := by rw [List.length_map]; exact hl.was
    refine ⟨fg, rfl, hcell 0 _ rfl, hcell 1 _ rfl, ?_, ?_, ⟨cur, hg⟩, ne_ty hg h.top (by decide)⟩
    · refine ⟨hl.wasS, by rw [hl.was]; decide, _, _, by rw [hl.was], by rw [hl.was]; decide, by decide, fun _ => ⟨fg, _, rfl, fun i hi => ?_⟩⟩
      rw [Nat.add_assoc]
      refine hcell _ _ ?_
      rw [Nat.add_comm 2]
      unfold wcells
      rw [List.getElem?_cons_succ, List.getElem?_cons_succ, List.getElem?_append_left (by rw [List.length_map]; exact hi), getD_map_bv _ i hi]
    · refine ⟨hl.nowS, by rw [hl.now]; decide, _, _, by rw [hl.now], by rw [hl.now]; decide, by decide, fun _ => ⟨fg, _, rfl, fun i hi => ?_⟩⟩
      rw [Nat.add_assoc]
      refine hcell _ _ ?_
      have e : 66 + i = (64 + i) + 2 := by omega
      rw [e]
      unfold wcells
      rw [List.getElem?_cons_succ, List.getElem?_cons_succ, List.getElem?_append_right (by rw [h1]; omega), h1, Nat.add_sub_cancel_left, getD_map_bv _ i hi]

/-- Undone down to the number j. -/
def undone (R : AM.Raw) (j : Nat) : AM.Raw := { R with C := AM.undoTo R.C R.L j }
theorem undone_end (R : AM.Raw) : undone R R.L.length = R := by simp [undone, AM.undoTo_end]
theorem undone_step {R : AM.Raw} {j : Nat} (h : j < R.L.length) : undone R j = (undone R (j + 1)).lay R.L[j].d R.L[j].k R.L[j].was := by
  simp [undone, AM.Raw.lay, AM.undoTo_step R.C R.L h]

set_option maxHeartbeats 800000 in
theorem undo_yes (h : Is F w a R) (hL : R.L.length ≤ 1000000) : Calls Try.prog 50 #[ptr a] w fun e w' => e = .returned (.tuple #[]) ∧ Is F w' a (undone R 0) ∧ Step F w F w' := by
  obtain ⟨dg, fp, fc, ht⟩ := h.top
  have c2 : w.cell? ⟨a, 2, none⟩ = some (.slice fp R.L.length fc) := topCell (j := 2) ht rfl
  have HI : Hid (Is F w a R) := h
  clear h ht
  obtain ⟨N, hN⟩ : ∃ N, N = R.L.length := ⟨_, rfl⟩
  have HN : Hid (N = R.L.length) := hN
  rw [← hN] at c2 hL
  clear hN
  go_enter Try.func50, Try.ntmps50
  go_wp2
  clear c2
  go_loopw [2] (fun ti wr => ∃ j : Nat, j ≤ N ∧ ti = .int .i64 ((j : Int) - 1) ∧ Hid (Is F wr a (undone R j)) ∧ Hid (Step F w F wr)) (fun ti _ => (intOf ti + 1).toNat)
  case atStart => exact ⟨N, by omega, rfl, by rw [HN.out, undone_end]; exact HI, Step.refl F w⟩
  case round =>
    clear HI
    obtain ⟨j, hj, rfl, OK, GK⟩ := hrel
    by_cases hlt : 0 < j
    · obtain ⟨i, rfl⟩ : ∃ i, j = i + 1 := ⟨j - 1, by omega⟩
      have hiN : i < R.L.length := by have := HN.out; omega
      obtain ⟨dg, dv, fp, fc, h⟩ := OK.out
      obtain ⟨fg, rfl, e0, e1, ev, _, ⟨cw, hcw⟩, hfa⟩ := h.entry (j := i) hiN
      have e0 : wr.cell? ⟨fg, i * 130, none⟩ = some (.int .i64 (R.L[i].d : Int)) := e0
      have e1 : wr.cell? ⟨fg, i * 130 + 1, none⟩ = some (.int .i64 (R.L[i].k : Int)) := e1
      have ev : Vec wr (.slice (some ⟨fg, i * 130 + 2, none⟩) 64 64) R.L[i].was := ev
      have c2 : wr.cell? ⟨a, 2, none⟩ = some (.slice (some ⟨fg, 0, none⟩) N fc) := by rw [HN.out]; exact topCell (j := 2) h.top rfl
      have hok := h.ok.L R.L[i] (List.getElem_mem hiN)
      have HLAY : Hid (Calls Try.prog 41 #[ptr a, .int .i64 (R.L[i].d : Int), .int .i64 (R.L[i].k : Int), .pointer (some ⟨fg, i * 130 + 2, none⟩)] wr.drew fun e w' => e = .returned (.tuple #[]) ∧ Is F w' a (undone R i) ∧ Step F wr F w' ∧ (w'.cell? ⟨fg, i * 130, none⟩ = some (.int .i64 (R.L[i].d : Int)) ∧ w'.cell? ⟨fg, i * 130 + 1, none⟩ = some (.int .i64 (R.L[i].k : Int)))) := by
        refine (lay_yes (w := wr.drew) (OK.out.keep (grown_drewN wr 1)) hok.on hok.k (ev.keep (grown_drewN wr 1)) hok.was).mono ?_
        rintro e w' ⟨rfl, h1, h2, g, c, h3, h4⟩
        rw [undone_step hiN]
        have hne : fg ≠ g := ne_ty hcw (show wr.heap[g]? = _ from h4) (by decide)
        exact ⟨rfl, h1, (Step.new (grown_drewN wr 1)).trans h2, h3.cell e0 (fun e => hne (Option.some.inj e)), h3.cell e1 (fun e => hne (Option.some.inj e))⟩
      generalize R.L[i].d = D at *
      generalize R.L[i].k = K at *
      have i1 : (i : Int) < (N : Int) := by omega
      have HE : Hid (wr.cell? ⟨fg, i * 130, none⟩ = some (.int .i64 (D : Int)) ∧ wr.cell? ⟨fg, i * 130 + 1, none⟩ = some (.int .i64 (K : Int))) := ⟨e0, e1⟩
      clear h ev hok OK hcw hfa cw e0 e1
      go_wp2_with fail
      go_region_held3 (fun w' => w'.cell? ⟨fg, i * 130, none⟩ = some (.int .i64 (D : Int)) ∧ w'.cell? ⟨fg, i * 130 + 1, none⟩ = some (.int .i64 (K : Int))) (first | exact HE.out | exact HE4.out)
        ((go_at_call 41; refine HLAY.out.mono ?_; rintro e w4 ⟨rfl, hi4, hs4, he4⟩; have HI4 : Hid (Is F w4 a (undone R i)) := hi4; have HS4 : Hid (Step F wr F w4) := hs4; have HE4 : Hid (w4.cell? ⟨fg, i * 130, none⟩ = some (.int .i64 (D : Int)) ∧ w4.cell? ⟨fg, i * 130 + 1, none⟩ = some (.int .i64 (K : Int))) := he4; clear hi4 hs4 he4))
      go_wp2
      go_roundw
      case rel => exact ⟨i, by omega, by go_num, HI4, GK.out.trans HS4.out⟩
      case measure => simp [intOf]
    · obtain rfl : j = 0 := by omega
      go_wp2
      go_end0
      exact ⟨rfl, OK.out, GK.out⟩

/-- Nothing in flight, no fuse, the power on. -/
theorem Lies.reset {dg : Nat} {dv : List Value} {fp : Option Addr} {fc : Nat} (h : Lies F w a dg dv fp fc R) : Lies F (((w.setCell ⟨a, 2, none⟩ (.slice none 0 0)).setCell ⟨a, 3, none⟩ (.int .i64 0)).setCell ⟨a, 4, none⟩ (.bool false)) a dg dv none 0 ⟨R.C, R.n, [], 0, false⟩ := by
  have h1 := h.cleared
  refine h1.turn (R' := ⟨R.C, R.n, [], 0, false⟩) (grown_set2 (grown_set _ a 3 _) 4 _) rfl rfl rfl (by show 0 < _; decide) ?_
  rw [heap_setCell_same _ _ _ _ _ _ (heap_setCell_same _ _ _ _ _ _ h1.top)]
  rfl

/-- Of those undone the first j are picked. -/
def picked (R : AM.Raw) (ps : List Nat) (j : Nat) : AM.Raw := { R with C := AM.pickTo (AM.undoTo R.C R.L 0) R.L ps j }
theorem picked_zero (R : AM.Raw) (ps : List Nat) : picked R ps 0 = undone R 0 := rfl
theorem picked_odd {R : AM.Raw} {ps : List Nat} {j : Nat} (h1 : j < R.L.length) (h2 : j < ps.length) (ho : ps.getD j 0 % 2 = 1) : picked R ps (j + 1) = (picked R ps j).lay R.L[j].d R.L[j].k R.L[j].now := by
  have : ps[j] % 2 = 1 := by simpa [List.getD, h2] using ho
  simp [picked, AM.Raw.lay, AM.pickTo_step _ _ _ h1 h2, AM.pickD, this]
theorem picked_even {R : AM.Raw} {ps : List Nat} {j : Nat} (h1 : j < R.L.length) (h2 : j < ps.length) (ho : ¬ ps.getD j 0 % 2 = 1) : picked R ps (j + 1) = picked R ps j := by
  have : ¬ ps[j] % 2 = 1 := by simpa [List.getD, h2] using ho
  simp only [picked, AM.pickTo_step _ _ _ h1 h2, AM.pickD, if_neg this]

theorem min_run (m n : Nat) : ∃ k : Nat, k = min m n ∧ ∀ (ts : Array TypeId) (t : TypeId) (W : World), (Builtin.min_ ts t #[.int .i64 (m : Int), .int .i64 (n : Int)]).run Try.prog W = .ok (.int .i64 (k : Int)) W := by
  refine ⟨min m n, rfl, fun ts t W => ?_⟩
  simp only [Builtin.min_, List.foldlM]
  by_cases h : n < m
  · have e : min m n = n := by omega
    rw [e]
    have hi : (n : Int) < (m : Int) := by omega
    simp [Builtin.min2, hi]
  · have e : min m n = m := by omega
    rw [e]
    have hi : ¬ (n : Int) < (m : Int) := by omega
    simp [Builtin.min2, hi]

set_option maxHeartbeats 1600000 in
theorem crash_yes (h : Is F w a R) (hL : R.L.length ≤ 1000000) {v : Value} {ps : List Nat} (hv : Vec w v ps) (hvF : ps ≠ [] → ∀ g, v.ownBlock = some g → ¬ F g) :
    Calls Try.prog 26 #[ptr a, v] w fun e w' => e = .returned (.tuple #[]) ∧ Is F w' a (R.crash ps) ∧ Step F w F w' := by
  have HM : Hid (Calls Try.prog 49 #[ptr a] w fun e w' => e = .returned (.bool true) ∧ w' = w) := made_yes h
  have HU : Hid (Calls Try.prog 50 #[ptr a] w fun e w' => e = .returned (.tuple #[]) ∧ Is F w' a (undone R 0) ∧ Step F w F w') := undo_yes h hL
  obtain ⟨p, m, cap, rfl, hm⟩ := hv.opened
  have HV : Hid (∀ w', Step F w F w' → Vec w' (.slice p m cap) ps) := fun w' s => hv.upd s.upd hvF
  have HPS : Hid (m = ps.length) := hm
  have hmb : m ≤ 140737488351232 := by rw [hm]; exact hv.len
  obtain ⟨N, hN⟩ : ∃ N, N = R.L.length := ⟨_, rfl⟩
  have HN : Hid (N = R.L.length) := hN
  rw [← hN] at hL
  obtain ⟨M, hMe, hmin⟩ := min_run m N
  have HMe : Hid (M = min m N) := hMe
  have hM1 : M ≤ m := by omega
  have hM2 : M ≤ N := by omega
  clear h hv hvF hm hN hMe
  go_enter Try.func26, Try.ntmps26
  go_wp2_with (first
    | (go_at_call 49; refine HM.out.mono ?_; rintro e w1 ⟨rfl, hw⟩; obtain rfl := hw.symm; clear hw)
    | (go_at_call 50; refine HU.out.mono ?_; rintro e w1 ⟨rfl, hi1, hs1⟩; obtain ⟨dg, fp, fc, ht⟩ := hi1.top; have c2 : w1.cell? ⟨a, 2, none⟩ = some (.slice fp N fc) := (by rw [HN.out]; exact topCell (j := 2) ht rfl); have HI1 : Hid (Is F w1 a (undone R 0)) := hi1; have HS1 : Hid (Step F w F w1) := hs1; clear hi1 hs1 ht))
  clear c2 hmin
  go_loopw [19] (fun ti wr => ∃ j : Nat, j ≤ M ∧ ti = .int .i64 (j : Int) ∧ Hid (Is F wr a (picked R ps j)) ∧ Hid (Step F w F wr)) (fun ti _ => M - (intOf ti).toNat)
  case atStart => exact ⟨0, by omega, rfl, by rw [picked_zero]; exact HI1, HS1⟩
  case round =>
    clear HI1 HS1
    obtain ⟨j, hj, rfl, OK, GK⟩ := hrel
    by_cases hlt : j < M
    · have i1 : (j : Int) < (M : Int) := by omega
      have i2 : (j : Int) < (N : Int) := by omega
      have i3 : (j : Int) < (m : Int) := by omega
      have hjN : j < R.L.length := by have := HN.out; omega
      have hjp : j < ps.length := by have := HPS.out; omega
      obtain ⟨pb, po, rfl, cp, hp256⟩ := (HV.out _ GK.out).spot (k := j) hjp
      obtain ⟨dg, dv, fp, fc, h⟩ := OK.out
      obtain ⟨fg, rfl, e0, e1, _, ev, ⟨cw, hcw⟩, hfa⟩ := h.entry (j := j) hjN
      have e0 : wr.cell? ⟨fg, j * 130, none⟩ = some (.int .i64 (R.L[j].d : Int)) := e0
      have e1 : wr.cell? ⟨fg, j * 130 + 1, none⟩ = some (.int .i64 (R.L[j].k : Int)) := e1
      have ev : Vec wr (.slice (some ⟨fg, j * 130 + 66, none⟩) 64 64) R.L[j].now := ev
      have c2 : wr.cell? ⟨a, 2, none⟩ = some (.slice (some ⟨fg, 0, none⟩) N fc) := by rw [HN.out]; exact topCell (j := 2) h.top rfl
      have hok := h.ok.L R.L[j] (List.getElem_mem hjN)
      by_cases ho : ps.getD j 0 % 2 = 1
      · have HLAY : Hid (Calls Try.prog 41 #[ptr a, .int .i64 (R.L[j].d : Int), .int .i64 (R.L[j].k : Int), .pointer (some ⟨fg, j * 130 + 66, none⟩)] wr.drew fun e w' => e = .returned (.tuple #[]) ∧ Is F w' a (picked R ps (j + 1)) ∧ Step F wr F w' ∧ (w'.cell? ⟨fg, j * 130, none⟩ = some (.int .i64 (R.L[j].d : Int)) ∧ w'.cell? ⟨fg, j * 130 + 1, none⟩ = some (.int .i64 (R.L[j].k : Int)))) := by
          refine (lay_yes (w := wr.drew) (OK.out.keep (grown_drewN wr 1)) hok.on hok.k (ev.keep (grown_drewN wr 1)) hok.now).mono ?_
          rintro e w' ⟨rfl, h1, h2, g, c, h3, h4⟩
          rw [picked_odd hjN hjp ho]
          have hne : fg ≠ g := ne_ty hcw (show wr.heap[g]? = _ from h4) (by decide)
          exact ⟨rfl, h1, (Step.new (grown_drewN wr 1)).trans h2, h3.cell e0 (fun e => hne (Option.some.inj e)), h3.cell e1 (fun e => hne (Option.some.inj e))⟩
        generalize R.L[j].d = D at *
        generalize R.L[j].k = K at *
        generalize ps.getD j 0 = y at *
        have o1 : (y : Int) % 2 = 1 := by omega
        have HE : Hid (wr.cell? ⟨fg, j * 130, none⟩ = some (.int .i64 (D : Int)) ∧ wr.cell? ⟨fg, j * 130 + 1, none⟩ = some (.int .i64 (K : Int))) := ⟨e0, e1⟩
        clear h ev hok OK hcw hfa cw e0 e1 ho
        go_wp2_with fail
        go_region_held3 (fun w' => w'.cell? ⟨fg, j * 130, none⟩ = some (.int .i64 (D : Int)) ∧ w'.cell? ⟨fg, j * 130 + 1, none⟩ = some (.int .i64 (K : Int))) (first | exact HE.out | exact HE4.out)
          ((go_at_call 41; refine HLAY.out.mono ?_; rintro e w4 ⟨rfl, hi4, hs4, he4⟩; have HI4 : Hid (Is F w4 a (picked R ps (j + 1))) := hi4; have HS4 : Hid (Step F wr F w4) := hs4; have HE4 : Hid (w4.cell? ⟨fg, j * 130, none⟩ = some (.int .i64 (D : Int)) ∧ w4.cell? ⟨fg, j * 130 + 1, none⟩ = some (.int .i64 (K : Int))) := he4; clear hi4 hs4 he4))
        go_wp2
        go_roundw
        case rel => exact ⟨j + 1, by omega, by go_num, HI4, GK.out.trans HS4.out⟩
        case measure => simp [intOf]; omega
      · have HI4 : Hid (Is F wr a (picked R ps (j + 1))) := by rw [picked_even hjN hjp ho]; exact OK
        generalize ps.getD j 0 = y at *
        have o1 : (y : Int) % 2 = 0 := by omega
        clear h ev hok OK hcw hfa cw e0 e1 ho
        go_wp2
        go_roundw
        case rel => exact ⟨j + 1, by omega, by go_num, HI4, GK⟩
        case measure => simp [intOf]; omega
    · have i1 : ¬ (j : Int) < (M : Int) := by omega
      have ej : j = M := by omega
      obtain ⟨dg, dv, fp, fc, h⟩ := OK.out
      have f2 := topFrozen 2 h.top
      have f3 := topFrozen 3 h.top
      have f4 := topFrozen 4 h.top
      have c2 : wr.cell? ⟨a, 2, none⟩ = some (.slice fp (picked R ps j).L.length fc) := topCell (j := 2) h.top rfl
      have c3 : wr.cell? ⟨a, 3, none⟩ = some (.int .i64 ((picked R ps j).fuse : Int)) := topCell (j := 3) h.top rfl
      have c4 : wr.cell? ⟨a, 4, none⟩ = some (.bool (picked R ps j).off) := topCell (j := 4) h.top rfl
      have HR : Hid (Lies F (((wr.setCell ⟨a, 2, none⟩ (.slice none 0 0)).setCell ⟨a, 3, none⟩ (.int .i64 0)).setCell ⟨a, 4, none⟩ (.bool false)) a dg dv none 0 (R.crash ps)) := by
        have h1 := h.reset
        have e : (⟨(picked R ps j).C, (picked R ps j).n, [], 0, false⟩ : AM.Raw) = R.crash ps := by
          have : (R.crash ps).C = (picked R ps j).C := by
            rw [AM.crash_pick, ej, HMe.out, HPS.out, HN.out]; rfl
          rw [← this]
          rfl
        rw [e] at h1
        exact h1
      have HSF : Hid (Step F w F (((wr.setCell ⟨a, 2, none⟩ (.slice none 0 0)).setCell ⟨a, 3, none⟩ (.int .i64 0)).setCell ⟨a, 4, none⟩ (.bool false))) := GK.out.trans (Step.of (grown_set2 (grown_set2 (grown_set _ a 2 _) 3 _) 4 _) (fun i e => by obtain rfl := Option.some.inj e; exact h.Fa))
      clear h OK GK ej
      go_wp2
      go_end0
      exact ⟨rfl, HR.out.is, HSF.out⟩
end
end Go.Proofs.Ytfmlohedebdomaa
