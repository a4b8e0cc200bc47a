/- Packed: High8, PT8, PA8, PB8. -/
import Derived.Test.YtfjlpifaaknmpaaGreatSy1
import Derived.Test.YtfjlpifaaknmpaaGreatSy2
import Derived.Test.YtfjlpifaaknmpaaGreatSy3
import Derived.Test.YtfjlpifaaknmpaaGreatSy4
import Derived.Test.YtfjlpifaaknmpaaGreatSy5
import Derived.Test.YtfjlpifaaknmpaaGreatSy6
import Derived.Test.YtfjlpifaaknmpaaGreatSy7
import Derived.Test.YtfjlpifaaknmpaaGreatSy8
import Derived.Test.YtfjlpifaaknmpaaGreatSy9
import Derived.Test.YtfjlpifaaknmpaaGreatSy10
import Derived.Test.YtfjlpifaaknmpaaGreatSy11
import Derived.Test.YtfjlpifaaknmpaaGreatSy12
import Derived.Test.YtfjlpifaaknmpaaGreatSy16
import Derived.Test.YtfjlpifaaknmpaaGreatSy13
import Derived.Test.YtfjlpifaaknmpaaGreatSy14
import Derived.Deep.RegionHeld3
import Derived.BigRegion
import Derived.Test.YtfjlpifaaknmpaaGreatSy17
import Derived.Test.YtfjlpifaaknmpaaGreatSy18
import Derived.Test.YtfjlpifaaknmpaaGreatSy19
import Derived.Test.YtfjlpifaaknmpaaGreatSy20
import Derived.Test.YtfjlpifaaknmpaaGreatSy21
import Derived.Test.YtfjlpifaaknmpaaGreatSy22
/- The contract of stripe.Highest. -/
set_option linter.unusedSimpArgs false
set_option linter.unusedVariables false
set_option maxRecDepth 100000
namespace Go.Proofs.YtfjlpifaaknmpaaGreat
open Go.RowKit

theorem max_run (m n : Nat) (ts : Array TypeId) (t : TypeId) (W : World) : (Builtin.max_ ts t #[.int .u64 (m : Int), .int .u64 (n : Int)]).run Tryz.prog W = .ok (.int .u64 ((max m n : Nat) : Int)) W := by
  simp only [Builtin.max_, List.foldlM]
  rcases Nat.lt_or_ge m n with h | h
  · have h1 : (m : Int) < (n : Int) := by omega
    simp [Builtin.max2, h1, Nat.max_eq_right (Nat.le_of_lt h)]
  · have h1 : ¬ (m : Int) < (n : Int) := by omega
    simp [Builtin.max2, h1, Nat.max_eq_left h]

def SP.hiN (R : AM.Raw) (g : SP.Geo) (slot : Int) : Nat := if SP.why R g slot = 0 then SP.high R g slot.toNat else 0
theorem top_take {L0 M : List Nat} {i : Nat} (hi : i < M.length) : SP.top (L0 ++ M.take (i + 1)) = max (SP.top (L0 ++ M.take i)) (M.getD i 0) := by
  rw [List.take_succ_eq_append_getElem hi, ← List.append_assoc, SP.top_app]
  simp [List.getD, hi]
section
variable {F F' : Nat → Prop} {w w' : World} {s a : Nat} {g : SP.Geo} {R R' : AM.Raw}
theorem sects_row (ok : R.Ok) (h : g.Ok R) {slot d : Nat} (hs : slot < g.s) {i : Nat} (hi : i < (SP.sects R g slot d).length) : ((SP.sects R g slot d).getD i []).length = 64 := by
  cases c : R.on (d : Int)
  · rw [SP.sects_off c] at hi; simp at hi
  · rw [SP.sects_on c] at hi ⊢
    rw [SP.sectTo_len] at hi
    have e : (SP.sectTo R g slot d 8).getD i [] = AM.look R.C d (g.f + 8 * slot + i) := by simp [SP.sectTo, List.getD, hi]
    rw [e]
    exact (SP.sect_ok ok h hs hi c).1
theorem shigh_err (h : SI F w s a g R) {slot : Int} (hy : SP.why R g slot ≠ 0) :
    Calls Tryz.prog 23 #[ptr s, .int .i64 slot] w fun e w' => e = .returned (.tuple #[.int .u64 0, .int .i64 (SP.why R g slot : Int)]) ∧ w' = w := by
  obtain ⟨y, hy1⟩ : ∃ y, y = SP.why R g slot := ⟨_, rfl⟩
  have HR : Hid (Calls Tryz.prog 45 #[ptr s, .int .i64 slot] w fun e w'' => e = .returned (.int .i64 (y : Int)) ∧ w'' = w) := by rw [hy1]; exact sreach_yes h slot
  rw [← hy1] at hy ⊢
  have hne : ((y : Int) != 0) = true := neb_yes (b := 0) hy
  clear h hy hy1
  go_enter Tryz.func23, Tryz.ntmps23
  go_wp2_with (go_at_call 45; refine HR.out.mono ?_; rintro e w9 ⟨rfl, hw9⟩; obtain rfl := hw9.symm; clear hw9)
  go_ret2
  exact ⟨rfl, rfl⟩

set_option maxHeartbeats 6400000 in
theorem shigh_main (h : SI F w s a g R) {slot : Nat} (hy : SP.why R g (slot : Int) = 0) :
    Calls Tryz.prog 23 #[ptr s, .int .i64 (slot : Int)] w fun e w' => e = .returned (.tuple #[.int .u64 ((SP.high R g slot : Nat) : Int), .int .i64 0]) ∧ w.grownBy w' none := by
  have HR : Hid (Calls Tryz.prog 45 #[ptr s, .int .i64 (slot : Int)] w fun e w'' => e = .returned (.int .i64 0) ∧ w'' = w) := sreach_at h (by rw [hy]; rfl)
  obtain ⟨q0, q1, q2⟩ := SP.why_zero hy
  have c2 := h.at3
  have H : Hid (SI F w s a g R) := h
  have HN : Hid (R.off = false ∧ slot < g.s ∧ R.Ok) := ⟨q0, by omega, h.i.ok⟩
  have hn255 : g.n ≤ 255 := h.ok.n255
  clear h hy q0 q1 q2
  go_enter Tryz.func23, Tryz.ntmps23
  go_wp2_with (first | (go_at_call 45; refine HR.out.mono ?_; rintro e w9 ⟨rfl, hw9⟩; obtain rfl := hw9.symm; clear hw9) | fail)
  clear c2 HR
  go_loopw [7, 25] (fun th ti wr => ∃ k : Nat, k ≤ g.n ∧ ti = .int .i64 k ∧ th = .int .u64 ((SP.top (SP.markTo R g slot k) : Nat) : Int) ∧ Hid (w.grownBy wr none)) (fun _ ti _ => g.n - (intOf ti).toNat)
  case atStart => exact ⟨0, by omega, rfl, rfl, World.grownBy.refl _ _⟩
  case round =>
    obtain ⟨k, hk, rfl, rfl, GK⟩ := hrel
    obtain ⟨wa, hwa⟩ : ∃ wa, wa = wr := ⟨wr, rfl⟩
    subst hwa
    by_cases hlt : k < g.n
    · have i4 : (k : Int) < (g.n : Int) := by omega
      have SEC : Hid (Calls Tryz.prog 65 #[ptr s, .int .i64 (k : Int), .int .i64 (slot : Int)] wa fun e w' => ∃ v us, e = .returned v ∧ Mat w' v us (SP.sects R g slot k) ∧ wa.grownBy w' none) := ssectors_any (H.out.keep GK.out) HN.out.1 hlt HN.out.2.1
      have H64 : Hid (∀ i, i < (SP.sects R g slot k).length → ((SP.sects R g slot k).getD i []).length = 64) := fun i hi => sects_row HN.out.2.2 H.out.ok HN.out.2.1 hi
      have HM : Hid (SP.markTo R g slot (k + 1) = SP.markTo R g slot k ++ (SP.sects R g slot k).map (fun b => SM.val b 8)) := SP.markTo_succ R g slot k
      generalize SP.sects R g slot k = X at *
      generalize SP.markTo R g slot k = L0 at *
      obtain ⟨M, hM⟩ : ∃ M, M = X.map (fun b => SM.val b 8) := ⟨_, rfl⟩
      have HMM : Hid (M = X.map (fun b => SM.val b 8)) := hM
      rw [← hM] at HM
      clear hM
      go_wp2_with (first
        | (go_at_call 65; refine SEC.out.mono ?_; rintro e w1 ⟨v, us, rfl, m1, g1⟩; have hs1 := m1.same; obtain ⟨q, N, cp, rfl, hN⟩ := m1.row.opened; have M1 : Hid (Mat w1 (.slice q N cp) us X) := m1; have G1 : Hid (w.grownBy w1 none) := grown_trans GK.out g1; have HNN : Hid (N = us.length ∧ N = X.length) := ⟨hN, (by omega)⟩; have hNl : N ≤ 140737488351232 := (by have := m1.row.len; omega); clear m1 g1 hN hs1)
        | fail)
      clear SEC
      go_loopw [7, 33] (fun th ti wr => ∃ i : Nat, i ≤ N ∧ ti = .int .i64 i ∧ th = .int .u64 ((SP.top (L0 ++ M.take i) : Nat) : Int) ∧ Hid (w1.grownBy wr none)) (fun _ ti _ => N - (intOf ti).toNat)
      case atStart => exact ⟨0, by omega, rfl, by simp, World.grownBy.refl _ _⟩
      case round =>
        obtain ⟨i, hi, rfl, rfl, GI⟩ := hrel
        by_cases hlt2 : i < N
        · have i5 : (i : Int) < (N : Int) := by omega
          have i6 : (0 : Int) ≤ (i : Int) := by omega
          obtain ⟨b, off, rfl, hr⟩ := (M1.out.keep GI.out).row.spot (k := i) (by have := HNN.out; omega)
          obtain ⟨pk, nk, ck, ek, hnk⟩ := ((M1.out.keep GI.out).vec i (by have := HNN.out; omega)).opened
          have TK : Hid (Calls Tryz.prog 68 #[.slice pk nk ck] wr fun e w' => ∃ p k er, e = .returned (.tuple #[.int .u64 ((M.getD i 0 : Nat) : Int), .slice p k k, .int .i64 er]) ∧ wr.grownBy w' none) := by
            have hv := (M1.out.keep GI.out).vec i (by have := HNN.out; omega)
            rw [ek] at hv
            have e1 : takeN (X.getD i []) = M.getD i 0 := by
              have hil : i < X.length := by have := HNN.out; omega
              unfold takeN
              rw [if_pos (H64.out i hil), HMM.out]
              simp [List.getD, hil]
            refine (take_all hv).mono ?_
            rintro e w9 ⟨p, k9, rfl, _, g9⟩
            exact ⟨p, k9, _, by rw [e1], g9⟩
          have HT : Hid (SP.top (L0 ++ M.take (i + 1)) = max (SP.top (L0 ++ M.take i)) (M.getD i 0)) := top_take (by rw [HMM.out, List.length_map]; have := HNN.out; omega)
          rw [ek] at hr
          clear ek hnk
          generalize SP.top (L0 ++ M.take i) = T0 at *
          generalize M.getD i 0 = Z at *
          have hmx := max_run T0 Z
          obtain ⟨T1, hT1⟩ : ∃ T1, T1 = max T0 Z := ⟨_, rfl⟩
          rw [← hT1] at hmx
          have HT1 : Hid (T1 = SP.top (L0 ++ M.take (i + 1))) := by show _ = _; rw [HT.out, hT1]
          clear hT1
          go_wp2_with (go_at_call 68; refine TK.out.mono ?_; rintro e w5 ⟨p, k5, er, rfl, g5⟩; have G5 : Hid (w1.grownBy w5 none) := grown_trans GI.out g5; clear g5)
          go_roundw
          case rel => exact ⟨i + 1, by omega, by go_num, by rw [HT1.out], G5⟩
          case measure => simp [intOf]; omega
        · have i5 : ¬ (i : Int) < (N : Int) := by omega
          have HE : Hid (SP.top (L0 ++ M.take i) = SP.top (SP.markTo R g slot (k + 1))) := by
            show _ = _
            rw [HM.out, List.take_of_length_le (by rw [HMM.out, List.length_map]; have := HNN.out; omega)]
          go_wp2
          go_roundw
          case rel => exact ⟨k + 1, by omega, by go_num, by rw [HE.out], grown_trans G1.out GI.out⟩
          case measure => simp [intOf]; omega
    · have i4 : ¬ (k : Int) < (g.n : Int) := by omega
      have hkn : Hid (k = g.n) := by show _ = _; omega
      go_wp2
      go_ret2
      exact ⟨by unfold SP.high; rw [hkn.out]; rfl, GK.out⟩
theorem shigh_all (h : SI F w s a g R) (slot : Int) :
    Calls Tryz.prog 23 #[ptr s, .int .i64 slot] w fun e w' => e = .returned (.tuple #[.int .u64 ((SP.hiN R g slot : Nat) : Int), .int .i64 (SP.why R g slot : Int)]) ∧ w.grownBy w' none := by
  unfold SP.hiN
  by_cases hy : SP.why R g slot = 0
  · obtain ⟨_, q1, _⟩ := SP.why_zero hy
    obtain ⟨n, rfl⟩ : ∃ n : Nat, slot = (n : Int) := ⟨slot.toNat, by omega⟩
    rw [if_pos hy, hy, Int.toNat_natCast]
    exact shigh_main h hy
  · rw [if_neg hy]
    refine (shigh_err h hy).mono ?_
    rintro e w' ⟨rfl, rfl⟩
    exact ⟨rfl, World.grownBy.refl _ _⟩
end
end Go.Proofs.YtfjlpifaaknmpaaGreat

/- What lies on the disks behind writes, barriers and crashes: the new segment, the old one, or a mix, sector by sector. No text of the program is named. -/
set_option linter.unusedSimpArgs false
set_option linter.unusedVariables false
set_option maxRecDepth 100000
namespace Go.Proofs.YtfjlpifaaknmpaaGreat
namespace SP

/-- Sector i of disk d in a slot. -/
def cont (C : List AM.Disk) (g : Geo) (slot d i : Nat) : List Nat := AM.look C d (g.f + 8 * slot + i)
theorem look_lay {n : Nat} {C : List AM.Disk} (hC : AM.OkC n C) {d k e j : Nat} {b : List Nat} (hd : ∃ xs, C[d]? = some (some xs)) (hk : k < n) (hb : b.length = 64) :
    AM.look (AM.lay C d k b) e j = if e = d ∧ j = k then b else AM.look C e j := by
  obtain ⟨xs, hx⟩ := hd
  obtain ⟨h1, h2⟩ := hC d xs hx
  by_cases c : e = d
  · subst c
    rw [AM.look_at _ (AM.lay_at k b hx), AM.look_at _ hx]
    by_cases c2 : j = k
    · subst c2
      rw [if_pos ⟨rfl, rfl⟩, AM.sec_put_same hb (by rw [h1]; exact AM.fits hk)]
    · rw [if_neg (fun h => c2 h.2), AM.sec_put_ne hb (by rw [h1]; exact AM.fits hk) c2]
  · rw [if_neg (fun h => c h.1)]
    unfold AM.look
    simp only [List.getD, AM.lay_ne k b c]

/-- A write that is told as done. -/
theorem writes_ok {R : AM.Raw} {d k : Nat} {b : List Nat} (h : (R.writes (d : Int) (k : Int) b).1 = 0) : (R.writes (d : Int) (k : Int) b).2 = R.burnt.fly d k b ∧ (∃ xs, R.C[d]? = some (some xs)) ∧ k < R.n ∧ b.length = 64 ∧ R.off = false := by
  unfold AM.Raw.writes at h ⊢
  by_cases h1 : R.reach (d : Int) (k : Int) = 0
  · rw [if_neg (by omega)] at h ⊢
    obtain ⟨h2, _, _, _, h3, h4⟩ := AM.reach_zero h1
    by_cases h5 : b.length = 64
    · rw [if_neg (by omega)] at h ⊢
      by_cases h6 : R.burns = true
      · rw [if_pos h6] at h; simp at h
      · rw [if_neg h6]
        exact ⟨by simp, by simpa using h4, by omega, h5, h2⟩
    · rw [if_pos h5] at h; simp at h
  · rw [if_pos h1] at h; exact absurd h h1
/-- A write that is not leaves the disks, and what is in flight. -/
theorem writes_no {R : AM.Raw} {d k : Int} {b : List Nat} (h : (R.writes d k b).1 ≠ 0) : (R.writes d k b).2.C = R.C ∧ (R.writes d k b).2.L = R.L := by
  unfold AM.Raw.writes at h ⊢
  split
  · exact ⟨rfl, rfl⟩
  · split
    · exact ⟨rfl, rfl⟩
    · split
      · exact ⟨(AM.burnt_C R).1, (AM.burnt_C R).2.2⟩
      · rename_i h1 h2 h3
        rw [if_neg h1, if_neg h2, if_neg h3] at h
        simp at h

/-- Sectors that were, sectors that shall be: each of the slot's is one or the other; what is in flight is of those that shall be; undone, it is C0. -/
structure Mid (C0 : List AM.Disk) (g : Geo) (slot : Nat) (new : Nat → Nat → List Nat) (R : AM.Raw) : Prop where
  ok : R.Ok
  mix : ∀ d i, i < 8 → cont R.C g slot d i = cont C0 g slot d i ∨ cont R.C g slot d i = new d i
  fly : ∀ l ∈ R.L, ∃ i, i < 8 ∧ l.k = g.f + 8 * slot + i ∧ l.now = new l.d i
  undo : AM.undoTo R.C R.L 0 = C0
theorem Mid.start {R : AM.Raw} (ok : R.Ok) (h : R.L = []) (g : Geo) (slot : Nat) (new : Nat → Nat → List Nat) : Mid R.C g slot new R := ⟨ok, fun _ _ _ => .inl rfl, by rw [h]; simp, by rw [h]; simp [AM.undoTo]⟩
theorem writes_Ok {R : AM.Raw} (ok : R.Ok) {d k : Nat} {b : List Nat} (hs : ∀ x ∈ b, x < 256) : (R.writes (d : Int) (k : Int) b).2.Ok := by
  unfold AM.Raw.writes
  by_cases h1 : R.reach (d : Int) (k : Int) = 0
  · rw [if_neg (by omega)]
    obtain ⟨h2, _, _, _, h3, h4⟩ := AM.reach_zero h1
    split
    · exact ok
    · rename_i h5
      split
      · exact AM.Raw.Ok.burnt ok
      · have hb := AM.burnt_C R
        refine AM.Raw.Ok.fly (AM.Raw.Ok.burnt ok) ?_ ?_ (by omega) hs
        · rw [hb.1]; simpa using h4
        · rw [hb.2.1]; simpa using (by omega : (k : Int) < R.n)
  · rw [if_pos h1]
    exact ok
theorem Mid.write {C0 : List AM.Disk} {g : Geo} {slot : Nat} {new : Nat → Nat → List Nat} {R : AM.Raw} (h : Mid C0 g slot new R) {d i : Nat} (hi : i < 8) (hs : ∀ x ∈ new d i, x < 256) :
    Mid C0 g slot new (R.writes (d : Int) ((g.f + 8 * slot + i : Nat) : Int) (new d i)).2 := by
  have ok := writes_Ok h.ok (d := d) (k := g.f + 8 * slot + i) hs
  by_cases h0 : (R.writes (d : Int) ((g.f + 8 * slot + i : Nat) : Int) (new d i)).1 = 0
  · obtain ⟨h1, ⟨xs, hx⟩, h3, h4, _⟩ := writes_ok h0
    obtain ⟨b1, b2, b3⟩ := AM.burnt_C R
    rw [h1] at ok ⊢
    have eC : (R.burnt.fly d (g.f + 8 * slot + i) (new d i)).C = AM.lay R.C d (g.f + 8 * slot + i) (new d i) := by simp [AM.Raw.fly, b1]
    have eL : (R.burnt.fly d (g.f + 8 * slot + i) (new d i)).L = R.L ++ [⟨d, g.f + 8 * slot + i, AM.look R.C d (g.f + 8 * slot + i), new d i⟩] := by simp [AM.Raw.fly, b1, b3]
    refine ⟨ok, fun e j hj => ?_, fun l hl => ?_, ?_⟩
    · unfold cont
      rw [eC, look_lay h.ok.C ⟨xs, hx⟩ h3 h4]
      split
      · rename_i c
        obtain ⟨rfl, c2⟩ := c
        obtain rfl : j = i := by omega
        exact .inr rfl
      · exact h.mix e j hj
    · rw [eL, List.mem_append] at hl
      rcases hl with hl | hl
      · exact h.fly l hl
      · obtain rfl := List.mem_singleton.1 hl
        exact ⟨i, hi, rfl, rfl⟩
    · rw [eC, eL, AM.undo_fly hx (by rw [(h.ok.C d xs hx).1]; exact AM.fits h3) h4]
      exact h.undo
  · obtain ⟨h1, h2⟩ := writes_no h0
    refine ⟨ok, fun e j hj => ?_, fun l hl => ?_, ?_⟩
    · rw [h1]; exact h.mix e j hj
    · rw [h2] at hl; exact h.fly l hl
    · rw [h1, h2]; exact h.undo
theorem Mid.lay {C0 : List AM.Disk} {g : Geo} {slot : Nat} {new : Nat → Nat → List Nat} {R : AM.Raw} (h : Mid C0 g slot new R) {d : Nat} {S : List (List Nat)} (hS : ∀ i, i < 8 → S.getD i [] = new d i) (hs : ∀ i, i < 8 → ∀ x ∈ new d i, x < 256) :
    ∀ j, j ≤ 8 → Mid C0 g slot new (layTo R g slot d S j).2
  | 0, _ => h
  | j + 1, hj => by
    unfold layTo
    split
    · rw [hS j (by omega)]
      exact (Mid.lay h hS hs j (by omega)).write (by omega) (hs j (by omega))
    · exact Mid.lay h hS hs j (by omega)
/-- Written without an error: all is new on the disks that are on. -/
theorem layTo_done {R : AM.Raw} (ok : R.Ok) {g : Geo} {slot d : Nat} {S : List (List Nat)} (hs : ∀ i, i < 8 → ∀ x ∈ S.getD i [], x < 256) : ∀ j, j ≤ 8 → (layTo R g slot d S j).1 = 0 → (layTo R g slot d S j).2.Ok ∧
    ∀ e i, i < 8 → cont (layTo R g slot d S j).2.C g slot e i = if e = d ∧ i < j then S.getD i [] else cont R.C g slot e i
  | 0, _, _ => ⟨ok, fun e i _ => by rw [if_neg (by omega)]; rfl⟩
  | j + 1, hj, h => by
    by_cases h0 : (layTo R g slot d S j).1 = 0
    · obtain ⟨ok', ih⟩ := layTo_done ok hs j (by omega) h0
      rw [layTo_succ h0] at h ⊢
      obtain ⟨h1, ⟨xs, hx⟩, h3, h4, _⟩ := writes_ok h
      refine ⟨writes_Ok ok' (hs j (by omega)), fun e i hi => ?_⟩
      rw [h1]
      unfold cont
      have b1 := (AM.burnt_C (layTo R g slot d S j).2).1
      show AM.look (AM.lay (layTo R g slot d S j).2.burnt.C d (g.f + 8 * slot + j) (S.getD j [])) e _ = _
      rw [b1, look_lay ok'.C ⟨xs, hx⟩ h3 h4]
      by_cases c : e = d ∧ i = j
      · obtain ⟨rfl, rfl⟩ := c
        rw [if_pos ⟨rfl, rfl⟩, if_pos ⟨rfl, by omega⟩]
      · rw [if_neg (fun h => c ⟨h.1, by omega⟩)]
        have := ih e i hi
        unfold cont at this
        rw [this]
        by_cases c2 : e = d ∧ i < j
        · rw [if_pos c2, if_pos ⟨c2.1, by omega⟩]
        · rw [if_neg c2, if_neg (fun h => by rcases Nat.lt_or_ge i j with h' | h'
                                             · exact c2 ⟨h.1, h'⟩
                                             · exact c ⟨h.1, by omega⟩)]
    · have : layTo R g slot d S (j + 1) = layTo R g slot d S j := layTo_stop h0 _ (by omega)
      rw [this] at h
      exact absurd h h0
theorem wrTo_done {R : AM.Raw} (ok : R.Ok) {g : Geo} {slot m : Nat} {E : List (List Nat)} (hs : ∀ d i, i < 8 → ∀ x ∈ (CM.secs m (E.getD d []) 8).getD i [], x < 256) : ∀ d, (wrTo R g slot m E d).1 = 0 → (wrTo R g slot m E d).2.Ok ∧
    ∀ e i, i < 8 → cont (wrTo R g slot m E d).2.C g slot e i = if e < d ∧ R.on (e : Int) = true then (CM.secs m (E.getD e []) 8).getD i [] else cont R.C g slot e i
  | 0, _ => ⟨ok, fun e i _ => by rw [if_neg (by omega)]; rfl⟩
  | d + 1, h => by
    cases ho : R.on (d : Int)
    · rw [wrTo_off ho] at h ⊢
      obtain ⟨ok', ih⟩ := wrTo_done ok hs d h
      refine ⟨ok', fun e i hi => ?_⟩
      rw [ih e i hi]
      by_cases c : e < d ∧ R.on (e : Int) = true
      · rw [if_pos c, if_pos ⟨by omega, c.2⟩]
      · rw [if_neg c, if_neg (fun h => by
          by_cases e1 : e = d
          · subst e1; rw [ho] at h; exact absurd h.2 (by simp)
          · exact c ⟨by omega, h.2⟩)]
    · by_cases h0 : (wrTo R g slot m E d).1 = 0
      · obtain ⟨ok', ih⟩ := wrTo_done ok hs d h0
        rw [wrTo_on h0 ho] at h ⊢
        obtain ⟨ok2, ih2⟩ := layTo_done ok' (hs d) 8 (by omega) h
        refine ⟨ok2, fun e i hi => ?_⟩
        show cont (layTo _ g slot d _ 8).2.C g slot e i = _
        rw [ih2 e i hi, ih e i hi]
        by_cases c : e = d
        · subst c
          rw [if_pos ⟨rfl, hi⟩, if_pos ⟨by omega, ho⟩]
        · rw [if_neg (fun h => c h.1)]
          by_cases c2 : e < d ∧ R.on (e : Int) = true
          · rw [if_pos c2, if_pos ⟨by omega, c2.2⟩]
          · rw [if_neg c2, if_neg (fun h => c2 ⟨by omega, h.2⟩)]
      · have : wrTo R g slot m E (d + 1) = wrTo R g slot m E d := wrTo_stop h0 _ (by omega)
        rw [this] at h
        exact absurd h h0

/-- No fuse, and the power on: no write fails. -/
theorem writes_sure {R : AM.Raw} {d k : Nat} {b : List Nat} (h0 : R.off = false) (hf : R.fuse = 0) (hr : R.reach (d : Int) (k : Int) = 0) (hb : b.length = 64) : (R.writes (d : Int) (k : Int) b).1 = 0 ∧ (R.writes (d : Int) (k : Int) b).2.off = false ∧ (R.writes (d : Int) (k : Int) b).2.fuse = 0 := by
  have e : R.burns = false := by simp [AM.Raw.burns, hf]
  have e2 : R.burnt = R := by simp [AM.Raw.burnt, hf]
  unfold AM.Raw.writes
  rw [if_neg (by omega), if_neg (by omega), e, e2]
  simp [AM.Raw.fly, h0, hf]
theorem layTo_sure {R : AM.Raw} {g : Geo} (hg : g.Ok R) {slot d : Nat} (hs : slot < g.s) (hd : d < g.n) (h0 : R.off = false) (hf : R.fuse = 0) (ho : R.on (d : Int) = true) {S : List (List Nat)} (hS : ∀ i, i < 8 → (S.getD i []).length = 64) :
    ∀ j, j ≤ 8 → (layTo R g slot d S j).1 = 0 ∧ (layTo R g slot d S j).2.off = false ∧ (layTo R g slot d S j).2.fuse = 0
  | 0, _ => ⟨rfl, h0, hf⟩
  | j + 1, hj => by
    obtain ⟨h1, h2, h3⟩ := layTo_sure hg hs hd h0 hf ho hS j (by omega)
    rw [layTo_succ h1]
    have hk := layTo_kept R g slot d S j
    have hr := reach_on (hg.kept hk) h2 hs (i := j) (by omega) hd
    rw [hk.on, if_pos ho] at hr
    exact writes_sure h2 h3 hr (hS j (by omega))
theorem wrTo_sure {R : AM.Raw} {g : Geo} (hg : g.Ok R) {slot m : Nat} (hs : slot < g.s) (h0 : R.off = false) (hf : R.fuse = 0) {E : List (List Nat)} (hE : ∀ d, d < g.n → (E.getD d []).length = 448) :
    ∀ d, d ≤ g.n → (wrTo R g slot m E d).1 = 0 ∧ (wrTo R g slot m E d).2.off = false ∧ (wrTo R g slot m E d).2.fuse = 0
  | 0, _ => ⟨rfl, h0, hf⟩
  | d + 1, hd => by
    obtain ⟨h1, h2, h3⟩ := wrTo_sure hg hs h0 hf hE (m := m) d (by omega)
    cases ho : R.on (d : Int)
    · rw [wrTo_off ho]; exact ⟨h1, h2, h3⟩
    · rw [wrTo_on h1 ho]
      have hk := wrTo_kept R g slot m E d
      have hSl : ∀ i, i < 8 → ((CM.secs m (E.getD d []) 8).getD i []).length = 64 := fun i hi => by
        rw [CM.secs_get m _ hi]
        have hl := hE d (by omega)
        exact SM.sec_len (by rw [CM.ld_len (by omega)]; omega)
      have ho' : (wrTo R g slot m E d).2.on (d : Int) = true := by rw [hk.on]; exact ho
      have hg' := hg.kept hk
      unfold lays
      generalize (wrTo R g slot m E d).2 = R1 at *
      generalize CM.secs m (E.getD d []) 8 = S at *
      exact layTo_sure hg' hs (by omega) h2 h3 ho' hSl 8 (by omega)

/-- Behind a crash each sector is the one or the other. -/
theorem picked_mix {n : Nat} {C0 : List AM.Disk} {g : Geo} {slot : Nat} {new : Nat → Nat → List Nat} : ∀ (Z : List (AM.Wr × Nat)) (C : List AM.Disk), AM.OkC n C → (∀ x ∈ Z, AM.OkW n C x.1) → (∀ x ∈ Z, ∃ i, i < 8 ∧ x.1.k = g.f + 8 * slot + i ∧ x.1.now = new x.1.d i) →
    (∀ d i, i < 8 → cont C g slot d i = cont C0 g slot d i ∨ cont C g slot d i = new d i) → ∀ d i, i < 8 → cont (Z.foldl AM.pickD C) g slot d i = cont C0 g slot d i ∨ cont (Z.foldl AM.pickD C) g slot d i = new d i
  | [], C, _, _, _, h => h
  | x :: Z, C, hC, hW, hl, h => by
    simp only [List.foldl_cons]
    have hw := hW x (by simp)
    refine picked_mix (n := n) Z (AM.pickD C x) ?_ ?_ (fun y hy => hl y (by simp [hy])) ?_
    · unfold AM.pickD
      split
      · exact AM.OkC.lay hC hw.k hw.now hw.nowS
      · exact hC
    · intro y hy
      have hy' := hW y (by simp [hy])
      unfold AM.pickD
      split
      · exact AM.OkW.lay hy' _ _ _
      · exact hy'
    · intro d i hi
      unfold AM.pickD
      split
      · obtain ⟨i', h1, h2, h3⟩ := hl x (by simp)
        unfold cont
        rw [look_lay hC hw.on hw.k hw.now]
        split
        · rename_i c
          obtain ⟨rfl, c2⟩ := c
          obtain rfl : i = i' := by omega
          exact .inr h3
        · exact h d i hi
      · exact h d i hi
theorem Mid.crash {C0 : List AM.Disk} {g : Geo} {slot : Nat} {new : Nat → Nat → List Nat} {R : AM.Raw} (h : Mid C0 g slot new R) (ps : List Nat) : ∀ d i, i < 8 → cont (R.crash ps).C g slot d i = cont C0 g slot d i ∨ cont (R.crash ps).C g slot d i = new d i := by
  have hu := AM.OkC.undo h.ok.C h.ok.L 0
  rw [h.undo] at hu
  have e : (R.crash ps).C = (R.L.zip ps).foldl AM.pickD C0 := by
    show AM.crashC R.C R.L ps = _
    unfold AM.crashC
    rw [h.undo]
  rw [e]
  exact picked_mix (n := R.n) (R.L.zip ps) C0 hu.1 (fun x hx => hu.2 _ (List.of_mem_zip hx).1) (fun x hx => h.fly _ (List.of_mem_zip hx).1) (fun _ _ _ => .inl rfl)
end SP
end Go.Proofs.YtfjlpifaaknmpaaGreat

/- A segment that was written: what is read of it, whichever disks are left. No text of the program is named. -/
set_option linter.unusedSimpArgs false
set_option linter.unusedVariables false
set_option maxRecDepth 100000
namespace Go.Proofs.YtfjlpifaaknmpaaGreat
namespace SP

/-- On each disk that is on the slot holds the chunk of xs under the stamp m. -/
def Wrote (R : AM.Raw) (g : Geo) (slot m : Nat) (xs : List Nat) : Prop := ∀ d, d < g.n → R.on (d : Int) = true → ∀ i, i < 8 → cont R.C g slot d i = (CM.secs m ((code g xs).getD d []) 8).getD i []
theorem sectTo_cont {R : AM.Raw} {g : Geo} {slot d : Nat} {S : List (List Nat)} (hS : S.length = 8) (h : ∀ i, i < 8 → cont R.C g slot d i = S.getD i []) : sectTo R g slot d 8 = S := by
  apply List.ext_getElem
  · rw [sectTo_len, hS]
  · intro i h1 h2
    rw [sectTo_len] at h1
    have := h i h1
    simp only [sectTo, List.getElem_map, List.getElem_range]
    unfold cont at this
    rw [this]
    simp [List.getD, h2]
theorem Wrote.sects {R : AM.Raw} {g : Geo} {slot m : Nat} {xs : List Nat} (h : Wrote R g slot m xs) {d : Nat} (hd : d < g.n) (ho : R.on (d : Int) = true) : sects R g slot d = CM.secs m ((code g xs).getD d []) 8 := by
  rw [sects_on ho]
  exact sectTo_cont (CM.secs_len _ _ _) (h d hd ho)
theorem fit448 {m : Nat} {E : List Nat} (hm : m ≠ 0) (hE : E.length = 448) : CM.fit m E = true ∧ CM.putS m E = CM.secs m E 8 := by
  have hf : CM.fit m E = true := CM.fit_iff.2 ⟨hm, by omega, by omega, by omega⟩
  exact ⟨hf, by unfold CM.putS; rw [if_pos hf, hE]⟩
theorem Wrote.chunk {R : AM.Raw} {g : Geo} {slot m : Nat} {xs : List Nat} (h : Wrote R g slot m xs) (hm : m ≠ 0) (hm2 : m < 256 ^ 8) {d : Nat} (hd : d < g.n) (ho : R.on (d : Int) = true) :
    yesD R g slot d = true ∧ numD R g slot d = m ∧ datD R g slot d = (code g xs).getD d [] := by
  have hE := code_row g xs hd
  obtain ⟨hf, hp⟩ := fit448 hm hE
  have := CM.put_take hm2 hf
  rw [hp] at this
  unfold yesD numD datD
  rw [h.sects hd ho]
  exact this
theorem Wrote.yes {R : AM.Raw} {g : Geo} {slot m : Nat} {xs : List Nat} (h : Wrote R g slot m xs) (hm : m ≠ 0) (hm2 : m < 256 ^ 8) {d : Nat} (hd : d < g.n) : yesD R g slot d = R.on (d : Int) := by
  cases ho : R.on (d : Int)
  · unfold yesD; rw [sects_off ho]; simp [CM.yes]
  · exact (h.chunk hm hm2 hd ho).1
theorem Wrote.has {R : AM.Raw} {g : Geo} {slot m : Nat} {xs : List Nat} (h : Wrote R g slot m xs) (hm : m ≠ 0) (hm2 : m < 256 ^ 8) {d : Nat} (hd : d < g.n) : has R g slot m d = R.on (d : Int) := by
  unfold SP.has
  rw [h.yes hm hm2 hd]
  cases ho : R.on (d : Int)
  · rfl
  · simp [(h.chunk hm hm2 hd ho).2.1]
theorem countP_get {α : Type} (p : α → Bool) (l : List (Option α)) : ∀ j, j ≤ l.length → ((List.range j).filter (fun d => (l.getD d none).isSome)).length = (l.take j).countP (·.isSome)
  | 0, _ => by simp
  | j + 1, hj => by
    rw [List.range_succ, List.filter_append, List.length_append, countP_get p l j (by omega), List.take_succ_eq_append_getElem (by omega), List.countP_append]
    congr 1
    have e : l.getD j none = l[j] := by simp [List.getD, show j < l.length from by omega]
    have e2 : (List.filter (fun d => (l.getD d none).isSome) [j]) = if (l.getD j none).isSome then [j] else [] := by
      cases h : (l.getD j none).isSome <;> simp only [List.filter_cons, List.filter_nil, h] <;> simp
    rw [List.countP_singleton, e2, e]
    cases l[j] <;> simp
theorem ons_filter {R : AM.Raw} {g : Geo} (hg : g.Ok R) : ((List.range g.n).filter (fun d : Nat => R.on (d : Int))).length = R.ons := by
  have e : (fun d : Nat => R.on (d : Int)) = fun d : Nat => (R.C.getD d none).isSome := by funext d; exact on_iff_C
  rw [e, countP_get (fun _ => true) R.C g.n (by rw [hg.len]; omega)]
  unfold AM.Raw.ons
  rw [List.take_of_length_le (by rw [hg.len]; omega)]
theorem Wrote.hits {R : AM.Raw} {g : Geo} {slot m : Nat} {xs : List Nat} (h : Wrote R g slot m xs) (hg : g.Ok R) (hm : m ≠ 0) (hm2 : m < 256 ^ 8) : (hits R g slot m g.n).length = R.ons := by
  rw [← ons_filter hg]
  unfold SP.hits
  congr 1
  apply List.filter_congr
  intro d hd
  exact h.has hm hm2 (List.mem_range.1 hd)
/-- What is read. -/
theorem Wrote.read {R : AM.Raw} {g : Geo} {slot : Nat} {m : Nat} {xs : List Nat} (h : Wrote R g slot m xs) (hg : g.Ok R) (hm : m ≠ 0) (hm2 : m < 256 ^ 8) (hx : ∀ x ∈ xs, x < 256) (hl : xs.length = g.k * 448) (h0 : R.off = false) (hs : slot < g.s)
    {out : List Nat} {e : Nat} (hr : RdP R g (slot : Int) m out e) : (g.k ≤ R.ons → out = xs ∧ e = 0) ∧ (R.ons < g.k → out = [] ∧ e = 20) := by
  have hy : why R g (slot : Int) = 0 := by
    unfold why
    rw [h0]
    simp only [Bool.false_eq_true, if_false]
    rw [if_pos ⟨by omega, by omega⟩]
  have hh := h.hits hg hm hm2
  unfold RdP at hr
  rw [Int.toNat_natCast] at hr
  rcases hr with ⟨a1, _, _⟩ | ⟨_, a2, _⟩ | ⟨_, _, a3, rfl, rfl⟩ | ⟨_, _, a3, rfl, P, a, hP, rfl⟩
  · exact absurd hy a1
  · exact absurd a2 hm
  · exact ⟨fun h1 => by omega, fun _ => ⟨rfl, rfl⟩⟩
  · refine ⟨fun _ => ⟨?_, rfl⟩, fun h1 => by omega⟩
    obtain ⟨_, rfl⟩ := dec_is hg a3 hP (parts_shape hl) (parts_small hx _) (fun d hd hd' => by
      rw [h.has hm hm2 hd] at hd'
      rw [(h.chunk hm hm2 hd hd').2.2, code_get g xs hd])
    exact parts_all hl
theorem mark_secs {m : Nat} (hm2 : m < 256 ^ 8) (E : List Nat) : (CM.secs m E 8).map (fun b => SM.val b 8) = List.replicate 8 m := by
  rw [List.eq_replicate_iff]
  refine ⟨by simp [CM.secs], fun b hb => ?_⟩
  obtain ⟨c, hc, rfl⟩ := List.mem_map.1 hb
  unfold CM.secs at hc
  obtain ⟨i, _, rfl⟩ := List.mem_map.1 hc
  exact SM.val_sec hm2 _
theorem mem_markTo {R : AM.Raw} {g : Geo} {slot j y : Nat} (h : y ∈ markTo R g slot j) : ∃ d, d < j ∧ y ∈ marks R g slot d := by
  unfold markTo at h
  obtain ⟨d, hd, hy⟩ := List.mem_flatMap.1 h
  exact ⟨d, List.mem_range.1 hd, hy⟩
theorem Wrote.high {R : AM.Raw} {g : Geo} {slot m : Nat} {xs : List Nat} (h : Wrote R g slot m xs) (hm2 : m < 256 ^ 8) {d : Nat} (hd : d < g.n) (ho : R.on (d : Int) = true) : high R g slot = m := by
  unfold SP.high
  apply Nat.le_antisymm
  · refine top_le fun y hy => ?_
    obtain ⟨e, he, hy⟩ := mem_markTo hy
    unfold marks at hy
    cases ho' : R.on (e : Int)
    · rw [sects_off ho'] at hy; simp at hy
    · rw [h.sects he ho', mark_secs hm2] at hy
      rw [(List.mem_replicate.1 hy).2]
      exact Nat.le_refl _
  · refine le_top ?_
    unfold markTo
    refine List.mem_flatMap.2 ⟨d, List.mem_range.2 hd, ?_⟩
    unfold marks
    rw [h.sects hd ho, mark_secs hm2]
    simp
theorem Wrote.stamps {R : AM.Raw} {g : Geo} {slot m : Nat} {xs : List Nat} (h : Wrote R g slot m xs) (hg : g.Ok R) (hm : m ≠ 0) (hm2 : m < 256 ^ 8) : stampTo R g slot g.n = List.replicate R.ons m := by
  rw [List.eq_replicate_iff]
  constructor
  · rw [← ons_filter hg]
    unfold stampTo
    rw [List.length_map]
    congr 1
    apply List.filter_congr
    intro d hd
    exact h.yes hm hm2 (List.mem_range.1 hd)
  · intro y hy
    unfold stampTo at hy
    obtain ⟨d, hd, rfl⟩ := List.mem_map.1 hy
    obtain ⟨h1, h2⟩ := List.mem_filter.1 hd
    exact (h.chunk hm hm2 (List.mem_range.1 h1) (yes_on h2)).2.1
theorem top_replicate (m : Nat) : ∀ n, 1 ≤ n → top (List.replicate n m) = m := fun n hn => by
  apply Nat.le_antisymm
  · exact top_le fun x hx => by rw [(List.mem_replicate.1 hx).2]; exact Nat.le_refl _
  · exact le_top (List.mem_replicate.2 ⟨by omega, rfl⟩)
theorem Wrote.whole {R : AM.Raw} {g : Geo} {slot m : Nat} {xs : List Nat} (h : Wrote R g slot m xs) (hg : g.Ok R) (hm : m ≠ 0) (hm2 : m < 256 ^ 8) : whole R g slot = if g.k ≤ R.ons then m else 0 := by
  unfold SP.whole often
  rw [h.stamps hg hm hm2]
  have k1 := hg.k1
  by_cases c : g.k ≤ R.ons
  · rw [if_pos c]
    have e : (List.replicate R.ons m).filter (fun y => decide (g.k ≤ (List.replicate R.ons m).count y)) = List.replicate R.ons m := by
      rw [List.filter_eq_self]
      intro y hy
      obtain rfl := (List.mem_replicate.1 hy).2
      rw [List.count_replicate_self]
      exact decide_eq_true c
    rw [e]
    exact top_replicate m _ (by omega)
  · rw [if_neg c]
    have e : (List.replicate R.ons m).filter (fun y => decide (g.k ≤ (List.replicate R.ons m).count y)) = [] := by
      rw [List.filter_eq_nil_iff]
      intro y hy
      obtain rfl := (List.mem_replicate.1 hy).2
      rw [List.count_replicate_self]
      simpa using c
    rw [e]
    rfl

theorem code_small {g : Geo} {xs : List Nat} {m : Nat} (hg : ∀ x ∈ xs, x < 256) : ∀ d i, i < 8 → ∀ x ∈ (CM.secs m ((code g xs).getD d []) 8).getD i [], x < 256 := fun d i hi x hx => by
  rw [CM.secs_get m _ hi] at hx
  refine SM.sec_small (CM.ld_small (fun y hy => ?_) i) x hx
  by_cases hd : d < g.n
  · rw [code_get g xs hd] at hy
    unfold codeRow at hy
    obtain ⟨t, _, rfl⟩ := List.mem_map.1 hy
    unfold codeAt
    refine MX.xs_lt fun j _ => ?_
    exact M.mul_lt _ (MX.gen_lt _ _ _)
  · have : (code g xs).getD d [] = [] := by
      have := code_len g xs
      simp [List.getD, show (code g xs).length ≤ d from by omega]
    rw [this] at hy
    simp at hy
/-- A Write that is not in the way of anything. -/
theorem write_sure {R : AM.Raw} {g : Geo} (ok : R.Ok) (hg : g.Ok R) {slot m : Nat} (hs : slot < g.s) (h0 : R.off = false) (hf : R.fuse = 0) (hm : m ≠ 0) {xs : List Nat} (hx : ∀ x ∈ xs, x < 256) (hl : xs.length = g.k * 448) (ho : g.k ≤ R.ons) :
    (write R g (slot : Int) m xs).1 = 0 ∧ Wrote (write R g (slot : Int) m xs).2 g slot m xs ∧ (write R g (slot : Int) m xs).2.off = false ∧ (write R g (slot : Int) m xs).2.fuse = 0 ∧ (write R g (slot : Int) m xs).2.Ok := by
  have hy : why R g (slot : Int) = 0 := by
    unfold why
    rw [h0]
    simp only [Bool.false_eq_true, if_false]
    rw [if_pos ⟨by omega, by omega⟩]
  have e : write R g (slot : Int) m xs = wrTo R g slot m (code g xs) g.n := by
    unfold write
    rw [if_neg (by omega), if_neg (by omega), if_neg (by omega), Int.toNat_natCast]
  rw [e]
  obtain ⟨h1, h2, h3⟩ := wrTo_sure hg hs h0 hf (m := m) (E := code g xs) (fun d hd => code_row g xs hd) g.n (Nat.le_refl _)
  obtain ⟨h4, h5⟩ := wrTo_done ok (g := g) (slot := slot) (m := m) (E := code g xs) (code_small hx) g.n h1
  have hk := wrTo_kept R g slot m (code g xs) g.n
  refine ⟨h1, fun d hd hon i hi => ?_, h2, h3, h4⟩
  rw [hk.on] at hon
  rw [h5 d i hi, if_pos ⟨hd, hon⟩]
/-- A disk is lost. -/
theorem Wrote.lose {R : AM.Raw} {g : Geo} {slot m : Nat} {xs : List Nat} (h : Wrote R g slot m xs) (d : Int) : Wrote (R.lose d).2 g slot m xs := by
  unfold AM.Raw.lose
  split
  · exact h
  · split
    · intro e he ho i hi
      have hne : e ≠ d.toNat := fun c => by
        subst c
        rw [on_iff_C] at ho
        simp only [AM.Raw.lost] at ho
        by_cases hl : d.toNat < R.C.length
        · simp [List.getD, hl] at ho
        · simp [List.getD, hl] at ho
      have eC : (R.C.set d.toNat none).getD e none = R.C.getD e none := by simp [List.getD, Ne.symm hne]
      have ho' : R.on (e : Int) = true := by
        rw [on_iff_C] at ho ⊢
        simp only [AM.Raw.lost] at ho
        rwa [eC] at ho
      have := h e he ho' i hi
      unfold cont AM.look at this ⊢
      simp only [AM.Raw.lost]
      rw [eC]
      exact this
    · exact h
end SP
end Go.Proofs.YtfjlpifaaknmpaaGreat

/- Disks that are lost; what awake comes to. No text of the program is named. -/
set_option linter.unusedSimpArgs false
set_option linter.unusedVariables false
set_option maxRecDepth 100000
namespace Go.Proofs.YtfjlpifaaknmpaaGreat
namespace SP

theorem lose_C (R : AM.Raw) (d : Int) : (R.lose d).2.C = R.C ∨ (R.lose d).2.C = R.C.set d.toNat none := by
  unfold AM.Raw.lose
  split
  · exact .inl rfl
  · split
    · exact .inr rfl
    · exact .inl rfl
theorem lose_geo {R : AM.Raw} {g : Geo} (h : g.Ok R) (d : Int) : g.Ok (R.lose d).2 := by
  have hn : (R.lose d).2.n = R.n := by
    unfold AM.Raw.lose
    split
    · rfl
    · split <;> rfl
  refine ⟨h.k1, h.kn, h.n255, h.s1, h.s2, by rw [hn]; exact h.room, ?_⟩
  rcases lose_C R d with e | e <;> rw [e]
  · exact h.len
  · rw [List.length_set]; exact h.len
theorem lose_off (R : AM.Raw) (d : Int) : (R.lose d).2.off = R.off := by
  unfold AM.Raw.lose
  split
  · rfl
  · split <;> rfl
theorem lose_L (R : AM.Raw) (d : Int) : (R.lose d).2.L.length ≤ R.L.length := by
  unfold AM.Raw.lose
  split
  · simp
  · split
    · exact List.length_filter_le _ _
    · simp
/-- A disk that is on is lost. -/
theorem lose_yes {R : AM.Raw} {d : Nat} (h : R.on (d : Int) = true) : (R.lose (d : Int)).1 = 0 ∧ ∀ e : Nat, (R.lose (d : Int)).2.on (e : Int) = (R.on (e : Int) && !(e == d)) := by
  obtain ⟨h1, h2, _⟩ := AM.on_iff h
  have hf : R.find (d : Int) = 0 := by unfold AM.Raw.find; rw [if_pos ⟨h1, h2⟩]
  unfold AM.Raw.lose
  rw [if_neg (by omega), if_pos h]
  refine ⟨rfl, fun e => ?_⟩
  rw [on_iff_C, on_iff_C]
  simp only [AM.Raw.lost, Int.toNat_natCast]
  by_cases c : e = d
  · subst c
    have hl : e < R.C.length := by omega
    simp [List.getD, hl]
  · simp [List.getD, Ne.symm c, c]
theorem write_len {R : AM.Raw} {g : Geo} (slot : Int) (m : Nat) (xs : List Nat) (hL : ∀ R' : AM.Raw, ∀ (d k : Int) (b : List Nat), (R'.writes d k b).2.L.length ≤ R'.L.length + 1) : (write R g slot m xs).2.L.length ≤ R.L.length + 8 * g.n := by
  have lt : ∀ (R : AM.Raw) (s d : Nat) (S : List (List Nat)) (j : Nat), (layTo R g s d S j).2.L.length ≤ R.L.length + j := by
    intro R s d S j
    induction j with
    | zero => simp [layTo]
    | succ j ih =>
      unfold layTo
      split
      · have := hL (layTo R g s d S j).2 (d : Int) ((g.f + 8 * s + j : Nat) : Int) (S.getD j [])
        omega
      · omega
  have wt : ∀ (s : Nat) (E : List (List Nat)) (j : Nat), (wrTo R g s m E j).2.L.length ≤ R.L.length + 8 * j := by
    intro s E j
    induction j with
    | zero => simp [wrTo]
    | succ j ih =>
      unfold wrTo
      split
      · have := lt (wrTo R g s m E j).2 s j (CM.secs m (E.getD j []) 8) 8
        unfold lays
        omega
      · omega
  unfold write
  split
  · simp
  · split
    · simp
    · split
      · simp
      · exact wt _ _ _
theorem new_ok {N n : Nat} (h1 : 1 ≤ N) (h2 : N ≤ 255) (h3 : 1 ≤ n) (h4 : n ≤ 4096) : (AM.Raw.new N n).Ok ∧ (∀ d : Nat, (AM.Raw.new N n).on (d : Int) = decide (d < N)) := by
  refine ⟨(AM.sim_new h1 h2 h3 h4).ok, fun d => ?_⟩
  rw [on_iff_C]
  simp only [AM.Raw.new]
  by_cases c : d < N
  · simp [List.getD, c]
  · simp [List.getD, c]
theorem new_geo {k N S f n : Nat} (hn : n = f + 8 * S) (h1 : 1 ≤ k) (h2 : k < N) (h3 : N ≤ 255) (h4 : 1 ≤ S) (h5 : S ≤ 128) : Geo.Ok ⟨k, N, S, f⟩ (AM.Raw.new N n) :=
  ⟨h1, h2, h3, h4, h5, by show f + 8 * S ≤ n; omega, by simp [AM.Raw.new]⟩
theorem new_ons {N n : Nat} {g : Geo} (hg : g.Ok (AM.Raw.new N n)) (h : g.n = N) (h1 : 1 ≤ N) (h2 : N ≤ 255) (h3 : 1 ≤ n) (h4 : n ≤ 4096) : (AM.Raw.new N n).ons = N := by
  rw [← ons_filter hg, h]
  have e : (List.range N).filter (fun d : Nat => (AM.Raw.new N n).on (d : Int)) = List.range N := by
    rw [List.filter_eq_self]
    intro d hd
    rw [(new_ok h1 h2 h3 h4).2]
    exact decide_eq_true (List.mem_range.1 hd)
  rw [e, List.length_range]
end SP
end Go.Proofs.YtfjlpifaaknmpaaGreat

