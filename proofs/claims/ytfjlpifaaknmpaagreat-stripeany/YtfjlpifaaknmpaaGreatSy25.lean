/- Packed: Lay8, Parts8, Spoil, Flat4, EncB4, Write8. -/
import Derived.Test.YtfjlpifaaknmpaaGreatSy1
import Derived.Test.YtfjlpifaaknmpaaGreatSy2
import Derived.Test.YtfjlpifaaknmpaaGreatSy3
import Derived.Test.YtfjlpifaaknmpaaGreatSy4
import Derived.Test.YtfjlpifaaknmpaaGreatSy5
import Derived.Test.YtfjlpifaaknmpaaGreatSy6
import Derived.Test.YtfjlpifaaknmpaaGreatSy7
import Derived.Test.YtfjlpifaaknmpaaGreatSy8
import Derived.Test.YtfjlpifaaknmpaaGreatSy9
import Derived.Test.YtfjlpifaaknmpaaGreatSy10
import Derived.Test.YtfjlpifaaknmpaaGreatSy11
import Derived.Test.YtfjlpifaaknmpaaGreatSy12
import Derived.Test.YtfjlpifaaknmpaaGreatSy16
import Derived.Test.YtfjlpifaaknmpaaGreatSy17
import Derived.Test.YtfjlpifaaknmpaaGreatSy24
import Derived.Deep.RegionHeld3
import Derived.BigRegion
import Derived.Test.YtfjlpifaaknmpaaGreatSy18
import Derived.Test.YtfjlpifaaknmpaaGreatSy19
import Derived.Test.YtfjlpifaaknmpaaGreatSy20
import Derived.Test.YtfjlpifaaknmpaaGreatSy21
import Derived.Test.YtfjlpifaaknmpaaGreatSy22
import Derived.Laws.BitsAllLaws
/- The contract of stripe.lay. -/
set_option linter.unusedSimpArgs false
set_option linter.unusedVariables false
set_option maxRecDepth 100000
namespace Go.Proofs.YtfjlpifaaknmpaaGreat
open Go.RowKit

theorem Upd.cell {F : Nat → Prop} {w w' : World} {b j : Nat} {v : Value} (u : Upd F w w') (hc : w.cell? ⟨b, j, none⟩ = some v) (hn : ¬ F b) : w'.cell? ⟨b, j, none⟩ = some v := by
  have hlt := World.block_lt_of_cell? w _ hc
  rw [World.cell?_of_block (w := w) (u.block b hlt hn)]
  exact hc
theorem writes_len8 (R : AM.Raw) (d k : Int) (b : List Nat) : (R.writes d k b).2.L.length ≤ R.L.length + 1 := by
  have hb : R.burnt.L = R.L := by unfold AM.Raw.burnt; split <;> rfl
  unfold AM.Raw.writes
  split
  · simp
  · split
    · simp
    · split
      · simp [hb]
      · simp [AM.Raw.fly, hb]
theorem layTo_len (R : AM.Raw) (g : SP.Geo) (slot d : Nat) (S : List (List Nat)) : ∀ j, (SP.layTo R g slot d S j).2.L.length ≤ R.L.length + j
  | 0 => by simp [SP.layTo]
  | j + 1 => by
    have := layTo_len R g slot d S j
    unfold SP.layTo
    split
    · have := writes_len8 (SP.layTo R g slot d S j).2 (d : Int) ((g.f + 8 * slot + j : Nat) : Int) (S.getD j [])
      omega
    · omega

section
variable {F F' : Nat → Prop} {w w' : World} {s a : Nat} {g : SP.Geo} {R R' : AM.Raw}
set_option maxHeartbeats 3200000 in
theorem slay_any (h : SI F w s a g R) {d slot m : Nat} {v : Value} {part : List Nat} (hs : slot < g.s) (hv : Vec w v part) (hm : m ≠ 0) (hp : part.length = 448) (hL : R.L.length ≤ 999000) :
    Calls Tryz.prog 49 #[ptr s, .int .i64 (d : Int), .int .i64 (slot : Int), .int .u64 (m : Int), v] w fun e w' => e = .returned (.int .i64 ((SP.lays R g slot d m part).1 : Int)) ∧ ∃ F', SI F' w' s a g (SP.lays R g slot d m part).2 ∧ Step F w F' w' := by
  have H : Hid (SI F w s a g R) := h
  have hf : CM.fit m part = true := CM.fit_iff.2 ⟨hm, by omega, by omega, by omega⟩
  have hE : CM.putE m part = 0 := (CM.putE_fit m part).2 hf
  have hS : CM.putS m part = CM.secs m part 8 := by unfold CM.putS; rw [if_pos hf, hp]
  have RP : Hid (Calls Tryz.prog 97 #[.int .u64 (m : Int), v] w fun e w' => ∃ u us, e = .returned (.tuple #[u, .int .i64 0]) ∧ RMat 123 w.heap.size w' u us (CM.secs m part 8) ∧ w.grownBy w' none) := by
    have := cPut_any (n := m) hv
    rw [hE, hS] at this
    exact this
  have HN : Hid (slot < g.s ∧ R.L.length ≤ 999000 ∧ g.f + 8 * slot + 8 ≤ 4096) := ⟨hs, hL, by have := h.ok.room; have := h.i.ok.n2; omega⟩
  have HK : Hid (∀ j, SP.Kept R (SP.layTo R g slot d (CM.secs m part 8) j).2) := SP.layTo_kept R g slot d (CM.secs m part 8)
  have HLL : Hid (∀ j, (SP.layTo R g slot d (CM.secs m part 8) j).2.L.length ≤ R.L.length + j) := layTo_len R g slot d (CM.secs m part 8)
  unfold SP.lays
  have HX : Hid (∀ j, j < 8 → (SP.layTo R g slot d (CM.secs m part 8) j).1 = 0 → SP.layTo R g slot d (CM.secs m part 8) (j + 1) = (SP.layTo R g slot d (CM.secs m part 8) j).2.writes (d : Int) ((g.f + 8 * slot + j : Nat) : Int) ((CM.secs m part 8).getD j [])) := fun j _ h0 => SP.layTo_succ h0
  have HY : Hid (∀ j, j ≤ 8 → (SP.layTo R g slot d (CM.secs m part 8) j).1 ≠ 0 → SP.layTo R g slot d (CM.secs m part 8) 8 = SP.layTo R g slot d (CM.secs m part 8) j) := fun j hj h0 => SP.layTo_stop h0 8 hj
  have HX0 : Hid (SP.layTo R g slot d (CM.secs m part 8) 0 = (0, R)) := rfl
  have HSL : Hid ((CM.secs m part 8).length = 8) := CM.secs_len _ _ _
  clear h hf hE hS hv hm hp hL hs
  generalize SP.layTo R g slot d (CM.secs m part 8) = LT at *
  generalize CM.secs m part 8 = S at *
  go_enter Tryz.func49, Tryz.ntmps49
  go_wp2_with (go_at_call 97; refine RP.out.mono ?_; rintro e w1 ⟨u, us, rfl, m1, g1⟩; have hs8 := m1.same; obtain ⟨q, N, cap, rfl, hN⟩ := m1.mat.row.opened; have M1 : Hid (RMat 123 w.heap.size w1 (.slice q N cap) us S) := m1; have G1 : Hid (w.grownBy w1 none) := g1; have HNN : Hid (N = 8 ∧ us.length = 8) := ⟨by have := HSL.out; omega, by have := HSL.out; omega⟩; have hN8 : N = 8 := HNN.out.1; clear m1 g1 hs8 hN)
  subst hN8
  have S1 : Hid (SI F w1 s a g R) := H.out.keep G1.out
  clear RP
  go_loopw [27] (fun ti wr => ∃ k : Nat, k ≤ 8 ∧ ti = .int .i64 k ∧ Hid ((LT k).1 = 0) ∧ Hid (∃ F', SI F' wr s a g (LT k).2 ∧ Step F w1 F' wr)) (fun ti _ => 8 - (intOf ti).toNat)
  case atStart => exact ⟨0, by omega, rfl, (by show _ = _; rw [HX0.out]), ⟨F, by rw [HX0.out]; exact S1.out, Step.refl _ _⟩⟩
  case round =>
    clear S1
    obtain ⟨k, hk, rfl, OK, HR⟩ := hrel
    obtain ⟨F1, i1, st1⟩ := HR.out
    have I1 : Hid (SI F1 wr s a g (LT k).2) := i1
    have T1 : Hid (Step F w1 F1 wr) := st1
    clear HR i1 st1
    by_cases hlt : k < 8
    · have i4 : (k : Int) < 8 := by omega
      have i5 : (0 : Int) ≤ (k : Int) := by omega
      obtain ⟨b0, off, rfl, hr0⟩ := M1.out.mat.row.spot (k := k) (by have := HNN.out; omega)
      obtain ⟨pk, nk, ck, ek, hnk⟩ := (M1.out.mat.vec k (by have := HSL.out; omega)).opened
      have hbk : ¬ F b0 := fun hf => by
        have h1 := M1.out.lo b0 rfl
        have h2 := H.out.i.lt b0 hf
        omega
      have hr := T1.out.upd.cell hr0 hbk
      have AV : Hid (Aw F1 wr (.slice pk nk ck) (S.getD k [])) := by
        have hv := M1.out.vec k (by have := HSL.out; omega)
        rw [ek] at hv
        have a0 : Aw F w1 (.slice pk nk ck) (S.getD k []) := ⟨hv.vec, fun _ g' hg' hf => by
          have h1 := hv.lo g' hg'
          have h2 := H.out.i.lt g' hf
          omega⟩
        exact a0.step T1.out
      rw [ek] at hr
      clear hr0 ek hnk hbk
      have GW : Hid (wr.grownBy (wr.drewN 1) none) := grown_drewN wr 1
      obtain ⟨b, hb⟩ : ∃ b, b = g.f + 8 * slot := ⟨_, rfl⟩
      obtain ⟨z, hz⟩ : ∃ z, z = g.f + 8 * slot + k := ⟨_, rfl⟩
      have HB : Hid (Calls Tryz.prog 98 #[ptr s, .int .i64 (slot : Int)] (wr.drewN 1) fun e w' => e = .returned (.int .i64 (b : Int)) ∧ w' = wr.drewN 1) := by
        rw [hb]; exact sbegin_yes (I1.out.keep GW.out) HN.out.1
      have hw : IntKind.i64.wrap ((b : Int) + (k : Int)) = (z : Int) := by
        have e : (b : Int) + (k : Int) = (z : Int) := by omega
        have := HN.out.2.2
        rw [e]
        exact IntWalk.i64_in _ (by omega)
      obtain ⟨c, hc⟩ : ∃ c, c = (LT (k + 1)).1 := ⟨_, rfl⟩
      have WR : Hid (Calls Tryz.prog 35 #[ptr a, .int .i64 (d : Int), .int .i64 (z : Int), .slice pk nk ck] (wr.drewN 1) fun e w' => e = .returned (.int .i64 (c : Int)) ∧ ∃ F', SI F' w' s a g (LT (k + 1)).2 ∧ Step F w1 F' w') := by
        have h1 := write_at (d := (d : Int)) (k := (z : Int)) (I1.out.keep GW.out).i (AV.out.keep GW.out) (by have h1 := HLL.out k; have h2 := HN.out.2.1; omega) rfl rfl
        have hx := HX.out k hlt OK.out
        rw [hz]
        rw [hz, ← hx, ← hc] at h1
        refine h1.mono ?_
        rintro e w9 ⟨rfl, F9, i9, s9⟩
        exact ⟨rfl, F9, (I1.out.keep GW.out).step i9 s9 (H.out.ok.kept (HK.out (k + 1))), (T1.out.trans (Step.new GW.out)).trans s9⟩
      have HCE : Hid (c = (LT (k + 1)).1) := hc
      have HC : Hid (wr.cell? ⟨s, 0, none⟩ = some (ptr a)) := I1.out.at1
      have HC1 : Hid ((wr.drewN 1).cell? ⟨s, 0, none⟩ = some (ptr a)) := (I1.out.keep GW.out).at1
      clear hb hz hc AV GW
      by_cases h0 : c = 0
      · subst h0
        go_wp2_with fail
        go_region_held3 (fun w' => w'.cell? ⟨s, 0, none⟩ = some (ptr a)) (first | exact HC1.out | exact I2.out.at1)
          ((first
            | (go_at_call 98; refine HB.out.mono ?_; rintro e w9 ⟨rfl, hw9⟩; obtain rfl := hw9.symm; clear hw9)
            | (go_at_call 35; refine WR.out.mono ?_; rintro e w2 ⟨rfl, F2, i2, st2⟩; have I2 : Hid (SI F2 w2 s a g (LT (k + 1)).2) := i2; have T2 : Hid (Step F w1 F2 w2) := st2; clear i2 st2)))
        go_wp2
        go_roundw
        case rel => exact ⟨k + 1, by omega, by go_num, HCE.out.symm, ⟨F2, I2.out, T2.out⟩⟩
        case measure => simp [intOf]; omega
      · have hne : ((c : Int) != 0) = true := neb_yes (b := 0) h0
        have HEQ : Hid (LT 8 = LT (k + 1)) := HY.out (k + 1) (by omega) (by rw [← HCE.out]; exact h0)
        go_wp2_with fail
        go_region_held3 (fun w' => w'.cell? ⟨s, 0, none⟩ = some (ptr a)) (first | exact HC1.out | exact I2.out.at1)
          ((first
            | (go_at_call 98; refine HB.out.mono ?_; rintro e w9 ⟨rfl, hw9⟩; obtain rfl := hw9.symm; clear hw9)
            | (go_at_call 35; refine WR.out.mono ?_; rintro e w2 ⟨rfl, F2, i2, st2⟩; have I2 : Hid (SI F2 w2 s a g (LT (k + 1)).2) := i2; have T2 : Hid (Step F w1 F2 w2) := st2; clear i2 st2)))
        go_wp2
        go_ret
        rw [HEQ.out, ← HCE.out]
        exact ⟨rfl, F2, I2.out, (Step.new G1.out).trans T2.out⟩
    · obtain rfl : k = 8 := by omega
      go_wp2
      go_ret
      rw [OK.out]
      exact ⟨rfl, F1, I1.out, (Step.new G1.out).trans T1.out⟩
end
end Go.Proofs.YtfjlpifaaknmpaaGreat

/- The contract of stripe.parts. -/
set_option linter.unusedSimpArgs false
set_option linter.unusedVariables false
set_option maxRecDepth 100000
namespace Go.Proofs.YtfjlpifaaknmpaaGreat
open Go.RowKit

theorem slice_lhh {b off n c lo hi : Nat} (h1 : lo ≤ hi) (h2 : hi ≤ c) (h3 : lo < hi) (W : World) : (Instr.slice 40 (.slice (some ⟨b, off, none⟩) n c) (some (.int .i64 (lo : Int))) (some (.int .i64 (hi : Int))) (some (.int .i64 (hi : Int)))).run Tryz.prog W = .ok (.slice (some ⟨b, off + lo, none⟩) (hi - lo) (hi - lo)) W := by
  obtain ⟨i0, hi0, hz0, hz1, hz2⟩ := info_parts Tryz.info5
  have e0 : (Instr.sliceBound (.int .i64 (hi : Int)) c .slice3Acap).run Tryz.prog W = .ok hi W := by
    have := run_sliceBound (P := Tryz.prog) W .i64 (hi : Int) c .slice3Acap (by omega) (by omega)
    simpa using this
  have e1 : (Instr.sliceBound (.int .i64 (hi : Int)) hi .slice3B).run Tryz.prog W = .ok hi W := by
    have := run_sliceBound (P := Tryz.prog) W .i64 (hi : Int) hi .slice3B (by omega) (by omega)
    simpa using this
  have e2 : (Instr.sliceBound (.int .i64 (lo : Int)) hi .slice3C).run Tryz.prog W = .ok lo W := by
    have := run_sliceBound (P := Tryz.prog) W .i64 (lo : Int) hi .slice3C (by omega) (by omega)
    simpa using this
  have h4 : ¬ hi = lo := by omega
  simp [Instr.slice, run_underlying Tryz.underlying40, Instr.sliceBounds, e0, e1, e2, sizeOf, typeInfo, hi0, hz1, h4, add_off]

/-- The parts of the bytes at ⟨b, off⟩. -/
def cutsAt (b off j : Nat) : List Value := (List.range j).map fun i => .slice (some ⟨b, off + 448 * i, none⟩) 448 448
theorem cutsAt_len (b off j : Nat) : (cutsAt b off j).length = j := by simp [cutsAt]
theorem cutsAt_succ (b off j : Nat) : cutsAt b off (j + 1) = cutsAt b off j ++ [.slice (some ⟨b, off + 448 * j, none⟩) 448 448] := by simp [cutsAt, List.range_succ]
theorem Vec.part {w : World} {b off n c i : Nat} {xs : List Nat} (h : Vec w (.slice (some ⟨b, off, none⟩) n c) xs) (hi : 448 * i + 448 ≤ xs.length) : Vec w (.slice (some ⟨b, off + 448 * i, none⟩) 448 448) ((xs.drop (448 * i)).take 448) := by
  have hl : ((xs.drop (448 * i)).take 448).length = 448 := by simp; omega
  refine ⟨fun x hx => h.small x (List.mem_of_mem_drop (List.mem_of_mem_take hx)), by omega, some ⟨b, off + 448 * i, none⟩, 448, by rw [hl], by omega, by decide, fun _ => ⟨b, off + 448 * i, rfl, fun j hj => ?_⟩⟩
  rw [hl] at hj
  obtain ⟨p', cap', e, h3, h4, h5⟩ := h.form
  injection e with e1 e2 e3
  obtain ⟨b', off', e', hc⟩ := h5 (fun e => by subst e; simp at hi)
  rw [← e1] at e'
  injection e' with e'
  injection e' with e3 e4
  subst e3
  subst e4
  rw [Nat.add_assoc, hc (448 * i + j) (by omega)]
  simp [List.getD, hj]
theorem cuts_mat {w : World} {B b off n c k : Nat} {v : Value} {xs : List Nat} (h : Vec w (.slice (some ⟨b, off, none⟩) n c) xs) (hl : xs.length = k * 448) (o : Out B w v (cutsAt b off k)) : Mat w v (cutsAt b off k) (SP.parts xs k) :=
  ⟨o.cells, by rw [cutsAt_len, SP.parts_len], fun j hj => by
    rw [SP.parts_len] at hj
    rw [SP.parts_get xs hj, show (cutsAt b off k).getD j undef = .slice (some ⟨b, off + 448 * j, none⟩) 448 448 from by simp [cutsAt, List.getD, hj]]
    exact h.part (by have : (j + 1) * 448 ≤ k * 448 := Nat.mul_le_mul_right _ hj
                     omega)⟩

set_option maxHeartbeats 3200000 in
theorem sparts_yes {w : World} {v : Value} {xs : List Nat} {k : Nat} (hv : Vec w v xs) (hk : 1 ≤ k) (hk2 : k ≤ 255) (hl : xs.length = k * 448) :
    Calls Tryz.prog 47 #[v] w fun e w' => ∃ u us, e = .returned u ∧ Mat w' u us (SP.parts xs k) ∧ w.grownBy w' none := by
  obtain ⟨q, N, cap, rfl, hN⟩ := hv.opened
  obtain ⟨b, off, rfl, _⟩ := hv.spot (k := 0) (by omega)
  have hcap : N ≤ cap := by
    obtain ⟨p', cap', e, h3, _⟩ := hv.form
    injection e with e1 e2 e3
    omega
  have HV : Hid (Vec w (.slice (some ⟨b, off, none⟩) N cap) xs) := hv
  have hq : (N : Int) / 448 = (k : Int) := by omega
  obtain ⟨w1, hmk, hrow, g1⟩ := run_make_rows0 w (n := k) (by omega)
  have HR : Hid (w1.ownsRow w.heap.size 40 1 (.slice (some ⟨w.heap.size, 0, none⟩) 0 k) 0 []) := hrow
  have HG : Hid (w.grownBy w1 none) := g1
  have HN : Hid (N = 448 * k ∧ xs.length = k * 448 ∧ N ≤ cap ∧ k ≤ 255) := ⟨by omega, hl, hcap, hk2⟩
  clear hv hN hcap hl hrow g1
  go_enter Tryz.func47, Tryz.ntmps47
  go_wp2_with fail
  clear hmk hq
  go_loopw [3, 4] (fun tl ti wr => ∃ j : Nat, j ≤ k ∧ ti = .int .i64 ((448 * j : Nat) : Int) ∧ Hid (Out w.heap.size wr tl (cutsAt b off j)) ∧ Hid (w.grownBy wr none)) (fun _ ti _ => 448 * k - (intOf ti).toNat)
  case atStart => exact ⟨0, by omega, rfl, ⟨by simp [cutsAt], HR.out⟩, HG⟩
  case round =>
    clear HR HG
    obtain ⟨j, hj, rfl, OK, GK⟩ := hrel
    obtain ⟨t, ht⟩ : ∃ t, t = 448 * j := ⟨_, rfl⟩
    rw [← ht]
    have HT : Hid (t = 448 * j) := ht
    by_cases hlt : j < k
    · have i3 : (t : Int) < (N : Int) := by have := HN.out; omega
      have hn1 : (j + 1) * 448 ≤ k * 448 := Nat.mul_le_mul_right _ hlt
      obtain ⟨t1, ht1⟩ : ∃ t1, t1 = t + 448 := ⟨_, rfl⟩
      have hw : IntKind.i64.wrap ((t : Int) + 448) = (t1 : Int) := by
        have e : (t : Int) + 448 = (t1 : Int) := by omega
        rw [e]
        exact IntWalk.i64_in _ (by have := HN.out; omega)
      have hsl := fun W => slice_lhh (b := b) (off := off) (n := N) (c := cap) (lo := t) (hi := t1) (by omega) (by have := HN.out; omega) (by omega) W
      rw [show t1 - t = 448 by omega] at hsl
      have HT1 : Hid (t1 = 448 * (j + 1)) := by show _ = _; omega
      have HL : Hid ((((cutsAt b off j).length + 1) * 24 ≤ 140737488351232)) := by show _ ≤ _; rw [cutsAt_len]; have := HN.out; omega
      have HS : Hid (cutsAt b off (j + 1) = cutsAt b off j ++ [.slice (some ⟨b, off + t, none⟩) 448 448]) := by rw [ht]; exact cutsAt_succ b off j
      have HLN : Hid ((cutsAt b off j).length = j) := cutsAt_len b off j
      clear ht ht1 hn1
      generalize cutsAt b off j = CJ at *
      go_wp2_with (at_builtin; refine wpList_append_row rfl _ _ rfl _ ⟨wr.heap.size, 0, none⟩ rfl rfl (OK.out.keep (World.grownBy_alloc wr _ none)).row (cell_new1 _ _ rfl) rfl (gb_alloc GK.out _).size HL.out ?_; intro v3 w3 r3 g3 at3; have M3 : Hid (Out w.heap.size w3 v3 (CJ ++ [.slice (some ⟨b, off + t, none⟩) 448 448])) := ⟨by have := HL.out; simpa using this, by simpa using r3⟩; have G3 : Hid (w.grownBy w3 none) := grown_new (gb_alloc GK.out _) g3 (fun i e => OK.out.lo i e); clear r3 g3 at3)
      go_roundw
      case rel => exact ⟨j + 1, by omega, by rw [HT1.out], by rw [HS.out]; exact M3.out, G3⟩
      case measure =>
        have := HT1.out
        have := HT.out
        have := HN.out
        simp [intOf]
        omega
    · have i3 : ¬ (t : Int) < (N : Int) := by have := HN.out; omega
      have hjk : j = k := by omega
      subst hjk
      clear ht
      go_wp2
      go_ret
      first
        | exact ⟨_, _, rfl, cuts_mat (HV.out.keep GK.out) HN.out.2.1 OK.out, GK.out⟩
        | exact ⟨_, rfl, ⟨_, cuts_mat (HV.out.keep GK.out) HN.out.2.1 OK.out⟩, GK.out⟩
end Go.Proofs.YtfjlpifaaknmpaaGreat

/- The contract of hayricklaw03.spoil: it changes nothing but the matrix's own rows. -/
set_option maxRecDepth 100000
namespace Go.Proofs.YtfjlpifaaknmpaaGreat
open Go.RowKit

/-- Rows of the call's own from block H on, whatever they read as. -/
structure Part (H : Nat) (w : World) (v : Value) (us : List Value) : Prop where
  len : us.length * 24 ≤ 140737488351232
  row : w.ownsRow H 40 1 v us.length us
  vec : ∀ j, j < us.length → ∃ xs, Own H w (us.getD j undef) xs
/-- Several such matrices, in a world that has grown out of w0. -/
structure Rags (w0 : World) (H : Nat) (w : World) (ms : List (Value × List Value)) : Prop where
  all : ∀ m ∈ ms, Part H w m.1 m.2
  lt : w0.heap.size ≤ H
  gr : w0.grownBy w none

theorem OwnMat.part {B H : Nat} {w : World} {v : Value} {us : List Value} {X : List (List Nat)} (h : OwnMat B w v us X) (hB : H ≤ B) : Part H w v us :=
  have h' : OwnMat H w v us X := ⟨h.len, ⟨h.row.1, by
    rcases h.row.2 with h | ⟨g, cp, cur, a1, a2, a3⟩
    · exact .inl h
    · exact .inr ⟨g, cp, cur, a1, by omega, a3⟩⟩, h.same, fun j hj => (h.vec j hj).down hB⟩
  ⟨h'.len, h'.row, fun j hj => ⟨_, h'.vec j (by have := h'.same; omega)⟩⟩
theorem Part.keep {H : Nat} {w w' : World} {v : Value} {us : List Value} (h : Part H w v us) (g : w.grownBy w' none) : Part H w' v us :=
  ⟨h.len, h.row.kept g (by cases h : v.ownBlock <;> simp), fun j hj => by obtain ⟨xs, o⟩ := h.vec j hj; exact ⟨xs, o.keep g⟩⟩

theorem Part.cells {H : Nat} {w : World} {v : Value} {us : List Value} (h : Part H w v us) : Cells w v us := Out.cells (B := H) ⟨h.len, h.row⟩

theorem Rags.at {w0 w : World} {H : Nat} {ms : List (Value × List Value)} {v : Value} {us : List Value} (h : Rags w0 H w ms) (hm : (v, us) ∈ ms) : Part H w v us := h.all _ hm

/-- A place of a row is written. -/
theorem Rags.poke {w0 w : World} {H : Nat} {ms : List (Value × List Value)} {v : Value} {us : List Value} (h : Rags w0 H w ms) (hm : (v, us) ∈ ms) {k : Nat} {p : Option Addr} {n c : Nat} (hk : k < us.length) (ek : us.getD k undef = .slice p n c) {j : Nat} (hj : j < n) :
    ∃ g x, p = some ⟨g, 0, none⟩ ∧ x < 256 ∧ w.cell? ⟨g, j, none⟩ = some (.int .u8 ((x : Nat) : Int)) ∧ w.frozen? ⟨g, j, none⟩ = false ∧ ∀ z : Nat, z < 256 → Rags w0 H (w.setCell ⟨g, j, none⟩ (.int .u8 (z : Int))) ms := by
  obtain ⟨xs, o⟩ := (h.at hm).vec k hk
  rw [ek] at o
  obtain ⟨p', n', c', e', hn'⟩ := o.vec.opened
  injection e' with e1 e2 e3
  obtain ⟨g, rfl, hnn, hc, hf, h256, hset, hgrow⟩ := o.spot (k := j) (by omega)
  have hlo := o.lo g rfl
  have hlt := h.lt
  refine ⟨g, _, rfl, h256, hc, hf, fun z hz => ⟨fun m hmm => ⟨(h.all m hmm).len, (h.all m hmm).row.kept (hgrow _) ?_, fun i hi => ?_⟩, h.lt, grown_new h.gr (hgrow _) (fun i e => by have := Option.some.inj e; omega)⟩⟩
  · exact Ap.symm (show Ap (.slice (some ⟨g, 0, none⟩) n c) m.1 from apart_kinds (h.all m hmm).row o)
  · obtain ⟨ys, oy⟩ := (h.all m hmm).vec i hi
    rcases oy.row.2 with ⟨ev, hz0⟩ | ⟨gi, ci, cur, ev, hb, hgi, hc1, hmx, hcs, ht⟩
    · exact ⟨ys, oy.kept (hgrow _) (by rw [ev]; exact .inl rfl)⟩
    · by_cases hgg : gi = g
      · subst hgg
        by_cases hjy : j < ys.length
        · obtain ⟨g2, e2, _, _, _, _, hset2, _⟩ := (show Own H w (.slice (some ⟨gi, 0, none⟩) ys.length ci) ys by rw [← ev]; exact oy).spot (k := j) hjy
          obtain rfl : gi = g2 := (by injection e2 with e2; injection e2 with e2)
          exact ⟨_, by rw [ev]; exact hset2 z hz⟩
        · refine ⟨ys, oy.small, oy.len, by simp, .inr ⟨gi, ci, cur.setIfInBounds j (.int .u8 (z : Int)), ev, hb, ?_, hc1, hmx, by simpa using hcs, ?_⟩⟩
          · rw [setCell_eq_setRow w gi j cur 5 (0, 0) _ hgi]
            exact setRow_heap w gi cur _ 5 _ hgi
          · simp only [Array.toList_setIfInBounds]
            rw [List.take_set, ht, List.set_eq_of_length_le (by simp; omega)]
      · exact ⟨ys, oy.kept (hgrow _) (by rw [ev]; exact .inr (fun e => hgg (Option.some.inj e)))⟩

end Go.Proofs.YtfjlpifaaknmpaaGreat

/- Rows of the call's own that are spoilt, one by one; great; what Encode and One answer, told once for both. -/
set_option linter.unusedVariables false
set_option maxRecDepth 100000
namespace Go.Proofs.YtfjlpifaaknmpaaGreat
open Go.RowKit

/-- Slices of the call's own from block H on, whatever they read as, and slices of slices, in a world that has grown out of w0. -/
structure Flat (w0 : World) (H : Nat) (w : World) (rows : List (Value × List Value)) (vs : List Value) : Prop where
  out : ∀ m ∈ rows, Out H w m.1 m.2
  vec : ∀ v ∈ vs, ∃ xs, Own H w v xs
  lt : w0.heap.size ≤ H
  gr : w0.grownBy w none

/-- A place of a slice is written. -/
theorem Flat.poke {w0 w : World} {H : Nat} {rows : List (Value × List Value)} {vs : List Value} (h : Flat w0 H w rows vs) {p : Option Addr} {n c : Nat} (hm : Value.slice p n c ∈ vs) {j : Nat} (hj : j < n) :
    ∃ g x, p = some ⟨g, 0, none⟩ ∧ x < 256 ∧ w.cell? ⟨g, j, none⟩ = some (.int .u8 ((x : Nat) : Int)) ∧ w.frozen? ⟨g, j, none⟩ = false ∧ ∀ z : Nat, z < 256 → Flat w0 H (w.setCell ⟨g, j, none⟩ (.int .u8 (z : Int))) rows vs := by
  obtain ⟨xs, o⟩ := h.vec _ hm
  obtain ⟨p', n', c', e', hn'⟩ := o.vec.opened
  injection e' with e1 e2 e3
  obtain ⟨g, rfl, hnn, hc, hf, h256, hset, hgrow⟩ := o.spot (k := j) (by omega)
  have hlo := o.lo g rfl
  have hlt := h.lt
  refine ⟨g, _, rfl, h256, hc, hf, fun z hz => ⟨fun m hmm => (h.out m hmm).kept (hgrow _) ?_, fun u hu => ?_, h.lt, grown_new h.gr (hgrow _) (fun i e => by have := Option.some.inj e; omega)⟩⟩
  · exact Ap.symm (show Ap (.slice (some ⟨g, 0, none⟩) n c) m.1 from apart_kinds (h.out m hmm).row o)
  · obtain ⟨ys, oy⟩ := h.vec u hu
    rcases oy.row.2 with ⟨ev, hz0⟩ | ⟨gi, ci, cur, ev, hb, hgi, hc1, hmx, hcs, ht⟩
    · exact ⟨ys, oy.kept (hgrow _) (by rw [ev]; exact .inl rfl)⟩
    · by_cases hgg : gi = g
      · subst hgg
        by_cases hjy : j < ys.length
        · obtain ⟨g2, e2, _, _, _, _, hset2, _⟩ := (show Own H w (.slice (some ⟨gi, 0, none⟩) ys.length ci) ys by rw [← ev]; exact oy).spot (k := j) hjy
          obtain rfl : gi = g2 := (by injection e2 with e2; injection e2 with e2)
          exact ⟨_, by rw [ev]; exact hset2 z hz⟩
        · refine ⟨ys, oy.small, oy.len, by simp, .inr ⟨gi, ci, cur.setIfInBounds j (.int .u8 (z : Int)), ev, hb, ?_, hc1, hmx, by simpa using hcs, ?_⟩⟩
          · rw [setCell_eq_setRow w gi j cur 5 (0, 0) _ hgi]
            exact setRow_heap w gi cur _ 5 _ hgi
          · simp only [Array.toList_setIfInBounds]
            rw [List.take_set, ht, List.set_eq_of_length_le (by simp; omega)]
      · exact ⟨ys, oy.kept (hgrow _) (by rw [ev]; exact .inr (fun e => hgg (Option.some.inj e)))⟩
theorem Flat.more {w0 w : World} {H : Nat} {rows : List (Value × List Value)} {vs : List Value} (h : Flat w0 H w rows vs) {u : Value} {xs : List Nat} {B : Nat} (o : Own B w u xs) (hB : H ≤ B) : Flat w0 H w rows (u :: vs) :=
  ⟨h.out, fun v hv => by
    rcases List.mem_cons.1 hv with rfl | hv
    · exact ⟨xs, o.down hB⟩
    · exact h.vec v hv, h.lt, h.gr⟩

end Go.Proofs.YtfjlpifaaknmpaaGreat

/- What Encode and One answer, told once for the program and the document. -/
set_option linter.unusedVariables false
set_option maxRecDepth 100000
namespace Go.Proofs.YtfjlpifaaknmpaaGreat
open Go.RowKit

def encL (k n : Int) (X : List (List Nat)) : List (List Nat) := if fitsB k n X then codeList X k.toNat n.toNat (X.getD 0 []).length else []
def encE (k n : Int) (X : List (List Nat)) : Int := if fitsB k n X then 0 else 1
theorem fits_parts {k n : Int} {X : List (List Nat)} (h : fitsB k n X = true) : k = (k.toNat : Int) ∧ n = (n.toNat : Int) ∧ 1 ≤ k.toNat ∧ k.toNat < n.toNat ∧ n.toNat ≤ 255 ∧ Shape X k.toNat (X.getD 0 []).length := by
  obtain ⟨h1, h2, h3⟩ := fitsB_iff.1 h
  refine ⟨by omega, by omega, by omega, by omega, by omega, ?_⟩
  have := even_shape h3
  rwa [show X.length = k.toNat by omega] at this

theorem Sep.none : Sep [] := fun i j hi _ _ => absurd hi (by simp)
theorem made_none {w w' : World} (g : w.grownBy w' none) (er : Int) : Made w [] er (.returned (.tuple #[.slice none 0 0, .int .i64 er])) w' :=
  ⟨none, 0, 0, [], rfl, OwnMat.nil _ _, Sep.none, g⟩

theorem encode_all {w : World} {r : Value} {vs : List Value} {X : List (List Nat)} (k n : Int) (mr : Mat w r vs X) :
    Calls Tryz.prog 46 #[.int .i64 k, .int .i64 n, r] w (Made w (encL k n X) (encE k n X)) := by
  unfold encL encE
  by_cases hf : fitsB k n X = true
  · obtain ⟨e1, e2, h1, h2, h3, hs⟩ := fits_parts hf
    rw [if_pos hf, if_pos hf]
    have := encode_yes mr hs h1 h2 h3
    rwa [← e1, ← e2] at this
  · rw [if_neg hf, if_neg hf]
    refine (encode_no mr (by simpa using hf)).mono ?_
    rintro e w' ⟨rfl, rfl⟩
    exact made_none (World.grownBy.refl _ _) 1
end Go.Proofs.YtfjlpifaaknmpaaGreat

/- The contract of stripe.Write. -/
set_option linter.unusedSimpArgs false
set_option linter.unusedVariables false
set_option maxRecDepth 100000
namespace Go.Proofs.YtfjlpifaaknmpaaGreat
open Go.RowKit

theorem wrTo_len (R : AM.Raw) (g : SP.Geo) (slot m : Nat) (E : List (List Nat)) : ∀ d, (SP.wrTo R g slot m E d).2.L.length ≤ R.L.length + 8 * d
  | 0 => by simp [SP.wrTo]
  | d + 1 => by
    have := wrTo_len R g slot m E d
    unfold SP.wrTo
    split
    · have := layTo_len (SP.wrTo R g slot m E d).2 g slot d (CM.secs m (E.getD d []) 8) 8
      unfold SP.lays
      omega
    · omega

section
variable {F F' : Nat → Prop} {w w' : World} {s a : Nat} {g : SP.Geo} {R R' : AM.Raw}
/-- Encode of a segment's parts. -/
theorem sencode (hg : g.Ok R) {u : Value} {us : List Value} {xs : List Nat} (hl : xs.length = g.k * 448) (hm : Mat w u us (SP.parts xs g.k)) :
    Calls Tryz.prog 46 #[.int .i64 (g.k : Int), .int .i64 (g.n : Int), u] w fun e w' => ∃ p n c us', e = .returned (.tuple #[.slice p n c, .int .i64 0]) ∧ OwnMat w.heap.size w' (.slice p n c) us' (SP.code g xs) ∧ w.grownBy w' none := by
  have hf := SP.parts_fits hg hl
  have e1 : encL (g.k : Int) (g.n : Int) (SP.parts xs g.k) = SP.code g xs := by
    unfold encL SP.code
    rw [if_pos hf, Int.toNat_natCast, Int.toNat_natCast, (SP.parts_shape hl).row 0 (by have := hg.k1; omega)]
  have e2 : encE (g.k : Int) (g.n : Int) (SP.parts xs g.k) = 0 := if_pos hf
  have := encode_all (g.k : Int) (g.n : Int) hm
  rw [e1, e2] at this
  refine this.mono ?_
  rintro e w' ⟨p, n, c, us', rfl, h1, _, h2⟩
  exact ⟨p, n, c, us', rfl, h1, h2⟩

theorem swrite_err (h : SI F w s a g R) {slot : Int} {m : Nat} {v : Value} (hy : SP.why R g slot ≠ 0) :
    Calls Tryz.prog 11 #[ptr s, .int .i64 slot, .int .u64 (m : Int), v] w fun e w' => e = .returned (.int .i64 (SP.why R g slot : Int)) ∧ w' = w := by
  obtain ⟨y, hy1⟩ : ∃ y, y = SP.why R g slot := ⟨_, rfl⟩
  have HR : Hid (Calls Tryz.prog 45 #[ptr s, .int .i64 slot] w fun e w'' => e = .returned (.int .i64 (y : Int)) ∧ w'' = w) := by rw [hy1]; exact sreach_yes h slot
  rw [← hy1] at hy ⊢
  have hne : ((y : Int) != 0) = true := neb_yes (b := 0) hy
  clear h hy hy1
  go_enter Tryz.func11, Tryz.ntmps11
  go_wp2_with (go_at_call 45; refine HR.out.mono ?_; rintro e w9 ⟨rfl, hw9⟩; obtain rfl := hw9.symm; clear hw9)
  go_ret
  exact ⟨rfl, rfl⟩
theorem swrite_arg (h : SI F w s a g R) {slot : Int} {m : Nat} {v : Value} {xs : List Nat} (hv : Vec w v xs) (hy : SP.why R g slot = 0) (ha : m = 0 ∨ xs.length ≠ g.k * 448) :
    Calls Tryz.prog 11 #[ptr s, .int .i64 slot, .int .u64 (m : Int), v] w fun e w' => e = .returned (.int .i64 1) ∧ w' = w := by
  obtain ⟨q, N, cap, rfl, hN⟩ := hv.opened
  have HR : Hid (Calls Tryz.prog 45 #[ptr s, .int .i64 slot] w fun e w'' => e = .returned (.int .i64 0) ∧ w'' = w) := sreach_at h (by rw [hy]; rfl)
  have c1 := h.at2
  have hk : g.k ≤ 255 := by have := h.ok.kn; have := h.ok.n255; omega
  have hw : IntKind.i64.wrap ((g.k : Int) * 448) = (g.k : Int) * 448 := IntWalk.i64_in _ (by omega)
  by_cases hm : m = 0
  · subst hm
    clear h hy ha hv hN
    go_enter Tryz.func11, Tryz.ntmps11
    go_wp2_with (go_at_call 45; refine HR.out.mono ?_; rintro e w9 ⟨rfl, hw9⟩; obtain rfl := hw9.symm; clear hw9)
    go_ret
    exact ⟨rfl, rfl⟩
  · have i1 : ((m : Int) == 0) = false := eqb_no (b := 0) hm
    have i2 : ((N : Int) != (g.k : Int) * 448) = true := by
      have : N ≠ g.k * 448 := by rcases ha with h' | h' <;> omega
      have := neb_yes this
      rwa [Int.natCast_mul] at this
    clear h hy ha hv hN
    go_enter Tryz.func11, Tryz.ntmps11
    go_wp2_with (go_at_call 45; refine HR.out.mono ?_; rintro e w9 ⟨rfl, hw9⟩; obtain rfl := hw9.symm; clear hw9)
    go_ret
    exact ⟨rfl, rfl⟩

set_option maxHeartbeats 6400000 in
theorem swrite_few (h : SI F w s a g R) {slot : Int} {m : Nat} {v : Value} {xs : List Nat} (hv : Vec w v xs) (hy : SP.why R g slot = 0) (hm : m ≠ 0) (hl : xs.length = g.k * 448) (ho : R.ons < g.k) :
    Calls Tryz.prog 11 #[ptr s, .int .i64 slot, .int .u64 (m : Int), v] w fun e w' => e = .returned (.int .i64 20) ∧ w.grownBy w' none := by
  obtain ⟨q, N, cap, rfl, hN⟩ := hv.opened
  have HR : Hid (Calls Tryz.prog 45 #[ptr s, .int .i64 slot] w fun e w'' => e = .returned (.int .i64 0) ∧ w'' = w) := sreach_at h (by rw [hy]; rfl)
  have c1 := h.at2
  have HS : Hid (∀ w', w.grownBy w' none → w'.cell? ⟨s, 0, none⟩ = some (ptr a) ∧ w'.cell? ⟨s, 1, none⟩ = some (.int .i64 (g.k : Int))) := fun w' g' => ⟨(h.keep g').at1, (h.keep g').at2⟩
  obtain ⟨O, hO⟩ : ∃ O, O = R.ons := ⟨_, rfl⟩
  have HO : Hid (Calls Tryz.prog 39 #[ptr a] (w.drewN 1) fun e w' => e = .returned (.int .i64 (O : Int)) ∧ w' = w.drewN 1) := by rw [hO]; exact ons_yes (h.i.keep (grown_drewN w 1))
  have hk : g.k ≤ 255 := by have := h.ok.kn; have := h.ok.n255; omega
  have hw : IntKind.i64.wrap ((g.k : Int) * 448) = (g.k : Int) * 448 := IntWalk.i64_in _ (by omega)
  have i1 : ((m : Int) == 0) = false := eqb_no (b := 0) hm
  have i2 : ((N : Int) != (g.k : Int) * 448) = false := by
    have : N = g.k * 448 := by omega
    have := neb_no this
    rwa [Int.natCast_mul] at this
  have i3 : (O : Int) < (g.k : Int) := by omega
  clear h hy hv hN hm hl ho hO hk
  go_enter Tryz.func11, Tryz.ntmps11
  go_wp2_with (first | (go_at_call 45; refine HR.out.mono ?_; rintro e w9 ⟨rfl, hw9⟩; obtain rfl := hw9.symm; clear hw9) | fail)
  go_region_held3 (fun w' => w'.cell? ⟨s, 0, none⟩ = some (ptr a) ∧ w'.cell? ⟨s, 1, none⟩ = some (.int .i64 (g.k : Int))) (exact HS.out _ (grown_drewN w 1))
    ((go_at_call 39; refine HO.out.mono ?_; rintro e w9 ⟨rfl, hw9⟩; obtain rfl := hw9.symm; clear hw9))
  go_wp2
  go_ret
  exact ⟨rfl, grown_drewN w 1⟩

set_option maxHeartbeats 6400000 in
theorem swrite_main (h : SI F w s a g R) {slot m : Nat} {v : Value} {xs : List Nat} (hv : Aw F w v xs) (hL : R.L.length ≤ 990000) (hy : SP.why R g (slot : Int) = 0) (hm : m ≠ 0) (hl : xs.length = g.k * 448) (ho : ¬ R.ons < g.k) :
    Calls Tryz.prog 11 #[ptr s, .int .i64 (slot : Int), .int .u64 (m : Int), v] w fun e w' => e = .returned (.int .i64 ((SP.wrTo R g slot m (SP.code g xs) g.n).1 : Int)) ∧ ∃ F', SI F' w' s a g (SP.wrTo R g slot m (SP.code g xs) g.n).2 ∧ Step F w F' w' := by
  obtain ⟨q, N, cap, rfl, hN⟩ := hv.vec.opened
  have HR : Hid (Calls Tryz.prog 45 #[ptr s, .int .i64 (slot : Int)] w fun e w'' => e = .returned (.int .i64 0) ∧ w'' = w) := sreach_at h (by rw [hy]; rfl)
  obtain ⟨q0, q1, q2⟩ := SP.why_zero hy
  have c1 := h.at2
  have H : Hid (SI F w s a g R) := h
  have HS : Hid (∀ w', w.grownBy w' none → w'.cell? ⟨s, 0, none⟩ = some (ptr a) ∧ w'.cell? ⟨s, 1, none⟩ = some (.int .i64 (g.k : Int)) ∧ w'.cell? ⟨s, 2, none⟩ = some (.int .i64 (g.n : Int))) := fun w' g' => ⟨(h.keep g').at1, (h.keep g').at2, (h.keep g').at3⟩
  obtain ⟨O, hO⟩ : ∃ O, O = R.ons := ⟨_, rfl⟩
  have HO : Hid (Calls Tryz.prog 39 #[ptr a] (w.drewN 1) fun e w' => e = .returned (.int .i64 (O : Int)) ∧ w' = w.drewN 1) := by rw [hO]; exact ons_yes (h.i.keep (grown_drewN w 1))
  have hk : g.k ≤ 255 := by have := h.ok.kn; have := h.ok.n255; omega
  have hw : IntKind.i64.wrap ((g.k : Int) * 448) = (g.k : Int) * 448 := IntWalk.i64_in _ (by omega)
  have i1 : ((m : Int) == 0) = false := eqb_no (b := 0) hm
  have i2 : ((N : Int) != (g.k : Int) * 448) = false := by
    have : N = g.k * 448 := by omega
    have := neb_no this
    rwa [Int.natCast_mul] at this
  have i3 : ¬ (O : Int) < (g.k : Int) := by omega
  have PA : Hid (∀ w', w.grownBy w' none → Calls Tryz.prog 47 #[.slice q N cap] w' fun e w'' => ∃ u us, e = .returned u ∧ Mat w'' u us (SP.parts xs g.k) ∧ w'.grownBy w'' none) := fun w' g1 => sparts_yes (hv.vec.keep g1) h.ok.k1 hk hl
  have EN : Hid (∀ w' u us, Mat w' u us (SP.parts xs g.k) → Calls Tryz.prog 46 #[.int .i64 (g.k : Int), .int .i64 (g.n : Int), u] w' fun e w'' => ∃ p n c us', e = .returned (.tuple #[.slice p n c, .int .i64 0]) ∧ OwnMat w'.heap.size w'' (.slice p n c) us' (SP.code g xs) ∧ w'.grownBy w'' none) := fun w' u us m1 => sencode h.ok hl m1
  have HN : Hid (slot < g.s ∧ R.L.length ≤ 990000 ∧ m ≠ 0 ∧ g.n ≤ 255) := ⟨by omega, hL, hm, h.ok.n255⟩
  have hn255 : g.n ≤ 255 := h.ok.n255
  have HRow : Hid (∀ d, d < g.n → ((SP.code g xs).getD d []).length = 448) := fun d hd => SP.code_row g xs hd
  have HCL : Hid ((SP.code g xs).length = g.n) := SP.code_len g xs
  have HK : Hid (∀ d, SP.Kept R (SP.wrTo R g slot m (SP.code g xs) d).2) := SP.wrTo_kept R g slot m (SP.code g xs)
  have HLL : Hid (∀ d, (SP.wrTo R g slot m (SP.code g xs) d).2.L.length ≤ R.L.length + 8 * d) := wrTo_len R g slot m (SP.code g xs)
  have HX0 : Hid (SP.wrTo R g slot m (SP.code g xs) 0 = (0, R)) := rfl
  have HX1 : Hid (∀ d : Nat, (SP.wrTo R g slot m (SP.code g xs) d).1 = 0 → R.on (d : Int) = true → SP.wrTo R g slot m (SP.code g xs) (d + 1) = SP.lays (SP.wrTo R g slot m (SP.code g xs) d).2 g slot d m ((SP.code g xs).getD d [])) := fun d h0 h1 => SP.wrTo_on h0 h1
  have HX2 : Hid (∀ d : Nat, R.on (d : Int) = false → SP.wrTo R g slot m (SP.code g xs) (d + 1) = SP.wrTo R g slot m (SP.code g xs) d) := fun d h1 => SP.wrTo_off h1
  have HX3 : Hid (∀ d, d ≤ g.n → (SP.wrTo R g slot m (SP.code g xs) d).1 ≠ 0 → SP.wrTo R g slot m (SP.code g xs) g.n = SP.wrTo R g slot m (SP.code g xs) d) := fun d hd h0 => SP.wrTo_stop h0 g.n hd
  clear h hy hv hN hm hl ho hO hk q0 q1 q2 hL
  generalize SP.wrTo R g slot m (SP.code g xs) = WT at *
  generalize SP.code g xs = E at *
  go_enter Tryz.func11, Tryz.ntmps11
  go_wp2_with (first | (go_at_call 45; refine HR.out.mono ?_; rintro e w9 ⟨rfl, hw9⟩; obtain rfl := hw9.symm; clear hw9) | fail)
  go_region_held3 (fun w' => w'.cell? ⟨s, 0, none⟩ = some (ptr a) ∧ w'.cell? ⟨s, 1, none⟩ = some (.int .i64 (g.k : Int))) (exact ⟨(HS.out _ (grown_drewN w 1)).1, (HS.out _ (grown_drewN w 1)).2.1⟩)
    ((go_at_call 39; refine HO.out.mono ?_; rintro e w9 ⟨rfl, hw9⟩; obtain rfl := hw9.symm; clear hw9))
  go_wp2_with fail
  clear c1 hw i1 i2 i3 HO HR
  go_region_held3 (fun w' => w'.cell? ⟨s, 1, none⟩ = some (.int .i64 (g.k : Int)) ∧ w'.cell? ⟨s, 2, none⟩ = some (.int .i64 (g.n : Int))) (first | exact ⟨(HS.out _ (grown_trans (grown_drewN w 1) (grown_drewN _ 1))).2.1, (HS.out _ (grown_trans (grown_drewN w 1) (grown_drewN _ 1))).2.2⟩ | exact ⟨(HS.out _ G2.out).2.1, (HS.out _ G2.out).2.2⟩ | exact ⟨(HS.out _ G3.out).2.1, (HS.out _ G3.out).2.2⟩)
    ((first
      | (go_at_call 47; refine (PA.out _ (grown_trans (grown_drewN w 1) (grown_drewN _ 1))).mono ?_; rintro e w2 ⟨u, us, rfl, m2, g2⟩; have M2 : Hid (Mat w2 u us (SP.parts xs g.k)) := m2; have G2 : Hid (w.grownBy w2 none) := grown_trans (grown_trans (grown_drewN w 1) (grown_drewN _ 1)) g2; clear m2 g2)
      | (go_at_call 46; refine (EN.out _ _ _ M2.out).mono ?_; rintro e w3 ⟨p3, n3, c3, us3, rfl, m3, g3⟩; have M3 : Hid (OwnMat w.heap.size w3 (.slice p3 n3 c3) us3 E) := m3.down G2.out.size; have G3 : Hid (w.grownBy w3 none) := grown_trans G2.out g3; clear m3 g3)))
  have HN3 : Hid (n3 = g.n ∧ us3.length = g.n) := by
    have h1 := M3.out.same
    have h2 := HCL.out
    have h3 := (mat_n M3.out.mat).1
    exact ⟨by omega, by omega⟩
  have hn3 : n3 = g.n := HN3.out.1
  have S3 : Hid (SI F w3 s a g R) := H.out.keep G3.out
  clear PA EN M2 G2
  subst hn3
  go_wp2_with fail
  go_loopw [66] (fun ti wr => ∃ k : Nat, k ≤ g.n ∧ ti = .int .i64 k ∧ Hid ((WT k).1 = 0) ∧ Hid (∃ F', SI F' wr s a g (WT k).2 ∧ Step F w3 F' wr)) (fun ti _ => g.n - (intOf ti).toNat)
  case atStart => exact ⟨0, by omega, rfl, (by show _ = _; rw [HX0.out]), ⟨F, by rw [HX0.out]; exact S3.out, Step.refl _ _⟩⟩
  case round =>
    clear S3
    obtain ⟨k, hk, rfl, OK, HRR⟩ := hrel
    obtain ⟨F1, i1, st1⟩ := HRR.out
    have I1 : Hid (SI F1 wr s a g (WT k).2) := i1
    have T1 : Hid (Step F w3 F1 wr) := st1
    clear HRR i1 st1
    by_cases hlt : k < g.n
    · have i4 : (k : Int) < (g.n : Int) := by omega
      have i5 : (0 : Int) ≤ (k : Int) := by omega
      obtain ⟨b0, off, rfl, hr0⟩ := M3.out.mat.row.spot (k := k) (by have := HN3.out; omega)
      obtain ⟨pk, nk, ck, ek, hnk⟩ := (M3.out.mat.vec k (by have := HCL.out; omega)).opened
      have hbk : ¬ F b0 := fun hf => by
        have h1 := M3.out.out.lo b0 rfl
        have h2 := H.out.i.lt b0 hf
        omega
      have hr := T1.out.upd.cell hr0 hbk
      have AV : Hid (Vec wr (.slice pk nk ck) (E.getD k [])) := by
        have hv := M3.out.vec k (by have := HCL.out; omega)
        rw [ek] at hv
        exact hv.vec.upd T1.out.upd (fun _ g' hg' hf => by
          have h1 := hv.lo g' hg'
          have h2 := H.out.i.lt g' hf
          omega)
      rw [ek] at hr
      have c0 := I1.out.at1
      clear hr0 ek hnk hbk
      obtain ⟨o, ho⟩ : ∃ o, o = R.on (k : Int) := ⟨_, rfl⟩
      have ON : Hid (Calls Tryz.prog 48 #[ptr a, .int .i64 (k : Int)] wr fun e w' => e = .returned (.bool o) ∧ w' = wr) := by
        rw [ho, ← (HK.out k).on]; exact on_yes I1.out.i (k : Int)
      cases o
      · have HX : Hid (WT (k + 1) = WT k) := HX2.out k ho.symm
        clear ho
        go_wp2_with (go_at_call 48; refine ON.out.mono ?_; rintro e w9 ⟨rfl, hw9⟩; obtain rfl := hw9.symm; clear hw9)
        go_roundw
        case rel => exact ⟨k + 1, by omega, by go_num, (by show _ = _; rw [HX.out]; exact OK.out), ⟨F1, by rw [HX.out]; exact I1.out, T1.out⟩⟩
        case measure => simp [intOf]; omega
      · have HX := HX1.out k OK.out ho.symm
        obtain ⟨c, hc⟩ : ∃ c, c = (WT (k + 1)).1 := ⟨_, rfl⟩
        have LA : Hid (Calls Tryz.prog 49 #[ptr s, .int .i64 (k : Int), .int .i64 (slot : Int), .int .u64 (m : Int), .slice pk nk ck] wr fun e w' => e = .returned (.int .i64 (c : Int)) ∧ ∃ F', SI F' w' s a g (WT (k + 1)).2 ∧ Step F w3 F' w') := by
          rw [hc, HX]
          refine (slay_any I1.out (d := k) HN.out.1 AV.out HN.out.2.2.1 (HRow.out k hlt) (by have h1 := HLL.out k; have h2 := HN.out.2.1; omega)).mono ?_
          rintro e w9 ⟨rfl, F9, i9, s9⟩
          exact ⟨rfl, F9, i9, T1.out.trans s9⟩
        have HCE : Hid (c = (WT (k + 1)).1) := hc
        clear ho HX hc AV
        by_cases h0 : c = 0
        · subst h0
          go_wp2_with (first
            | (go_at_call 48; refine ON.out.mono ?_; rintro e w9 ⟨rfl, hw9⟩; obtain rfl := hw9.symm; clear hw9)
            | (go_at_call 49; refine LA.out.mono ?_; rintro e w4 ⟨rfl, F4, i4', st4⟩; have I4 : Hid (SI F4 w4 s a g (WT (k + 1)).2) := i4'; have T4 : Hid (Step F w3 F4 w4) := st4; clear i4' st4))
          go_roundw
          case rel => exact ⟨k + 1, by omega, by go_num, HCE.out.symm, ⟨F4, I4.out, T4.out⟩⟩
          case measure => simp [intOf]; omega
        · have hne : ((c : Int) != 0) = true := neb_yes (b := 0) h0
          have HEQ : Hid (WT g.n = WT (k + 1)) := HX3.out (k + 1) (by omega) (by rw [← HCE.out]; exact h0)
          go_wp2_with (first
            | (go_at_call 48; refine ON.out.mono ?_; rintro e w9 ⟨rfl, hw9⟩; obtain rfl := hw9.symm; clear hw9)
            | (go_at_call 49; refine LA.out.mono ?_; rintro e w4 ⟨rfl, F4, i4', st4⟩; have I4 : Hid (SI F4 w4 s a g (WT (k + 1)).2) := i4'; have T4 : Hid (Step F w3 F4 w4) := st4; clear i4' st4))
          go_ret
          rw [HEQ.out, ← HCE.out]
          exact ⟨rfl, F4, I4.out, (Step.new G3.out).trans T4.out⟩
    · have i4 : ¬ (k : Int) < (g.n : Int) := by omega
      have hkn : Hid (k = g.n) := by show _ = _; omega
      go_wp2
      go_ret
      rw [← hkn.out, OK.out]
      exact ⟨rfl, F1, I1.out, (Step.new G3.out).trans T1.out⟩

/-- What Write does, whatever is asked. -/
theorem swrite_all (h : SI F w s a g R) (slot : Int) (m : Nat) {v : Value} {xs : List Nat} (hv : Aw F w v xs) (hL : R.L.length ≤ 990000) :
    Calls Tryz.prog 11 #[ptr s, .int .i64 slot, .int .u64 (m : Int), v] w fun e w' => e = .returned (.int .i64 ((SP.write R g slot m xs).1 : Int)) ∧ ∃ F', SI F' w' s a g (SP.write R g slot m xs).2 ∧ Step F w F' w' := by
  unfold SP.write
  by_cases hy : SP.why R g slot = 0
  · rw [if_neg (by omega)]
    by_cases ha : m = 0 ∨ xs.length ≠ g.k * 448
    · rw [if_pos ha]
      refine (swrite_arg h hv.vec hy ha).mono ?_
      rintro e w' ⟨rfl, rfl⟩
      exact ⟨rfl, F, h, Step.refl _ _⟩
    · rw [if_neg ha]
      by_cases ho : R.ons < g.k
      · rw [if_pos ho]
        refine (swrite_few h hv.vec hy (by omega) (by omega) ho).mono ?_
        rintro e w' ⟨rfl, g1⟩
        exact ⟨rfl, F, h.keep g1, Step.new g1⟩
      · rw [if_neg ho]
        obtain ⟨_, q1, _⟩ := SP.why_zero hy
        obtain ⟨n, rfl⟩ : ∃ n : Nat, slot = (n : Int) := ⟨slot.toNat, by omega⟩
        rw [Int.toNat_natCast]
        exact swrite_main h hv hL hy (by omega) (by omega) ho
  · rw [if_pos hy]
    refine (swrite_err h hy).mono ?_
    rintro e w' ⟨rfl, rfl⟩
    exact ⟨rfl, F, h, Step.refl _ _⟩
end
end Go.Proofs.YtfjlpifaaknmpaaGreat

