/- The document's array: the contract of Replace. -/
import Derived.Test.YtfmlohedebdomaaRBlk6
set_option linter.unusedSimpArgs false
set_option linter.unusedVariables false
namespace Go.Proofs.Ytfmlohedebdomaa
open Go.RowKit

section
variable {G : Nat → Prop} {w : World} {r : Nat} {A : AM.RA}
set_option maxRecDepth 100000 in
theorem rreplace_off (h : RIs G w r A) {d : Nat} (hd : d < A.D.length) (hon : (A.D.getD d none).isSome = false) : Calls Try.prog 23 #[rptr r, .int .i64 (d : Int)] w fun e w' => e = .returned (.int .i64 0) ∧ ∃ G', RIs G' w' r (A.blank d) ∧ Step G w G' w' := by
  obtain ⟨dp, dc, ds, lp, lc, fs, h⟩ := h
  have hD2 := h.d2
  obtain ⟨z0, z1, y2, y3, y4⟩ := h.topCells
  clear y2 y3 y4
  obtain ⟨dg, v, rfl, hv, y0, x1, cc, hcc⟩ := h.disk hd
  have y1 : w.cell? ⟨dg, d * 2 + 1, none⟩ = some (.bool true) := by
    have : (A.D[d]'hd).isNone = true := by
      simp only [List.getD, List.getElem?_eq_getElem hd, Option.getD_some] at hon
      cases hq : A.D[d] with
      | none => rfl
      | some _ => rw [hq] at hon; cases hon
    rw [this] at x1; exact x1
  clear x1
  have hdlt : dg < w.heap.size := (Array.getElem?_eq_some_iff.1 hcc).1
  have HN4 : Hid (A.n ≤ 4096) := h.n2
  obtain ⟨N, hN⟩ : ∃ N, N = A.D.length := ⟨_, rfl⟩
  obtain ⟨n, hn⟩ : ∃ n, n = A.n := ⟨_, rfl⟩
  have HRL : Hid (RL G w r (some ⟨dg, 0, none⟩) dc ds lp lc fs A) := h
  have HD : Hid (d < A.D.length ∧ n = A.n) := ⟨hd, hn⟩
  have HF : Hid (∀ W, w.grownBy W none → W.cell? ⟨dg, d * 2, none⟩ = some v ∧ W.cell? ⟨dg, d * 2 + 1, none⟩ = some (.bool true) ∧ W.frozen? ⟨dg, d * 2, none⟩ = false ∧ W.frozen? ⟨dg, d * 2 + 1, none⟩ = false) := fun W g => ⟨g.cell y0 (by simp), g.cell y1 (by simp), topFrozen _ ((g.block dg hdlt (by simp)).trans hcc), topFrozen _ ((g.block dg hdlt (by simp)).trans hcc)⟩
  rw [← hN] at z0 hD2 hd
  rw [← hn] at z1 HN4
  have HCK : Hid (∀ W, w.grownBy W none → W.cell? ⟨r, 0, none⟩ = some (.slice (some ⟨dg, 0, none⟩) N dc) ∧ W.cell? ⟨r, 1, none⟩ = some (.int .i64 (n : Int))) := fun W g => ⟨g.cell z0 (by simp), g.cell z1 (by simp)⟩
  have c0 := z0
  have e1 : w.cell? ⟨dg, d * 2 + 1, none⟩ = some (.bool true) := y1
  clear h z0 z1 y0 y1 hcc cc hv hon hN hn hdlt
  go_enter Try.func23, Try.ntmps23
  go_wp2_with fail
  clear c0 e1
  refine region_late (S := (fun w' => w'.cell? ⟨r, 0, none⟩ = some (.slice (some ⟨dg, 0, none⟩) N dc) ∧ w'.cell? ⟨r, 1, none⟩ = some (.int .i64 (n : Int)))) (by simp only [List.pop_toArray, List.dropLast]; exact rfl) (by rfl) (by kernel_rfl) (by kernel_rfl) ?_ (fun hHeld => ?_)
  · exact HCK.out _ (grown_drewN _ 1)
  refine wpAnyH_take (i := 0) (v := ?_) rfl (by kernel_rfl) (by kernel_rfl) (by kernel_rfl) (fun _ _ _ h => h) (Or.inl ⟨by rfl, ?_⟩) (by assumption) ?_
  rotate_left
  · intro w hSw; (try dsimp only at hSw); first | (go_simp; done) | (go_simp; with_reducible rfl)
  simp only [Act.put, List.getElem_toArray, List.getElem_cons_succ, List.getElem_cons_zero, List.setIfInBounds_toArray, List.set_cons_zero, List.set_cons_succ]
  refine wpAnyH_take (i := 1) (v := ?_) rfl (by kernel_rfl) (by kernel_rfl) (by kernel_rfl) (fun _ _ _ h => h) (Or.inl ⟨by rfl, ?_⟩) (by assumption) ?_
  rotate_left
  · intro w hSw; (try dsimp only at hSw); first | (go_simp; done) | (go_simp; with_reducible rfl)
  simp only [Act.put, List.getElem_toArray, List.getElem_cons_succ, List.getElem_cons_zero, List.setIfInBounds_toArray, List.set_cons_zero, List.set_cons_succ]
  refine wpAnyH_take (i := 2) (v := ?_) rfl (by kernel_rfl) (by kernel_rfl) (by kernel_rfl) (fun _ _ _ h => h) (Or.inl ⟨by rfl, ?_⟩) (by assumption) ?_
  rotate_left
  · intro w hSw; (try dsimp only at hSw); first | (go_simp; done) | (go_simp; with_reducible rfl)
  simp only [Act.put, List.getElem_toArray, List.getElem_cons_succ, List.getElem_cons_zero, List.setIfInBounds_toArray, List.set_cons_zero, List.set_cons_succ]
  refine wpAnyH_take (i := 3) (v := ?_) rfl (by kernel_rfl) (by kernel_rfl) (by kernel_rfl) (fun _ _ _ h => h) (Or.inl ⟨by rfl, ?_⟩) (by assumption) ?_
  rotate_left
  · intro w hSw; (try dsimp only at hSw); first | (go_simp; done) | (go_simp; with_reducible rfl)
  simp only [Act.put, List.getElem_toArray, List.getElem_cons_succ, List.getElem_cons_zero, List.setIfInBounds_toArray, List.set_cons_zero, List.set_cons_succ]
  refine wpAnyH_take (i := 4) (v := ?_) rfl (by kernel_rfl) (by kernel_rfl) (by kernel_rfl) (fun _ _ _ h => h) (Or.inl ⟨by rfl, ?_⟩) (by assumption) ?_
  rotate_left
  · intro w hSw; (try dsimp only at hSw); first | (go_simp; done) | (go_simp; with_reducible rfl)
  simp only [Act.put, List.getElem_toArray, List.getElem_cons_succ, List.getElem_cons_zero, List.setIfInBounds_toArray, List.set_cons_zero, List.set_cons_succ]
  refine wpAnyH_take (i := 5) (v := ?_) rfl (by kernel_rfl) (by kernel_rfl) (by kernel_rfl) (fun _ _ _ h => h) (Or.inl ⟨by rfl, ?_⟩) (by assumption) ?_
  rotate_left
  · intro w hSw; (try dsimp only at hSw); first | (go_simp; done) | (go_simp; with_reducible rfl)
  simp only [Act.put, List.getElem_toArray, List.getElem_cons_succ, List.getElem_cons_zero, List.setIfInBounds_toArray, List.set_cons_zero, List.set_cons_succ]
  refine wpAnyH_take (i := 6) (v := ?_) rfl (by kernel_rfl) (by kernel_rfl) (by kernel_rfl) (fun _ _ _ h => h) (Or.inl ⟨by rfl, ?_⟩) (by assumption) ?_
  rotate_left
  · intro w hSw; (try dsimp only at hSw); first | (go_simp; done) | (go_simp; with_reducible rfl)
  simp only [Act.put, List.getElem_toArray, List.getElem_cons_succ, List.getElem_cons_zero, List.setIfInBounds_toArray, List.set_cons_zero, List.set_cons_succ]
  refine wpAnyH_take (i := 7) (v := ?_) rfl (by kernel_rfl) (by kernel_rfl) (by kernel_rfl) (fun _ _ _ h => h) (Or.inl ⟨by rfl, ?_⟩) (by assumption) ?_
  rotate_left
  · intro w hSw; (try dsimp only at hSw); first | (go_simp; done) | (go_simp; with_reducible rfl)
  simp only [Act.put, List.getElem_toArray, List.getElem_cons_succ, List.getElem_cons_zero, List.setIfInBounds_toArray, List.set_cons_zero, List.set_cons_succ]
  refine wpAnyH_take (i := 8) (v := ?_) rfl (by kernel_rfl) (by kernel_rfl) (by kernel_rfl) (fun _ _ _ h => h) (Or.inl ⟨by rfl, ?_⟩) (by assumption) ?_
  rotate_left
  · intro w hSw; (try dsimp only at hSw); first | (go_simp; done) | (go_simp; with_reducible rfl)
  simp only [Act.put, List.getElem_toArray, List.getElem_cons_succ, List.getElem_cons_zero, List.setIfInBounds_toArray, List.set_cons_zero, List.set_cons_succ]
  refine wpAnyH_ready (rs := [9]) (by kernel_rfl) (by simp) ?_
  refine AllReadyH.cons rfl (fun K hK => ?_) AllReadyH.nil
  go_simp
  refine (rblank_yes w.drew HN4.out).mono ?_
  rintro e w8 ⟨p8, c8, vs8, rfl, ho8, hs8, hg8⟩
  have G8 : Hid (w.grownBy w8 none) := grown_trans (grown_drewN _ 1) hg8
  have HO8 : Hid (w8.ownsRow w.heap.size 32 1 (.slice p8 n c8) n vs8 ∧ ∀ (k : Nat) (u : Value), vs8[k]? = some u → Own w.heap.size w8 u (AM.zs 64)) := ⟨ho8, hs8⟩
  clear ho8 hs8 hg8
  refine hK.out _ _ (HCK.out _ G8.out) (fun hHeld => ?_)
  clear hK K
  (try simp only [Act.put, List.getElem_toArray, List.getElem_cons_succ, List.getElem_cons_zero, List.setIfInBounds_toArray, List.set_cons_zero, List.set_cons_succ])
  refine wpAnyH_take (i := 10) (v := ?_) rfl (by kernel_rfl) (by kernel_rfl) (by kernel_rfl) (fun _ _ _ h => h) (Or.inl ⟨by rfl, ?_⟩) (by assumption) ?_
  rotate_left
  · intro w hSw; (try dsimp only at hSw); first | (go_simp; done) | (go_simp; with_reducible rfl)
  simp only [Act.put, List.getElem_toArray, List.getElem_cons_succ, List.getElem_cons_zero, List.setIfInBounds_toArray, List.set_cons_zero, List.set_cons_succ]
  refine wpAnyH_done (by kernel_rfl) ?_ _
  refine lastQ_normal ?_
  obtain ⟨k0, k1, k2, k3⟩ := HF.out w8 G8.out
  have HX : Hid (∃ G', RIs G' ((w8.setCell ⟨dg, d * 2, none⟩ (.slice p8 n c8)).setCell ⟨dg, d * 2 + 1, none⟩ (.bool false)) r (A.blank d) ∧ Step G w G' ((w8.setCell ⟨dg, d * 2, none⟩ (.slice p8 n c8)).setCell ⟨dg, d * 2 + 1, none⟩ (.bool false))) := by
    have hds := HRL.out.dset G8.out HD.out.1 (v := .slice p8 n c8) (o := some (List.replicate n (AM.zs 64))) (.inr ⟨_, vs8, rfl, by rw [← HD.out.2]; exact HO8.out.1, by rw [List.length_replicate]; exact HD.out.2, fun k u b hu hb => by
      obtain rfl : b = AM.zs 64 := (List.mem_replicate.1 (List.mem_of_getElem? hb)).2
      exact HO8.out.2 k u hu⟩)
    have e : ({ A with D := A.D.set d (some (List.replicate n (AM.zs 64))) } : AM.RA) = A.blank d := by unfold AM.RA.blank; rw [HD.out.2]
    rw [e] at hds
    refine ⟨_, hds.is, ⟨⟨G8.out.os, G8.out.tape, G8.out.output, by simpa using G8.out.size, fun i hi hni => ?_⟩, fun i hi => ?_⟩⟩
    · have hne : i ≠ dg := fun e => hni (by rw [e]; exact HRL.out.Gd dg rfl)
      rw [Below.heap_setCell _ _ _ _ hne, Below.heap_setCell _ _ _ _ hne]
      exact G8.out.block i hi (by simp)
    · rcases hi with hi | hi
      · exact .inl hi
      · exact .inr hi.1
  clear HRL HO8 HF HCK HN4
  go_wp2
  go_ret
  exact ⟨rfl, HX.out⟩
theorem rreplace_any (h : RIs G w r A) (d : Int) : Calls Try.prog 23 #[rptr r, .int .i64 d] w fun e w' => e = .returned (.int .i64 ((A.replace d).1 : Int)) ∧ ∃ G', RIs G' w' r (A.replace d).2 ∧ Step G w G' w' := by
  by_cases hin : 0 ≤ d ∧ d < (A.D.length : Int)
  · obtain ⟨n, rfl⟩ : ∃ n : Nat, d = (n : Int) := ⟨d.toNat, by omega⟩
    have hd : n < A.D.length := by omega
    cases hon : (A.D.getD n none).isSome with
    | false =>
      refine (rreplace_off h hd hon).mono ?_
      rintro e w' ⟨rfl, G', h1, h2⟩
      have e : A.replace (n : Int) = (0, A.blank n) := by unfold AM.RA.replace; rw [if_pos hin, Int.toNat_natCast, hon]; rfl
      rw [e]
      exact ⟨rfl, G', h1, h2⟩
    | true =>
      have e : A.replace (n : Int) = (1, A) := by unfold AM.RA.replace; rw [if_pos hin, Int.toNat_natCast, if_pos hon]
      rw [e]
      have HI : Hid (RIs G w r A) := h
      obtain ⟨dg, dc, c0, z1⟩ := rgone_cell h hd
      rw [hon] at z1
      have e1 : w.cell? ⟨dg, n * 2 + 1, none⟩ = some (.bool false) := z1
      have hD2 : A.D.length ≤ 255 := by obtain ⟨_, _, _, _, _, _, h⟩ := h; exact h.d2
      clear h e hin hon z1
      generalize A.D.length = N at *
      go_enter Try.func23, Try.ntmps23
      go_wp2
      go_ret
      exact ⟨rfl, G, HI.out, Step.refl G w⟩
  · have e : A.replace d = (6, A) := by unfold AM.RA.replace; rw [if_neg hin]
    rw [e]
    have HI : Hid (RIs G w r A) := h
    obtain ⟨dp, dc, ds, lp, lc, fs, h⟩ := h
    obtain ⟨c0, y1, y2, y3, y4⟩ := h.topCells
    have hD2 := h.d2
    clear h e y1 y2 y3 y4
    generalize A.D.length = N at *
    by_cases h0 : d < 0
    · clear hin
      go_enter Try.func23, Try.ntmps23
      go_wp2
      go_ret
      exact ⟨rfl, G, HI.out, Step.refl G w⟩
    · have h1 : (N : Int) ≤ d := by omega
      clear hin
      go_enter Try.func23, Try.ntmps23
      go_wp2
      go_ret
      exact ⟨rfl, G, HI.out, Step.refl G w⟩
end
end Go.Proofs.Ytfmlohedebdomaa
