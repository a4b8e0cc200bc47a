/- Contracts of the closure of Lose and of slices.IndexFunc over it. -/
import Derived.Test.YtfmlohedebdomaaCrash6
set_option linter.unusedSimpArgs false
set_option linter.unusedVariables false
namespace Go.Proofs.Ytfmlohedebdomaa
open Go.RowKit

theorem wcells_zero (l : AM.Wr) : (wcells l).toArray[0]? = some (.int .i64 (l.d : Int)) := by simp [wcells]
theorem lose1_any {w : World} {cb D : Nat} {l : AM.Wr} (hc : w.cell? ⟨cb, 0, none⟩ = some (.int .i64 (D : Int))) :
    Calls Try.prog 48 #[.agg (wcells l).toArray, .pointer (some ⟨cb, 0, none⟩)] w fun e w' => e = .returned (.bool (decide (l.d = D))) ∧ w.grownBy w' none := by
  have h0 := wcells_zero l
  generalize (wcells l).toArray = AR at *
  have hc1 : (w.alloc (.cells AR 79)).cell? ⟨cb, 0, none⟩ = some (.int .i64 (D : Int)) := (World.grownBy_alloc w _ none).cell hc (by simp)
  have hc2 : (w.alloc (.cells AR 79)).cell? ⟨w.heap.size, 0, none⟩ = some (.int .i64 (l.d : Int)) := topCell (heap_alloc_new w _) h0
  have HE : Hid (((l.d : Int) == (D : Int)) = decide (l.d = D)) := by
    show _ = _
    by_cases c : l.d = D
    · simp [c]
    · have : ¬ (l.d : Int) = (D : Int) := by omega
      simp [c, this]
  have HG : Hid (w.grownBy (w.alloc (.cells AR 79)) none) := World.grownBy_alloc w _ none
  clear h0 hc
  go_enter Try.func48, Try.ntmps48
  go_wp2
  go_ret
  exact ⟨by rw [HE.out]; rfl, HG.out⟩

theorem wr_range {w : World} {B N fg fc : Nat} {L : List AM.Wr} (h : w.ownsRow B 79 130 (.slice (some ⟨fg, 0, none⟩) N fc) N (wrow L)) (hl : ∀ l ∈ L, (wcells l).length = 130) {j : Nat} (hj : j < L.length) : w.rangeAt fg (j * 130) (wcells L[j]) := fun i v hv => by
  have hi : i < 130 := by rw [← hl _ (List.getElem_mem hj)]; exact (List.getElem?_eq_some_iff.1 hv).1
  exact ownsRow_cell h (by show (L.flatMap wcells)[j * 130 + i]? = some v; rw [flat_get hi hl hj]; exact hv)

/-- The first write of the disk D, or none. -/
def FirstAt (L : List AM.Wr) (D : Nat) (r : Int) : Prop := (r = -1 ∧ ∀ l ∈ L, l.d ≠ D) ∨ ∃ (j : Nat) (hj : j < L.length), r = (j : Int) ∧ L[j].d = D ∧ ∀ (i : Nat) (hi : i < L.length), i < j → L[i].d ≠ D

set_option maxHeartbeats 800000 in
theorem idxF_any {w : World} {fp : Option Addr} {fc cb D : Nat} {L : List AM.Wr} (h : w.ownsRow 0 79 130 (.slice fp L.length fc) L.length (wrow L)) (hl : ∀ l ∈ L, l.was.length = 64 ∧ l.now.length = 64) (hL : L.length ≤ 1000000)
    (hc : w.cell? ⟨cb, 0, none⟩ = some (.int .i64 (D : Int))) :
    Calls Try.prog 58 #[.slice fp L.length fc, .func (.func 48) #[] #[.pointer (some ⟨cb, 0, none⟩)]] w fun e w' => ∃ r, e = .returned (.int .i64 r) ∧ FirstAt L D r ∧ w.grownBy w' none := by
  have HH : Hid (∀ w', w.grownBy w' none → w'.ownsRow 0 79 130 (.slice fp L.length fc) L.length (wrow L)) := fun w' g => ownsRow_same h (fun b hb => by
    obtain ⟨c, hc⟩ := rowBlock h hb
    exact g.block b (Array.getElem?_eq_some_iff.1 hc).1 (by simp))
  have HC : Hid (∀ w', w.grownBy w' none → w'.cell? ⟨cb, 0, none⟩ = some (.int .i64 (D : Int))) := fun w' g => g.cell hc (by simp)
  have hlen : ∀ l ∈ L, (wcells l).length = 130 := fun l hm => wcells_len (hl l hm).1 (hl l hm).2
  have HLEN : Hid (∀ l ∈ L, (wcells l).length = 130) := hlen
  obtain ⟨N, hN⟩ : ∃ N, N = L.length := ⟨_, rfl⟩
  have HN : Hid (N = L.length) := hN
  have HNIL : Hid (0 < N → ∃ fg, fp = some ⟨fg, 0, none⟩) := fun hp => by
    rcases h.2 with ⟨e, h0⟩ | ⟨g, cap, cur, e, _⟩
    · rw [hN, h0] at hp; cases hp
    · injection e with e
      exact ⟨g, e⟩
  rw [← hN] at hL ⊢
  clear h hl hc hlen hN
  go_enter Try.func58, Try.ntmps58
  go_wp2
  go_loopw [8] (fun ti wr => ∃ j : Nat, j ≤ N ∧ ti = .int .i64 (j : Int) ∧ Hid (∀ (i : Nat) (hi : i < L.length), i < j → L[i].d ≠ D) ∧ Hid (w.grownBy wr none)) (fun ti _ => N - (intOf ti).toNat)
  case atStart => exact ⟨0, by omega, rfl, fun i hi h0 => by omega, World.grownBy.refl w none⟩
  case round =>
    obtain ⟨j, hj, rfl, HF, GK⟩ := hrel
    by_cases hlt : j < N
    · have i1 : (j : Int) < (N : Int) := by omega
      have hjL : j < L.length := by have := HN.out; omega
      obtain ⟨fg, rfl⟩ := HNIL.out (by omega)
      have hrow := HH.out _ GK.out
      have HRG : Hid (wr.rangeAt fg (j * 130) (wcells L[j])) := wr_range hrow HLEN.out hjL
      have HSZ : Hid ((Try.prog.info? 79).map (·.size) = some (wcells L[j]).length) := by
        show _ = _
        rw [HLEN.out _ (List.getElem_mem hjL)]; exact Try.sizeWr
      have HCL : Hid (Calls Try.prog 48 #[.agg (wcells L[j]).toArray, .pointer (some ⟨cb, 0, none⟩)] wr fun e w' => e = .returned (.bool (decide (L[j].d = D))) ∧ wr.grownBy w' none) := lose1_any (HC.out _ GK.out)
      have HX : Hid (∀ x, x = L[j].d → (¬ x = D) → ∀ (i : Nat) (hi : i < L.length), i < j + 1 → L[i].d ≠ D) := fun x hx hn i hi hij => by
        by_cases c : i = j
        · subst c; rw [← hx]; exact hn
        · exact HF.out i hi (by omega)
      have HY : Hid (∀ x, x = L[j].d → x = D → FirstAt L D (j : Int)) := fun x hx hd => .inr ⟨j, hjL, rfl, by rw [← hx]; exact hd, HF.out⟩
      obtain ⟨x, hx⟩ : ∃ x, x = L[j].d := ⟨_, rfl⟩
      have HXE : Hid (x = L[j].d) := hx
      rw [← hx] at HCL
      clear hx
      obtain ⟨CW, hCW⟩ : ∃ CW, CW = wcells L[j] := ⟨_, rfl⟩
      rw [← hCW] at HRG HSZ HCL
      clear hrow hCW HF
      by_cases hd : x = D
      · have HFIN := HY.out x HXE.out hd
        have HFI : Hid (FirstAt L D (j : Int)) := HFIN
        have HC2 : Hid (Calls Try.prog 48 #[.agg CW.toArray, .pointer (some ⟨cb, 0, none⟩)] wr fun e w' => e = .returned (.bool true) ∧ wr.grownBy w' none) := by
          have := HCL.out; rw [decide_eq_true hd] at this; exact this
        clear HFIN HY HX HCL
        go_wp2_with (first
          | (refine wpList_load_mid rfl 79 (.tmp 14) rfl fg (j * 130) rfl CW _ HRG.out Try.underlying79 rfl HSZ.out ?_)
          | (go_at_call 48; refine HC2.out.mono ?_; rintro e w1 ⟨rfl, hg1⟩; have HG1 : Hid (w.grownBy w1 none) := grown_trans GK.out hg1; clear hg1))
        go_ret
        exact ⟨_, rfl, HFI.out, HG1.out⟩
      · have HFI : Hid (∀ (i : Nat) (hi : i < L.length), i < j + 1 → L[i].d ≠ D) := HX.out x HXE.out hd
        have HC2 : Hid (Calls Try.prog 48 #[.agg CW.toArray, .pointer (some ⟨cb, 0, none⟩)] wr fun e w' => e = .returned (.bool false) ∧ wr.grownBy w' none) := by
          have := HCL.out; rw [decide_eq_false hd] at this; exact this
        clear HY HX HCL
        go_wp2_with (first
          | (refine wpList_load_mid rfl 79 (.tmp 14) rfl fg (j * 130) rfl CW _ HRG.out Try.underlying79 rfl HSZ.out ?_)
          | (go_at_call 48; refine HC2.out.mono ?_; rintro e w1 ⟨rfl, hg1⟩; have HG1 : Hid (w.grownBy w1 none) := grown_trans GK.out hg1; clear hg1))
        go_roundw
        case rel => exact ⟨j + 1, by omega, by go_num, HFI, HG1⟩
        case measure => simp [intOf]; omega
    · have i1 : ¬ (j : Int) < (N : Int) := by omega
      go_wp2
      go_ret
      refine ⟨_, rfl, .inl ⟨rfl, fun l hm => ?_⟩, GK.out⟩
      obtain ⟨i, hi, rfl⟩ := List.getElem_of_mem hm
      exact HF.out i hi (by have := HN.out; omega)
end Go.Proofs.Ytfmlohedebdomaa
