/- The walk of NamesKnown. -/
import Derived.Test.YtfflpmcflpbopaaDoorWake
set_option linter.unusedVariables false
set_option linter.unusedSimpArgs false
namespace Go.Proofs.YtfflpmcflpbopaaDoor
open Go.RowKit

/-- The cells of block g, from the first one on, are the strings of l. -/
def Strs (W : World) (g : Nat) (l : List ByteArray) : Prop := ∀ i, i < l.length → W.cell? ⟨g, i, none⟩ = some (.string (l.getD i ByteArray.empty))
theorem Strs.keep {W W' : World} {g : Nat} {l : List ByteArray} (h : Strs W g l) (k : W.grownBy W' none) : Strs W' g l := fun i hi => k.cell (h i hi) (by simp)
theorem strs_new (W : World) (l : List ByteArray) (t : TypeId) : Strs (W.alloc (.cells (l.map Value.string).toArray t)) W.heap.size l := fun i hi => by
  have h := heap_alloc_new W (.cells (l.map Value.string).toArray t)
  unfold World.cell?
  simp only [h]
  simp [hi, List.getD]
def bads : List ByteArray := [⟨#[]⟩, ⟨#[46]⟩, ⟨#[46, 46]⟩, ⟨#[47]⟩, ⟨#[97, 0]⟩, ⟨#[31]⟩, ⟨#[127]⟩, ⟨#[192, 175]⟩, ⟨#[237, 160, 128]⟩, ⟨#[244, 144, 128, 128]⟩, ⟨#[195]⟩, ⟨#[97, 98, 99, 100, 101, 102, 103, 104, 105, 106, 107, 108, 109, 110, 111, 112, 113, 114, 115, 116, 117, 118, 119, 120, 121]⟩]
def goods : List ByteArray := [⟨#[46, 46, 46]⟩, ⟨#[32]⟩, ⟨#[46, 97]⟩, ⟨#[239, 191, 189]⟩, ⟨#[244, 143, 191, 191]⟩, ⟨#[238, 128, 128]⟩, ⟨#[97, 98, 99, 100, 101, 102, 103, 104, 105, 106, 107, 108, 109, 110, 111, 112, 113, 114, 115, 116, 117, 118, 119, 120]⟩, ⟨#[195, 169, 195, 169, 195, 169, 195, 169, 195, 169, 195, 169, 195, 169, 195, 169, 195, 169, 195, 169, 195, 169, 195, 169]⟩]
theorem bads_bad : ∀ i, i < 12 → R.valid (bs (bads.getD i ByteArray.empty)) = false := by decide +kernel
theorem goods_good : ∀ i, i < 8 → R.valid (bs (goods.getD i ByteArray.empty)) = true := by decide +kernel
theorem runes_lit (s : ByteArray) (n : Nat) (W : World) (h : (R.runes (bs s)).length = n ∧ s.size * 4 ≤ 140737488355328) : Calls Tryd.prog 13 #[.string s] W fun e w' => ∃ p c, e = .returned (.slice p n c) ∧ W.grownBy w' none := by
  obtain ⟨rfl, h⟩ := h
  exact (runes_any s W h).mono fun e w' ⟨p, c, h1, _, h3⟩ => ⟨p, c, h1, h3⟩

set_option maxHeartbeats 1600000 in
set_option maxRecDepth 100000 in
theorem namesKnown.walk (w : World) (hT : Tabs w) :
    Calls Tryd.prog 9 #[] w fun e w' => e = .returned (.bool true) ∧ w.grownBy w' none := by
  have HT : Hid (Tabs w) := hT
  clear hT
  go_enter Tryd.func9, Tryd.ntmps9
  go_wp2_with fail
  obtain ⟨g, hg⟩ : ∃ g, w.heap.size = g := ⟨_, rfl⟩
  simp only [hg]
  go_loopw [2] (fun ti wr => ∃ i : Nat, i ≤ 12 ∧ ti = .int .i64 (i : Int) ∧ Hid (w.grownBy wr none) ∧ Hid (Strs wr g bads)) (fun ti _ => 12 - (intOf ti).toNat)
  case atStart => exact ⟨0, by omega, rfl, World.grownBy_alloc _ _ _, hg ▸ strs_new _ bads _⟩
  case round =>
    obtain ⟨i, hi, rfl, GK, SK⟩ := hrel
    by_cases hlt : i < 12
    · have i3 : (i : Int) < 12 := by omega
      have i4 : (0 : Int) ≤ (i : Int) := by omega
      have hc := SK.out i hlt
      have hb := bads_bad i hlt
      obtain ⟨s, hs⟩ : ∃ s, bads.getD i ByteArray.empty = s := ⟨_, rfl⟩
      rw [hs] at hc hb
      have HB : Hid (R.valid (bs s) = false) := hb
      clear hb hs
      go_wp2_with (go_at_call 10; refine (valid_lit _ false _ ?_).mono ?_; (focus (exact HB.out)); rintro e w2 ⟨rfl, g2⟩; have g3 := gb_trans GK.out g2; have s3 := SK.out.keep g2; clear GK SK hc; have GK := (show Hid _ from g3); have SK := (show Hid _ from s3); clear g3 s3 g2)
      go_roundw
      case rel => exact ⟨i + 1, by omega, by go_num, GK, SK⟩
      case measure => simp [intOf]; omega
    · have i3 : ¬ (i : Int) < 12 := by omega
      obtain rfl : i = 12 := by omega
      clear SK
      go_wp2_with fail
      obtain ⟨g5, hg5⟩ : ∃ g5, wr.heap.size = g5 := ⟨_, rfl⟩
      simp only [hg5]
      go_loopw [4] (fun ti w5 => ∃ i : Nat, i ≤ 8 ∧ ti = .int .i64 (i : Int) ∧ Hid (w.grownBy w5 none) ∧ Hid (Strs w5 g5 goods)) (fun ti _ => 8 - (intOf ti).toNat)
      case atStart => exact ⟨0, by omega, rfl, gb_trans GK.out (World.grownBy_alloc _ _ _), hg5 ▸ strs_new _ goods _⟩
      case round =>
        obtain ⟨i, hi, rfl, GK, SK⟩ := hrel
        by_cases hlt : i < 8
        · have i3 : (i : Int) < 8 := by omega
          have i4 : (0 : Int) ≤ (i : Int) := by omega
          have hc := SK.out i hlt
          have hb := goods_good i hlt
          obtain ⟨s, hs⟩ : ∃ s, goods.getD i ByteArray.empty = s := ⟨_, rfl⟩
          rw [hs] at hc hb
          have HB : Hid (R.valid (bs s) = true) := hb
          clear hb hs
          go_wp2_with (go_at_call 10; refine (valid_lit _ true _ ?_).mono ?_; (focus (exact HB.out)); rintro e w2 ⟨rfl, g2⟩; have g3 := gb_trans GK.out g2; have s3 := SK.out.keep g2; clear GK SK hc; have GK := (show Hid _ from g3); have SK := (show Hid _ from s3); clear g3 s3 g2)
          go_roundw
          case rel => exact ⟨i + 1, by omega, by go_num, GK, SK⟩
          case measure => simp [intOf]; omega
        · have i3 : ¬ (i : Int) < 8 := by omega
          obtain rfl : i = 8 := by omega
          clear SK
          have HG : Hid (w.grownBy _ none) := GK
          clear GK
          go_wp2_with (first | (go_at_call 13; refine (runes_lit _ 0 _ ?_).mono ?_; (focus (decide +kernel)); rintro e w2 ⟨p, c, rfl, g2⟩; have g3 := gb_trans HG.out g2; clear HG; have HG := (show Hid _ from g3); clear g3 g2) | (go_at_call 13; refine (runes_lit _ 3 _ ?_).mono ?_; (focus (decide +kernel)); rintro e w2 ⟨p, c, rfl, g2⟩; have g3 := gb_trans HG.out g2; clear HG; have HG := (show Hid _ from g3); clear g3 g2) | (go_at_call 13; refine (runes_lit _ 2 _ ?_).mono ?_; (focus (decide +kernel)); rintro e w2 ⟨p, c, rfl, g2⟩; have g3 := gb_trans HG.out g2; clear HG; have HG := (show Hid _ from g3); clear g3 g2) | (go_at_call 20; refine (cut_lit _ ⟨#[]⟩ _ _ ?_).mono ?_; (focus (decide +kernel)); rintro e w2 ⟨rfl, g2⟩; have g3 := gb_trans HG.out g2; clear HG; have HG := (show Hid _ from g3); clear g3 g2) | (go_at_call 20; refine (cut_lit _ ⟨#[97, 98, 99]⟩ _ _ ?_).mono ?_; (focus (decide +kernel)); rintro e w2 ⟨rfl, g2⟩; have g3 := gb_trans HG.out g2; clear HG; have HG := (show Hid _ from g3); clear g3 g2) | (go_at_call 18; refine (compare_lit _ _ 0 _ (HT.out.keep HG.out) ?_).mono ?_; (focus (decide +kernel)); rintro e w2 ⟨rfl, g2⟩; have g3 := gb_trans HG.out g2; clear HG; have HG := (show Hid _ from g3); clear g3 g2) | (go_at_call 18; refine (compare_lit _ _ (-1) _ (HT.out.keep HG.out) ?_).mono ?_; (focus (decide +kernel)); rintro e w2 ⟨rfl, g2⟩; have g3 := gb_trans HG.out g2; clear HG; have HG := (show Hid _ from g3); clear g3 g2) | (go_at_call 17; refine (wakes_any _ (HT.out.keep HG.out)).mono ?_; rintro e w2 ⟨rfl, g2⟩; have g3 := gb_trans HG.out g2; clear HG; have HG := (show Hid _ from g3); clear g3 g2))
          go_ret
          exact ⟨rfl, HG.out⟩
end Go.Proofs.YtfflpmcflpbopaaDoor
