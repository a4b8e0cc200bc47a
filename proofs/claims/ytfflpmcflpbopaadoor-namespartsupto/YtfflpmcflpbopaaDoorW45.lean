/- The walk of NamesParts: no text. -/
import Derived.Test.YtfflpmcflpbopaaDoorW4
set_option linter.unusedVariables false
set_option linter.unusedSimpArgs false
namespace Go.Proofs.YtfflpmcflpbopaaDoor
open Go.RowKit

theorem runes_e (s : ByteArray) (W : World) (h : bs s = [] ∧ s.size = 0) : Calls Tryd.prog 13 #[.string s] W fun e w' => ∃ p c, e = .returned (.slice p 0 c) ∧ (p = none ∧ c = 0 ∨ ∃ b, p = some ⟨b, 0, none⟩) ∧ W.grownBy w' none := by
  refine (runes_any s W (by omega)).mono fun e w' ⟨p, c, h1, h2, h3⟩ => ?_
  rw [h.1] at h1 h2
  refine ⟨p, c, h1, ?_, h3⟩
  rcases h2.row.2 with ⟨e1, h0⟩ | ⟨b, cap, cur, e1, hb, hg, hc, _⟩
  · injection e1 with e1 e2 e3
    exact .inl ⟨e1, e3⟩
  · injection e1 with e1 e2 e3
    exact .inr ⟨b, e1⟩
theorem beq_bs (a b : ByteArray) (t : Bool) (h : decide (bs a = bs b) = t) : (a.toList == b.toList) = t := by rw [bs_eq]; exact h
set_option maxHeartbeats 3200000 in
set_option maxRecDepth 100000 in
theorem parts_E (n : Int) (w : World) (HT : Hid (Tabs w)) (HG : Hid (w.grownBy w none)) (mx : Int) (hmx : max 0 n = mx) (h1 : decide (mx < 0) = false) (HC : Hid (∀ k : Int, (ByteArray.mk #[]).size ≤ 281474976710656 ∧ (ByteArray.mk #[]).extract 0 (R.cut k.toNat (bs ⟨#[]⟩)) = ⟨#[]⟩)) (HR : Hid (bs ⟨#[]⟩ = [] ∧ (ByteArray.mk #[]).size = 0)) (HV : Hid (R.valid (bs ⟨#[]⟩) = false)) (HW : Hid (R.whole (bs ⟨#[]⟩) = true)) :
    Calls Tryd.prog 7 #[.string ⟨#[]⟩, .int .i64 n] w fun e w' => e = .returned (.bool true) ∧ w.grownBy w' none := by
  go_enter Tryd.func7, Tryd.ntmps7
  go_wp2_with (first | (go_at_call 20; refine (cut_lit _ ⟨#[]⟩ _ _ ?_).mono ?_; (focus (with_reducible exact HC.out _)); rintro e w2 ⟨rfl, g2⟩; have g3 := gb_trans HG.out g2; clear HG; have HG := (show Hid _ from g3); clear g3; clear g2) | (go_at_call 13; refine (runes_e _ _ ?_).mono ?_; (focus (with_reducible exact HR.out)); rintro e w3 ⟨p, cp, rfl, hp, g2⟩; have g3 := gb_trans HG.out g2; clear HG; have HG := (show Hid _ from g3); clear g3; clear g2; rcases hp with ⟨rfl, rfl⟩ | ⟨b, rfl⟩) | (go_at_call 12; refine (same_any (la := []) (lb := []) (fun h => absurd rfl h) (fun h => absurd rfl h) (by decide)).mono ?_; rintro e w2 ⟨rfl, g2⟩; have g3 := gb_trans HG.out g2; clear HG; have HG := (show Hid _ from g3); clear g3; clear g2) | (go_at_call 10; refine (valid_lit _ false _ ?_).mono ?_; (focus (with_reducible exact HV.out)); rintro e w2 ⟨rfl, g2⟩; have g3 := gb_trans HG.out g2; clear HG; have HG := (show Hid _ from g3); clear g3; clear g2) | (go_at_call 15; refine (whole_lit _ true _ ?_).mono ?_; (focus (with_reducible exact HW.out)); rintro e w2 ⟨rfl, g2⟩; have g3 := gb_trans HG.out g2; clear HG; have HG := (show Hid _ from g3); clear g3; clear g2) | (go_at_call 15; refine (whole_lit _ true _ ?_).mono ?_; (focus (decide +kernel)); rintro e w2 ⟨rfl, g2⟩; have g3 := gb_trans HG.out g2; clear HG; have HG := (show Hid _ from g3); clear g3; clear g2) | (go_at_call 17; refine (wakes_any _ (HT.out.keep HG.out)).mono ?_; rintro e w2 ⟨rfl, g2⟩; have g3 := gb_trans HG.out g2; clear HG; have HG := (show Hid _ from g3); clear g3; clear g2))
  all_goals go_ret
  all_goals exact ⟨rfl, HG.out⟩
end Go.Proofs.YtfflpmcflpbopaaDoor
