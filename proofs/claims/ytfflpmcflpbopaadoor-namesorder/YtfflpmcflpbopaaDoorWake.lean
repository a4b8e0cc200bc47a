/- hayricklaw10.wakes: the chapter's rows hold. -/
import Derived.Test.YtfflpmcflpbopaaDoorCutA
import Derived.Test.YtfflpmcflpbopaaDoorCmpA
import Derived.Test.YtfflpmcflpbopaaDoorVal
import Derived.Test.YtfflpmcflpbopaaDoorSme
set_option linter.unusedVariables false
namespace Go.Proofs.YtfflpmcflpbopaaDoor
open Go.RowKit

/-- What stays while names are asked: the frame, and two runes that were read. -/
structure KeepW (w W : World) (b : Nat) : Prop where
  gr : w.grownBy W none
  c0 : W.cell? ⟨b, 0, none⟩ = some (.int .i32 233)
  c1 : W.cell? ⟨b, 1, none⟩ = some (.int .i32 65533)
theorem KeepW.next {w W W' : World} {b : Nat} (h : KeepW w W b) (g : W.grownBy W' none) : KeepW w W' b := ⟨gb_trans h.gr g, g.cell h.c0 (by simp), g.cell h.c1 (by simp)⟩
theorem keepW_of {w W : World} {p : Option Addr} {c : Nat} (h : ROwn w.heap.size W (.slice p 2 c) [233, 65533]) (g : w.grownBy W none) : ∃ b, p = some ⟨b, 0, none⟩ ∧ KeepW w W b := by
  rcases h.row.2 with ⟨e, h0⟩ | ⟨b, cap, cur, e, hb, hg, _, _, hs, ht⟩
  · cases h0
  · injection e with e1 e2 e3
    refine ⟨b, e1, g, ?_, ?_⟩
    · have := h.row.cells (g := b) (by rw [e1]; rfl) 0 (rv 233) rfl
      simpa [Addr.add, rv] using this
    · have := h.row.cells (g := b) (by rw [e1]; rfl) 1 (rv 65533) rfl
      simpa [Addr.add, rv] using this

theorem valid_lit (s : ByteArray) (B : Bool) (W : World) (h : R.valid (bs s) = B) : Calls Tryd.prog 10 #[.string s] W fun e w' => e = .returned (.bool B) ∧ W.grownBy w' none := by
  subst h; exact valid_any s W
theorem compare_lit (a b : ByteArray) (x : Int) (W : World) (hT : Tabs W) (h : R.cmp (bs a) (bs b) = x) : Calls Tryd.prog 18 #[.string a, .string b] W fun e w' => e = .returned (.int .i64 x) ∧ W.grownBy w' none := by
  subst h; exact compare_any a b W hT
theorem cut_lit (s t : ByteArray) (n : Int) (W : World) (h : s.size ≤ 281474976710656 ∧ s.extract 0 (R.cut n.toNat (bs s)) = t) : Calls Tryd.prog 20 #[.string s, .int .i64 n] W fun e w' => e = .returned (.string t) ∧ W.grownBy w' none := by
  obtain ⟨h1, rfl⟩ := h; exact cut_any s n W h1
theorem whole_lit (s : ByteArray) (B : Bool) (W : World) (h : R.whole (bs s) = B) : Calls Tryd.prog 15 #[.string s] W fun e w' => e = .returned (.bool B) ∧ W.grownBy w' none := by
  subst h; exact whole_any s W
set_option maxHeartbeats 1600000 in
set_option maxRecDepth 100000 in
theorem wakes_any (w : World) (hT : Tabs w) :
    Calls Tryd.prog 17 #[] w fun e w' => e = .returned (.bool true) ∧ w.grownBy w' none := by
  have hr : R.runes (bs ⟨#[195, 169, 255]⟩) = [233, 65533] := by decide +kernel
  have hcr := runes_any ⟨#[195, 169, 255]⟩ w (by decide)
  rw [hr] at hcr
  have HCR : Hid (Calls Tryd.prog 13 #[.string ⟨#[195, 169, 255]⟩] w fun e w' => ∃ p c, e = .returned (.slice p 2 c) ∧ ROwn w.heap.size w' (.slice p 2 c) [233, 65533] ∧ w.grownBy w' none) := hcr
  have HALL : Hid (Tabs w) := hT
  clear hT hr hcr
  go_enter Tryd.func17, Tryd.ntmps17
  go_wp2_with (first | (go_at_call 13; refine HCR.out.mono ?_; rintro e w1 ⟨p, c, rfl, ro, g1⟩; obtain ⟨b, rfl, kw⟩ := keepW_of ro g1; have c0 := kw.c0; have c1 := kw.c1; have HK : Hid (KeepW w w1 b) := kw; clear ro g1 kw) | (go_at_call 10; (first | (refine (valid_lit _ true _ ?_).mono ?_; focus (decide +kernel)) | (refine (valid_lit _ false _ ?_).mono ?_; focus (decide +kernel))); rintro e w2 ⟨rfl, g2⟩; have kw := HK.out.next g2; clear c0 c1 HK; have c0 := kw.c0; have c1 := kw.c1; have HK := (show Hid _ from kw); clear kw g2) | (go_at_call 18; (first | (refine (compare_lit _ _ (-1) _ (HALL.out.keep HK.out.gr) ?_).mono ?_; focus (decide +kernel)) | (refine (compare_lit _ _ 1 _ (HALL.out.keep HK.out.gr) ?_).mono ?_; focus (decide +kernel))); rintro e w2 ⟨rfl, g2⟩; have kw := HK.out.next g2; clear c0 c1 HK; have c0 := kw.c0; have c1 := kw.c1; have HK := (show Hid _ from kw); clear kw g2) | (go_at_call 20; (first | (refine (cut_lit _ ⟨#[110]⟩ _ _ ?_).mono ?_; focus (decide +kernel)) | (refine (cut_lit _ ⟨#[110, 195, 169]⟩ _ _ ?_).mono ?_; focus (decide +kernel))); rintro e w2 ⟨rfl, g2⟩; have kw := HK.out.next g2; clear c0 c1 HK; have c0 := kw.c0; have c1 := kw.c1; have HK := (show Hid _ from kw); clear kw g2) | (go_at_call 15; (first | (refine (whole_lit _ true _ ?_).mono ?_; focus (decide +kernel))); rintro e w2 ⟨rfl, g2⟩; have kw := HK.out.next g2; clear c0 c1 HK; have c0 := kw.c0; have c1 := kw.c1; have HK := (show Hid _ from kw); clear kw g2))
  go_ret
  exact ⟨rfl, HK.out.gr⟩
end Go.Proofs.YtfflpmcflpbopaaDoor
