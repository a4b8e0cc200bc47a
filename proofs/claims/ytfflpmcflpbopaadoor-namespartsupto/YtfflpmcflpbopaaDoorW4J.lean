/- The walk of NamesParts, whole. -/
import Derived.Test.YtfflpmcflpbopaaDoorW40
import Derived.Test.YtfflpmcflpbopaaDoorW41
import Derived.Test.YtfflpmcflpbopaaDoorW42
import Derived.Test.YtfflpmcflpbopaaDoorW43
import Derived.Test.YtfflpmcflpbopaaDoorW44
import Derived.Test.YtfflpmcflpbopaaDoorW45
set_option linter.unusedVariables false
set_option linter.unusedSimpArgs false
namespace Go.Proofs.YtfflpmcflpbopaaDoor
open Go.RowKit

theorem emp_no {c : ByteArray} (h : bs c ≠ []) : c.toList.isEmpty = false := by rw [empty_bs]; simp [h]
theorem emp_yes {c : ByteArray} (h : bs c = []) : c.toList.isEmpty = true := by rw [empty_bs]; simp [h]
theorem dot_no {c : ByteArray} (h : bs c ≠ [46]) : (c.toList == [46]) = false := by have := dot_bs c; simp only [h, decide_false] at this; simpa using this
theorem dot_yes {c : ByteArray} (h : bs c = [46]) : (c.toList == [46]) = true := by have := dot_bs c; rw [h] at this; simpa using this
theorem dots_no {c : ByteArray} (h : bs c ≠ [46, 46]) : (c.toList == [46, 46]) = false := by have := dots_bs c; simp only [h, decide_false] at this; simpa using this
theorem dots_yes {c : ByteArray} (h : bs c = [46, 46]) : (c.toList == [46, 46]) = true := by have := dots_bs c; rw [h] at this; simpa using this
theorem valid_no {l : List Nat} (h : R.valid l = true) : l ≠ [] ∧ l ≠ [46] ∧ l ≠ [46, 46] := by
  refine ⟨fun e => ?_, fun e => ?_, fun e => ?_⟩ <;> subst e <;> revert h <;> decide +kernel
theorem runes_ne {l : List Nat} (h : l ≠ []) : R.runes l ≠ [] := by rw [R.runes_cons l h]; exact List.cons_ne_nil _ _

theorem namesParts.walk (s : ByteArray) (n : Int) (w : World) (hT : Tabs w) (hs : s.size ≤ 1048576) :
    Calls Tryd.prog 7 #[.string s, .int .i64 n] w fun e w' => e = .returned (.bool true) ∧ w.grownBy w' none := by
  have HT : Hid (Tabs w) := hT
  have HG : Hid (w.grownBy w none) := World.grownBy.refl _ _
  have hle := R.cut_le (bs s) n.toNat
  rw [bs_len] at hle
  by_cases h0 : s.size = 0
  · obtain rfl : s = ⟨#[]⟩ := bs_inj (by rw [bs_empty s h0]; rfl)
    exact parts_E n w HT HG _ rfl (decide_eq_false (by omega)) (fun k => ⟨by decide, by rw [show bs ⟨#[]⟩ = [] from rfl, R.cut_nil]; rfl⟩) ⟨rfl, rfl⟩ (by show R.valid _ = _; decide +kernel) (by show R.whole _ = _; decide +kernel)
  have hsn : bs s ≠ [] := fun e => h0 ((bs_nil_iff s).1 e)
  obtain ⟨c, hc⟩ : ∃ c, s.extract 0 (R.cut n.toNat (bs s)) = c := ⟨_, rfl⟩
  have hcb : bs c = (bs s).take (R.cut n.toNat (bs s)) := by rw [← hc, bs_take]
  have hcs : c.size = R.cut n.toNat (bs s) := by rw [← bs_len, hcb, List.length_take, bs_len]; omega
  have hx : s.extract 0 c.size = c := by rw [hcs, hc]
  have hsp := R.cut_split (bs s) n.toNat
  rw [← hcb] at hsp
  have hX : (R.runes (bs s)).length ≤ s.size := by have := R.runes_len (bs s); rwa [bs_len] at this
  have hlen := congrArg List.length hsp
  rw [List.length_append] at hlen
  have HX : Hid (R.runes (bs s) = R.runes (bs s) ∧ s.size * 4 ≤ 140737488355328 ∧ R.runes (bs s) ≠ []) := ⟨rfl, by omega, runes_ne hsn⟩
  have HY : Hid (R.runes (bs c) = R.runes (bs c) ∧ c.size * 4 ≤ 140737488355328) := ⟨rfl, by omega⟩
  have HXY : Hid ((R.runes (bs s)).take (R.runes (bs c)).length = R.runes (bs c)) := by show _ = _; rw [hsp, List.take_left]
  have HL : Hid ((R.runes (bs c)).length ≤ 281474976710656) := by show _ ≤ _; omega
  have H1 : Hid (s.size ≤ 281474976710656 ∧ s.extract 0 (R.cut n.toNat (bs s)) = c) := ⟨by omega, hc⟩
  have H2 : Hid (c.size ≤ 281474976710656 ∧ c.extract 0 (R.cut n.toNat (bs c)) = c) := ⟨by omega, by rw [hcb, R.cut_cut _ _ _ (Nat.le_refl _), ← hcs, extract_all]⟩
  have H3 : Hid (s.size ≤ 281474976710656 ∧ s.extract 0 (R.cut (Int.toNat c.size) (bs s)) = c) := ⟨by omega, by rw [Int.toNat_natCast, hcs, R.cut_self, hc]⟩
  have h1 : decide (max 0 n < (c.size : Int)) = false := decide_eq_false (by omega)
  have h2 : ¬ s.size < c.size := by omega
  have hyx : ¬ (R.runes (bs s)).length < (R.runes (bs c)).length := by omega
  have hwh := R.cut_whole (bs s) n.toNat
  rw [← hcb, ← hcs, ← bs_drop s c.size s.size (Nat.le_refl _)] at hwh
  have hcl := R.cut_len_iff (bs s) n.toNat
  rw [← hcb, ← hcs, bs_len] at hcl
  by_cases hk : c.size = s.size
  · obtain rfl : c = s := by rw [hk, extract_all] at hx; exact hx.symm
    have hbq : (c.toList == c.toList) = true := by simp
    have hw0 : R.whole (bs (c.extract c.size c.size)) = true := by rw [bs_drop _ _ _ (Nat.le_refl _), ← bs_len, List.drop_length]; rfl
    cases hv : R.valid (bs c)
    · cases hw : R.whole (bs c)
      · exact parts_A0f c c n w HT HG _ (by omega) _ rfl h1 h2 hx HX HY HXY hyx HL H1 H2 H3 hbq hv hw hw
      · exact parts_A0t c c n w HT HG _ (by omega) _ rfl h1 h2 hx HX HY HXY hyx HL H1 H2 H3 hbq hv true hw hw hw0
    · obtain ⟨v1, v2, v3⟩ := valid_no hv
      cases hw : R.whole (bs c)
      · exact parts_A4f c c n w HT HG _ (by omega) _ rfl h1 h2 hx HX HY HXY hyx HL H1 H2 H3 hbq hv (emp_no v1) (dot_no v2) (dots_no v3) hv hw hw
      · exact parts_A4t c c n w HT HG _ (by omega) _ rfl h1 h2 hx HX HY HXY hyx HL H1 H2 H3 hbq hv (emp_no v1) (dot_no v2) (dots_no v3) hv true hw hw hw0
  · have hbq : (c.toList == s.toList) = false := by rw [bs_eq]; exact decide_eq_false (fun e => hk (by rw [bs_inj e]))
    have hkl : R.cut n.toNat (bs s) < (bs s).length := by rw [bs_len]; omega
    have hwd := R.wd_pos ((bs s).drop (R.cut n.toNat (bs s))) (R.ne_nil hkl)
    have hnx := R.cut_next (bs s) n.toNat hkl
    have hl2 : ¬ (R.runes (bs c)).length = (R.runes (bs s)).length := fun e => hk (hcl.1 e)
    have hl : (R.runes (bs c)).length < (R.runes (bs s)).length := by omega
    obtain ⟨m, hm⟩ : ∃ m, s.extract 0 (R.cut (c.size + 4) (bs s)) = m := ⟨_, rfl⟩
    have hmb : bs m = (bs s).take (R.cut (c.size + 4) (bs s)) := by rw [← hm, bs_take]
    have hml : m.size ≤ s.size := by rw [← bs_len, hmb, List.length_take, bs_len]; omega
    have hmr := R.more_runes (bs s) n.toNat (c.size + 4) (R.cut_more (bs s) n.toNat (c.size + 4) hkl (by omega))
    rw [← hcb, ← hmb] at hmr
    have H4 : Hid (s.size ≤ 281474976710656 ∧ s.extract 0 (R.cut (Int.toNat ((c.size : Int) + 4)) (bs s)) = m) := ⟨by omega, by rw [show Int.toNat ((c.size : Int) + 4) = c.size + 4 by omega, hm]⟩
    have HZ : Hid ((R.runes (bs m)).length = (R.runes (bs m)).length ∧ m.size * 4 ≤ 140737488355328) := ⟨rfl, by omega⟩
    have hz : ¬ (R.runes (bs m)).length ≤ (R.runes (bs c)).length := by omega
    have hn4 : n < (c.size : Int) + 4 := by omega
    have H5 : Hid (∀ kk : Int, (c.size : Int) ≤ kk → kk ≤ n → s.size ≤ 281474976710656 ∧ s.extract 0 (R.cut kk.toNat (bs s)) = c) := fun kk k1 k2 => ⟨by omega, by rw [R.cut_same (bs s) n.toNat kk.toNat (by omega) (.inr (by omega)), hc]⟩
    cases hv : R.valid (bs s)
    · cases hw : R.whole (bs c)
      · rw [hw] at hwh
        exact parts_B0f s c n w HT HG _ _ (by omega) _ rfl h1 h2 hx HX HY HXY hyx HL H1 H2 H3 hl hl2 hbq m _ H4 HZ hz hn4 H5 hv hwh hw
      · rw [hw] at hwh
        exact parts_B0t s c n w HT HG _ _ (by omega) _ rfl h1 h2 hx HX HY HXY hyx HL H1 H2 H3 hl hl2 hbq m _ H4 HZ hz hn4 H5 hv _ hwh hw rfl
    · by_cases e1 : bs c = []
      · have hw : R.whole (bs c) = true := by rw [e1]; rfl
        rw [hw] at hwh
        exact parts_B1t s c n w HT HG _ _ (by omega) _ rfl h1 h2 hx HX HY HXY hyx HL H1 H2 H3 hl hl2 hbq m _ H4 HZ hz hn4 H5 hv (emp_yes e1) _ hwh hw rfl
      by_cases e2 : bs c = [46]
      · cases hw : R.whole (bs c)
        · rw [hw] at hwh
          exact parts_B2f s c n w HT HG _ _ (by omega) _ rfl h1 h2 hx HX HY HXY hyx HL H1 H2 H3 hl hl2 hbq m _ H4 HZ hz hn4 H5 hv (emp_no e1) (dot_yes e2) hwh hw
        · rw [hw] at hwh
          exact parts_B2t s c n w HT HG _ _ (by omega) _ rfl h1 h2 hx HX HY HXY hyx HL H1 H2 H3 hl hl2 hbq m _ H4 HZ hz hn4 H5 hv (emp_no e1) (dot_yes e2) _ hwh hw rfl
      by_cases e3 : bs c = [46, 46]
      · cases hw : R.whole (bs c)
        · rw [hw] at hwh
          exact parts_B3f s c n w HT HG _ _ (by omega) _ rfl h1 h2 hx HX HY HXY hyx HL H1 H2 H3 hl hl2 hbq m _ H4 HZ hz hn4 H5 hv (emp_no e1) (dot_no e2) (dots_yes e3) hwh hw
        · rw [hw] at hwh
          exact parts_B3t s c n w HT HG _ _ (by omega) _ rfl h1 h2 hx HX HY HXY hyx HL H1 H2 H3 hl hl2 hbq m _ H4 HZ hz hn4 H5 hv (emp_no e1) (dot_no e2) (dots_yes e3) _ hwh hw rfl
      have hvc : R.valid (bs c) = true := by
        have := R.cut_valid (bs s) n.toNat hv
        rw [← hcb] at this
        exact this e1 e2 e3
      cases hw : R.whole (bs c)
      · rw [hw] at hwh
        exact parts_B4f s c n w HT HG _ _ (by omega) _ rfl h1 h2 hx HX HY HXY hyx HL H1 H2 H3 hl hl2 hbq m _ H4 HZ hz hn4 H5 hv (emp_no e1) (dot_no e2) (dots_no e3) hvc hwh hw
      · rw [hw] at hwh
        exact parts_B4t s c n w HT HG _ _ (by omega) _ rfl h1 h2 hx HX HY HXY hyx HL H1 H2 H3 hl hl2 hbq m _ H4 HZ hz hn4 H5 hv (emp_no e1) (dot_no e2) (dots_no e3) hvc _ hwh hw rfl
end Go.Proofs.YtfflpmcflpbopaaDoor
