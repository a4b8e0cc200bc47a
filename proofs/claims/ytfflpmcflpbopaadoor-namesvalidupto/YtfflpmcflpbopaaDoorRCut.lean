/- Beginnings of texts and the order of texts, as plain lists of bytes. No text of the program is named here. -/
import Derived.Test.YtfflpmcflpbopaaDoorRMath
set_option linter.unusedVariables false
namespace Go.Proofs.YtfflpmcflpbopaaDoor.R

/-- How many bytes as many whole runes take as there is room for. -/
def cutF : Nat → Nat → List Nat → Nat
  | 0, _, _ => 0
  | f + 1, n, l => if l = [] then 0 else if wd l ≤ n then wd l + cutF f (n - wd l) (l.drop (wd l)) else 0
def cut (n : Nat) (l : List Nat) : Nat := cutF l.length n l
theorem cutF_eq : ∀ (f g n : Nat) (l : List Nat), l.length ≤ f → l.length ≤ g → cutF f n l = cutF g n l
  | 0, 0, n, l, _, _ => rfl
  | 0, g + 1, n, l, h, _ => by have : l = [] := List.eq_nil_of_length_eq_zero (by omega); subst this; simp [cutF]
  | f + 1, 0, n, l, _, h => by have : l = [] := List.eq_nil_of_length_eq_zero (by omega); subst this; simp [cutF]
  | f + 1, g + 1, n, l, h, h' => by
    by_cases hl : l = []
    · simp [cutF, hl]
    · have := wd_pos l hl
      simp only [cutF, hl, if_false]
      rw [cutF_eq f g _ _ (by simp; omega) (by simp; omega)]
theorem cut_nil (n : Nat) : cut n [] = 0 := rfl
theorem cut_cons (n : Nat) (l : List Nat) (hl : l ≠ []) : cut n l = if wd l ≤ n then wd l + cut (n - wd l) (l.drop (wd l)) else 0 := by
  obtain ⟨f, hf⟩ : ∃ f, l.length = f + 1 := ⟨l.length - 1, by have : l.length ≠ 0 := fun e => hl (List.eq_nil_of_length_eq_zero e); omega⟩
  have := wd_pos l hl
  unfold cut
  rw [hf]
  simp only [cutF, hl, if_false]
  rw [cutF_eq f _ _ _ (by simp; omega) (Nat.le_refl _)]
theorem cut_yes {n : Nat} {l : List Nat} (hl : l ≠ []) (h : wd l ≤ n) : cut n l = wd l + cut (n - wd l) (l.drop (wd l)) := by rw [cut_cons n l hl, if_pos h]
theorem cut_no {n : Nat} {l : List Nat} (hl : l ≠ []) (h : n < wd l) : cut n l = 0 := by rw [cut_cons n l hl, if_neg (by omega)]
theorem cut_zero (l : List Nat) : cut 0 l = 0 := by
  by_cases hl : l = []
  · rw [hl]; rfl
  · exact cut_no hl (wd_pos l hl).1
theorem cut_le (l : List Nat) : ∀ n, cut n l ≤ n ∧ cut n l ≤ l.length := by
  refine ind (P := fun l => ∀ n, cut n l ≤ n ∧ cut n l ≤ l.length) (fun n => by simp [cut_nil]) (fun l hl ih n => ?_) l
  have := wd_pos l hl
  by_cases h : wd l ≤ n
  · rw [cut_yes hl h]
    have h2 := ih (n - wd l)
    simp only [List.length_drop] at h2
    omega
  · rw [cut_no hl (by omega)]; omega
theorem ne_nil {l : List Nat} {k : Nat} (h : k < l.length) : l.drop k ≠ [] := fun e => by
  have := congrArg List.length e
  simp at this
  omega
theorem cut_all_room (l : List Nat) : ∀ n, l.length ≤ n → cut n l = l.length := by
  refine ind (P := fun l => ∀ n, l.length ≤ n → cut n l = l.length) (fun n _ => rfl) (fun l hl ih n h => ?_) l
  have := wd_pos l hl
  rw [cut_yes hl (by omega), ih (n - wd l) (by simp; omega)]
  simp
  omega
theorem take_drop_head {l : List Nat} (x : Nat) : (l.take (wd l + x)).drop (wd l) = (l.drop (wd l)).take x := by rw [List.drop_take]; congr 1; omega
theorem drop_drop' (l : List Nat) (a b : Nat) : l.drop (a + b) = (l.drop a).drop b := by rw [List.drop_drop]
theorem take_ne {l : List Nat} (hl : l ≠ []) {m : Nat} (h : 1 ≤ m) : l.take m ≠ [] := by
  obtain ⟨b, t, rfl⟩ := List.exists_cons_of_ne_nil hl
  obtain ⟨k, rfl⟩ : ∃ k, m = k + 1 := ⟨m - 1, by omega⟩
  simp
theorem cut_split (l : List Nat) : ∀ n, runes l = runes (l.take (cut n l)) ++ runes (l.drop (cut n l)) := by
  refine ind (P := fun l => ∀ n, runes l = runes (l.take (cut n l)) ++ runes (l.drop (cut n l))) (fun n => by simp [runes_nil]) (fun l hl ih n => ?_) l
  have hp := wd_pos l hl
  by_cases h : wd l ≤ n
  · rw [cut_yes hl h]
    have h2 := ih (n - wd l)
    have e := dec_take l hl (wd l + cut (n - wd l) (l.drop (wd l))) (by omega)
    have e1 : wd (l.take (wd l + cut (n - wd l) (l.drop (wd l)))) = wd l := by unfold wd at e ⊢; rw [e]
    have e2 : rn (l.take (wd l + cut (n - wd l) (l.drop (wd l)))) = rn l := by unfold rn; rw [e]
    rw [runes_cons (l.take _) (take_ne hl (by omega)), e1, e2, take_drop_head, drop_drop', List.cons_append, ← h2, ← runes_cons l hl]
  · rw [cut_no hl (by omega)]; simp [runes_nil]
theorem cut_all (q : Nat × Nat → Bool) (l : List Nat) : ∀ n, all (fun l => q (dec l)) l = (all (fun l => q (dec l)) (l.take (cut n l)) && all (fun l => q (dec l)) (l.drop (cut n l))) := by
  refine ind (P := fun l => ∀ n, all (fun l => q (dec l)) l = (all (fun l => q (dec l)) (l.take (cut n l)) && all (fun l => q (dec l)) (l.drop (cut n l)))) (fun n => by simp [all_nil]) (fun l hl ih n => ?_) l
  have hp := wd_pos l hl
  by_cases h : wd l ≤ n
  · rw [cut_yes hl h]
    have h2 := ih (n - wd l)
    have e := dec_take l hl (wd l + cut (n - wd l) (l.drop (wd l))) (by omega)
    have e1 : wd (l.take (wd l + cut (n - wd l) (l.drop (wd l)))) = wd l := by unfold wd at e ⊢; rw [e]
    rw [all_cons _ (l.take _) (take_ne hl (by omega)), e1, take_drop_head, drop_drop', e, Bool.and_assoc, ← h2]
    exact all_cons _ l hl
  · rw [cut_no hl (by omega)]; simp [all_nil]
def badQ (p : Nat × Nat) : Bool := decide (p.1 = 65533 ∧ p.2 = 1)
theorem cut_whole (l : List Nat) (n : Nat) : whole l = (whole (l.take (cut n l)) && whole (l.drop (cut n l))) := cut_all (fun p => !badQ p) l n
theorem cut_fitb (l : List Nat) (n : Nat) : all fitb l = (all fitb (l.take (cut n l)) && all fitb (l.drop (cut n l))) := cut_all (fun p => fit p.1 && !badQ p) l n
theorem cut_next (l : List Nat) : ∀ n, cut n l < l.length → n < cut n l + wd (l.drop (cut n l)) := by
  refine ind (P := fun l => ∀ n, cut n l < l.length → n < cut n l + wd (l.drop (cut n l))) (fun n h => by simp at h) (fun l hl ih n h => ?_) l
  have hp := wd_pos l hl
  by_cases h' : wd l ≤ n
  · rw [cut_yes hl h'] at h ⊢
    have h2 := ih (n - wd l) (by simp; omega)
    rw [drop_drop']
    omega
  · rw [cut_no hl (by omega)]; simp; omega
theorem cut_cut (l : List Nat) : ∀ k m, k ≤ m → cut k (l.take (cut m l)) = cut k l := by
  refine ind (P := fun l => ∀ k m, k ≤ m → cut k (l.take (cut m l)) = cut k l) (fun k m _ => by simp) (fun l hl ih k m hkm => ?_) l
  have hp := wd_pos l hl
  by_cases hm : wd l ≤ m
  · rw [cut_yes hl hm]
    have e := dec_take l hl (wd l + cut (m - wd l) (l.drop (wd l))) (by omega)
    have e1 : wd (l.take (wd l + cut (m - wd l) (l.drop (wd l)))) = wd l := by unfold wd at e ⊢; rw [e]
    rw [cut_cons k (l.take _) (take_ne hl (by omega)), cut_cons k l hl, e1, take_drop_head]
    by_cases hk : wd l ≤ k
    · rw [if_pos hk, if_pos hk, ih _ _ (by omega)]
    · rw [if_neg hk, if_neg hk]
  · rw [cut_no hl (by omega), cut_no hl (show k < wd l by omega)]; simp [cut_nil]
theorem cut_same (l : List Nat) : ∀ n k, cut n l ≤ k → (cut n l = l.length ∨ k < cut n l + wd (l.drop (cut n l))) → cut k l = cut n l := by
  refine ind (P := fun l => ∀ n k, cut n l ≤ k → (cut n l = l.length ∨ k < cut n l + wd (l.drop (cut n l))) → cut k l = cut n l) (fun n k _ _ => rfl) (fun l hl ih n k h1 h2 => ?_) l
  have hp := wd_pos l hl
  by_cases hn : wd l ≤ n
  · rw [cut_yes hl hn] at h1 h2 ⊢
    rw [cut_yes hl (show wd l ≤ k by omega), ih (n - wd l) (k - wd l) (by omega)]
    rcases h2 with h2 | h2
    · left; simp; omega
    · right; rw [drop_drop'] at h2; omega
  · have e := cut_no hl (show n < wd l by omega)
    rw [e] at h1 h2 ⊢
    rcases h2 with h2 | h2
    · exact absurd (List.eq_nil_of_length_eq_zero h2.symm) hl
    · simp at h2; exact cut_no hl (by omega)
theorem cut_self (l : List Nat) (n : Nat) : cut (cut n l) l = cut n l := by
  refine cut_same l n _ (Nat.le_refl _) ?_
  by_cases h : cut n l = l.length
  · exact .inl h
  · have := cut_le l n
    have := wd_pos (l.drop (cut n l)) (ne_nil (by omega))
    exact .inr (by omega)
theorem cut_more (l : List Nat) : ∀ n k, cut n l < l.length → cut n l + wd (l.drop (cut n l)) ≤ k → cut n l < cut k l := by
  refine ind (P := fun l => ∀ n k, cut n l < l.length → cut n l + wd (l.drop (cut n l)) ≤ k → cut n l < cut k l) (fun n k h _ => by simp at h) (fun l hl ih n k h1 h2 => ?_) l
  have hp := wd_pos l hl
  by_cases hn : wd l ≤ n
  · rw [cut_yes hl hn] at h1 h2 ⊢
    rw [drop_drop'] at h2
    have := ih (n - wd l) (k - wd l) (by simp; omega) (by omega)
    rw [cut_yes hl (show wd l ≤ k by omega)]
    omega
  · have e := cut_no hl (show n < wd l by omega)
    rw [e] at h2 ⊢
    simp at h2
    rw [cut_yes hl h2]
    omega
/-- A longer beginning has more runes. -/
theorem more_runes (l : List Nat) (n m : Nat) (h : cut n l < cut m l) : (runes (l.take (cut n l))).length < (runes (l.take (cut m l))).length := by
  have hle := cut_le l m
  have hs := cut_split (l.take (cut m l)) (cut n l)
  have hk : cut (cut n l) (l.take (cut m l)) = cut n l := by
    rw [cut_cut l (cut n l) m (by omega), cut_self]
  rw [hk] at hs
  have e : (l.take (cut m l)).take (cut n l) = l.take (cut n l) := by rw [List.take_take]; congr 1; omega
  rw [e] at hs
  rw [hs, List.length_append]
  have hne : (l.take (cut m l)).drop (cut n l) ≠ [] := ne_nil (by rw [List.length_take]; omega)
  have : runes ((l.take (cut m l)).drop (cut n l)) ≠ [] := fun e => hne ((runes_nil_iff _).1 e)
  have := List.length_pos_iff.2 this
  omega
theorem cut_len_iff (l : List Nat) (n : Nat) : (runes (l.take (cut n l))).length = (runes l).length ↔ cut n l = l.length := by
  have hle := cut_le l n
  constructor
  · intro h
    apply Classical.byContradiction
    intro hne
    have := more_runes l n l.length (by rw [cut_all_room l l.length (Nat.le_refl _)]; omega)
    rw [cut_all_room l l.length (Nat.le_refl _), List.take_length] at this
    omega
  · intro h; rw [h, List.take_length]
theorem cut_valid (l : List Nat) (n : Nat) (hv : valid l = true) (h0 : l.take (cut n l) ≠ []) (h1 : l.take (cut n l) ≠ [46]) (h2 : l.take (cut n l) ≠ [46, 46]) : valid (l.take (cut n l)) = true := by
  unfold valid at hv ⊢
  simp only [Bool.and_eq_true, decide_eq_true_eq] at hv ⊢
  obtain ⟨⟨_, a2, _, _⟩, a5⟩ := hv
  rw [cut_fitb l n, Bool.and_eq_true] at a5
  exact ⟨⟨h0, by rw [List.length_take]; omega, h1, h2⟩, a5.1⟩

/-- The order of two lists: -1, 0 or 1. -/
def lex : List Nat → List Nat → Int
  | [], [] => 0
  | [], _ :: _ => -1
  | _ :: _, [] => 1
  | x :: xs, y :: ys => if x < y then -1 else if y < x then 1 else lex xs ys
theorem lex_range : ∀ (a b : List Nat), lex a b = -1 ∨ lex a b = 0 ∨ lex a b = 1
  | [], [] => by simp [lex]
  | [], _ :: _ => by simp [lex]
  | _ :: _, [] => by simp [lex]
  | x :: xs, y :: ys => by
    have := lex_range xs ys
    simp only [lex]
    repeat' split
    all_goals simp [this]
theorem lex_refl : ∀ (a : List Nat), lex a a = 0
  | [] => rfl
  | x :: xs => by simp [lex, lex_refl xs]
theorem lex_zero : ∀ (a b : List Nat), lex a b = 0 ↔ a = b
  | [], [] => by simp [lex]
  | [], _ :: _ => by simp [lex]
  | _ :: _, [] => by simp [lex]
  | x :: xs, y :: ys => by
    have := lex_zero xs ys
    simp only [lex]
    by_cases h : x < y
    · simp [h]; omega
    · by_cases h' : y < x
      · simp [h, h']; omega
      · have e : x = y := by omega
        simp [e, this]
theorem lex_turn : ∀ (a b : List Nat), lex b a = - lex a b
  | [], [] => by simp [lex]
  | [], _ :: _ => by simp [lex]
  | _ :: _, [] => by simp [lex]
  | x :: xs, y :: ys => by
    have := lex_turn xs ys
    simp only [lex]
    by_cases h : x < y
    · rw [if_neg (by omega), if_pos h, if_pos h]; rfl
    · by_cases h' : y < x
      · rw [if_pos h', if_neg h, if_pos h']
      · rw [if_neg h', if_neg h, if_neg h, if_neg h']; exact this
theorem lex_trans : ∀ (a b c : List Nat), lex a b = -1 → lex b c = -1 → lex a c = -1
  | [], [], _, h, _ => by simp [lex] at h
  | [], _ :: _, [], _, h => by simp [lex] at h
  | [], _ :: _, _ :: _, _, _ => by simp [lex]
  | _ :: _, [], _, h, _ => by simp [lex] at h
  | _ :: _, _ :: _, [], _, h => by simp [lex] at h
  | x :: xs, y :: ys, z :: zs, h1, h2 => by
    simp only [lex] at h1 h2 ⊢
    by_cases a1 : x < y
    · by_cases b1 : y < z
      · rw [if_pos (by omega)]
      · by_cases b2 : z < y
        · rw [if_neg b1, if_pos b2] at h2; cases h2
        · rw [if_pos (by omega)]
    · by_cases a2 : y < x
      · rw [if_neg a1, if_pos a2] at h1; cases h1
      · rw [if_neg a1, if_neg a2] at h1
        by_cases b1 : y < z
        · rw [if_pos (by omega)]
        · by_cases b2 : z < y
          · rw [if_neg b1, if_pos b2] at h2; cases h2
          · rw [if_neg b1, if_neg b2] at h2
            rw [if_neg (by omega), if_neg (by omega)]
            exact lex_trans xs ys zs h1 h2

theorem lex_prefix : ∀ (p a b : List Nat), lex (p ++ a) (p ++ b) = lex a b
  | [], _, _ => rfl
  | x :: p, a, b => by simp [lex, lex_prefix p a b]
set_option maxRecDepth 100000 in
theorem lex_enc {c d : Nat} (h : c < d) (s t : List Nat) : lex (enc c ++ s) (enc d ++ t) = -1 := by
  unfold enc
  repeat' split
  all_goals
    simp only [List.cons_append, List.nil_append, lex]
    repeat' split
    all_goals first | rfl | (exfalso; omega)
/-- Of texts without stray bytes the order of the runes is that of the bytes. -/
theorem lex_whole (a : List Nat) (ha : whole a = true) : ∀ b, whole b = true → lex (runes a) (runes b) = lex a b := by
  refine whole_ind (P := fun a => ∀ b, whole b = true → lex (runes a) (runes b) = lex a b) (fun b hb => ?_) (fun c s h hs ih b hb => ?_) a ha
  · by_cases h : b = []
    · rw [h]; rfl
    · obtain ⟨x, y, rfl⟩ := List.exists_cons_of_ne_nil h
      rw [runes_cons _ h]; rfl
  · by_cases hb0 : b = []
    · rw [hb0, runes_enc h]
      obtain ⟨x, y, e⟩ := List.exists_cons_of_ne_nil (enc_ne c)
      rw [e]; rfl
    · obtain ⟨d, t, h', rfl, ht⟩ := whole_head hb0 hb
      rw [runes_enc h, runes_enc h']
      simp only [lex]
      by_cases c1 : c < d
      · rw [if_pos c1, lex_enc c1]
      · by_cases c2 : d < c
        · rw [if_neg c1, if_pos c2, lex_turn, lex_enc c2]; rfl
        · have : c = d := by omega
          subst this
          rw [if_neg c1, if_neg c1, lex_prefix, ih t ht]
theorem lex_cons (a b : List Nat) (ha : a ≠ []) (hb : b ≠ []) : lex (runes a) (runes b) = if rn a < rn b then -1 else if rn b < rn a then 1 else lex (runes (a.drop (wd a))) (runes (b.drop (wd b))) := by
  rw [runes_cons a ha, runes_cons b hb]; rfl

/-- Compare, as plain numbers. -/
def cmp (a b : List Nat) : Int := if lex (runes a) (runes b) = 0 then lex a b else lex (runes a) (runes b)
theorem cmp_range (a b : List Nat) : cmp a b = -1 ∨ cmp a b = 0 ∨ cmp a b = 1 := by
  unfold cmp
  split
  · exact lex_range _ _
  · exact lex_range _ _
theorem cmp_zero (a b : List Nat) : cmp a b = 0 ↔ a = b := by
  unfold cmp
  constructor
  · intro h
    split at h
    · exact (lex_zero _ _).1 h
    · exact absurd h (by assumption)
  · rintro rfl; simp [lex_refl]
theorem cmp_refl (a : List Nat) : cmp a a = 0 := (cmp_zero a a).2 rfl
theorem cmp_turn (a b : List Nat) : cmp b a = - cmp a b := by
  unfold cmp
  rw [lex_turn (runes a) (runes b), lex_turn a b]
  by_cases h : lex (runes a) (runes b) = 0
  · simp [h]
  · rw [if_neg (by omega), if_neg h]
theorem cmp_trans (a b c : List Nat) (h1 : cmp a b = -1) (h2 : cmp b c = -1) : cmp a c = -1 := by
  unfold cmp at *
  by_cases x : lex (runes a) (runes b) = 0
  · rw [if_pos x] at h1
    have ex := (lex_zero _ _).1 x
    by_cases y : lex (runes b) (runes c) = 0
    · rw [if_pos y] at h2
      rw [ex, if_pos y]; exact lex_trans _ _ _ h1 h2
    · rw [if_neg y] at h2
      rw [ex, if_neg y]; exact h2
  · rw [if_neg x] at h1
    by_cases y : lex (runes b) (runes c) = 0
    · have ey := (lex_zero _ _).1 y
      rw [← ey, if_neg x]; exact h1
    · rw [if_neg y] at h2
      have := lex_trans _ _ _ h1 h2
      rw [if_neg (by omega)]; exact this
theorem cmp_order (a b c : List Nat) : ¬ ((cmp a b ≤ 0 ∧ cmp b c ≤ 0 ∧ cmp a c > 0) ∨ (cmp a b ≥ 0 ∧ cmp b c ≥ 0 ∧ cmp a c < 0) ∨ (cmp a b = 0 ∧ cmp a c ≠ cmp b c)) := by
  have x := cmp_range a b
  have y := cmp_range b c
  have z := cmp_range a c
  have t1 := cmp_trans a b c
  have t2 := cmp_trans c b a
  rw [cmp_turn b c, cmp_turn a b, cmp_turn a c] at t2
  by_cases e1 : a = b
  · subst e1
    have := cmp_refl a
    omega
  · by_cases e2 : b = c
    · subst e2
      have := cmp_refl b
      have : cmp a b ≠ 0 := fun h => e1 ((cmp_zero _ _).1 h)
      omega
    · have n1 : cmp a b ≠ 0 := fun h => e1 ((cmp_zero _ _).1 h)
      have n2 : cmp b c ≠ 0 := fun h => e2 ((cmp_zero _ _).1 h)
      omega
theorem cmp_whole (a b : List Nat) (ha : whole a = true) (hb : whole b = true) : cmp a b = lex a b := by
  unfold cmp
  rw [lex_whole a ha b hb]
  split <;> simp_all
end Go.Proofs.YtfflpmcflpbopaaDoor.R
