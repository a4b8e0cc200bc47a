/- Texts as plain lists of bytes: the rune at their head, their runes, whether they have stray bytes, their beginnings, their order. No text of the program is named here. -/
import Derived.Lib.DecodeNEq
set_option linter.unusedVariables false
namespace Go.Proofs.YtfflpmcflpbopaaDoor.R

/-- The rune at the head of some bytes, and how many bytes it takes (a stray byte: fffd, one). -/
def dec (l : List Nat) : Nat × Nat := Go.Lib.decodeN l.length (l.getD 0 0) (l.getD 1 0) (l.getD 2 0) (l.getD 3 0)
def rn (l : List Nat) : Nat := (dec l).1
def wd (l : List Nat) : Nat := (dec l).2
def bad (l : List Nat) : Bool := decide (rn l = 65533 ∧ wd l = 1)

/-- A number that is a rune; its bytes. -/
def ok (c : Nat) : Prop := c < 55296 ∨ (57344 ≤ c ∧ c ≤ 1114111)
def enc (c : Nat) : List Nat :=
  if c < 128 then [c]
  else if c < 2048 then [192 + c / 64, 128 + c % 64]
  else if c < 65536 then [224 + c / 4096, 128 + c / 64 % 64, 128 + c % 64]
  else [240 + c / 262144, 128 + c / 4096 % 64, 128 + c / 64 % 64, 128 + c % 64]

theorem enc_len (c : Nat) : (enc c).length = if c < 128 then 1 else if c < 2048 then 2 else if c < 65536 then 3 else 4 := by
  unfold enc
  repeat' split
  all_goals rfl
theorem enc_pos (c : Nat) : 1 ≤ (enc c).length ∧ (enc c).length ≤ 4 := by
  rw [enc_len]
  repeat' split
  all_goals omega
theorem enc_ne (c : Nat) : enc c ≠ [] := fun h => by have := enc_pos c; rw [h] at this; simp at this

set_option maxRecDepth 100000 in
theorem dec_enc {c : Nat} (h : ok c) (t : List Nat) : dec (enc c ++ t) = (c, (enc c).length) := by
  rw [enc_len]
  unfold ok at h
  unfold dec enc
  by_cases h1 : c < 128
  · simp [h1, Lib.decodeN]
  · by_cases h2 : c < 2048
    · simp only [h1, h2, if_true, if_false]
      simp only [List.cons_append, List.nil_append, List.length_cons, List.getD_cons_zero, List.getD_cons_succ]
      unfold Lib.decodeN
      rw [if_neg (by omega), if_pos ⟨by omega, by omega, by omega⟩, if_pos (by omega)]
      exact Prod.ext (by simp only; omega) rfl
    · by_cases h3 : c < 65536
      · simp only [h1, h2, h3, if_true, if_false]
        simp only [List.cons_append, List.nil_append, List.length_cons, List.getD_cons_zero, List.getD_cons_succ]
        unfold Lib.decodeN
        rw [if_neg (by omega), if_neg (by omega), if_pos ⟨by omega, ⟨by omega, by omega⟩, by omega, by omega⟩, if_pos (by omega)]
        exact Prod.ext (by simp only; omega) rfl
      · simp only [h1, h2, h3, if_false]
        simp only [List.cons_append, List.nil_append, List.length_cons, List.getD_cons_zero, List.getD_cons_succ]
        unfold Lib.decodeN
        rw [if_neg (by omega), if_neg (by omega), if_neg (by omega), if_pos ⟨by omega, ⟨by omega, by omega⟩, ⟨by omega, by omega⟩, by omega, by omega⟩, if_pos (by omega)]
        exact Prod.ext (by simp only; omega) rfl

set_option maxRecDepth 100000 in
theorem dec_back (l : List Nat) (hl : l ≠ []) : (∃ c t, ok c ∧ l = enc c ++ t) ∨ dec l = (65533, 1) := by
  obtain ⟨b0, t0, rfl⟩ := List.exists_cons_of_ne_nil hl
  by_cases h0 : b0 < 128
  · exact .inl ⟨b0, t0, .inl (by omega), by simp [enc, h0]⟩
  by_cases h : dec (b0 :: t0) = (65533, 1)
  · exact .inr h
  refine .inl ?_
  unfold dec Lib.decodeN at h
  simp only [List.getD_cons_zero, List.getD_cons_succ, List.length_cons] at h
  rw [if_neg h0] at h
  split at h
  · rename_i h1
    obtain ⟨b1, t1, rfl⟩ := List.exists_cons_of_ne_nil (show t0 ≠ [] by rintro rfl; simp at h1)
    simp only [List.getD_cons_zero] at h h1
    split at h
    · rename_i h2
      refine ⟨b0 % 32 * 64 + b1 % 64, t1, .inl (by omega), ?_⟩
      unfold enc
      rw [if_neg (by omega), if_pos (by omega)]
      simp only [List.cons_append, List.nil_append, List.cons.injEq, and_true]
      omega
    · exact absurd rfl h
  · split at h
    · rename_i _ h1
      obtain ⟨b1, t1, rfl⟩ := List.exists_cons_of_ne_nil (show t0 ≠ [] by rintro rfl; simp at h1)
      obtain ⟨b2, t2, rfl⟩ := List.exists_cons_of_ne_nil (show t1 ≠ [] by rintro rfl; simp at h1)
      simp only [List.getD_cons_zero, List.getD_cons_succ] at h h1
      split at h
      · rename_i h2
        refine ⟨b0 % 16 * 4096 + b1 % 64 * 64 + b2 % 64, t2, by unfold ok; omega, ?_⟩
        unfold enc
        rw [if_neg (by omega), if_neg (by omega), if_pos (by omega)]
        simp only [List.cons_append, List.nil_append, List.cons.injEq, and_true]
        omega
      · exact absurd rfl h
    · split at h
      · rename_i _ _ h1
        obtain ⟨b1, t1, rfl⟩ := List.exists_cons_of_ne_nil (show t0 ≠ [] by rintro rfl; simp at h1)
        obtain ⟨b2, t2, rfl⟩ := List.exists_cons_of_ne_nil (show t1 ≠ [] by rintro rfl; simp at h1)
        obtain ⟨b3, t3, rfl⟩ := List.exists_cons_of_ne_nil (show t2 ≠ [] by rintro rfl; simp at h1)
        simp only [List.getD_cons_zero, List.getD_cons_succ] at h h1
        split at h
        · rename_i h2
          refine ⟨b0 % 8 * 262144 + b1 % 64 * 4096 + b2 % 64 * 64 + b3 % 64, t3, by unfold ok; omega, ?_⟩
          unfold enc
          rw [if_neg (by omega), if_neg (by omega), if_neg (by omega)]
          simp only [List.cons_append, List.nil_append, List.cons.injEq, and_true]
          omega
        · exact absurd rfl h
      · exact absurd rfl h

theorem bad_enc {c : Nat} (h : ok c) (t : List Nat) : bad (enc c ++ t) = false := by
  unfold bad rn wd
  rw [dec_enc h, enc_len]
  simp only [decide_eq_false_iff_not]
  intro ⟨e, h1⟩
  rw [e] at h1
  simp at h1
theorem rn_enc {c : Nat} (h : ok c) (t : List Nat) : rn (enc c ++ t) = c := by unfold rn; rw [dec_enc h]
theorem wd_enc {c : Nat} (h : ok c) (t : List Nat) : wd (enc c ++ t) = (enc c).length := by unfold wd; rw [dec_enc h]
theorem drop_enc {c : Nat} (h : ok c) (t : List Nat) : (enc c ++ t).drop (wd (enc c ++ t)) = t := by rw [wd_enc h]; simp

/-- What stands at the head: a rune, or a stray byte. -/
theorem head_cases (l : List Nat) (hl : l ≠ []) : (∃ c t, ok c ∧ l = enc c ++ t) ∨ (bad l = true ∧ rn l = 65533 ∧ wd l = 1) :=
  (dec_back l hl).imp id fun h => ⟨by simp [bad, rn, wd, h], by simp [rn, h], by simp [wd, h]⟩
theorem wd_pos (l : List Nat) (hl : l ≠ []) : 1 ≤ wd l ∧ wd l ≤ 4 ∧ wd l ≤ l.length := by
  rcases head_cases l hl with ⟨c, t, h, rfl⟩ | ⟨_, _, h⟩
  · rw [wd_enc h]; have := enc_pos c; simp; omega
  · rw [h]
    have : l.length ≠ 0 := fun e => hl (List.eq_nil_of_length_eq_zero e)
    omega
theorem rn_lt (l : List Nat) (hl : l ≠ []) : rn l ≤ 1114111 := by
  rcases head_cases l hl with ⟨c, t, h, rfl⟩ | ⟨_, h, _⟩
  · rw [rn_enc h]; unfold ok at h; omega
  · omega
theorem take_enc {x t : List Nat} {m : Nat} (h : x.length ≤ m) : (x ++ t).take m = x ++ t.take (m - x.length) := by
  rw [List.take_append, List.take_of_length_le h]
/-- What is cut off behind the head does not turn it. -/
theorem dec_take (l : List Nat) (hl : l ≠ []) (m : Nat) (hm : wd l ≤ m) : dec (l.take m) = dec l := by
  rcases head_cases l hl with ⟨c, t, h, rfl⟩ | ⟨hb, h1, h2⟩
  · rw [wd_enc h] at hm
    rw [take_enc hm, dec_enc h, dec_enc h]
  · rw [h2] at hm
    have hne : l.take m ≠ [] := by
      obtain ⟨b, t, rfl⟩ := List.exists_cons_of_ne_nil hl
      obtain ⟨k, rfl⟩ : ∃ k, m = k + 1 := ⟨m - 1, by omega⟩
      simp
    rcases dec_back (l.take m) hne with ⟨c, t, h, e⟩ | e
    · exfalso
      have e2 : l = enc c ++ (t ++ l.drop m) := by rw [← List.append_assoc, ← e, List.take_append_drop]
      rw [e2, bad_enc h] at hb
      cases hb
    · rw [e]; exact Prod.ext h1.symm h2.symm

/-- Induction from rune to rune. -/
theorem ind {P : List Nat → Prop} (h0 : P []) (h1 : ∀ l, l ≠ [] → P (l.drop (wd l)) → P l) (l : List Nat) : P l := by
  have : ∀ n (l : List Nat), l.length ≤ n → P l := by
    intro n
    induction n with
    | zero => intro l h; have e : l = [] := List.eq_nil_of_length_eq_zero (by omega); rw [e]; exact h0
    | succ n ih =>
      intro l h
      by_cases hl : l = []
      · rw [hl]; exact h0
      · have := wd_pos l hl
        exact h1 l hl (ih _ (by simp; omega))
  exact this l.length l (Nat.le_refl _)

/-- The runes. -/
def runesF : Nat → List Nat → List Nat
  | 0, _ => []
  | n + 1, l => if l = [] then [] else rn l :: runesF n (l.drop (wd l))
def runes (l : List Nat) : List Nat := runesF l.length l
theorem runesF_eq : ∀ (n m : Nat) (l : List Nat), l.length ≤ n → l.length ≤ m → runesF n l = runesF m l
  | 0, 0, l, _, _ => rfl
  | 0, m + 1, l, h, _ => by have : l = [] := List.eq_nil_of_length_eq_zero (by omega); subst this; simp [runesF]
  | n + 1, 0, l, _, h => by have : l = [] := List.eq_nil_of_length_eq_zero (by omega); subst this; simp [runesF]
  | n + 1, m + 1, l, h, h' => by
    by_cases hl : l = []
    · simp [runesF, hl]
    · have := wd_pos l hl
      simp only [runesF, hl, if_false]
      rw [runesF_eq n m _ (by simp; omega) (by simp; omega)]
theorem runes_nil : runes [] = [] := rfl
theorem runes_cons (l : List Nat) (hl : l ≠ []) : runes l = rn l :: runes (l.drop (wd l)) := by
  obtain ⟨n, hn⟩ : ∃ n, l.length = n + 1 := ⟨l.length - 1, by have : l.length ≠ 0 := fun e => hl (List.eq_nil_of_length_eq_zero e); omega⟩
  have := wd_pos l hl
  unfold runes
  rw [hn]
  simp only [runesF, hl, if_false]
  rw [runesF_eq n _ _ (by simp; omega) (Nat.le_refl _)]
theorem runes_len (l : List Nat) : (runes l).length ≤ l.length := by
  refine ind (P := fun l => (runes l).length ≤ l.length) (by simp [runes_nil]) (fun l hl ih => ?_) l
  rw [runes_cons l hl]
  have := wd_pos l hl
  simp only [List.length_cons, List.length_drop] at ih ⊢
  omega
theorem runes_lt (l : List Nat) : ∀ r ∈ runes l, r ≤ 1114111 := by
  refine ind (P := fun l => ∀ r ∈ runes l, r ≤ 1114111) (by simp [runes_nil]) (fun l hl ih => ?_) l
  rw [runes_cons l hl]
  intro r hr
  rcases List.mem_cons.1 hr with rfl | hr
  · exact rn_lt l hl
  · exact ih r hr
theorem runes_nil_iff (l : List Nat) : runes l = [] ↔ l = [] := by
  constructor
  · intro h
    apply Classical.byContradiction
    intro hl
    rw [runes_cons l hl] at h
    cases h
  · rintro rfl; rfl

/-- Whether what stands at each rune meets p. -/
def allF (p : List Nat → Bool) : Nat → List Nat → Bool
  | 0, _ => true
  | n + 1, l => if l = [] then true else p l && allF p n (l.drop (wd l))
def all (p : List Nat → Bool) (l : List Nat) : Bool := allF p l.length l
theorem allF_eq (p : List Nat → Bool) : ∀ (n m : Nat) (l : List Nat), l.length ≤ n → l.length ≤ m → allF p n l = allF p m l
  | 0, 0, l, _, _ => rfl
  | 0, m + 1, l, h, _ => by have : l = [] := List.eq_nil_of_length_eq_zero (by omega); subst this; simp [allF]
  | n + 1, 0, l, _, h => by have : l = [] := List.eq_nil_of_length_eq_zero (by omega); subst this; simp [allF]
  | n + 1, m + 1, l, h, h' => by
    by_cases hl : l = []
    · simp [allF, hl]
    · have := wd_pos l hl
      simp only [allF, hl, if_false]
      rw [allF_eq p n m _ (by simp; omega) (by simp; omega)]
theorem all_nil (p : List Nat → Bool) : all p [] = true := rfl
theorem all_cons (p : List Nat → Bool) (l : List Nat) (hl : l ≠ []) : all p l = (p l && all p (l.drop (wd l))) := by
  obtain ⟨n, hn⟩ : ∃ n, l.length = n + 1 := ⟨l.length - 1, by have : l.length ≠ 0 := fun e => hl (List.eq_nil_of_length_eq_zero e); omega⟩
  have := wd_pos l hl
  unfold all
  rw [hn]
  simp only [allF, hl, if_false]
  rw [allF_eq p n _ _ (by simp; omega) (Nat.le_refl _)]
def whole (l : List Nat) : Bool := all (fun l => !bad l) l
def fit (r : Nat) : Bool := decide (r ≠ 47 ∧ 32 ≤ r ∧ r ≠ 127)
def fitb (l : List Nat) : Bool := fit (rn l) && !bad l
theorem whole_nil : whole [] = true := rfl
theorem whole_cons (l : List Nat) (hl : l ≠ []) : whole l = (!bad l && whole (l.drop (wd l))) := all_cons _ l hl
theorem whole_enc {c : Nat} (h : ok c) (t : List Nat) : whole (enc c ++ t) = whole t := by
  rw [whole_cons _ (by have := enc_ne c; simp [this]), bad_enc h, drop_enc h]; rfl
theorem runes_enc {c : Nat} (h : ok c) (t : List Nat) : runes (enc c ++ t) = c :: runes t := by
  rw [runes_cons _ (by have := enc_ne c; simp [this]), rn_enc h, drop_enc h]
theorem whole_head {l : List Nat} (hl : l ≠ []) (hw : whole l = true) : ∃ c t, ok c ∧ l = enc c ++ t ∧ whole t = true := by
  rcases head_cases l hl with ⟨c, t, h, rfl⟩ | ⟨hb, _, _⟩
  · exact ⟨c, t, h, rfl, by rwa [whole_enc h] at hw⟩
  · rw [whole_cons l hl, hb] at hw; cases hw

theorem whole_ind {P : List Nat → Prop} (h0 : P []) (h1 : ∀ c t, ok c → whole t = true → P t → P (enc c ++ t)) (l : List Nat) (hw : whole l = true) : P l := by
  revert hw
  refine ind (P := fun l => whole l = true → P l) (fun _ => h0) (fun l hl ih hw => ?_) l
  obtain ⟨c, t, h, rfl, ht⟩ := whole_head hl hw
  rw [drop_enc h] at ih
  exact h1 c t h ht (ih ht)

/-- Two texts, one behind the other. -/
theorem runes_join (a b : List Nat) (ha : whole a = true) : runes (a ++ b) = runes a ++ runes b := by
  refine whole_ind (P := fun a => runes (a ++ b) = runes a ++ runes b) rfl (fun c t h _ ih => ?_) a ha
  rw [List.append_assoc, runes_enc h, runes_enc h, ih]; rfl
theorem whole_join (a b : List Nat) (ha : whole a = true) : whole (a ++ b) = whole b := by
  refine whole_ind (P := fun a => whole (a ++ b) = whole b) rfl (fun c t h _ ih => ?_) a ha
  rw [List.append_assoc, whole_enc h, ih]

/-- What may be a name. -/
def valid (l : List Nat) : Bool := decide (l ≠ [] ∧ l.length ≤ 24 ∧ l ≠ [46] ∧ l ≠ [46, 46]) && all fitb l
def fitB (b : Nat) : Bool := decide (b ≠ 47 ∧ 32 ≤ b ∧ b ≠ 127)
theorem enc_fit (c : Nat) : (enc c).all fitB = fit c := by
  unfold enc fit
  by_cases h : c < 128
  · simp [h, fitB]
  · have : decide (c ≠ 47 ∧ 32 ≤ c ∧ c ≠ 127) = true := by simp; omega
    rw [this, List.all_eq_true]
    rw [if_neg h]
    intro x hx
    unfold fitB
    simp only [decide_eq_true_eq]
    repeat' split at hx
    all_goals
      simp only [List.mem_cons, List.mem_nil_iff, or_false] at hx
      omega
theorem all_fit (l : List Nat) : all fitb l = (whole l && l.all fitB) := by
  refine ind (P := fun l => all fitb l = (whole l && l.all fitB)) rfl (fun l hl ih => ?_) l
  rcases head_cases l hl with ⟨c, t, h, rfl⟩ | ⟨hb, _, _⟩
  · rw [drop_enc h] at ih
    rw [all_cons _ _ hl, drop_enc h, whole_enc h, ih, fitb, rn_enc h, bad_enc h, List.all_append, enc_fit]
    cases fit c <;> cases whole t <;> simp
  · rw [all_cons _ _ hl, whole_cons _ hl, fitb, hb]
    simp
theorem valid_join (a b : List Nat) (ha : valid a = true) (hb : valid b = true) : valid (a ++ b) = decide (a.length + b.length ≤ 24) := by
  unfold valid at *
  simp only [Bool.and_eq_true, decide_eq_true_eq] at ha hb
  obtain ⟨⟨a1, a2, a3, a4⟩, a5⟩ := ha
  obtain ⟨⟨b1, b2, b3, b4⟩, b5⟩ := hb
  rw [all_fit, Bool.and_eq_true] at a5 b5
  have e : all fitb (a ++ b) = true := by rw [all_fit, whole_join _ _ a5.1, List.all_append, b5.1, a5.2, b5.2]; rfl
  rw [e, Bool.and_true]
  apply decide_eq_decide.2
  obtain ⟨x, s, rfl⟩ := List.exists_cons_of_ne_nil a1
  obtain ⟨y, t, rfl⟩ := List.exists_cons_of_ne_nil b1
  constructor
  · rintro ⟨_, h, _⟩; rw [List.length_append] at h; exact h
  · intro h
    refine ⟨by simp, by rw [List.length_append]; exact h, ?_, ?_⟩
    · intro e; simp at e
    · intro e
      cases s with
      | nil => simp at e; exact a3 (by simp [e.1])
      | cons z s => simp at e
end Go.Proofs.YtfflpmcflpbopaaDoor.R
