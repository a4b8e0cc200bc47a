/- What calls on disk 1 alone leave on the disks 0 and 2. -/
import Derived.Test.YtfmlohedebdomaaSect6
import Derived.Test.YtfmlohedebdomaaAwake6
set_option linter.unusedSimpArgs false
set_option linter.unusedVariables false
namespace Go.Proofs.Ytfmlohedebdomaa
open Go.RowKit

theorem on_of {R : AM.Raw} {d : Nat} {xs : List Nat} (h : R.C[d]? = some (some xs)) : R.on (d : Int) = true := by
  have hlt := (List.getElem?_eq_some_iff.1 h).1
  simp only [AM.Raw.on, Int.toNat_natCast, List.getD, h]
  simp [hlt]
theorem reach_of {R : AM.Raw} {d k : Nat} {xs : List Nat} (h : R.C[d]? = some (some xs)) (ho : R.off = false) (hk : k < R.n) : R.reach (d : Int) (k : Int) = 0 := by
  have hlt := (List.getElem?_eq_some_iff.1 h).1
  simp [AM.Raw.reach, ho, on_of h, hlt, hk]
theorem burnt_of {R : AM.Raw} (h : R.fuse = 0) : R.burnt = R ∧ R.burns = false := by simp [AM.Raw.burnt, AM.Raw.burns, h]
theorem read_of {R : AM.Raw} {d k : Nat} {xs : List Nat} (h : R.C[d]? = some (some xs)) (ho : R.off = false) (hk : k < R.n) : R.read (d : Int) (k : Int) = AM.sec xs k := by
  unfold AM.Raw.read
  rw [if_pos (reach_of h ho hk), Int.toNat_natCast, Int.toNat_natCast, AM.look_at _ h]

structure ApI (R : AM.Raw) (i : Nat) : Prop where
  c3 : R.C.length = 3
  n4 : R.n = 4
  off : R.off = false
  fuse : R.fuse = 0
  d0 : ∃ xs, R.C[0]? = some (some xs) ∧ ∀ k, k < 4 → AM.sec xs k = fl (k + 1)
  d2 : ∃ xs, R.C[2]? = some (some xs) ∧ ∀ k, k < 4 → AM.sec xs k = fl (k + 9)
  L : ∀ l ∈ R.L, l.d = 1
  len : R.L.length ≤ i

theorem ApI.change {R R' : AM.Raw} {i j : Nat} (h : ApI R i) (hl : R'.C.length = R.C.length) (hn : R'.n = R.n) (ho : R'.off = false) (hf : R'.fuse = 0) (h0 : R'.C[0]? = R.C[0]?) (h2 : R'.C[2]? = R.C[2]?) (hL : ∀ l ∈ R'.L, l.d = 1) (hj : R'.L.length ≤ j) : ApI R' j :=
  ⟨hl.trans h.c3, hn.trans h.n4, ho, hf, by rw [h0]; exact h.d0, by rw [h2]; exact h.d2, hL, hj⟩
theorem ApI.up {R : AM.Raw} {i : Nat} (h : ApI R i) : ApI R (i + 1) := h.change rfl rfl h.off h.fuse rfl rfl h.L (Nat.le_succ_of_le h.len)
theorem ApI.write {R : AM.Raw} {i : Nat} (h : ApI R i) (A : Int) (b : List Nat) : ApI (R.writes 1 A b).2 (i + 1) := by
  unfold AM.Raw.writes
  obtain ⟨e1, e2⟩ := burnt_of h.fuse
  by_cases hr : R.reach 1 A = 0
  · by_cases hb : b.length = 64
    · rw [if_neg (by simp [hr]), if_neg (by simp [hb]), e2, e1]
      refine h.change (by simp [AM.Raw.fly, AM.lay_len]) rfl h.off h.fuse (AM.lay_ne _ _ (by decide)) (AM.lay_ne _ _ (by decide)) (fun l hl => ?_) (by simp [AM.Raw.fly]; exact h.len)
      rcases List.mem_append.1 hl with hl | hl
      · exact h.L l hl
      · obtain rfl := List.mem_singleton.1 hl; rfl
    · rw [if_neg (by simp [hr]), if_pos hb]
      exact h.up
  · rw [if_pos hr]
    exact h.up
theorem ApI.barrier {R : AM.Raw} {i : Nat} (h : ApI R i) : ApI R.barrier.2 (i + 1) := by
  obtain ⟨e1, e2⟩ := burnt_of h.fuse
  unfold AM.Raw.barrier
  rw [h.off, e1, e2]
  exact h.change rfl rfl h.off h.fuse rfl rfl (by simp) (by simp)
theorem ApI.lose {R : AM.Raw} {i : Nat} (h : ApI R i) : ApI (R.lose 1).2 (i + 1) := by
  unfold AM.Raw.lose
  split
  · exact h.up
  · split
    · refine h.change (by simp [AM.Raw.lost]) rfl h.off h.fuse (by simp [AM.Raw.lost]) (by simp [AM.Raw.lost]) (fun l hl => h.L l (List.mem_filter.1 hl).1) (Nat.le_trans (List.length_filter_le _ _) (Nat.le_succ_of_le h.len))
    · exact h.up
theorem ApI.replace {R : AM.Raw} {i : Nat} (h : ApI R i) : ApI (R.replace 1).2 (i + 1) := by
  unfold AM.Raw.replace
  split
  · exact h.up
  · split
    · exact h.up
    · exact h.change (by simp [AM.Raw.blank]) rfl h.off h.fuse (by simp [AM.Raw.blank]) (by simp [AM.Raw.blank]) h.L (Nat.le_succ_of_le h.len)
theorem undo_ne {L : List AM.Wr} {C : List AM.Disk} {d e : Nat} (h : ∀ l ∈ L, l.d = e) (hd : d ≠ e) (j : Nat) : (AM.undoTo C L j)[d]? = C[d]? := by
  unfold AM.undoTo
  have hs : ∀ l ∈ L.drop j, l.d = e := fun l hl => h l (List.mem_of_mem_drop hl)
  generalize L.drop j = Z at hs
  induction Z with
  | nil => rfl
  | cons l r ih =>
    simp only [List.foldr]
    rw [AM.lay_ne _ _ (by rw [hs l (List.mem_cons_self ..)]; exact hd), ih (fun x hx => hs x (List.mem_cons_of_mem _ hx))]
theorem pick_ne {e d : Nat} (hd : d ≠ e) : ∀ (Z : List (AM.Wr × Nat)) (C : List AM.Disk), (∀ x ∈ Z, x.1.d = e) → (Z.foldl AM.pickD C)[d]? = C[d]? := by
  intro Z
  induction Z with
  | nil => intro C _; rfl
  | cons x r ih =>
    intro C h
    simp only [List.foldl]
    rw [ih _ (fun y hy => h y (List.mem_cons_of_mem _ hy))]
    unfold AM.pickD
    split
    · rw [AM.lay_ne _ _ (by rw [h x (List.mem_cons_self ..)]; exact hd)]
    · rfl
theorem ApI.crash {R : AM.Raw} {i : Nat} (h : ApI R i) (ps : List Nat) : ApI (R.crash ps) (i + 1) := by
  have hn : ∀ d, d ≠ 1 → (R.crash ps).C[d]? = R.C[d]? := fun d hd => by
    show (AM.crashC R.C R.L ps)[d]? = _
    unfold AM.crashC
    rw [pick_ne hd _ _ (fun x hx => h.L _ (List.of_mem_zip hx).1), undo_ne h.L hd]
  refine h.change ?_ rfl rfl rfl (hn 0 (by decide)) (hn 2 (by decide)) (by simp [AM.Raw.crash]) (by simp [AM.Raw.crash])
  rw [AM.crash_pick, AM.pickTo_len, AM.undoTo_len]
theorem ApI.ons {R : AM.Raw} {i : Nat} (h : ApI R i) : 2 ≤ R.ons := by
  obtain ⟨x0, h0, _⟩ := h.d0
  obtain ⟨x2, h2, _⟩ := h.d2
  have h3 := h.c3
  unfold AM.Raw.ons
  match hC : R.C, h3 with
  | [a, b, c], _ =>
    rw [hC] at h0 h2
    simp at h0 h2
    subst h0
    subst h2
    cases b <;> simp
section
variable {F : Nat → Prop} {w : World} {a : Nat} {R : AM.Raw} {i : Nat}
theorem write_ap (h : Is F w a R) (hI : ApI R i) (hi : i ≤ 1000) {v : Value} {b : List Nat} (hv : Aw F w v b) (A : Int) : Calls Try.prog 13 #[ptr a, .int .i64 1, .int .i64 A, v] w fun e w' => ∃ c, e = .returned (.int .i64 c) ∧ ∃ F' R', Is F' w' a R' ∧ Step F w F' w' ∧ ApI R' (i + 1) := by
  refine (write_any h 1 A hv.vec hv.off (Nat.le_trans hI.len (by omega))).mono ?_
  rintro e w' ⟨rfl, F', h1, h2⟩
  exact ⟨_, rfl, F', _, h1, h2, hI.write A b⟩
theorem barrier_ap (h : Is F w a R) (hI : ApI R i) : Calls Try.prog 18 #[ptr a] w fun e w' => ∃ c, e = .returned (.int .i64 c) ∧ ∃ F' R', Is F' w' a R' ∧ Step F w F' w' ∧ ApI R' (i + 1) := by
  refine (barrier_yes h).mono ?_
  rintro e w' ⟨rfl, h1, h2⟩
  exact ⟨_, rfl, F, _, h1, h2, hI.barrier⟩
theorem lose_ap (h : Is F w a R) (hI : ApI R i) (hi : i ≤ 1000) : Calls Try.prog 20 #[ptr a, .int .i64 1] w fun e w' => ∃ c, e = .returned (.int .i64 c) ∧ ∃ F' R', Is F' w' a R' ∧ Step F w F' w' ∧ ApI R' (i + 1) := by
  refine (lose_any h 1 (Nat.le_trans hI.len (by omega))).mono ?_
  rintro e w' ⟨rfl, h1, h2⟩
  exact ⟨_, rfl, F, _, h1, h2, hI.lose⟩
theorem replace_ap (h : Is F w a R) (hI : ApI R i) : Calls Try.prog 22 #[ptr a, .int .i64 1] w fun e w' => ∃ c, e = .returned (.int .i64 c) ∧ ∃ F' R', Is F' w' a R' ∧ Step F w F' w' ∧ ApI R' (i + 1) := by
  refine (replace_any h 1).mono ?_
  rintro e w' ⟨rfl, F', h1, h2⟩
  exact ⟨_, rfl, F', _, h1, h2, hI.replace⟩
theorem crash_ap (h : Is F w a R) (hI : ApI R i) (hi : i ≤ 1000) {v : Value} {ps : List Nat} (hv : Aw F w v ps) : Calls Try.prog 26 #[ptr a, v] w fun e w' => e = .returned (.tuple #[]) ∧ ∃ F' R', Is F' w' a R' ∧ Step F w F' w' ∧ ApI R' (i + 1) := by
  refine (crash_yes h (Nat.le_trans hI.len (by omega)) hv.vec hv.off).mono ?_
  rintro e w' ⟨rfl, h1, h2⟩
  exact ⟨rfl, F, _, h1, h2, hI.crash ps⟩
theorem write_some (h : Is F w a R) (hL : R.L.length ≤ 1000000) {d k : Int} {v : Value} {b : List Nat} (hv : Aw F w v b) : Calls Try.prog 13 #[ptr a, .int .i64 d, .int .i64 k, v] w fun e w' => ∃ c, e = .returned (.int .i64 c) ∧ ∃ F', Is F' w' a (R.writes d k b).2 ∧ Step F w F' w' := by
  refine (write_any h d k hv.vec hv.off hL).mono ?_
  rintro e w' ⟨rfl, F', h1, h2⟩
  exact ⟨_, rfl, F', h1, h2⟩
end
/-- The eight writes ahead. -/
def pre : Nat → AM.Raw
  | 0 => AM.Raw.new 3 4
  | k + 1 => (((pre k).writes 0 (k : Int) (fl (k + 1))).2.writes 2 (k : Int) (fl (k + 9))).2
theorem pre_len : ∀ k, k < 5 → (pre k).L.length ≤ 1000000 ∧ ((pre k).writes 0 (k : Int) (fl (k + 1))).2.L.length ≤ 1000000 := by decide
def X0 : List Nat := (((pre 4).barrier.2).C.getD 0 none).getD []
def X2 : List Nat := (((pre 4).barrier.2).C.getD 2 none).getD []
set_option maxRecDepth 100000 in
theorem pre_ap : ApI (pre 4).barrier.2 0 :=
  ⟨by decide, by decide, by decide, by decide, ⟨X0, by decide, by decide⟩, ⟨X2, by decide, by decide⟩, by simp [AM.Raw.barrier, show (pre 4).off = false from by decide, show (pre 4).burns = false from by decide], by decide⟩
end Go.Proofs.Ytfmlohedebdomaa
