/- What ArrayKeeps keeps beside the array: twelve sectors in an array of its own (Want); what disks show (Shows), behind writes, a barrier, a crash. -/
import Derived.Test.YtfmlohedebdomaaAp6
set_option linter.unusedSimpArgs false
set_option linter.unusedVariables false
namespace Go.Proofs.Ytfmlohedebdomaa
open Go.RowKit

/-- Disks that show the sectors Ws. -/
structure Shows (C : List AM.Disk) (Ws : List (List Nat)) : Prop where
  c3 : C.length = 3
  w12 : Ws.length = 12
  at_ : ∀ d k, d < 3 → k < 4 → ∃ xs, C[d]? = some (some xs) ∧ xs.length = 256 ∧ AM.sec xs k = Ws.getD (d * 4 + k) []
theorem Shows.lay {C : List AM.Disk} {Ws : List (List Nat)} (h : Shows C Ws) {d k : Nat} (hd : d < 3) (hk : k < 4) {b : List Nat} (hb : b.length = 64) : Shows (AM.lay C d k b) (Ws.set (d * 4 + k) b) := by
  refine ⟨by rw [AM.lay_len]; exact h.c3, by simpa using h.w12, fun e j he hj => ?_⟩
  have hw := h.w12
  by_cases c : e = d
  · subst c
    obtain ⟨xs, h1, h2, h3⟩ := h.at_ e j he hj
    refine ⟨_, AM.lay_at k b h1, by rw [AM.put_len (by omega)]; exact h2, ?_⟩
    by_cases c2 : j = k
    · subst c2
      rw [AM.sec_put_same hb (by omega)]
      simp [List.getD, List.getElem?_set, show e * 4 + j < Ws.length by omega]
    · rw [AM.sec_put_ne hb (by omega) c2, h3]
      simp only [List.getD]
      rw [List.getElem?_set_ne (by omega)]
  · obtain ⟨xs, h1, h2, h3⟩ := h.at_ e j he hj
    refine ⟨xs, by rw [AM.lay_ne k b c]; exact h1, h2, ?_⟩
    rw [h3]
    simp only [List.getD]
    rw [List.getElem?_set_ne (by omega)]
theorem shows_new : Shows (AM.Raw.new 3 4).C (List.replicate 12 (fl 0)) := by
  refine ⟨List.length_replicate, List.length_replicate, fun d k hd hk => ⟨AM.zs 256, ?_, AM.zs_len 256, ?_⟩⟩
  · show (List.replicate 3 (some (AM.zs (4 * 64))))[d]? = _
    rw [List.getElem?_replicate, if_pos hd]
  · rw [show AM.zs 256 = AM.zs (4 * 64) from rfl, AM.sec_zs (n := 4) hk]
    have : d * 4 + k < 12 := by omega
    simp only [List.getD]
    rw [List.getElem?_replicate, if_pos this]
    rfl
theorem Shows.on {C : List AM.Disk} {Ws : List (List Nat)} (h : Shows C Ws) {d : Nat} (hd : d < 3) : ∃ xs, C[d]? = some (some xs) ∧ xs.length = 256 := by
  obtain ⟨xs, h1, h2, _⟩ := h.at_ d 0 hd (by decide)
  exact ⟨xs, h1, h2⟩

/-- Ahead of the barrier. -/
structure K1 (R : AM.Raw) (i : Nat) (Ws : List (List Nat)) : Prop where
  n4 : R.n = 4
  off : R.off = false
  fuse : R.fuse = 0
  len : R.L.length ≤ i
  shows_ : Shows R.C Ws
/-- Behind it. -/
structure K2 (R : AM.Raw) (i : Nat) (ps : List Nat) (Ws : List (List Nat)) : Prop where
  n4 : R.n = 4
  off : R.off = false
  fuse : R.fuse = 0
  len : R.L.length = i
  on : ∃ Vs, Shows R.C Vs
  shows_ : Shows (AM.crashC R.C R.L ps) Ws
theorem writes_of {R : AM.Raw} {d k : Nat} {b : List Nat} (hr : R.reach (d : Int) (k : Int) = 0) (hb : b.length = 64) (hf : R.fuse = 0) : R.writes (d : Int) (k : Int) b = (0, R.fly d k b) := by
  simp [AM.Raw.writes, hr, hb, burnt_of hf]
theorem K1.write {R : AM.Raw} {i : Nat} {Ws : List (List Nat)} (h : K1 R i Ws) {d k : Nat} (hd : d < 3) (hk : k < 4) {b : List Nat} (hb : b.length = 64) : R.writes (d : Int) (k : Int) b = (0, R.fly d k b) ∧ K1 (R.fly d k b) (i + 1) (Ws.set (d * 4 + k) b) := by
  obtain ⟨xs, hx, _⟩ := h.shows_.on hd
  exact ⟨writes_of (reach_of hx h.off (by rw [h.n4]; exact hk)) hb h.fuse, h.n4, h.off, h.fuse, by simp [AM.Raw.fly]; exact h.len, h.shows_.lay hd hk hb⟩
theorem K1.barrier {R : AM.Raw} {i : Nat} {Ws : List (List Nat)} (h : K1 R i Ws) (ps : List Nat) : R.barrier = (0, { R with L := [] }) ∧ K2 { R with L := [] } 0 ps Ws := by
  obtain ⟨e1, e2⟩ := burnt_of h.fuse
  exact ⟨by simp [AM.Raw.barrier, h.off, e1, e2], h.n4, h.off, h.fuse, rfl, ⟨_, h.shows_⟩, h.shows_⟩
theorem undo_fly {C : List AM.Disk} {L : List AM.Wr} {d k : Nat} {b xs : List Nat} (hx : C[d]? = some (some xs)) (hl : k * 64 + 64 ≤ xs.length) (hb : b.length = 64) : AM.undoTo (AM.lay C d k b) (L ++ [⟨d, k, AM.look C d k, b⟩]) 0 = AM.undoTo C L 0 := by
  unfold AM.undoTo
  simp only [List.drop_zero, List.foldr_append, List.foldr_cons, List.foldr_nil]
  congr 1
  have e : AM.look C d k = AM.sec xs k := AM.look_at k hx
  rw [e]
  apply List.ext_getElem?
  intro j
  by_cases c : j = d
  · subst c
    rw [AM.lay_at _ _ (AM.lay_at k b hx), AM.put_put_sec hb hl, hx]
  · rw [AM.lay_ne _ _ c, AM.lay_ne _ _ c]
theorem crash_fly {C : List AM.Disk} {L : List AM.Wr} {ps : List Nat} {d k : Nat} {b xs : List Nat} (hx : C[d]? = some (some xs)) (hl : k * 64 + 64 ≤ xs.length) (hb : b.length = 64) :
    AM.crashC (AM.lay C d k b) (L ++ [⟨d, k, AM.look C d k, b⟩]) ps = if L.length < ps.length ∧ ps.getD L.length 0 % 2 = 1 then AM.lay (AM.crashC C L ps) d k b else AM.crashC C L ps := by
  unfold AM.crashC
  rw [undo_fly hx hl hb]
  by_cases h : L.length < ps.length
  · have e : (L ++ [(⟨d, k, AM.look C d k, b⟩ : AM.Wr)]).zip ps = L.zip ps ++ [(⟨d, k, AM.look C d k, b⟩, ps.getD L.length 0)] := by
      have e1 : ps = ps.take L.length ++ (ps.getD L.length 0 :: ps.drop (L.length + 1)) := by
        simp [List.getD, h]
      rw [e1, List.zip_append (by simp; omega)]
      have e2 : L.zip (ps.take L.length ++ (ps.getD L.length 0 :: ps.drop (L.length + 1))) = L.zip (ps.take L.length) := by
        have := List.zip_append (l₁ := L) (r₁ := []) (l₂ := ps.take L.length) (r₂ := ps.getD L.length 0 :: ps.drop (L.length + 1)) (by simp; omega)
        simpa using this
      rw [e2, ← e1]
      rfl
    rw [e, List.foldl_append]
    simp only [List.foldl_cons, List.foldl_nil]
    unfold AM.pickD
    simp only [h, true_and]
  · rw [if_neg (fun c => h c.1)]
    have e : (L ++ [(⟨d, k, AM.look C d k, b⟩ : AM.Wr)]).zip ps = L.zip ps := by
      apply List.ext_getElem?
      intro j
      by_cases hj : j < ps.length
      · simp only [List.getElem?_zip_eq_some, List.zip, List.getElem?_zipWith]
        rw [List.getElem?_append_left (by omega)]
      · rw [List.getElem?_eq_none (by simp; omega), List.getElem?_eq_none (by simp; omega)]
    rw [e]
theorem K2.write {R : AM.Raw} {i : Nat} {ps : List Nat} {Ws : List (List Nat)} (h : K2 R i ps Ws) {d k : Nat} (hd : d < 3) (hk : k < 4) {b : List Nat} (hb : b.length = 64) : R.writes (d : Int) (k : Int) b = (0, R.fly d k b) ∧
    ((i < ps.length ∧ ps.getD i 0 % 2 = 1) → K2 (R.fly d k b) (i + 1) ps (Ws.set (d * 4 + k) b)) ∧ (¬ (i < ps.length ∧ ps.getD i 0 % 2 = 1) → K2 (R.fly d k b) (i + 1) ps Ws) := by
  obtain ⟨Vs, hV⟩ := h.on
  obtain ⟨xs, hx, hl⟩ := hV.on hd
  have hc := crash_fly (L := R.L) (ps := ps) (k := k) (b := b) hx (by omega) hb
  rw [h.len] at hc
  refine ⟨writes_of (reach_of hx h.off (by rw [h.n4]; exact hk)) hb h.fuse, fun c => ⟨h.n4, h.off, h.fuse, by simp [AM.Raw.fly, h.len], ⟨_, hV.lay hd hk hb⟩, ?_⟩, fun c => ⟨h.n4, h.off, h.fuse, by simp [AM.Raw.fly, h.len], ⟨_, hV.lay hd hk hb⟩, ?_⟩⟩
  · show Shows (AM.crashC (AM.lay R.C d k b) (R.L ++ [⟨d, k, AM.look R.C d k, b⟩]) ps) _
    rw [hc, if_pos c]
    exact h.shows_.lay hd hk hb
  · show Shows (AM.crashC (AM.lay R.C d k b) (R.L ++ [⟨d, k, AM.look R.C d k, b⟩]) ps) _
    rw [hc, if_neg c]
    exact h.shows_
theorem K2.crash {R : AM.Raw} {i : Nat} {ps : List Nat} {Ws : List (List Nat)} (h : K2 R i ps Ws) {d k : Nat} (hd : d < 3) (hk : k < 4) : ((R.crash ps).reach (d : Int) (k : Int) : Int) = 0 ∧ (R.crash ps).read (d : Int) (k : Int) = Ws.getD (d * 4 + k) [] := by
  obtain ⟨xs, h1, h2, h3⟩ := h.shows_.at_ d k hd hk
  have h1 : (R.crash ps).C[d]? = some (some xs) := h1
  exact ⟨congrArg (fun m : Nat => (m : Int)) (reach_of h1 rfl (by show k < R.n; rw [h.n4]; exact hk)), (read_of h1 rfl (by show k < R.n; rw [h.n4]; exact hk)).trans h3⟩

/-- Twelve vectors in the block bw. -/
structure Want (F : Nat → Prop) (w : World) (bw : Nat) (vs : List Value) (Ws : List (List Nat)) : Prop where
  heap : w.heap[bw]? = some (.cells vs.toArray 55 (0, 0))
  v12 : vs.length = 12
  w12 : Ws.length = 12
  aw : ∀ (j : Nat) (v : Value), vs[j]? = some v → Aw F w v (Ws.getD j [])
  apart : ∀ (j : Nat) (v : Value), vs[j]? = some v → ∀ g, v.ownBlock = some g → g ≠ bw
  off : ¬ F bw
theorem Want.lt {F : Nat → Prop} {w : World} {bw : Nat} {vs : List Value} {Ws : List (List Nat)} (h : Want F w bw vs Ws) : bw < w.heap.size := (Array.getElem?_eq_some_iff.1 h.heap).1
theorem Want.step {F F' : Nat → Prop} {w w' : World} {bw : Nat} {vs : List Value} {Ws : List (List Nat)} (h : Want F w bw vs Ws) (s : Step F w F' w') : Want F' w' bw vs Ws :=
  ⟨by rw [s.upd.block bw h.lt h.off]; exact h.heap, h.v12, h.w12, fun j v hv => (h.aw j v hv).step s, h.apart, fun hf => by
    rcases s.sub bw hf with h1 | h1
    · exact h.off h1
    · have := h.lt; omega⟩
theorem Want.keep {F : Nat → Prop} {w w' : World} {bw : Nat} {vs : List Value} {Ws : List (List Nat)} (h : Want F w bw vs Ws) (g : w.grownBy w' none) : Want F w' bw vs Ws := h.step (Step.new g)
theorem Want.cell {F : Nat → Prop} {w : World} {bw : Nat} {vs : List Value} {Ws : List (List Nat)} (h : Want F w bw vs Ws) {j : Nat} (hj : j < 12) : ∃ v, vs[j]? = some v ∧ w.cell? ⟨bw, j, none⟩ = some v ∧ w.frozen? ⟨bw, j, none⟩ = false ∧ Aw F w v (Ws.getD j []) := by
  have hv := List.getElem?_eq_getElem (show j < vs.length by rw [h.v12]; exact hj)
  exact ⟨_, hv, topCell h.heap (by rw [List.getElem?_toArray]; exact hv), topFrozen j h.heap, h.aw j _ hv⟩
theorem Aw.kept {F : Nat → Prop} {w w' : World} {v : Value} {xs : List Nat} {bw : Nat} (h : Aw F w v xs) (g : w.grownBy w' (some bw)) (hn : ∀ g, v.ownBlock = some g → g ≠ bw) : Aw F w' v xs :=
  ⟨h.vec.kept g (.inr (fun e => by
    cases hv : v.ownBlock with
    | none => rw [hv] at e; cases e
    | some k => rw [hv] at e; exact hn k hv (Option.some.inj e))), h.off⟩
theorem Want.set {F : Nat → Prop} {w : World} {bw : Nat} {vs : List Value} {Ws : List (List Nat)} (h : Want F w bw vs Ws) {j : Nat} (hj : j < 12) {v : Value} {xs : List Nat} (hv : Aw F w v xs) (hn : ∀ g, v.ownBlock = some g → g ≠ bw) : Want F (w.setCell ⟨bw, j, none⟩ v) bw (vs.set j v) (Ws.set j xs) := by
  have g := grown_set w bw j v
  have h12 := h.v12
  have w12 := h.w12
  have hs : ∀ (i : Nat) (u : Value), (vs.set j v)[i]? = some u → (i = j ∧ u = v) ∨ (i ≠ j ∧ vs[i]? = some u) := fun i u hu => by
    by_cases c : j = i
    · subst c
      rw [List.getElem?_set, if_pos rfl, if_pos (by omega)] at hu
      exact .inl ⟨rfl, (Option.some.inj hu).symm⟩
    · rw [List.getElem?_set, if_neg c] at hu
      exact .inr ⟨Ne.symm c, hu⟩
  refine ⟨by rw [heap_setCell_same _ _ _ _ _ _ h.heap]; simp, by simpa using h.v12, by simpa using h.w12, fun i u hu => ?_, fun i u hu => ?_, h.off⟩
  · rcases hs i u hu with ⟨rfl, rfl⟩ | ⟨hne, hu⟩
    · have e : (Ws.set i xs).getD i [] = xs := by simp [List.getD, List.getElem?_set, show i < Ws.length by omega]
      rw [e]
      exact hv.kept g hn
    · have e : (Ws.set j xs).getD i [] = Ws.getD i [] := by simp only [List.getD]; rw [List.getElem?_set_ne (Ne.symm hne)]
      rw [e]
      exact (h.aw i u hu).kept g (h.apart i u hu)
  · rcases hs i u hu with ⟨rfl, rfl⟩ | ⟨hne, hu⟩
    · exact hn
    · exact h.apart i u hu

/-- The first m of the twelve are noughts. -/
def filled (m : Nat) : List (List Nat) := List.replicate m (fl 0) ++ List.replicate (12 - m) []
theorem filled_zero : filled 0 = List.replicate 12 [] := rfl
theorem filled_all : filled 12 = List.replicate 12 (fl 0) := by simp only [filled, Nat.sub_self, List.replicate_zero, List.append_nil]
theorem fillW_step {m : Nat} (h : m < 12) : (filled m).set m (fl 0) = filled (m + 1) := by
  unfold filled
  obtain ⟨k, hk⟩ : ∃ k, 12 - m = k + 1 := ⟨12 - m - 1, by omega⟩
  rw [hk, show 12 - (m + 1) = k by omega, List.set_append_right _ _ (by simp)]
  rw [List.length_replicate, Nat.sub_self, List.replicate_succ (n := k), List.set_cons_zero, List.replicate_succ' (n := m), List.append_assoc]
  rfl

/-- The array, and what is kept beside it. -/
structure KI (w0 w : World) (a bw : Nat) (F : Nat → Prop) (vs : List Value) (R : AM.Raw) (Ws : List (List Nat)) : Prop where
  is : Is F w a R
  base : Base w0 F w
  want : Want F w bw vs Ws
  lo : w0.heap.size ≤ bw
theorem KI.step {w0 w w' : World} {a bw : Nat} {F F' : Nat → Prop} {vs : List Value} {R R' : AM.Raw} {Ws : List (List Nat)} (h : KI w0 w a bw F vs R Ws) (hi : Is F' w' a R') (s : Step F w F' w') : KI w0 w' a bw F' vs R' Ws := ⟨hi, h.base.step s, h.want.step s, h.lo⟩
theorem KI.keep {w0 w w' : World} {a bw : Nat} {F : Nat → Prop} {vs : List Value} {R : AM.Raw} {Ws : List (List Nat)} (h : KI w0 w a bw F vs R Ws) (g : w.grownBy w' none) : KI w0 w' a bw F vs R Ws := ⟨h.is.keep g, h.base.keep g, h.want.keep g, h.lo⟩
theorem KI.set {w0 w : World} {a bw : Nat} {F : Nat → Prop} {vs : List Value} {R : AM.Raw} {Ws : List (List Nat)} (h : KI w0 w a bw F vs R Ws) {j : Nat} (hj : j < 12) {v : Value} {xs : List Nat} (hv : Aw F w v xs) (hn : ∀ g, v.ownBlock = some g → g ≠ bw) : KI w0 (w.setCell ⟨bw, j, none⟩ v) a bw F (vs.set j v) R (Ws.set j xs) :=
  ⟨h.is.apart (grown_set w bw j v) h.want.off, ⟨grown_new h.base.grown (grown_set w bw j v) (fun i e => by have := Option.some.inj e; have := h.lo; omega), h.base.lo⟩, h.want.set hj hv hn, h.lo⟩
theorem ki_start {w0 w : World} {a : Nat} {F : Nat → Prop} {R : AM.Raw} (hi : Is F w a R) (hb : Base w0 F w) {w' : World} (e : w' = w.alloc (.cells (List.replicate 12 (Value.slice none 0 0)).toArray 55)) : KI w0 w' a w.heap.size F (List.replicate 12 (.slice none 0 0)) R (List.replicate 12 []) := by
  subst e
  have g : w.grownBy (w.alloc (.cells (List.replicate 12 (Value.slice none 0 0)).toArray 55)) none := World.grownBy_alloc _ _ none
  refine ⟨hi.keep g, hb.keep g, ⟨heap_alloc_new w _, by simp, by simp, fun j v hv => ?_, fun j v hv => ?_, fun hf => by have := hi.lt _ hf; omega⟩, hb.grown.size⟩
  · obtain ⟨hj, rfl⟩ := List.getElem?_eq_some_iff.1 hv
    have hj' : j < 12 := by simpa using hj
    have e : (List.replicate 12 ([] : List Nat)).getD j [] = [] := by
      simp only [List.getD]
      rw [List.getElem?_replicate, if_pos hj']
      rfl
    rw [e, List.getElem_replicate]
    exact ⟨(Own.nil 0 _).vec, fun _ g hg => by cases hg⟩
  · obtain ⟨hj, rfl⟩ := List.getElem?_eq_some_iff.1 hv
    rw [List.getElem_replicate]
    intro g hg
    cases hg
end Go.Proofs.Ytfmlohedebdomaa
