/- Packed: PA8, PB8, Data8, KnP8, Nil8, New8, RBar6. -/
import Derived.Deep.RegionHeld3
import Derived.BigRegion
import Derived.Test.YtfjlpifaaknmpaaGreatSk1
import Derived.Test.YtfjlpifaaknmpaaGreatSk2
import Derived.Test.YtfjlpifaaknmpaaGreatSk3
import Derived.Test.YtfjlpifaaknmpaaGreatSk4
import Derived.Test.YtfjlpifaaknmpaaGreatSk5
import Derived.Test.YtfjlpifaaknmpaaGreatSk6
import Derived.Test.YtfjlpifaaknmpaaGreatSk7
import Derived.Test.YtfjlpifaaknmpaaGreatSk8
import Derived.Test.YtfjlpifaaknmpaaGreatSk9
import Derived.Test.YtfjlpifaaknmpaaGreatSk10
import Derived.Test.YtfjlpifaaknmpaaGreatSk11
import Derived.Test.YtfjlpifaaknmpaaGreatSk14
import Derived.Test.YtfjlpifaaknmpaaGreatSk15
import Derived.Test.YtfjlpifaaknmpaaGreatSk16
import Derived.Test.YtfjlpifaaknmpaaGreatSk17
import Derived.Test.YtfjlpifaaknmpaaGreatSk18
import Derived.Test.YtfjlpifaaknmpaaGreatSk19
import Derived.Test.YtfjlpifaaknmpaaGreatSk20
import Derived.Test.YtfjlpifaaknmpaaGreatSk12
import Derived.Test.YtfjlpifaaknmpaaGreatSk13
import Derived.Deep.QuietTactic
import Derived.BigQuiet
/- A segment that was written: what is read of it, whichever disks are left. No text of the program is named. -/
set_option linter.unusedSimpArgs false
set_option linter.unusedVariables false
set_option maxRecDepth 100000
namespace Go.Proofs.YtfjlpifaaknmpaaGreat
namespace SP

/-- On each disk that is on the slot holds the chunk of xs under the stamp m. -/
def Wrote (R : AM.Raw) (g : Geo) (slot m : Nat) (xs : List Nat) : Prop := ∀ d, d < g.n → R.on (d : Int) = true → ∀ i, i < 8 → cont R.C g slot d i = (CM.secs m ((code g xs).getD d []) 8).getD i []
theorem sectTo_cont {R : AM.Raw} {g : Geo} {slot d : Nat} {S : List (List Nat)} (hS : S.length = 8) (h : ∀ i, i < 8 → cont R.C g slot d i = S.getD i []) : sectTo R g slot d 8 = S := by
  apply List.ext_getElem
  · rw [sectTo_len, hS]
  · intro i h1 h2
    rw [sectTo_len] at h1
    have := h i h1
    simp only [sectTo, List.getElem_map, List.getElem_range]
    unfold cont at this
    rw [this]
    simp [List.getD, h2]
theorem Wrote.sects {R : AM.Raw} {g : Geo} {slot m : Nat} {xs : List Nat} (h : Wrote R g slot m xs) {d : Nat} (hd : d < g.n) (ho : R.on (d : Int) = true) : sects R g slot d = CM.secs m ((code g xs).getD d []) 8 := by
  rw [sects_on ho]
  exact sectTo_cont (CM.secs_len _ _ _) (h d hd ho)
theorem fit448 {m : Nat} {E : List Nat} (hm : m ≠ 0) (hE : E.length = 448) : CM.fit m E = true ∧ CM.putS m E = CM.secs m E 8 := by
  have hf : CM.fit m E = true := CM.fit_iff.2 ⟨hm, by omega, by omega, by omega⟩
  exact ⟨hf, by unfold CM.putS; rw [if_pos hf, hE]⟩
theorem Wrote.chunk {R : AM.Raw} {g : Geo} {slot m : Nat} {xs : List Nat} (h : Wrote R g slot m xs) (hm : m ≠ 0) (hm2 : m < 256 ^ 8) {d : Nat} (hd : d < g.n) (ho : R.on (d : Int) = true) :
    yesD R g slot d = true ∧ numD R g slot d = m ∧ datD R g slot d = (code g xs).getD d [] := by
  have hE := code_row g xs hd
  obtain ⟨hf, hp⟩ := fit448 hm hE
  have := CM.put_take hm2 hf
  rw [hp] at this
  unfold yesD numD datD
  rw [h.sects hd ho]
  exact this
theorem Wrote.yes {R : AM.Raw} {g : Geo} {slot m : Nat} {xs : List Nat} (h : Wrote R g slot m xs) (hm : m ≠ 0) (hm2 : m < 256 ^ 8) {d : Nat} (hd : d < g.n) : yesD R g slot d = R.on (d : Int) := by
  cases ho : R.on (d : Int)
  · unfold yesD; rw [sects_off ho]; simp [CM.yes]
  · exact (h.chunk hm hm2 hd ho).1
theorem Wrote.has {R : AM.Raw} {g : Geo} {slot m : Nat} {xs : List Nat} (h : Wrote R g slot m xs) (hm : m ≠ 0) (hm2 : m < 256 ^ 8) {d : Nat} (hd : d < g.n) : has R g slot m d = R.on (d : Int) := by
  unfold SP.has
  rw [h.yes hm hm2 hd]
  cases ho : R.on (d : Int)
  · rfl
  · simp [(h.chunk hm hm2 hd ho).2.1]
theorem countP_get {α : Type} (p : α → Bool) (l : List (Option α)) : ∀ j, j ≤ l.length → ((List.range j).filter (fun d => (l.getD d none).isSome)).length = (l.take j).countP (·.isSome)
  | 0, _ => by simp
  | j + 1, hj => by
    rw [List.range_succ, List.filter_append, List.length_append, countP_get p l j (by omega), List.take_succ_eq_append_getElem (by omega), List.countP_append]
    congr 1
    have e : l.getD j none = l[j] := by simp [List.getD, show j < l.length from by omega]
    have e2 : (List.filter (fun d => (l.getD d none).isSome) [j]) = if (l.getD j none).isSome then [j] else [] := by
      cases h : (l.getD j none).isSome <;> simp only [List.filter_cons, List.filter_nil, h] <;> simp
    rw [List.countP_singleton, e2, e]
    cases l[j] <;> simp
theorem ons_filter {R : AM.Raw} {g : Geo} (hg : g.Ok R) : ((List.range g.n).filter (fun d : Nat => R.on (d : Int))).length = R.ons := by
  have e : (fun d : Nat => R.on (d : Int)) = fun d : Nat => (R.C.getD d none).isSome := by funext d; exact on_iff_C
  rw [e, countP_get (fun _ => true) R.C g.n (by rw [hg.len]; omega)]
  unfold AM.Raw.ons
  rw [List.take_of_length_le (by rw [hg.len]; omega)]
theorem Wrote.hits {R : AM.Raw} {g : Geo} {slot m : Nat} {xs : List Nat} (h : Wrote R g slot m xs) (hg : g.Ok R) (hm : m ≠ 0) (hm2 : m < 256 ^ 8) : (hits R g slot m g.n).length = R.ons := by
  rw [← ons_filter hg]
  unfold SP.hits
  congr 1
  apply List.filter_congr
  intro d hd
  exact h.has hm hm2 (List.mem_range.1 hd)
/-- What is read. -/
theorem Wrote.read {R : AM.Raw} {g : Geo} {slot : Nat} {m : Nat} {xs : List Nat} (h : Wrote R g slot m xs) (hg : g.Ok R) (hm : m ≠ 0) (hm2 : m < 256 ^ 8) (hx : ∀ x ∈ xs, x < 256) (hl : xs.length = g.k * 448) (h0 : R.off = false) (hs : slot < g.s)
    {out : List Nat} {e : Nat} (hr : RdP R g (slot : Int) m out e) : (g.k ≤ R.ons → out = xs ∧ e = 0) ∧ (R.ons < g.k → out = [] ∧ e = 20) := by
  have hy : why R g (slot : Int) = 0 := by
    unfold why
    rw [h0]
    simp only [Bool.false_eq_true, if_false]
    rw [if_pos ⟨by omega, by omega⟩]
  have hh := h.hits hg hm hm2
  unfold RdP at hr
  rw [Int.toNat_natCast] at hr
  rcases hr with ⟨a1, _, _⟩ | ⟨_, a2, _⟩ | ⟨_, _, a3, rfl, rfl⟩ | ⟨_, _, a3, rfl, P, a, hP, rfl⟩
  · exact absurd hy a1
  · exact absurd a2 hm
  · exact ⟨fun h1 => by omega, fun _ => ⟨rfl, rfl⟩⟩
  · refine ⟨fun _ => ⟨?_, rfl⟩, fun h1 => by omega⟩
    obtain ⟨_, rfl⟩ := dec_is hg a3 hP (parts_shape hl) (parts_small hx _) (fun d hd hd' => by
      rw [h.has hm hm2 hd] at hd'
      rw [(h.chunk hm hm2 hd hd').2.2, code_get g xs hd])
    exact parts_all hl
theorem mark_secs {m : Nat} (hm2 : m < 256 ^ 8) (E : List Nat) : (CM.secs m E 8).map (fun b => SM.val b 8) = List.replicate 8 m := by
  rw [List.eq_replicate_iff]
  refine ⟨by simp [CM.secs], fun b hb => ?_⟩
  obtain ⟨c, hc, rfl⟩ := List.mem_map.1 hb
  unfold CM.secs at hc
  obtain ⟨i, _, rfl⟩ := List.mem_map.1 hc
  exact SM.val_sec hm2 _
theorem mem_markTo {R : AM.Raw} {g : Geo} {slot j y : Nat} (h : y ∈ markTo R g slot j) : ∃ d, d < j ∧ y ∈ marks R g slot d := by
  unfold markTo at h
  obtain ⟨d, hd, hy⟩ := List.mem_flatMap.1 h
  exact ⟨d, List.mem_range.1 hd, hy⟩
theorem Wrote.high {R : AM.Raw} {g : Geo} {slot m : Nat} {xs : List Nat} (h : Wrote R g slot m xs) (hm2 : m < 256 ^ 8) {d : Nat} (hd : d < g.n) (ho : R.on (d : Int) = true) : high R g slot = m := by
  unfold SP.high
  apply Nat.le_antisymm
  · refine top_le fun y hy => ?_
    obtain ⟨e, he, hy⟩ := mem_markTo hy
    unfold marks at hy
    cases ho' : R.on (e : Int)
    · rw [sects_off ho'] at hy; simp at hy
    · rw [h.sects he ho', mark_secs hm2] at hy
      rw [(List.mem_replicate.1 hy).2]
      exact Nat.le_refl _
  · refine le_top ?_
    unfold markTo
    refine List.mem_flatMap.2 ⟨d, List.mem_range.2 hd, ?_⟩
    unfold marks
    rw [h.sects hd ho, mark_secs hm2]
    simp
theorem Wrote.stamps {R : AM.Raw} {g : Geo} {slot m : Nat} {xs : List Nat} (h : Wrote R g slot m xs) (hg : g.Ok R) (hm : m ≠ 0) (hm2 : m < 256 ^ 8) : stampTo R g slot g.n = List.replicate R.ons m := by
  rw [List.eq_replicate_iff]
  constructor
  · rw [← ons_filter hg]
    unfold stampTo
    rw [List.length_map]
    congr 1
    apply List.filter_congr
    intro d hd
    exact h.yes hm hm2 (List.mem_range.1 hd)
  · intro y hy
    unfold stampTo at hy
    obtain ⟨d, hd, rfl⟩ := List.mem_map.1 hy
    obtain ⟨h1, h2⟩ := List.mem_filter.1 hd
    exact (h.chunk hm hm2 (List.mem_range.1 h1) (yes_on h2)).2.1
theorem top_replicate (m : Nat) : ∀ n, 1 ≤ n → top (List.replicate n m) = m := fun n hn => by
  apply Nat.le_antisymm
  · exact top_le fun x hx => by rw [(List.mem_replicate.1 hx).2]; exact Nat.le_refl _
  · exact le_top (List.mem_replicate.2 ⟨by omega, rfl⟩)
theorem Wrote.whole {R : AM.Raw} {g : Geo} {slot m : Nat} {xs : List Nat} (h : Wrote R g slot m xs) (hg : g.Ok R) (hm : m ≠ 0) (hm2 : m < 256 ^ 8) : whole R g slot = if g.k ≤ R.ons then m else 0 := by
  unfold SP.whole often
  rw [h.stamps hg hm hm2]
  have k1 := hg.k1
  by_cases c : g.k ≤ R.ons
  · rw [if_pos c]
    have e : (List.replicate R.ons m).filter (fun y => decide (g.k ≤ (List.replicate R.ons m).count y)) = List.replicate R.ons m := by
      rw [List.filter_eq_self]
      intro y hy
      obtain rfl := (List.mem_replicate.1 hy).2
      rw [List.count_replicate_self]
      exact decide_eq_true c
    rw [e]
    exact top_replicate m _ (by omega)
  · rw [if_neg c]
    have e : (List.replicate R.ons m).filter (fun y => decide (g.k ≤ (List.replicate R.ons m).count y)) = [] := by
      rw [List.filter_eq_nil_iff]
      intro y hy
      obtain rfl := (List.mem_replicate.1 hy).2
      rw [List.count_replicate_self]
      simpa using c
    rw [e]
    rfl

theorem code_small {g : Geo} {xs : List Nat} {m : Nat} (hg : ∀ x ∈ xs, x < 256) : ∀ d i, i < 8 → ∀ x ∈ (CM.secs m ((code g xs).getD d []) 8).getD i [], x < 256 := fun d i hi x hx => by
  rw [CM.secs_get m _ hi] at hx
  refine SM.sec_small (CM.ld_small (fun y hy => ?_) i) x hx
  by_cases hd : d < g.n
  · rw [code_get g xs hd] at hy
    unfold codeRow at hy
    obtain ⟨t, _, rfl⟩ := List.mem_map.1 hy
    unfold codeAt
    refine MX.xs_lt fun j _ => ?_
    exact M.mul_lt _ (MX.gen_lt _ _ _)
  · have : (code g xs).getD d [] = [] := by
      have := code_len g xs
      simp [List.getD, show (code g xs).length ≤ d from by omega]
    rw [this] at hy
    simp at hy
/-- A Write that is not in the way of anything. -/
theorem write_sure {R : AM.Raw} {g : Geo} (ok : R.Ok) (hg : g.Ok R) {slot m : Nat} (hs : slot < g.s) (h0 : R.off = false) (hf : R.fuse = 0) (hm : m ≠ 0) {xs : List Nat} (hx : ∀ x ∈ xs, x < 256) (hl : xs.length = g.k * 448) (ho : g.k ≤ R.ons) :
    (write R g (slot : Int) m xs).1 = 0 ∧ Wrote (write R g (slot : Int) m xs).2 g slot m xs ∧ (write R g (slot : Int) m xs).2.off = false ∧ (write R g (slot : Int) m xs).2.fuse = 0 ∧ (write R g (slot : Int) m xs).2.Ok := by
  have hy : why R g (slot : Int) = 0 := by
    unfold why
    rw [h0]
    simp only [Bool.false_eq_true, if_false]
    rw [if_pos ⟨by omega, by omega⟩]
  have e : write R g (slot : Int) m xs = wrTo R g slot m (code g xs) g.n := by
    unfold write
    rw [if_neg (by omega), if_neg (by omega), if_neg (by omega), Int.toNat_natCast]
  rw [e]
  obtain ⟨h1, h2, h3⟩ := wrTo_sure hg hs h0 hf (m := m) (E := code g xs) (fun d hd => code_row g xs hd) g.n (Nat.le_refl _)
  obtain ⟨h4, h5⟩ := wrTo_done ok (g := g) (slot := slot) (m := m) (E := code g xs) (code_small hx) g.n h1
  have hk := wrTo_kept R g slot m (code g xs) g.n
  refine ⟨h1, fun d hd hon i hi => ?_, h2, h3, h4⟩
  rw [hk.on] at hon
  rw [h5 d i hi, if_pos ⟨hd, hon⟩]
/-- A disk is lost. -/
theorem Wrote.lose {R : AM.Raw} {g : Geo} {slot m : Nat} {xs : List Nat} (h : Wrote R g slot m xs) (d : Int) : Wrote (R.lose d).2 g slot m xs := by
  unfold AM.Raw.lose
  split
  · exact h
  · split
    · intro e he ho i hi
      have hne : e ≠ d.toNat := fun c => by
        subst c
        rw [on_iff_C] at ho
        simp only [AM.Raw.lost] at ho
        by_cases hl : d.toNat < R.C.length
        · simp [List.getD, hl] at ho
        · simp [List.getD, hl] at ho
      have eC : (R.C.set d.toNat none).getD e none = R.C.getD e none := by simp [List.getD, Ne.symm hne]
      have ho' : R.on (e : Int) = true := by
        rw [on_iff_C] at ho ⊢
        simp only [AM.Raw.lost] at ho
        rwa [eC] at ho
      have := h e he ho' i hi
      unfold cont AM.look at this ⊢
      simp only [AM.Raw.lost]
      rw [eC]
      exact this
    · exact h
end SP
end Go.Proofs.YtfjlpifaaknmpaaGreat

/- Disks that are lost; what awake comes to. No text of the program is named. -/
set_option linter.unusedSimpArgs false
set_option linter.unusedVariables false
set_option maxRecDepth 100000
namespace Go.Proofs.YtfjlpifaaknmpaaGreat
namespace SP

theorem lose_C (R : AM.Raw) (d : Int) : (R.lose d).2.C = R.C ∨ (R.lose d).2.C = R.C.set d.toNat none := by
  unfold AM.Raw.lose
  split
  · exact .inl rfl
  · split
    · exact .inr rfl
    · exact .inl rfl
theorem lose_geo {R : AM.Raw} {g : Geo} (h : g.Ok R) (d : Int) : g.Ok (R.lose d).2 := by
  have hn : (R.lose d).2.n = R.n := by
    unfold AM.Raw.lose
    split
    · rfl
    · split <;> rfl
  refine ⟨h.k1, h.kn, h.n255, h.s1, h.s2, by rw [hn]; exact h.room, ?_⟩
  rcases lose_C R d with e | e <;> rw [e]
  · exact h.len
  · rw [List.length_set]; exact h.len
theorem lose_off (R : AM.Raw) (d : Int) : (R.lose d).2.off = R.off := by
  unfold AM.Raw.lose
  split
  · rfl
  · split <;> rfl
theorem lose_L (R : AM.Raw) (d : Int) : (R.lose d).2.L.length ≤ R.L.length := by
  unfold AM.Raw.lose
  split
  · simp
  · split
    · exact List.length_filter_le _ _
    · simp
/-- A disk that is on is lost. -/
theorem lose_yes {R : AM.Raw} {d : Nat} (h : R.on (d : Int) = true) : (R.lose (d : Int)).1 = 0 ∧ ∀ e : Nat, (R.lose (d : Int)).2.on (e : Int) = (R.on (e : Int) && !(e == d)) := by
  obtain ⟨h1, h2, _⟩ := AM.on_iff h
  have hf : R.find (d : Int) = 0 := by unfold AM.Raw.find; rw [if_pos ⟨h1, h2⟩]
  unfold AM.Raw.lose
  rw [if_neg (by omega), if_pos h]
  refine ⟨rfl, fun e => ?_⟩
  rw [on_iff_C, on_iff_C]
  simp only [AM.Raw.lost, Int.toNat_natCast]
  by_cases c : e = d
  · subst c
    have hl : e < R.C.length := by omega
    simp [List.getD, hl]
  · simp [List.getD, Ne.symm c, c]
theorem write_len {R : AM.Raw} {g : Geo} (slot : Int) (m : Nat) (xs : List Nat) (hL : ∀ R' : AM.Raw, ∀ (d k : Int) (b : List Nat), (R'.writes d k b).2.L.length ≤ R'.L.length + 1) : (write R g slot m xs).2.L.length ≤ R.L.length + 8 * g.n := by
  have lt : ∀ (R : AM.Raw) (s d : Nat) (S : List (List Nat)) (j : Nat), (layTo R g s d S j).2.L.length ≤ R.L.length + j := by
    intro R s d S j
    induction j with
    | zero => simp [layTo]
    | succ j ih =>
      unfold layTo
      split
      · have := hL (layTo R g s d S j).2 (d : Int) ((g.f + 8 * s + j : Nat) : Int) (S.getD j [])
        omega
      · omega
  have wt : ∀ (s : Nat) (E : List (List Nat)) (j : Nat), (wrTo R g s m E j).2.L.length ≤ R.L.length + 8 * j := by
    intro s E j
    induction j with
    | zero => simp [wrTo]
    | succ j ih =>
      unfold wrTo
      split
      · have := lt (wrTo R g s m E j).2 s j (CM.secs m (E.getD j []) 8) 8
        unfold lays
        omega
      · omega
  unfold write
  split
  · simp
  · split
    · simp
    · split
      · simp
      · exact wt _ _ _
theorem new_ok {N n : Nat} (h1 : 1 ≤ N) (h2 : N ≤ 255) (h3 : 1 ≤ n) (h4 : n ≤ 4096) : (AM.Raw.new N n).Ok ∧ (∀ d : Nat, (AM.Raw.new N n).on (d : Int) = decide (d < N)) := by
  refine ⟨(AM.sim_new h1 h2 h3 h4).ok, fun d => ?_⟩
  rw [on_iff_C]
  simp only [AM.Raw.new]
  by_cases c : d < N
  · simp [List.getD, c]
  · simp [List.getD, c]
theorem new_geo {k N S f n : Nat} (hn : n = f + 8 * S) (h1 : 1 ≤ k) (h2 : k < N) (h3 : N ≤ 255) (h4 : 1 ≤ S) (h5 : S ≤ 128) : Geo.Ok ⟨k, N, S, f⟩ (AM.Raw.new N n) :=
  ⟨h1, h2, h3, h4, h5, by show f + 8 * S ≤ n; omega, by simp [AM.Raw.new]⟩
theorem new_ons {N n : Nat} {g : Geo} (hg : g.Ok (AM.Raw.new N n)) (h : g.n = N) (h1 : 1 ≤ N) (h2 : N ≤ 255) (h3 : 1 ≤ n) (h4 : n ≤ 4096) : (AM.Raw.new N n).ons = N := by
  rw [← ons_filter hg, h]
  have e : (List.range N).filter (fun d : Nat => (AM.Raw.new N n).on (d : Int)) = List.range N := by
    rw [List.filter_eq_self]
    intro d hd
    rw [(new_ok h1 h2 h3 h4).2]
    exact decide_eq_true (List.mem_range.1 hd)
  rw [e, List.length_range]
end SP
end Go.Proofs.YtfjlpifaaknmpaaGreat

/- The contract of hayricklaw08.Data. -/
set_option linter.unusedSimpArgs false
set_option linter.unusedVariables false
set_option maxRecDepth 100000
namespace Go.Proofs.YtfjlpifaaknmpaaGreat
open Go.RowKit

/-- A segment's bytes from x on. -/
def dat8 (x i : Nat) : Nat := (x + i % 251 + i / 448) % 256
def datL (k x : Nat) : List Nat := (List.range (k * 448)).map (dat8 x)
theorem datL_len (k x : Nat) : (datL k x).length = k * 448 := by simp [datL]
theorem datL_small (k x : Nat) : ∀ y ∈ datL k x, y < 256 := fun y hy => by
  unfold datL at hy
  obtain ⟨i, _, rfl⟩ := List.mem_map.1 hy
  unfold dat8
  omega
def datTo (k x j : Nat) : List Nat := (List.range (k * 448)).map fun i => if i < j then dat8 x i else 0
theorem datTo_zero (k x : Nat) : datTo k x 0 = List.replicate (k * 448) 0 := by
  apply List.ext_getElem
  · simp [datTo]
  · intro i h1 h2
    simp [datTo]
theorem datTo_all (k x : Nat) : datTo k x (k * 448) = datL k x := by
  unfold datTo datL
  apply List.map_congr_left
  intro i hi
  rw [if_pos (List.mem_range.1 hi)]
theorem datTo_succ (k x : Nat) {j : Nat} (h : j < k * 448) : (datTo k x j).set j (dat8 x j) = datTo k x (j + 1) := by
  apply List.ext_getElem
  · simp [datTo]
  · intro i h1 h2
    simp only [datTo, List.getElem_set, List.getElem_map, List.getElem_range]
    by_cases c : j = i
    · subst c; simp
    · rw [if_neg c]
      by_cases c2 : i < j
      · rw [if_pos c2, if_pos (by omega)]
      · rw [if_neg c2, if_neg (by omega)]

set_option maxHeartbeats 3200000 in
theorem data_yes (w : World) {k x : Nat} (hk : 1 ≤ k) (hk2 : k ≤ 255) (hx : x < 256) :
    Calls Tryz.prog 10 #[.int .i64 (k : Int), .int .u8 (x : Int)] w fun e w' => ∃ p n c, e = .returned (.slice p n c) ∧ Own w.heap.size w' (.slice p n c) (datL k x) ∧ w.grownBy w' none := by
  obtain ⟨n, hn⟩ : ∃ n, n = k * 448 := ⟨_, rfl⟩
  have hw : IntKind.i64.wrap ((k : Int) * 448) = (n : Int) := by
    have e : (k : Int) * 448 = (n : Int) := by omega
    rw [e]
    exact IntWalk.i64_in _ (by omega)
  have hnl : n ≤ 200000 := by omega
  have HN : Hid (n = k * 448 ∧ k ≤ 255) := ⟨hn, hk2⟩
  clear hn hk hk2
  go_enter Tryz.func10, Tryz.ntmps10
  go_wp2_with (at_make; refine wpList_make_vec rfl _ _ rfl n rfl rfl (by omega) ?_; intro w1 p o1 g1; have O1 : Hid (Own w.heap.size w1 (.slice p n n) (List.replicate n 0)) := o1; have G1 : Hid (w.grownBy w1 none) := g1; clear o1 g1)
  clear hw
  go_loopw [12] (fun ti wr => ∃ j : Nat, j ≤ n ∧ ti = .int .i64 j ∧ Hid (Own w.heap.size wr (.slice p n n) (datTo k x j)) ∧ Hid (w.grownBy wr none)) (fun ti _ => n - (intOf ti).toNat)
  case atStart => exact ⟨0, by omega, rfl, by rw [datTo_zero, ← HN.out.1]; exact O1.out, G1⟩
  case round =>
    clear O1 G1
    obtain ⟨j, hj, rfl, OK, GK⟩ := hrel
    by_cases hlt : j < n
    · have i3 : (j : Int) < (n : Int) := by omega
      have i4 : (0 : Int) ≤ (j : Int) := by omega
      have hlo := OK.out.lo
      obtain ⟨b, hpb, _, hr, hf, hb, hset, hgr⟩ := OK.out.spot (k := j) (by have := HN.out; simp [datTo]; omega)
      subst hpb
      have HLO : Hid (w.heap.size ≤ b) := hlo b rfl
      have HS : Hid (∀ z : Nat, z < 256 → Own w.heap.size (wr.setCell ⟨b, j, none⟩ (.int .u8 (z : Int))) (.slice (some ⟨b, 0, none⟩) n n) ((datTo k x j).set j z)) := hset
      have HG : Hid (∀ u, wr.grownBy (wr.setCell ⟨b, j, none⟩ u) (some b)) := hgr
      clear hlo hset hgr hb OK
      go_wp2
      have HV : ((x : Int) + (j : Int) % 251 + (j : Int) / 448) % 256 = ((dat8 x j : Nat) : Int) := by unfold dat8; omega
      rw [HV]
      go_roundw
      case rel => exact ⟨j + 1, by omega, by go_num, (by
        have h1 := HS.out (dat8 x j) (by unfold dat8; omega)
        rw [datTo_succ k x (by have := HN.out; omega)] at h1
        exact h1), grown_new GK.out (HG.out _) (fun i e => by have := Option.some.inj e; have := HLO.out; omega)⟩
      case measure => simp [intOf]; omega
    · have i3 : ¬ (j : Int) < (n : Int) := by omega
      have hjn : Hid (j = k * 448) := by show _ = _; have := HN.out; omega
      go_wp2
      go_ret
      exact ⟨_, _, _, rfl, by rw [← datTo_all, ← hjn.out]; exact OK.out, GK.out⟩
end Go.Proofs.YtfjlpifaaknmpaaGreat

/- What StripeKnown comes to: plain facts. No text of the program is named. -/
set_option linter.unusedSimpArgs false
set_option linter.unusedVariables false
set_option maxRecDepth 100000
namespace Go.Proofs.YtfjlpifaaknmpaaGreat
namespace SP
theorem why_ok {R : AM.Raw} {g : Geo} {slot : Nat} (h0 : R.off = false) (hs : slot < g.s) : why R g (slot : Int) = 0 := by
  unfold why
  rw [h0]
  simp only [Bool.false_eq_true, if_false]
  rw [if_pos ⟨by omega, by omega⟩]
theorem why_no {R : AM.Raw} {g : Geo} {slot : Int} (h0 : R.off = false) (hs : ¬ (0 ≤ slot ∧ slot < (g.s : Int))) : why R g slot = 6 := by
  unfold why
  rw [h0]
  simp only [Bool.false_eq_true, if_false]
  rw [if_neg hs]
theorem rdp_err {R : AM.Raw} {g : Geo} {slot : Int} {m : Nat} {out : List Nat} {e : Nat} (h : RdP R g slot m out e) (hy : why R g slot ≠ 0) : e = why R g slot := by
  rcases h with ⟨_, _, h⟩ | ⟨h, _⟩ | ⟨h, _⟩ | ⟨h, _⟩
  · exact h
  · exact absurd h hy
  · exact absurd h hy
  · exact absurd h hy
theorem rdp_arg {R : AM.Raw} {g : Geo} {slot : Int} {out : List Nat} {e : Nat} (h : RdP R g slot 0 out e) (hy : why R g slot = 0) : e = 1 := by
  rcases h with ⟨h, _⟩ | ⟨_, _, _, h⟩ | ⟨_, h, _⟩ | ⟨_, h, _⟩
  · exact absurd hy h
  · exact h
  · exact absurd rfl h
  · exact absurd rfl h
theorem rdp_few {R : AM.Raw} {g : Geo} {slot : Nat} {m : Nat} {out : List Nat} {e : Nat} (h : RdP R g (slot : Int) m out e) (hy : why R g (slot : Int) = 0) (hm : m ≠ 0) (hh : (hits R g slot m g.n).length < g.k) : e = 20 := by
  unfold RdP at h
  rw [Int.toNat_natCast] at h
  rcases h with ⟨h, _⟩ | ⟨_, h, _⟩ | ⟨_, _, _, _, h⟩ | ⟨_, _, h, _⟩
  · exact absurd hy h
  · exact absurd h hm
  · exact h
  · omega
theorem Wrote.none {R : AM.Raw} {g : Geo} {slot m m' : Nat} {xs : List Nat} (h : Wrote R g slot m xs) (hm : m ≠ 0) (hm2 : m < 256 ^ 8) (hne : m' ≠ m) : (SP.hits R g slot m' g.n).length = 0 := by
  rw [List.length_eq_zero_iff]
  unfold SP.hits
  rw [List.filter_eq_nil_iff]
  intro d hd hc
  have hd' := List.mem_range.1 hd
  unfold SP.has at hc
  simp only [Bool.and_eq_true, beq_iff_eq] at hc
  rw [(h.chunk hm hm2 hd' (yes_on hc.1)).2.1] at hc
  exact hne hc.2.symm
end SP

def gK : SP.Geo := ⟨2, 3, 1, 0⟩
def QK0 : AM.Raw := AM.Raw.new 3 8
def QK1 : AM.Raw := (SP.write QK0 gK ((0 : Nat) : Int) 5 (datL 2 1)).2
def QK2 : AM.Raw := (QK1.lose ((0 : Nat) : Int)).2
def QK3 : AM.Raw := (QK2.lose ((1 : Nat) : Int)).2
def QK4 : AM.Raw := QK3.fused 1
def QK5 : AM.Raw := QK4.barrier.2
theorem gK_ok : gK.Ok QK0 := SP.new_geo (k := 2) (N := 3) (S := 1) (f := 0) (n := 8) rfl (by decide) (by decide) (by decide) (by decide) (by decide)
theorem qk0 : QK0.Ok ∧ QK0.ons = 3 ∧ ∀ d : Nat, QK0.on (d : Int) = decide (d < 3) := by
  have h := SP.new_ok (N := 3) (n := 8) (by decide) (by decide) (by decide) (by decide)
  exact ⟨h.1, SP.new_ons (N := 3) (n := 8) gK_ok rfl (by decide) (by decide) (by decide) (by decide), h.2⟩
theorem qk1 : (SP.write QK0 gK ((0 : Nat) : Int) 5 (datL 2 1)).1 = 0 ∧ SP.Wrote QK1 gK 0 5 (datL 2 1) ∧ QK1.off = false ∧ QK1.L.length ≤ 24 ∧ gK.Ok QK1 ∧ ∀ d : Nat, QK1.on (d : Int) = decide (d < 3) := by
  obtain ⟨h1, h2, h3, _, _⟩ := SP.write_sure qk0.1 gK_ok (slot := 0) (m := 5) (by decide) rfl rfl (by decide) (datL_small 2 1) (datL_len 2 1) (by rw [qk0.2.1]; decide)
  refine ⟨h1, h2, h3, ?_, gK_ok.kept (SP.write_kept _ _ _ _ _), fun d => ?_⟩
  · have := SP.write_len (R := QK0) (g := gK) ((0 : Nat) : Int) 5 (datL 2 1) writes_len8
    exact this
  · exact ((SP.write_kept QK0 gK ((0 : Nat) : Int) 5 (datL 2 1)).on (d : Int)).trans (qk0.2.2 d)
theorem qk2 : (QK1.lose ((0 : Nat) : Int)).1 = 0 ∧ SP.Wrote QK2 gK 0 5 (datL 2 1) ∧ QK2.off = false ∧ QK2.L.length ≤ 24 ∧ gK.Ok QK2 ∧ (∀ d : Nat, QK2.on (d : Int) = (decide (d < 3) && !(d == 0))) := by
  obtain ⟨_, h2, h3, h4, h5, h6⟩ := qk1
  obtain ⟨l1, l2⟩ := SP.lose_yes (R := QK1) (d := 0) (by rw [h6]; decide)
  exact ⟨l1, h2.lose _, (SP.lose_off _ _).trans h3, Nat.le_trans (SP.lose_L _ _) h4, SP.lose_geo h5 _, fun d => (l2 d).trans (by rw [h6])⟩
theorem qk3 : (QK2.lose ((1 : Nat) : Int)).1 = 0 ∧ QK3.off = false ∧ QK3.L.length ≤ 24 ∧ gK.Ok QK3 ∧ QK3.ons = 1 := by
  obtain ⟨_, h2, h3, h4, h5, h6⟩ := qk2
  obtain ⟨l1, l2⟩ := SP.lose_yes (R := QK2) (d := 1) (by rw [h6]; decide)
  have hon : ∀ d : Nat, QK3.on (d : Int) = ((decide (d < 3) && !(d == 0)) && !(d == 1)) := fun d => (l2 d).trans (by rw [h6])
  have hg : gK.Ok QK3 := SP.lose_geo h5 _
  refine ⟨l1, (SP.lose_off _ _).trans h3, Nat.le_trans (SP.lose_L _ _) h4, hg, ?_⟩
  rw [← SP.ons_filter hg]
  have e : (fun d : Nat => QK3.on (d : Int)) = fun d : Nat => ((decide (d < 3) && !(d == 0)) && !(d == 1)) := by funext d; exact hon d
  rw [e]
  decide
theorem fuse_bar {R : AM.Raw} {g : SP.Geo} (hg : g.Ok R) (h0 : R.off = false) : g.Ok (R.fused 1) ∧ (R.fused 1).barrier.1 = 8 ∧ (R.fused 1).barrier.2.off = true ∧ g.Ok (R.fused 1).barrier.2 := by
  have g4 : g.Ok (R.fused 1) := ⟨hg.k1, hg.kn, hg.n255, hg.s1, hg.s2, hg.room, hg.len⟩
  have e : (R.fused 1).barrier = (8, (R.fused 1).burnt) := by simp [AM.Raw.barrier, AM.Raw.burns, AM.Raw.fused, h0]
  refine ⟨g4, by rw [e], ?_, ?_⟩
  · rw [e]; simp [AM.Raw.burnt, AM.Raw.fused]
  · rw [e]; exact g4.kept (SP.burnt_kept _)
theorem qk4 : gK.Ok QK4 := (fuse_bar qk3.2.2.2.1 qk3.2.1).1
theorem qk5 : QK4.barrier.1 = 8 ∧ QK5.off = true ∧ gK.Ok QK5 := (fuse_bar qk3.2.2.2.1 qk3.2.1).2
theorem rk_a {out : List Nat} {e : Nat} (h : SP.RdP QK1 gK ((0 : Nat) : Int) 4 out e) : e = 20 :=
  SP.rdp_few h (SP.why_ok qk1.2.2.1 (by decide)) (by decide) (by rw [qk1.2.1.none (by decide) (by decide) (by decide)]; decide)
theorem rk_b {out : List Nat} {e : Nat} (h : SP.RdP QK1 gK ((0 : Nat) : Int) 0 out e) : e = 1 := SP.rdp_arg h (SP.why_ok qk1.2.2.1 (by decide))
theorem rk_c {out : List Nat} {e : Nat} (h : SP.RdP QK1 gK (-1) 5 out e) : e = 6 := by
  have hy := SP.why_no (g := gK) (slot := -1) qk1.2.2.1 (by decide)
  rw [SP.rdp_err h (by rw [hy]; decide), hy]
theorem rk_d {out : List Nat} {e : Nat} (h : SP.RdP QK1 gK 1 5 out e) : e = 6 := by
  have hy := SP.why_no (g := gK) (slot := 1) qk1.2.2.1 (by decide)
  rw [SP.rdp_err h (by rw [hy]; decide), hy]
theorem rk_e : SP.write QK1 gK ((0 : Nat) : Int) 0 (datL 2 1) = (1, QK1) := by
  unfold SP.write
  rw [if_neg (by rw [SP.why_ok qk1.2.2.1 (by decide)]; decide), if_pos (.inl rfl)]
theorem rk_f : SP.write QK1 gK ((0 : Nat) : Int) 6 [] = (1, QK1) := by
  unfold SP.write
  rw [if_neg (by rw [SP.why_ok qk1.2.2.1 (by decide)]; decide), if_pos (.inr (by decide))]
theorem whyD_k2 {d : Nat} (hd : d < 3) : SP.whyD QK2 gK (d : Int) ((0 : Nat) : Int) = 0 := by
  unfold SP.whyD
  rw [if_neg (by rw [SP.why_ok qk2.2.2.1 (by decide)]; decide), if_pos ⟨by omega, by show (d : Int) < 3; omega⟩]
theorem rk_g (xs : List Nat) (hl : xs.length = 448) : SP.put QK2 gK ((0 : Nat) : Int) ((0 : Nat) : Int) 5 xs = (9, QK2) := by
  unfold SP.put
  rw [if_neg (by rw [whyD_k2 (d := 0) (by decide)]; decide), if_neg (by rw [hl]; decide)]
  exact lays_off qk2.2.2.2.2.1 qk2.2.2.1 (by decide) (by decide) (qk2.2.2.2.2.2 0)
theorem rk_h (xs : List Nat) : SP.put QK2 gK 3 ((0 : Nat) : Int) 5 xs = (6, QK2) := by
  have hy : SP.whyD QK2 gK 3 ((0 : Nat) : Int) = 6 := by
    unfold SP.whyD
    rw [if_neg (by rw [SP.why_ok qk2.2.2.1 (by decide)]; decide), if_neg (by decide)]
  unfold SP.put
  rw [if_pos (by rw [hy]; decide), hy]
theorem rk_i (xs : List Nat) : SP.put QK2 gK ((0 : Nat) : Int) ((0 : Nat) : Int) 0 xs = (1, QK2) := by
  unfold SP.put
  rw [if_neg (by rw [whyD_k2 (d := 0) (by decide)]; decide), if_pos (.inl rfl)]
theorem rk_j : SP.hasE QK2 gK ((0 : Nat) : Int) ((0 : Nat) : Int) 5 = 0 ∧ SP.hasV QK2 gK ((0 : Nat) : Int) ((0 : Nat) : Int) 5 = false := by
  have h1 : SP.hasE QK2 gK ((0 : Nat) : Int) ((0 : Nat) : Int) 5 = 0 := by
    unfold SP.hasE
    rw [if_neg (by rw [whyD_k2 (d := 0) (by decide)]; decide), if_neg (by decide)]
  refine ⟨h1, ?_⟩
  have h2 : SP.yesD QK2 gK 0 0 = false := by
    rw [qk2.2.1.yes (by decide) (by decide) (by decide)]
    exact qk2.2.2.2.2.2 0
  unfold SP.hasV
  rw [Int.toNat_natCast, h2]
  simp
theorem rk_k : SP.hasE QK2 gK ((1 : Nat) : Int) ((0 : Nat) : Int) 5 = 0 ∧ SP.hasV QK2 gK ((1 : Nat) : Int) ((0 : Nat) : Int) 5 = true := by
  have h1 : SP.hasE QK2 gK ((1 : Nat) : Int) ((0 : Nat) : Int) 5 = 0 := by
    unfold SP.hasE
    rw [if_neg (by rw [whyD_k2 (d := 1) (by decide)]; decide), if_neg (by decide)]
  refine ⟨h1, ?_⟩
  have h2 := qk2.2.1.chunk (d := 1) (by decide) (by decide) (by decide) (qk2.2.2.2.2.2 1)
  unfold SP.hasV
  rw [h1, Int.toNat_natCast, Int.toNat_natCast, h2.1, h2.2.1]
  simp
theorem rk_l : SP.write QK3 gK ((0 : Nat) : Int) 6 (datL 2 1) = (20, QK3) := by
  unfold SP.write
  rw [if_neg (by rw [SP.why_ok qk3.2.1 (by decide)]; decide), if_neg (by rw [datL_len]; decide), if_pos (by rw [qk3.2.2.2.2]; decide)]
theorem rk_m : SP.why QK5 gK 9 = 8 := by
  unfold SP.why
  rw [qk5.2.1]
  rfl
end Go.Proofs.YtfjlpifaaknmpaaGreat

/- What none answers; Whole of a slot that can't be asked of. -/
set_option linter.unusedSimpArgs false
set_option linter.unusedVariables false
set_option maxRecDepth 100000
namespace Go.Proofs.YtfjlpifaaknmpaaGreat
open Go.RowKit

theorem sgeo_nil (w : World) : Calls Tryz.prog 8 #[.pointer none] w fun e w' => e = .returned (.agg #[.int .i64 0, .int .i64 0, .int .i64 0]) ∧ w.grownBy w' none := by
  have G0 : Hid (∀ V T, w.grownBy (w.alloc (.cells V T)) none) := fun V T => World.grownBy_alloc w _ none
  go_enter Tryz.func8, Tryz.ntmps8
  go_wp2_with (go_at_call 44; refine (smade_nil _).mono ?_; rintro e w1 ⟨rfl, hw⟩; obtain rfl := hw.symm; clear hw)
  exact bodyPost_ret (results_cell_row rfl _ _ w.heap.size 32 #[.int .i64 0, .int .i64 0, .int .i64 0] (0, 0) _ rfl (heap_alloc_new w _) Tryz.underlying32 rfl Tryz.sizeGeo) rfl ⟨rfl, G0.out _ _⟩
theorem sreachD_nil (w : World) (d slot : Int) : Calls Tryz.prog 63 #[.pointer none, .int .i64 d, .int .i64 slot] w fun e w' => e = .returned (.int .i64 2) ∧ w' = w := by
  go_enter Tryz.func63, Tryz.ntmps63
  go_wp2_with (go_at_call 45; refine (sreach_nil w slot).mono ?_; rintro e w1 ⟨rfl, hw⟩; obtain rfl := hw.symm; clear hw)
  go_ret
  exact ⟨rfl, rfl⟩
theorem sread_nil (w : World) (slot : Int) (m : Int) : Calls Tryz.prog 14 #[.pointer none, .int .i64 slot, .int .u64 m] w fun e w' => e = .returned (.tuple #[.slice none 0 0, .int .i64 2]) ∧ w.grownBy w' none := by
  have HG : Hid (∀ A B T T', w.grownBy ((w.alloc (.cells A T)).alloc (.cells B T')) none) := fun A B T T' => gb_alloc (World.grownBy_alloc w _ none) _
  go_enter Tryz.func14, Tryz.ntmps14
  go_wp2_with (go_at_call 45; refine (sreach_nil _ slot).mono ?_; rintro e w1 ⟨rfl, hw⟩; obtain rfl := hw.symm; clear hw)
  go_ret2
  exact ⟨rfl, HG.out _ _ _ _⟩
theorem shigh_nil (w : World) (slot : Int) : Calls Tryz.prog 23 #[.pointer none, .int .i64 slot] w fun e w' => e = .returned (.tuple #[.int .u64 0, .int .i64 2]) ∧ w' = w := by
  go_enter Tryz.func23, Tryz.ntmps23
  go_wp2_with (go_at_call 45; refine (sreach_nil w slot).mono ?_; rintro e w1 ⟨rfl, hw⟩; obtain rfl := hw.symm; clear hw)
  go_ret2
  exact ⟨rfl, rfl⟩
theorem swrite_nil (w : World) (slot m : Int) (v : Value) : Calls Tryz.prog 11 #[.pointer none, .int .i64 slot, .int .u64 m, v] w fun e w' => e = .returned (.int .i64 2) ∧ w' = w := by
  go_enter Tryz.func11, Tryz.ntmps11
  go_wp2_with (go_at_call 45; refine (sreach_nil w slot).mono ?_; rintro e w1 ⟨rfl, hw⟩; obtain rfl := hw.symm; clear hw)
  go_ret
  exact ⟨rfl, rfl⟩
theorem sput_nil (w : World) (d slot m : Int) (v : Value) : Calls Tryz.prog 17 #[.pointer none, .int .i64 d, .int .i64 slot, .int .u64 m, v] w fun e w' => e = .returned (.int .i64 2) ∧ w' = w := by
  go_enter Tryz.func17, Tryz.ntmps17
  go_wp2_with (go_at_call 63; refine (sreachD_nil w d slot).mono ?_; rintro e w1 ⟨rfl, hw⟩; obtain rfl := hw.symm; clear hw)
  go_ret
  exact ⟨rfl, rfl⟩
section
variable {F F' : Nat → Prop} {w w' : World} {s a : Nat} {g : SP.Geo} {R R' : AM.Raw}
theorem swhole_err (h : SI F w s a g R) {slot : Int} (hy : SP.why R g slot ≠ 0) :
    Calls Tryz.prog 21 #[ptr s, .int .i64 slot] w fun e w' => e = .returned (.tuple #[.int .u64 0, .int .i64 (SP.why R g slot : Int)]) ∧ w' = w := by
  obtain ⟨y, hy1⟩ : ∃ y, y = SP.why R g slot := ⟨_, rfl⟩
  have HR : Hid (Calls Tryz.prog 45 #[ptr s, .int .i64 slot] w fun e w'' => e = .returned (.int .i64 (y : Int)) ∧ w'' = w) := by rw [hy1]; exact sreach_yes h slot
  rw [← hy1] at hy ⊢
  have hne : ((y : Int) != 0) = true := neb_yes (b := 0) hy
  clear h hy hy1
  go_enter Tryz.func21, Tryz.ntmps21
  go_wp2_with (go_at_call 45; refine HR.out.mono ?_; rintro e w9 ⟨rfl, hw9⟩; obtain rfl := hw9.symm; clear hw9)
  go_ret2
  exact ⟨rfl, rfl⟩
end
end Go.Proofs.YtfjlpifaaknmpaaGreat

/- The contract of stripe.New. -/
set_option linter.unusedSimpArgs false
set_option linter.unusedVariables false
set_option maxRecDepth 100000
namespace Go.Proofs.YtfjlpifaaknmpaaGreat
open Go.RowKit

/-- Which Stripes may be. -/
def SP.okNew (R : AM.Raw) (K N S f : Int) : Bool := mayI K N && (decide (1 ≤ S) && (decide (S ≤ 128) && (decide (0 ≤ f) && (decide ((R.C.length : Int) = N) && decide (f ≤ (R.n : Int) - 8 * S)))))
theorem SP.okNew_iff {R : AM.Raw} {K N S f : Int} : SP.okNew R K N S f = true ↔ (1 ≤ K ∧ K < N ∧ N ≤ 255) ∧ 1 ≤ S ∧ S ≤ 128 ∧ 0 ≤ f ∧ (R.C.length : Int) = N ∧ f ≤ (R.n : Int) - 8 * S := by
  unfold SP.okNew
  simp only [Bool.and_eq_true, decide_eq_true_eq, mayI_iff]
section
variable {F F' : Nat → Prop} {w w' : World} {s a : Nat} {g : SP.Geo} {R R' : AM.Raw}
set_option maxHeartbeats 6400000 in
theorem sfits_any (h : Is F w a R) {K N S f : Int} (hS : 1 ≤ S) (hS2 : S ≤ 128) :
    Calls Tryz.prog 92 #[ptr a, .agg #[.int .i64 K, .int .i64 N, .int .i64 S], .int .i64 f] w fun e w' => e = .returned (.bool (decide ((R.C.length : Int) = N) && decide (f ≤ (R.n : Int) - 8 * S))) ∧ w.grownBy w' none := by
  have hn2 := h.ok.n2
  obtain ⟨L, hL⟩ : ∃ L, L = R.C.length := ⟨_, rfl⟩
  obtain ⟨n, hn⟩ : ∃ n, n = R.n := ⟨_, rfl⟩
  have GA : Hid (w.grownBy (w.alloc (.cells #[.int .i64 K, .int .i64 N, .int .i64 S] 32)) none) := World.grownBy_alloc w _ none
  have Q1 : Hid (∀ w1, w.grownBy w1 none → Calls Tryz.prog 84 #[ptr a] w1 fun e w' => e = .returned (.int .i64 (L : Int)) ∧ w' = w1) := fun w1 g1 => by rw [hL]; exact disks_yes (h.keep g1)
  have Q2 : Hid (∀ w1, w.grownBy w1 none → Calls Tryz.prog 85 #[ptr a] w1 fun e w' => e = .returned (.int .i64 (n : Int)) ∧ w' = w1) := fun w1 g1 => by rw [hn]; exact sectors_yes (h.keep g1)
  rw [← hL, ← hn]
  have hw1 : IntKind.i64.wrap (8 * S) = 8 * S := IntWalk.i64_in _ (by omega)
  have hw2 : IntKind.i64.wrap ((n : Int) - 8 * S) = (n : Int) - 8 * S := IntWalk.i64_in _ (by omega)
  clear h hn2 hL hn hS hS2
  by_cases h1 : (L : Int) = N
  · have i1 : ((L : Int) == N) = true := by simp [h1]
    rw [decide_eq_true h1, Bool.true_and]
    clear h1
    go_enter Tryz.func92, Tryz.ntmps92
    go_wp2_with fail
    go_quiet ((first
      | (go_at_call 84; exact Calls.quiet_of_same (Q1.out _ (grown_trans GA.out (grown_drewN _ _))))
      | (go_at_call 85; exact Calls.quiet_of_same (Q2.out _ (grown_trans GA.out (grown_drewN _ _))))))
    go_wp2
    go_ret
    exact ⟨rfl, by first | exact grown_trans GA.out (grown_drewN _ _) | exact GA.out | exact gb_drew GA.out⟩
  · have i1 : ((L : Int) == N) = false := by simp [h1]
    rw [decide_eq_false h1, Bool.false_and]
    clear h1
    go_enter Tryz.func92, Tryz.ntmps92
    go_wp2_with fail
    go_quiet ((first
      | (go_at_call 84; exact Calls.quiet_of_same (Q1.out _ (grown_trans GA.out (grown_drewN _ _))))
      | (go_at_call 85; exact Calls.quiet_of_same (Q2.out _ (grown_trans GA.out (grown_drewN _ _))))))
    go_wp2
    go_ret
    exact ⟨rfl, by first | exact grown_trans GA.out (grown_drewN _ _) | exact GA.out | exact gb_drew GA.out⟩

set_option maxHeartbeats 6400000 in
theorem snew_yes (h : Is F w a R) (hg : g.Ok R) :
    Calls Tryz.prog 40 #[ptr a, geoV g, .int .i64 (g.f : Int)] w fun e w' => ∃ s, e = .returned (.tuple #[ptr s, .int .i64 0]) ∧ SI F w' s a g R ∧ w.heap.size ≤ s ∧ w.grownBy w' none := by
  have hk : mayI (g.k : Int) (g.n : Int) = true := mayI_iff.2 ⟨by have := hg.k1; omega, by have := hg.kn; omega, by have := hg.n255; omega⟩
  have i1 : ¬ (g.s : Int) < 1 := by have := hg.s1; omega
  have i2 : ¬ (128 : Int) < (g.s : Int) := by have := hg.s2; omega
  have i3 : ¬ (g.f : Int) < 0 := by omega
  have FI : Hid (∀ w', w.grownBy w' none → Calls Tryz.prog 92 #[ptr a, geoV g, .int .i64 (g.f : Int)] w' fun e w'' => e = .returned (.bool true) ∧ w'.grownBy w'' none) := fun w' g1 => by
    refine (sfits_any (h.keep g1) (K := (g.k : Int)) (N := (g.n : Int)) (S := (g.s : Int)) (f := (g.f : Int)) (by have := hg.s1; omega) (by have := hg.s2; omega)).mono ?_
    rintro e w'' ⟨rfl, g2⟩
    refine ⟨?_, g2⟩
    rw [decide_eq_true (show (R.C.length : Int) = (g.n : Int) by have := hg.len; omega), decide_eq_true (show (g.f : Int) ≤ (R.n : Int) - 8 * (g.s : Int) by have := hg.room; omega)]
    rfl
  have MA : Hid (∀ w', Calls Tryz.prog 91 #[.int .i64 (g.k : Int), .int .i64 (g.n : Int)] w' fun e w'' => e = .returned (.bool true) ∧ w'' = w') := fun w' => by
    have := codeMay_any (g.k : Int) (g.n : Int) w'
    rwa [hk] at this
  have H : Hid (Is F w a R ∧ g.Ok R) := ⟨h, hg⟩
  have GA : Hid (w.grownBy (w.alloc (.cells #[.int .i64 (g.k : Int), .int .i64 (g.n : Int), .int .i64 (g.s : Int)] 32)) none) := World.grownBy_alloc w _ none
  have GC : Hid (∀ w', (w.alloc (.cells #[.int .i64 (g.k : Int), .int .i64 (g.n : Int), .int .i64 (g.s : Int)] 32)).grownBy w' none → w'.cell? ⟨w.heap.size, 0, none⟩ = some (.int .i64 (g.k : Int)) ∧ w'.cell? ⟨w.heap.size, 1, none⟩ = some (.int .i64 (g.n : Int)) ∧ w'.cell? ⟨w.heap.size, 2, none⟩ = some (.int .i64 (g.s : Int))) := fun w' g1 => by
    have h0 := heap_alloc_new w (.cells #[.int .i64 (g.k : Int), .int .i64 (g.n : Int), .int .i64 (g.s : Int)] 32)
    exact ⟨g1.cell (cell_of_row _ _ 0 _ _ _ h0) (by simp), g1.cell (cell_of_row _ _ 1 _ _ _ h0) (by simp), g1.cell (cell_of_row _ _ 2 _ _ _ h0) (by simp)⟩
  clear h hg hk
  go_enter Tryz.func40, Tryz.ntmps40
  go_wp2_with (first
    | (go_at_call 91; refine (MA.out _).mono ?_; rintro e w9 ⟨rfl, hw9⟩; obtain rfl := hw9.symm; clear hw9)
    | (go_at_call 92; refine (FI.out _ GA.out).mono ?_; rintro e w2 ⟨rfl, g2⟩; have G2 : Hid (w.grownBy w2 none) := grown_trans GA.out g2; obtain ⟨hb1, hb2, hb3⟩ := GC.out w2 g2; clear g2))
  go_ret2
  have g3 := gb_alloc G2.out (.cells #[ptr a, .int .i64 (g.k : Int), .int .i64 (g.n : Int), .int .i64 (g.s : Int), .int .i64 (g.f : Int)] 86)
  exact ⟨_, rfl, ⟨H.out.1.keep g3, heap_alloc_new w2 _, fun hf => (by have h1 := H.out.1.lt _ hf; have h2 := G2.out.size; omega), H.out.2⟩, G2.out.size, g3⟩

theorem snew_nil (w : World) (K N S f : Int) :
    Calls Tryz.prog 40 #[.pointer none, .agg #[.int .i64 K, .int .i64 N, .int .i64 S], .int .i64 f] w fun e w' => e = .returned (.tuple #[.pointer none, .int .i64 2]) ∧ w.grownBy w' none := by
  have GA : Hid (w.grownBy (w.alloc (.cells #[.int .i64 K, .int .i64 N, .int .i64 S] 32)) none) := World.grownBy_alloc w _ none
  go_enter Tryz.func40, Tryz.ntmps40
  go_wp2
  go_ret2
  exact ⟨rfl, GA.out⟩
end
end Go.Proofs.YtfjlpifaaknmpaaGreat

/- The document's array: the contracts of Barrier and Crash. -/
set_option linter.unusedSimpArgs false
set_option linter.unusedVariables false
set_option maxRecDepth 100000
namespace Go.Proofs.YtfjlpifaaknmpaaGreat
open Go.RowKit

namespace AM.RA
/-- The flights are for disks that are on, and sectors that are there. -/
def Fit (A : RA) : Prop := ∀ l ∈ A.L, (A.D.getD l.d none).isSome = true ∧ l.k < A.n
def laid (A : RA) (q : Nat) : RA := { A with D := (A.L.take q).foldl (fun D l => rlay D l.d l.k l.b) A.D }
end AM.RA
theorem some_of {α : Type} {D : List (Option α)} {e : Nat} (h : (D.getD e none).isSome = true) : ∃ x, D[e]? = some (some x) := by
  simp only [List.getD] at h
  cases hq : D[e]? with
  | none => simp [hq] at h
  | some o => cases o with
    | none => simp [hq] at h
    | some x => exact ⟨x, rfl⟩
theorem rlay_at {D : List (Option (List (List Nat)))} {d : Nat} {ss : List (List Nat)} (h : D[d]? = some (some ss)) (k : Nat) (b : List Nat) : AM.rlay D d k b = D.set d (some (ss.set k b)) := by
  unfold AM.rlay
  simp [List.getD, h]

section
variable {G : Nat → Prop} {w : World} {r : Nat} {A : AM.RA}
/-- One flight laid: what the region reads, and what it leaves. -/
theorem RL.ready {dp : Option Addr} {dc : Nat} {ds : List Value} {lp : Option Addr} {lc : Nat} {fs : List Value} (h : RL G w r dp dc ds lp lc fs A) {q : Nat} (hq : q < A.L.length) (hon : (A.D.getD (A.L[q]'hq).d none).isSome = true) (hk : (A.L[q]'hq).k < A.n) :
    ∃ (dg lg sg c : Nat) (u ov : Value), dp = some ⟨dg, 0, none⟩ ∧ lp = some ⟨lg, 0, none⟩ ∧ (A.L[q]'hq).d < A.D.length ∧ w.cell? ⟨r, 0, none⟩ = some (.slice (some ⟨dg, 0, none⟩) A.D.length dc) ∧ w.cell? ⟨r, 2, none⟩ = some (.slice (some ⟨lg, 0, none⟩) A.L.length lc) ∧
      w.cell? ⟨lg, q * 3, none⟩ = some (.int .i64 ((A.L[q]'hq).d : Int)) ∧ w.cell? ⟨lg, q * 3 + 1, none⟩ = some (.int .i64 ((A.L[q]'hq).k : Int)) ∧ w.cell? ⟨lg, q * 3 + 2, none⟩ = some u ∧ w.cell? ⟨dg, (A.L[q]'hq).d * 2, none⟩ = some (.slice (some ⟨sg, 0, none⟩) A.n c) ∧
      w.cell? ⟨sg, (A.L[q]'hq).k, none⟩ = some ov ∧ w.frozen? ⟨sg, (A.L[q]'hq).k, none⟩ = false ∧ Vec w u (A.L[q]'hq).b ∧ G sg ∧ r ≠ sg ∧ lg ≠ sg ∧ dg ≠ sg ∧
      (∀ (w1 : World) (u1 : Value), w.grownBy w1 none → Own w.heap.size w1 u1 (A.L[q]'hq).b → (∃ G', RIs G' (w1.setCell ⟨sg, (A.L[q]'hq).k, none⟩ u1) r { A with D := AM.rlay A.D (A.L[q]'hq).d (A.L[q]'hq).k (A.L[q]'hq).b } ∧ Step G w G' (w1.setCell ⟨sg, (A.L[q]'hq).k, none⟩ u1))) := by
  obtain ⟨ss, hss⟩ := some_of hon
  have hdl : (A.L[q]'hq).d < A.D.length := (List.getElem?_eq_some_iff.1 hss).1
  obtain ⟨c0, _, c2, _, _⟩ := h.topCells
  obtain ⟨dg, v, rfl, hv, e0, _, cd, hcd⟩ := h.disk hdl
  obtain ⟨lg, u, rfl, _, f0, f1, f2, hu, cl, hcl⟩ := h.flight hq
  obtain ⟨sg, c, ov, b, rfl, co, fo, _, _, hsg, cs, hcs⟩ := h.place hv hss hk
  refine ⟨dg, lg, sg, c, u, ov, rfl, rfl, hdl, c0, c2, f0, f1, f2, e0, co, fo, hu.vec, hsg, ne_ty h.top hcs (by decide), ne_ty hcl hcs (by decide), ne_ty hcd hcs (by decide), fun w1 u1 g1 hu1 => ?_⟩
  refine ⟨_, by rw [rlay_at hss]; exact (h.laid g1 hv hss hk hu1).is, ⟨⟨g1.os, g1.tape, g1.output, by simpa using g1.size, fun i hi hn => ?_⟩, fun i hi => ?_⟩⟩
  · rw [Below.heap_setCell _ _ _ _ (by intro e; have e : i = sg := e; rw [e] at hn; exact hn hsg)]
    exact g1.block i hi (by simp)
  · rcases hi with hi | hi
    · exact .inl hi
    · exact .inr (rows_blk hu1.row hi).1
theorem RL.gone {dp : Option Addr} {dc : Nat} {ds : List Value} {lp : Option Addr} {lc : Nat} {fs : List Value} (h : RL G w r dp dc ds lp lc fs A) : RL G (w.setCell ⟨r, 2, none⟩ (.slice none 0 0)) r dp dc ds none 0 [] { A with L := [] } :=
  h.flown (old := none) (fun _ h => h) h.lt (World.grownBy.refl w none) (fun g e => by cases e) (L' := []) (fs' := []) (lp' := none) (lc' := 0) (World.ownsRow_nil w 0 135 3) rfl (fun g hg => by cases hg) (fun i u x hu => by simp at hu) rfl

end
end Go.Proofs.YtfjlpifaaknmpaaGreat

