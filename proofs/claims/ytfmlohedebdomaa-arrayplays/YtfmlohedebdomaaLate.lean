/- A region that draws its order, whose last operation waits for all the others: the others under a condition that holds throughout, then the last one. No text of the program is named. -/
import Derived.Deep.RegionHeld3
set_option linter.unusedSimpArgs false
set_option linter.unusedVariables false
namespace Go.Proofs.Ytfmlohedebdomaa

section
variable {P : Program} {md : Region.Mode} {Q : Exit → Act → World → Prop} {S : World → Prop}

/-- Behind the others comes the last one. -/
def lastQ (P : Program) (ops : Array Oper) (o : Oper) (Q : Exit → Act → World → Prop) : Exit → Act → World → Prop
  | .normal, a, w => wpList P ops Q [o] a w
  | e, a, w => Q e a w

/-- Does the operation number j wait for the operation number i, at once or by others? -/
def waits (md : Region.Mode) (ops : Array Oper) : Nat → Nat → Nat → Bool
  | 0, _, _ => false
  | n + 1, j, i => match ops[j]? with
    | none => false
    | some o => o.after.any (fun e => Region.binds md e && (e.on == i || waits md ops n e.on i))
/-- The last operation waits for all the others, each waits for earlier ones alone, none has a guard. -/
def lastOk (md : Region.Mode) (ops : Array Oper) : Bool :=
  (List.range ops.size).all (fun j => match ops[j]? with
    | none => false
    | some o => o.guard.isNone && o.after.all (fun e => !(Region.binds md e) || decide (e.on < j))) &&
  (List.range (ops.size - 1)).all (fun i => waits md ops ops.size (ops.size - 1) i)

/-- What is listed has all listed that it waits for. -/
def Down (md : Region.Mode) (ops : Array Oper) (listed : Array Bool) : Prop :=
  ∀ (j : Nat) (o : Oper), ops[j]? = some o → listed.getD j false = true → ∀ e ∈ o.after, Region.binds md e = true → listed.getD e.on false = true

theorem getD_any {l : Array Bool} {i : Nat} (h : i < l.size) (b c : Bool) : l.getD i b = l.getD i c := by simp [h]
theorem waits_listed {ops : Array Oper} {listed : Array Bool} (hd : Down md ops listed) : ∀ (n j i : Nat), waits md ops n j i = true → (∀ o, ops[j]? = some o → ∀ e ∈ o.after, Region.binds md e = true → listed.getD e.on false = true) → listed.getD i false = true := by
  intro n
  induction n with
  | zero => intro j i h; cases h
  | succ n ih =>
    intro j i h hj
    unfold waits at h
    cases ho : ops[j]? with
    | none => rw [ho] at h; cases h
    | some o =>
      rw [ho] at h
      obtain ⟨e, he, h1⟩ := Array.any_eq_true'.1 h
      simp only [Bool.and_eq_true, Bool.or_eq_true, beq_iff_eq] at h1
      have hl := hj o ho e he h1.1
      rcases h1.2 with h2 | h2
      · rw [← h2]; exact hl
      · exact ih e.on i h2 (fun o' ho' e' he' hb' => hd e.on o' ho' hl e' he' hb')
theorem letsOut_last {ops : Array Oper} {oL : Oper} (h : LetsOut (lastQ P ops oL Q)) : LetsOut Q := by
  obtain ⟨a, w, h⟩ := h
  exact ⟨a, w, h⟩
theorem wp_last {ops : Array Oper} {oL o : Oper} {a : Act} {w : World} {K K' : Act → World → Prop} (hK : ∀ a w, K a w → K' a w) (h : Oper.wp P o a w K (lastQ P ops oL Q)) : Oper.wp P o a w K' Q := by
  unfold Oper.wp at *
  generalize (execOp a.eval o).run P w = r at *
  cases r with
  | ok n w' =>
    cases n <;> simp only [Oper.upon] at h ⊢
    case value u => exact hK _ _ h
    case skip => exact hK _ _ h
    case defer d => exact hK _ _ h
    case enter f args =>
      refine Calls.mono h fun e w'' he => ?_
      cases e with
      | returned u => exact hK _ _ he
      | panicked c => exact he
      | outgrown => exact letsOut_last he
    case row row args => exact Rows.mono h fun u w'' he => hK _ _ he
  | halt x w' =>
    cases x <;> simp only [Oper.upon] at h ⊢
    case panic u => exact h

theorem push_getD (listed : Array Bool) (x : Nat) : (listed.push false).getD x false = listed.getD x false := by
  by_cases h : x < listed.size
  · simp [Array.getElem?_push, h, Nat.ne_of_lt h]
  · by_cases h2 : x = listed.size
    · subst h2; simp
    · have h3 : ¬ x < (listed.push false).size := by simp; omega
      simp only [Array.getD, h, h3, dif_neg, not_false_eq_true]
theorem ready_push {ops : Array Oper} {oL : Oper} {listed : Array Bool} (hs : listed.size = ops.size) {j : Nat} (hj : j < ops.size) : j ∈ Region.ready md (ops.push oL) (listed.push false) ↔ j ∈ Region.ready md ops listed := by
  rw [mem_ready, mem_ready]
  have e1 : (listed.push false).getD j true = listed.getD j true := by
    rw [getD_any (by simp; omega) true false, push_getD, getD_any (by omega) false true]
  have e2 : (ops.push oL)[j]? = ops[j]? := by rw [Array.getElem?_push, if_neg (by omega)]
  rw [e1, e2]
  simp only [push_getD]

/-- All that is said of the list of operations. -/
structure LastOk (md : Region.Mode) (ops : Array Oper) (oL : Oper) : Prop where
  gd : ∀ (j : Nat) (o : Oper), (ops.push oL)[j]? = some o → o.guard = none
  lt : ∀ (j : Nat) (o : Oper), (ops.push oL)[j]? = some o → ∀ e ∈ o.after, Region.binds md e = true → e.on < j
  all : ∀ i : Nat, i < ops.size → ∃ n, waits md (ops.push oL) n ops.size i = true
theorem lastOk_of {ops : Array Oper} {oL : Oper} (h : lastOk md (ops.push oL) = true) : LastOk md ops oL := by
  unfold lastOk at h
  simp only [Bool.and_eq_true, List.all_eq_true, List.mem_range] at h
  obtain ⟨h1, h2⟩ := h
  have key : ∀ (j : Nat) (o : Oper), (ops.push oL)[j]? = some o → o.guard.isNone = true ∧ ∀ e ∈ o.after, (!(Region.binds md e) || decide (e.on < j)) = true := fun j o ho => by
    have := h1 j (Array.getElem?_eq_some_iff.1 ho).1
    rw [ho] at this
    simp only [Bool.and_eq_true] at this
    refine ⟨this.1, fun e he => ?_⟩
    have := Array.all_eq_true'.1 this.2
    exact this e he
  refine ⟨fun j o ho => by simpa using (key j o ho).1, fun j o ho e he hb => ?_, fun i hi => ⟨(ops.push oL).size, ?_⟩⟩
  · have := (key j o ho).2 e he
    simpa [hb] using this
  · have := h2 i (by simp; omega)
    simpa using this

theorem down_push {ops : Array Oper} {oL : Oper} {listed : Array Bool} (hs : listed.size = ops.size) (hd : Down md ops listed) : Down md (ops.push oL) (listed.push false) := fun j o ho hj e he hb => by
  rw [push_getD] at hj ⊢
  have hlt : j < ops.size := by
    rcases Nat.lt_or_ge j listed.size with h | h
    · omega
    · simp [Array.getElem?_eq_none h] at hj
  rw [Array.getElem?_push, if_neg (by omega)] at ho
  exact hd j o ho hj e he hb
theorem down_set {ops : Array Oper} {listed : Array Bool} (hd : Down md ops listed) {i : Nat} (hi : i ∈ Region.ready md ops listed) : Down md ops (listed.setIfInBounds i true) := fun j o ho hj e he hb => by
  refine getD_set_true ?_
  by_cases c : i = j
  · subst c
    obtain ⟨_, o', ho', hall⟩ := mem_ready.1 hi
    rw [ho] at ho'
    obtain rfl := Option.some.inj ho'
    exact hall e he hb
  · rw [getD_set_ne false c] at hj
    exact hd j o ho hj e he hb
theorem all_listed {ops : Array Oper} {oL : Oper} {listed : Array Bool} (hok : LastOk md ops oL) (hs : listed.size = ops.size) (hr : Region.ready md ops listed = []) : ∀ n j, j < n → j < ops.size → listed.getD j false = true := by
  intro n
  induction n with
  | zero => intro j hj; omega
  | succ n ih =>
    intro j hjn hj
    cases hc : listed.getD j false with
    | true => rfl
    | false =>
      have : j ∈ Region.ready md ops listed := by
        rw [mem_ready]
        have ho : ops[j]? = some ops[j] := Array.getElem?_eq_getElem hj
        refine ⟨by rw [getD_any (by omega) true false]; exact hc, _, ho, fun e he hb => ?_⟩
        have hlt := hok.lt j ops[j] (by rw [Array.getElem?_push, if_neg (by omega)]; exact ho) e he hb
        exact ih e.on (by omega) (by omega)
      rw [hr] at this
      cases this

theorem lastOp_step {ops : Array Oper} {oL : Oper} {listed : Array Bool} {a : Act} {w : World} (hok : LastOk md ops oL) (hs : listed.size = ops.size) (hr : Region.ready md ops listed = []) (h : lastQ P (ops.push oL) oL Q .normal a w) : ∀ fuel, wpAny P md (ops.push oL) Q (fuel + 1) (listed.push false) a w := by
  have hall := all_listed hok hs hr
  have hL : (ops.push oL)[ops.size]? = some oL := by simp
  have hmem : ops.size ∈ Region.ready md (ops.push oL) (listed.push false) := by
    rw [mem_ready]
    refine ⟨by rw [← hs]; simp, oL, hL, fun e he hb => ?_⟩
    have := hok.lt _ _ hL e he hb
    rw [push_getD]
    exact hall _ _ (Nat.lt_succ_self _) this
  have honly : ∀ i ∈ Region.ready md (ops.push oL) (listed.push false), i = ops.size := fun i hi => by
    obtain ⟨_, o, ho, _⟩ := mem_ready.1 hi
    have hlt := (Array.getElem?_eq_some_iff.1 ho).1
    simp at hlt
    rcases Nat.lt_or_ge i ops.size with h | h
    · rw [ready_push hs h, hr] at hi; cases hi
    · omega
  have hdone : Region.ready md (ops.push oL) ((listed.push false).setIfInBounds ops.size true) = [] := by
    apply List.eq_nil_iff_forall_not_mem.2
    intro i hi
    have h0 := (mem_ready.1 hi).1
    obtain ⟨_, o, ho, _⟩ := mem_ready.1 hi
    have hlt := (Array.getElem?_eq_some_iff.1 ho).1
    simp at hlt
    by_cases c : ops.size = i
    · subst c
      rw [← hs] at h0
      simp at h0
    · rw [getD_set_ne true c, getD_any (by simp; omega) true false, push_getD, hall (i + 1) i (Nat.lt_succ_self _) (by omega)] at h0
      cases h0
  intro fuel
  refine ⟨fun h0 => (by rw [h0] at hmem; cases hmem), fun i hi => ?_⟩
  obtain rfl := honly i hi
  have hfin : ∀ a w, wpList P (ops.push oL) Q [] a w → wpAny P md (ops.push oL) Q fuel ((listed.push false).setIfInBounds ops.size true) a w := fun a w h => wpAny_done hdone h fuel
  have h' : if Region.wanted oL (yielded (ops.push oL) a.tmps) then oL.wp P a w (wpList P (ops.push oL) Q []) Q ∨ (oL.asks P a w ∧ LetsOut Q) else wpList P (ops.push oL) Q [] (a.put oL.dst undef) w := h
  refine wpOp_mono hfin ?_
  unfold wpOp
  rw [hL]
  exact h'

theorem any_last {ops : Array Oper} {oL : Oper} (hok : LastOk md ops oL) : ∀ (fuel : Nat) (listed : Array Bool) (a : Act) (w : World), listed.size = ops.size → Down md ops listed → wpAnyH P md ops (lastQ P (ops.push oL) oL Q) S fuel listed a w → wpAny P md (ops.push oL) Q (fuel + 1) (listed.push false) a w := by
  intro fuel
  induction fuel with
  | zero => intro listed a w hs hd h; exact lastOp_step hok hs h.1 h.2 0
  | succ fuel ih =>
    intro listed a w hs hd h
    by_cases hr : Region.ready md ops listed = []
    · exact lastOp_step hok hs hr (h.1 hr) (fuel + 1)
    · obtain ⟨i0, hi0⟩ := List.exists_mem_of_ne_nil _ hr
      have hL : (ops.push oL)[ops.size]? = some oL := by simp
      have hno : ops.size ∉ Region.ready md (ops.push oL) (listed.push false) := fun hm => by
        obtain ⟨_, o, ho, hall⟩ := mem_ready.1 hm
        rw [hL] at ho
        obtain rfl := Option.some.inj ho
        obtain ⟨h0, o', ho', _⟩ := mem_ready.1 hi0
        have hlt := (Array.getElem?_eq_some_iff.1 ho').1
        obtain ⟨n, hn⟩ := hok.all i0 hlt
        have := waits_listed (down_push hs hd) n _ _ hn (fun o ho => by
          rw [hL] at ho
          obtain rfl := Option.some.inj ho
          exact hall)
        rw [push_getD, getD_any (by omega) false true, h0] at this
        cases this
      have hto : ∀ i ∈ Region.ready md (ops.push oL) (listed.push false), i < ops.size ∧ i ∈ Region.ready md ops listed := fun i hi => by
        obtain ⟨_, o, ho, _⟩ := mem_ready.1 hi
        have hlt := (Array.getElem?_eq_some_iff.1 ho).1
        simp at hlt
        have hne : i ≠ ops.size := fun e => hno (by rw [← e]; exact hi)
        have hl : i < ops.size := by omega
        exact ⟨hl, (ready_push hs hl).1 hi⟩
      refine ⟨fun h0 => ?_, fun i hi => ?_⟩
      · have := (ready_push (md := md) (oL := oL) hs (Array.getElem?_eq_some_iff.1 (mem_ready.1 hi0).2.choose_spec.1).1).2 hi0
        rw [h0] at this
        cases this
      · obtain ⟨hl, hi'⟩ := hto i hi
        have h1 := h.2 i hi'
        have ho : ops[i]? = some ops[i] := Array.getElem?_eq_getElem hl
        have ho2 : (ops.push oL)[i]? = some ops[i] := by rw [Array.getElem?_push, if_neg (by omega)]; exact ho
        have hg := hok.gd i _ ho2
        have hw : ∀ os : Array Oper, Region.wanted ops[i] (yielded os a.tmps) = true := fun os => by simp [Region.wanted, hg]
        have hK : ∀ a' w', (S w' ∧ wpAnyH P md ops (lastQ P (ops.push oL) oL Q) S fuel (listed.setIfInBounds i true) a' w') → wpAny P md (ops.push oL) Q (fuel + 1) ((listed.push false).setIfInBounds i true) a' w' := fun a' w' hh => by
          have := ih (listed.setIfInBounds i true) a' w' (by simpa using hs) (down_set hd hi') hh.2
          have e : (listed.setIfInBounds i true).push false = (listed.push false).setIfInBounds i true := by
            have hil : i < listed.size := by omega
            apply Array.ext_getElem?
            intro k
            simp only [Array.getElem?_push, Array.getElem?_setIfInBounds, Array.size_setIfInBounds, Array.size_push]
            by_cases ck : k = listed.size
            · have : i ≠ k := by omega
              simp [ck, hil, show i ≠ listed.size by omega]
            · by_cases cik : i = k
              · subst cik
                simp [hil, ck, Nat.lt_succ_of_lt hil]
              · simp [ck, cik]
          rw [← e]; exact this
        unfold wpOp at h1 ⊢
        rw [ho] at h1
        rw [ho2]
        simp only [hw, if_true] at h1 ⊢
        rcases h1 with h1 | ⟨h1, h2⟩
        · exact .inl (wp_last hK h1)
        · exact .inr ⟨h1, letsOut_last h2⟩

/-- A region that draws: all but the last operation under S; then the last one. -/
theorem region_last {id : Nat} {ops all : Array Oper} {oL : Oper} {a : Act} {w : World} (he : all = ops.push oL) (hm : P.follows .mixedOrders = true) (hl : lastOk .any (ops.push oL) = true) (hS : S w.drew)
    (h : S w.drew → wpAnyH P .any ops (lastQ P (ops.push oL) oL Q) S ops.size (Array.replicate ops.size false) a w.drew) : (Code.region id all true).wp P Q a w := by
  subst he
  refine wp_region_any hm ?_
  have := any_last (S := S) (lastOk_of hl) ops.size (Array.replicate ops.size false) a w.drew (by simp) (fun j o ho hj => by
    by_cases c : j < ops.size <;> simp [c] at hj) (h hS)
  have e : Array.replicate (ops.push oL).size false = (Array.replicate ops.size false).push false := by rw [Array.size_push, Array.replicate_succ]
  rw [e, Array.size_push]
  exact this
theorem region_late {id : Nat} {ops all : Array Oper} {oL : Oper} {a : Act} {w : World} (hp : all.pop = ops) (hb : all.back? = some oL) (hm : P.follows .mixedOrders = true) (hl : lastOk .any all = true) (hS : S w.drew)
    (h : S w.drew → wpAnyH P .any ops (lastQ P (ops.push oL) oL Q) S ops.size (Array.replicate ops.size false) a w.drew) : (Code.region id all true).wp P Q a w := by
  have he : all = ops.push oL := by
    subst hp
    have hne : all.size ≠ 0 := fun h0 => by
      have : all = #[] := Array.eq_empty_of_size_eq_zero h0
      subst this
      simp at hb
    rw [Array.back?_eq_getElem?] at hb
    obtain ⟨h1, h2⟩ := Array.getElem?_eq_some_iff.1 hb
    apply Array.ext_getElem?
    intro k
    rw [Array.getElem?_push, Array.getElem?_pop, Array.size_pop]
    by_cases c : k = all.size - 1
    · subst c; simp [hb]
    · by_cases c2 : k < all.size - 1
      · simp [c]
        intro hk
        omega
      · simp [c]
        intro hk
        omega
  exact region_last (S := S) he hm (by rw [← he]; exact hl) hS h
theorem lastQ_normal {ops : Array Oper} {o : Oper} {a : Act} {w : World} (h : wpList P ops Q [o] a w) : lastQ P ops o Q .normal a w := h

end
end Go.Proofs.Ytfmlohedebdomaa
