/- A sector in its drive: its place, copy into it; the contract of lay. -/
import Derived.Test.YtfmlohedebdomaaLeaf7
set_option linter.unusedSimpArgs false
set_option linter.unusedVariables false
namespace Go.Proofs.Ytfmlohedebdomaa
open Go.RowKit

theorem bv_map_get {xs : List Nat} {j : Nat} {v : Value} (h : (xs.map bv)[j]? = some v) : ∃ x, xs[j]? = some x ∧ v = bv x := by
  rw [List.getElem?_map] at h
  cases hx : xs[j]? with
  | none => rw [hx] at h; cases h
  | some x => rw [hx] at h; exact ⟨x, rfl, (Option.some.inj h).symm⟩

/-- The cells of an own row, one by one. -/
theorem ownsRow_cell {w : World} {B size n g cap : Nat} {e : TypeId} {xs : List Value} (h : w.ownsRow B e size (.slice (some ⟨g, 0, none⟩) n cap) n xs) {j : Nat} {v : Value} (hv : xs[j]? = some v) : w.cell? ⟨g, j, none⟩ = some v := by
  have := h.cells (g := g) rfl j v hv
  rw [add_at, Nat.zero_add] at this
  exact this

/-- A sector of a drive as a slice. -/
theorem sector_vec {w : World} {B n g cap k : Nat} {xs : List Nat} (h : w.ownsRow B 77 64 (.slice (some ⟨g, 0, none⟩) n cap) n (xs.map bv)) (hs : ∀ x ∈ xs, x < 256) (hx : xs.length = n * 64) (hk : k < n) :
    Vec w (.slice (some ⟨g, k * 64, none⟩) 64 64) (AM.sec xs k) := by
  have hf := AM.fits hk
  have hl : (AM.sec xs k).length = 64 := AM.sec_len (by omega)
  refine ⟨AM.sec_small hs k, by omega, _, _, by rw [hl], by omega, by decide, fun _ => ⟨g, k * 64, rfl, fun j hj => ?_⟩⟩
  rw [hl] at hj
  refine ownsRow_cell h ?_
  have h1 : (AM.sec xs k)[j]? = xs[k * 64 + j]? := by rw [AM.sec_get, if_pos hj]
  have h2 : k * 64 + j < xs.length := by omega
  rw [List.getElem?_map, List.getElem?_eq_getElem h2]
  simp only [List.getD, h1, List.getElem?_eq_getElem h2]
  rfl

theorem map_put (xs b : List Nat) (k : Nat) : (AM.put xs k b).map bv = (xs.map bv).take (k * 64) ++ b.map bv ++ (xs.map bv).drop (k * 64 + b.length) := by
  simp [AM.put, List.map_take, List.map_drop]

theorem take_splice {α : Type} (c bs : List α) (o m : Nat) (h : o + bs.length ≤ m) (hm : m ≤ c.length) : (c.take o ++ bs ++ c.drop (o + bs.length)).take m = (c.take m).take o ++ bs ++ (c.take m).drop (o + bs.length) := by
  obtain ⟨P, Q, rfl, hP⟩ : ∃ P Q, c = P ++ Q ∧ P.length = m := ⟨c.take m, c.drop m, (List.take_append_drop m c).symm, by simp; omega⟩
  have e1 : (P ++ Q).take o = P.take o := List.take_append_of_le_length (by omega)
  have e2 : (P ++ Q).drop (o + bs.length) = P.drop (o + bs.length) ++ Q := List.drop_append_of_le_length (by omega)
  rw [e1, e2, List.take_left' hP, ← List.append_assoc, List.take_left' (by simp; omega)]

/-- A whole sector copied into its place. -/
theorem run_copy_sec {w : World} {B n g cap k : Nat} {xs b : List Nat} {s : Value} (h : w.ownsRow B 77 64 (.slice (some ⟨g, 0, none⟩) n cap) n (xs.map bv)) (hx : xs.length = n * 64) (hk : k < n) (hs : Vec w s b) (hb : b.length = 64) (ty : TypeId) :
    ∃ w', (Builtin.copy_ #[32, 32] ty #[.slice (some ⟨g, k * 64, none⟩) 64 64, s]).run Try.prog w = .ok (goInt 64) w' ∧ w'.ownsRow B 77 64 (.slice (some ⟨g, 0, none⟩) n cap) n ((AM.put xs k b).map bv) ∧ w.grownBy w' (some g) := by
  have hf := AM.fits hk
  obtain ⟨s1, s2, p, scap, rfl, s3, s4, s5⟩ := hs
  obtain ⟨sb, so, rfl, hc⟩ := s5 (fun e => by rw [e] at hb; cases hb)
  rcases h.2 with ⟨h3, _⟩ | ⟨g', cap', cur, h3, hb', hg, hnc, hm, hcs, htk⟩
  · cases h3
  · injection h3 with e1 _ e3
    injection e1 with e1
    injection e1 with e1 _
    subst e1
    subst e3
    have hsz : n * 64 ≤ cur.size := by rw [hcs]; exact Nat.mul_le_mul_right _ hnc
    have hr := run_copy_row (P := Try.prog) w 32 32 ty 5 g (k * 64) 64 64 ⟨sb, so, none⟩ b.length scap cur 77 (b.map bv) Try.underlying32 Try.size5 hg (by rw [List.length_map, hb]; rfl)
      (fun j v hj => by
        have hj' : j < b.length := by
          have := (List.getElem?_eq_some_iff.1 hj).1
          simpa using this
        rw [getD_map_bv b j hj'] at hj
        rw [add_off, hc j hj']; exact hj) (by simp [hb]; omega) (fun v hv => by obtain ⟨x, _, rfl⟩ := List.mem_map.1 hv; rfl)
    refine ⟨w.setRow g (cur.toList.take (k * 64) ++ b.map bv ++ cur.toList.drop (k * 64 + (b.map bv).length)).toArray, by rw [hr]; simp [hb], ⟨by rw [List.length_map, AM.put_len (by omega), hx], .inr ⟨g, cap, _, rfl, hb', setRow_heap w g cur _ 77 _ hg, hnc, hm, ?_, ?_⟩⟩, ⟨rfl, rfl, rfl, by simp, fun i _ hi => setRow_other w g i _ (fun e => hi (by simp [e]))⟩⟩
    · simp [hb]; omega
    · have hlm : (b.map bv).length = b.length := by simp
      rw [map_put, ← htk]
      have := take_splice cur.toList (b.map bv) (k * 64) (n * 64) (by rw [hlm, hb]; exact hf) (by simpa using hsz)
      rw [hlm] at this ⊢
      exact this

theorem step_copy_sec {ops : Array Oper} {o : Oper} {ac : Act} {w : World} {K : Act → World → Prop} {Q : Exit → Act → World → Prop} {E : Prop} (hgd : o.guard = none) (d s : Operand)
    (ho : o.op = .call { callee := .builtin .copy, args := #[d, s], argTypes := #[32, 32] }) (sv : Value) {B n g cap k : Nat} {xs b : List Nat} (hed : ac.eval d = .slice (some ⟨g, k * 64, none⟩) 64 64) (hes : ac.eval s = sv)
    (hr : w.ownsRow B 77 64 (.slice (some ⟨g, 0, none⟩) n cap) n (xs.map bv)) (hx : xs.length = n * 64) (hk : k < n) (hs : Vec w sv b) (hb : b.length = 64)
    (h : ∀ w', w'.ownsRow B 77 64 (.slice (some ⟨g, 0, none⟩) n cap) n ((AM.put xs k b).map bv) → w.grownBy w' (some g) → K (ac.put o.dst (goInt 64)) w') :
    if Region.wanted o (yielded ops ac.tmps) = true then Oper.wp Try.prog o ac w K Q else E := by
  have hw : Region.wanted o (yielded ops ac.tmps) = true := by simp [Region.wanted, hgd]
  rw [if_pos hw]
  obtain ⟨w', hrun, r1, r2⟩ := run_copy_sec hr hx hk hs hb o.type
  unfold Oper.wp
  simp [execOp, ho, resolve, invoke, builtin, hed, hes, hrun, Result.andThen]
  exact h _ r1 r2

/-- The drive at a place, opened. -/
theorem Lies.drive {F : Nat → Prop} {w : World} {a dg : Nat} {dv : List Value} {fp : Option Addr} {fc : Nat} {R : AM.Raw} (h : Lies F w a dg dv fp fc R) {d : Nat} {xs : List Nat} (hd : R.C[d]? = some (some xs)) :
    ∃ g c, dv[d]? = some (.slice (some ⟨g, 0, none⟩) R.n c) ∧ w.cell? ⟨dg, d, none⟩ = some (.slice (some ⟨g, 0, none⟩) R.n c) ∧ w.ownsRow 0 77 64 (.slice (some ⟨g, 0, none⟩) R.n c) R.n (xs.map bv) ∧ xs.length = R.n * 64 ∧ (∀ x ∈ xs, x < 256) ∧ g ≠ a ∧ g ≠ dg ∧ d < R.C.length := by
  have hlt : d < R.C.length := (List.getElem?_eq_some_iff.1 hd).1
  have hl : d < dv.length := by rw [h.len]; exact hlt
  have hv : dv[d]? = some dv[d] := List.getElem?_eq_getElem hl
  obtain ⟨x1, x2⟩ := h.ok.C d xs hd
  rcases h.drv d dv[d] hv with ⟨h1, _⟩ | ⟨ys, h1, h2⟩
  · rw [hd] at h1; cases h1
  · rw [hd] at h1
    injection h1 with h1
    injection h1 with h1
    subst h1
    have h2' := h2
    rcases h2.2 with ⟨_, h4⟩ | ⟨g, cap, cur, h3, _, h5, _⟩
    · have := h.ok.n1; omega
    · rw [h3] at hv h2'
      exact ⟨g, cap, hv, topCell h.dsk (by rw [List.getElem?_toArray]; exact hv), h2', x1, x2, ne_ty h5 h.top (by decide), ne_ty h5 h.dsk (by decide), hlt⟩

section
variable {F : Nat → Prop} {w : World} {a : Nat} {R : AM.Raw}
set_option maxHeartbeats 1600000 in
theorem lay_yes (h : Is F w a R) {d k : Nat} {b : List Nat} {sb so : Nat} (hon : ∃ xs, R.C[d]? = some (some xs)) (hk : k < R.n) (hs : Vec w (.slice (some ⟨sb, so, none⟩) 64 64) b) (hb : b.length = 64) :
    Calls Try.prog 41 #[ptr a, .int .i64 (d : Int), .int .i64 (k : Int), .pointer (some ⟨sb, so, none⟩)] w fun e w' => e = .returned (.tuple #[]) ∧ Is F w' a (R.lay d k b) ∧ Step F w F w' ∧ ∃ g c, w.grownBy w' (some g) ∧ w.heap[g]? = some (.cells c 77 (0, 0)) := by
  obtain ⟨dg, dv, fp, fc, h⟩ := h
  obtain ⟨xs, hon⟩ := hon
  obtain ⟨g, c, hdv, cd, hrow, hxl, hxs, ga, gd, hdl⟩ := h.drive hon
  have c0 : w.cell? ⟨a, 0, none⟩ = some (.slice (some ⟨dg, 0, none⟩) R.C.length R.C.length) := topCell (j := 0) h.top rfl
  have hN := h.ok.d2
  have hn2 := h.ok.n2
  have H : Hid (Lies F w a dg dv fp fc R) := h
  have HX : Hid (R.C[d]? = some (some xs) ∧ dv[d]? = some (.slice (some ⟨g, 0, none⟩) R.n c)) := ⟨hon, hdv⟩
  have HR : Hid (w.ownsRow 0 77 64 (.slice (some ⟨g, 0, none⟩) R.n c) R.n (xs.map bv)) := hrow
  have HS : Hid (Vec w (.slice (some ⟨sb, so, none⟩) 64 64) b) := hs
  have HL : Hid (xs.length = R.n * 64 ∧ ∀ x ∈ xs, x < 256) := ⟨hxl, hxs⟩
  have HK : Hid (g ≠ a ∧ g ≠ dg) := ⟨ga, gd⟩
  clear h hon hdv hrow hs hxl hxs ga gd
  obtain ⟨N, hNe⟩ : ∃ N, N = R.C.length := ⟨_, rfl⟩
  obtain ⟨M, hMe⟩ : ∃ M, M = R.n := ⟨_, rfl⟩
  have HN : Hid (N = R.C.length ∧ M = R.n) := ⟨hNe, hMe⟩
  rw [← hNe] at c0 hN hdl
  rw [← hMe] at cd hk hn2
  rw [← hMe] at HR
  clear hNe hMe
  have hdi : (d : Int) < (N : Int) := by omega
  have hki : (k : Int) < (M : Int) := by omega
  go_enter Try.func41, Try.ntmps41
  go_region_held3 (fun w' => w'.cell? ⟨a, 0, none⟩ = some (.slice (some ⟨dg, 0, none⟩) N N) ∧ w'.cell? ⟨dg, d, none⟩ = some (.slice (some ⟨g, 0, none⟩) M c)) (first | exact ⟨c0, cd⟩ | exact HC4.out)
    ((refine step_copy_sec (B := 0) (n := M) (g := g) (cap := c) (k := k) (xs := xs) (b := b) (by rfl) _ _ (by rfl) _ (by rfl) (by rfl) HR.out (by have := HL.out.1; rw [HN.out.2]; exact this) hk (HS.out.keep (grown_drewN w 1)) hb ?_; intro w4 h4 g4; have HC4 : Hid (w4.cell? ⟨a, 0, none⟩ = some (.slice (some ⟨dg, 0, none⟩) N N) ∧ w4.cell? ⟨dg, d, none⟩ = some (.slice (some ⟨g, 0, none⟩) M c)) := ⟨g4.cell c0 (fun e => HK.out.1 (Option.some.inj e).symm), g4.cell cd (fun e => HK.out.2 (Option.some.inj e).symm)⟩))
  have G4 : Hid (w.grownBy w4 (some g)) := grown_trans (grown_any (grown_drewN w 1) _) g4
  have H4 : Hid (w4.ownsRow 0 77 64 (.slice (some ⟨g, 0, none⟩) M c) M ((AM.put xs k b).map bv)) := h4
  clear h4 g4 HC4
  go_wp2
  go_end0
  obtain ⟨rfl, rfl⟩ := HN.out
  have hf := AM.fits hk
  have hbs := HS.out.small
  have hC : AM.lay R.C d k b = R.C.set d (some (AM.put xs k b)) := by simp [AM.lay, List.getD, HX.out.1]
  obtain ⟨cur, hcur⟩ := H.out.drvBlock HX.out.2 (g := g) rfl
  exact ⟨rfl, (H.out.rowed HX.out.2 rfl G4.out hC (by rw [AM.put_len (by rw [hb, HL.out.1]; exact hf)]; exact HL.out.1) (AM.put_small HL.out.2 hbs) ⟨xs, HX.out.1⟩ H4.out).is, Step.of G4.out (fun i e => by obtain rfl := Option.some.inj e; exact H.out.Fv d _ HX.out.2 g rfl), g, cur, G4.out, hcur⟩
end
end Go.Proofs.Ytfmlohedebdomaa
