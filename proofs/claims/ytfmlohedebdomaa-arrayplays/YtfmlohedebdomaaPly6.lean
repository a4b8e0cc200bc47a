/- What ArrayPlays keeps; each call with its answer as a letter. -/
import Derived.Test.YtfmlohedebdomaaTwo6
import Derived.Test.YtfmlohedebdomaaSect6
import Derived.Laws.BitsAllLaws
set_option linter.unusedSimpArgs false
set_option linter.unusedVariables false
namespace Go.Proofs.Ytfmlohedebdomaa
open Go.RowKit

theorem writes_len (R : AM.Raw) (d k : Int) (b : List Nat) : (R.writes d k b).2.L.length ≤ R.L.length + 1 := by
  have hb : R.burnt.L = R.L := (AM.burnt_C R).2.2
  unfold AM.Raw.writes
  split
  · simp
  · split
    · simp
    · split
      · simp [hb]
      · simp [AM.Raw.fly, hb]
theorem barrier_len (R : AM.Raw) : R.barrier.2.L.length ≤ R.L.length := by
  have hb : R.burnt.L = R.L := (AM.burnt_C R).2.2
  unfold AM.Raw.barrier
  split
  · simp
  · split
    · simp [hb]
    · simp
theorem lose_len (R : AM.Raw) (d : Int) : (R.lose d).2.L.length ≤ R.L.length := by
  unfold AM.Raw.lose
  split
  · simp
  · split
    · exact List.length_filter_le _ _
    · simp
theorem replace_len (R : AM.Raw) (d : Int) : (R.replace d).2.L.length ≤ R.L.length := by
  unfold AM.Raw.replace
  split
  · simp
  · split <;> simp [AM.Raw.blank]

section
variable {F G F' G' : Nat → Prop} {w0 w w' : World} {a r : Nat} {R R' : AM.Raw} {A A' : AM.RA}
theorem rwrite_at (h : RIs G w r A) (hs : AM.Sim R A) (hL : R.L.length ≤ 1000000) {d k : Int} {v : Value} {b : List Nat} (hv : Aw G w v b) {c : Int} (hc : ((R.writes d k b).1 : Int) = c) :
    Calls Try.prog 14 #[rptr r, .int .i64 d, .int .i64 k, v] w fun e w' => e = .returned (.int .i64 c) ∧ ∃ G', RIs G' w' r (A.writes d k b).2 ∧ Step G w G' w' := by
  refine (rwrite_any h d k hv.vec hv.off (by rw [hs.llen]; exact hL)).mono ?_
  rintro e w' ⟨rfl, G', h1, h2⟩
  exact ⟨by rw [(hs.write d k hv.vec.small).1, hc], G', h1, h2⟩
theorem rread_at (h : RIs G w r A) (hs : AM.Sim R A) (hL : R.L.length ≤ 1000000) {d k : Int} {c : Int} {xs : List Nat} (h1 : (R.reach d k : Int) = c) (h2 : R.read d k = xs) :
    Calls Try.prog 16 #[rptr r, .int .i64 d, .int .i64 k] w fun e w' => ∃ p n m, e = .returned (.tuple #[.slice p n m, .int .i64 c]) ∧ Own w.heap.size w' (.slice p n m) xs ∧ w.grownBy w' none := by
  have := rread_any h (by rw [hs.llen]; exact hL) d k
  rw [hs.why, hs.reads, h1, h2] at this
  exact this
theorem rbarrier_at (h : RIs G w r A) (hs : AM.Sim R A) (hL : R.L.length ≤ 1000000) {c : Int} (hc : (R.barrier.1 : Int) = c) :
    Calls Try.prog 19 #[rptr r] w fun e w' => e = .returned (.int .i64 c) ∧ ∃ G', RIs G' w' r A.barrier.2 ∧ Step G w G' w' := by
  refine (rbarrier_any h hs.fit (by rw [hs.llen]; exact hL)).mono ?_
  rintro e w' ⟨rfl, G', h1, h2⟩
  exact ⟨by rw [hs.barrier.1, hc], G', h1, h2⟩
theorem rlose_at (h : RIs G w r A) (hs : AM.Sim R A) (hL : R.L.length ≤ 1000000) {d : Int} {c : Int} (hc : ((R.lose d).1 : Int) = c) :
    Calls Try.prog 21 #[rptr r, .int .i64 d] w fun e w' => e = .returned (.int .i64 c) ∧ ∃ G', RIs G' w' r (A.lose d).2 ∧ Step G w G' w' := by
  refine (rlose_any h d (by rw [hs.llen]; exact hL)).mono ?_
  rintro e w' ⟨rfl, G', h1, h2⟩
  exact ⟨by rw [(hs.lose d).1, hc], G', h1, h2⟩
theorem rreplace_at (h : RIs G w r A) (hs : AM.Sim R A) {d : Int} {c : Int} (hc : ((R.replace d).1 : Int) = c) :
    Calls Try.prog 23 #[rptr r, .int .i64 d] w fun e w' => e = .returned (.int .i64 c) ∧ ∃ G', RIs G' w' r (A.replace d).2 ∧ Step G w G' w' := by
  refine (rreplace_any h d).mono ?_
  rintro e w' ⟨rfl, G', h1, h2⟩
  exact ⟨by rw [(hs.replace d).1, hc], G', h1, h2⟩

/-- A block beside both is turned. -/
theorem Two.poke (h : Two F G w0 w a r R A) {g : Nat} (gr : w.grownBy w' (some g)) (hF : ¬ F g) (hG : ¬ G g) (hlo : w0.heap.size ≤ g) : Two F G w0 w' a r R A := by
  have hb : ∀ (H : Nat → Prop), ¬ H g → (∀ k, H k → k < w.heap.size) → ∀ k, H k → w'.heap[k]? = w.heap[k]? := fun H hH hl k hk => gr.block k (hl k hk) (fun e => hH (by rw [← Option.some.inj e]; exact hk))
  have hl : ∀ (H : Nat → Prop), (∀ k, H k → k < w.heap.size) → ∀ k, H k → k < w'.heap.size := fun H hl k hk => Nat.lt_of_lt_of_le (hl k hk) gr.size
  have g0 : w0.grownBy w' none := grown_new h.bi.grown gr (fun i e => by rw [← Option.some.inj e]; exact hlo)
  exact ⟨h.i.same (hb F hF h.i.lt) (hl F h.i.lt), h.j.same (hb G hG h.j.lt) (hl G h.j.lt), h.ap, ⟨g0, h.bi.lo⟩, ⟨g0, h.bj.lo⟩⟩

/-- The state between two calls. -/
def Ply (w0 w : World) (a r i : Nat) : Prop := ∃ F G R A, Two F G w0 w a r R A ∧ AM.Sim R A ∧ R.L.length ≤ i
theorem Ply.grown {i : Nat} (h : Ply w0 w a r i) : w0.grownBy w none := by obtain ⟨_, _, _, _, h, _, _⟩ := h; exact h.bi.grown
theorem Ply.keep {i : Nat} (h : Ply w0 w a r i) (g : w.grownBy w' none) : Ply w0 w' a r i := by
  obtain ⟨F, G, R, A, h1, h2, h3⟩ := h
  exact ⟨F, G, R, A, h1.keep g, h2, h3⟩
theorem ply_alike {i : Nat} (h : Ply w0 w a r i) (hi : i ≤ 1000000) {v : Value} {ps : List Nat} (hv : Vec w0 v ps) : Calls Try.prog 30 #[ptr a, rptr r, v] w fun e w' => e = .returned (.bool true) ∧ w.grownBy w' none := by
  obtain ⟨F, G, R, A, h1, h2, h3⟩ := h
  exact alike_yes h1.i h1.j h2 (hv.keep h1.bi.grown) (Nat.le_trans h3 hi)

/-- A row of the call's own that is spoilt, beside both. -/
structure Spo (F G : Nat → Prop) (w0 w : World) (v : Value) (xs : List Nat) : Prop where
  part : Part w0.heap.size w v xs
  offF : ∀ g, v.ownBlock = some g → ¬ F g
  offG : ∀ g, v.ownBlock = some g → ¬ G g
theorem spo_of {v : Value} {xs : List Nat} (h : Part w.heap.size w' v xs) (t : Two F G w0 w a r R A) : Spo F G w0 w' v xs :=
  ⟨h.down t.bi.grown.size, fun g hg hf => by have h1 := (h.lt hg).1; have h2 := t.i.lt g hf; omega, fun g hg hf => by have h1 := (h.lt hg).1; have h2 := t.j.lt g hf; omega⟩
theorem Spo.keep {v : Value} {xs : List Nat} (h : Spo F G w0 w v xs) (g : w.grownBy w' none) : Spo F G w0 w' v xs := ⟨h.part.keep g, h.offF, h.offG⟩
theorem Spo.awF {v : Value} {xs : List Nat} (h : Spo F G w0 w v xs) : Aw F w v xs := ⟨h.part.vec, fun _ => h.offF⟩
theorem Spo.stepA {v : Value} {xs : List Nat} (h : Spo F G w0 w v xs) (s : Step F w F' w') : Spo F' G w0 w' v xs :=
  ⟨h.part.same (fun g hg => s.upd.block g (h.part.lt hg).2 (h.offF g hg)), fun g hg hf => by
    rcases s.sub g hf with h1 | h1
    · exact h.offF g hg h1
    · have := (h.part.lt hg).2; omega, h.offG⟩
theorem Spo.stepB {v : Value} {xs : List Nat} (h : Spo F G w0 w v xs) (s : Step G w G' w') : Spo F G' w0 w' v xs :=
  ⟨h.part.same (fun g hg => s.upd.block g (h.part.lt hg).2 (h.offG g hg)), h.offF, fun g hg hf => by
    rcases s.sub g hf with h1 | h1
    · exact h.offG g hg h1
    · have := (h.part.lt hg).2; omega⟩
theorem xor_u8 {x : Nat} (hx : x < 256) : bits .xor .u8 (x : Int) 255 = ((x ^^^ 255 : Nat) : Int) := u8_xor_nat x 255 hx (by decide)
/-- One byte spoilt. -/
theorem Spo.spot {p : Option Addr} {n cap : Nat} {xs : List Nat} (h : Spo F G w0 w (.slice p n cap) xs) (t : Two F G w0 w a r R A) {k : Nat} (hk : k < xs.length) :
    ∃ (g x : Nat), p = some ⟨g, 0, none⟩ ∧ w.cell? ⟨g, k, none⟩ = some (.int .u8 (x : Int)) ∧ w.frozen? ⟨g, k, none⟩ = false ∧ x < 256 ∧ w0.heap.size ≤ g ∧ (∃ c, w.heap[g]? = some (.cells c 5 (0, 0))) ∧
      Two F G w0 (w.setCell ⟨g, k, none⟩ (.int .u8 ((x ^^^ 255 : Nat) : Int))) a r R A ∧ Spo F G w0 (w.setCell ⟨g, k, none⟩ (.int .u8 ((x ^^^ 255 : Nat) : Int))) (.slice (some ⟨g, 0, none⟩) n cap) (xs.set k (x ^^^ 255)) := by
  obtain ⟨g, rfl, hn, hc, hf, hx, hp, hg⟩ := h.part.spot hk
  have hlt := h.part.lt (g := g) rfl
  have hz : xs.getD k 0 ^^^ 255 < 256 := Nat.xor_lt_two_pow (n := 8) hx (by decide)
  exact ⟨g, _, rfl, hc, hf, hx, hlt.1, h.part.ty rfl, t.poke (hg _) (h.offF g rfl) (h.offG g rfl) hlt.1, ⟨hp _ hz, h.offF, h.offG⟩⟩

/-- The array that a copy was taken of goes on by itself. -/
structure Wild (F Fy G : Nat → Prop) (w0 w : World) (a bk y r : Nat) (Q R : AM.Raw) (A : AM.RA) (c : ActR) : Prop where
  i : Is F w a Q
  b : Base w0 F w
  t : Two Fy G w0 w y r R A
  d1 : ∀ k, F k → Fy k → False
  d2 : ∀ k, F k → G k → False
  nb : ¬ F bk
  v : Var w bk c
theorem Wild.step {Fy : Nat → Prop} {bk y : Nat} {Q Q' : AM.Raw} {c : ActR} (h : Wild F Fy G w0 w a bk y r Q R A c) (hi : Is F' w' a Q') (s : Step F w F' w') : Wild F' Fy G w0 w' a bk y r Q' R A c := by
  obtain ⟨h1, h2⟩ := h.t.i.other s h.d1
  obtain ⟨h3, h4⟩ := h.t.j.other s h.d2
  obtain ⟨h5, h6⟩ := h.v.step s h.nb
  have hb := h.b.step s
  exact ⟨hi, hb, ⟨h1, h3, h.t.ap, ⟨hb.grown, h.t.bi.lo⟩, ⟨hb.grown, h.t.bj.lo⟩⟩, h2, h4, h6, h5⟩
theorem Wild.keep {Fy : Nat → Prop} {bk y : Nat} {Q : AM.Raw} {c : ActR} (h : Wild F Fy G w0 w a bk y r Q R A c) (g : w.grownBy w' none) : Wild F Fy G w0 w' a bk y r Q R A c :=
  ⟨h.i.keep g, h.b.keep g, h.t.keep g, h.d1, h.d2, h.nb, h.v.keep g⟩
theorem rnew_at {w : World} {N n : Nat} (h1 : 1 ≤ N) (h2 : N ≤ 255) (h3 : 1 ≤ n) (h4 : n ≤ 4096) {c d : Int} (hc : (N : Int) = c) (hd : (n : Int) = d) :
    Calls Try.prog 11 #[.int .i64 c, .int .i64 d] w fun e w' => ∃ r, e = .returned (.tuple #[rptr r, .int .i64 0]) ∧ ∃ G, RIs G w' r (AM.RA.new N n) ∧ Base w G w' := by
  subst hc
  subst hd
  exact rnew_yes h1 h2 h3 h4
end
end Go.Proofs.Ytfmlohedebdomaa
