/- hayricklaw04.awake: it returns true. -/
import Derived.Test.YtdeajclghlbhcaaDec4
import Derived.BigRegion
set_option linter.unusedVariables false
namespace Go.Proofs.Ytdeajclghlbhcaa
open Go.RowKit

theorem mat_nil (w : World) : Mat w (.slice none 0 0) [] [] := ⟨⟨by simp, none, 0, rfl, Nat.le_refl _, by decide, fun h => absurd rfl h⟩, rfl, by simp⟩

/-- A row, and the matrix of it. -/
abbrev lit1W (w : World) (h : Nat) (xs : List Nat) : World := (w.alloc (.cells (xs.map bv).toArray 5)).alloc (.cells #[.slice (some ⟨h, 0, none⟩) xs.length xs.length] 39)
theorem lit1W_mat (w : World) (h : Nat) (xs : List Nat) (e : h = w.heap.size) (hx : ∀ x ∈ xs, x < 256) (h1 : xs.length ≤ 1000) :
    Mat (lit1W w h xs) (.slice (some ⟨h + 1, 0, none⟩) 1 1) [.slice (some ⟨h, 0, none⟩) xs.length xs.length] [xs] := by
  subst e
  have a := (lit_row (w := w) xs hx h1).keep (World.grownBy_alloc _ (.cells #[.slice (some ⟨w.heap.size, 0, none⟩) xs.length xs.length] 39) none)
  exact ⟨cells_lit (heap_new _ _ _ (by simp)) rfl (by simp), rfl, fun j hj => by
    match j, hj with
    | 0, _ => exact a.vec⟩
theorem lit1W_grown (w : World) (h : Nat) (xs : List Nat) : w.grownBy (lit1W w h xs) none := grown_trans (World.grownBy_alloc _ _ none) (World.grownBy_alloc _ _ none)

/-- Three rows, and the matrix of them. -/
abbrev lit3W (w : World) (h : Nat) (xs ys zs : List Nat) : World := (((w.alloc (.cells (xs.map bv).toArray 5)).alloc (.cells (ys.map bv).toArray 5)).alloc (.cells (zs.map bv).toArray 5)).alloc (.cells #[.slice (some ⟨h, 0, none⟩) xs.length xs.length, .slice (some ⟨h + 1, 0, none⟩) ys.length ys.length, .slice (some ⟨h + 1 + 1, 0, none⟩) zs.length zs.length] 39)
theorem lit3W_mat (w : World) (h : Nat) (xs ys zs : List Nat) (e : h = w.heap.size) (hx : ∀ x ∈ xs, x < 256) (hy : ∀ x ∈ ys, x < 256) (hz : ∀ x ∈ zs, x < 256) (h1 : xs.length ≤ 1000) (h2 : ys.length ≤ 1000) (h3 : zs.length ≤ 1000) :
    Mat (lit3W w h xs ys zs) (.slice (some ⟨h + 1 + 1 + 1, 0, none⟩) 3 3) [.slice (some ⟨h, 0, none⟩) xs.length xs.length, .slice (some ⟨h + 1, 0, none⟩) ys.length ys.length, .slice (some ⟨h + 1 + 1, 0, none⟩) zs.length zs.length] [xs, ys, zs] := by
  subst e
  have a := (((lit_row (w := w) xs hx h1).keep (World.grownBy_alloc _ (.cells (ys.map bv).toArray 5) none)).keep (World.grownBy_alloc _ (.cells (zs.map bv).toArray 5) none)).keep (World.grownBy_alloc _ (.cells #[.slice (some ⟨w.heap.size, 0, none⟩) xs.length xs.length, .slice (some ⟨w.heap.size + 1, 0, none⟩) ys.length ys.length, .slice (some ⟨w.heap.size + 1 + 1, 0, none⟩) zs.length zs.length] 39) none)
  have b := ((lit_row (w := w.alloc (.cells (xs.map bv).toArray 5)) ys hy h2).keep (World.grownBy_alloc _ (.cells (zs.map bv).toArray 5) none)).keep (World.grownBy_alloc _ (.cells #[.slice (some ⟨w.heap.size, 0, none⟩) xs.length xs.length, .slice (some ⟨w.heap.size + 1, 0, none⟩) ys.length ys.length, .slice (some ⟨w.heap.size + 1 + 1, 0, none⟩) zs.length zs.length] 39) none)
  have c := (lit_row (w := (w.alloc (.cells (xs.map bv).toArray 5)).alloc (.cells (ys.map bv).toArray 5)) zs hz h3).keep (World.grownBy_alloc _ (.cells #[.slice (some ⟨w.heap.size, 0, none⟩) xs.length xs.length, .slice (some ⟨w.heap.size + 1, 0, none⟩) ys.length ys.length, .slice (some ⟨w.heap.size + 1 + 1, 0, none⟩) zs.length zs.length] 39) none)
  rw [World.size_alloc] at b
  rw [World.size_alloc, World.size_alloc] at c
  exact ⟨cells_lit (heap_new _ _ _ (by simp)) rfl (by simp), rfl, fun j hj => by
    match j, hj with
    | 0, _ => exact a.vec
    | 1, _ => exact b.vec
    | 2, _ => exact c.vec⟩
theorem lit3W_grown (w : World) (h : Nat) (xs ys zs : List Nat) : w.grownBy (lit3W w h xs ys zs) none := gb_alloc (gb_alloc (gb_alloc (gb_alloc (World.grownBy.refl _ _) _) _) _) _

theorem ivec_lits {w : World} {g n : Nat} {ls : List Int} (h : w.heap[g]? = some (.cells (ls.map (Value.int .i64)).toArray 3 (0, 0))) (hn : n = ls.length) (hl : ls.length ≤ 1000) : IVec w (.slice (some ⟨g, 0, none⟩) n n) ls := by
  subst hn
  refine ⟨by omega, some ⟨g, 0, none⟩, ls.length, rfl, Nat.le_refl _, by unfold maxLen; omega, fun _ => ⟨g, 0, rfl, fun j hj => ?_⟩⟩
  simp [World.cell?, h, hj, List.getD]

/-- A matrix from a place on. -/
theorem Mat.tail {w : World} {b off n cap k : Nat} {us : List Value} {X : List (List Nat)} (h : Mat w (.slice (some ⟨b, off, none⟩) n cap) us X) (hk : k ≤ n) : Mat w (.slice (some ⟨b, off + k, none⟩) (n - k) (cap - k)) (us.drop k) (X.drop k) := by
  obtain ⟨⟨h1, p, cp, e, h3, h4, h5⟩, hs, hv⟩ := h
  injection e with e1 e2 e3
  subst e2 e3
  refine ⟨⟨by simp; omega, some ⟨b, off + k, none⟩, cap - k, by simp, by simp; omega, by omega, fun hne => ⟨b, off + k, rfl, fun j hj => ?_⟩⟩, by simp [hs], fun j hj => ?_⟩
  · have hx : us ≠ [] := fun e => hne (by rw [e]; simp)
    obtain ⟨b', off', e', hc⟩ := h5 hx
    rw [← e1] at e'
    injection e' with e'
    injection e' with e4 e5
    subst e4 e5
    have := hc (k + j) (by simp at hj; omega)
    rw [show off + k + j = off + (k + j) from by omega, this]
    simp [List.getD]
  · have := hv (k + j) (by simp at hj; omega)
    simpa [List.getD] using this

def m7 : Nat := M.mul 7 142
theorem m7_lt : m7 < 256 := by decide +kernel
theorem mul_7 (w : World) : Calls Try.prog 25 #[.int .u8 7, .int .u8 142] w fun e w' => e = .returned (.int .u8 ((m7 : Nat) : Int)) ∧ w' = w := mul_any 7 142 w (by decide) (by decide) (by decide) (by decide)
theorem enc7 : codeList [[7]] 1 3 1 = [[7], [7], [m7]] := by decide +kernel
theorem gen23 : genList 2 3 = [[1, 0], [0, 1], [142, 244]] := by decide +kernel
def sumOf59 : Nat := codeAt [[5], [9]] 2 2 0
theorem enc59 : codeList [[5], [9]] 2 3 1 = [[5], [9], [sumOf59]] := by decide +kernel
theorem dec59 {D : List (List Nat)} (h : Tells [2, 0] 2 1 [[sumOf59], [5]] D) : D = [[5], [9]] := by
  refine (h [[5], [9]] ⟨rfl, by decide⟩ ?_ ?_).symm
  · intro i j
    match i, j with
    | 0, 0 => decide
    | 0, j + 1 => simp [at2, List.getD]
    | 1, 0 => decide
    | 1, j + 1 => simp [at2, List.getD]
    | i + 2, j => simp [at2, List.getD]
  · intro i t hi ht
    obtain rfl : t = 0 := by omega
    rcases two hi with rfl | rfl
    · decide +kernel
    · decide +kernel
theorem sum59_lt : sumOf59 < 256 := by decide +kernel

theorem ok59 : decOK ((2 : Nat) : Int) ((3 : Nat) : Int) [2, 0] [[sumOf59], [5]] := by
  refine ⟨by decide, rfl, by decide, ?_⟩
  show goodAt 3 [2, 0] 2
  unfold goodAt
  decide

set_option maxHeartbeats 8000000 in
set_option maxRecDepth 100000 in
theorem awake_any (w : World) : Calls Try.prog 9 #[] w fun e w' => e = .returned (.bool true) ∧ w.grownBy w' none := by
  have E7 : Hid (∀ W r vs, Mat W r vs [[7]] → Calls Try.prog 17 #[.int .i64 1, .int .i64 3, r] W (Made W [[7], [7], [m7]] 0)) := fun W r vs h => by
    have := encode_yes (k := 1) (n := 3) (L := 1) h ⟨rfl, by decide⟩ (by decide) (by decide) (by decide)
    rw [enc7] at this
    exact this
  have E2 : Hid (∀ W r vs, Mat W r vs [[5], [9]] → Calls Try.prog 17 #[.int .i64 2, .int .i64 3, r] W (Made W [[5], [9], [sumOf59]] 0)) := fun W r vs h => by
    have := encode_yes (k := 2) (n := 3) (L := 1) h ⟨rfl, by decide⟩ (by decide) (by decide) (by decide)
    rw [enc59] at this
    exact this
  have GG : Hid (∀ W, Calls Try.prog 12 #[.int .i64 2, .int .i64 3] W (Made W [[1, 0], [0, 1], [142, 244]] 0)) := fun W => by
    have := generator_yes 2 3 W (by decide) (by decide) (by decide)
    rw [gen23] at this
    exact this
  have DD : Hid (∀ W ra rc vs, IVec W ra [2, 0] → Mat W rc vs [[sumOf59], [5]] → Calls Try.prog 21 #[.int .i64 2, .int .i64 3, ra, rc] W fun e w' => ∃ p m c us, e = .returned (.tuple #[.slice p m c, .int .i64 0]) ∧ Mat w' (.slice p m c) us [[5], [9]] ∧ W.grownBy w' none) := fun W ra rc vs h1 h2 =>
    (decode_yes (k := 2) (n := 3) h1 h2 ok59 (by decide)).mono fun e w' ⟨p, m, c, us, D, he, om, sp, sh, td, g⟩ => ⟨p, m, c, us, he, by rw [← dec59 td]; exact om.mat, g⟩
  unfold Made at E7 E2 GG
  go_enter Try.func9, Try.ntmps9
  go_wp2_with fail
  refine (E7.out _ _ _ (lit1W_mat w w.heap.size [7] rfl (by decide) (by decide))).mono ?_
  rintro e w1 ⟨p1, n1, c1, u1, rfl, om, sp, g1⟩
  obtain ⟨_, _, _, e, hn⟩ := om.mat.row.opened
  obtain rfl : n1 = 3 := by
    injection e with _ e2 _
    have := om.same
    simp at this
    omega
  have M1 : Hid (∀ w', w1.grownBy w' none → Mat w' (.slice p1 3 c1) u1 [[7], [7], [m7]]) := fun w' g => om.mat.keep g
  have G1 : Hid (w.grownBy w1 none) := grown_trans (lit1W_grown w _ _) g1
  clear om sp g1 e hn E7
  go_wp2_with fail
  refine (GG.out _).mono ?_
  rintro e w2 ⟨p2, n2, c2, u2', rfl, om, sp, g2⟩
  obtain ⟨_, _, _, e, hn⟩ := om.mat.row.opened
  obtain rfl : n2 = 3 := by
    injection e with _ e2 _
    have := om.same
    simp at this
    omega
  obtain ⟨gg, rfl, _⟩ := om.place (k := 0) (by decide)
  have M2 : Hid (∀ w', w2.grownBy w' none → Mat w' (.slice (some ⟨gg, 2, none⟩) 1 (c2 - 2)) (u2'.drop 2) [[142, 244]]) := fun w' g => (om.mat.keep g).tail (k := 2) (by decide)
  have HC2 : Hid (3 ≤ c2) := by
    obtain ⟨_, cp, e, h3, _⟩ := om.mat.row.form
    injection e with _ _ e3
    have := om.same
    simp at this
    show 3 ≤ c2
    omega
  have F2 : Hid (w.grownBy w2 none ∧ w1.grownBy w2 none) := ⟨grown_trans G1.out g2, g2⟩
  clear om sp g2 e hn GG G1
  go_wp2_with fail
  refine (E2.out _ _ _ (litW_mat w2 w2.heap.size [5] [9] rfl (by decide) (by decide) (by decide) (by decide))).mono ?_
  rintro e w3 ⟨p3, n3, c3, u3', rfl, om, sp, g3⟩
  obtain ⟨_, _, _, e, hn⟩ := om.mat.row.opened
  obtain rfl : n3 = 3 := by
    injection e with _ e2 _
    have := om.same
    simp at this
    omega
  obtain ⟨ge, rfl, _⟩ := om.place (k := 0) (by decide)
  have g3' := grown_trans (litW_grown w2 w2.heap.size [5] [9]) g3
  have F3 : Hid (w.grownBy w3 none ∧ w1.grownBy w3 none ∧ w2.grownBy w3 none) := ⟨grown_trans F2.out.1 g3', grown_trans F2.out.2 g3', g3'⟩
  have K3 : Hid (∀ w', w3.grownBy w' none → Mat w' (.slice (some ⟨ge, 0, none⟩) 3 c3) u3' [[5], [9], [sumOf59]]) := fun w' g => om.mat.keep g
  clear om sp g3 e hn E2 g3' F2
  have KC : Hid (∃ pa ca pb cb, ∀ w', w3.grownBy w' none → w'.cell? ⟨ge, 2, none⟩ = some (.slice pa 1 ca) ∧ w'.cell? ⟨ge, 0, none⟩ = some (.slice pb 1 cb) ∧ Vec w' (.slice pa 1 ca) [sumOf59] ∧ Vec w' (.slice pb 1 cb) [5]) := by
    have m := K3.out _ (World.grownBy.refl _ _)
    obtain ⟨pa, na, ca, ea, hna⟩ := (m.vec 2 (by decide)).opened
    obtain ⟨pb, nb, cb, eb, hnb⟩ := (m.vec 0 (by decide)).opened
    have hna' : na = 1 := hna
    have hnb' : nb = 1 := hnb
    subst hna' hnb'
    refine ⟨pa, ca, pb, cb, fun w' g => ?_⟩
    have m' := K3.out _ g
    have hu : u3'.length = 3 := m'.same
    obtain ⟨b1, o1, e1, h1⟩ := m'.row.spot (k := 2) (by omega)
    obtain ⟨b2, o2, e2, h2⟩ := m'.row.spot (k := 0) (by omega)
    injection e1 with e1
    injection e1 with e1 e1'
    injection e2 with e2
    injection e2 with e2 e2'
    subst e1 e1' e2 e2'
    have v1 := m'.vec 2 (by decide)
    have v2 := m'.vec 0 (by decide)
    rw [ea] at h1 v1
    rw [eb] at h2 v2
    exact ⟨h1, h2, v1, v2⟩
  obtain ⟨pa, ca, pb, cb, kc⟩ := KC.out
  have KK : Hid _ := kc
  clear KC kc
  go_wp2_with fail
  have HS : Hid (∀ w', w3.grownBy w' none → w'.cell? ⟨ge, 2, none⟩ = some (.slice pa 1 ca) ∧ w'.cell? ⟨ge, 0, none⟩ = some (.slice pb 1 cb)) := fun w' g => ⟨(KK.out _ g).1, (KK.out _ g).2.1⟩
  have GD : Hid (w3.grownBy w3.drew none) := grown_drewN _ 1
  have MC : ∀ (W : World) (g : Nat), w3.grownBy W none → W.heap[g]? = some (.cells #[.slice pa 1 ca, .slice pb 1 cb] 39 (0, 0)) → Mat W (.slice (some ⟨g, 0, none⟩) 2 2) [.slice pa 1 ca, .slice pb 1 cb] [[sumOf59], [5]] := fun W g gr hg => ⟨cells_lit hg rfl (by simp), rfl, fun j hj => by
    have k := (KK.out _ gr).2.2
    match j, hj with
    | 0, _ => exact k.1
    | 1, _ => exact k.2⟩
  have CA : Hid (∀ ra rc W, ra = Value.slice (some ⟨w3.heap.size, 0, none⟩) 2 2 → rc = Value.slice (some ⟨w3.heap.size + 1, 0, none⟩) 2 2 → W = ((w3.alloc (.cells #[.int .i64 2, .int .i64 0] 3)).alloc (.cells #[.slice pa 1 ca, .slice pb 1 cb] 39)).drew → Calls Try.prog 21 #[.int .i64 2, .int .i64 3, ra, rc] W fun e w' => ∃ p m c us, e = .returned (.tuple #[.slice p m c, .int .i64 0]) ∧ Mat w' (.slice p m c) us [[5], [9]] ∧ w3.grownBy w' none) := by
    rintro ra rc W rfl rfl rfl
    have gr : w3.grownBy ((w3.alloc (.cells #[.int .i64 2, .int .i64 0] 3)).alloc (.cells #[.slice pa 1 ca, .slice pb 1 cb] 39)).drew none := gb_drew (gb_alloc (gb_alloc (World.grownBy.refl _ _) _) _)
    have h1 : ((w3.alloc (.cells #[.int .i64 2, .int .i64 0] 3)).alloc (.cells #[.slice pa 1 ca, .slice pb 1 cb] 39)).drew.heap[w3.heap.size]? = some (.cells #[.int .i64 2, .int .i64 0] 3) := heap_alloc2_old w3 _ _
    have h2 : ((w3.alloc (.cells #[.int .i64 2, .int .i64 0] 3)).alloc (.cells #[.slice pa 1 ca, .slice pb 1 cb] 39)).drew.heap[w3.heap.size + 1]? = some (.cells #[.slice pa 1 ca, .slice pb 1 cb] 39) := heap_alloc2_new w3 _ _
    refine (DD.out _ _ _ _ (ivec_lits (ls := [2, 0]) h1 rfl (by decide)) (MC _ _ gr h2)).mono ?_
    rintro e w' ⟨p, m, c, us, h1, h2, h3⟩
    exact ⟨p, m, c, us, h1, h2, grown_trans gr h3⟩
  have CB : Hid (∀ ra rc W, ra = Value.slice (some ⟨w3.heap.size + 1, 0, none⟩) 2 2 → rc = Value.slice (some ⟨w3.heap.size, 0, none⟩) 2 2 → W = ((w3.alloc (.cells #[.slice pa 1 ca, .slice pb 1 cb] 39)).alloc (.cells #[.int .i64 2, .int .i64 0] 3)).drew → Calls Try.prog 21 #[.int .i64 2, .int .i64 3, ra, rc] W fun e w' => ∃ p m c us, e = .returned (.tuple #[.slice p m c, .int .i64 0]) ∧ Mat w' (.slice p m c) us [[5], [9]] ∧ w3.grownBy w' none) := by
    rintro ra rc W rfl rfl rfl
    have gr : w3.grownBy ((w3.alloc (.cells #[.slice pa 1 ca, .slice pb 1 cb] 39)).alloc (.cells #[.int .i64 2, .int .i64 0] 3)).drew none := gb_drew (gb_alloc (gb_alloc (World.grownBy.refl _ _) _) _)
    have h1 : ((w3.alloc (.cells #[.slice pa 1 ca, .slice pb 1 cb] 39)).alloc (.cells #[.int .i64 2, .int .i64 0] 3)).drew.heap[w3.heap.size + 1]? = some (.cells #[.int .i64 2, .int .i64 0] 3) := heap_alloc2_new w3 _ _
    have h2 : ((w3.alloc (.cells #[.slice pa 1 ca, .slice pb 1 cb] 39)).alloc (.cells #[.int .i64 2, .int .i64 0] 3)).drew.heap[w3.heap.size]? = some (.cells #[.slice pa 1 ca, .slice pb 1 cb] 39) := heap_alloc2_old w3 _ _
    refine (DD.out _ _ _ _ (ivec_lits (ls := [2, 0]) h1 rfl (by decide)) (MC _ _ gr h2)).mono ?_
    rintro e w' ⟨p, m, c, us, h1, h2, h3⟩
    exact ⟨p, m, c, us, h1, h2, grown_trans gr h3⟩
  clear MC DD K3
  go_region_held3 (fun w' => w'.cell? ⟨ge, 2, none⟩ = some (.slice pa 1 ca) ∧ w'.cell? ⟨ge, 0, none⟩ = some (.slice pb 1 cb)) (first | exact HS.out _ GD.out | exact HS.out _ (gb_alloc GD.out _) | exact HS.out _ (gb_alloc (gb_alloc GD.out _) _) | exact HS.out _ (gb5.out)) (first | (go_at_call 21; (first | refine (CA.out _ _ _ (by with_reducible rfl) (by with_reducible rfl) (by with_reducible rfl)).mono ?_ | refine (CB.out _ _ _ (by with_reducible rfl) (by with_reducible rfl) (by with_reducible rfl)).mono ?_); rintro e w5 ⟨p5, n5, c5, u5', rfl, m5, g5⟩; have M5 : Hid (∀ w', w5.grownBy w' none → Mat w' (.slice p5 n5 c5) u5' [[5], [9]]) := (fun w' g => m5.keep g); have gb5 : Hid (w3.grownBy w5 none) := g5; clear m5 g5))
  all_goals
    clear CA CB HS GD
    have N1 : Hid (Mat (lit3W w5 w5.heap.size [7] [7] [m7]) (.slice p1 3 c1) u1 [[7], [7], [m7]]) := M1.out _ (grown_trans (grown_trans F3.out.2.1 gb5.out) (lit3W_grown _ _ _ _ _))
    have N2 : Hid (∀ w', w5.grownBy w' none → Mat w' (.slice (some ⟨gg, 2, none⟩) 1 (c2 - 2)) (u2'.drop 2) [[142, 244]]) := fun w' g => M2.out _ (grown_trans (grown_trans F3.out.2.2 gb5.out) g)
    have G5 : Hid (w.grownBy w5 none) := grown_trans F3.out.1 gb5.out
    have hc2 : 3 ≤ c2 := HC2.out
    have hc2' : (3 : Int) ≤ (c2 : Int) := by omega
    have L3 : Hid (Mat (lit3W w5 w5.heap.size [7] [7] [m7]) (.slice (some ⟨w5.heap.size + 1 + 1 + 1, 0, none⟩) 3 3) [.slice (some ⟨w5.heap.size, 0, none⟩) 1 1, .slice (some ⟨w5.heap.size + 1, 0, none⟩) 1 1, .slice (some ⟨w5.heap.size + 1 + 1, 0, none⟩) 1 1] [[7], [7], [m7]]) := lit3W_mat w5 w5.heap.size [7] [7] [m7] rfl (by decide) (by decide) (by simp [m7_lt]) (by decide) (by decide) (by simp)
    clear M1 M2 F3 gb5 KK HC2
    go_wp2_with fail
    refine (mul_7 _).mono ?_
    rintro e w6 ⟨rfl, hw⟩
    obtain rfl := hw.symm
    clear hw
    go_wp2_with fail
    refine (refSame_any N1.out L3.out).mono ?_
    rintro e w7 ⟨rfl, g7⟩
    rw [show decide ([[7], [7], [m7]] = [[7], [7], [m7]]) = true from decide_eq_true rfl]
    have G7 : Hid (w.grownBy w7 none ∧ w5.grownBy w7 none) := ⟨grown_trans (grown_trans G5.out (lit3W_grown _ _ _ _ _)) g7, grown_trans (lit3W_grown _ _ _ _ _) g7⟩
    clear g7 N1 L3 G5
    go_wp2_with fail
    have m1 := lit1W_mat w7 w7.heap.size [142, 244] rfl (by decide) (by decide)
    have g0 := lit1W_grown w7 w7.heap.size [142, 244]
    refine (refSame_any (N2.out _ (grown_trans G7.out.2 g0)) m1).mono ?_
    rintro e w8 ⟨rfl, g8⟩
    have G8 : Hid (w.grownBy w8 none ∧ w5.grownBy w8 none) := ⟨grown_trans (grown_trans G7.out.1 g0) g8, grown_trans (grown_trans G7.out.2 g0) g8⟩
    clear m1 g0 g8 N2 G7
    go_wp2_with fail
    have m1 := litW_mat w8 w8.heap.size [5] [9] rfl (by decide) (by decide) (by decide) (by decide)
    have g0 := litW_grown w8 w8.heap.size [5] [9]
    refine (refSame_any (M5.out _ (grown_trans G8.out.2 g0)) m1).mono ?_
    rintro e w9 ⟨rfl, g9⟩
    have G9 : Hid (w.grownBy w9 none) := grown_trans (grown_trans G8.out.1 g0) g9
    clear m1 g0 g9 M5 G8
    go_wp2
    go_ret
    exact ⟨rfl, G9.out⟩
end Go.Proofs.Ytdeajclghlbhcaa
