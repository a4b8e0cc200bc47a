/- Packed: Inver, Invert, Wakes, Enc4, RowsM, TwoM, RefInv, Lift, Ints. -/
import Derived.Defers
import Derived.Recover
import Derived.Laws.Pointers
import Derived.Test.YtfjlpifaaknmpaaGreatSy1
import Derived.Test.YtfjlpifaaknmpaaGreatSy2
import Derived.Test.YtfjlpifaaknmpaaGreatSy3
import Derived.Test.YtfjlpifaaknmpaaGreatSy4
import Derived.Test.YtfjlpifaaknmpaaGreatSy18
import Derived.Deep.RegionHeld3
import Derived.Test.YtfjlpifaaknmpaaGreatSy5
import Derived.Test.YtfjlpifaaknmpaaGreatSy11
import Derived.Test.YtfjlpifaaknmpaaGreatSy17
import Derived.Test.YtfjlpifaaknmpaaGreatRows
import Derived.WalkKit
import Derived.ProofKit
import Derived.OpenShut
import Derived.ChangeOld
import Derived.Below
import Derived.SizedLaws
import Derived.Deep.Matrix
/- The contracts of matrix.attempt and Invert: a panic within, caught and known. -/
set_option maxRecDepth 100000
namespace Go.Proofs.YtfjlpifaaknmpaaGreat
open Go.RowKit

theorem catch_idle (p q : Addr) (w : World) :
    CallsD Tryz.prog 173 #[.pointer (some p), .pointer (some q)] .returning w fun e u' w' => e = .returned (.tuple #[]) ∧ u' = .returning ∧ w' = w := by
  refine callsD_of_wpS Tryz.func173 rfl fun c₀ cs hu => ?_
  apply wpS_seq
  apply wpS_region
  simp [wpOpsS, go_sem, recoverD, hu, Tryz.ntmps173, Exit.thenS]
  refine wpS_of_wp ?_
  change Code.wp _ _ _ { tmps := #[.pointer (some p), .pointer (some q), .nilIface, undef, undef, .nilIface, undef, undef, undef, undef, undef, undef, undef, undef, undef, undef], defers := [] } _
  go_wp2
  cases c₀
  simp_all [bodyPostS, results, Tryz.results173]

theorem alloc_cell {w : World} {a : Addr} {v : Value} (o : Obj) (h : w.cell? a = some v) : (w.alloc o).cell? a = some v := (World.grownBy_alloc w o none).cell h (by simp)
theorem alloc_frozen {w : World} {a : Addr} {v : Value} (o : Obj) (h : w.cell? a = some v) (f : w.frozen? a = false) : (w.alloc o).frozen? a = false :=
  (World.frozen?_of_block ((World.grownBy_alloc w o none).block a.block (World.block_lt_of_cell? w a h) (by simp))).trans f

/-- An inverse, in new memory. -/
structure Ans (n : Nat) (X : List (List Nat)) (w w' : World) (v : Value) (us : List Value) (Y : List (List Nat)) : Prop where
  om : OwnMat w.heap.size w' v us Y
  sep : Sep us
  shape : Shape Y n n
  inv : MX.Inv n (at2 X) (at2 Y)
  grown : w.grownBy w' none

theorem solve_yes {w : World} {m : Value} {vs : List Value} {X : List (List Nat)} {n : Nat} (mr : Mat w m vs X) (hs : Shape X n n) (h1 : 1 ≤ n) (h2 : n ≤ 255) (hi : ¬ NoInv n (at2 X)) :
    Calls Tryz.prog 163 #[m] w fun e w' => ∃ p k c us Y, e = .returned (.slice p k c) ∧ Ans n X w w' (.slice p k c) us Y :=
  (solve_any mr hs h1 h2).mono fun e w' h => by
    rcases h with ⟨g, ⟨v, us, Y, rfl, om, sp, sh, iv⟩ | ⟨_, no⟩⟩
    · obtain ⟨p, k, c, rfl, _⟩ := om.mat.row.opened
      exact ⟨p, k, c, us, Y, rfl, om, sp, sh, iv, g⟩
    · exact absurd no hi
theorem inner_yes {w : World} {ga : Nat} {m : Value} {vs : List Value} {X : List (List Nat)} {n : Nat} (hc : w.cell? ⟨ga, 0, none⟩ = some m) (mr : Mat w m vs X) (hs : Shape X n n) (h1 : 1 ≤ n) (h2 : n ≤ 255) (hi : ¬ NoInv n (at2 X)) :
    Calls Tryz.prog 162 #[.pointer (some ⟨ga, 0, none⟩)] w fun e w' => ∃ p k c us Y, e = .returned (.slice p k c) ∧ Ans n X w w' (.slice p k c) us Y := by
  obtain ⟨q, N, cap, rfl, hN⟩ := mr.row.opened
  have SO : Hid (∀ r, r = Value.slice q N cap → Calls Tryz.prog 163 #[r] w fun e w' => ∃ p k c us Y, e = .returned (.slice p k c) ∧ Ans n X w w' (.slice p k c) us Y) := fun r e => e ▸ solve_yes mr hs h1 h2 hi
  clear hN mr hs hi
  go_enter Tryz.func162, Tryz.ntmps162
  go_wp2_with (go_at_call 163; refine (SO.out _ (by with_reducible rfl)).mono ?_; rintro e w1 ⟨p, k, c, us, Y, rfl, an⟩; have AN : Hid (Ans n X w w1 (.slice p k c) us Y) := an; clear an)
  go_ret
  exact ⟨p, k, c, us, Y, rfl, AN.out⟩

theorem OwnMat.keptLow {B r : Nat} {w w' : World} {v : Value} {us : List Value} {X : List (List Nat)} (h : OwnMat B w v us X) (hr : r < B) (g : w.grownBy w' (some r)) : OwnMat B w' v us X := by
  have ap : ∀ u : Value, Lo B u → u.ownBlock = none ∨ u.ownBlock ≠ some r := fun u hu => by
    cases hk : u.ownBlock with
    | none => exact .inl rfl
    | some k => exact .inr fun e => by have := hu k hk; have := Option.some.inj e; omega
  exact ⟨h.len, h.row.kept g (ap _ h.lo), h.same, fun j hj => (h.vec j hj).kept g (ap _ (h.vec j hj).lo)⟩

theorem cellOf_alloc (w : World) (x : Value) (t : TypeId) : (w.alloc (.cells #[x] t)).cell? ⟨w.heap.size, 0, none⟩ = some x ∧ (w.alloc (.cells #[x] t)).frozen? ⟨w.heap.size, 0, none⟩ = false := by
  have h := heap_alloc_new w (.cells #[x] t)
  exact ⟨by unfold World.cell?; rw [h]; rfl, by unfold World.frozen?; rw [h]; rfl⟩
theorem grown_frozen {w w' : World} (g : w.grownBy w' none) {a : Addr} {v : Value} (h : w.cell? a = some v) (f : w.frozen? a = false) : w'.frozen? a = false :=
  (World.frozen?_of_block (g.block a.block (World.block_lt_of_cell? w a h) (by simp))).trans f
theorem grown_set (w : World) (g k : Nat) (v : Value) : w.grownBy (w.setCell ⟨g, k, none⟩ v) (some g) := ⟨rfl, rfl, rfl, by simp, fun i hi hne => Below.heap_setCell _ _ _ _ (by simpa using hne)⟩

/-- The world in which work is called: two named results lie above. -/
abbrev att (w : World) : World := (w.alloc (.cells #[.slice none 0 0] 181)).alloc (.cells #[.int .i64 0] 44)
theorem att_facts {w w2 : World} (g : (att w).grownBy w2 none) : w2.cell? ⟨w.heap.size, 0, none⟩ = some (.slice none 0 0) ∧ w2.frozen? ⟨w.heap.size, 0, none⟩ = false ∧ w2.cell? ⟨w.heap.size + 1, 0, none⟩ = some (.int .i64 0) ∧ w2.frozen? ⟨w.heap.size + 1, 0, none⟩ = false := by
  have c1 := cellOf_alloc w (.slice none 0 0) 181
  have c2 := cellOf_alloc (w.alloc (.cells #[.slice none 0 0] 181)) (.int .i64 0) 44
  rw [World.size_alloc] at c2
  have d1 := alloc_cell (.cells #[.int .i64 0] 44) c1.1
  have d2 := alloc_frozen (.cells #[.int .i64 0] 44) c1.1 c1.2
  exact ⟨g.cell d1 (by simp), grown_frozen g d1 d2, g.cell c2.1 (by simp), grown_frozen g c2.1 c2.2⟩

set_option maxHeartbeats 1600000 in
theorem attempt_yes {w : World} {ga : Nat} {m : Value} {vs : List Value} {X : List (List Nat)} {n : Nat} (hc : w.cell? ⟨ga, 0, none⟩ = some m) (mr : Mat w m vs X) (hs : Shape X n n) (h1 : 1 ≤ n) (h2 : n ≤ 255) (hi : ¬ NoInv n (at2 X)) :
    Calls Tryz.prog 161 #[.func (.func 162) #[] #[.pointer (some ⟨ga, 0, none⟩)]] w fun e w' => ∃ p k c us Y, e = .returned (.tuple #[.slice p k c, .int .i64 0]) ∧ Ans n X w w' (.slice p k c) us Y := by
  have hmf : ∀ (fn : Fn) (first cap : Array Value) (w : World), (Instr.makeFunc fn first cap).run Tryz.prog w = .ok (.func fn first cap) w := fun _ _ _ _ => rfl
  have IN : Hid (Calls Tryz.prog 162 #[.pointer (some ⟨ga, 0, none⟩)] (att w) fun e w' => ∃ p k c us Y, e = .returned (.slice p k c) ∧ Ans n X (att w) w' (.slice p k c) us Y) :=
    inner_yes (alloc_cell _ (alloc_cell _ hc)) ((mr.keep (World.grownBy_alloc _ _ none)).keep (World.grownBy_alloc _ _ none)) hs h1 h2 hi
  clear hc mr hs hi
  go_enter_defers Tryz.func161, Tryz.ntmps161
  go_wp2_with (go_at_call 162; refine IN.out.mono ?_; rintro e w2 ⟨p, k, c, us, Y, rfl, an⟩; obtain ⟨f1, f2, f3, f4⟩ := att_facts an.grown; have AN : Hid (Ans n X (att w) w2 (.slice p k c) us Y) := an; clear an)
  have R : Hid (Ans n X w ((w2.setCell ⟨w.heap.size, 0, none⟩ (.slice p k c)).setCell ⟨w.heap.size + 1, 0, none⟩ (.int .i64 0)) (.slice p k c) us Y) := by
    obtain ⟨om, sp, sh, iv, gr⟩ := AN.out
    have hsz : (att w).heap.size = w.heap.size + 2 := by simp [att]
    have g0 : w.grownBy (att w) none := grown_trans (World.grownBy_alloc _ _ none) (World.grownBy_alloc _ _ none)
    refine ⟨((om.keptLow (by omega) (grown_set _ _ _ _)).keptLow (by omega) (grown_set _ _ _ _)).down (by omega), sp, sh, iv, ?_⟩
    exact grown_new (grown_new (grown_trans g0 gr) (grown_set _ _ _ _) (fun i e => by have := Option.some.inj e; omega)) (grown_set _ _ _ _) (fun i e => by have := Option.some.inj e; omega)
  have k1 : ((w2.setCell ⟨w.heap.size, 0, none⟩ (.slice p k c)).setCell ⟨w.heap.size + 1, 0, none⟩ (.int .i64 0)).cell? ⟨w.heap.size, 0, none⟩ = some (.slice p k c) := by
    rw [World.cell?_setCell_other _ _ _ _ (by simp), World.cell?_setCell_same _ _ _ f1]
  have k2 : ((w2.setCell ⟨w.heap.size, 0, none⟩ (.slice p k c)).setCell ⟨w.heap.size + 1, 0, none⟩ (.int .i64 0)).cell? ⟨w.heap.size + 1, 0, none⟩ = some (.int .i64 0) := by
    rw [World.cell?_setCell_same _ _ _ (by rw [World.cell?_setCell_other _ _ _ _ (by simp)]; exact f3)]
  clear AN IN f1 f2 f3 f4
  generalize (w2.setCell ⟨w.heap.size, 0, none⟩ (.slice p k c)).setCell ⟨w.heap.size + 1, 0, none⟩ (.int .i64 0) = w3 at *
  refine leaves_cons (f := 173) (args := #[.pointer (some ⟨w.heap.size, 0, none⟩), .pointer (some ⟨w.heap.size + 1, 0, none⟩)]) (by simp) (by simp [go_sem]) ?_
  refine (catch_idle _ _ _).mono ?_
  rintro e u' w'' ⟨rfl, rfl, rfl⟩
  refine ⟨.tuple #[.slice p k c, .int .i64 0], by simp [results, go_sem, k1, k2], p, k, c, us, Y, rfl, R.out⟩

end Go.Proofs.YtfjlpifaaknmpaaGreat

/- The contract of matrix.Invert. -/
set_option maxRecDepth 100000
namespace Go.Proofs.YtfjlpifaaknmpaaGreat
open Go.RowKit

/-- The world in which Invert works: its argument lies in a cell of its own. -/
abbrev boxed (w : World) (m : Value) : World := w.alloc (.cells #[m] 181)

set_option maxHeartbeats 1600000 in
theorem invert_ok {w : World} {m : Value} {vs : List Value} {X : List (List Nat)} (mr : Mat w m vs X) (hx : mayB X = true) (hsq : X.length = (X.getD 0 []).length) {R : Ending → World → Prop}
    (h : Calls Tryz.prog 161 #[.func (.func 162) #[] #[.pointer (some ⟨w.heap.size, 0, none⟩)]] (boxed w m).drew fun e w' => ∃ a b, e = .returned (.tuple #[a, b]) ∧ R e w') :
    Calls Tryz.prog 143 #[m] w fun e w' => R e w' := by
  have hmf : ∀ (fn : Fn) (first cap : Array Value) (w : World), (Instr.makeFunc fn first cap).run Tryz.prog w = .ok (.func fn first cap) w := fun _ _ _ _ => rfl
  obtain ⟨q, N, cap, rfl, hN⟩ := mr.row.opened
  have hb := (cellOf_alloc w (.slice q N cap) 181).1
  have MA : ∀ w', w.grownBy w' none → Calls Tryz.prog 160 #[.slice q N cap] w' fun e w'' => e = .returned (.bool (mayB X)) ∧ w'' = w' := fun w' g => may_any (mr.keep g)
  have G1 : Hid (w.grownBy (w.alloc (.cells #[.slice q N cap] 181)).drew none) := grown_trans (World.grownBy_alloc _ _ none) (grown_drewN _ 1)
  rw [hx] at MA
  have HA : Hid (∀ r w', r = Value.slice q N cap → w.grownBy w' none → Calls Tryz.prog 160 #[r] w' fun e w'' => e = .returned (.bool true) ∧ w'' = w') := fun r w' e g => e ▸ MA w' g
  have sx := may_spec hx
  have hsa := mr.same
  obtain ⟨b0, off, rfl, hc⟩ := mr.row.spot (k := 0) (by omega)
  obtain ⟨p0, n0, c0, e0, hn0⟩ := (mr.vec 0 (by omega)).opened
  rw [e0] at hc
  have hc1 := alloc_cell (.cells #[.slice (some ⟨b0, off, none⟩) N cap] 181) (show w.cell? ⟨b0, off, none⟩ = some (.slice p0 n0 c0) from hc)
  have hpos : (0 : Int) < (N : Int) := by omega
  have hposN : 0 < N := by omega
  have hposZ : (0 : Int) ≤ 0 := by omega
  have hne : ((N : Int) != (n0 : Int)) = false := by simp; omega
  have AT : Hid (∀ r, r = Value.func (.func 162) #[] #[.pointer (some ⟨w.heap.size, 0, none⟩)] → Calls Tryz.prog 161 #[r] (w.alloc (.cells #[.slice (some ⟨b0, off, none⟩) N cap] 181)).drew fun e w' => ∃ a b, e = .returned (.tuple #[a, b]) ∧ R e w') := fun r e => e ▸ h
  clear MA hN h mr hc e0 hn0 hsa sx hsq
  go_enter Tryz.func143, Tryz.ntmps143
  go_wp2_with fail
  go_region_held3 (fun w' => w'.cell? ⟨w.heap.size, 0, none⟩ = some (.slice (some ⟨b0, off, none⟩) N cap) ∧ w'.cell? ⟨b0, off, none⟩ = some (.slice p0 n0 c0)) (exact ⟨hb, hc1⟩) (first | (go_at_call 160; refine (HA.out _ _ (by with_reducible rfl) G1.out).mono ?_; rintro e w1 ⟨rfl, hw⟩; obtain rfl := hw.symm; clear hw))
  all_goals
    go_wp2_with (go_at_call 161; refine (AT.out _ (by with_reducible rfl)).mono ?_; rintro e w1 ⟨ra, rb, rfl, hr⟩; have HR : Hid (R (.returned (.tuple #[ra, rb])) w1) := hr; clear hr)
    exact HR.out

theorem invert_yes {w : World} {m : Value} {vs : List Value} {X : List (List Nat)} (mr : Mat w m vs X) (hx : mayB X = true) (hsq : X.length = (X.getD 0 []).length) (hi : ¬ NoInv X.length (at2 X)) :
    Calls Tryz.prog 143 #[m] w fun e w' => ∃ p k c us Y, e = .returned (.tuple #[.slice p k c, .int .i64 0]) ∧ Ans X.length X w w' (.slice p k c) us Y := by
  have sx := may_spec hx
  have hs : Shape X X.length X.length := by have := sx.2.2.2.2; rw [← hsq] at this; exact this
  have g1 : w.grownBy (boxed w m).drew none := grown_trans (World.grownBy_alloc _ _ none) (grown_drewN _ 1)
  refine invert_ok mr hx hsq (R := fun e w' => ∃ p k c us Y, e = .returned (.tuple #[.slice p k c, .int .i64 0]) ∧ Ans X.length X w w' (.slice p k c) us Y) ?_
  refine (attempt_yes (m := m) (show (boxed w m).drew.cell? _ = _ from (cellOf_alloc w m 181).1) (mr.keep g1) hs sx.1 sx.2.1 hi).mono ?_
  rintro e w' ⟨p, k, c, us, Y, rfl, an⟩
  exact ⟨_, _, rfl, p, k, c, us, Y, rfl, ⟨an.om.down g1.size, an.sep, an.shape, an.inv, grown_trans g1 an.grown⟩⟩

end Go.Proofs.YtfjlpifaaknmpaaGreat

/- hayricklaw03.awake: it returns true; literals of two rows as matrices; matrices that are alike place by place are one. -/
set_option maxRecDepth 100000
namespace Go.Proofs.YtfjlpifaaknmpaaGreat
open Go.RowKit

theorem gd_of (xs : List Nat) {j : Nat} (h : j < xs.length) : xs.getD j 0 = xs[j] := by simp [List.getD, h]

end Go.Proofs.YtfjlpifaaknmpaaGreat

/- Contracts of code.coded, Encode, One and Generator. -/
set_option linter.unusedVariables false
set_option maxRecDepth 100000
namespace Go.Proofs.YtfjlpifaaknmpaaGreat
open Go.RowKit

/-- The code's number of chunk i at place t. -/
def codeAt (X : List (List Nat)) (k i t : Nat) : Nat := MX.xs (fun j => M.mul (MX.gen k i j) (at2 X j t)) k
/-- Chunk i of the code of data. -/
def codeRow (X : List (List Nat)) (k L i : Nat) : List Nat := (List.range L).map (codeAt X k i)
/-- The code of data. -/
def codeList (X : List (List Nat)) (k n L : Nat) : List (List Nat) := (List.range n).map (codeRow X k L)
theorem code_of_gen (X : List (List Nat)) (k L i : Nat) : combTo (genRow k i) X L k = codeRow X k L i := by
  refine List.map_congr_left fun t _ => MX.xs_congr fun j hj => ?_
  rw [genRow_get hj]
theorem code_low {X : List (List Nat)} {k L i : Nat} (hX : Shape X k L) (hs : ∀ i j, at2 X i j < 256) (hi : i < k) : codeRow X k L i = X.getD i [] := by
  have hl := hX.row i hi
  apply List.ext_getElem
  · simp only [codeRow, List.length_map, List.length_range]; exact hl.symm
  · intro t h1 h2
    have e : codeAt X k i t = at2 X i t := by
      unfold codeAt
      rw [MX.xs_one (p := i) hi (fun j _ hne => by unfold MX.gen; rw [if_pos hi]; unfold MX.one; rw [if_neg (fun c => hne c.symm), M.zero_mul])]
      unfold MX.gen
      rw [if_pos hi]
      unfold MX.one
      rw [if_pos rfl, M.one_mul (hs i t)]
    simp only [codeRow, List.getElem_map, List.getElem_range, e]
    exact gd_of _ h2
theorem mat_small {w : World} {r : Value} {vs : List Value} {X : List (List Nat)} (mr : Mat w r vs X) (i j : Nat) : at2 X i j < 256 := by
  unfold at2
  by_cases h : i < X.length
  · exact getD_small (mr.vec i h).small j
  · have e : X.getD i [] = [] := by simp [List.getD, List.getElem?_eq_none (by omega : X.length ≤ i)]
    rw [e]; simp

/-- A list's first k are made, the others are empty. -/
def upTo (f : Nat → List Nat) (n k : Nat) : List (List Nat) := (List.range n).map fun i => if i < k then f i else []
theorem upTo_len (f : Nat → List Nat) (n k : Nat) : (upTo f n k).length = n := by simp [upTo]
theorem upTo_zero (f : Nat → List Nat) (n : Nat) : upTo f n 0 = List.replicate n [] := by
  apply List.ext_getElem
  · simp [upTo]
  · intro i h1 h2
    simp [upTo]
theorem upTo_all (f : Nat → List Nat) (n : Nat) : upTo f n n = (List.range n).map f := List.map_congr_left fun i hi => if_pos (List.mem_range.1 hi)
theorem upTo_set (f : Nat → List Nat) (n k : Nat) : (upTo f n k).set k (f k) = upTo f n (k + 1) := by
  apply List.ext_getElem
  · simp [upTo]
  · intro i h1 h2
    by_cases e : k = i
    · subst e; simp [upTo]
    · by_cases l : i < k
      · simp [upTo, e, l, show i < k + 1 from by omega]
      · simp [upTo, e, l, show ¬ i < k + 1 from by omega]

theorem wpList_make_chunks {w : World} {ops : Array Oper} {rest : List Oper} {o : Oper} {a : Act} {Q : Exit → Act → World → Prop} (hgd : o.guard = none) (l c : Operand)
    (ho : o.op = Op.makeSlice 87 l c) (n : Nat) (hel : a.eval l = .int .i64 (n : Int)) (hec : a.eval c = .int .i64 (n : Int)) (hn : n * 24 ≤ 140737488351232)
    (h : ∀ w1 p, OwnMat w.heap.size w1 (.slice p n n) (List.replicate n (.slice none 0 0)) (List.replicate n []) → w.grownBy w1 none → wpList Tryz.prog ops Q rest (a.put o.dst (.slice p n n)) w1) : wpList Tryz.prog ops Q (o :: rest) a w := by
  obtain ⟨i0, hi, hz0, hz1, hz2⟩ := info_parts Tryz.info22
  refine wpList_make_row _ hgd l c 87 ho 40 i0 (.slice none 0 0) Tryz.underlying87 hi hz0 hz1 rfl _ _ n hel hec (by rw [hz2]; omega) (by omega) ?_
  exact h _ _ (made_rows hn rfl) (World.grownBy_alloc _ _ none)

set_option maxHeartbeats 1600000 in
theorem coded_any {w : World} {r : Value} {vs : List Value} {X : List (List Nat)} {k L i : Nat} (mr : Mat w r vs X) (hX : Shape X k L) (h1 : 1 ≤ k) (h2 : k ≤ 255) (hi : i < 256) :
    Calls Tryz.prog 95 #[.int .i64 (i : Int), r] w fun e w' => ∃ p n c, e = .returned (.slice p n c) ∧ Own w.heap.size w' (.slice p n c) (codeRow X k L i) ∧ w.grownBy w' none := by
  have hk := hX.len
  obtain ⟨q, N, cap, rfl, hN⟩ := mr.row.opened
  have hs := mr.same
  obtain rfl : N = k := by omega
  by_cases hlow : i < N
  · obtain ⟨b, off, rfl, hc⟩ := mr.row.spot (k := i) (by omega)
    have hv := mr.vec i (by omega)
    have HE : Hid (codeRow X N L i = X.getD i []) := code_low hX (mat_small mr) hlow
    obtain ⟨pi, ni, ci, ei, hni⟩ := hv.opened
    rw [ei] at hc hv
    have CC : Hid (Calls Tryz.prog 120 #[.slice pi ni ci] w fun e w' => ∃ p n c, e = .returned (.slice p n c) ∧ Own w.heap.size w' (.slice p n c) (codeRow X N L i) ∧ w.grownBy w' none) := by
      rw [HE.out]
      exact copied_any hv
    have i1 : (i : Int) < (N : Int) := by omega
    have i3 : (0 : Int) ≤ (i : Int) := by omega
    clear hv ei hni hs mr hX hN HE hk
    go_enter Tryz.func95, Tryz.ntmps95
    go_wp2_with (go_at_call 120; refine CC.out.mono ?_; rintro e w1 ⟨p1, n1, c1, rfl, o1, g1⟩; have O1 : Hid _ := o1; have G1 : Hid _ := g1; clear o1 g1)
    go_ret
    exact ⟨p1, n1, c1, rfl, O1.out, G1.out⟩
  · have i1 : ¬ (i : Int) < (N : Int) := by omega
    have RR : Hid (∀ w, Calls Tryz.prog 122 #[.int .i64 (N : Int), .int .i64 (i : Int)] w fun e w' => ∃ p n c, e = .returned (.slice p n c) ∧ Own w.heap.size w' (.slice p n c) (genRow N i) ∧ w.grownBy w' none) := fun w => row_any N i w h2 hi
    have CC : Hid (∀ w' v, w.grownBy w' none → Own w.heap.size w' v (genRow N i) → Calls Tryz.prog 121 #[v, .slice q N cap] w' fun e w'' => ∃ p n c, e = .returned (.slice p n c) ∧ Own w.heap.size w'' (.slice p n c) (codeRow X N L i) ∧ w.grownBy w'' none) := fun w' v g o =>
      (combine_any (L := L) o.vec (mr.keep g) (by rw [hk]; exact hX) (by rw [genRow_len, hk]) (by omega)).mono fun e w'' ⟨p, n, c, he, ho, hg⟩ => ⟨p, n, c, he, by rw [genRow_len, code_of_gen] at ho; exact ho.down g.size, grown_trans g hg⟩
    have hNl : N ≤ 140737488351232 := by omega
    clear hs mr hX hN hk
    go_enter Tryz.func95, Tryz.ntmps95
    go_wp2_with (first
      | (go_at_call 122; refine (RR.out _).mono ?_; rintro e w1 ⟨p1, n1, c1, rfl, o1, g1⟩; have O1 : Hid _ := o1; have G1 : Hid _ := g1; clear o1 g1)
      | (go_at_call 121; refine (CC.out _ _ G1.out O1.out).mono ?_; rintro e w2 ⟨p2, n2, c2, rfl, o2, g2⟩; have O2 : Hid _ := o2; have G2 : Hid _ := g2; clear o2 g2))
    go_ret
    exact ⟨p2, n2, c2, rfl, O2.out, G2.out⟩

/-- A matrix of its own whose rows are apart, at a slice that is written out. -/
def Made (w : World) (Y : List (List Nat)) (er : Int) (e : Ending) (w' : World) : Prop :=
  ∃ p n c us, e = .returned (.tuple #[.slice p n c, .int .i64 er]) ∧ OwnMat w.heap.size w' (.slice p n c) us Y ∧ Sep us ∧ w.grownBy w' none

set_option maxHeartbeats 3200000 in
theorem encode_yes {w : World} {r : Value} {vs : List Value} {X : List (List Nat)} {k n L : Nat} (mr : Mat w r vs X) (hX : Shape X k L) (h1 : 1 ≤ k) (hkn : k < n) (hn : n ≤ 255) :
    Calls Tryz.prog 46 #[.int .i64 (k : Int), .int .i64 (n : Int), r] w (Made w (codeList X k n L) 0) := by
  unfold Made
  have FF : Hid (Calls Tryz.prog 94 #[.int .i64 (k : Int), .int .i64 (n : Int), r] w fun e w' => e = .returned (.bool true) ∧ w' = w) := by
    have h := fits_any (k := (k : Int)) (n := (n : Int)) mr
    rw [show fitsB k n X = true from fitsB_iff.2 ⟨by omega, by rw [hX.len], evenB_iff.2 fun j hj => by rw [hX.row j (by rw [← hX.len]; exact hj), hX.row 0 (by omega)]⟩] at h
    exact h
  have CC : Hid (∀ w' (i : Nat), w.grownBy w' none → i < 256 → Calls Tryz.prog 95 #[.int .i64 (i : Int), r] w' fun e w'' => ∃ p n c, e = .returned (.slice p n c) ∧ Own w'.heap.size w'' (.slice p n c) (codeRow X k L i) ∧ w'.grownBy w'' none) := fun w' i g hi => coded_any (mr.keep g) hX h1 (by omega) hi
  clear mr hX
  go_enter Tryz.func46, Tryz.ntmps46
  go_wp2_with (first
    | (go_at_call 94; refine FF.out.mono ?_; rintro e w1 ⟨rfl, hw⟩; obtain rfl := hw.symm; clear hw)
    | (at_make; refine wpList_make_chunks rfl _ _ rfl n rfl rfl (by omega) ?_; intro w1 p om g1; have OM : Hid (OwnMat w.heap.size w1 (.slice p n n) (List.replicate n (.slice none 0 0)) (upTo (codeRow X k L) n 0)) := (by rw [upTo_zero]; exact om); have G1 : Hid (w.grownBy w1 none) := g1; clear om g1))
  clear FF
  go_loopw [19] (fun ti wr => ∃ (j : Nat) (us : List Value), j ≤ n ∧ ti = .int .i64 j ∧ Hid (OwnMat w.heap.size wr (.slice p n n) us (upTo (codeRow X k L) n j)) ∧ Hid (Sep us) ∧ Hid (w.grownBy wr none)) (fun ti _ => n - (intOf ti).toNat)
  case atStart => exact ⟨0, _, by omega, rfl, OM, Sep.nils n, G1⟩
  case round =>
    clear OM G1
    obtain ⟨j, us, hj, rfl, OK, SK, GK⟩ := hrel
    by_cases hlt : j < n
    · have i1 : (j : Int) < (n : Int) := by omega
      have i3 : (0 : Int) ≤ (j : Int) := by omega
      have HX : Hid ((upTo (codeRow X k L) n j).set j (codeRow X k L j) = upTo (codeRow X k L) n (j + 1)) := upTo_set _ _ _
      have HL : Hid (j < (upTo (codeRow X k L) n j).length) := by show _ < _; rw [upTo_len]; exact hlt
      have CJ : Hid (Calls Tryz.prog 95 #[.int .i64 (j : Int), r] wr fun e w'' => ∃ p n c, e = .returned (.slice p n c) ∧ Own wr.heap.size w'' (.slice p n c) (codeRow X k L j) ∧ wr.grownBy w'' none) := CC.out wr j GK.out (by omega)
      generalize upTo (codeRow X k L) n j = XK at *
      generalize codeRow X k L j = YK at *
      obtain ⟨g, rfl, _⟩ := OK.out.place (k := j) HL.out
      go_wp2_with (go_at_call 95; refine CJ.out.mono ?_; rintro e w2 ⟨p2, n2, c2, rfl, o2, g2⟩; obtain ⟨g', e', hb, hc, hf, hput, hown, hgr⟩ := (OK.out.keep g2).place (k := j) HL.out; obtain rfl : g = g' := (by injection e' with e'; injection e' with e'); have OU : Hid (Own wr.heap.size w2 (.slice p2 n2 c2) YK) := o2; have G2 : Hid (wr.grownBy w2 none) := g2; have PUT : Hid _ := hput; have GR : Hid _ := hgr; have HB : Hid (w.heap.size ≤ g) := hb; clear o2 g2 e' hput hgr hown hb)
      have R : Hid (OwnMat w.heap.size (w2.setCell ⟨g, j, none⟩ (.slice p2 n2 c2)) (.slice (some ⟨g, 0, none⟩) n n) (us.set j (.slice p2 n2 c2)) (upTo (codeRow X k L) n (j + 1)) ∧ Sep (us.set j (.slice p2 n2 c2)) ∧ w.grownBy (w2.setCell ⟨g, j, none⟩ (.slice p2 n2 c2)) none) := by
        refine ⟨?_, SK.out.put (H := wr.heap.size) (OK.out.hiRow) OU.out.lo j, ?_⟩
        · rw [← HX.out]
          exact PUT.out _ _ (OU.out.down GK.out.size)
        · exact grown_new (grown_trans GK.out G2.out) (GR.out _) (fun i e => by have := Option.some.inj e; have := HB.out; omega)
      clear OK SK GK OU G2 PUT GR HX HL HB CJ
      go_roundw
      case rel => exact ⟨j + 1, us.set j (.slice p2 n2 c2), by omega, by go_num, R.out.1, R.out.2.1, R.out.2.2⟩
      case measure => simp [intOf]; omega
    · have hjn : n = j := by omega
      subst hjn
      go_wp2
      go_ret2
      have h0 := OK.out
      rw [upTo_all] at h0
      exact ⟨p, n, n, us, rfl, h0, SK.out, GK.out⟩

theorem encode_no {w : World} {r : Value} {vs : List Value} {X : List (List Nat)} {k n : Int} (mr : Mat w r vs X) (hf : fitsB k n X = false) :
    Calls Tryz.prog 46 #[.int .i64 k, .int .i64 n, r] w fun e w' => e = .returned (.tuple #[.slice none 0 0, .int .i64 1]) ∧ w' = w := by
  have FF : Hid (Calls Tryz.prog 94 #[.int .i64 k, .int .i64 n, r] w fun e w' => e = .returned (.bool false) ∧ w' = w) := by
    have h := fits_any (k := k) (n := n) mr
    rw [hf] at h
    exact h
  clear mr hf
  go_enter Tryz.func46, Tryz.ntmps46
  go_wp2_with (go_at_call 94; refine FF.out.mono ?_; rintro e w1 ⟨rfl, hw⟩; obtain rfl := hw.symm; clear hw)
  go_ret2
  exact ⟨rfl, rfl⟩

end Go.Proofs.YtfjlpifaaknmpaaGreat

/- The contract of matrix.Rows; slices of ints. -/
set_option maxRecDepth 100000
namespace Go.Proofs.YtfjlpifaaknmpaaGreat
open Go.RowKit

/-- The slice v has the ints ls in the world w. -/
structure IVec (w : World) (v : Value) (ls : List Int) : Prop where
  len : ls.length ≤ 140737488351232
  form : ∃ p cap, v = .slice p ls.length cap ∧ ls.length ≤ cap ∧ cap ≤ maxLen ∧
    (ls ≠ [] → ∃ b off, p = some ⟨b, off, none⟩ ∧ ∀ j, j < ls.length → w.cell? ⟨b, off + j, none⟩ = some (.int .i64 (ls.getD j 0)))

theorem IVec.opened {w : World} {v : Value} {ls : List Int} (h : IVec w v ls) : ∃ p n cap, v = .slice p n cap ∧ n = ls.length := by
  obtain ⟨p, cap, e, _⟩ := h.form
  exact ⟨p, _, cap, e, rfl⟩
theorem IVec.spot {w : World} {p : Option Addr} {n cap : Nat} {ls : List Int} (h : IVec w (.slice p n cap) ls) {k : Nat} (hk : k < ls.length) :
    ∃ b off, p = some ⟨b, off, none⟩ ∧ w.cell? ⟨b, off + k, none⟩ = some (.int .i64 (ls.getD k 0)) := by
  obtain ⟨p', c', e, _, _, h5⟩ := h.form
  injection e with e1 e2 e3
  subst e1
  obtain ⟨b, off, rfl, hc⟩ := h5 (fun e => by subst e; simp at hk)
  exact ⟨b, off, rfl, hc k hk⟩
theorem IVec.keep {w w' : World} {v : Value} {ls : List Int} (h : IVec w v ls) (g : w.grownBy w' none) : IVec w' v ls := by
  obtain ⟨h2, p, cap, rfl, h3, h4, h5⟩ := h
  refine ⟨h2, p, cap, rfl, h3, h4, fun hx => ?_⟩
  obtain ⟨b, off, rfl, hc⟩ := h5 hx
  exact ⟨b, off, rfl, fun j hj => g.cell (hc j hj) (by simp)⟩

end Go.Proofs.YtfjlpifaaknmpaaGreat

/- Plain mathematics of the document's own inverse: two matrices side by side; and two matrices in memory, each in blocks of its own. -/
set_option maxRecDepth 100000
namespace Go.Proofs.YtfjlpifaaknmpaaGreat
open Go.RowKit

def strike2 (A : List (List Nat)) (k s y : Nat) : List (List Nat) := A.set k ((List.range (A.getD k []).length).map fun j => (A.getD k []).getD j 0 ^^^ M.mul ((A.getD s []).getD j 0) y)
def scale2 (A : List (List Nat)) (k x : Nat) : List (List Nat) := A.set k ((List.range (A.getD k []).length).map fun j => M.mul ((A.getD k []).getD j 0) x)

theorem strike2_at {A : List (List Nat)} {n k s y : Nat} (h : Shape A n n) (hk : k < n) (_ : s < n) (hy : y < 256) (sm : ∀ j, j < n → at2 A s j < 256) {r j : Nat} (hj : j < n) :
    at2 (strike2 A k s y) r j = if r = k then at2 A k j ^^^ M.mul y (at2 A s j) else at2 A r j := by
  unfold strike2
  rw [at2_set (by rw [h.len]; exact hk)]
  by_cases e : r = k
  · subst e
    simp only [if_true]
    rw [gd_map _ (by rw [h.row r hk]; exact hj)]
    show at2 A r j ^^^ M.mul (at2 A s j) y = _
    rw [M.mul_comm (sm j hj) hy]
  · rw [if_neg e, if_neg e]
theorem strike2_shape {A : List (List Nat)} {n k s y : Nat} (h : Shape A n n) (hk : k < n) : Shape (strike2 A k s y) n n := h.set (by rw [List.length_map, List.length_range]; exact h.row k hk)
theorem scale2_at {A : List (List Nat)} {n k x : Nat} (h : Shape A n n) (hk : k < n) (hx : x < 256) (sm : ∀ j, j < n → at2 A k j < 256) {r j : Nat} (hj : j < n) :
    at2 (scale2 A k x) r j = if r = k then M.mul x (at2 A k j) else at2 A r j := by
  unfold scale2
  rw [at2_set (by rw [h.len]; exact hk)]
  by_cases e : r = k
  · subst e
    simp only [if_true]
    rw [gd_map _ (by rw [h.row r hk]; exact hj)]
    show M.mul (at2 A r j) x = _
    rw [M.mul_comm (sm j hj) hx]
  · rw [if_neg e, if_neg e]
theorem scale2_shape {A : List (List Nat)} {n k x : Nat} (h : Shape A n n) (hk : k < n) : Shape (scale2 A k x) n n := h.set (by rw [List.length_map, List.length_range]; exact h.row k hk)

/-- Where the document's rounds stand: k columns are done. -/
structure Work2 (n : Nat) (m : Nat → Nat → Nat) (k : Nat) (A B : List (List Nat)) : Prop where
  sA : Shape A n n
  sB : Shape B n n
  st : MX.Struck n m (at2 A) (at2 B)
  low : MX.Low n k (at2 A)

theorem Work2.smallA {n : Nat} {m : Nat → Nat → Nat} {k : Nat} {A B : List (List Nat)} (h : Work2 n m k A B) {i : Nat} (hi : i < n) : ∀ j, j < n → at2 A i j < 256 := fun j hj => h.st.sa i j hi hj
theorem Work2.smallB {n : Nat} {m : Nat → Nat → Nat} {k : Nat} {A B : List (List Nat)} (h : Work2 n m k A B) {i : Nat} (hi : i < n) : ∀ j, j < n → at2 B i j < 256 := fun j hj => by
  obtain ⟨c, hc⟩ := h.st.inv
  exact hc.sa i j hi hj

theorem Work2.start {X : List (List Nat)} {n : Nat} (h : Shape X n n) (hs : ∀ i j, at2 X i j < 256) : Work2 n (at2 X) 0 X (idList n) := by
  have ids : Shape (idList n) n n := ⟨by simp [idList], fun j hj => by simp [idList, List.getD, hj, idRow]⟩
  have ida : MX.Eq2 n n MX.one (at2 (idList n)) := fun i j hi hj => by
    show _ = ((idList n).getD i []).getD j 0
    rw [show (idList n).getD i [] = idRow n i from by simp [idList, List.getD, hi], idRow_get n i j hj]
  exact ⟨h, ids, (MX.Struck.start (fun i j _ _ => hs i j)).congr (MX.Eq2.refl _ _ _) ida, MX.Low.zero _ _⟩

theorem Work2.strike {n : Nat} {m : Nat → Nat → Nat} {i : Nat} {A B : List (List Nat)} (h : Work2 n m i A B) {k s y : Nat} (hk : k < n) (hs : s < n) (hks : k ≠ s) (his : i ≤ s) (hin : i ≤ n) (hy : y < 256) :
    Work2 n m i (strike2 A k s y) (strike2 B k s y) :=
  ⟨strike2_shape h.sA hk, strike2_shape h.sB hk, (h.st.strike hy hk hs hks).congr (fun r j _ hj => by rw [strike2_at h.sA hk hs hy (h.smallA hs) hj]) (fun r j _ hj => by rw [strike2_at h.sB hk hs hy (h.smallB hs) hj]),
    (h.low.strike (k := k) (y := y) hs his).congr hin (fun r j _ hj => by rw [strike2_at h.sA hk hs hy (h.smallA hs) hj])⟩
theorem Work2.scale {n : Nat} {m : Nat → Nat → Nat} {i : Nat} {A B : List (List Nat)} (h : Work2 n m i A B) {k x y : Nat} (hk : k < n) (hik : i ≤ k) (hin : i ≤ n) (hx : x < 256) (hy : y < 256) (hxy : M.mul x y = 1) :
    Work2 n m i (scale2 A k x) (scale2 B k x) :=
  ⟨scale2_shape h.sA hk, scale2_shape h.sB hk, (h.st.scale (k := k) hx hy hxy).congr (fun r j _ hj => by rw [scale2_at h.sA hk hx (h.smallA hk) hj]) (fun r j _ hj => by rw [scale2_at h.sB hk hx (h.smallB hk) hj]),
    (h.low.scale (k := k) (x := x) hik).congr hin (fun r j _ hj => by rw [scale2_at h.sA hk hx (h.smallA hk) hj])⟩

/-- Within round i: the row i is raised, and of the other rows the first t are struck. -/
structure Mid2 (n : Nat) (m : Nat → Nat → Nat) (i t : Nat) (A B : List (List Nat)) : Prop where
  wk : Work2 n m i A B
  one : at2 A i i = 1
  nought : ∀ r, r < t → r < n → r ≠ i → at2 A r i = 0

theorem Mid2.work {n : Nat} {m : Nat → Nat → Nat} {i : Nat} {A B : List (List Nat)} (h : Mid2 n m i n A B) : Work2 n m (i + 1) A B :=
  ⟨h.wk.sA, h.wk.sB, h.wk.st, h.wk.low.next fun r hr => by
    unfold MX.one
    by_cases e : r = i
    · subst e; rw [if_pos rfl]; exact h.one
    · rw [if_neg e]; exact h.nought r hr hr e⟩
theorem Mid2.skip {n : Nat} {m : Nat → Nat → Nat} {i t : Nat} {A B : List (List Nat)} (h : Mid2 n m i t A B) (hz : t = i ∨ at2 A t i = 0) : Mid2 n m i (t + 1) A B :=
  ⟨h.wk, h.one, fun r hr hn hne => by
    by_cases e : r = t
    · subst e
      rcases hz with hz | hz
      · exact absurd hz hne
      · exact hz
    · exact h.nought r (by omega) hn hne⟩
theorem Mid2.strike {n : Nat} {m : Nat → Nat → Nat} {i t : Nat} {A B : List (List Nat)} (h : Mid2 n m i t A B) (hi : i < n) (ht : t < n) (hne : t ≠ i) : Mid2 n m i (t + 1) (strike2 A t i (at2 A t i)) (strike2 B t i (at2 A t i)) := by
  have hy := h.wk.smallA ht i hi
  refine ⟨h.wk.strike ht hi hne (Nat.le_refl _) (Nat.le_of_lt hi) hy, ?_, fun r hr hn hri => ?_⟩
  · rw [strike2_at h.wk.sA ht hi hy (h.wk.smallA hi) hi, if_neg (fun e => hne e.symm)]; exact h.one
  · rw [strike2_at h.wk.sA ht hi hy (h.wk.smallA hi) hi]
    by_cases e : r = t
    · subst e
      simp only [if_true]
      rw [h.one, M.mul_one hy, Nat.xor_self]
    · rw [if_neg e]; exact h.nought r (by omega) hn hri

theorem Work2.raise {n : Nat} {m : Nat → Nat → Nat} {i : Nat} {A B : List (List Nat)} (h : Work2 n m i A B) (hi : i < n) (hne : at2 A i i ≠ 0) : Mid2 n m i 0 (scale2 A i (M.inv (at2 A i i))) (scale2 B i (M.inv (at2 A i i))) := by
  have hs := h.smallA hi i hi
  have hiv := M.inv_lt (at2 A i i)
  have hm : M.mul (M.inv (at2 A i i)) (at2 A i i) = 1 := by rw [M.mul_comm hiv hs]; exact M.mul_inv hs (Nat.pos_of_ne_zero hne)
  refine ⟨h.scale hi (Nat.le_refl _) (Nat.le_of_lt hi) hiv hs hm, ?_, fun r hr => by omega⟩
  rw [scale2_at h.sA hi hiv (h.smallA hi) hi, if_pos rfl]; exact hm

theorem Work2.done {n : Nat} {m : Nat → Nat → Nat} {A B : List (List Nat)} (h : Work2 n m n A B) : MX.Inv n m (at2 B) := h.st.done h.low.all
theorem Work2.none {n : Nat} {m : Nat → Nat → Nat} {k : Nat} {A B : List (List Nat)} (h : Work2 n m k A B) (hk : k < n) (z : ∀ j, k ≤ j → j < n → at2 A j k = 0) : NoInv n m := h.st.none hk h.low z

/-- Two matrices of the call's own: a below the block H1, b from it on. -/
structure Two (w0 : World) (H1 : Nat) (w : World) (va : Value) (ua : List Value) (A : List (List Nat)) (vb : Value) (ub : List Value) (B : List (List Nat)) : Prop where
  oa : OwnMat w0.heap.size w va ua A
  ob : OwnMat H1 w vb ub B
  sa : Sep ua
  sb : Sep ub
  hv : Hi H1 va
  hu : ∀ j, j < ua.length → Hi H1 (ua.getD j undef)
  lt : w0.heap.size ≤ H1
  gr : w0.grownBy w none

theorem Two.keep {w0 w w' : World} {H1 : Nat} {va vb : Value} {ua ub : List Value} {A B : List (List Nat)} (h : Two w0 H1 w va ua A vb ub B) (g : w.grownBy w' none) : Two w0 H1 w' va ua A vb ub B :=
  ⟨h.oa.keep g, h.ob.keep g, h.sa, h.sb, h.hv, h.hu, h.lt, grown_trans h.gr g⟩
theorem Two.setA {w0 w w' : World} {H1 : Nat} {va vb : Value} {ua ub : List Value} {A B : List (List Nat)} (h : Two w0 H1 w va ua A vb ub B) {k : Nat} {ys : List Nat} (hk : k < A.length) {g : Nat} (hg : (ua.getD k undef).ownBlock = some g)
    (o : Own w0.heap.size w' (ua.getD k undef) ys) (gr : w.grownBy w' (some g)) : Two w0 H1 w' va ua (A.set k ys) vb ub B := by
  have hl := h.hu k (by have := h.oa.same; omega) g hg
  have hlo := (h.oa.vec k hk).lo g hg
  exact ⟨h.oa.rowSet h.sa hk o (by rw [hg]; exact gr), h.ob.keptLow hl gr, h.sa, h.sb, h.hv, h.hu, h.lt, grown_new h.gr gr (fun i e => by have := Option.some.inj e; omega)⟩
/-- Rows of a matrix as the walk finds them: the cell in the slice of slices, the row's own address, a place in it. -/
theorem OwnMat.at2 {B : Nat} {w : World} {g n cap : Nat} {us : List Value} {X : List (List Nat)} (h : OwnMat B w (.slice (some ⟨g, 0, none⟩) n cap) us X) {k : Nat} (hk : k < X.length) (h0 : 0 < (X.getD k []).length) :
    ∃ gk nk ck, us.getD k undef = .slice (some ⟨gk, 0, none⟩) nk ck ∧ nk = (X.getD k []).length ∧ w.cell? ⟨g, k, none⟩ = some (.slice (some ⟨gk, 0, none⟩) nk ck) ∧ Own B w (.slice (some ⟨gk, 0, none⟩) nk ck) (X.getD k []) ∧ ∀ j, j < (X.getD k []).length → w.cell? ⟨gk, j, none⟩ = some (.int .u8 ((at2 X k j : Nat) : Int)) := by
  obtain ⟨g1, e1, _, hc, _, _, _, _⟩ := h.place (k := k) hk
  obtain rfl : g = g1 := (by injection e1 with e1; injection e1 with e1)
  have ov := h.vec k hk
  obtain ⟨p, nk, ck, ek, hnk⟩ := ov.vec.opened
  rw [ek] at hc ov
  obtain ⟨gk, rfl, _, _, _, _, _, _⟩ := ov.spot (k := 0) h0
  refine ⟨gk, nk, ck, ek, hnk, hc, ov, fun j hj => ?_⟩
  obtain ⟨g2, e2, _, hcx, _, _, _, _⟩ := ov.spot (k := j) hj
  obtain rfl : gk = g2 := (by injection e2 with e2; injection e2 with e2)
  exact hcx
end Go.Proofs.YtfjlpifaaknmpaaGreat

/- The contract of hayrickref03.Invert: the document's own inverse. -/
set_option maxRecDepth 100000
namespace Go.Proofs.YtfjlpifaaknmpaaGreat
open Go.RowKit

/-- What the search from below has found down to t: none, or the first one. -/
def Found (n : Nat) (A : List (List Nat)) (i t : Nat) (z : Int) : Prop :=
  (z = -1 ∧ ∀ j, t ≤ j → j < n → at2 A j i = 0) ∨ ∃ p : Nat, z = p ∧ t ≤ p ∧ p < n ∧ at2 A p i ≠ 0 ∧ ∀ j, t ≤ j → j < p → at2 A j i = 0

theorem Found.zero {n i s : Nat} {A : List (List Nat)} {z : Int} (h : Found n A i (s + 1) z) (hz : at2 A s i = 0) : Found n A i s z := by
  have key : ∀ j, s ≤ j → s + 1 ≤ j ∨ j = s := fun j hj => by omega
  rcases h with ⟨e, h⟩ | ⟨p, e, h1, h2, h3, h4⟩
  · exact .inl ⟨e, fun j hj hn => by rcases key j hj with k | k; exact h j k hn; rw [k]; exact hz⟩
  · exact .inr ⟨p, e, by omega, h2, h3, fun j hj hn => by rcases key j hj with k | k; exact h4 j k hn; rw [k]; exact hz⟩
end Go.Proofs.YtfjlpifaaknmpaaGreat

/- Arguments that are read as data, as vectors in memory: a []byte (vec_arg), a [][]byte (mat_arg). -/
set_option maxRecDepth 100000
namespace Go.Proofs.YtfjlpifaaknmpaaGreat
open Go.ChangeShapes Go.WideShapes Go.ChangeAt Go.RowKit

theorem Tryz.laidOut : laidOutB Tryz.prog = true := by kernel_rfl
theorem Tryz.own : ownKnob Tryz.prog.godebug = none := by kernel_rfl
theorem Tryz.cells5 : Tryz.prog.cellsOf 5 = 1 := by kernel_rfl
theorem Tryz.cells22 : Tryz.prog.cellsOf 40 = 1 := by kernel_rfl
theorem Tryz.bytes5 : Tryz.prog.bytesOf 5 = 1 := by kernel_rfl
theorem byte_wf {n : Int} (h : (Lit.int .u8 n).wf = true) : 0 ≤ n ∧ n < 256 := by
  have : 0 ≤ n ∧ n ≤ 255 := by simpa [Lit.wf, IntKind.min, IntKind.max, IntKind.signed, IntKind.bits] using h
  omega

/-- A slice whose first n cells hold the numbers zs (each a byte). -/
theorem vec_of {W : World} {p : Option Addr} {len cap : Nat} {zs : List Int} (hl : len ≤ cap) (hm : cap ≤ maxLen) (hz : len ≤ zs.length) (hb : len ≤ 140737488351232)
    (hw : ∀ n ∈ zs, (Lit.int .u8 n).wf = true) (hp : p = none → len = 0) (hc : ∀ a, p = some a → ∀ c, c < len → W.cell? (a.add c) = some (.int .u8 (zs.getD c 0))) :
    Vec W (.slice p len cap) ((zs.take len).map Int.toNat) := by
  have hlen : ((zs.take len).map Int.toNat).length = len := by simp; omega
  have hget : ∀ j, j < len → ((((zs.take len).map Int.toNat).getD j 0 : Nat) : Int) = zs.getD j 0 := fun j hj => by
    have hj' : j < zs.length := by omega
    have h0 := byte_wf (hw zs[j] (List.getElem_mem _))
    simp [List.getD, hj, hj']
    omega
  refine ⟨fun x hx => ?_, by omega, p, cap, by rw [hlen], by omega, hm, fun hne => ?_⟩
  · obtain ⟨y, hy, rfl⟩ := List.mem_map.1 hx
    have := byte_wf (hw y (List.mem_of_mem_take hy))
    omega
  · have hpos : 0 < len := by
      rcases Nat.eq_zero_or_pos len with h | h
      · subst h; simp at hne
      · exact h
    cases p with
    | none => exact absurd (hp rfl) (by omega)
    | some a =>
      obtain ⟨b, off, spot⟩ := a
      have h0 := hc _ rfl 0 hpos
      have hspot : spot = none := by simpa [Addr.add] using World.cell?_spot h0
      subst hspot
      refine ⟨b, off, rfl, fun j hj => ?_⟩
      have hj' : j < len := by omega
      have := hc _ rfl j hj'
      rw [add_off] at this
      rw [this, bv, hget j hj']

section
variable {H : Type} {enc : TypeId × Value → H}

end
end Go.Proofs.YtfjlpifaaknmpaaGreat

/- A []int argument read as data; append([]int{}, l...). -/
set_option maxRecDepth 100000
namespace Go.Proofs.YtfjlpifaaknmpaaGreat
open Go.ChangeShapes Go.WideShapes Go.ChangeAt Go.RowKit

theorem Tryz.cellsI : Tryz.prog.cellsOf 3 = 1 := by kernel_rfl
theorem Tryz.infoI : (Tryz.prog.info? 3).map (fun i => (i.zero, i.size, i.bytes)) = some (some (.int .i64 0), 1, 8) := by kernel_rfl

section
variable {H : Type} {enc : TypeId × Value → H}

end

end Go.Proofs.YtfjlpifaaknmpaaGreat

