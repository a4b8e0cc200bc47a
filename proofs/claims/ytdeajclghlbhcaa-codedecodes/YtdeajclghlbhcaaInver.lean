/- The contracts of matrix.attempt and Invert: a panic within, caught and known. -/
import Derived.Test.YtdeajclghlbhcaaSolve
import Derived.Defers
import Derived.Recover
import Derived.Laws.Pointers
namespace Go.Proofs.Ytdeajclghlbhcaa
open Go.RowKit

theorem assert_yes (W : World) (v : Value) : (Instr.typeAssert (.iface 97 v) 20 97 true).run Try.prog W = .ok (.tuple #[v, .bool true]) W := by kernel_rfl

theorem catch_idle (p q : Addr) (w : World) :
    CallsD Try.prog 61 #[.pointer (some p), .pointer (some q)] .returning w fun e u' w' => e = .returned (.tuple #[]) ∧ u' = .returning ∧ w' = w := by
  refine callsD_of_wpS Try.func61 rfl fun c₀ cs hu => ?_
  apply wpS_seq
  apply wpS_region
  simp [wpOpsS, go_sem, recoverD, hu, Try.ntmps61, Exit.thenS]
  refine wpS_of_wp ?_
  change Code.wp _ _ _ { tmps := #[.pointer (some p), .pointer (some q), .nilIface, undef, undef, .nilIface, undef, undef, undef, undef, undef, undef, undef, undef, undef, undef], defers := [] } _
  go_wp2
  cases c₀
  simp_all [bodyPostS, results, Try.results61]

theorem alloc_cell {w : World} {a : Addr} {v : Value} (o : Obj) (h : w.cell? a = some v) : (w.alloc o).cell? a = some v := (World.grownBy_alloc w o none).cell h (by simp)
theorem alloc_frozen {w : World} {a : Addr} {v : Value} (o : Obj) (h : w.cell? a = some v) (f : w.frozen? a = false) : (w.alloc o).frozen? a = false :=
  (World.frozen?_of_block ((World.grownBy_alloc w o none).block a.block (World.block_lt_of_cell? w a h) (by simp))).trans f

set_option maxHeartbeats 1600000 in
theorem catch_panicking (gp gq : Nat) (older : List PanicEntry) (w : World) (x y : Value) (hp : w.cell? ⟨gp, 0, none⟩ = some x) (hq : w.cell? ⟨gq, 0, none⟩ = some y) (fp : w.frozen? ⟨gp, 0, none⟩ = false) (fq : w.frozen? ⟨gq, 0, none⟩ = false) (hne : gp ≠ gq) :
    CallsD Try.prog 61 #[.pointer (some ⟨gp, 0, none⟩), .pointer (some ⟨gq, 0, none⟩)] (.panicking ({ v := .iface 97 (.agg #[]), recovered := false } :: older)) w fun e u' w' =>
      e = .returned (.tuple #[]) ∧ u' = .panicking ({ v := .iface 97 (.agg #[]), recovered := true } :: older) ∧ ∃ o, w' = ((w.alloc o).setCell ⟨gp, 0, none⟩ (.slice none 0 0)).setCell ⟨gq, 0, none⟩ (.int .i64 22) := by
  have asY := assert_yes
  have h1 := alloc_cell (.cells #[] 97) hp
  have h2 := alloc_frozen (.cells #[] 97) hp fp
  have h3 : ((w.alloc (.cells #[] 97)).setCell ⟨gp, 0, none⟩ (.slice none 0 0)).cell? ⟨gq, 0, none⟩ = some y := by
    rw [World.cell?_setCell_other _ _ _ _ (fun e => hne (by injection e))]; exact alloc_cell _ hq
  have h4 : ((w.alloc (.cells #[] 97)).setCell ⟨gp, 0, none⟩ (.slice none 0 0)).frozen? ⟨gq, 0, none⟩ = false := by
    have := alloc_frozen (.cells #[] 97) hq fq
    simpa using this
  clear hp hq fp fq
  refine callsD_of_wpS Try.func61 rfl fun c₀ cs hu => ?_
  apply wpS_seq
  apply wpS_region
  simp [wpOpsS, go_sem, recoverD, hu, Try.ntmps61, Exit.thenS]
  refine wpS_of_wp ?_
  change Code.wp _ _ _ { tmps := #[.pointer (some ⟨gp, 0, none⟩), .pointer (some ⟨gq, 0, none⟩), .iface 97 (.agg #[]), undef, undef, .iface 97 (.agg #[]), undef, undef, undef, undef, undef, undef, undef, undef, undef, undef], defers := [] } _
  go_wp2
  refine ⟨rfl, _, rfl, _, by simp [results, Try.results61], rfl, rfl, _, rfl⟩

/-- An inverse, in new memory. -/
structure Ans (n : Nat) (X : List (List Nat)) (w w' : World) (v : Value) (us : List Value) (Y : List (List Nat)) : Prop where
  om : OwnMat w.heap.size w' v us Y
  sep : Sep us
  shape : Shape Y n n
  inv : MX.Inv n (at2 X) (at2 Y)
  grown : w.grownBy w' none

theorem solve_yes {w : World} {m : Value} {vs : List Value} {X : List (List Nat)} {n : Nat} (mr : Mat w m vs X) (hs : Shape X n n) (h1 : 1 ≤ n) (h2 : n ≤ 255) (hi : ¬ NoInv n (at2 X)) :
    Calls Try.prog 59 #[m] w fun e w' => ∃ p k c us Y, e = .returned (.slice p k c) ∧ Ans n X w w' (.slice p k c) us Y :=
  (solve_any mr hs h1 h2).mono fun e w' h => by
    rcases h with ⟨g, ⟨v, us, Y, rfl, om, sp, sh, iv⟩ | ⟨_, no⟩⟩
    · obtain ⟨p, k, c, rfl, _⟩ := om.mat.row.opened
      exact ⟨p, k, c, us, Y, rfl, om, sp, sh, iv, g⟩
    · exact absurd no hi
theorem solve_no {w : World} {m : Value} {vs : List Value} {X : List (List Nat)} {n : Nat} (mr : Mat w m vs X) (hs : Shape X n n) (h1 : 1 ≤ n) (h2 : n ≤ 255) (hi : NoInv n (at2 X)) :
    Calls Try.prog 59 #[m] w fun e w' => e = .panicked noInverseChain ∧ w.grownBy w' none :=
  (solve_any mr hs h1 h2).mono fun e w' h => by
    rcases h with ⟨g, ⟨v, us, Y, rfl, om, sp, sh, iv⟩ | ⟨rfl, no⟩⟩
    · exact absurd ⟨_, iv.sb, iv.l⟩ hi
    · exact ⟨rfl, g⟩

theorem inner_yes {w : World} {ga : Nat} {m : Value} {vs : List Value} {X : List (List Nat)} {n : Nat} (hc : w.cell? ⟨ga, 0, none⟩ = some m) (mr : Mat w m vs X) (hs : Shape X n n) (h1 : 1 ≤ n) (h2 : n ≤ 255) (hi : ¬ NoInv n (at2 X)) :
    Calls Try.prog 58 #[.pointer (some ⟨ga, 0, none⟩)] w fun e w' => ∃ p k c us Y, e = .returned (.slice p k c) ∧ Ans n X w w' (.slice p k c) us Y := by
  obtain ⟨q, N, cap, rfl, hN⟩ := mr.row.opened
  have SO : Hid (∀ r, r = Value.slice q N cap → Calls Try.prog 59 #[r] w fun e w' => ∃ p k c us Y, e = .returned (.slice p k c) ∧ Ans n X w w' (.slice p k c) us Y) := fun r e => e ▸ solve_yes mr hs h1 h2 hi
  clear hN mr hs hi
  go_enter Try.func58, Try.ntmps58
  go_wp2_with (go_at_call 59; refine (SO.out _ (by with_reducible rfl)).mono ?_; rintro e w1 ⟨p, k, c, us, Y, rfl, an⟩; have AN : Hid (Ans n X w w1 (.slice p k c) us Y) := an; clear an)
  go_ret
  exact ⟨p, k, c, us, Y, rfl, AN.out⟩

theorem inner_no {w : World} {ga : Nat} {m : Value} {vs : List Value} {X : List (List Nat)} {n : Nat} (hc : w.cell? ⟨ga, 0, none⟩ = some m) (mr : Mat w m vs X) (hs : Shape X n n) (h1 : 1 ≤ n) (h2 : n ≤ 255) (hi : NoInv n (at2 X)) :
    Calls Try.prog 58 #[.pointer (some ⟨ga, 0, none⟩)] w fun e w' => e = .panicked noInverseChain ∧ w.grownBy w' none := by
  obtain ⟨q, N, cap, rfl, hN⟩ := mr.row.opened
  have SO : Hid (∀ r, r = Value.slice q N cap → Calls Try.prog 59 #[r] w fun e w' => e = .panicked noInverseChain ∧ w.grownBy w' none) := fun r e => e ▸ solve_no mr hs h1 h2 hi
  clear hN mr hs hi
  go_enter Try.func58, Try.ntmps58
  go_wp2_with (go_at_call 59; refine (SO.out _ (by with_reducible rfl)).mono ?_; rintro e w1 ⟨rfl, g⟩; have GG : Hid (w.grownBy w1 none) := g; clear g)
  exact ⟨rfl, rfl, GG.out⟩

theorem OwnMat.keptLow {B r : Nat} {w w' : World} {v : Value} {us : List Value} {X : List (List Nat)} (h : OwnMat B w v us X) (hr : r < B) (g : w.grownBy w' (some r)) : OwnMat B w' v us X := by
  have ap : ∀ u : Value, Lo B u → u.ownBlock = none ∨ u.ownBlock ≠ some r := fun u hu => by
    cases hk : u.ownBlock with
    | none => exact .inl rfl
    | some k => exact .inr fun e => by have := hu k hk; have := Option.some.inj e; omega
  exact ⟨h.len, h.row.kept g (ap _ h.lo), h.same, fun j hj => (h.vec j hj).kept g (ap _ (h.vec j hj).lo)⟩

theorem cellOf_alloc (w : World) (x : Value) (t : TypeId) : (w.alloc (.cells #[x] t)).cell? ⟨w.heap.size, 0, none⟩ = some x ∧ (w.alloc (.cells #[x] t)).frozen? ⟨w.heap.size, 0, none⟩ = false := by
  have h := heap_alloc_new w (.cells #[x] t)
  exact ⟨by unfold World.cell?; rw [h]; rfl, by unfold World.frozen?; rw [h]; rfl⟩
theorem grown_frozen {w w' : World} (g : w.grownBy w' none) {a : Addr} {v : Value} (h : w.cell? a = some v) (f : w.frozen? a = false) : w'.frozen? a = false :=
  (World.frozen?_of_block (g.block a.block (World.block_lt_of_cell? w a h) (by simp))).trans f
theorem grown_set (w : World) (g k : Nat) (v : Value) : w.grownBy (w.setCell ⟨g, k, none⟩ v) (some g) := ⟨rfl, rfl, rfl, by simp, fun i hi hne => Below.heap_setCell _ _ _ _ (by simpa using hne)⟩

/-- The world in which work is called: two named results lie above. -/
abbrev att (w : World) : World := (w.alloc (.cells #[.slice none 0 0] 25)).alloc (.cells #[.int .i64 0] 26)
theorem att_facts {w w2 : World} (g : (att w).grownBy w2 none) : w2.cell? ⟨w.heap.size, 0, none⟩ = some (.slice none 0 0) ∧ w2.frozen? ⟨w.heap.size, 0, none⟩ = false ∧ w2.cell? ⟨w.heap.size + 1, 0, none⟩ = some (.int .i64 0) ∧ w2.frozen? ⟨w.heap.size + 1, 0, none⟩ = false := by
  have c1 := cellOf_alloc w (.slice none 0 0) 25
  have c2 := cellOf_alloc (w.alloc (.cells #[.slice none 0 0] 25)) (.int .i64 0) 26
  rw [World.size_alloc] at c2
  have d1 := alloc_cell (.cells #[.int .i64 0] 26) c1.1
  have d2 := alloc_frozen (.cells #[.int .i64 0] 26) c1.1 c1.2
  exact ⟨g.cell d1 (by simp), grown_frozen g d1 d2, g.cell c2.1 (by simp), grown_frozen g c2.1 c2.2⟩

set_option maxHeartbeats 1600000 in
theorem attempt_yes {w : World} {ga : Nat} {m : Value} {vs : List Value} {X : List (List Nat)} {n : Nat} (hc : w.cell? ⟨ga, 0, none⟩ = some m) (mr : Mat w m vs X) (hs : Shape X n n) (h1 : 1 ≤ n) (h2 : n ≤ 255) (hi : ¬ NoInv n (at2 X)) :
    Calls Try.prog 57 #[.func (.func 58) #[] #[.pointer (some ⟨ga, 0, none⟩)]] w fun e w' => ∃ p k c us Y, e = .returned (.tuple #[.slice p k c, .int .i64 0]) ∧ Ans n X w w' (.slice p k c) us Y := by
  have hmf : ∀ (fn : Fn) (first cap : Array Value) (w : World), (Instr.makeFunc fn first cap).run Try.prog w = .ok (.func fn first cap) w := fun _ _ _ _ => rfl
  have IN : Hid (Calls Try.prog 58 #[.pointer (some ⟨ga, 0, none⟩)] (att w) fun e w' => ∃ p k c us Y, e = .returned (.slice p k c) ∧ Ans n X (att w) w' (.slice p k c) us Y) :=
    inner_yes (alloc_cell _ (alloc_cell _ hc)) ((mr.keep (World.grownBy_alloc _ _ none)).keep (World.grownBy_alloc _ _ none)) hs h1 h2 hi
  clear hc mr hs hi
  go_enter_defers Try.func57, Try.ntmps57
  go_wp2_with (go_at_call 58; refine IN.out.mono ?_; rintro e w2 ⟨p, k, c, us, Y, rfl, an⟩; obtain ⟨f1, f2, f3, f4⟩ := att_facts an.grown; have AN : Hid (Ans n X (att w) w2 (.slice p k c) us Y) := an; clear an)
  have R : Hid (Ans n X w ((w2.setCell ⟨w.heap.size, 0, none⟩ (.slice p k c)).setCell ⟨w.heap.size + 1, 0, none⟩ (.int .i64 0)) (.slice p k c) us Y) := by
    obtain ⟨om, sp, sh, iv, gr⟩ := AN.out
    have hsz : (att w).heap.size = w.heap.size + 2 := by simp [att]
    have g0 : w.grownBy (att w) none := grown_trans (World.grownBy_alloc _ _ none) (World.grownBy_alloc _ _ none)
    refine ⟨((om.keptLow (by omega) (grown_set _ _ _ _)).keptLow (by omega) (grown_set _ _ _ _)).down (by omega), sp, sh, iv, ?_⟩
    exact grown_new (grown_new (grown_trans g0 gr) (grown_set _ _ _ _) (fun i e => by have := Option.some.inj e; omega)) (grown_set _ _ _ _) (fun i e => by have := Option.some.inj e; omega)
  have k1 : ((w2.setCell ⟨w.heap.size, 0, none⟩ (.slice p k c)).setCell ⟨w.heap.size + 1, 0, none⟩ (.int .i64 0)).cell? ⟨w.heap.size, 0, none⟩ = some (.slice p k c) := by
    rw [World.cell?_setCell_other _ _ _ _ (by simp), World.cell?_setCell_same _ _ _ f1]
  have k2 : ((w2.setCell ⟨w.heap.size, 0, none⟩ (.slice p k c)).setCell ⟨w.heap.size + 1, 0, none⟩ (.int .i64 0)).cell? ⟨w.heap.size + 1, 0, none⟩ = some (.int .i64 0) := by
    rw [World.cell?_setCell_same _ _ _ (by rw [World.cell?_setCell_other _ _ _ _ (by simp)]; exact f3)]
  clear AN IN f1 f2 f3 f4
  generalize (w2.setCell ⟨w.heap.size, 0, none⟩ (.slice p k c)).setCell ⟨w.heap.size + 1, 0, none⟩ (.int .i64 0) = w3 at *
  refine leaves_cons (f := 61) (args := #[.pointer (some ⟨w.heap.size, 0, none⟩), .pointer (some ⟨w.heap.size + 1, 0, none⟩)]) (by simp) (by simp [go_sem]) ?_
  refine (catch_idle _ _ _).mono ?_
  rintro e u' w'' ⟨rfl, rfl, rfl⟩
  refine ⟨.tuple #[.slice p k c, .int .i64 0], by simp [results, go_sem, k1, k2], p, k, c, us, Y, rfl, R.out⟩

set_option maxHeartbeats 1600000 in
theorem attempt_no {w : World} {ga : Nat} {m : Value} {vs : List Value} {X : List (List Nat)} {n : Nat} (hc : w.cell? ⟨ga, 0, none⟩ = some m) (mr : Mat w m vs X) (hs : Shape X n n) (h1 : 1 ≤ n) (h2 : n ≤ 255) (hi : NoInv n (at2 X)) :
    Calls Try.prog 57 #[.func (.func 58) #[] #[.pointer (some ⟨ga, 0, none⟩)]] w fun e w' => e = .returned (.tuple #[.slice none 0 0, .int .i64 22]) ∧ w.grownBy w' none := by
  have hmf : ∀ (fn : Fn) (first cap : Array Value) (w : World), (Instr.makeFunc fn first cap).run Try.prog w = .ok (.func fn first cap) w := fun _ _ _ _ => rfl
  have IN : Hid (Calls Try.prog 58 #[.pointer (some ⟨ga, 0, none⟩)] (att w) fun e w' => e = .panicked noInverseChain ∧ (att w).grownBy w' none) :=
    inner_no (alloc_cell _ (alloc_cell _ hc)) ((mr.keep (World.grownBy_alloc _ _ none)).keep (World.grownBy_alloc _ _ none)) hs h1 h2 hi
  clear hc mr hs hi
  go_enter_defers Try.func57, Try.ntmps57
  go_wp2_with (go_at_call 58; refine IN.out.mono ?_; rintro e w2 ⟨rfl, gg⟩; obtain ⟨f1, f2, f3, f4⟩ := att_facts gg; have GG : Hid ((att w).grownBy w2 none) := gg; clear gg)
  refine leaves_cons (f := 61) (args := #[.pointer (some ⟨w.heap.size, 0, none⟩), .pointer (some ⟨w.heap.size + 1, 0, none⟩)]) (by simp) (by simp [go_sem]) ?_
  refine (catch_panicking w.heap.size (w.heap.size + 1) [] _ _ _ f1 f3 f2 f4 (by omega)).mono ?_
  rintro e u' w'' ⟨rfl, rfl, o, rfl⟩
  have g0 : w.grownBy (att w) none := grown_trans (World.grownBy_alloc _ _ none) (World.grownBy_alloc _ _ none)
  have R : Hid (w.grownBy (((w2.alloc o).setCell ⟨w.heap.size, 0, none⟩ (.slice none 0 0)).setCell ⟨w.heap.size + 1, 0, none⟩ (.int .i64 22)) none) :=
    grown_new (grown_new (grown_trans (grown_trans g0 GG.out) (World.grownBy_alloc _ _ none)) (grown_set _ _ _ _) (fun i e => by have := Option.some.inj e; omega)) (grown_set _ _ _ _) (fun i e => by have := Option.some.inj e; omega)
  have k1 : (((w2.alloc o).setCell ⟨w.heap.size, 0, none⟩ (.slice none 0 0)).setCell ⟨w.heap.size + 1, 0, none⟩ (.int .i64 22)).cell? ⟨w.heap.size, 0, none⟩ = some (.slice none 0 0) := by
    rw [World.cell?_setCell_other _ _ _ _ (by simp), World.cell?_setCell_same _ _ _ (alloc_cell o f1)]
  have k2 : (((w2.alloc o).setCell ⟨w.heap.size, 0, none⟩ (.slice none 0 0)).setCell ⟨w.heap.size + 1, 0, none⟩ (.int .i64 22)).cell? ⟨w.heap.size + 1, 0, none⟩ = some (.int .i64 22) := by
    rw [World.cell?_setCell_same _ _ _ (by rw [World.cell?_setCell_other _ _ _ _ (by simp)]; exact alloc_cell o f3)]
  generalize ((w2.alloc o).setCell ⟨w.heap.size, 0, none⟩ (.slice none 0 0)).setCell ⟨w.heap.size + 1, 0, none⟩ (.int .i64 22) = w3 at *
  simp [Leaves, settle, results, go_sem, k1, k2]
  exact R.out
end Go.Proofs.Ytdeajclghlbhcaa
