/- The contract of New. -/
import Derived.Test.YtfmlohedebdomaaRepl6
set_option linter.unusedSimpArgs false
set_option linter.unusedVariables false
namespace Go.Proofs.Ytfmlohedebdomaa
open Go.RowKit

/-- The first i disks are made. -/
def newTo (N n i : Nat) : AM.Raw := ⟨List.replicate i (some (AM.zs (n * 64))) ++ List.replicate (N - i) none, n, [], 0, false⟩
theorem newTo_len {N n i : Nat} (h : i ≤ N) : (newTo N n i).C.length = N := by simp [newTo]; omega
theorem newTo_all (N n : Nat) : newTo N n N = AM.Raw.new N n := by simp [newTo, AM.Raw.new]
theorem newTo_step {N n i : Nat} (h : i < N) : (newTo N n i).C.set i (some (AM.zs (n * 64))) = (newTo N n (i + 1)).C := by
  simp only [newTo]
  rw [List.set_append_right _ _ (by simp)]
  have e : N - i = (N - (i + 1)) + 1 := by omega
  rw [e, List.replicate_succ, List.length_replicate, Nat.sub_self, List.set_cons_zero, List.replicate_succ', List.append_assoc]
  rfl
theorem newTo_ok {N n i : Nat} (h : i ≤ N) (h1 : 1 ≤ N) (h2 : N ≤ 255) (h3 : 1 ≤ n) (h4 : n ≤ 4096) : (newTo N n i).Ok := by
  refine ⟨by rw [newTo_len h]; exact h1, by rw [newTo_len h]; exact h2, h3, h4, fun d xs hx => ?_, fun l hl => by simp [newTo] at hl, by simp [newTo]⟩
  have hm := List.mem_of_getElem? hx
  simp only [newTo, List.mem_append, List.mem_replicate] at hm
  rcases hm with ⟨_, hm⟩ | ⟨_, hm⟩
  · injection hm with hm
    subst hm
    exact ⟨AM.zs_len _, AM.zs_small _⟩
  · cases hm

theorem new_no (w : World) {d n : Int} (h : ¬ (1 ≤ d ∧ d ≤ 255 ∧ 1 ≤ n ∧ n ≤ 4096)) : Calls Try.prog 10 #[.int .i64 d, .int .i64 n] w fun e w' => e = .returned (.tuple #[.pointer none, .int .i64 1]) ∧ w' = w := by
  by_cases c1 : d < 1
  · clear h
    go_enter Try.func10, Try.ntmps10
    go_wp2
    go_ret2
    exact ⟨rfl, rfl⟩
  · by_cases c2 : 255 < d
    · clear h
      go_enter Try.func10, Try.ntmps10
      go_wp2
      go_ret2
      exact ⟨rfl, rfl⟩
    · by_cases c3 : n < 1
      · clear h
        go_enter Try.func10, Try.ntmps10
        go_wp2
        go_ret2
        exact ⟨rfl, rfl⟩
      · have c4 : 4096 < n := by omega
        clear h
        go_enter Try.func10, Try.ntmps10
        go_wp2
        go_ret2
        exact ⟨rfl, rfl⟩

theorem Try.infoDrv : (Try.prog.info? 66).map (fun i => (i.zero, i.size, i.bytes)) = some (some (.slice none 0 0), 1, 24) := by kernel_rfl
theorem run_make_drvs (W : World) {n : Nat} (hn : n ≤ 255) : (Instr.makeSlice 61 (.int .i64 (n : Int)) (.int .i64 (n : Int))).run Try.prog W = .ok (.slice (some ⟨W.heap.size, 0, none⟩) n n) (W.alloc (.cells (List.replicate n (Value.slice none 0 0)).toArray 66)) := by
  have h := run_make_row' (P := Try.prog) 61 66 _ 24 Try.underlying61 Try.infoDrv rfl .i64 .i64 n (by omega) (by omega) W
  rw [h]
  congr 3
  apply Array.ext'
  have := made_list (.slice none 0 0) n
  rw [List.take_of_length_le (by simp [madeCells])] at this
  rw [this]

/-- The first disks, of none. -/
theorem new_start {w : World} {N n : Nat} (h1 : 1 ≤ N) (h2 : N ≤ 255) (h3 : 1 ≤ n) (h4 : n ≤ 4096) :
    Lies (fun i => i = w.heap.size + 1 ∨ i = w.heap.size) ((w.alloc (.cells (List.replicate N (Value.slice none 0 0)).toArray 66)).alloc (.cells #[.slice (some ⟨w.heap.size, 0, none⟩) N N, .int .i64 (n : Int), .slice none 0 0, .int .i64 0, .bool false] 64)) (w.heap.size + 1) w.heap.size (List.replicate N (.slice none 0 0)) none 0 (newTo N n 0) := by
  have hl : (newTo N n 0).C.length = N := newTo_len (Nat.zero_le _)
  refine ⟨newTo_ok (Nat.zero_le _) h1 h2 h3 h4, fun i hi => by rcases hi with rfl | rfl <;> simp <;> omega, ?_, ?_, by simp [hl], ?_, ?_, .inl rfl, .inr rfl, ?_, ?_, ?_⟩
  · rw [hl]
    exact heap_new _ _ _ (by simp)
  · exact heap_old _ _ (heap_alloc_new w _)
  · intro i v hv
    have hm := (List.mem_replicate.1 (List.mem_of_getElem? hv)).2
    have hlt : i < N := by simpa using (List.getElem?_eq_some_iff.1 hv).1
    exact .inl ⟨by simp [newTo, hlt], hm⟩
  · exact World.ownsRow_nil _ 0 79 130
  · intro i v hv g hg
    rw [(List.mem_replicate.1 (List.mem_of_getElem? hv)).2] at hg
    cases hg
  · intro g hg; cases hg
  · intro i j u v hu hv g hg
    rw [(List.mem_replicate.1 (List.mem_of_getElem? hu)).2] at hg
    cases hg

set_option maxHeartbeats 800000 in
theorem new_yes {w : World} {N n : Nat} (h1 : 1 ≤ N) (h2 : N ≤ 255) (h3 : 1 ≤ n) (h4 : n ≤ 4096) :
    Calls Try.prog 10 #[.int .i64 (N : Int), .int .i64 (n : Int)] w fun e w' => ∃ a, e = .returned (.tuple #[ptr a, .int .i64 0]) ∧ (∃ F, Is F w' a (AM.Raw.new N n) ∧ ∀ i, F i → w.heap.size ≤ i) ∧ w.grownBy w' none := by
  have hmd : ∀ W : World, (Instr.makeSlice 61 (.int .i64 (N : Int)) (.int .i64 (N : Int))).run Try.prog W = .ok (.slice (some ⟨W.heap.size, 0, none⟩) N N) (W.alloc (.cells (List.replicate N (Value.slice none 0 0)).toArray 66)) := fun W => run_make_drvs W h2
  have HL0 := new_start (w := w) h1 h2 h3 h4
  have G0 : Hid (w.grownBy ((w.alloc (.cells (List.replicate N (Value.slice none 0 0)).toArray 66)).alloc (.cells #[.slice (some ⟨w.heap.size, 0, none⟩) N N, .int .i64 (n : Int), .slice none 0 0, .int .i64 0, .bool false] 64)) none) := gb_alloc (gb_alloc (World.grownBy.refl _ _) _) _
  have H0 : Hid (Lies (fun i => i = w.heap.size + 1 ∨ i = w.heap.size) ((w.alloc (.cells (List.replicate N (Value.slice none 0 0)).toArray 66)).alloc (.cells #[.slice (some ⟨w.heap.size, 0, none⟩) N N, .int .i64 (n : Int), .slice none 0 0, .int .i64 0, .bool false] 64)) (w.heap.size + 1) w.heap.size (List.replicate N (.slice none 0 0)) none 0 (newTo N n 0)) := HL0
  have HLO : Hid (∀ i, (i = w.heap.size + 1 ∨ i = w.heap.size) → w.heap.size ≤ i) := fun i hi => by omega
  clear HL0
  obtain ⟨ZD, hZD⟩ : ∃ ZD, ZD = (List.replicate N (Value.slice none 0 0)).toArray := ⟨_, rfl⟩
  rw [← hZD] at hmd H0 G0
  clear hZD
  have j1 : ¬ (N : Int) < 1 := by omega
  have j2 : ¬ (255 : Int) < (N : Int) := by omega
  have j3 : ¬ (n : Int) < 1 := by omega
  have j4 : ¬ (4096 : Int) < (n : Int) := by omega
  go_enter Try.func10, Try.ntmps10
  go_wp2
  generalize w.heap.size + 1 = a at *
  generalize (w.alloc (.cells ZD 66)).alloc (.cells #[.slice (some ⟨w.heap.size, 0, none⟩) N N, .int .i64 (n : Int), .slice none 0 0, .int .i64 0, .bool false] 64) = W0 at *
  clear hmd
  have hmk : ∀ W : World, (Instr.makeSlice 66 (.int .i64 (n : Int)) (.int .i64 (n : Int))).run Try.prog W = .ok (.slice (some ⟨W.heap.size, 0, none⟩) n n) (W.alloc (.cells (rowOf (AM.zs (n * 64))) 77)) := fun W => run_make_drv W h4
  go_loopw [32] (fun ti wr => ∃ i : Nat, i ≤ N ∧ ti = .int .i64 (i : Int) ∧ Hid (∃ F dv, Lies F wr a w.heap.size dv none 0 (newTo N n i) ∧ (∀ i, F i → w.heap.size ≤ i)) ∧ Hid (w.grownBy wr none)) (fun ti _ => N - (intOf ti).toNat)
  case atStart => exact ⟨0, by omega, rfl, ⟨_, _, H0.out, HLO.out⟩, G0⟩
  case round =>
    clear H0 G0 HLO
    obtain ⟨i, hi, rfl, OK, GK⟩ := hrel
    by_cases hlt : i < N
    · have i1 : (i : Int) < (N : Int) := by omega
      obtain ⟨F, dv, h, hF⟩ := OK.out
      have hCl : (newTo N n i).C.length = N := newTo_len hi
      have hdl : i < dv.length := by rw [h.len, hCl]; exact hlt
      have hdv : dv[i]? = some dv[i] := List.getElem?_eq_getElem hdl
      have c0 : wr.cell? ⟨a, 0, none⟩ = some (.slice (some ⟨w.heap.size, 0, none⟩) N N) := by
        have h0 : wr.cell? ⟨a, 0, none⟩ = some (.slice (some ⟨w.heap.size, 0, none⟩) (newTo N n i).C.length (newTo N n i).C.length) := topCell (j := 0) h.top rfl
        rw [hCl] at h0
        exact h0
      have cd : wr.cell? ⟨w.heap.size, i, none⟩ = some dv[i] := topCell h.dsk (by rw [List.getElem?_toArray]; exact hdv)
      have fd := topFrozen i h.dsk
      have hla : w.heap.size < wr.heap.size := h.lt _ h.Fd
      have cd1 : (wr.alloc (.cells (rowOf (AM.zs (n * 64))) 77)).cell? ⟨w.heap.size, i, none⟩ = some dv[i] := (World.grownBy_alloc wr _ none).cell cd (by simp)
      have fd1 : (wr.alloc (.cells (rowOf (AM.zs (n * 64))) 77)).frozen? ⟨w.heap.size, i, none⟩ = false := by rw [World.frozen?_of_block (w := wr) ((World.grownBy_alloc wr _ none).block _ hla (by simp))]; exact fd
      have HS : Hid (wr.cell? ⟨a, 0, none⟩ = some (.slice (some ⟨w.heap.size, 0, none⟩) N N)) := c0
      have HK1 : Hid ((wr.alloc (.cells (rowOf (AM.zs (n * 64))) 77)).cell? ⟨a, 0, none⟩ = some (.slice (some ⟨w.heap.size, 0, none⟩) N N)) := (World.grownBy_alloc wr _ none).cell c0 (by simp)
      have HK2 : Hid (∀ v, ((wr.alloc (.cells (rowOf (AM.zs (n * 64))) 77)).setCell ⟨w.heap.size, i, none⟩ v).cell? ⟨a, 0, none⟩ = some (.slice (some ⟨w.heap.size, 0, none⟩) N N)) := fun v => by rw [World.cell?_setCell_far _ _ _ _ (Ne.symm h.a_dg)]; exact HK1.out
      have g1 : wr.grownBy (wr.drew.alloc (.cells (rowOf (AM.zs (n * 64))) 77)) none := gb_alloc (gb_drew (World.grownBy.refl wr none)) _
      have hrow : (wr.drew.alloc (.cells (rowOf (AM.zs (n * 64))) 77)).ownsRow 0 77 64 (.slice (some ⟨wr.heap.size, 0, none⟩) n n) n ((AM.zs (n * 64)).map bv) := blank_row h4 (heap_alloc_new wr.drew _)
      have hl := h.drove (F' := fun i => F i ∨ i = wr.heap.size) (w1 := wr.drew.alloc (.cells (rowOf (AM.zs (n * 64))) 77)) (w' := (wr.drew.alloc (.cells (rowOf (AM.zs (n * 64))) 77)).setCell ⟨w.heap.size, i, none⟩ (.slice (some ⟨wr.heap.size, 0, none⟩) n n)) (fun i h => .inl h)
        (fun i hi => by
          rcases hi with hi | rfl
          · exact Nat.lt_of_lt_of_le (h.lt i hi) g1.size
          · simp) g1 (d := i) (by rw [hCl]; exact hlt) (D := some (AM.zs (n * 64))) (.inr ⟨_, rfl, hrow⟩) (fun g hg => by
          obtain rfl : wr.heap.size = g := Option.some.inj hg
          exact ⟨.inr rfl, fun hf => Nat.lt_irrefl _ (h.lt _ hf)⟩) (by rw [newTo_step hlt]; exact newTo_ok (by omega) h1 h2 h3 h4) rfl
      have HN : Hid (∃ F dv, Lies F ((wr.drew.alloc (.cells (rowOf (AM.zs (n * 64))) 77)).setCell ⟨w.heap.size, i, none⟩ (.slice (some ⟨wr.heap.size, 0, none⟩) n n)) a w.heap.size dv none 0 (newTo N n (i + 1)) ∧ (∀ i, F i → w.heap.size ≤ i)) := by
        rw [newTo_step hlt] at hl
        refine ⟨_, _, hl, fun j hj => ?_⟩
        rcases hj with hj | rfl
        · exact hF j hj
        · omega
      have HG : Hid (w.grownBy ((wr.drew.alloc (.cells (rowOf (AM.zs (n * 64))) 77)).setCell ⟨w.heap.size, i, none⟩ (.slice (some ⟨wr.heap.size, 0, none⟩) n n)) none) := gb_setCell (gb_alloc (gb_drew GK.out) _) (Nat.le_refl _) _
      obtain ⟨ov, hov⟩ : ∃ ov, ov = dv[i] := ⟨_, rfl⟩
      rw [← hov] at cd1
      clear hl hrow g1 cd fd hla hdv hCl OK GK h hF hov
      go_wp2_with fail
      go_region_held3 (fun w' => w'.cell? ⟨a, 0, none⟩ = some (.slice (some ⟨w.heap.size, 0, none⟩) N N)) (first | exact HS.out | exact HK1.out | exact HK2.out _) (fail)
      go_wp2
      go_roundw
      case rel => exact ⟨i + 1, by omega, by go_num, HN, HG⟩
      case measure => simp [intOf]; omega
    · have i1 : ¬ (i : Int) < (N : Int) := by omega
      have e : i = N := by omega
      have HE : Hid (∃ F, Is F wr a (AM.Raw.new N n) ∧ ∀ i, F i → w.heap.size ≤ i) := by
        obtain ⟨F, dv, h, hF⟩ := OK.out
        rw [e, newTo_all] at h
        exact ⟨F, h.is, hF⟩
      clear OK e
      go_wp2
      go_ret2
      exact ⟨a, rfl, HE.out, GK.out⟩
end Go.Proofs.Ytfmlohedebdomaa
