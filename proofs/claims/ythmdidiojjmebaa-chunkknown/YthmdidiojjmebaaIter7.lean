/- slices.Chunk over bytes: loads of 56. -/
import Derived.Test.YthmdidiojjmebaaRPut7
import Derived.RangeFuncNested
import Derived.RangeFuncBound
import Derived.RangeFuncCalls
import Derived.RangeFuncLeaves
import Derived.RangeFuncBox
import Derived.Shelf.Abstract
import Derived.WalkKit
import Derived.OwnWalkIn
import Derived.TacticsInMore
import Derived.LoopNIn
import Derived.LoopIn
import Derived.Deep.RegionHeld3
namespace Go.Proofs.Ythmdidiojjmebaa
open Go.RowKit Go.Shelf
attribute [local go_sem] Oper.semAt_some

/-- A place, brought below m. -/
def cl (m x : Nat) : Nat := min x (m - 1)
theorem cl_lt {m x : Nat} (h : 0 < m) : cl m x < m := by unfold cl; omega
theorem cl_self {m x : Nat} (h : x < m) : cl m x = x := by unfold cl; omega
/-- What the iterator hands on. -/
def encL (b off m x : Nat) : Array Value := #[.slice (some ⟨b, off + 56 * cl m x, none⟩) 56 56]
/-- What a round keeps: the two captured variables. -/
def Kp7 (Bs Bn : Nat) (W W' : World) : Prop := W'.heap[Bs]? = W.heap[Bs]? ∧ W'.heap[Bn]? = W.heap[Bn]?

theorem chunk_any (w : World) (p : Option Addr) (n c : Nat) :
    Calls Try.prog 20 #[.slice p n c, .int .i64 56] w fun e w' => e = .returned (.func (.func 23) #[] #[.pointer (some ⟨w.heap.size, 0, none⟩), .pointer (some ⟨w.heap.size + 1, 0, none⟩)]) ∧ w' = (w.alloc (.cells #[.slice p n c] 23)).alloc (.cells #[.int .i64 56] 3) := by
  go_enter Try.func20, Try.ntmps20
  go_wp2
  go_ret
  exact ⟨rfl, rfl⟩

theorem slice_lo7 {b off n c lo : Nat} (h3 : lo < n) (hc : n ≤ c) (W : World) : (Instr.slice 23 (.slice (some ⟨b, off, none⟩) n c) (some (.int .i64 (lo : Int))) none none).run Try.prog W = .ok (.slice (some ⟨b, off + lo, none⟩) (n - lo) (c - lo)) W := by
  obtain ⟨i0, hi0, hz0, hz1, hz2⟩ := info_parts Try.info5
  have e2 : (Instr.sliceBound (.int .i64 (lo : Int)) n .sliceB).run Try.prog W = .ok lo W := by
    have := run_sliceBound (P := Try.prog) W .i64 (lo : Int) n .sliceB (by omega) (by omega)
    simpa using this
  have h4 : ¬ c = lo := by omega
  simp [Instr.slice, run_underlying Try.underlying23, Instr.sliceBounds, e2, sizeOf, typeInfo, hi0, hz1, h4, add_off]
theorem slice_lhm {b off n c lo hi : Nat} (h2 : hi ≤ c) (h3 : lo < hi) (W : World) : (Instr.slice 23 (.slice (some ⟨b, off, none⟩) n c) (some (.int .i64 (lo : Int))) (some (.int .i64 (hi : Int))) (some (.int .i64 (hi : Int)))).run Try.prog W = .ok (.slice (some ⟨b, off + lo, none⟩) (hi - lo) (hi - lo)) W := by
  obtain ⟨i0, hi0, hz0, hz1, hz2⟩ := info_parts Try.info5
  have e0 : (Instr.sliceBound (.int .i64 (hi : Int)) c .slice3Acap).run Try.prog W = .ok hi W := by
    have := run_sliceBound (P := Try.prog) W .i64 (hi : Int) c .slice3Acap (by omega) (by omega)
    simpa using this
  have e1 : (Instr.sliceBound (.int .i64 (hi : Int)) hi .slice3B).run Try.prog W = .ok hi W := by
    have := run_sliceBound (P := Try.prog) W .i64 (hi : Int) hi .slice3B (by omega) (by omega)
    simpa using this
  have e2 : (Instr.sliceBound (.int .i64 (lo : Int)) hi .slice3C).run Try.prog W = .ok lo W := by
    have := run_sliceBound (P := Try.prog) W .i64 (lo : Int) hi .slice3C (by omega) (by omega)
    simpa using this
  have h4 : ¬ hi = lo := by omega
  simp [Instr.slice, run_underlying Try.underlying23, Instr.sliceBounds, e0, e1, e2, sizeOf, typeInfo, hi0, hz1, h4, add_off]

set_option maxRecDepth 100000 in
set_option maxHeartbeats 2000000 in
theorem chunk1_in (n : Nat) (hn : 1 ≤ n) (l Bs Bn b off N cap m : Nat) (hN : N = 56 * m) (hm : m ≤ 64) (hcap : N ≤ cap) (J Jx : List Nat → World → Prop)
    (hY : ∀ pre x W, J pre W → pre.length < m → YieldAt Fence.wide (n - 1) Try.prog l (encL b off m x) W fun e W' =>
      (e = .returned (.bool true) ∧ J (pre ++ [x]) W' ∧ Kp7 Bs Bn W W') ∨ (e = .returned (.bool false) ∧ Jx (pre ++ [x]) W'))
    (W : World) (hBs : Boxed W Bs 23 (.slice (some ⟨b, off, none⟩) N cap)) (hBn : Boxed W Bn 3 (.int .i64 56)) (hJd : ∀ pre W, J pre W → J pre W.drew) (h0 : J [] W) :
    CallsIn Fence.wide n Try.prog 23 #[.func (.yield l) #[] #[], .pointer (some ⟨Bs, 0, none⟩), .pointer (some ⟨Bn, 0, none⟩)] W fun e W' => (∃ v, e = .returned v) ∧
      ((∃ ys, ys = List.range m ∧ J ys W') ∨ (∃ pre, (∃ k, k ≤ m ∧ pre = List.range k) ∧ Jx pre W')) := by
  have HN : Hid (N = 56 * m ∧ N ≤ cap) := ⟨hN, hcap⟩
  have HY : Hid _ := hY
  clear hN hcap hY
  refine callsIn_of_wp Try.func23 rfl trivial ?_ rfl
  simp only [Try.ntmps23, List.size_toArray, List.length_cons, List.length_nil, Nat.reduceAdd, Nat.reduceSub, Array.replicate_succ, Array.replicate_zero, List.push_toArray, List.append_toArray, List.nil_append, List.cons_append]
  gi_wp2
  gi_loopw [4] (fun i wr => ∃ k : Nat, k ≤ m ∧ i = .int .i64 (56 * (k : Int)) ∧ Hid (J (List.range k) wr) ∧ Hid (Boxed wr Bs 23 (.slice (some ⟨b, off, none⟩) N cap) ∧ Boxed wr Bn 3 (.int .i64 56)))
    (fun i _ => 56 * m - (intOf i).toNat)
  case atStart => exact ⟨0, Nat.zero_le _, rfl, h0, hBs, hBn⟩
  case round =>
    clear hBs hBn h0
    obtain ⟨k, hk, rfl, hJs, hB⟩ := hrel
    have c1 := hB.out.1.cell
    by_cases hlt : k < m
    · have i1 : 56 * (k : Int) < (N : Int) := by have := HN.out; omega
      have HY2 : Hid (YieldAt Fence.wide (n - 1) Try.prog l (encL b off m k) wr.drew fun e W' => (e = .returned (.bool true) ∧ J (List.range k ++ [k]) W' ∧ Kp7 Bs Bn wr.drew W') ∨ (e = .returned (.bool false) ∧ Jx (List.range k ++ [k]) W')) := HY.out _ _ _ (hJd _ _ hJs.out) (by simpa using hlt)
      have s1 := fun W => slice_lo7 (b := b) (off := off) (n := N) (c := cap) (lo := 56 * k) (by have := HN.out; omega) HN.out.2 W
      rw [show ((56 * k : Nat) : Int) = 56 * (k : Int) by omega] at s1
      obtain ⟨R, hR⟩ : ∃ R, R = N - 56 * k := ⟨_, rfl⟩
      rw [← hR] at s1
      have iR : ¬ (R : Int) < 56 := by have := HN.out; omega
      have HB : Hid (∀ w', wr.grownBy w' none → w'.cell? ⟨Bs, 0, none⟩ = some (.slice (some ⟨b, off, none⟩) N cap) ∧ w'.cell? ⟨Bn, 0, none⟩ = some (.int .i64 56)) := fun w' g => ⟨g.cell hB.out.1.cell (by simp), g.cell hB.out.2.cell (by simp)⟩
      clear hR hJs
      gi_wp2
      refine wpIn_wide.2 ?_
      go_region_held3 (fun w' => w'.cell? ⟨Bs, 0, none⟩ = some (.slice (some ⟨b, off, none⟩) N cap) ∧ w'.cell? ⟨Bn, 0, none⟩ = some (.int .i64 56)) (first | exact HB.out _ (grown_drewN _ 1)) (fail)
      clear s1 i1
      have eL : encL b off m k = #[.slice (some ⟨b, off + 56 * k, none⟩) 56 56] := by simp [encL, cl_self hlt]
      rw [eL] at HY2
      obtain ⟨fn, tmps, assign, body, hy, hR⟩ := HY2.out
      have s2 := fun W => slice_lhm (b := b) (off := off) (n := N) (c := cap) (lo := 56 * k) (hi := 56 * k + 56) (by have := HN.out; omega) (by omega) W
      rw [show ((56 * k + 56 : Nat) : Int) = 56 * (k : Int) + 56 by omega, show ((56 * k : Nat) : Int) = 56 * (k : Int) by omega, show 56 * k + 56 - 56 * k = 56 by omega] at s2
      have d1 : wr.drew.cell? ⟨Bs, 0, none⟩ = some (.slice (some ⟨b, off, none⟩) N cap) := c1
      clear HY2 eL c1
      gi_wp2
      refine hR.mono ?_
      rintro e W3 (⟨rfl, hJ3, hk3⟩ | ⟨rfl, hJx3⟩)
      · have HJ3 : Hid (J (List.range k ++ [k]) W3) := hJ3
        have hB3 : Hid (Boxed W3 Bs 23 (.slice (some ⟨b, off, none⟩) N cap) ∧ Boxed W3 Bn 3 (.int .i64 56)) := ⟨hk3.1.trans hB.out.1, hk3.2.trans hB.out.2⟩
        have c3 := hB3.out.2.cell
        clear hJ3 hk3 hy hR s2 d1
        gi_wp2
        go_roundw
        case rel => exact ⟨k + 1, by omega, by go_num, by rw [List.range_succ]; exact HJ3, hB3⟩
        case measure => simp [intOf]; omega
      · have HJ3 : Hid (Jx (List.range k ++ [k]) W3) := hJx3
        clear hJx3 hy hR s2 d1
        gi_wp2
        refine bodyPost_ret (results_none rfl _ _ _) rfl ?_
        exact ⟨⟨_, rfl⟩, .inr ⟨_, ⟨k + 1, by omega, (List.range_succ).symm⟩, HJ3.out⟩⟩
    · obtain rfl : k = m := by omega
      have i1 : ¬ 56 * (k : Int) < (N : Int) := by have := HN.out; omega
      gi_wp2
      go_end0
      exact ⟨⟨_, rfl⟩, .inl hJs.out⟩
end Go.Proofs.Ythmdidiojjmebaa
