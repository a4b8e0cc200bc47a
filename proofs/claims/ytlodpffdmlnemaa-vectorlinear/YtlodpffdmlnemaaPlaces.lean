/- Contracts of vector.fit, list and sum: over whatever function value that tells a number at each place. -/
import Derived.Test.YtlodpffdmlnemaaVec
import Derived.Test.YtlodpffdmlnemaaLeaf
namespace Go.Proofs.Ytlodpffdmlnemaa
open Go.RowKit
theorem fit_any (p q : Option Addr) (n m c d : Nat) (w : World) :
    Calls Try.prog 21 #[.slice p n c, .slice q m d] w fun e w' => e = .returned (.bool ((n : Int) == (m : Int))) ∧ w' = w := by
  go_enter Try.func21, Try.ntmps21
  go_wp2
  go_ret
  exact ⟨rfl, rfl⟩

/-- The function value f with what it has caught: at each place below n it returns g's number, in every world that has grown out of w; it may make memory. -/
def Told (f : Nat) (cap : Array Value) (n : Nat) (g : Nat → Nat) (w : World) : Prop :=
  (∀ args w, (callFunc f args).run Try.prog w = .ok (.enter f args) w) ∧
  ∀ k, k < n → ∀ w', w.grownBy w' none → Calls Try.prog f (#[.int .i64 (k : Int)] ++ cap) w' fun e w'' => e = .returned (bv (g k)) ∧ w'.grownBy w'' none

theorem row_step {w : World} {b n k : Nat} {g : Nat → Nat} (h : w.rowIs b 5 n (fun j => bv (if j < k then g j else 0))) :
    (w.setCell ⟨b, k, none⟩ (bv (g k))).rowIs b 5 n (fun j => bv (if j < k + 1 then g j else 0)) :=
  (h.set k (bv (g k))).congr fun i _ => by
    by_cases e : i = k
    · subst e; simp
    · by_cases l : i < k
      · simp [e, l, show i < k + 1 from by omega]
      · simp [e, l, show ¬ i < k + 1 from by omega]

theorem row_own {w : World} {B b n : Nat} {g : Nat → Nat} (h : w.rowIs b 5 n (fun j => bv (g j))) (hg : ∀ j, j < n → g j < 256) (hn : n ≤ 140737488351232) (hB : B ≤ b) :
    Own B w (.slice (some ⟨b, 0, none⟩) n n) ((List.range n).map g) := by
  obtain ⟨c, hc, hs, hv⟩ := h
  refine ⟨fun x hx => ?_, by simpa using hn, by simp, .inr ⟨b, n, c, by simp, hB, hc, by simp, by unfold maxLen; omega, by simpa using hs, ?_⟩⟩
  · obtain ⟨j, hj, rfl⟩ := List.mem_map.1 hx
    exact hg j (by simpa using hj)
  · apply List.ext_getElem?
    intro i
    by_cases hi : i < n
    · have := hv i (by omega)
      simp [hi, this]
    · simp [List.getElem?_take, hi]

set_option maxHeartbeats 400000 in
theorem list_any (f : Nat) (cap : Array Value) (n : Nat) (g : Nat → Nat) (w : World) (hn : n ≤ 140737488351232) (hg : ∀ j, j < n → g j < 256) (ht : Told f cap n g w) :
    Calls Try.prog 22 #[.int .i64 n, .func (.func f) #[] cap] w fun e w' => ∃ v, e = .returned v ∧ Own w.heap.size w' v ((List.range n).map g) ∧ w.grownBy w' none := by
  obtain ⟨i0, hi, hz0, hz1, hz2⟩ := info_parts Try.info5
  have hf := ht.1
  have HG : Hid (∀ j, j < n → g j < 256) := hg
  clear hg
  go_enter Try.func22, Try.ntmps22
  go_wp2_with (at_make; refine wpList_make_row _ rfl _ _ 22 rfl 5 i0 (.int .u8 0) Try.underlying22 hi hz0 hz1 rfl _ _ n rfl rfl (by rw [hz2]; omega) (by omega) ?_)
  go_loopw [10] (fun ti wr => ∃ k : Nat, k ≤ n ∧ ti = .int .i64 k ∧ wr.rowIs w.heap.size 5 n (fun j => bv (if j < k then g j else 0)) ∧ w.grownBy wr none) (fun ti _ => n - (intOf ti).toNat)
  case atStart => exact ⟨0, by omega, rfl, (World.rowIs_made w _ n 5).congr (by simp [bv]), World.grownBy_alloc w _ none⟩
  case round =>
    obtain ⟨k, hk, rfl, hrow, hg⟩ := hrel
    by_cases hlt : k < n
    · go_wp2_with fail
      refine (ht.2 k hlt wr hg).mono ?_
      rintro e w1 ⟨rfl, hg1⟩
      have hs : w.heap.size < wr.heap.size := hrow.lt
      have hrow1 := hrow.of_block (hg1.block _ hs (by simp))
      have hc : w1.cell? ⟨w.heap.size, k, none⟩ = some (.int .u8 0) := by simpa [bv] using hrow1.cell hlt
      have hz := hrow1.frozen k
      have HR : Hid _ := row_step hrow1
      have HW : Hid (w.grownBy (w1.setCell ⟨w.heap.size, k, none⟩ (bv (g k))) none) := by
        refine grown_new (grown_trans hg hg1) (row := some w.heap.size) ⟨rfl, rfl, rfl, by simp, fun i hi hne => ?_⟩ (by simp)
        exact Below.heap_setCell _ _ _ _ (by simpa using hne)
      clear hrow hg hg1 hrow1
      go_wp2
      go_roundw
      case rel => exact ⟨k + 1, by omega, by go_num, HR.out, HW.out⟩
      case measure => simp [intOf]; omega
    · go_wp2_with fail
      have hk' : k = n := by omega
      subst hk'
      go_ret
      refine ⟨_, rfl, row_own (hrow.congr fun i hi => by simp [hi]) HG.out hn (Nat.le_refl _), hg⟩

/-- The sum of the first k of g's numbers. -/
def xsum (g : Nat → Nat) : Nat → Nat
  | 0 => 0
  | k + 1 => xsum g k ^^^ g k

theorem xsum_lt {g : Nat → Nat} : ∀ {n : Nat}, (∀ j, j < n → g j < 256) → xsum g n < 256
  | 0, _ => by simp [xsum]
  | n + 1, h => M.xor_lt (xsum_lt fun j hj => h j (by omega)) (h n (by omega))

set_option maxHeartbeats 400000 in
theorem sum_any (f : Nat) (cap : Array Value) (n : Nat) (g : Nat → Nat) (w : World) (hn : n ≤ 140737488351232) (hg : ∀ j, j < n → g j < 256) (ht : Told f cap n g w) :
    Calls Try.prog 29 #[.int .i64 n, .func (.func f) #[] cap] w fun e w' => e = .returned (bv (xsum g n)) ∧ w.grownBy w' none := by
  have hf := ht.1
  have HG : Hid (∀ j, j < n → g j < 256) := hg
  clear hg
  go_enter Try.func29, Try.ntmps29
  go_wp2
  go_loopw [5, 8] (fun ts ti wr => ∃ k : Nat, k ≤ n ∧ ti = .int .i64 k ∧ ts = bv (xsum g k) ∧ w.grownBy wr none) (fun _ ti _ => n - (intOf ti).toNat)
  case atStart => exact ⟨0, by omega, rfl, rfl, World.grownBy.refl w none⟩
  case round =>
    obtain ⟨k, hk, rfl, rfl, hg⟩ := hrel
    by_cases hlt : k < n
    · go_wp2_with fail
      refine (ht.2 k hlt wr hg).mono ?_
      rintro e w1 ⟨rfl, hg1⟩
      have HW : Hid (w.grownBy w1 none) := grown_trans hg hg1
      have h1 : xsum g k < 256 := xsum_lt fun j hj => HG.out j (by omega)
      have h2 : g k < 256 := HG.out k hlt
      clear hg hg1
      go_wp2_with (go_at_call 24; refine (add_any _ _ _ (by omega) (by omega) (by omega) (by omega)).mono ?_; rintro e w2 ⟨rfl, hw⟩; obtain rfl := hw.symm; clear hw)
      go_roundw
      case rel => exact ⟨k + 1, by omega, by go_num, by simp [bv, xsum], HW.out⟩
      case measure => simp [intOf]; omega
    · go_wp2_with fail
      have hk' : k = n := by omega
      subst hk'
      go_ret
      exact ⟨rfl, hg⟩
end Go.Proofs.Ytlodpffdmlnemaa
