/- The contract of hayrickref03.Identity. -/
import Derived.Test.YtdeajclghlbhcaaIdent
namespace Go.Proofs.Ytdeajclghlbhcaa
open Go.RowKit

def idUp (n k : Nat) : List (List Nat) := (List.range k).map fun i => idRow n i
theorem idUp_next (n k : Nat) : idUp n k ++ [idRow n k] = idUp n (k + 1) := by simp [idUp, List.range_succ]

theorem Sep.more {H : Nat} {us : List Value} (h : Sep us) (hh : ∀ j, j < us.length → Hi H (us.getD j undef)) {u : Value} (hu : Lo H u) : Sep (us ++ [u]) := by
  have e1 : ∀ j, j < us.length → (us ++ [u]).getD j undef = us.getD j undef := fun j hj => by simp [List.getD, List.getElem?_append, hj]
  have e2 : (us ++ [u]).getD us.length undef = u := by simp [List.getD]
  intro i j hi hj hne
  simp only [List.length_append, List.length_cons, List.length_nil] at hi hj
  by_cases h1 : i < us.length
  · by_cases h2 : j < us.length
    · rw [e1 i h1, e1 j h2]; exact h i j h1 h2 hne
    · obtain rfl : j = us.length := by omega
      rw [e1 i h1, e2]; exact ap_of (hh i h1) hu
  · obtain rfl : i = us.length := by omega
    rw [e2, e1 j (by omega)]; exact (ap_of (hh j (by omega)) hu).symm

theorem cell_new1 {W : World} {g : Nat} (x : Value) (t : TypeId) (h : g = W.heap.size) : (W.alloc (.cells #[x] t)).cell? ⟨g, 0, none⟩ = some x := by
  subst h
  have h := heap_alloc_new W (.cells #[x] t)
  unfold World.cell?
  rw [h]; rfl

theorem refIdent_no (n : Int) (w : World) (h : (decide (1 ≤ n) && decide (n ≤ 255)) = false) :
    Calls Try.prog 27 #[.int .i64 n] w fun e w' => e = .returned (.tuple #[.slice none 0 0, .int .i64 1]) ∧ w' = w := by
  by_cases h1 : n < 1
  · clear h
    go_enter Try.func27, Try.ntmps27
    go_wp2
    go_ret2
    exact ⟨rfl, rfl⟩
  · have h2 : 255 < n := by simp at h; omega
    clear h
    go_enter Try.func27, Try.ntmps27
    go_wp2
    go_ret2
    exact ⟨rfl, rfl⟩

set_option maxHeartbeats 1600000 in
theorem refIdent_any (n : Nat) (w : World) (h1 : 1 ≤ n) (h2 : n ≤ 255) :
    Calls Try.prog 27 #[.int .i64 (n : Int)] w fun e w' => ∃ v us, e = .returned (.tuple #[v, .int .i64 0]) ∧ OwnMat w.heap.size w' v us (idList n) ∧ Sep us ∧ w.grownBy w' none := by
  have j1 : ¬ (n : Int) < 1 := by omega
  have j2 : ¬ (255 : Int) < (n : Int) := by omega
  go_enter Try.func27, Try.ntmps27
  go_wp2_with fail
  clear j1 j2
  have HN : Hid (1 ≤ n ∧ n ≤ 255) := ⟨h1, h2⟩
  clear h1
  go_loopw [4, 5] (fun tv ti wr => ∃ (k : Nat) (us : List Value), k ≤ n ∧ ti = .int .i64 k ∧ Hid (us.length = k) ∧ Hid (OwnMat w.heap.size wr tv us (idUp n k)) ∧ Hid (Sep us) ∧ Hid (w.grownBy wr none)) (fun _ ti _ => n - (intOf ti).toNat)
  case atStart => exact ⟨0, [], by omega, rfl, rfl, OwnMat.nil _ _, (fun i j hi => by simp at hi), World.grownBy.refl _ _⟩
  case round =>
    obtain ⟨k, us, hk, rfl, HU, OM, SP, GK⟩ := hrel
    by_cases hlt : k < n
    · have i1 : (k : Int) < (n : Int) := by omega
      have i3 : (0 : Int) ≤ (k : Int) := by omega
      have HB : Hid (w.heap.size ≤ wr.heap.size) := GK.out.size
      go_wp2_with (first
        | (at_make; refine wpList_make_vec rfl _ _ rfl n rfl rfl (by omega) ?_; intro w1 p ou g1; obtain ⟨gu, rfl, q1, hcx, hfx, q2, hset, hgrow⟩ := ou.spot (k := k) (by simp; omega); have G2 : Hid (wr.grownBy (w1.setCell ⟨gu, k, none⟩ (.int .u8 1)) none) := grown_new g1 (hgrow _) (fun i e => by have h := ou.lo gu rfl; have := Option.some.inj e; omega); have OU : Hid (Own wr.heap.size (w1.setCell ⟨gu, k, none⟩ (.int .u8 1)) (.slice (some ⟨gu, 0, none⟩) n n) (idRow n k)) := (by have h := hset 1 (by decide); rw [idRow_set] at h; exact h); have HSZ : Hid (wr.heap.size ≤ w1.heap.size) := g1.size; clear q1 q2 hset hgrow ou g1)
        | (at_builtin; refine wpList_append_out rfl _ _ rfl u4 ⟨w1.heap.size, 0, none⟩ rfl rfl (B := w.heap.size) (us := us) (u := .slice (some ⟨gu, 0, none⟩) n n) ((OM.out.keep (grown_trans G2.out (World.grownBy_alloc _ _ none))).out) (cell_new1 _ _ (by simp)) rfl (by have h1 := HB.out; have h2 := HSZ.out; simp; omega) (by have := HU.out; omega) ?_; intro v' w2 oo gg at2; have HO : Hid (Out w.heap.size w2 v' (us ++ [.slice (some ⟨gu, 0, none⟩) n n])) := oo; have HG : Hid (((w1.setCell ⟨gu, k, none⟩ (.int .u8 1)).alloc (.cells #[.slice (some ⟨gu, 0, none⟩) n n] 39)).grownBy w2 u4.ownBlock) := gg; clear oo gg at2 hcx hfx))
      have R : Hid (OwnMat w.heap.size w2 v' (us ++ [.slice (some ⟨gu, 0, none⟩) n n]) (idUp n (k + 1)) ∧ Sep (us ++ [.slice (some ⟨gu, 0, none⟩) n n]) ∧ w.grownBy w2 none) := by
        rw [← idUp_next]
        refine ⟨(OM.out.keep (grown_trans G2.out (World.grownBy_alloc _ _ none))).more ((OU.out.down HB.out).keep (World.grownBy_alloc _ _ none)) (by have := HU.out; omega) (by simpa using HO.out.row) HG.out, SP.out.more (H := wr.heap.size) OM.out.hiRow OU.out.lo, ?_⟩
        exact grown_new (grown_trans GK.out (grown_trans G2.out (World.grownBy_alloc _ _ none))) HG.out OM.out.lo
      clear HO HG OM OU G2 HB HSZ SP
      go_roundw
      case rel => exact ⟨k + 1, us ++ [Value.slice (some ⟨gu, 0, none⟩) n n], by omega, by go_num, show _ = _ by simpa using HU.out, R.out.1, R.out.2.1, R.out.2.2⟩
      case measure => simp [intOf]; omega
    · have hkN : n = k := by omega
      subst hkN
      go_wp2
      go_ret2
      exact ⟨_, us, rfl, OM.out, SP.out, GK.out⟩
end Go.Proofs.Ytdeajclghlbhcaa
