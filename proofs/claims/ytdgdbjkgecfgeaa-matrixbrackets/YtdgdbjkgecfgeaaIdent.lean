/- The contract of matrix.Identity. -/
import Derived.Test.YtdgdbjkgecfgeaaBlank
namespace Go.Proofs.Ytdgdbjkgecfgeaa
open Go.RowKit

def idRow (n i : Nat) : List Nat := (List.range n).map fun j => if i = j then 1 else 0
def idTo (n k : Nat) : List (List Nat) := (List.range n).map fun i => if i < k then idRow n i else List.replicate n 0
def idList (n : Nat) : List (List Nat) := (List.range n).map fun i => idRow n i

theorem idTo_len (n k : Nat) : (idTo n k).length = n := by simp [idTo]
theorem idTo_zero (n : Nat) : idTo n 0 = List.replicate n (List.replicate n 0) := by
  apply List.ext_getElem
  · simp [idTo]
  · intro i h1 h2
    simp [idTo]
theorem idTo_all (n : Nat) : idTo n n = idList n := by
  apply List.ext_getElem
  · simp [idTo, idList]
  · intro i h1 h2
    have : i < n := by simpa [idTo] using h1
    simp [idTo, idList, this]
theorem idTo_get (n k : Nat) (h : k < n) : (idTo n k).getD k [] = List.replicate n 0 := by simp [idTo, List.getD, h]
theorem idRow_set (n k : Nat) : (List.replicate n 0).set k 1 = idRow n k := by
  apply List.ext_getElem
  · simp [idRow]
  · intro i h1 h2
    by_cases e : k = i
    · subst e; simp [idRow]
    · simp [idRow, e]
theorem idTo_set (n k : Nat) : (idTo n k).set k (idRow n k) = idTo n (k + 1) := by
  apply List.ext_getElem
  · simp [idTo]
  · intro i h1 h2
    by_cases e : k = i
    · subst e; simp [idTo]
    · by_cases l : i < k
      · simp [idTo, e, l, show i < k + 1 from by omega]
      · simp [idTo, e, l, show ¬ i < k + 1 from by omega]

theorem ident_no (n : Int) (w : World) (h : (decide (1 ≤ n) && decide (n ≤ 255)) = false) :
    Calls Try.prog 22 #[.int .i64 n] w fun e w' => e = .returned (.tuple #[.slice none 0 0, .int .i64 1]) ∧ w' = w := by
  have WN : Hid (∀ w, Calls Try.prog 34 #[.int .i64 n] w fun e w' => e = .returned (.bool false) ∧ w' = w) := fun w => within_any _ w h
  clear h
  go_enter Try.func22, Try.ntmps22
  go_wp2_with (go_at_call 34; refine (WN.out _).mono ?_; rintro e w1 ⟨rfl, hw⟩; obtain rfl := hw.symm; clear hw)
  go_ret2
  exact ⟨rfl, rfl⟩

set_option maxHeartbeats 1600000 in
theorem ident_any (n : Nat) (w : World) (h1 : 1 ≤ n) (h2 : n ≤ 255) :
    Calls Try.prog 22 #[.int .i64 (n : Int)] w fun e w' => ∃ v us, e = .returned (.tuple #[v, .int .i64 0]) ∧ OwnMat w.heap.size w' v us (idList n) ∧ Sep us ∧ w.grownBy w' none := by
  have WN : Hid (∀ w, Calls Try.prog 34 #[.int .i64 (n : Int)] w fun e w' => e = .returned (.bool true) ∧ w' = w) := fun w => within_any _ w (by simp; omega)
  go_enter Try.func22, Try.ntmps22
  go_wp2_with (first
    | (go_at_call 34; refine (WN.out _).mono ?_; rintro e w1 ⟨rfl, hw⟩; obtain rfl := hw.symm; clear hw)
    | (go_at_call 25; refine (blank_any n n _ (by omega) (by omega)).mono ?_; rintro e w1 ⟨v, us, rfl, om, sp, g1⟩; have OM : Hid (OwnMat w.heap.size w1 v us (List.replicate n (List.replicate n 0))) := om; have SP : Hid (Sep us) := sp; have G1 : Hid (w.grownBy w1 none) := g1; clear om sp g1))
  obtain ⟨p, N, cap, rfl, hN⟩ := OM.out.mat.row.opened
  clear hN
  go_loopw [13] (fun ti wr => ∃ (k : Nat), k ≤ n ∧ ti = .int .i64 k ∧ Hid (OwnMat w.heap.size wr (.slice p N cap) us (idTo n k)) ∧ Hid (w.grownBy wr none)) (fun ti _ => n - (intOf ti).toNat)
  case atStart => exact ⟨0, by omega, rfl, by have h := OM.out; rw [← idTo_zero] at h; exact h, G1.out⟩
  case round =>
    clear OM G1
    obtain ⟨k, hk, rfl, OK, GK⟩ := hrel
    by_cases hlt : k < n
    · have i1 : (k : Int) < (n : Int) := by omega
      have i3 : (0 : Int) ≤ (k : Int) := by omega
      have hkX : k < (idTo n k).length := by rw [idTo_len]; exact hlt
      obtain ⟨g, rfl, hb, hc, hf, _, _, _⟩ := OK.out.place (k := k) hkX
      have ov := OK.out.vec k hkX
      rw [idTo_get n k hlt] at ov
      obtain ⟨pk, nk, ck, ek, hnk⟩ := ov.vec.opened
      rw [ek] at hc ov
      obtain ⟨gk, rfl, hnn, hc2, hf2, h256, hset, hgrow⟩ := ov.spot (k := k) (by simpa using hlt)
      have hlo := ov.lo gk rfl
      have hNN : (k : Int) < (N : Int) := by
        have h3 := OK.out.mat.row.form
        obtain ⟨p3, c3, e3, _⟩ := h3
        injection e3 with _ e4 _
        have := OK.out.same
        rw [idTo_len] at this
        omega
      have hNk : (k : Int) < (nk : Int) := by simp at hnk; omega
      have R : Hid (OwnMat w.heap.size (wr.setCell ⟨gk, k, none⟩ (.int .u8 1)) (.slice (some ⟨g, 0, none⟩) N cap) us (idTo n (k + 1)) ∧ w.grownBy (wr.setCell ⟨gk, k, none⟩ (.int .u8 1)) none) := by
        have h1 := hset 1 (by decide)
        rw [idRow_set] at h1
        refine ⟨?_, grown_new GK.out (hgrow _) (fun i e => by have := Option.some.inj e; omega)⟩
        rw [← idTo_set]
        refine OK.out.rowSet SP.out hkX ?_ ?_
        · rw [ek]; exact h1
        · rw [ek]; exact hgrow _
      clear OK GK hset hgrow ov ek hnk hnn h256 hkX hlo hb hf
      go_wp2
      go_roundw
      case rel => exact ⟨k + 1, by omega, by go_num, R.out.1, R.out.2⟩
      case measure => simp [intOf]; omega
    · have hkn : n = k := by omega
      subst hkn
      go_wp2
      go_ret2
      have h0 := OK.out
      rw [idTo_all] at h0
      exact ⟨_, us, rfl, h0, SP.out, GK.out⟩
end Go.Proofs.Ytdgdbjkgecfgeaa
