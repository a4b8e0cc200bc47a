/- hayricklaw10.same: whether two lists of runes are one. -/
import Derived.Test.YtfflpmcflpbopaaDoorRow
import Derived.Deep.RegionHeld3
set_option linter.unusedVariables false
set_option linter.unusedSimpArgs false
namespace Go.Proofs.YtfflpmcflpbopaaDoor
open Go.RowKit

theorem grown_drewN (w : World) (n : Nat) : w.grownBy (w.drewN n) none := ⟨rfl, rfl, rfl, Nat.le_refl _, fun _ _ _ => rfl⟩
/-- A slice at p reads as the runes ls. -/
def RV (w : World) (p : Option Addr) (ls : List Nat) : Prop := ls ≠ [] → ∃ b off, p = some ⟨b, off, none⟩ ∧ ∀ j, j < ls.length → w.cell? ⟨b, off + j, none⟩ = some (rv (ls.getD j 0))
theorem RV.keep {w w' : World} {p : Option Addr} {ls : List Nat} (h : RV w p ls) (g : w.grownBy w' none) : RV w' p ls := fun hn => by
  obtain ⟨b, off, e, hc⟩ := h hn
  exact ⟨b, off, e, fun j hj => g.cell (hc j hj) (by simp)⟩
theorem RV.spot {w : World} {p : Option Addr} {ls : List Nat} (h : RV w p ls) {k : Nat} (hk : k < ls.length) : ∃ b off, p = some ⟨b, off, none⟩ ∧ w.cell? ⟨b, off + k, none⟩ = some (rv (ls.getD k 0)) := by
  obtain ⟨b, off, e, hc⟩ := h (fun e => by rw [e] at hk; simp at hk)
  exact ⟨b, off, e, hc k hk⟩
theorem RV.take {w : World} {p : Option Addr} {ls : List Nat} (h : RV w p ls) (n : Nat) : RV w p (ls.take n) := fun hn => by
  obtain ⟨b, off, e, hc⟩ := h (fun e => hn (by rw [e]; simp))
  refine ⟨b, off, e, fun j hj => ?_⟩
  rw [List.length_take] at hj
  rw [hc j (by omega)]
  have hj1 : j < n := by omega
  simp [List.getD, hj1]
theorem ROwn.rvw {B : Nat} {w : World} {p : Option Addr} {n c : Nat} {ls : List Nat} (h : ROwn B w (.slice p n c) ls) : RV w p ls := fun hn => by
  rcases h.row.2 with ⟨e, h0⟩ | ⟨g, cap, cur, e, hb, hg, _, _, hs, ht⟩
  · exact absurd (List.eq_nil_of_length_eq_zero h0) hn
  · injection e with e1 e2 e3
    refine ⟨g, 0, e1, fun j hj => ?_⟩
    have := h.row.cells (g := g) (by rw [e1]; rfl) j (rv (ls.getD j 0)) (by simp [List.getD, hj])
    rw [Nat.zero_add]
    have e : (⟨g, 0, none⟩ : Addr).add j = ⟨g, j, none⟩ := by cases j <;> simp [Addr.add]
    rwa [e] at this

theorem take_next {l : List Nat} {i : Nat} (h : i < l.length) : l.take (i + 1) = l.take i ++ [l.getD i 0] := by
  rw [List.take_add_one]
  simp [List.getD, h]
set_option maxHeartbeats 1600000 in
theorem same_any {w : World} {p q : Option Addr} {c d : Nat} {la lb : List Nat} (ha : RV w p la) (hb : RV w q lb) (hla : la.length ≤ 281474976710656) :
    Calls Tryd.prog 12 #[.slice p la.length c, .slice q lb.length d] w fun e w' => e = .returned (.bool (decide (la = lb))) ∧ w.grownBy w' none := by
  obtain ⟨B, hB⟩ : ∃ B, decide (la = lb) = B := ⟨_, rfl⟩
  rw [hB]
  obtain ⟨n, hn⟩ : ∃ n, la.length = n := ⟨_, rfl⟩
  obtain ⟨m, hm⟩ : ∃ m, lb.length = m := ⟨_, rfl⟩
  rw [hn, hm]
  by_cases hnm : n = m
  · subst hnm
    have HV : Hid (RV w p la ∧ RV w q lb ∧ la.length = n ∧ lb.length = n) := ⟨ha, hb, hn, hm⟩
    have HB : Hid (decide (la = lb) = B) := hB
    rw [hn] at hla
    clear ha hb hn hm hB
    go_enter Tryd.func12, Tryd.ntmps12
    go_wp2_with fail
    go_loopw [5] (fun ti wr => ∃ j : Nat, j ≤ n ∧ ti = .int .i64 (j : Int) ∧ Hid (w.grownBy wr none) ∧ Hid (la.take j = lb.take j)) (fun ti _ => n - (intOf ti).toNat)
    case atStart => exact ⟨0, by omega, rfl, World.grownBy.refl _ _, rfl⟩
    case round =>
      obtain ⟨j, hj, rfl, GK, TK⟩ := hrel
      by_cases hlt : j < n
      · have i3 : (j : Int) < (n : Int) := by omega
        have i4 : (0 : Int) ≤ (j : Int) := by omega
        have j1 : j < la.length := by have := HV.out.2.2.1; omega
        have j2 : j < lb.length := by have := HV.out.2.2.2; omega
        have ta := take_next j1
        have tb := take_next j2
        obtain ⟨b, off, rfl, hc⟩ := HV.out.1.spot j1
        obtain ⟨b2, off2, rfl, hc2⟩ := HV.out.2.1.spot j2
        obtain ⟨x, hx⟩ : ∃ x, x = la.getD j 0 := ⟨_, rfl⟩
        obtain ⟨y, hy⟩ : ∃ y, y = lb.getD j 0 := ⟨_, rfl⟩
        rw [← hx] at hc ta
        rw [← hy] at hc2 tb
        have HC : Hid (∀ w', wr.grownBy w' none → w'.cell? ⟨b, off + j, none⟩ = some (.int .i32 (x : Int)) ∧ w'.cell? ⟨b2, off2 + j, none⟩ = some (.int .i32 (y : Int))) := fun w' g' => ⟨(gb_trans GK.out g').cell hc (by simp), (gb_trans GK.out g').cell hc2 (by simp)⟩
        have HT : Hid (la.take (j + 1) = la.take j ++ [x] ∧ lb.take (j + 1) = lb.take j ++ [y]) := ⟨ta, tb⟩
        clear hc hc2 hx hy j1 j2 ta tb
        by_cases hxy : (x : Int) = (y : Int)
        · go_wp2_with fail
          go_region_held3 (fun w' => w'.cell? ⟨b, off + j, none⟩ = some (.int .i32 (x : Int)) ∧ w'.cell? ⟨b2, off2 + j, none⟩ = some (.int .i32 (y : Int))) (exact HC.out _ (grown_drewN wr 1)) (fail)
          go_wp2
          go_roundw
          case rel => exact ⟨j + 1, by omega, by go_num, gb_trans GK.out (grown_drewN wr 1), by show _ = _; rw [HT.out.1, HT.out.2, TK.out, show x = y by omega]⟩
          case measure => simp [intOf]; omega
        · have hne : la ≠ lb := fun e => by
            have h1 := HT.out
            rw [e] at h1
            have := h1.1.symm.trans h1.2
            simp at this
            omega
          obtain rfl := HB.out.symm.trans (decide_eq_false hne)
          go_wp2_with fail
          go_region_held3 (fun w' => w'.cell? ⟨b, off + j, none⟩ = some (.int .i32 (x : Int)) ∧ w'.cell? ⟨b2, off2 + j, none⟩ = some (.int .i32 (y : Int))) (exact HC.out _ (grown_drewN wr 1)) (fail)
          go_wp2
          go_ret
          exact ⟨rfl, gb_trans GK.out (grown_drewN wr 1)⟩
      · have i3 : ¬ (j : Int) < (n : Int) := by omega
        obtain rfl : j = n := by omega
        have he : la = lb := by
          have h1 := TK.out
          rw [List.take_of_length_le (by rw [HV.out.2.2.1]; exact Nat.le_refl _), List.take_of_length_le (by rw [HV.out.2.2.2]; exact Nat.le_refl _)] at h1
          exact h1
        obtain rfl := HB.out.symm.trans (decide_eq_true he)
        clear he
        go_wp2
        go_ret
        exact ⟨rfl, GK.out⟩
  · have hz : ¬ (n : Int) = (m : Int) := by omega
    have hne : la ≠ lb := fun e => hnm (by rw [← hn, ← hm, e])
    obtain rfl := hB.symm.trans (decide_eq_false hne)
    clear hne hn hm hB
    go_enter Tryd.func12, Tryd.ntmps12
    go_wp2
    go_ret
    exact ⟨rfl, World.grownBy.refl _ _⟩
end Go.Proofs.YtfflpmcflpbopaaDoor
