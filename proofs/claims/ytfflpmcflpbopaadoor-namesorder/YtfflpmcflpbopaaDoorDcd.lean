/- Contracts of unicode/utf8.DecodeRuneInString at a text that is not empty: the rune at its head, and its width. -/
import Derived.Test.YtfflpmcflpbopaaDoorByt
import Derived.WalkSpells
import Derived.WalkLawsBesides
import Derived.Laws.BitsLemmas
set_option linter.unusedVariables false
namespace Go.Proofs.YtfflpmcflpbopaaDoor
open Go.RowKit

theorem mask241 : wrap32 517543559168 / 2147483648 = -1 := by unfold wrap32; omega
set_option maxRecDepth 100000 in
theorem drop_byte : ∀ x : Fin 256, bits .or .i32 (bits .andNot .i32 ((x.val : Nat) : Int) (-1)) (bits .and .i32 65533 (-1)) = 65533 := by decide
theorem first_cases (b : Nat) : Lib.firstT b = 240 ∨ Lib.firstT b = 241 ∨ Lib.firstT b = 2 ∨ Lib.firstT b = 19 ∨ Lib.firstT b = 3 ∨ Lib.firstT b = 35 ∨ Lib.firstT b = 52 ∨ Lib.firstT b = 4 ∨ Lib.firstT b = 68 := by
  unfold Lib.firstT
  repeat' split
  all_goals simp
theorem get!_lt (s : ByteArray) (k : Nat) (h : k < s.size) : s.get! k = s[k]'h := by
  cases s with
  | mk d => exact getElem!_pos d k h

/-- The library's two tables, as its text lays them. -/
def Tabs (w : World) : Prop :=
  (∀ c, c < 256 → w.cell? ⟨0, c, none⟩ = some (.int .u8 (Lib.firstT c))) ∧
  (∀ i, i < 16 → w.cell? ⟨1, 2 * i, none⟩ = some (.int .u8 (Lib.accLo i)) ∧ w.cell? ⟨1, 2 * i + 1, none⟩ = some (.int .u8 (Lib.accHi i)))
theorem Tabs.keep {w w' : World} (h : Tabs w) (g : w.grownBy w' none) : Tabs w' :=
  ⟨fun c hc => g.cell (h.1 c hc) (by simp), fun i hi => ⟨g.cell (h.2 i hi).1 (by simp), g.cell (h.2 i hi).2 (by simp)⟩⟩

set_option maxHeartbeats 4000000 in
set_option maxRecDepth 1000000 in
theorem slow_any (s : ByteArray) (w : World) (hT : Tabs w) (h0 : s.size ≠ 0) (hx : 128 ≤ (s.get! 0).toNat) :
    Calls Tryd.prog 30 #[.string s] w fun e w' => e = .returned (.tuple #[.int .i32 (R.rn (bs s) : Int), .int .i64 (R.wd (bs s) : Int)]) ∧ w.grownBy w' none := by
  have hz0 : (0 : Int) < (s.size : Int) := by omega
  have hz0' : ¬ ((s.size : Int) < 1) := by omega
  obtain ⟨x0, hx0⟩ : ∃ x0, s.get! 0 = x0 := ⟨_, rfl⟩
  obtain ⟨x1, hx1⟩ : ∃ x1, s.get! 1 = x1 := ⟨_, rfl⟩
  obtain ⟨x2, hx2⟩ : ∃ x2, s.get! 2 = x2 := ⟨_, rfl⟩
  obtain ⟨x3, hx3⟩ : ∃ x3, s.get! 3 = x3 := ⟨_, rfl⟩
  have hs0 : s[0]'(by omega) = x0 := by rw [← hx0]; exact (get!_lt s 0 (by omega)).symm
  have l0 := x0.toNat_lt; have l1 := x1.toNat_lt; have l2 := x2.toNat_lt; have l3 := x3.toNat_lt
  rw [hx0] at hx
  have hdec : R.dec (bs s) = Lib.decodeN s.size x0.toNat x1.toNat x2.toNat x3.toNat := by
    unfold R.dec
    rw [bs_len, ← bs_get!, ← bs_get!, ← bs_get!, ← bs_get!, hx0, hx1, hx2, hx3]
  unfold R.rn R.wd
  rw [hdec]
  clear hdec
  have hc0 := hT.1 x0.toNat (by omega)
  have hres : Lib.firstT x0.toNat < 240 → Lib.decodeN s.size x0.toNat x1.toNat x2.toNat x3.toNat = Lib.slowN s.size x0.toNat x1.toNat x2.toNat x3.toNat (Lib.firstT x0.toNat % 8) (Lib.accLo (Lib.firstT x0.toNat / 16)) (Lib.accHi (Lib.firstT x0.toNat / 16)) :=
    fun h => (Lib.slow_eq _ _ _ _ _ (by omega) (by omega) (by omega) (by omega) h).symm
  rcases first_cases x0.toNat with hX | hX | hX | hX | hX | hX | hX | hX | hX
  · exfalso
    unfold Lib.firstT at hX
    repeat' split at hX
    all_goals omega
  · rw [Lib.bad_eq _ _ _ _ _ (by omega) hX]
    rw [hX] at hc0
    clear hres hT hX
    go_enter Tryd.func30, Tryd.ntmps30
    go_wp2
    rw [mask241, drop_byte ⟨x0.toNat, l0⟩]
    go_ret2
    exact ⟨rfl, World.grownBy.refl _ _⟩
  all_goals replace hres := hres (by omega)
  · rw [hX] at hc0 hres
    have ha0 := (hT.2 0 (by omega)).1
    have ha1 := (hT.2 0 (by omega)).2
    simp only [Lib.accLo, Lib.accHi, Nat.reduceMul, Nat.reduceAdd, Nat.reduceEqDiff, if_true, if_false, Nat.reduceMod, Nat.reduceDiv] at ha0 ha1 hres
    rw [hres]
    clear hres hT hX
    by_cases hn : s.size < 2
    · have hnz : (s.size : Int) < 2 := by omega
      go_enter Tryd.func30, Tryd.ntmps30
      go_wp2
      all_goals
        go_ret2
        refine ⟨?_, World.grownBy_alloc _ _ _⟩
        unfold Lib.slowN
        repeat' split
        all_goals first
          | (exfalso; omega)
          | rfl
          | (simp only [Int.natCast_add, Int.natCast_mul, Int.natCast_emod, Int.natCast_ofNat]; rfl)
    · have hz1 : (1 : Int) < (s.size : Int) := by omega
      have hs1 : s[1]'(by omega) = x1 := by rw [← hx1]; exact (get!_lt s 1 (by omega)).symm
      go_enter Tryd.func30, Tryd.ntmps30
      go_wp2
      all_goals
        go_ret2
        refine ⟨?_, World.grownBy_alloc _ _ _⟩
        unfold Lib.slowN
        repeat' split
        all_goals first
          | (exfalso; omega)
          | rfl
          | (simp only [Int.natCast_add, Int.natCast_mul, Int.natCast_emod, Int.natCast_ofNat]; rfl)
  · rw [hX] at hc0 hres
    have ha0 := (hT.2 1 (by omega)).1
    have ha1 := (hT.2 1 (by omega)).2
    simp only [Lib.accLo, Lib.accHi, Nat.reduceMul, Nat.reduceAdd, Nat.reduceEqDiff, if_true, if_false, Nat.reduceMod, Nat.reduceDiv] at ha0 ha1 hres
    rw [hres]
    clear hres hT hX
    by_cases hn : s.size < 3
    · have hnz : (s.size : Int) < 3 := by omega
      go_enter Tryd.func30, Tryd.ntmps30
      go_wp2
      all_goals
        go_ret2
        refine ⟨?_, World.grownBy_alloc _ _ _⟩
        unfold Lib.slowN
        repeat' split
        all_goals first
          | (exfalso; omega)
          | rfl
          | (simp only [Int.natCast_add, Int.natCast_mul, Int.natCast_emod, Int.natCast_ofNat]; rfl)
    · have hz1 : (1 : Int) < (s.size : Int) := by omega
      have hs1 : s[1]'(by omega) = x1 := by rw [← hx1]; exact (get!_lt s 1 (by omega)).symm
      have hz2 : (2 : Int) < (s.size : Int) := by omega
      have hs2 : s[2]'(by omega) = x2 := by rw [← hx2]; exact (get!_lt s 2 (by omega)).symm
      go_enter Tryd.func30, Tryd.ntmps30
      go_wp2
      all_goals
        go_ret2
        refine ⟨?_, World.grownBy_alloc _ _ _⟩
        unfold Lib.slowN
        repeat' split
        all_goals first
          | (exfalso; omega)
          | rfl
          | (simp only [Int.natCast_add, Int.natCast_mul, Int.natCast_emod, Int.natCast_ofNat]; rfl)
  · rw [hX] at hc0 hres
    have ha0 := (hT.2 0 (by omega)).1
    have ha1 := (hT.2 0 (by omega)).2
    simp only [Lib.accLo, Lib.accHi, Nat.reduceMul, Nat.reduceAdd, Nat.reduceEqDiff, if_true, if_false, Nat.reduceMod, Nat.reduceDiv] at ha0 ha1 hres
    rw [hres]
    clear hres hT hX
    by_cases hn : s.size < 3
    · have hnz : (s.size : Int) < 3 := by omega
      go_enter Tryd.func30, Tryd.ntmps30
      go_wp2
      all_goals
        go_ret2
        refine ⟨?_, World.grownBy_alloc _ _ _⟩
        unfold Lib.slowN
        repeat' split
        all_goals first
          | (exfalso; omega)
          | rfl
          | (simp only [Int.natCast_add, Int.natCast_mul, Int.natCast_emod, Int.natCast_ofNat]; rfl)
    · have hz1 : (1 : Int) < (s.size : Int) := by omega
      have hs1 : s[1]'(by omega) = x1 := by rw [← hx1]; exact (get!_lt s 1 (by omega)).symm
      have hz2 : (2 : Int) < (s.size : Int) := by omega
      have hs2 : s[2]'(by omega) = x2 := by rw [← hx2]; exact (get!_lt s 2 (by omega)).symm
      go_enter Tryd.func30, Tryd.ntmps30
      go_wp2
      all_goals
        go_ret2
        refine ⟨?_, World.grownBy_alloc _ _ _⟩
        unfold Lib.slowN
        repeat' split
        all_goals first
          | (exfalso; omega)
          | rfl
          | (simp only [Int.natCast_add, Int.natCast_mul, Int.natCast_emod, Int.natCast_ofNat]; rfl)
  · rw [hX] at hc0 hres
    have ha0 := (hT.2 2 (by omega)).1
    have ha1 := (hT.2 2 (by omega)).2
    simp only [Lib.accLo, Lib.accHi, Nat.reduceMul, Nat.reduceAdd, Nat.reduceEqDiff, if_true, if_false, Nat.reduceMod, Nat.reduceDiv] at ha0 ha1 hres
    rw [hres]
    clear hres hT hX
    by_cases hn : s.size < 3
    · have hnz : (s.size : Int) < 3 := by omega
      go_enter Tryd.func30, Tryd.ntmps30
      go_wp2
      all_goals
        go_ret2
        refine ⟨?_, World.grownBy_alloc _ _ _⟩
        unfold Lib.slowN
        repeat' split
        all_goals first
          | (exfalso; omega)
          | rfl
          | (simp only [Int.natCast_add, Int.natCast_mul, Int.natCast_emod, Int.natCast_ofNat]; rfl)
    · have hz1 : (1 : Int) < (s.size : Int) := by omega
      have hs1 : s[1]'(by omega) = x1 := by rw [← hx1]; exact (get!_lt s 1 (by omega)).symm
      have hz2 : (2 : Int) < (s.size : Int) := by omega
      have hs2 : s[2]'(by omega) = x2 := by rw [← hx2]; exact (get!_lt s 2 (by omega)).symm
      go_enter Tryd.func30, Tryd.ntmps30
      go_wp2
      all_goals
        go_ret2
        refine ⟨?_, World.grownBy_alloc _ _ _⟩
        unfold Lib.slowN
        repeat' split
        all_goals first
          | (exfalso; omega)
          | rfl
          | (simp only [Int.natCast_add, Int.natCast_mul, Int.natCast_emod, Int.natCast_ofNat]; rfl)
  · rw [hX] at hc0 hres
    have ha0 := (hT.2 3 (by omega)).1
    have ha1 := (hT.2 3 (by omega)).2
    simp only [Lib.accLo, Lib.accHi, Nat.reduceMul, Nat.reduceAdd, Nat.reduceEqDiff, if_true, if_false, Nat.reduceMod, Nat.reduceDiv] at ha0 ha1 hres
    rw [hres]
    clear hres hT hX
    by_cases hn : s.size < 4
    · have hnz : (s.size : Int) < 4 := by omega
      go_enter Tryd.func30, Tryd.ntmps30
      go_wp2
      all_goals
        go_ret2
        refine ⟨?_, World.grownBy_alloc _ _ _⟩
        unfold Lib.slowN
        repeat' split
        all_goals first
          | (exfalso; omega)
          | rfl
          | (simp only [Int.natCast_add, Int.natCast_mul, Int.natCast_emod, Int.natCast_ofNat]; rfl)
    · have hz1 : (1 : Int) < (s.size : Int) := by omega
      have hs1 : s[1]'(by omega) = x1 := by rw [← hx1]; exact (get!_lt s 1 (by omega)).symm
      have hz2 : (2 : Int) < (s.size : Int) := by omega
      have hs2 : s[2]'(by omega) = x2 := by rw [← hx2]; exact (get!_lt s 2 (by omega)).symm
      have hz3 : (3 : Int) < (s.size : Int) := by omega
      have hs3 : s[3]'(by omega) = x3 := by rw [← hx3]; exact (get!_lt s 3 (by omega)).symm
      go_enter Tryd.func30, Tryd.ntmps30
      go_wp2
      all_goals
        go_ret2
        refine ⟨?_, World.grownBy_alloc _ _ _⟩
        unfold Lib.slowN
        repeat' split
        all_goals first
          | (exfalso; omega)
          | rfl
          | (simp only [Int.natCast_add, Int.natCast_mul, Int.natCast_emod, Int.natCast_ofNat]; rfl)
  · rw [hX] at hc0 hres
    have ha0 := (hT.2 0 (by omega)).1
    have ha1 := (hT.2 0 (by omega)).2
    simp only [Lib.accLo, Lib.accHi, Nat.reduceMul, Nat.reduceAdd, Nat.reduceEqDiff, if_true, if_false, Nat.reduceMod, Nat.reduceDiv] at ha0 ha1 hres
    rw [hres]
    clear hres hT hX
    by_cases hn : s.size < 4
    · have hnz : (s.size : Int) < 4 := by omega
      go_enter Tryd.func30, Tryd.ntmps30
      go_wp2
      all_goals
        go_ret2
        refine ⟨?_, World.grownBy_alloc _ _ _⟩
        unfold Lib.slowN
        repeat' split
        all_goals first
          | (exfalso; omega)
          | rfl
          | (simp only [Int.natCast_add, Int.natCast_mul, Int.natCast_emod, Int.natCast_ofNat]; rfl)
    · have hz1 : (1 : Int) < (s.size : Int) := by omega
      have hs1 : s[1]'(by omega) = x1 := by rw [← hx1]; exact (get!_lt s 1 (by omega)).symm
      have hz2 : (2 : Int) < (s.size : Int) := by omega
      have hs2 : s[2]'(by omega) = x2 := by rw [← hx2]; exact (get!_lt s 2 (by omega)).symm
      have hz3 : (3 : Int) < (s.size : Int) := by omega
      have hs3 : s[3]'(by omega) = x3 := by rw [← hx3]; exact (get!_lt s 3 (by omega)).symm
      go_enter Tryd.func30, Tryd.ntmps30
      go_wp2
      all_goals
        go_ret2
        refine ⟨?_, World.grownBy_alloc _ _ _⟩
        unfold Lib.slowN
        repeat' split
        all_goals first
          | (exfalso; omega)
          | rfl
          | (simp only [Int.natCast_add, Int.natCast_mul, Int.natCast_emod, Int.natCast_ofNat]; rfl)
  · rw [hX] at hc0 hres
    have ha0 := (hT.2 4 (by omega)).1
    have ha1 := (hT.2 4 (by omega)).2
    simp only [Lib.accLo, Lib.accHi, Nat.reduceMul, Nat.reduceAdd, Nat.reduceEqDiff, if_true, if_false, Nat.reduceMod, Nat.reduceDiv] at ha0 ha1 hres
    rw [hres]
    clear hres hT hX
    by_cases hn : s.size < 4
    · have hnz : (s.size : Int) < 4 := by omega
      go_enter Tryd.func30, Tryd.ntmps30
      go_wp2
      all_goals
        go_ret2
        refine ⟨?_, World.grownBy_alloc _ _ _⟩
        unfold Lib.slowN
        repeat' split
        all_goals first
          | (exfalso; omega)
          | rfl
          | (simp only [Int.natCast_add, Int.natCast_mul, Int.natCast_emod, Int.natCast_ofNat]; rfl)
    · have hz1 : (1 : Int) < (s.size : Int) := by omega
      have hs1 : s[1]'(by omega) = x1 := by rw [← hx1]; exact (get!_lt s 1 (by omega)).symm
      have hz2 : (2 : Int) < (s.size : Int) := by omega
      have hs2 : s[2]'(by omega) = x2 := by rw [← hx2]; exact (get!_lt s 2 (by omega)).symm
      have hz3 : (3 : Int) < (s.size : Int) := by omega
      have hs3 : s[3]'(by omega) = x3 := by rw [← hx3]; exact (get!_lt s 3 (by omega)).symm
      go_enter Tryd.func30, Tryd.ntmps30
      go_wp2
      all_goals
        go_ret2
        refine ⟨?_, World.grownBy_alloc _ _ _⟩
        unfold Lib.slowN
        repeat' split
        all_goals first
          | (exfalso; omega)
          | rfl
          | (simp only [Int.natCast_add, Int.natCast_mul, Int.natCast_emod, Int.natCast_ofNat]; rfl)

set_option maxHeartbeats 1000000 in
set_option maxRecDepth 1000000 in
theorem decode_any (s : ByteArray) (w : World) (hT : Tabs w) (h0 : s.size ≠ 0) :
    Calls Tryd.prog 25 #[.string s] w fun e w' => e = .returned (.tuple #[.int .i32 (R.rn (bs s) : Int), .int .i64 (R.wd (bs s) : Int)]) ∧ w.grownBy w' none := by
  have cS := slow_any s w hT h0
  obtain ⟨A, hA⟩ : ∃ A, R.rn (bs s) = A := ⟨_, rfl⟩
  obtain ⟨K, hK⟩ : ∃ K, R.wd (bs s) = K := ⟨_, rfl⟩
  rw [hA, hK] at cS ⊢
  have hne : s.toList.isEmpty = false := by
    rw [Lib.toList_data]
    cases h : s.data.toList with
    | nil => exact absurd (by rw [Lib.size_eq, h]; rfl) h0
    | cons _ _ => rfl
  have hz0 : (0 : Int) < (s.size : Int) := by omega
  obtain ⟨x0, hx0⟩ : ∃ x0, s.get! 0 = x0 := ⟨_, rfl⟩
  have hs0 : s[0]'(by omega) = x0 := by rw [← hx0]; exact (get!_lt s 0 (by omega)).symm
  rw [hx0] at cS
  by_cases ha : x0.toNat < 128
  · have haz : (x0.toNat : Int) < 128 := by omega
    have hd : R.dec (bs s) = (x0.toNat, 1) := by
      unfold R.dec
      rw [bs_len, ← bs_get!, hx0]
      simp [Lib.decodeN, ha]
    unfold R.rn at hA
    unfold R.wd at hK
    rw [hd] at hA hK
    subst hA; subst hK
    clear cS
    go_enter Tryd.func25, Tryd.ntmps25
    go_wp2
    go_ret2
    exact ⟨rfl, World.grownBy.refl _ _⟩
  · have haz : ¬ ((x0.toNat : Int) < 128) := by omega
    replace cS := cS (by omega)
    go_enter Tryd.func25, Tryd.ntmps25
    go_wp2_with (go_at_call 30; refine cS.mono ?_; rintro e w' ⟨rfl, hb⟩)
    go_ret2
    exact ⟨rfl, hb⟩
end Go.Proofs.YtfflpmcflpbopaaDoor
