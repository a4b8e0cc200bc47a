/- The contract of the document's Generator. -/
import Derived.Test.YtdeajclghlbhcaaEnc4
import Derived.Test.YtdeajclghlbhcaaRefId
set_option linter.unusedVariables false
namespace Go.Proofs.Ytdeajclghlbhcaa
open Go.RowKit

/-- The first i rows of a generator. -/
def genUp (k i : Nat) : List (List Nat) := (List.range i).map (genRow k)
theorem genUp_next (k i : Nat) : genUp k i ++ [genRow k i] = genUp k (i + 1) := by simp [genUp, List.range_succ]
theorem genUp_low (k : Nat) : idList k = genUp k k := by
  refine List.map_congr_left fun i hi => ?_
  have hi' := List.mem_range.1 hi
  apply List.ext_getElem
  · rw [idRow_len, genRow_len]
  · intro j h1 h2
    rw [← gd_of _ h1, ← gd_of _ h2]
    rw [idRow_len] at h1
    rw [idRow_get _ _ _ h1, genRow_get h1]
    unfold MX.gen
    rw [if_pos hi']
/-- A row's first j numbers. -/
def rowUp (k i j : Nat) : List Nat := (List.range j).map (MX.gen k i)
theorem rowUp_next (k i j : Nat) : rowUp k i j ++ [MX.gen k i j] = rowUp k i (j + 1) := by simp [rowUp, List.range_succ]

theorem refGen_no (k n : Int) (w : World) (h : mayI k n = false) :
    Calls Try.prog 13 #[.int .i64 k, .int .i64 n] w fun e w' => e = .returned (.tuple #[.slice none 0 0, .int .i64 1]) ∧ w' = w := by
  have FF : Hid (∀ w, Calls Try.prog 11 #[.int .i64 k, .int .i64 n] w fun e w' => e = .returned (.bool false) ∧ w' = w) := fun w => by
    have h' := refMay4_any k n w
    rw [h] at h'
    exact h'
  clear h
  go_enter Try.func13, Try.ntmps13
  go_wp2_with (go_at_call 11; refine (FF.out _).mono ?_; rintro e w1 ⟨rfl, hw⟩; obtain rfl := hw.symm; clear hw)
  go_ret2
  exact ⟨rfl, rfl⟩

set_option maxHeartbeats 3200000 in
theorem refGen_yes (k n : Nat) (w : World) (h1 : 1 ≤ k) (hkn : k < n) (hn : n ≤ 255) :
    Calls Try.prog 13 #[.int .i64 (k : Int), .int .i64 (n : Int)] w (Made w (genList k n) 0) := by
  unfold Made
  have FF : Hid (∀ w, Calls Try.prog 11 #[.int .i64 (k : Int), .int .i64 (n : Int)] w fun e w' => e = .returned (.bool true) ∧ w' = w) := fun w => by
    have h := refMay4_any (k : Int) (n : Int) w
    rw [show mayI k n = true from mayI_iff.2 (by omega)] at h
    exact h
  have ID : Hid (∀ w, Calls Try.prog 27 #[.int .i64 (k : Int)] w fun e w' => ∃ v us, e = .returned (.tuple #[v, .int .i64 0]) ∧ OwnMat w.heap.size w' v us (genUp k k) ∧ Sep us ∧ w.grownBy w' none) := fun w => by
    have h := refIdent_any k w h1 (by omega)
    rw [genUp_low] at h
    exact h
  go_enter Try.func13, Try.ntmps13
  go_wp2_with (first
    | (go_at_call 11; refine (FF.out _).mono ?_; rintro e w1 ⟨rfl, hw⟩; obtain rfl := hw.symm; clear hw)
    | (go_at_call 27; refine (ID.out _).mono ?_; rintro e w1 ⟨v1, us1, rfl, om, sp, g1⟩; have OM : Hid (OwnMat w.heap.size w1 v1 us1 (genUp k k)) := om; have SP : Hid (Sep us1) := sp; have G1 : Hid (w.grownBy w1 none) := g1; clear om sp g1))
  clear FF ID
  go_loopw [6, 8] (fun tv ti wr => ∃ (i : Nat) (us : List Value), k ≤ i ∧ i ≤ n ∧ ti = .int .i64 i ∧ Hid (us.length = i) ∧ Hid (OwnMat w.heap.size wr tv us (genUp k i)) ∧ Hid (Sep us) ∧ Hid (w.grownBy wr none)) (fun _ ti _ => n - (intOf ti).toNat)
  case atStart => exact ⟨k, us1, by omega, by omega, rfl, by show _ = _; rw [OM.out.same]; simp [genUp], OM, SP, G1⟩
  case round =>
    clear OM SP G1
    obtain ⟨i, us, hki, hin, rfl, HU, OM, SP, GK⟩ := hrel
    obtain ⟨wa, hwa⟩ : ∃ wa, wa = wr := ⟨wr, rfl⟩
    subst hwa
    by_cases hlt : i < n
    · have i1 : (i : Int) < (n : Int) := by omega
      go_wp2_with fail
      go_loopw [9, 10] (fun tr tj wr => ∃ j : Nat, j ≤ k ∧ tj = .int .i64 j ∧ Hid (Own wa.heap.size wr tr (rowUp k i j)) ∧ Hid (wa.grownBy wr none)) (fun _ tj _ => k - (intOf tj).toNat)
      case atStart => exact ⟨0, by omega, rfl, Own.nil _ _, World.grownBy.refl _ _⟩
      case round =>
        obtain ⟨j, hj, rfl, OR, GR⟩ := hrel
        by_cases hjl : j < k
        · have j1 : (j : Int) < (k : Int) := by omega
          have hx : bits .xor .u8 (i : Int) (j : Int) = ((i ^^^ j : Nat) : Int) := u8_xor_nat i j (by omega) (by omega)
          have hxl : i ^^^ j < 256 := M.xor_lt (by omega) (by omega)
          have hx0 : 0 < i ^^^ j := MX.xor_ne (by omega)
          have HGEN : Hid (rowUp k i j ++ [M.inv (i ^^^ j)] = rowUp k i (j + 1)) := by
            show _ = _
            rw [← rowUp_next]
            unfold MX.gen
            rw [if_neg (by omega)]
          have II : Hid (∀ w, Calls Try.prog 28 #[.int .u8 ((i ^^^ j : Nat) : Int)] w fun e w' => e = .returned (.tuple #[.int .u8 ((M.inv (i ^^^ j) : Nat) : Int), .int .i64 0]) ∧ w' = w) := fun w => refInv_any _ w hx0 hxl
          have hI : M.inv (i ^^^ j) < 256 := M.inv_lt _
          have HLn : Hid ((rowUp k i j).length + 1 ≤ 140737488351232) := by show _ ≤ _; simp [rowUp]; omega
          generalize M.inv (i ^^^ j) = y at *
          generalize i ^^^ j = x at *
          go_wp2_with (first
            | (go_at_call 28; refine (II.out _).mono ?_; rintro e w1 ⟨rfl, hw⟩; obtain rfl := hw.symm; clear hw)
            | (at_builtin; refine wpList_append_vec rfl _ _ rfl _ _ rfl rfl (OR.out.keep (World.grownBy_alloc _ _ none)) (lit_row (w := wr) [y] (by simp [hI]) (by simp)).vec (Nat.le_trans GR.out.size (by simp)) (by simpa using HLn.out) ?_; intro v' w2 ow gw; have OW : Hid (Own wa.heap.size w2 v' (rowUp k i j ++ [y])) := ow; have GW : Hid (wa.grownBy w2 none) := grown_new (grown_trans GR.out (World.grownBy_alloc _ _ none)) gw OR.out.lo; clear ow gw))
          go_roundw
          case rel => exact ⟨j + 1, by omega, by go_num, by rw [← HGEN.out]; exact OW, GW⟩
          case measure => simp [intOf]; omega
        · obtain rfl : j = k := by omega
          obtain ⟨pr, nr, cr, rfl, hnr⟩ := OR.out.vec.opened
          clear hnr
          have HB : Hid (w.heap.size ≤ wr.heap.size) := Nat.le_trans GK.out.size GR.out.size
          have HR : Hid (rowUp j i j = genRow j i) := rfl
          go_wp2_with (at_builtin; refine wpList_append_out rfl _ _ rfl u6 ⟨wr.heap.size, 0, none⟩ rfl rfl (B := w.heap.size) (us := us) (u := .slice pr nr cr) ((OM.out.keep (grown_trans GR.out (World.grownBy_alloc _ _ none))).out) (cell_new1 _ _ rfl) rfl (by have h1 := HB.out; simp; omega) (by have := HU.out; omega) ?_; intro v' w2 oo gg at2; have HO : Hid (Out w.heap.size w2 v' (us ++ [.slice pr nr cr])) := oo; have HG : Hid ((wr.alloc (.cells #[.slice pr nr cr] 39)).grownBy w2 u6.ownBlock) := gg; clear oo gg at2)
          have R : Hid (OwnMat w.heap.size w2 v' (us ++ [.slice pr nr cr]) (genUp j (i + 1)) ∧ Sep (us ++ [.slice pr nr cr]) ∧ w.grownBy w2 none) := by
            rw [← genUp_next]
            refine ⟨(OM.out.keep (grown_trans GR.out (World.grownBy_alloc _ _ none))).more ((OR.out.down GK.out.size).keep (World.grownBy_alloc _ _ none)) (by have := HU.out; omega) (by simpa using HO.out.row) HG.out, SP.out.more (H := wa.heap.size) OM.out.hiRow OR.out.lo, ?_⟩
            exact grown_new (grown_trans GK.out (grown_trans GR.out (World.grownBy_alloc _ _ none))) HG.out OM.out.lo
          clear HO HG OM OR HB SP
          go_roundw
          case rel => exact ⟨i + 1, us ++ [Value.slice pr nr cr], by omega, by omega, by go_num, show _ = _ by simpa using HU.out, R.out.1, R.out.2.1, R.out.2.2⟩
          case measure => simp [intOf]; omega
    · obtain rfl : i = n := by omega
      obtain ⟨pm, nm, cm, rfl, hnm⟩ := OM.out.mat.row.opened
      clear hnm
      go_wp2
      go_ret2
      exact ⟨pm, nm, cm, us, rfl, OM.out, SP.out, GK.out⟩
end Go.Proofs.Ytdeajclghlbhcaa
