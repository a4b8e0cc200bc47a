/- VectorUndoes: for any two byte slices and any number the call hayricklaw02.VectorUndoes(a, b, c) returns true, and a and b read afterwards as they read before.
   Conditions: none beyond the form's own (each slice is readable as data and within the form's reach). -/
import Derived.Test.YtlodpffdmlnemaaLift
import Derived.Test.YtlodpffdmlnemaaVecMath
import Derived.Test.YtlodpffdmlnemaaWakes
namespace Go.Proofs.Ytlodpffdmlnemaa.vectorUndoes
open Go.ChangeShapes Go.WideShapes Go.ChangeAt Go.RowKit
set_option linter.unusedVariables false

theorem cap_ge {w : World} {p : Option Addr} {n cap : Nat} {xs : List Nat} (h : Vec w (.slice p n cap) xs) : n ≤ cap := by
  obtain ⟨_, _, p', cap', e, h3, _⟩ := h
  injection e with _ e2 e3
  omega

set_option maxHeartbeats 16000000 in
set_option maxRecDepth 100000 in
theorem walk_lt {w : World} {p q : Option Addr} {n n' cp cp' : Nat} {c : Nat} {xs ys : List Nat} (va : Vec w (.slice p n cp) xs) (vb : Vec w (.slice q n' cp') ys) (hn : n = xs.length) (hn' : n' = ys.length) (h256 : c < 256) (hm : n' < n) :
    Calls Try.prog 6 #[.slice p n cp, .slice q n' cp', .int .u8 (c : Int)] w fun e w' => e = .returned (.bool true) ∧ w.grownBy w' none := by
  have i0 : (0 : Int) ≤ (c : Int) := by omega
  have i00 : (c : Int) < 256 := by omega
  have i1 : (n' : Int) ≤ (cp : Int) := by have := cap_ge va; omega
  have i2 : (n' : Int) ≤ (cp' : Int) := by have := cap_ge vb; omega
  have i3 : (0 : Int) ≤ (n' : Int) := by omega
  have CA : Hid (Vec w (.slice p n' cp) (xs.take n')) := va.cut (by omega)
  have CB : Hid (Vec w (.slice q n' cp') (ys.take n')) := vb.cut (by omega)
  have hL : (ys.take n').length = (xs.take n').length := by simp; omega
  have hX : (xs.take n').length = n' := by simp; omega
  have hmb : n' ≤ 140737488351232 := by rw [← hX]; exact CA.out.len
  generalize xs.take n' = X at *
  generalize ys.take n' = Y at *
  have HL : Hid (Y.length = X.length ∧ X.length = n') := ⟨hL, hX⟩
  clear va vb hn hn' hL hX
  go_enter Try.func6, Try.ntmps6
  go_wp2_with fail
  go_region_held3 (fun w' => w.grownBy w' none) (first | exact grown_drewN w 1 | exact grown_trans (grown_trans (grown_drewN w 1) g1) g2 | exact grown_trans (grown_drewN w 1) g1)
    (first
      | (go_at_call_of 9 (Value.slice p n' cp); refine (own_any (CA.out.keep (grown_drewN w 1))).mono ?_; rintro e w1 ⟨x, rfl, ox, g1⟩)
      | (go_at_call_of 9 (Value.slice q n' cp'); refine (own_any (CB.out.keep (grown_trans (grown_drewN w 1) g1))).mono ?_; rintro e w2 ⟨y, rfl, oy, g2⟩))
  have ox2 := ox.keep g2
  have G2 : Hid (w.grownBy w2 none) := grown_trans (grown_trans (grown_drewN w 1) g1) g2
  have lx : Lo w.heap.size x := ox.lo
  have ap : y.ownBlock = none ∨ y.ownBlock ≠ x.ownBlock := apart_of' oy.lo ox.hi
  clear ox g1 g2 CB
  go_wp2_with fail
  refine (mulAdd_yes (by omega) (by omega) ox2 oy.vec HL.out.1).mono ?_
  rintro e w3 ⟨rfl, ox3, g3⟩
  have oy3 := oy.kept g3 ap
  have G3 : Hid (w.grownBy w3 none) := grown_new G2.out g3 lx
  clear ox2 oy g3 G2
  go_wp2_with fail
  refine (mulAdd_yes (by omega) (by omega) ox3 oy3.vec (by rw [vmad_len]; exact HL.out.1)).mono ?_
  rw [vmad_undo]
  rintro e w4 ⟨rfl, ox4, g4⟩
  have oy4 := oy3.kept g4 ap
  have G4 : Hid (w.grownBy w4 none) := grown_new G3.out g4 lx
  clear ox3 oy3 g4 G3
  go_wp2_with fail
  refine (same_any ox4.vec (CA.out.keep G4.out)).mono ?_
  rintro e w5 ⟨rfl, hw⟩
  obtain rfl := hw.symm
  clear hw
  rw [show decide (X = X) = true from by simp]
  go_wp2_with fail
  refine (addTo_yes ox4 oy4.vec HL.out.1).mono ?_
  rintro e w5 ⟨rfl, ox5, g5⟩
  have oy5 := oy4.kept g5 ap
  have G5 : Hid (w.grownBy w5 none) := grown_new G4.out g5 lx
  clear ox4 oy4 g5 G4
  go_wp2_with fail
  refine (addTo_yes ox5 oy5.vec (by rw [vadd_len]; exact HL.out.1)).mono ?_
  rw [vadd_undo]
  rintro e w6 ⟨rfl, ox6, g6⟩
  have G6 : Hid (w.grownBy w6 none) := grown_new G5.out g6 lx
  clear ox5 oy5 g6 G5
  go_wp2_with fail
  refine (same_any ox6.vec (CA.out.keep G6.out)).mono ?_
  rintro e w7 ⟨rfl, hw⟩
  obtain rfl := hw.symm
  clear hw
  rw [show decide (X = X) = true from by simp]
  go_wp2_with fail
  go_loopw [10] (fun ti wr => ∃ k : Nat, k ≤ 255 ∧ ti = .int .i64 k ∧ Own w.heap.size wr x (vscaleN c k X) ∧ Hid (w.grownBy wr none)) (fun ti _ => 255 - (intOf ti).toNat)
  case atStart => exact ⟨0, by omega, rfl, ox6, G6⟩
  case round =>
    clear ox6 G6
    obtain ⟨k, hk, rfl, ok, GK⟩ := hrel
    by_cases hlt : k < 255
    · go_wp2_with fail
      refine (scale_yes (by omega) (by omega) ok).mono ?_
      rintro e w7 ⟨rfl, ok1, g7⟩
      have G7 : Hid (w.grownBy w7 none) := grown_new GK.out g7 lx
      clear g7 GK ok
      go_wp2
      go_roundw
      case rel => exact ⟨k + 1, by omega, by go_num, ok1, G7⟩
      case measure => simp [intOf]; omega
    · have hk255 : k = 255 := by omega
      subst hk255
      clear hk hlt
      by_cases hc : c = 0
      · subst hc
        have hz : ∀ j, (vscaleN 0 255 X).getD j 0 = 0 := vscaleN_zero X
        have HZ : Hid (∀ j, (vscaleN 0 255 X).getD j 0 = 0) := hz
        have HN : Hid ((vscaleN 0 255 X).length = n') := by rw [vscaleN_len]; exact HL.out.2
        clear hz
        generalize vscaleN 0 255 X = Z at *
        obtain ⟨px, nx, cx, rfl, hnx⟩ := ok.vec.opened
        have HX : Hid (nx = Z.length) := hnx
        have hnb : nx ≤ 140737488351232 := by rw [hnx]; exact ok.len
        clear hnx
        go_wp2_with fail
        go_loop [11, 12] (fun tz ti => ∃ k : Nat, k ≤ nx ∧ ti = .int .i64 k ∧ tz = .bool true) (fun _ ti => nx - (intOf ti).toNat)
        case atStart => exact ⟨0, by omega, rfl, rfl⟩
        case round =>
          obtain ⟨k, hk, rfl, rfl⟩ := hrel
          by_cases hlt : k < nx
          · obtain ⟨b2, off2, cap2, e2, hc2, h2⟩ := ok.vec.at (k := k) (by have := HX.out; omega)
            injection e2 with e3 _ _
            subst e3
            rw [HZ.out k] at hc2
            have j1 : (k : Int) < (nx : Int) := by omega
            have j2 : (0 : Int) ≤ (k : Int) := by omega
            have hc3 : wr.cell? ⟨b2, off2 + k, none⟩ = some (.int .u8 0) := hc2
            clear hc2 h2
            go_wp2
            go_round
            case rel => exact ⟨k + 1, by omega, by go_num, rfl⟩
            case measure => simp [intOf]; omega
          · go_wp2_with fail
            refine (wakes_any _).mono ?_
            rintro e w8 ⟨rfl, g8⟩
            have G8 : Hid (w.grownBy w8 none) := grown_trans GK.out g8
            clear g8 GK
            go_wp2
            go_ret
            exact ⟨rfl, G8.out⟩
      · rw [vscaleN_one h256 (by omega) CA.out.small] at ok
        have hc1 : ((c : Int) == 0) = false := by simp; omega
        have hc2 : ((c : Int) != 0) = true := by simp; omega
        obtain ⟨px, nx, cx, rfl, hnx⟩ := ok.vec.opened
        have HX : Hid (nx = X.length) := hnx
        have hnb : nx ≤ 140737488351232 := by rw [hnx]; exact ok.len
        clear hnx hc
        go_wp2_with fail
        go_loop [11, 12] (fun tz ti => ∃ (k : Nat) (bb : Bool), k ≤ nx ∧ ti = .int .i64 k ∧ tz = .bool bb) (fun _ ti => nx - (intOf ti).toNat)
        case atStart => exact ⟨0, true, by omega, rfl, rfl⟩
        case round =>
          obtain ⟨k, bb, hk, rfl, rfl⟩ := hrel
          by_cases hlt : k < nx
          · obtain ⟨b2, off2, cap2, e2, hc3, h2⟩ := ok.vec.at (k := k) (by have := HX.out; omega)
            injection e2 with e3 _ _
            subst e3
            have j1 : (k : Int) < (nx : Int) := by omega
            have j2 : (0 : Int) ≤ (k : Int) := by omega
            generalize X.getD k 0 = z at *
            cases bb
            · go_wp2
              go_round
              case rel => exact ⟨k + 1, _, by omega, by go_num, rfl⟩
              case measure => simp [intOf]; omega
            · go_wp2
              go_round
              case rel => exact ⟨k + 1, _, by omega, by go_num, rfl⟩
              case measure => simp [intOf]; omega
          · go_wp2_with fail
            refine (same_any ok.vec (CA.out.keep GK.out)).mono ?_
            rintro e w7 ⟨rfl, hw⟩
            obtain rfl := hw.symm
            clear hw
            rw [show decide (X = X) = true from by simp]
            go_wp2_with fail
            refine (wakes_any _).mono ?_
            rintro e w8 ⟨rfl, g8⟩
            have G8 : Hid (w.grownBy w8 none) := grown_trans GK.out g8
            clear g8 GK
            go_wp2
            go_ret
            exact ⟨rfl, G8.out⟩

set_option maxHeartbeats 16000000 in
set_option maxRecDepth 100000 in
theorem walk_ge {w : World} {p q : Option Addr} {n n' cp cp' : Nat} {c : Nat} {xs ys : List Nat} (va : Vec w (.slice p n cp) xs) (vb : Vec w (.slice q n' cp') ys) (hn : n = xs.length) (hn' : n' = ys.length) (h256 : c < 256) (hm : n ≤ n') :
    Calls Try.prog 6 #[.slice p n cp, .slice q n' cp', .int .u8 (c : Int)] w fun e w' => e = .returned (.bool true) ∧ w.grownBy w' none := by
  have i0 : (0 : Int) ≤ (c : Int) := by omega
  have i00 : (c : Int) < 256 := by omega
  have i1 : (n : Int) ≤ (cp : Int) := by have := cap_ge va; omega
  have i2 : (n : Int) ≤ (cp' : Int) := by have := cap_ge vb; omega
  have i3 : (0 : Int) ≤ (n : Int) := by omega
  have CA : Hid (Vec w (.slice p n cp) (xs.take n)) := va.cut (by omega)
  have CB : Hid (Vec w (.slice q n cp') (ys.take n)) := vb.cut (by omega)
  have hL : (ys.take n).length = (xs.take n).length := by simp; omega
  have hX : (xs.take n).length = n := by simp; omega
  have hmb : n ≤ 140737488351232 := by rw [← hX]; exact CA.out.len
  generalize xs.take n = X at *
  generalize ys.take n = Y at *
  have HL : Hid (Y.length = X.length ∧ X.length = n) := ⟨hL, hX⟩
  clear va vb hn hn' hL hX
  go_enter Try.func6, Try.ntmps6
  go_wp2_with fail
  go_region_held3 (fun w' => w.grownBy w' none) (first | exact grown_drewN w 1 | exact grown_trans (grown_trans (grown_drewN w 1) g1) g2 | exact grown_trans (grown_drewN w 1) g1)
    (first
      | (go_at_call_of 9 (Value.slice p n cp); refine (own_any (CA.out.keep (grown_drewN w 1))).mono ?_; rintro e w1 ⟨x, rfl, ox, g1⟩)
      | (go_at_call_of 9 (Value.slice q n cp'); refine (own_any (CB.out.keep (grown_trans (grown_drewN w 1) g1))).mono ?_; rintro e w2 ⟨y, rfl, oy, g2⟩))
  have ox2 := ox.keep g2
  have G2 : Hid (w.grownBy w2 none) := grown_trans (grown_trans (grown_drewN w 1) g1) g2
  have lx : Lo w.heap.size x := ox.lo
  have ap : y.ownBlock = none ∨ y.ownBlock ≠ x.ownBlock := apart_of' oy.lo ox.hi
  clear ox g1 g2 CB
  go_wp2_with fail
  refine (mulAdd_yes (by omega) (by omega) ox2 oy.vec HL.out.1).mono ?_
  rintro e w3 ⟨rfl, ox3, g3⟩
  have oy3 := oy.kept g3 ap
  have G3 : Hid (w.grownBy w3 none) := grown_new G2.out g3 lx
  clear ox2 oy g3 G2
  go_wp2_with fail
  refine (mulAdd_yes (by omega) (by omega) ox3 oy3.vec (by rw [vmad_len]; exact HL.out.1)).mono ?_
  rw [vmad_undo]
  rintro e w4 ⟨rfl, ox4, g4⟩
  have oy4 := oy3.kept g4 ap
  have G4 : Hid (w.grownBy w4 none) := grown_new G3.out g4 lx
  clear ox3 oy3 g4 G3
  go_wp2_with fail
  refine (same_any ox4.vec (CA.out.keep G4.out)).mono ?_
  rintro e w5 ⟨rfl, hw⟩
  obtain rfl := hw.symm
  clear hw
  rw [show decide (X = X) = true from by simp]
  go_wp2_with fail
  refine (addTo_yes ox4 oy4.vec HL.out.1).mono ?_
  rintro e w5 ⟨rfl, ox5, g5⟩
  have oy5 := oy4.kept g5 ap
  have G5 : Hid (w.grownBy w5 none) := grown_new G4.out g5 lx
  clear ox4 oy4 g5 G4
  go_wp2_with fail
  refine (addTo_yes ox5 oy5.vec (by rw [vadd_len]; exact HL.out.1)).mono ?_
  rw [vadd_undo]
  rintro e w6 ⟨rfl, ox6, g6⟩
  have G6 : Hid (w.grownBy w6 none) := grown_new G5.out g6 lx
  clear ox5 oy5 g6 G5
  go_wp2_with fail
  refine (same_any ox6.vec (CA.out.keep G6.out)).mono ?_
  rintro e w7 ⟨rfl, hw⟩
  obtain rfl := hw.symm
  clear hw
  rw [show decide (X = X) = true from by simp]
  go_wp2_with fail
  go_loopw [10] (fun ti wr => ∃ k : Nat, k ≤ 255 ∧ ti = .int .i64 k ∧ Own w.heap.size wr x (vscaleN c k X) ∧ Hid (w.grownBy wr none)) (fun ti _ => 255 - (intOf ti).toNat)
  case atStart => exact ⟨0, by omega, rfl, ox6, G6⟩
  case round =>
    clear ox6 G6
    obtain ⟨k, hk, rfl, ok, GK⟩ := hrel
    by_cases hlt : k < 255
    · go_wp2_with fail
      refine (scale_yes (by omega) (by omega) ok).mono ?_
      rintro e w7 ⟨rfl, ok1, g7⟩
      have G7 : Hid (w.grownBy w7 none) := grown_new GK.out g7 lx
      clear g7 GK ok
      go_wp2
      go_roundw
      case rel => exact ⟨k + 1, by omega, by go_num, ok1, G7⟩
      case measure => simp [intOf]; omega
    · have hk255 : k = 255 := by omega
      subst hk255
      clear hk hlt
      by_cases hc : c = 0
      · subst hc
        have hz : ∀ j, (vscaleN 0 255 X).getD j 0 = 0 := vscaleN_zero X
        have HZ : Hid (∀ j, (vscaleN 0 255 X).getD j 0 = 0) := hz
        have HN : Hid ((vscaleN 0 255 X).length = n) := by rw [vscaleN_len]; exact HL.out.2
        clear hz
        generalize vscaleN 0 255 X = Z at *
        obtain ⟨px, nx, cx, rfl, hnx⟩ := ok.vec.opened
        have HX : Hid (nx = Z.length) := hnx
        have hnb : nx ≤ 140737488351232 := by rw [hnx]; exact ok.len
        clear hnx
        go_wp2_with fail
        go_loop [11, 12] (fun tz ti => ∃ k : Nat, k ≤ nx ∧ ti = .int .i64 k ∧ tz = .bool true) (fun _ ti => nx - (intOf ti).toNat)
        case atStart => exact ⟨0, by omega, rfl, rfl⟩
        case round =>
          obtain ⟨k, hk, rfl, rfl⟩ := hrel
          by_cases hlt : k < nx
          · obtain ⟨b2, off2, cap2, e2, hc2, h2⟩ := ok.vec.at (k := k) (by have := HX.out; omega)
            injection e2 with e3 _ _
            subst e3
            rw [HZ.out k] at hc2
            have j1 : (k : Int) < (nx : Int) := by omega
            have j2 : (0 : Int) ≤ (k : Int) := by omega
            have hc3 : wr.cell? ⟨b2, off2 + k, none⟩ = some (.int .u8 0) := hc2
            clear hc2 h2
            go_wp2
            go_round
            case rel => exact ⟨k + 1, by omega, by go_num, rfl⟩
            case measure => simp [intOf]; omega
          · go_wp2_with fail
            refine (wakes_any _).mono ?_
            rintro e w8 ⟨rfl, g8⟩
            have G8 : Hid (w.grownBy w8 none) := grown_trans GK.out g8
            clear g8 GK
            go_wp2
            go_ret
            exact ⟨rfl, G8.out⟩
      · rw [vscaleN_one h256 (by omega) CA.out.small] at ok
        have hc1 : ((c : Int) == 0) = false := by simp; omega
        have hc2 : ((c : Int) != 0) = true := by simp; omega
        obtain ⟨px, nx, cx, rfl, hnx⟩ := ok.vec.opened
        have HX : Hid (nx = X.length) := hnx
        have hnb : nx ≤ 140737488351232 := by rw [hnx]; exact ok.len
        clear hnx hc
        go_wp2_with fail
        go_loop [11, 12] (fun tz ti => ∃ (k : Nat) (bb : Bool), k ≤ nx ∧ ti = .int .i64 k ∧ tz = .bool bb) (fun _ ti => nx - (intOf ti).toNat)
        case atStart => exact ⟨0, true, by omega, rfl, rfl⟩
        case round =>
          obtain ⟨k, bb, hk, rfl, rfl⟩ := hrel
          by_cases hlt : k < nx
          · obtain ⟨b2, off2, cap2, e2, hc3, h2⟩ := ok.vec.at (k := k) (by have := HX.out; omega)
            injection e2 with e3 _ _
            subst e3
            have j1 : (k : Int) < (nx : Int) := by omega
            have j2 : (0 : Int) ≤ (k : Int) := by omega
            generalize X.getD k 0 = z at *
            cases bb
            · go_wp2
              go_round
              case rel => exact ⟨k + 1, _, by omega, by go_num, rfl⟩
              case measure => simp [intOf]; omega
            · go_wp2
              go_round
              case rel => exact ⟨k + 1, _, by omega, by go_num, rfl⟩
              case measure => simp [intOf]; omega
          · go_wp2_with fail
            refine (same_any ok.vec (CA.out.keep GK.out)).mono ?_
            rintro e w7 ⟨rfl, hw⟩
            obtain rfl := hw.symm
            clear hw
            rw [show decide (X = X) = true from by simp]
            go_wp2_with fail
            refine (wakes_any _).mono ?_
            rintro e w8 ⟨rfl, g8⟩
            have G8 : Hid (w.grownBy w8 none) := grown_trans GK.out g8
            clear g8 GK
            go_wp2
            go_ret
            exact ⟨rfl, G8.out⟩

theorem walk {w : World} {a b : Value} {c : Int} {xs ys : List Nat} (va : Vec w a xs) (vb : Vec w b ys) (h0 : 0 ≤ c) (h1 : c < 256) :
    Calls Try.prog 6 #[a, b, .int .u8 c] w fun e w' => e = .returned (.bool true) ∧ w.grownBy w' none := by
  obtain ⟨p, n, cp, rfl, hn⟩ := va.opened
  obtain ⟨q, n', cp', rfl, hn'⟩ := vb.opened
  obtain ⟨m, rfl⟩ := Int.eq_ofNat_of_zero_le h0
  by_cases h : n' < n
  · exact walk_lt va vb hn hn' (by omega) h
  · exact walk_ge va vb hn hn' (by omega) (by omega)

set_option maxRecDepth 100000 in
theorem lifted (os : Os) (started : os.Started) (H : Type) (enc : TypeId × Value → H) :
    ReturnsInHanded {} Try.checked os 6 .any (Rows.vectorUndoesSpec.pre6 enc Try.prog Try.f6 Rows.vectorUndoesRow.domain false) (Rows.vectorUndoesSpec.post enc Try.prog Try.f6 false true false false) := by
  refine returnsInHanded_of_change_sized (C := Try.checked) Try.own started (by kernel_rfl) Try.func6
    (ChangeSpec.witness6 (enc := enc) (C := Try.checked) false ⟨#[], #[.slice none 0 0, .slice none 0 0, .int .u8 0], []⟩ 8 (by kernel_rfl) (by kernel_rfl) (by kernel_rfl) (by kernel_rfl)) ?_
  intro W base args ds gs before hval0 hW hcnd hsz0 _
  have hsz : (DataW.weightsEach Try.prog (Try.f6.params.toList ++ Rows.vectorUndoesSpec.plain.varTypes Try.prog) (ds ++ gs)).all (· ≤ reachBytes) = true := hsz0
  clear hsz0
  have hval : ∀ (j : Nat) t v, Try.f6.params[j]? = some t → args[j]? = some v → Value.okWide Try.prog W .any base t v := hval0
  have hW' := hW
  obtain ⟨p, q, hA0, hV, rfl, hfz, hnd⟩ := hW
  have hA : DataW.TrodAll enc Try.prog W 0 (fun _ => true) true Try.f6.params.toList args.toList ds p := hA0
  rw [Try.params6] at hA hval hsz
  obtain ⟨v0, vs0, d0, ds0, p0, q0, hargs, rfl, rfl, h0, r0⟩ := trodAll_cons hA
  obtain ⟨v1, vs1, d1, ds1, p1, q1, rfl, rfl, rfl, h1, r1⟩ := trodAll_cons r0
  obtain ⟨v2, vs2, d2, ds2, p2, q2, rfl, rfl, rfl, h2, r2⟩ := trodAll_cons r1
  obtain ⟨rfl, rfl, rfl⟩ := trodAll_nil r2
  obtain rfl : args = #[v0, v1, v2] := by cases args; simp_all
  obtain ⟨rfl, rfl⟩ := trodVars_none hV
  have k0 := h0
  have lt0 : ∀ x ∈ p0, x.block < W.heap.size := by obtain ⟨m, hm⟩ := k0; exact DataW.trod_lt m _ _ _ hm
  obtain ⟨x0, w0⟩ := vec_arg (hval 0 22 v0 rfl rfl) h0 (fun elems spare e => sized_slice hsz (j := 0) (t := 22) (e := 5) rfl (by rw [e]; rfl) Try.underlying22)
  have k1 := h1
  have lt1 : ∀ x ∈ p1, x.block < W.heap.size := by obtain ⟨m, hm⟩ := k1; exact DataW.trod_lt m _ _ _ hm
  obtain ⟨x1, w1⟩ := vec_arg (hval 1 22 v1 rfl rfl) h1 (fun elems spare e => sized_slice hsz (j := 1) (t := 22) (e := 5) rfl (by rw [e]; rfl) Try.underlying22)
  obtain ⟨a2, rfl, rfl, rfl, w2⟩ := open_int Try.underlying5 (hval 2 5 v2 rfl rfl) h2
  clear hA0 hval0
  refine (walk w0 w1 (byte_wf w2).1 (byte_wf w2).2).mono fun e W' ⟨he, hg⟩ => ?_
  have bel : Below W.heap.size W W' := grown_below hg (Nat.le_refl _) (by simp)
  subst he
  exact ⟨_, rfl, _, _, _, [], _, [], hW', trodAll_mk1 (shut_bool Try.underlying4 _), (trodAll_cons_mk (Below.trod Try.laidOut (by kernel_rfl) (of_decide_eq_true (by kernel_rfl)) k0 bel lt0) (trodAll_cons_mk (Below.trod Try.laidOut (by kernel_rfl) (of_decide_eq_true (by kernel_rfl)) k1 bel lt1) (trodAll_cons_mk (shut_int Try.underlying5 w2) trodAll_mk0))), rfl, bel.frame _, fun h => by cases h⟩

theorem over : Rows.vectorUndoesRow.holds Try.pinned (OpenSpec.ofChange Rows.vectorUndoesSpec) :=
  OpenClaim.holds_of_wide 6 Try.f6 rfl rfl rfl rfl rfl rfl rfl ⟨rfl, rfl, rfl, rfl, rfl⟩ rfl rfl rfl rfl rfl (by kernel_rfl) Try.func6 (by kernel_rfl)
    (of_decide_eq_true (by kernel_rfl)) (by unfold Func.isWrapper; first | (rw [if_pos (by decide +kernel)]; kernel_rfl) | (rw [if_neg (by decide +kernel)]; exact ⟨rfl, rfl⟩))
    (fun os started H enc _ => lifted os started H enc)

theorem proved : Rows.VectorUndoesSaid := over
end Go.Proofs.Ytlodpffdmlnemaa.vectorUndoes

namespace Go.Proofs.Ytlodpffdmlnemaa
theorem vectorUndoes_holds : Rows.VectorUndoesSaid := vectorUndoes.proved
#print axioms vectorUndoes_holds
end Go.Proofs.Ytlodpffdmlnemaa
