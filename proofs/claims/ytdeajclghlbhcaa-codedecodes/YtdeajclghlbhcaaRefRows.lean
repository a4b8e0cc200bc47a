/- The contract of hayrickref03.Rows: the document's own rows; Copy in rows that lie apart. -/
import Derived.Test.YtdeajclghlbhcaaRowsM
import Derived.Test.YtdeajclghlbhcaaRefId
namespace Go.Proofs.Ytdeajclghlbhcaa
open Go.RowKit

def rowsUp (X : List (List Nat)) (ls : List Int) (k : Nat) : List (List Nat) := (List.range k).map fun j => X.getD (ls.getD j 0).toNat []
theorem rowsUp_next (X : List (List Nat)) (ls : List Int) (k : Nat) : rowsUp X ls k ++ [X.getD (ls.getD k 0).toNat []] = rowsUp X ls (k + 1) := by simp [rowsUp, List.range_succ]
theorem rowsUp_all (X : List (List Nat)) (ls : List Int) : rowsUp X ls ls.length = rowsList X ls := by
  rw [← rowsTo_all]
  exact List.map_congr_left fun j hj => by simp [List.mem_range.1 hj]

set_option maxHeartbeats 3200000 in
theorem refRows_any {w : World} {m l : Value} {vs : List Value} {X : List (List Nat)} {ls : List Int} (mr : Mat w m vs X) (hl : IVec w l ls) :
    Calls Try.prog 37 #[m, l] w (RowsEnd X ls w) := by
  obtain ⟨q, N, cap, rfl, hN⟩ := mr.row.opened
  obtain ⟨ql, L, capl, rfl, hL⟩ := hl.opened
  have MA := refMay_any mr
  cases hx : mayB X with
  | false =>
    rw [hx] at MA
    have HA : Hid (∀ r, r = Value.slice q N cap → Calls Try.prog 48 #[r] w fun e w' => e = .returned (.bool false) ∧ w' = w) := fun r e => e ▸ MA
    have NO : Hid (¬ rowsOK X ls) := fun h => by have := h.1; rw [hx] at this; cases this
    clear MA hN hL mr hl
    go_enter Try.func37, Try.ntmps37
    go_wp2_with (go_at_call 48; refine (HA.out _ (by with_reducible rfl)).mono ?_; rintro e w1 ⟨rfl, hw⟩; obtain rfl := hw.symm; clear hw)
    go_ret2
    exact ⟨World.grownBy.refl _ _, .inr ⟨NO.out, rfl⟩⟩
  | true =>
    rw [hx] at MA
    have HA : Hid (∀ r, r = Value.slice q N cap → Calls Try.prog 48 #[r] w fun e w' => e = .returned (.bool true) ∧ w' = w) := fun r e => e ▸ MA
    have hLl := hl.len
    by_cases h0 : L = 0
    · have hb : ((L : Int) == 0) = true := by simp [h0]
      have NO : Hid (¬ rowsOK X ls) := fun h => by have := h.2.1; omega
      clear MA hN hL mr hl h0 hLl
      go_enter Try.func37, Try.ntmps37
      go_wp2_with (go_at_call 48; refine (HA.out _ (by with_reducible rfl)).mono ?_; rintro e w1 ⟨rfl, hw⟩; obtain rfl := hw.symm; clear hw)
      go_ret2
      exact ⟨World.grownBy.refl _ _, .inr ⟨NO.out, rfl⟩⟩
    · have hb : ((L : Int) == 0) = false := by simp; omega
      by_cases h255 : 255 < L
      · have i255 : (255 : Int) < (L : Int) := by omega
        have NO : Hid (¬ rowsOK X ls) := fun h => by have := h.2.2.1; omega
        clear MA hN hL mr hl h0 hLl
        go_enter Try.func37, Try.ntmps37
        go_wp2_with (go_at_call 48; refine (HA.out _ (by with_reducible rfl)).mono ?_; rintro e w1 ⟨rfl, hw⟩; obtain rfl := hw.symm; clear hw)
        go_ret2
        exact ⟨World.grownBy.refl _ _, .inr ⟨NO.out, rfl⟩⟩
      · have i255 : ¬ (255 : Int) < (L : Int) := by omega
        have sx := may_spec hx
        have hsa := mr.same
        have HN : Hid (N = vs.length ∧ N = X.length ∧ L = ls.length ∧ 1 ≤ L ∧ L ≤ 255 ∧ N ≤ 255) := ⟨hN, by omega, hL, by omega, by omega, by omega⟩
        have KM : Hid (∀ w', w.grownBy w' none → Mat w' (.slice q N cap) vs X) := fun w' g => mr.keep g
        have KL : Hid (∀ w', w.grownBy w' none → IVec w' (.slice ql L capl) ls) := fun w' g => hl.keep g
        have HX : Hid (mayB X = true) := hx
        have hL255 : L ≤ 255 := by omega
        clear MA hN hL mr hl sx hsa hx hLl h0 h255
        go_enter Try.func37, Try.ntmps37
        go_wp2_with (go_at_call 48; refine (HA.out _ (by with_reducible rfl)).mono ?_; rintro e w1 ⟨rfl, hw⟩; obtain rfl := hw.symm; clear hw)
        clear HA hb i255
        go_loopw [6, 7] (fun tv ti wr => ∃ (k : Nat) (us : List Value), k ≤ L ∧ ti = .int .i64 k ∧ Hid (us.length = k) ∧ Hid (OwnMat w.heap.size wr tv us (rowsUp X ls k)) ∧ Hid (∀ j, j < k → 0 ≤ ls.getD j 0 ∧ ls.getD j 0 < X.length) ∧ Hid (w.grownBy wr none)) (fun _ ti _ => L - (intOf ti).toNat)
        case atStart => exact ⟨0, [], by omega, rfl, rfl, OwnMat.nil _ _, (fun j hj => by omega), World.grownBy.refl _ _⟩
        case round =>
          obtain ⟨k, us, hk, rfl, HU, OM, AL, GK⟩ := hrel
          by_cases hlt : k < L
          · have i1 : (k : Int) < (L : Int) := by omega
            have i3 : (0 : Int) ≤ (k : Int) := by omega
            have hkl : k < ls.length := by have := HN.out; omega
            obtain ⟨bl, ol, rfl, hcl⟩ := (KL.out _ GK.out).spot (k := k) hkl
            by_cases hin : 0 ≤ ls.getD k 0 ∧ ls.getD k 0 < X.length
            · have AL' : Hid (∀ j, j < k + 1 → 0 ≤ ls.getD j 0 ∧ ls.getD j 0 < X.length) := fun j hj => by
                by_cases e : j = k
                · subst e; exact hin
                · exact AL.out j (by omega)
              obtain ⟨i, hi⟩ := Int.eq_ofNat_of_zero_le hin.1
              have hiN : i < N := by have := HN.out; omega
              have HT : Hid (rowsUp X ls k ++ [X.getD i []] = rowsUp X ls (k + 1)) := by have h := rowsUp_next X ls k; rw [hi] at h; exact h
              rw [hi] at hcl
              obtain ⟨b0, off, rfl, hr⟩ := (KM.out _ GK.out).row.spot (k := i) (by have := HN.out; omega)
              have vi := (KM.out _ GK.out).vec i (by have := HN.out; omega)
              obtain ⟨pi, ni, ci, ei, hni⟩ := vi.opened
              rw [ei] at hr vi
              have VK : Hid (Vec wr (.slice pi ni ci) (X.getD i [])) := vi
              have HLN : Hid ((X.getD i []).length ≤ 140737488351232) := vi.len
              have HB : Hid (w.heap.size ≤ wr.heap.size) := GK.out.size
              have j1 : (i : Int) < (N : Int) := by omega
              have j2 : (0 : Int) ≤ (i : Int) := by omega
              have j3 : ¬ (N : Int) ≤ (i : Int) := by omega
              have j4 : ¬ (i : Int) < 0 := by omega
              clear AL hin hi hkl ei hni vi hiN
              generalize X.getD i [] = Y at *
              generalize rowsUp X ls k = XT at *
              go_wp2_with (first
                | (at_builtin; refine wpList_append_vec rfl _ _ rfl _ _ rfl rfl (Own.nil wr.heap.size wr) VK.out (Nat.le_refl _) (by simpa using HLN.out) ?_; intro u w1 ou g1; obtain ⟨pu, nu, cu, rfl, hnu⟩ := ou.vec.opened; have OU : Hid (Own wr.heap.size w1 (.slice pu nu cu) ([] ++ Y)) := ou; have G1 : Hid (wr.grownBy w1 none) := g1; clear ou g1 hnu hr hcl)
                | (at_builtin; refine wpList_append_out rfl _ _ rfl u6 ⟨w1.heap.size, 0, none⟩ rfl rfl (B := w.heap.size) (us := us) (u := .slice pu nu cu) ((OM.out.keep (grown_trans G1.out (World.grownBy_alloc _ _ none))).out) (cell_new1 _ _ rfl) rfl (by have h1 := HB.out; have h2 := G1.out.size; simp; omega) (by have := HU.out; omega) ?_; intro v' w2 oo gg at2; have HO : Hid (Out w.heap.size w2 v' (us ++ [.slice pu nu cu])) := oo; have HG : Hid ((w1.alloc (.cells #[.slice pu nu cu] 39)).grownBy w2 u6.ownBlock) := gg; clear oo gg at2))
              have R : Hid (OwnMat w.heap.size w2 v' (us ++ [.slice pu nu cu]) (rowsUp X ls (k + 1)) ∧ w.grownBy w2 none) := by
                rw [← HT.out]
                refine ⟨(OM.out.keep (grown_trans G1.out (World.grownBy_alloc _ _ none))).more ((OU.out.down HB.out).keep (World.grownBy_alloc _ _ none)) (by have := HU.out; omega) (by simpa using HO.out.row) HG.out, ?_⟩
                exact grown_new (grown_trans GK.out (grown_trans G1.out (World.grownBy_alloc _ _ none))) HG.out OM.out.lo
              clear HO HG OM OU G1 HT VK HB HLN
              go_roundw
              case rel => exact ⟨k + 1, us ++ [Value.slice pu nu cu], by omega, by go_num, show _ = _ by simpa using HU.out, R.out.1, AL'.out, R.out.2⟩
              case measure => simp [intOf]; omega
            · have NO : Hid (¬ rowsOK X ls) := fun h => hin (h.2.2.2 k hkl)
              have hXN : (X.length : Int) = (N : Int) := by have := HN.out; omega
              rw [hXN] at hin
              generalize ls.getD k 0 = r at *
              by_cases hneg : r < 0
              · clear hin hkl hXN
                go_wp2
                go_ret2
                exact ⟨GK.out, .inr ⟨NO.out, rfl⟩⟩
              · have hge : (N : Int) ≤ r := by omega
                clear hin hkl hXN
                go_wp2
                go_ret2
                exact ⟨GK.out, .inr ⟨NO.out, rfl⟩⟩
          · have hkn : L = k := by omega
            subst hkn
            have OKK : Hid (rowsOK X ls ∧ rowsUp X ls L = rowsList X ls) := ⟨⟨HX.out, by have := HN.out; omega, by have := HN.out; omega, fun j hj => AL.out j (by have := HN.out; omega)⟩, by rw [HN.out.2.2.1]; exact rowsUp_all X ls⟩
            have h0 := OM.out
            rw [OKK.out.2] at h0
            have OM2 : Hid (OwnMat w.heap.size wr u6 us (rowsList X ls)) := h0
            obtain ⟨pv, nv, cv, hv, hq⟩ := h0.mat.row.opened
            clear h0 OM hq
            subst hv
            go_wp2
            go_ret2
            exact ⟨GK.out, .inl ⟨OKK.out.1, _, _, _, us, rfl, OM2.out⟩⟩

theorem refRows_yes {w : World} {m l : Value} {vs : List Value} {X : List (List Nat)} {ls : List Int} (mr : Mat w m vs X) (hl : IVec w l ls) (h : rowsOK X ls) :
    Calls Try.prog 37 #[m, l] w fun e w' => ∃ p n c us, e = .returned (.tuple #[.slice p n c, .int .i64 0]) ∧ OwnMat w.heap.size w' (.slice p n c) us (rowsList X ls) ∧ w.grownBy w' none :=
  (refRows_any mr hl).mono fun e w' k => by
    rcases k with ⟨g, ⟨_, p, n, c, us, rfl, om⟩ | ⟨no, _⟩⟩
    · exact ⟨p, n, c, us, rfl, om, g⟩
    · exact absurd h no
theorem refRows_no {w : World} {m l : Value} {vs : List Value} {X : List (List Nat)} {ls : List Int} (mr : Mat w m vs X) (hl : IVec w l ls) (h : ¬ rowsOK X ls) :
    Calls Try.prog 37 #[m, l] w fun e w' => e = .returned (.tuple #[.slice none 0 0, .int .i64 1]) ∧ w.grownBy w' none :=
  (refRows_any mr hl).mono fun e w' k => by
    rcases k with ⟨g, ⟨ok, _⟩ | ⟨_, rfl⟩⟩
    · exact absurd ok h
    · exact ⟨rfl, g⟩

set_option maxHeartbeats 3200000 in
theorem refCopy_sep {w : World} {r : Value} {vs : List Value} {X : List (List Nat)} (mr : Mat w r vs X) :
    Calls Try.prog 16 #[r] w fun e w' => ∃ v us, e = .returned v ∧ OwnMat w.heap.size w' v us X ∧ Sep us ∧ w.grownBy w' none := by
  obtain ⟨q, N, cap, rfl, hN⟩ := mr.row.opened
  have hNl : N * 24 ≤ 140737488351232 := by rw [hN]; exact mr.row.len
  have MR : Hid (Mat w (.slice q N cap) vs X) := mr
  have HN : Hid (N = vs.length ∧ N = X.length) := ⟨hN, by have := mr.same; omega⟩
  clear mr hN
  go_enter Try.func16, Try.ntmps16
  go_wp2_with fail
  go_loopw [3, 4] (fun tv ti wr => ∃ (k : Nat) (us : List Value), k ≤ N ∧ ti = .int .i64 k ∧ Hid (us.length = k) ∧ Hid (OwnMat w.heap.size wr tv us (X.take k)) ∧ Hid (Sep us) ∧ Hid (w.grownBy wr none)) (fun _ ti _ => N - (intOf ti).toNat)
  case atStart => exact ⟨0, [], by omega, rfl, rfl, OwnMat.nil _ _, (fun i j hi => by simp at hi), World.grownBy.refl _ _⟩
  case round =>
    obtain ⟨k, us, hk, rfl, HU, OM, SP, GK⟩ := hrel
    by_cases hlt : k < N
    · obtain ⟨b, off, rfl, hr0⟩ := MR.out.row.spot (k := k) (by have := HN.out; omega)
      obtain ⟨pk, nk, ck, ek, hnk⟩ := (MR.out.vec k (by have := HN.out; omega)).opened
      have VK : Hid (Vec w (.slice pk nk ck) (X.getD k [])) := by rw [← ek]; exact MR.out.vec k (by have := HN.out; omega)
      rw [ek] at hr0
      have hr := GK.out.cell hr0 (by simp)
      have hkX : k < X.length := by have := HN.out; omega
      have ht0 : X.take k ++ [X.getD k []] = X.take (k + 1) := by
        rw [List.take_succ_eq_append_getElem hkX]
        simp [List.getD, hkX]
      have HT : Hid (X.take k ++ [X.getD k []] = X.take (k + 1)) := ht0
      clear hkX ht0
      have HL : Hid ((X.getD k []).length ≤ 140737488351232) := VK.out.len
      clear ek hnk hr0
      generalize X.take k = XT at *
      generalize X.getD k [] = Y at *
      have i1 : (k : Int) < (N : Int) := by omega
      have i3 : (0 : Int) ≤ (k : Int) := by omega
      have HB : Hid (w.heap.size ≤ wr.heap.size) := GK.out.size
      go_wp2_with (first
        | (at_builtin; refine wpList_append_vec rfl _ _ rfl _ _ rfl rfl (Own.nil wr.heap.size wr) (VK.out.keep GK.out) (Nat.le_refl _) (by simpa using HL.out) ?_; intro u w1 ou g1; obtain ⟨pu, nu, cu, rfl, hnu⟩ := ou.vec.opened; have OU : Hid (Own wr.heap.size w1 (.slice pu nu cu) ([] ++ Y)) := ou; have G1 : Hid (wr.grownBy w1 none) := g1; clear ou g1 hnu hr)
        | (at_builtin; refine wpList_append_out rfl _ _ rfl u3 ⟨w1.heap.size, 0, none⟩ rfl rfl (B := w.heap.size) (us := us) (u := .slice pu nu cu) ((OM.out.keep (grown_trans G1.out (World.grownBy_alloc _ _ none))).out) (by simp) rfl (by have h1 := HB.out; have h2 := G1.out.size; simp; omega) (by have := HU.out; omega) ?_; intro v' w2 oo gg at2; have HO : Hid _ := oo; have HG : Hid _ := gg; clear oo gg at2))
      have R : Hid (OwnMat w.heap.size w2 v' (us ++ [.slice pu nu cu]) (X.take (k + 1)) ∧ Sep (us ++ [.slice pu nu cu]) ∧ w.grownBy w2 none) := by
        rw [← HT.out]
        refine ⟨(OM.out.keep (grown_trans G1.out (World.grownBy_alloc _ _ none))).more ((OU.out.down HB.out).keep (World.grownBy_alloc _ _ none)) (by have := HU.out; omega) (by simpa using HO.out.row) HG.out, SP.out.more (H := wr.heap.size) OM.out.hiRow OU.out.lo, ?_⟩
        exact grown_new (grown_trans GK.out (grown_trans G1.out (World.grownBy_alloc _ _ none))) HG.out OM.out.lo
      clear HO HG OM OU G1 HT VK HB SP
      go_roundw
      case rel => exact ⟨k + 1, us ++ [Value.slice pu nu cu], by omega, by go_num, show _ = _ by simpa using HU.out, R.out.1, R.out.2.1, R.out.2.2⟩
      case measure => simp [intOf]; omega
    · have hkN : N = k := by omega
      subst hkN
      have HX : X.take N = X := by rw [List.take_of_length_le]; have := HN.out; omega
      go_wp2
      go_ret
      exact ⟨_, us, rfl, by have h := OM.out; rw [HX] at h; exact h, SP.out, GK.out⟩
end Go.Proofs.Ytdeajclghlbhcaa
