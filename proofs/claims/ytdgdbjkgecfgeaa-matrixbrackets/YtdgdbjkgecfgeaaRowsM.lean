/- The contract of matrix.Rows; slices of ints. -/
import Derived.Test.YtdgdbjkgecfgeaaMulM
import Derived.Test.YtdgdbjkgecfgeaaSame3
namespace Go.Proofs.Ytdgdbjkgecfgeaa
open Go.RowKit

/-- The slice v has the ints ls in the world w. -/
structure IVec (w : World) (v : Value) (ls : List Int) : Prop where
  len : ls.length ≤ 140737488351232
  form : ∃ p cap, v = .slice p ls.length cap ∧ ls.length ≤ cap ∧ cap ≤ maxLen ∧
    (ls ≠ [] → ∃ b off, p = some ⟨b, off, none⟩ ∧ ∀ j, j < ls.length → w.cell? ⟨b, off + j, none⟩ = some (.int .i64 (ls.getD j 0)))

theorem IVec.opened {w : World} {v : Value} {ls : List Int} (h : IVec w v ls) : ∃ p n cap, v = .slice p n cap ∧ n = ls.length := by
  obtain ⟨p, cap, e, _⟩ := h.form
  exact ⟨p, _, cap, e, rfl⟩
theorem IVec.spot {w : World} {p : Option Addr} {n cap : Nat} {ls : List Int} (h : IVec w (.slice p n cap) ls) {k : Nat} (hk : k < ls.length) :
    ∃ b off, p = some ⟨b, off, none⟩ ∧ w.cell? ⟨b, off + k, none⟩ = some (.int .i64 (ls.getD k 0)) := by
  obtain ⟨p', c', e, _, _, h5⟩ := h.form
  injection e with e1 e2 e3
  subst e1
  obtain ⟨b, off, rfl, hc⟩ := h5 (fun e => by subst e; simp at hk)
  exact ⟨b, off, rfl, hc k hk⟩
theorem IVec.keep {w w' : World} {v : Value} {ls : List Int} (h : IVec w v ls) (g : w.grownBy w' none) : IVec w' v ls := by
  obtain ⟨h2, p, cap, rfl, h3, h4, h5⟩ := h
  refine ⟨h2, p, cap, rfl, h3, h4, fun hx => ?_⟩
  obtain ⟨b, off, rfl, hc⟩ := h5 hx
  exact ⟨b, off, rfl, fun j hj => g.cell (hc j hj) (by simp)⟩

/-- All of them are rows' numbers. -/
def rowsOK (X : List (List Nat)) (ls : List Int) : Prop := mayB X = true ∧ 1 ≤ ls.length ∧ ls.length ≤ 255 ∧ ∀ j, j < ls.length → 0 ≤ ls.getD j 0 ∧ ls.getD j 0 < X.length
def rowsList (X : List (List Nat)) (ls : List Int) : List (List Nat) := ls.map fun i => X.getD i.toNat []
def rowsTo (X : List (List Nat)) (ls : List Int) (k : Nat) : List (List Nat) := (List.range ls.length).map fun j => if j < k then X.getD (ls.getD j 0).toNat [] else []

theorem rowsTo_len (X : List (List Nat)) (ls : List Int) (k : Nat) : (rowsTo X ls k).length = ls.length := by simp [rowsTo]
theorem rowsTo_zero (X : List (List Nat)) (ls : List Int) : rowsTo X ls 0 = List.replicate ls.length [] := by
  apply List.ext_getElem
  · simp [rowsTo]
  · intro i h1 h2
    simp [rowsTo]
theorem rowsTo_set (X : List (List Nat)) (ls : List Int) (k : Nat) : (rowsTo X ls k).set k (X.getD (ls.getD k 0).toNat []) = rowsTo X ls (k + 1) := by
  apply List.ext_getElem
  · simp [rowsTo]
  · intro i h1 h2
    by_cases e : k = i
    · subst e; simp [rowsTo]
    · by_cases l : i < k
      · simp [rowsTo, e, l, show i < k + 1 from by omega]
      · simp [rowsTo, e, l, show ¬ i < k + 1 from by omega]
theorem rowsTo_all (X : List (List Nat)) (ls : List Int) : rowsTo X ls ls.length = rowsList X ls := by
  apply List.ext_getElem
  · simp [rowsTo, rowsList]
  · intro i h1 h2
    have hi : i < ls.length := by simpa [rowsTo] using h1
    simp [rowsTo, rowsList, hi]

def RowsEnd (X : List (List Nat)) (ls : List Int) (w : World) (e : Ending) (w' : World) : Prop :=
  w.grownBy w' none ∧ ((rowsOK X ls ∧ ∃ p n c us, e = .returned (.tuple #[.slice p n c, .int .i64 0]) ∧ OwnMat w.heap.size w' (.slice p n c) us (rowsList X ls)) ∨ (¬ rowsOK X ls ∧ e = .returned (.tuple #[.slice none 0 0, .int .i64 1])))

set_option maxHeartbeats 3200000 in
theorem rows_any {w : World} {m l : Value} {vs : List Value} {X : List (List Nat)} {ls : List Int} (mr : Mat w m vs X) (hl : IVec w l ls) :
    Calls Try.prog 15 #[m, l] w (RowsEnd X ls w) := by
  obtain ⟨q, N, cap, rfl, hN⟩ := mr.row.opened
  obtain ⟨ql, L, capl, rfl, hL⟩ := hl.opened
  have MA := may_any mr
  cases hx : mayB X with
  | false =>
    rw [hx] at MA
    have HA : Hid (∀ r, r = Value.slice q N cap → Calls Try.prog 18 #[r] w fun e w' => e = .returned (.bool false) ∧ w' = w) := fun r e => e ▸ MA
    have NO : Hid (¬ rowsOK X ls) := fun h => by have := h.1; rw [hx] at this; cases this
    clear MA hN hL mr hl
    go_enter Try.func15, Try.ntmps15
    go_wp2_with (go_at_call 18; refine (HA.out _ (by with_reducible rfl)).mono ?_; rintro e w1 ⟨rfl, hw⟩; obtain rfl := hw.symm; clear hw)
    go_ret2
    exact ⟨World.grownBy.refl _ _, .inr ⟨NO.out, rfl⟩⟩
  | true =>
    rw [hx] at MA
    have HA : Hid (∀ r, r = Value.slice q N cap → Calls Try.prog 18 #[r] w fun e w' => e = .returned (.bool true) ∧ w' = w) := fun r e => e ▸ MA
    have hLl := hl.len
    by_cases hr : 1 ≤ L ∧ L ≤ 255
    · have WN : Hid (∀ w, Calls Try.prog 34 #[.int .i64 (L : Int)] w fun e w' => e = .returned (.bool true) ∧ w' = w) := fun w => within_any _ w (by simp; omega)
      have sx := may_spec hx
      have hsa := mr.same
      have HN : Hid (N = vs.length ∧ N = X.length ∧ L = ls.length ∧ 1 ≤ L ∧ L ≤ 255 ∧ N ≤ 255 ∧ ∀ j, j < N → 0 < (X.getD j []).length) :=
        ⟨hN, by omega, hL, hr.1, hr.2, by omega, fun j hj => by rw [sx.2.2.2.2.row j (by omega)]; omega⟩
      have KM : Hid (∀ w', w.grownBy w' none → Mat w' (.slice q N cap) vs X) := fun w' g => mr.keep g
      have KL : Hid (∀ w', w.grownBy w' none → IVec w' (.slice ql L capl) ls) := fun w' g => hl.keep g
      have HX : Hid (mayB X = true) := hx
      have hL255 : L ≤ 255 := hr.2
      clear MA hN hL mr hl hr sx hsa hx hLl
      go_enter Try.func15, Try.ntmps15
      go_wp2_with (first
        | (go_at_call 18; refine (HA.out _ (by with_reducible rfl)).mono ?_; rintro e w1 ⟨rfl, hw⟩; obtain rfl := hw.symm; clear hw)
        | (go_at_call 34; refine (WN.out _).mono ?_; rintro e w1 ⟨rfl, hw⟩; obtain rfl := hw.symm; clear hw)
        | (at_make; refine wpList_make_rows rfl _ _ rfl L rfl rfl (by omega) ?_; intro w1 p om g1; have OM : Hid (OwnMat w.heap.size w1 (.slice p L L) (List.replicate L (.slice none 0 0)) (List.replicate L [])) := om; have G1 : Hid (w.grownBy w1 none) := g1; clear om g1))
      clear HA WN
      obtain ⟨g, rfl, hb, q1, q2, q3, q4, q5⟩ := OM.out.place (k := 0) (by have := HN.out; simp; omega)
      have HB : Hid (w.heap.size ≤ g) := hb
      clear q1 q2 q3 q4 q5 hb
      go_loopw [23] (fun ti wr => ∃ (k : Nat) (us : List Value), k ≤ L ∧ ti = .int .i64 k ∧ Hid (OwnMat w.heap.size wr (.slice (some ⟨g, 0, none⟩) L L) us (rowsTo X ls k)) ∧ Hid (∀ j, j < k → 0 ≤ ls.getD j 0 ∧ ls.getD j 0 < X.length) ∧ Hid (w.grownBy wr none)) (fun ti _ => L - (intOf ti).toNat)
      case atStart => exact ⟨0, _, by omega, rfl, (by have h := OM.out; rw [HN.out.2.2.1, ← rowsTo_zero X ls, ← HN.out.2.2.1] at h; exact h), (fun j hj => by omega), G1.out⟩
      case round =>
        clear OM G1
        obtain ⟨k, us, hk, rfl, OK, AL, GK⟩ := hrel
        by_cases hlt : k < L
        · have i1 : (k : Int) < (L : Int) := by omega
          have i3 : (0 : Int) ≤ (k : Int) := by omega
          have hkl : k < ls.length := by have := HN.out; omega
          obtain ⟨bl, ol, rfl, hcl⟩ := (KL.out _ GK.out).spot (k := k) hkl
          by_cases hin : 0 ≤ ls.getD k 0 ∧ ls.getD k 0 < X.length
          · have AL' : Hid (∀ j, j < k + 1 → 0 ≤ ls.getD j 0 ∧ ls.getD j 0 < X.length) := fun j hj => by
              by_cases e : j = k
              · subst e; exact hin
              · exact AL.out j (by omega)
            obtain ⟨i, hi⟩ := Int.eq_ofNat_of_zero_le hin.1
            have hiN : i < N := by have := HN.out; omega
            have HS : Hid ((rowsTo X ls k).set k (X.getD i []) = rowsTo X ls (k + 1)) := by have h := rowsTo_set X ls k; rw [hi] at h; exact h
            rw [hi] at hcl
            have hkX : k < (rowsTo X ls k).length := by rw [rowsTo_len]; exact hkl
            obtain ⟨b0, off, rfl, hr⟩ := (KM.out _ GK.out).row.spot (k := i) (by have := HN.out; omega)
            obtain ⟨pi, ni, ci, ei, hni⟩ := ((KM.out _ GK.out).vec i (by have := HN.out; omega)).opened
            have vi := (KM.out _ GK.out).vec i (by have := HN.out; omega)
            rw [ei] at hr vi
            have CL : Hid (∀ r, r = Value.slice pi ni ci → Calls Try.prog 35 #[r] wr fun e w' => ∃ p n c, e = .returned (.slice p n c) ∧ Own wr.heap.size w' (.slice p n c) (X.getD i []) ∧ wr.grownBy w' none) := fun r e => e ▸ clone_any vi (HN.out.2.2.2.2.2.2 i hiN)
            have PL : Hid (∀ w2 p n c, Own wr.heap.size w2 (.slice p n c) (X.getD i []) → wr.grownBy w2 none → (∃ u0, w2.cell? ⟨g, k, none⟩ = some u0) ∧ w2.frozen? ⟨g, k, none⟩ = false ∧
                OwnMat w.heap.size (w2.setCell ⟨g, k, none⟩ (.slice p n c)) (.slice (some ⟨g, 0, none⟩) L L) (us.set k (.slice p n c)) (rowsTo X ls (k + 1)) ∧ w.grownBy (w2.setCell ⟨g, k, none⟩ (.slice p n c)) none) := fun w2 p n c o2 g2 => by
              obtain ⟨g', e', hb, hc, hf, hput, _, hgr⟩ := (OK.out.keep g2).place (k := k) hkX
              obtain rfl : g = g' := (by injection e' with e'; injection e' with e')
              have h := hput _ _ (o2.down GK.out.size)
              rw [HS.out] at h
              exact ⟨⟨_, hc⟩, hf, h, grown_new (grown_trans GK.out g2) (hgr _) (fun i e => by have := Option.some.inj e; omega)⟩
            have j1 : (i : Int) < (N : Int) := by omega
            have j2 : (0 : Int) ≤ (i : Int) := by omega
            have j3 : ¬ (N : Int) ≤ (i : Int) := by omega
            clear OK AL hin hi hkl hkX ei hni vi hiN HS
            go_wp2_with (go_at_call 35; refine (CL.out _ (by with_reducible rfl)).mono ?_; rintro e w2 ⟨pu, nu, cu, rfl, o2, g2⟩; obtain ⟨⟨u0, hc2⟩, hf2, om2, gg2⟩ := PL.out w2 pu nu cu o2 g2; have OM2 : Hid (OwnMat w.heap.size (w2.setCell ⟨g, k, none⟩ (.slice pu nu cu)) (.slice (some ⟨g, 0, none⟩) L L) (us.set k (.slice pu nu cu)) (rowsTo X ls (k + 1))) := om2; have GG2 : Hid (w.grownBy (w2.setCell ⟨g, k, none⟩ (.slice pu nu cu)) none) := gg2; clear o2 g2 om2 gg2 hr hcl)
            go_roundw
            case rel => exact ⟨k + 1, us.set k (.slice pu nu cu), by omega, by go_num, OM2.out, AL'.out, GG2.out⟩
            case measure => simp [intOf]; omega
          · have NO : Hid (¬ rowsOK X ls) := fun h => hin (h.2.2.2 k hkl)
            have hXN : (X.length : Int) = (N : Int) := by have := HN.out; omega
            rw [hXN] at hin
            generalize ls.getD k 0 = r at *
            by_cases hneg : r < 0
            · clear hin OK hkl hXN
              go_wp2
              go_ret2
              exact ⟨GK.out, .inr ⟨NO.out, rfl⟩⟩
            · have hge : (N : Int) ≤ r := by omega
              clear hin OK hkl hXN
              go_wp2
              go_ret2
              exact ⟨GK.out, .inr ⟨NO.out, rfl⟩⟩
        · have hkn : L = k := by omega
          subst hkn
          have OKK : Hid (rowsOK X ls ∧ rowsTo X ls L = rowsList X ls) := ⟨⟨HX.out, by have := HN.out; omega, by have := HN.out; omega, fun j hj => AL.out j (by have := HN.out; omega)⟩, by rw [HN.out.2.2.1]; exact rowsTo_all X ls⟩
          go_wp2
          go_ret2
          have h0 := OK.out
          rw [OKK.out.2] at h0
          exact ⟨GK.out, .inl ⟨OKK.out.1, _, _, _, us, rfl, h0⟩⟩
    · have WN : Hid (∀ w, Calls Try.prog 34 #[.int .i64 (L : Int)] w fun e w' => e = .returned (.bool false) ∧ w' = w) := fun w => within_any _ w (by simp; omega)
      have NO : Hid (¬ rowsOK X ls) := fun h => hr ⟨by have := h.2.1; omega, by have := h.2.2.1; omega⟩
      clear MA hN hL mr hl hr
      go_enter Try.func15, Try.ntmps15
      go_wp2_with (first
        | (go_at_call 18; refine (HA.out _ (by with_reducible rfl)).mono ?_; rintro e w1 ⟨rfl, hw⟩; obtain rfl := hw.symm; clear hw)
        | (go_at_call 34; refine (WN.out _).mono ?_; rintro e w1 ⟨rfl, hw⟩; obtain rfl := hw.symm; clear hw))
      go_ret2
      exact ⟨World.grownBy.refl _ _, .inr ⟨NO.out, rfl⟩⟩

theorem rows_yes {w : World} {m l : Value} {vs : List Value} {X : List (List Nat)} {ls : List Int} (mr : Mat w m vs X) (hl : IVec w l ls) (h : rowsOK X ls) :
    Calls Try.prog 15 #[m, l] w fun e w' => ∃ p n c us, e = .returned (.tuple #[.slice p n c, .int .i64 0]) ∧ OwnMat w.heap.size w' (.slice p n c) us (rowsList X ls) ∧ w.grownBy w' none :=
  (rows_any mr hl).mono fun e w' k => by
    rcases k with ⟨g, ⟨_, p, n, c, us, rfl, om⟩ | ⟨no, _⟩⟩
    · exact ⟨p, n, c, us, rfl, om, g⟩
    · exact absurd h no
theorem rows_no {w : World} {m l : Value} {vs : List Value} {X : List (List Nat)} {ls : List Int} (mr : Mat w m vs X) (hl : IVec w l ls) (h : ¬ rowsOK X ls) :
    Calls Try.prog 15 #[m, l] w fun e w' => e = .returned (.tuple #[.slice none 0 0, .int .i64 1]) ∧ w.grownBy w' none :=
  (rows_any mr hl).mono fun e w' k => by
    rcases k with ⟨g, ⟨ok, _⟩ | ⟨_, rfl⟩⟩
    · exact absurd ok h
    · exact ⟨rfl, g⟩
end Go.Proofs.Ytdgdbjkgecfgeaa
