/- The contracts of bytes.Equal, slices.EqualFunc at it, matrix.Same; bytes.Clone. -/
import Derived.Test.YtdgdbjkgecfgeaaRefMat
namespace Go.Proofs.Ytdgdbjkgecfgeaa
open Go.RowKit

theorem equal_any {w : World} {a b : Value} {xs ys : List Nat} (ha : Vec w a xs) (hb : Vec w b ys) :
    Calls Try.prog 37 #[a, b] w fun e w' => e = .returned (.bool (decide (xs = ys))) ∧ w' = w := by
  have h1 := convert_vec ha
  have h2 := convert_vec hb
  have h3 := str_cmp ha.small hb.small
  go_enter Try.func37, Try.ntmps37
  go_wp2
  go_ret
  exact ⟨rfl, rfl⟩

set_option maxHeartbeats 1600000 in
theorem eqFunc_any {w : World} {r s : Value} {us vs : List Value} {X Y : List (List Nat)} (mr : Mat w r us X) (ms : Mat w s vs Y) :
    Calls Try.prog 36 #[r, s, .func (.func 37) #[] #[]] w fun e w' => e = .returned (.bool (decide (X = Y))) ∧ w' = w := by
  obtain ⟨q, N, cap, rfl, hN⟩ := mr.row.opened
  obtain ⟨q', N', cap', rfl, hN'⟩ := ms.row.opened
  have hs := mr.same
  have hs' := ms.same
  have hNl : N ≤ 140737488351232 := by have := mr.row.len; omega
  by_cases h0 : N = N'
  · have hb : ((N : Int) != (N' : Int)) = false := by simp [h0]
    have MR : Hid (Mat w (.slice q N cap) us X) := mr
    have MS : Hid (Mat w (.slice q' N' cap') vs Y) := ms
    have HN : Hid (N = us.length ∧ N = X.length ∧ N' = vs.length ∧ N' = Y.length ∧ N = N') := ⟨hN, by omega, hN', by omega, h0⟩
    clear hN hN' hs hs' mr ms h0
    go_enter Try.func36, Try.ntmps36
    go_wp2_with fail
    go_loop [17] (fun ti => ∃ k : Nat, k ≤ N ∧ ti = .int .i64 k ∧ Hid (∀ j, j < k → X.getD j [] = Y.getD j [])) (fun ti => N - (intOf ti).toNat)
    case atStart => exact ⟨0, by omega, rfl, fun j hj => by omega⟩
    case round =>
      obtain ⟨k, hk, rfl, HE⟩ := hrel
      by_cases hlt : k < N
      · obtain ⟨b, off, rfl, hr⟩ := MR.out.row.spot (k := k) (by have := HN.out; omega)
        obtain ⟨b', off', rfl, ht⟩ := MS.out.row.spot (k := k) (by have := HN.out; omega)
        obtain ⟨pk, nk, ck, ek, hnk⟩ := (MR.out.vec k (by have := HN.out; omega)).opened
        obtain ⟨qk, mk, dk, fk, hmk⟩ := (MS.out.vec k (by have := HN.out; omega)).opened
        have VX : Vec w (.slice pk nk ck) (X.getD k []) := by rw [← ek]; exact MR.out.vec k (by have := HN.out; omega)
        have VY : Vec w (.slice qk mk dk) (Y.getD k []) := by rw [← fk]; exact MS.out.vec k (by have := HN.out; omega)
        rw [ek] at hr
        rw [fk] at ht
        have i1 : (k : Int) < (N : Int) := by omega
        have i2 : (k : Int) < (N' : Int) := by have := HN.out; omega
        have i3 : (0 : Int) ≤ (k : Int) := by omega
        have EQ := equal_any VX VY
        clear ek fk hnk hmk VX VY
        by_cases he : X.getD k [] = Y.getD k []
        · rw [decide_eq_true he] at EQ
          have HQ : Hid (∀ r s, r = Value.slice pk nk ck → s = Value.slice qk mk dk → Calls Try.prog 37 #[r, s] w fun e w' => e = .returned (.bool true) ∧ w' = w) := fun r s e1 e2 => by subst e1 e2; exact EQ
          have HE' : Hid (∀ j, j < k + 1 → X.getD j [] = Y.getD j []) := fun j hj => by
            by_cases e : j = k
            · subst e; exact he
            · exact HE.out j (by omega)
          clear he HE EQ
          go_wp2_with (go_at_call 37; refine (HQ.out _ _ (by with_reducible rfl) (by with_reducible rfl)).mono ?_; rintro e w1 ⟨rfl, hw⟩; obtain rfl := hw.symm; clear hw)
          go_round
          case rel => exact ⟨k + 1, by omega, by go_num, HE'⟩
          case measure => simp [intOf]; omega
        · rw [decide_eq_false he] at EQ
          have HQ : Hid (∀ r s, r = Value.slice pk nk ck → s = Value.slice qk mk dk → Calls Try.prog 37 #[r, s] w fun e w' => e = .returned (.bool false) ∧ w' = w) := fun r s e1 e2 => by subst e1 e2; exact EQ
          have HNE : Hid (decide (X = Y) = false) := decide_eq_false fun e => he (by rw [e])
          clear he HE EQ
          go_wp2_with (go_at_call 37; refine (HQ.out _ _ (by with_reducible rfl) (by with_reducible rfl)).mono ?_; rintro e w1 ⟨rfl, hw⟩; obtain rfl := hw.symm; clear hw)
          go_ret
          exact ⟨by rw [HNE.out]; rfl, rfl⟩
      · have e : X = Y := list_ext (by have := HN.out; omega) (fun j hj => HE.out j (by have := HN.out; omega))
        have HYE : Hid (decide (X = Y) = true) := decide_eq_true e
        clear e
        go_wp2
        go_ret
        exact ⟨by rw [HYE.out]; rfl, rfl⟩
  · have hb : ((N : Int) != (N' : Int)) = true := by simp; omega
    have HNE : Hid (decide (X = Y) = false) := decide_eq_false fun e => h0 (by rw [e] at hs; omega)
    clear hN hN' hs hs' mr ms h0
    go_enter Try.func36, Try.ntmps36
    go_wp2
    go_ret
    exact ⟨by rw [HNE.out]; rfl, rfl⟩

theorem same_any {w : World} {r s : Value} {us vs : List Value} {X Y : List (List Nat)} (mr : Mat w r us X) (ms : Mat w s vs Y) :
    Calls Try.prog 20 #[r, s] w fun e w' => e = .returned (.bool (decide (X = Y))) ∧ w' = w := by
  have EQ : Hid (∀ r' s' f, r' = r → s' = s → f = Value.func (.func 37) #[] #[] → Calls Try.prog 36 #[r', s', f] w fun e w' => e = .returned (.bool (decide (X = Y))) ∧ w' = w) := fun r' s' f e1 e2 e3 => by subst e1 e2 e3; exact eqFunc_any mr ms
  clear mr ms
  generalize decide (X = Y) = bb at *
  go_enter Try.func20, Try.ntmps20
  go_wp2_with (go_at_call 36; refine (EQ.out _ _ _ (by with_reducible rfl) (by with_reducible rfl) (by with_reducible rfl)).mono ?_; rintro e w1 ⟨rfl, hw⟩; obtain rfl := hw.symm; clear hw)
  go_ret
  exact ⟨rfl, rfl⟩

theorem eql_nil (a : Addr) (k c : Nat) (w : World) : (binOp .eql 45 (.slice (some a) k c) (.slice none 0 0)).run Try.prog w = .ok (.bool false) w := by kernel_rfl

/-- A vector that has numbers, in new memory. -/
theorem clone_any {w : World} {v : Value} {xs : List Nat} (hv : Vec w v xs) (h0 : 0 < xs.length) :
    Calls Try.prog 35 #[v] w fun e w' => ∃ p n c, e = .returned (.slice p n c) ∧ Own w.heap.size w' (.slice p n c) xs ∧ w.grownBy w' none := by
  obtain ⟨b, off, cap, rfl, _, _⟩ := hv.at h0
  have HV : Hid (Vec w (.slice (some ⟨b, off, none⟩) xs.length cap) xs) := hv
  have HL : Hid (xs.length ≤ 140737488351232) := hv.len
  have EN := eql_nil ⟨b, off, none⟩ xs.length cap
  have E0 : Hid (Own w.heap.size (w.alloc (.cells #[] 5)) (.slice (some ⟨w.heap.size, 0, none⟩) 0 0) []) := own_lit (xs := []) (heap_new _ _ _ rfl) (Nat.le_refl _) rfl (by simp) (by simp)
  clear hv h0
  generalize hk : xs.length = k at *
  have HK : Hid (xs.length = k) := hk
  clear hk
  go_enter Try.func35, Try.ntmps35
  go_wp2_with (at_builtin; refine wpList_append_vec rfl _ _ rfl _ _ rfl rfl E0.out (HV.out.keep (World.grownBy_alloc _ _ none)) (by simp) (by have h1 := HL.out; have h2 := HK.out; simp; omega) ?_; intro u w1 ou g1; obtain ⟨pu, nu, cu, rfl, hnu⟩ := ou.vec.opened; have OU : Hid (Own w.heap.size w1 (.slice pu nu cu) ([] ++ xs)) := ou; have G1 : Hid ((w.alloc (.cells #[] 5)).grownBy w1 (some w.heap.size)) := g1; clear ou g1 hnu)
  go_ret
  exact ⟨pu, nu, cu, rfl, OU.out, grown_new (World.grownBy_alloc w _ none) G1.out (fun i e => by have := Option.some.inj e; omega)⟩
end Go.Proofs.Ytdgdbjkgecfgeaa
