/- The contract of hayrickref03.Mul: the document's own product. -/
import Derived.Test.YtdgdbjkgecfgeaaMulM
import Derived.Test.YtdgdbjkgecfgeaaRefId
namespace Go.Proofs.Ytdgdbjkgecfgeaa
open Go.RowKit

def mulUp (X Y : List (List Nat)) (m l k : Nat) : List (List Nat) := (List.range k).map fun i => mulRow X Y m l i
theorem mulUp_next (X Y : List (List Nat)) (m l k : Nat) : mulUp X Y m l k ++ [mulRow X Y m l k] = mulUp X Y m l (k + 1) := by simp [mulUp, List.range_succ]

set_option maxHeartbeats 1600000 in
theorem refMul_no {w : World} {a b : Value} {va vb : List Value} {X Y : List (List Nat)} (ma : Mat w a va X) (mb : Mat w b vb Y) (h : ¬ (mayB X = true ∧ mayB Y = true ∧ (X.getD 0 []).length = Y.length)) :
    Calls Try.prog 12 #[a, b] w fun e w' => e = .returned (.tuple #[.slice none 0 0, .int .i64 1]) ∧ w' = w := by
  obtain ⟨q, N, cap, rfl, hN⟩ := ma.row.opened
  obtain ⟨q', N', cap', rfl, hN'⟩ := mb.row.opened
  have MA := refMay_any ma
  have MB := refMay_any mb
  cases hx : mayB X with
  | false =>
    rw [hx] at MA
    have HA : Hid (∀ r, r = Value.slice q N cap → Calls Try.prog 19 #[r] w fun e w' => e = .returned (.bool false) ∧ w' = w) := fun r e => e ▸ MA
    clear MA MB hN hN' h ma mb
    go_enter Try.func12, Try.ntmps12
    go_wp2_with (go_at_call 19; refine (HA.out _ (by with_reducible rfl)).mono ?_; rintro e w1 ⟨rfl, hw⟩; obtain rfl := hw.symm; clear hw)
    go_ret2
    exact ⟨rfl, rfl⟩
  | true =>
    rw [hx] at MA
    have HA : Hid (∀ r, r = Value.slice q N cap → Calls Try.prog 19 #[r] w fun e w' => e = .returned (.bool true) ∧ w' = w) := fun r e => e ▸ MA
    cases hy : mayB Y with
    | false =>
      rw [hy] at MB
      have HB : Hid (∀ r, r = Value.slice q' N' cap' → Calls Try.prog 19 #[r] w fun e w' => e = .returned (.bool false) ∧ w' = w) := fun r e => e ▸ MB
      clear MA MB hN hN' h ma mb
      go_enter Try.func12, Try.ntmps12
      go_wp2_with (go_at_call 19; (first | refine (HA.out _ (by with_reducible rfl)).mono ?_ | refine (HB.out _ (by with_reducible rfl)).mono ?_); rintro e w1 ⟨rfl, hw⟩; obtain rfl := hw.symm; clear hw)
      go_ret2
      exact ⟨rfl, rfl⟩
    | true =>
      rw [hy] at MB
      have HB : Hid (∀ r, r = Value.slice q' N' cap' → Calls Try.prog 19 #[r] w fun e w' => e = .returned (.bool true) ∧ w' = w) := fun r e => e ▸ MB
      have sx := may_spec hx
      have hsa := ma.same
      have hsb := mb.same
      obtain ⟨b0, off, rfl, hc⟩ := ma.row.spot (k := 0) (by omega)
      obtain ⟨p0, n0, c0, e0, hn0⟩ := (ma.vec 0 (by omega)).opened
      rw [e0] at hc
      have hc0 : w.cell? ⟨b0, off, none⟩ = some (.slice p0 n0 c0) := hc
      have hpos : (0 : Int) < (N : Int) := by omega
      have hne : ((n0 : Int) != (N' : Int)) = true := by
        have : ¬ (X.getD 0 []).length = Y.length := fun e => h ⟨hx, hy, e⟩
        simp; omega
      clear MA MB hN hN' h ma mb hc e0 hn0 hsa hsb sx
      go_enter Try.func12, Try.ntmps12
      go_wp2_with (go_at_call 19; (first | refine (HA.out _ (by with_reducible rfl)).mono ?_ | refine (HB.out _ (by with_reducible rfl)).mono ?_); rintro e w1 ⟨rfl, hw⟩; obtain rfl := hw.symm; clear hw)
      go_ret2
      exact ⟨rfl, rfl⟩

theorem mix_row (X Y : List (List Nat)) (m l k : Nat) : mix (fun j => MX.xs (fun s => M.mul (at2 X k s) (at2 Y s j)) l) (List.replicate m 0) m = mulRow X Y m l k := by
  have h := mix_all (fun j => MX.xs (fun s => M.mul (at2 X k s) (at2 Y s j)) l) (List.replicate m 0)
  rw [List.length_replicate] at h
  exact h

set_option maxHeartbeats 6400000 in
theorem refMul_yes {w : World} {a b : Value} {va vb : List Value} {X Y : List (List Nat)} (ma : Mat w a va X) (mb : Mat w b vb Y) (hx : mayB X = true) (hy : mayB Y = true) (hfit : (X.getD 0 []).length = Y.length) :
    Calls Try.prog 12 #[a, b] w fun e w' => ∃ v us, e = .returned (.tuple #[v, .int .i64 0]) ∧ OwnMat w.heap.size w' v us (mulList X Y) ∧ w.grownBy w' none := by
  obtain ⟨q, N, cap, rfl, hN⟩ := ma.row.opened
  obtain ⟨q', N', cap', rfl, hN'⟩ := mb.row.opened
  have MA := refMay_any ma
  have MB := refMay_any mb
  rw [hx] at MA
  rw [hy] at MB
  have HA : Hid (∀ r, r = Value.slice q N cap → Calls Try.prog 19 #[r] w fun e w' => e = .returned (.bool true) ∧ w' = w) := fun r e => e ▸ MA
  have HB : Hid (∀ r, r = Value.slice q' N' cap' → Calls Try.prog 19 #[r] w fun e w' => e = .returned (.bool true) ∧ w' = w) := fun r e => e ▸ MB
  have sx := may_spec hx
  have sy := may_spec hy
  have hsa := ma.same
  have hsb := mb.same
  obtain ⟨b0, off, rfl, hc⟩ := ma.row.spot (k := 0) (by omega)
  obtain ⟨p0, n0, c0, e0, hn0⟩ := (ma.vec 0 (by omega)).opened
  rw [e0] at hc
  have hc0 : w.cell? ⟨b0, off, none⟩ = some (.slice p0 n0 c0) := hc
  obtain ⟨b1, off1, rfl, hd⟩ := mb.row.spot (k := 0) (by omega)
  obtain ⟨p1, m, c1, e1, hm⟩ := (mb.vec 0 (by omega)).opened
  rw [e1] at hd
  have hpos : (0 : Int) < (N : Int) := by omega
  have hpos1 : (0 : Int) < (N' : Int) := by omega
  have hne : ((n0 : Int) != (N' : Int)) = false := by simp; omega
  have HN : Hid (N = va.length ∧ N = X.length ∧ N' = vb.length ∧ N' = Y.length ∧ m = (Y.getD 0 []).length ∧ N ≤ 255 ∧ N' ≤ 255 ∧ m ≤ 255 ∧ Shape X N N' ∧ Shape Y N' m ∧ 1 ≤ m) := by
    refine ⟨hN, by omega, hN', by omega, hm, by omega, by omega, by omega, ?_, ?_, by omega⟩
    · have := sx.2.2.2.2; rw [hfit] at this; rw [show N = X.length from by omega, show N' = Y.length from by omega]; exact this
    · have := sy.2.2.2.2; rw [← hm] at this; rw [show N' = Y.length from by omega]; exact this
  have KA : Hid (∀ w', w.grownBy w' none → Mat w' (.slice (some ⟨b0, off, none⟩) N cap) va X) := fun w' g => ma.keep g
  have KB : Hid (∀ w', w.grownBy w' none → Mat w' (.slice (some ⟨b1, off1, none⟩) N' cap') vb Y) := fun w' g => mb.keep g
  have KD : Hid (∀ w', w.grownBy w' none → w'.cell? ⟨b1, off1, none⟩ = some (.slice p1 m c1)) := fun w' g => g.cell (show w.cell? ⟨b1, off1, none⟩ = some (.slice p1 m c1) from hd) (by simp)
  have hN255 : N ≤ 255 := by omega
  have hN'255 : N' ≤ 255 := by omega
  have hm255 : m ≤ 255 := by omega
  clear MA MB hN hN' hfit ma mb hc e0 hn0 hsa hsb sx sy hd e1 hm hx hy
  go_enter Try.func12, Try.ntmps12
  go_wp2_with (go_at_call 19; (first | refine (HA.out _ (by with_reducible rfl)).mono ?_ | refine (HB.out _ (by with_reducible rfl)).mono ?_); rintro e w1 ⟨rfl, hw⟩; obtain rfl := hw.symm; clear hw)
  clear HA HB hc0 hpos hne
  go_loopw [6, 7] (fun tv ti wr => ∃ (k : Nat) (us : List Value), k ≤ N ∧ ti = .int .i64 k ∧ Hid (us.length = k) ∧ Hid (OwnMat w.heap.size wr tv us (mulUp X Y m N' k)) ∧ Hid (w.grownBy wr none)) (fun _ ti _ => N - (intOf ti).toNat)
  case atStart => exact ⟨0, [], by omega, rfl, rfl, OwnMat.nil _ _, World.grownBy.refl _ _⟩
  case round =>
    obtain ⟨k, us, hk, rfl, HU, OM, GK⟩ := hrel
    by_cases hlt : k < N
    · have i1 : (k : Int) < (N : Int) := by omega
      have i3 : (0 : Int) ≤ (k : Int) := by omega
      have hd0 := KD.out _ GK.out
      go_wp2_with (at_make; refine wpList_make_vec rfl _ _ rfl m rfl rfl (by omega) ?_; intro w1 p ou g1; have OU : Hid (Own wr.heap.size w1 (.slice p m m) (List.replicate m 0)) := ou; have G1 : Hid (wr.grownBy w1 none) := g1; clear ou g1)
      clear hd0
      obtain ⟨wa, hwa⟩ : ∃ wa, wa = wr := ⟨wr, rfl⟩
      subst hwa
      obtain ⟨gu, rfl, q1, q2, q3, q4, q5, q6⟩ := OU.out.spot (k := 0) (by have := HN.out; simp; omega)
      clear q1 q2 q3 q4 q5 q6
      go_loopw [9] (fun ti wr => ∃ (j : Nat), j ≤ m ∧ ti = .int .i64 j ∧ Hid (Own wa.heap.size wr (.slice (some ⟨gu, 0, none⟩) m m) (mix (fun j => MX.xs (fun s => M.mul (at2 X k s) (at2 Y s j)) N') (List.replicate m 0) j)) ∧ Hid (wa.grownBy wr none)) (fun ti _ => m - (intOf ti).toNat)
      case atStart => exact ⟨0, by omega, rfl, by have h := OU.out; rw [← mix_zero (fun j => MX.xs (fun s => M.mul (at2 X k s) (at2 Y s j)) N') (List.replicate m 0)] at h; exact h, G1.out⟩
      case round =>
        clear OU G1
        obtain ⟨j, hj, rfl, OJ, GJ⟩ := hrel
        by_cases hjl : j < m
        · have j1 : (j : Int) < (m : Int) := by omega
          have j3 : (0 : Int) ≤ (j : Int) := by omega
          go_wp2_with fail
          obtain ⟨wb, hwb⟩ : ∃ wb, wb = wr := ⟨wr, rfl⟩
          subst hwb
          go_loopw [10, 11] (fun ts ti wr => ∃ (s : Nat), s ≤ N' ∧ ti = .int .i64 s ∧ ts = .int .u8 ((MX.xs (fun s => M.mul (at2 X k s) (at2 Y s j)) s : Nat) : Int) ∧ Hid (wb.grownBy wr none)) (fun _ ti _ => N' - (intOf ti).toNat)
          case atStart => exact ⟨0, by omega, rfl, rfl, World.grownBy.refl _ _⟩
          case round =>
            obtain ⟨s, hs, rfl, rfl, GS⟩ := hrel
            by_cases hsl : s < N'
            · have s1 : (s : Int) < (N' : Int) := by omega
              have s3 : (0 : Int) ≤ (s : Int) := by omega
              have GW : w.grownBy wr.drew none := grown_trans (grown_trans (grown_trans GK.out GJ.out) GS.out) (grown_drewN _ 1)
              obtain ⟨b2, o2, e2, hra⟩ := (KA.out _ GW).row.spot (k := k) (by have := HN.out; omega)
              obtain ⟨rfl, rfl⟩ : b0 = b2 ∧ off = o2 := by
                injection e2 with e2
                injection e2 with e3 e4
                exact ⟨e3, e4⟩
              have va' := (KA.out _ GW).vec k (by have := HN.out; omega)
              obtain ⟨pk, nk, ck, ek, hnk⟩ := va'.opened
              rw [ek] at hra va'
              have hXr := HN.out.2.2.2.2.2.2.2.2.1.row k hlt
              obtain ⟨bk, ok, rfl, hax, hx256⟩ := va'.spot (k := s) (by omega)
              obtain ⟨b3, o3, e3, hrb⟩ := (KB.out _ GW).row.spot (k := s) (by have := HN.out; omega)
              obtain ⟨rfl, rfl⟩ : b1 = b3 ∧ off1 = o3 := by
                injection e3 with e3
                injection e3 with e4 e5
                exact ⟨e4, e5⟩
              have vb' := (KB.out _ GW).vec s (by have := HN.out; omega)
              obtain ⟨pt, nt, ct, et, hnt⟩ := vb'.opened
              rw [et] at hrb vb'
              have hYr := HN.out.2.2.2.2.2.2.2.2.2.1.row s hsl
              obtain ⟨bt, ot, rfl, hbx, hy256⟩ := vb'.spot (k := j) (by omega)
              have s4 : (s : Int) < (nk : Int) := by omega
              have s5 : (j : Int) < (nt : Int) := by omega
              have HXS : Hid (MX.xs (fun s => M.mul (at2 X k s) (at2 Y s j)) (s + 1) = MX.xs (fun s => M.mul (at2 X k s) (at2 Y s j)) s ^^^ M.mul ((X.getD k []).getD s 0) ((Y.getD s []).getD j 0)) := rfl
              have hS : MX.xs (fun s => M.mul (at2 X k s) (at2 Y s j)) s < 256 := MX.xs_lt fun t _ => M.mul_lt _ ((KA.out _ GW).small k t)
              have hm256 : M.mul ((X.getD k []).getD s 0) ((Y.getD s []).getD j 0) < 256 := M.mul_lt _ hx256
              have hxe := u8_xor_nat (MX.xs (fun s => M.mul (at2 X k s) (at2 Y s j)) s) (M.mul ((X.getD k []).getD s 0) ((Y.getD s []).getD j 0)) hS hm256
              have GS2 : Hid (wb.grownBy wr.drew none) := grown_trans GS.out (grown_drewN _ 1)
              generalize MX.xs (fun s => M.mul (at2 X k s) (at2 Y s j)) s = S0 at *
              generalize (X.getD k []).getD s 0 = x at *
              generalize (Y.getD s []).getD j 0 = y at *
              have MM : Hid (∀ w', Calls Try.prog 27 #[.int .u8 (x : Int), .int .u8 (y : Int)] w' fun e w'' => e = .returned (.int .u8 ((M.mul x y : Nat) : Int)) ∧ w'' = w') := fun w' => refMul_any _ _ w' (by omega) (by omega) (by omega) (by omega)
              generalize M.mul x y = z at *
              have HC : Hid (wr.drew.cell? ⟨b0, off + k, none⟩ = some (.slice (some ⟨bk, ok, none⟩) nk ck) ∧ wr.drew.cell? ⟨bk, ok + s, none⟩ = some (.int .u8 (x : Int)) ∧ wr.drew.cell? ⟨b1, off1 + s, none⟩ = some (.slice (some ⟨bt, ot, none⟩) nt ct) ∧ wr.drew.cell? ⟨bt, ot + j, none⟩ = some (.int .u8 (y : Int))) := ⟨hra, hax, hrb, hbx⟩
              clear GW e2 e3 ek et va' vb' hnk hnt hXr hYr hra hax hrb hbx GS
              go_wp2_with fail
              go_region_held3 (fun w' => w'.cell? ⟨b0, off + k, none⟩ = some (.slice (some ⟨bk, ok, none⟩) nk ck) ∧ w'.cell? ⟨bk, ok + s, none⟩ = some (.int .u8 (x : Int)) ∧ w'.cell? ⟨b1, off1 + s, none⟩ = some (.slice (some ⟨bt, ot, none⟩) nt ct) ∧ w'.cell? ⟨bt, ot + j, none⟩ = some (.int .u8 (y : Int)))
                (exact HC.out) (first | (go_at_call 27; refine (MM.out _).mono ?_; rintro e w3 ⟨rfl, hw⟩; obtain rfl := hw.symm; clear hw))
              all_goals
                go_wp2
                go_roundw
                case rel => exact ⟨s + 1, by omega, by go_num, by rw [HXS.out], GS2.out⟩
                case measure => simp [intOf]; omega
            · have hsn : s = N' := by omega
              subst hsn
              have OJ2 := OJ.out.keep GS.out
              have hmx : j < (List.replicate m 0).length := by simpa using hjl
              obtain ⟨gu', e2, q1, hcx, hfx, q2, hset, hgrow⟩ := OJ2.spot (k := j) (by rw [mix_len]; exact hmx)
              obtain rfl : gu = gu' := (by injection e2 with e2; injection e2 with e2)
              have hlo := OJ2.lo gu rfl
              have hS : MX.xs (fun s => M.mul (at2 X k s) (at2 Y s j)) s < 256 := MX.xs_lt fun t _ => M.mul_lt _ ((KA.out _ GK.out).small k t)
              have R : Hid (Own wa.heap.size (wr.setCell ⟨gu, j, none⟩ (.int .u8 ((MX.xs (fun t => M.mul (at2 X k t) (at2 Y t j)) s : Nat) : Int))) (.slice (some ⟨gu, 0, none⟩) m m) (mix (fun j => MX.xs (fun t => M.mul (at2 X k t) (at2 Y t j)) s) (List.replicate m 0) (j + 1)) ∧ wa.grownBy (wr.setCell ⟨gu, j, none⟩ (.int .u8 ((MX.xs (fun t => M.mul (at2 X k t) (at2 Y t j)) s : Nat) : Int))) none) := by
                have h := hset _ hS
                rw [mix_set (fun j => MX.xs (fun t => M.mul (at2 X k t) (at2 Y t j)) s)] at h
                exact ⟨h, grown_new (grown_trans GJ.out GS.out) (hgrow _) (fun i e => by have := Option.some.inj e; omega)⟩
              generalize MX.xs (fun t => M.mul (at2 X k t) (at2 Y t j)) s = S0 at *
              clear q1 q2 hset hgrow OJ2 e2 hmx hlo GS OJ GJ hS
              go_wp2_with fail
              go_roundw
              case rel => exact ⟨j + 1, by omega, by go_num, R.out.1, R.out.2⟩
              case measure => simp [intOf]; omega
        · have hjm : m = j := by omega
          subst hjm
          have OJ2 : Hid (Own wa.heap.size wr (.slice (some ⟨gu, 0, none⟩) m m) (mulRow X Y m N' k)) := by have h := OJ.out; rw [mix_row] at h; exact h
          have HB : Hid (w.heap.size ≤ wa.heap.size ∧ wa.heap.size ≤ wr.heap.size) := ⟨GK.out.size, GJ.out.size⟩
          clear OJ
          go_wp2_with (at_builtin; refine wpList_append_out rfl _ _ rfl u6 ⟨wr.heap.size, 0, none⟩ rfl rfl (B := w.heap.size) (us := us) (u := .slice (some ⟨gu, 0, none⟩) m m) ((OM.out.keep (grown_trans GJ.out (World.grownBy_alloc _ _ none))).out) (cell_new1 _ _ rfl) rfl (by have h1 := HB.out; simp; omega) (by have := HU.out; omega) ?_; intro v' w2 oo gg at2; have HO : Hid (Out w.heap.size w2 v' (us ++ [.slice (some ⟨gu, 0, none⟩) m m])) := oo; have HG : Hid ((wr.alloc (.cells #[.slice (some ⟨gu, 0, none⟩) m m] 45)).grownBy w2 u6.ownBlock) := gg; clear oo gg at2)
          have R : Hid (OwnMat w.heap.size w2 v' (us ++ [.slice (some ⟨gu, 0, none⟩) m m]) (mulUp X Y m N' (k + 1)) ∧ w.grownBy w2 none) := by
            rw [← mulUp_next]
            refine ⟨(OM.out.keep (grown_trans GJ.out (World.grownBy_alloc _ _ none))).more ((OJ2.out.down HB.out.1).keep (World.grownBy_alloc _ _ none)) (by have := HU.out; omega) (by simpa using HO.out.row) HG.out, ?_⟩
            exact grown_new (grown_trans GK.out (grown_trans GJ.out (World.grownBy_alloc _ _ none))) HG.out OM.out.lo
          clear HO HG OM OJ2 HB GJ
          go_roundw
          case rel => exact ⟨k + 1, us ++ [Value.slice (some ⟨gu, 0, none⟩) m m], by omega, by go_num, show _ = _ by simpa using HU.out, R.out.1, R.out.2⟩
          case measure => simp [intOf]; omega
    · have hkN : N = k := by omega
      subst hkN
      have h3 : mulList X Y = mulUp X Y m N' N := by unfold mulList mulUp; rw [← HN.out.2.1, ← HN.out.2.2.2.1, ← HN.out.2.2.2.2.1]
      have OM2 : Hid (OwnMat w.heap.size wr u6 us (mulList X Y)) := by rw [h3]; exact OM.out
      clear h3 OM
      go_wp2
      go_ret2
      exact ⟨_, us, rfl, OM2.out, GK.out⟩
end Go.Proofs.Ytdgdbjkgecfgeaa
