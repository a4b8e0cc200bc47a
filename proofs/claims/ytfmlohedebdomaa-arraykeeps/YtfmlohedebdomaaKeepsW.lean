/- The walk of ArrayKeeps. -/
import Derived.Test.YtfmlohedebdomaaKeep6
import Derived.Deep.RegionHeld3
set_option linter.unusedSimpArgs false
set_option linter.unusedVariables false
namespace Go.Proofs.Ytfmlohedebdomaa
open Go.RowKit
theorem zeroWant : (Try.prog.info? 55).map (fun i => (i.zero, i.size, i.bytes)) = some (some (.agg (List.replicate 12 (Value.slice none 0 0)).toArray), 12, 288) := by kernel_rfl
theorem run_zeroWant (w : World) : (zeroValue 55).run Try.prog w = .ok (.agg (List.replicate 12 (Value.slice none 0 0)).toArray) w := by
  obtain ⟨i, hi, h0, h1, h2⟩ := info_parts zeroWant
  simp [zeroValue, typeInfo, hi, h0]
theorem off_at {F : Nat → Prop} {w : World} {a : Nat} {R : AM.Raw} (h : Is F w a R) {b : Bool} (hc : R.off = b) : Calls Try.prog 36 #[ptr a] w fun e w' => e = .returned (.bool b) ∧ w' = w := by
  subst hc; exact off_yes h
theorem full_new {F : Nat → Prop} {w : World} (hF : ∀ i, F i → i < w.heap.size) {x : Nat} (hx : x < 256) {c : Int} (hc : (x : Int) = c) : Calls Try.prog 29 #[.int .u8 c] w fun e w' => ∃ p, e = .returned (.slice p 64 64) ∧ Aw F w' (.slice p 64 64) (fl x) ∧ (∀ g, (Value.slice p 64 64).ownBlock = some g → w.heap.size ≤ g) ∧ w.grownBy w' none := by
  subst hc
  refine (full_yes hx).mono ?_
  rintro e w' ⟨g, rfl, h1, h2⟩
  exact ⟨_, rfl, h1.aw hF, fun g hg => (h1.lt hg).1, h2⟩

namespace arrayKeeps
set_option maxRecDepth 100000 in
set_option maxHeartbeats 6400000 in
theorem walk {w : World} {v u q : Value} {l m : List ActR} {ps : List Nat} (hl : Acts w v l) (hm : Acts w u m) (hp : Vec w q ps) : Calls Try.prog 5 #[v, u, q] w fun e w' => e = .returned (.bool true) ∧ w.grownBy w' none := by
  obtain ⟨p, N, cap, rfl, hN⟩ := hl.opened
  obtain ⟨pm, M, capm, rfl, hM⟩ := hm.opened
  obtain ⟨pu, nu, cu, rfl, hnu⟩ := hp.opened
  have HA : Hid (Acts w (.slice p N cap) l) := hl
  have HM : Hid (Acts w (.slice pm M capm) m) := hm
  have HP : Hid (Vec w (.slice pu nu cu) ps) := hp
  have HN : Hid (N = l.length) := hN
  have HNM : Hid (M = m.length) := hM
  have HNU : Hid (nu = ps.length) := hnu
  have hNb : N ≤ 140737488351232 := by rw [hN]; exact hl.len
  have hMb : M ≤ 140737488351232 := by rw [hM]; exact hm.len
  have hUb : nu ≤ 140737488351232 := by rw [hnu]; exact hp.len
  have zA := run_zeroAct
  obtain ⟨ZR, hZR⟩ : ∃ ZR : Array Value, ZR = #[.int .i64 0, .int .i64 0, .int .i64 0, .int .u8 0, .slice none 0 0, .bool false] := ⟨_, rfl⟩
  rw [← hZR] at zA
  have HZ : Hid (ZR.size = 6) := by show _ = _; rw [hZR]; rfl
  have zW := run_zeroWant
  obtain ⟨ZW, hZW⟩ : ∃ ZW : Array Value, ZW = (List.replicate 12 (Value.slice none 0 0)).toArray := ⟨_, rfl⟩
  rw [← hZW] at zW
  have HZW : Hid (ZW = (List.replicate 12 (Value.slice none 0 0)).toArray) := hZW
  have e40 : IntKind.i64.wrap ((N : Int) + (M : Int)) = (N : Int) + (M : Int) := IntWalk.i64_in _ (by omega)
  clear hl hm hp hN hM hnu hZR hZW
  by_cases hgt : 40 < N + M
  · have i40 : (40 : Int) < (N : Int) + (M : Int) := by omega
    go_enter Try.func5, Try.ntmps5
    go_wp2_with fail
    refine (new_at (w := w) (N := 3) (n := 4) (by decide) (by decide) (by decide) (by decide) rfl rfl).mono ?_
    rintro e w1 ⟨a, rfl, F1, hi, hb⟩
    have HB : Hid (Base w F1 w1) := hb
    clear hi hb
    go_wp2_with fail
    refine (awake_yes w1).mono ?_
    rintro e w2 ⟨rfl, hg⟩
    have HB2 : Hid (Base w F1 w2) := HB.out.keep hg
    clear hg HB
    go_wp2
    go_ret
    exact ⟨rfl, HB2.out.grown⟩
  · have i40 : ¬ (40 : Int) < (N : Int) + (M : Int) := by omega
    have hNM : N ≤ 40 ∧ M ≤ 40 := by omega
    obtain ⟨hN40, hM40⟩ := hNM
    clear hgt hNb hMb
    go_enter Try.func5, Try.ntmps5
    go_wp2_with fail
    refine (new_at (w := w) (N := 3) (n := 4) (by decide) (by decide) (by decide) (by decide) rfl rfl).mono ?_
    rintro e w1 ⟨a, rfl, F1, hi, hb⟩
    have HI : Hid (Is F1 w1 a (AM.Raw.new 3 4)) := hi
    have HB : Hid (Base w F1 w1) := hb
    clear hi hb
    go_wp2_with fail
    refine (awake_yes w1).mono ?_
    rintro e w2 ⟨rfl, hg⟩
    have HK : Hid (KI w (w2.alloc (.cells ZW 55)) a w2.heap.size F1 (List.replicate 12 (.slice none 0 0)) (AM.Raw.new 3 4) (filled 0)) := ki_start (HI.out.keep hg) (HB.out.keep hg) (by rw [HZW.out])
    clear hg HI HB
    go_wp2_with fail
    generalize w2.alloc (.cells ZW 55) = w3 at *
    generalize w2.heap.size = bw at *
    go_loopw [40] (fun ti wr => ∃ d : Nat, d ≤ 3 ∧ ti = .int .i64 (d : Int) ∧ Hid (∃ vs, KI w wr a bw F1 vs (AM.Raw.new 3 4) (filled (d * 4)))) (fun ti _ => 3 - (intOf ti).toNat)
    case atStart => exact ⟨0, by omega, rfl, _, HK.out⟩
    case round =>
      clear HK
      obtain ⟨d, hd, rfl, HX⟩ := hrel
      by_cases hd3 : d < 3
      · have i1 : (d : Int) < 3 := by omega
        go_wp2_with fail
        obtain ⟨wa, hwa⟩ : ∃ wa, wa = wr := ⟨wr, rfl⟩
        subst hwa
        go_loopw [43] (fun ti wr => ∃ k : Nat, k ≤ 4 ∧ ti = .int .i64 (k : Int) ∧ Hid (∃ vs, KI w wr a bw F1 vs (AM.Raw.new 3 4) (filled (d * 4 + k)))) (fun ti _ => 4 - (intOf ti).toNat)
        case atStart => exact ⟨0, by omega, rfl, HX⟩
        case round =>
          clear HX
          obtain ⟨k, hk, rfl, HY⟩ := hrel
          by_cases hk4 : k < 4
          · have i2 : (k : Int) < 4 := by omega
            obtain ⟨vs, hki⟩ := HY.out
            have HK : Hid (KI w wr a bw F1 vs (AM.Raw.new 3 4) (filled (d * 4 + k))) := hki
            have HJ : Hid (d * 4 + k < 12) := by show _ < _; omega
            clear hki HY
            have HG : Hid (w.grownBy wr none) := HK.out.base.grown
            go_wp2_with fail
            go_region_held3 (fun w' => w.grownBy w' none) (first | exact HG.out | exact gb_drew HG.out | exact HGF.out | exact gb_drew HGF.out | exact HGS.out _)
              ((go_at_call 29; refine (full_new (F := F1) (HK.out.is.keep (w' := _) (by first | exact World.grownBy.refl _ _ | exact gb_drew (World.grownBy.refl _ _) | exact gb_drew (gb_drew (World.grownBy.refl _ _)))).lt (x := 0) (by decide) rfl).mono ?_; rintro e w11 ⟨p11, rfl, hv, hlo, hg⟩; have HKF : Hid (KI w w11 a bw F1 vs (AM.Raw.new 3 4) (filled (d * 4 + k))) := HK.out.keep (grown_trans (by first | exact World.grownBy.refl _ _ | exact gb_drew (World.grownBy.refl _ _) | exact gb_drew (gb_drew (World.grownBy.refl _ _))) hg); have HGF : Hid (w.grownBy w11 none) := HKF.out.base.grown; have HVF : Hid (Aw F1 w11 (.slice p11 64 64) (fl 0) ∧ ∀ g, (Value.slice p11 64 64).ownBlock = some g → g ≠ bw) := ⟨hv, fun g hg e => by have h3 : bw < g := Nat.lt_of_lt_of_le HK.out.want.lt (hlo g hg); omega⟩; have HGS : Hid (∀ v, w.grownBy (w11.setCell ⟨bw, d * 4 + k, none⟩ v) none) := fun v => gb_setCell HGF.out HKF.out.lo v; obtain ⟨ov, _, co, fo, _⟩ := HKF.out.want.cell HJ.out; clear hv hlo hg))
            have HK9 : Hid (KI w (w11.setCell ⟨bw, d * 4 + k, none⟩ (.slice p11 64 64)) a bw F1 (vs.set (d * 4 + k) (.slice p11 64 64)) (AM.Raw.new 3 4) (filled (d * 4 + (k + 1)))) := by
              have := HKF.out.set HJ.out HVF.out.1 HVF.out.2
              rw [fillW_step HJ.out] at this
              exact this
            go_wp2
            go_roundw
            case rel => exact ⟨k + 1, by omega, by go_num, _, by first | exact HK9.out | exact HK9.out.keep (grown_drewN _ 1)⟩
            case measure => simp [intOf]; omega
          · have i2 : ¬ (k : Int) < 4 := by omega
            obtain rfl : k = 4 := by omega
            have HY9 : Hid (∃ vs, KI w wr a bw F1 vs (AM.Raw.new 3 4) (filled ((d + 1) * 4))) := by
              obtain ⟨vs, hk⟩ := HY.out
              exact ⟨vs, by rw [show (d + 1) * 4 = d * 4 + 4 by omega]; exact hk⟩
            clear HY
            go_wp2
            go_roundw
            case rel => exact ⟨d + 1, by omega, by go_num, HY9⟩
            case measure => simp [intOf]; omega
      · have i1 : ¬ (d : Int) < 3 := by omega
        obtain rfl : d = 3 := by omega
        have HX9 : Hid (∃ F vs R Ws, KI w wr a bw F vs R Ws ∧ K1 R 0 Ws) := by
          obtain ⟨vs, hk⟩ := HX.out
          exact ⟨F1, vs, _, _, hk, rfl, rfl, rfl, by decide, by rw [show 3 * 4 = 12 from rfl, filled_all]; exact shows_new⟩
        clear HX
        go_wp2_with fail
        obtain ⟨wb, hwb⟩ : ∃ wb, wb = wr := ⟨wr, rfl⟩
        subst hwb
        go_loopw [55] (fun ti wr => ∃ i : Nat, i ≤ N ∧ ti = .int .i64 (i : Int) ∧ Hid (∃ F vs R Ws, KI w wr a bw F vs R Ws ∧ K1 R i Ws)) (fun ti _ => N - (intOf ti).toNat)
        case atStart => exact ⟨0, by omega, rfl, HX9⟩
        case round =>
          clear HX9
          obtain ⟨i, hi, rfl, HX⟩ := hrel
          by_cases hlt : i < N
          · skip
            have i1 : (i : Int) < (N : Int) := by omega
            have hil : i < l.length := by rw [← HN.out]; exact hlt
            obtain ⟨F, vs, R, Ws, h1, h2⟩ := HX.out
            have hokw := HA.out.ok l[i] (List.getElem_mem hil)
            obtain ⟨b, off, rfl, hrg, hok⟩ := (HA.out.keep h1.base.grown).at hil
            obtain ⟨c, hce⟩ : ∃ c, c = l[i] := ⟨_, rfl⟩
            rw [← hce] at hrg hok hokw
            obtain ⟨AR, hla⟩ := laid hrg hok
            obtain ⟨WH, D, A, X, bval, bs, SH⟩ := c
            have hvb : Vec wr bval bs := hok.vec
            obtain ⟨pb, nb, mb, rfl, hnb⟩ := hvb.opened
            have HLA : Hid (Laid wr b (off + i * 6) wr.heap.size AR ⟨WH, D, A, X, .slice pb nb mb, bs, SH⟩) := hla
            have HOK : Hid (ActOk wr ⟨WH, D, A, X, .slice pb nb mb, bs, false⟩) := ⟨hok.what, hok.disk, hok.at_, hok.x, hok.vec⟩
            have HKI : Hid (KI w wr a bw F vs R Ws) := h1
            have HKK : Hid (K1 R i Ws) := h2
            have HBO : Hid (bs ≠ [] → ∀ g, (Value.slice pb nb mb).ownBlock = some g → ¬ F g) := fun hx g hg hf => by have h3 := h1.base.lo g hf; have h4 := hokw.vec.block hx hg; omega
            clear hrg hla hce hok hokw hvb hnb h1 h2 HX
            go_wp2_with (first | (refine wpList_load_act rfl _ rfl rfl HLA.out ?_) | (refine wpList_store_act rfl _ _ rfl HLA.out HZ.out rfl rfl rfl ?_; intro w9 hh hg; have HVV : Hid (Var w9 wr.heap.size ⟨WH, D, A, X, .slice pb nb mb, bs, SH⟩) := ⟨by rw [hh, HLA.out.ar]⟩; have HG9 : Hid (wr.grownBy w9 none) := hg; have c5 := HVV.out.cell.2.2.2.2.2; have f5 : w9.frozen? ⟨wr.heap.size, 5, none⟩ = false := topFrozen 5 HVV.out.heap; clear hh hg) | fail)
            have HV10 : Hid (Var (w9.setCell ⟨wr.heap.size, 5, none⟩ (.bool false)) wr.heap.size ⟨WH, D, A, X, .slice pb nb mb, bs, false⟩) := ⟨by rw [heap_setCell_same _ _ _ _ _ _ HVV.out.heap]; rfl⟩
            have HG10 : Hid (wr.grownBy (w9.setCell ⟨wr.heap.size, 5, none⟩ (.bool false)) none) := gb_setCell HG9.out (Nat.le_refl _) _
            obtain ⟨bk, hbk⟩ : ∃ bk, bk = wr.heap.size := ⟨_, rfl⟩
            have HBW : Hid (bk ≠ bw ∧ ¬ F bk) := ⟨fun e => by have := HKI.out.want.lt; omega, fun hf => by have := HKI.out.is.lt _ hf; omega⟩
            rw [← hbk] at HV10 HG10
            rw [← hbk]
            clear hbk HVV HG9 c5 f5 HLA
            generalize w9.setCell ⟨bk, 5, none⟩ (.bool false) = w10 at *
            have HK10 : Hid (KI w w10 a bw F vs R Ws) := HKI.out.keep HG10.out
            have HOK10 : Hid (ActOk w10 ⟨WH, D, A, X, .slice pb nb mb, bs, false⟩) := HOK.out.keep HG10.out
            have HCK : Hid (∀ W, w10.grownBy W none → W.cell? ⟨bk, 1, none⟩ = some (.int .i64 D) ∧ W.cell? ⟨bk, 2, none⟩ = some (.int .i64 A)) := fun W g => ⟨(HV10.out.keep g).cell.2.1, (HV10.out.keep g).cell.2.2.1⟩
            clear HKI HOK HG10
            go_region_held3 (fun w' => w'.cell? ⟨bk, 1, none⟩ = some (.int .i64 D) ∧ w'.cell? ⟨bk, 2, none⟩ = some (.int .i64 A)) (exact HCK.out _ (by first | exact World.grownBy.refl _ _ | exact gb_drew (World.grownBy.refl _ _) | exact gb_drew (gb_drew (World.grownBy.refl _ _))))
              ((first
                | (go_at_call_of 34 (Value.int IntKind.i64 D); refine (within_any _ HOK10.out.disk (n := 3) (by decide) (by decide)).mono ?_; rintro e w20 ⟨rd, hr, rfl, hw⟩; obtain rfl := hw.symm; clear hw; have HRD : Hid (rd < 3) := hr; clear hr)
                | (go_at_call_of 34 (Value.int IntKind.i64 A); refine (within_any _ HOK10.out.at_ (n := 4) (by decide) (by decide)).mono ?_; rintro e w20 ⟨rk, hr, rfl, hw⟩; obtain rfl := hw.symm; clear hw; have HRK : Hid (rk < 4) := hr; clear hr)))
            all_goals
              clear HCK
              have hg21 : w10.grownBy w10.drew none := grown_drewN _ 1
              have HV21 : Hid (Var w10.drew bk ⟨WH, D, A, X, .slice pb nb mb, bs, false⟩) := HV10.out.keep hg21
              have HK21 : Hid (KI w w10.drew a bw F vs R Ws) := HK10.out.keep hg21
              have HOK21 : Hid (ActOk w10.drew ⟨WH, D, A, X, .slice pb nb mb, bs, false⟩) := HOK10.out.keep hg21
              clear hg21 HV10 HK10 HOK10
              generalize w10.drew = w21 at *
              have HJ : Hid (rd * 4 + rk < 12) := by have h1 := HRD.out; have h2 := HRK.out; show _ < _; omega
              have hrd : (rd : Int) < 3 := by have h1 := HRD.out; omega
              have hrk : (rk : Int) < 4 := by have h2 := HRK.out; omega
              have HW : Hid (R.writes (rd : Int) (rk : Int) (secOf ⟨WH, D, A, X, .slice pb nb mb, bs, false⟩) = (0, R.fly rd rk (secOf ⟨WH, D, A, X, .slice pb nb mb, bs, false⟩))) := (HKK.out.write HRD.out HRK.out (secOf_len rfl)).1
              have HL : Hid (R.L.length ≤ 1000000) := Nat.le_trans HKK.out.len (by omega)
              obtain ⟨c0, c1, c2, c3, c4, c5⟩ := HV21.out.cell
              go_wp2_with (first
                | (go_at_call 12; refine (sector_yes (c := ⟨WH, D, A, X, .slice pb nb mb, bs, false⟩) HOK21.out rfl).mono ?_; rintro e w11 ⟨p11, n11, m11, rfl, hv, hg⟩; have HK11 : Hid (KI w w11 a bw F vs R Ws) := HK21.out.keep hg; have HV11 : Hid (Var w11 bk ⟨WH, D, A, X, .slice pb nb mb, bs, false⟩) := HV21.out.keep hg; have HOK11 : Hid (ActOk w11 ⟨WH, D, A, X, .slice pb nb mb, bs, false⟩) := HOK21.out.keep hg; have HVF : Hid (Aw F w11 (.slice p11 n11 m11) (secOf ⟨WH, D, A, X, .slice pb nb mb, bs, false⟩)) := hv.aw HK21.out.is.lt; clear hv hg HK21 HV21 HOK21)
                | (go_at_call 13; refine (write_at HK11.out.is HVF.out HL.out (c := 0) (R' := R.fly rd rk (secOf ⟨WH, D, A, X, .slice pb nb mb, bs, false⟩)) (by rw [HW.out]; rfl) (by rw [HW.out])).mono ?_; rintro e w12 ⟨rfl, F12, hi12, hs12⟩; have HK12 : Hid (KI w w12 a bw F12 vs (R.fly rd rk (secOf ⟨WH, D, A, X, .slice pb nb mb, bs, false⟩)) Ws) := HK11.out.step hi12 hs12; have HV12 : Hid (Var w12 bk ⟨WH, D, A, X, .slice pb nb mb, bs, false⟩ ∧ ¬ F12 bk) := HV11.out.step hs12 HBW.out.2; have HOK12 : Hid (ActOk w12 ⟨WH, D, A, X, .slice pb nb mb, bs, false⟩) := ⟨HOK11.out.what, HOK11.out.disk, HOK11.out.at_, HOK11.out.x, (Aw.step ⟨HOK11.out.vec, HBO.out⟩ hs12).vec⟩; clear hi12 hs12 HK11 HV11 HOK11 HVF)
                | fail)
              clear c0 c1 c2 c3 c4 c5
              have HC12 : Hid (w12.cell? ⟨bk, 0, none⟩ = some (.int .i64 WH) ∧ w12.cell? ⟨bk, 1, none⟩ = some (.int .i64 D) ∧ w12.cell? ⟨bk, 2, none⟩ = some (.int .i64 A) ∧ w12.cell? ⟨bk, 3, none⟩ = some (.int .u8 (X : Int)) ∧ w12.cell? ⟨bk, 4, none⟩ = some (.slice pb nb mb) ∧ w12.cell? ⟨bk, 5, none⟩ = some (.bool false)) := HV12.out.1.cell
              have HCK : Hid (∀ W, w12.grownBy W none → W.cell? ⟨bk, 0, none⟩ = some (.int .i64 WH) ∧ W.cell? ⟨bk, 1, none⟩ = some (.int .i64 D) ∧ W.cell? ⟨bk, 2, none⟩ = some (.int .i64 A) ∧ W.cell? ⟨bk, 3, none⟩ = some (.int .u8 (X : Int)) ∧ W.cell? ⟨bk, 4, none⟩ = some (.slice pb nb mb) ∧ W.cell? ⟨bk, 5, none⟩ = some (.bool false)) := fun W g => (HV12.out.1.keep g).cell
              have HCS : Hid (∀ (W : World) (j : Nat) (v : Value), w12.grownBy W none → (W.setCell ⟨bw, j, none⟩ v).cell? ⟨bk, 0, none⟩ = some (.int .i64 WH) ∧ (W.setCell ⟨bw, j, none⟩ v).cell? ⟨bk, 1, none⟩ = some (.int .i64 D) ∧ (W.setCell ⟨bw, j, none⟩ v).cell? ⟨bk, 2, none⟩ = some (.int .i64 A) ∧ (W.setCell ⟨bw, j, none⟩ v).cell? ⟨bk, 3, none⟩ = some (.int .u8 (X : Int)) ∧ (W.setCell ⟨bw, j, none⟩ v).cell? ⟨bk, 4, none⟩ = some (.slice pb nb mb) ∧ (W.setCell ⟨bw, j, none⟩ v).cell? ⟨bk, 5, none⟩ = some (.bool false)) := fun W j v g => by
                have h0 := HV12.out.1.keep g
                exact (show Var (W.setCell ⟨bw, j, none⟩ v) bk ⟨WH, D, A, X, .slice pb nb mb, bs, false⟩ from ⟨by rw [Below.heap_setCell _ _ _ _ HBW.out.1]; exact h0.heap⟩).cell
              go_region_held3 (fun w' => w'.cell? ⟨bk, 0, none⟩ = some (.int .i64 WH) ∧ w'.cell? ⟨bk, 1, none⟩ = some (.int .i64 D) ∧ w'.cell? ⟨bk, 2, none⟩ = some (.int .i64 A) ∧ w'.cell? ⟨bk, 3, none⟩ = some (.int .u8 (X : Int)) ∧ w'.cell? ⟨bk, 4, none⟩ = some (.slice pb nb mb) ∧ w'.cell? ⟨bk, 5, none⟩ = some (.bool false)) (first | exact HC12.out | exact HCK.out _ (by first | exact World.grownBy.refl _ _ | exact gb_drew (World.grownBy.refl _ _) | exact gb_drew (gb_drew (World.grownBy.refl _ _))) | exact HCK.out _ HGF.out | exact HCK.out _ (gb_drew HGF.out) | exact HCS.out _ _ _ HGF.out | exact HCS.out _ _ _ (gb_drew HGF.out))
                ((go_at_call 12; refine (sector_yes (c := ⟨WH, D, A, X, .slice pb nb mb, bs, false⟩) (HOK12.out.keep (by first | exact World.grownBy.refl _ _ | exact gb_drew (World.grownBy.refl _ _) | exact gb_drew (gb_drew (World.grownBy.refl _ _)))) rfl).mono ?_; rintro e w13 ⟨p13, n13, m13, rfl, hv, hg⟩; have HGF : Hid (w12.grownBy w13 none) := grown_trans (by first | exact World.grownBy.refl _ _ | exact gb_drew (World.grownBy.refl _ _) | exact gb_drew (gb_drew (World.grownBy.refl _ _))) hg; have HK13 : Hid (KI w w13 a bw F12 vs (R.fly rd rk (secOf ⟨WH, D, A, X, .slice pb nb mb, bs, false⟩)) Ws) := HK12.out.keep HGF.out; have HVF : Hid (Aw F12 w13 (.slice p13 n13 m13) (secOf ⟨WH, D, A, X, .slice pb nb mb, bs, false⟩) ∧ ∀ g, (Value.slice p13 n13 m13).ownBlock = some g → g ≠ bw) := ⟨hv.aw (HK12.out.is.keep (w' := _) (by first | exact World.grownBy.refl _ _ | exact gb_drew (World.grownBy.refl _ _) | exact gb_drew (gb_drew (World.grownBy.refl _ _)))).lt, fun g hg' e => by have h3 : bw < g := Nat.lt_of_lt_of_le HK12.out.want.lt (hv.lt hg').1; omega⟩; obtain ⟨ov, _, co, fo, _⟩ := HK13.out.want.cell HJ.out; clear hv hg))
              have HK9 : Hid (KI w (w13.setCell ⟨bw, rd * 4 + rk, none⟩ (.slice p13 n13 m13)) a bw F12 (vs.set (rd * 4 + rk) (.slice p13 n13 m13)) (R.fly rd rk (secOf ⟨WH, D, A, X, .slice pb nb mb, bs, false⟩)) (Ws.set (rd * 4 + rk) (secOf ⟨WH, D, A, X, .slice pb nb mb, bs, false⟩))) := HK13.out.set HJ.out HVF.out.1 HVF.out.2
              go_wp2
              go_roundw
              case rel => exact ⟨i + 1, by omega, by go_num, F12, _, _, _, by first | exact HK9.out | exact HK9.out.keep (grown_drewN _ 1), (HKK.out.write HRD.out HRK.out (secOf_len rfl)).2⟩
              case measure => simp [intOf]; omega
          · have i1 : ¬ (i : Int) < (N : Int) := by omega
            obtain ⟨F, vs, R, Ws, h1, h2⟩ := HX.out
            have HKI : Hid (KI w wr a bw F vs R Ws) := h1
            have HBR : Hid (R.barrier = (0, { R with L := [] }) ∧ K2 { R with L := [] } 0 ps Ws) := h2.barrier ps
            clear h1 h2 HX
            go_wp2_with fail
            refine (barrier_at HKI.out.is (c := 0) (R' := { R with L := [] }) (by rw [HBR.out.1]; rfl) (by rw [HBR.out.1])).mono ?_
            rintro e w30 ⟨rfl, F30, hi30, hs30⟩
            have HX10 : Hid (∃ F vs R Ws, KI w w30 a bw F vs R Ws ∧ K2 R 0 ps Ws) := ⟨F30, vs, _, Ws, HKI.out.step hi30 hs30, HBR.out.2⟩
            clear hi30 hs30 HKI HBR
            clear R Ws vs F F30
            go_wp2_with fail
            obtain ⟨wc, hwc⟩ : ∃ wc, wc = wr := ⟨wr, rfl⟩
            subst hwc
            clear hi i1 hlt
            go_loopw [85] (fun ti wr => ∃ i : Nat, i ≤ M ∧ ti = .int .i64 (i : Int) ∧ Hid (∃ F vs R Ws, KI w wr a bw F vs R Ws ∧ K2 R i ps Ws)) (fun ti _ => M - (intOf ti).toNat)
            case atStart => exact ⟨0, by omega, rfl, HX10⟩
            case round =>
              clear HX10
              obtain ⟨i, hi, rfl, HX⟩ := hrel
              by_cases hlt : i < M
              · skip
                have i1 : (i : Int) < (M : Int) := by omega
                have hil : i < m.length := by rw [← HNM.out]; exact hlt
                obtain ⟨F, vs, R, Ws, h1, h2⟩ := HX.out
                have hokw := HM.out.ok m[i] (List.getElem_mem hil)
                obtain ⟨b, off, rfl, hrg, hok⟩ := (HM.out.keep h1.base.grown).at hil
                obtain ⟨c, hce⟩ : ∃ c, c = m[i] := ⟨_, rfl⟩
                rw [← hce] at hrg hok hokw
                obtain ⟨AR, hla⟩ := laid hrg hok
                obtain ⟨WH, D, A, X, bval, bs, SH⟩ := c
                have hvb : Vec wr bval bs := hok.vec
                obtain ⟨pb, nb, mb, rfl, hnb⟩ := hvb.opened
                have HLA : Hid (Laid wr b (off + i * 6) wr.heap.size AR ⟨WH, D, A, X, .slice pb nb mb, bs, SH⟩) := hla
                have HOK : Hid (ActOk wr ⟨WH, D, A, X, .slice pb nb mb, bs, false⟩) := ⟨hok.what, hok.disk, hok.at_, hok.x, hok.vec⟩
                have HKI : Hid (KI w wr a bw F vs R Ws) := h1
                have HKK : Hid (K2 R i ps Ws) := h2
                have HBO : Hid (bs ≠ [] → ∀ g, (Value.slice pb nb mb).ownBlock = some g → ¬ F g) := fun hx g hg hf => by have h3 := h1.base.lo g hf; have h4 := hokw.vec.block hx hg; omega
                clear hrg hla hce hok hokw hvb hnb h1 h2 HX
                by_cases hip : i < ps.length
                · skip
                  obtain ⟨b2, off2, rfl, cp, hp256⟩ := HP.out.spot (k := i) hip
                  obtain ⟨y, hy⟩ : ∃ y, y = ps.getD i 0 := ⟨_, rfl⟩
                  rw [← hy] at cp hp256
                  have HCP : Hid (∀ W : World, w.grownBy W none → W.cell? ⟨b2, off2 + i, none⟩ = some (.int .u8 (y : Int))) := fun W g => g.cell cp (by simp)
                  have i3 : (i : Int) < (nu : Int) := by have := HNU.out; omega
                  by_cases ho : y % 2 = 1
                  · have o1 : (y : Int) % 2 = 1 := by omega
                    have HODD : Hid (i < ps.length ∧ ps.getD i 0 % 2 = 1) := ⟨hip, by rw [← hy]; exact ho⟩
                    clear cp hy hip ho
                    go_wp2_with (first | (refine wpList_load_act rfl _ rfl rfl HLA.out ?_) | (refine wpList_store_act rfl _ _ rfl HLA.out HZ.out rfl rfl rfl ?_; intro w9 hh hg; have HVV : Hid (Var w9 wr.heap.size ⟨WH, D, A, X, .slice pb nb mb, bs, SH⟩) := ⟨by rw [hh, HLA.out.ar]⟩; have HG9 : Hid (wr.grownBy w9 none) := hg; have c5 := HVV.out.cell.2.2.2.2.2; have f5 : w9.frozen? ⟨wr.heap.size, 5, none⟩ = false := topFrozen 5 HVV.out.heap; clear hh hg) | fail)
                    have HV10 : Hid (Var (w9.setCell ⟨wr.heap.size, 5, none⟩ (.bool false)) wr.heap.size ⟨WH, D, A, X, .slice pb nb mb, bs, false⟩) := ⟨by rw [heap_setCell_same _ _ _ _ _ _ HVV.out.heap]; rfl⟩
                    have HG10 : Hid (wr.grownBy (w9.setCell ⟨wr.heap.size, 5, none⟩ (.bool false)) none) := gb_setCell HG9.out (Nat.le_refl _) _
                    obtain ⟨bk, hbk⟩ : ∃ bk, bk = wr.heap.size := ⟨_, rfl⟩
                    have HBW : Hid (bk ≠ bw ∧ ¬ F bk) := ⟨fun e => by have := HKI.out.want.lt; omega, fun hf => by have := HKI.out.is.lt _ hf; omega⟩
                    rw [← hbk] at HV10 HG10
                    rw [← hbk]
                    clear hbk HVV HG9 c5 f5 HLA
                    generalize w9.setCell ⟨bk, 5, none⟩ (.bool false) = w10 at *
                    have HK10 : Hid (KI w w10 a bw F vs R Ws) := HKI.out.keep HG10.out
                    have HOK10 : Hid (ActOk w10 ⟨WH, D, A, X, .slice pb nb mb, bs, false⟩) := HOK.out.keep HG10.out
                    have HCK : Hid (∀ W, w10.grownBy W none → W.cell? ⟨bk, 1, none⟩ = some (.int .i64 D) ∧ W.cell? ⟨bk, 2, none⟩ = some (.int .i64 A)) := fun W g => ⟨(HV10.out.keep g).cell.2.1, (HV10.out.keep g).cell.2.2.1⟩
                    clear HKI HOK HG10
                    go_region_held3 (fun w' => w'.cell? ⟨bk, 1, none⟩ = some (.int .i64 D) ∧ w'.cell? ⟨bk, 2, none⟩ = some (.int .i64 A)) (exact HCK.out _ (by first | exact World.grownBy.refl _ _ | exact gb_drew (World.grownBy.refl _ _) | exact gb_drew (gb_drew (World.grownBy.refl _ _))))
                      ((first
                        | (go_at_call_of 34 (Value.int IntKind.i64 D); refine (within_any _ HOK10.out.disk (n := 3) (by decide) (by decide)).mono ?_; rintro e w20 ⟨rd, hr, rfl, hw⟩; obtain rfl := hw.symm; clear hw; have HRD : Hid (rd < 3) := hr; clear hr)
                        | (go_at_call_of 34 (Value.int IntKind.i64 A); refine (within_any _ HOK10.out.at_ (n := 4) (by decide) (by decide)).mono ?_; rintro e w20 ⟨rk, hr, rfl, hw⟩; obtain rfl := hw.symm; clear hw; have HRK : Hid (rk < 4) := hr; clear hr)))
                    all_goals
                      clear HCK
                      have hg21 : w10.grownBy w10.drew none := grown_drewN _ 1
                      have HV21 : Hid (Var w10.drew bk ⟨WH, D, A, X, .slice pb nb mb, bs, false⟩) := HV10.out.keep hg21
                      have HK21 : Hid (KI w w10.drew a bw F vs R Ws) := HK10.out.keep hg21
                      have HOK21 : Hid (ActOk w10.drew ⟨WH, D, A, X, .slice pb nb mb, bs, false⟩) := HOK10.out.keep hg21
                      clear hg21 HV10 HK10 HOK10
                      generalize w10.drew = w21 at *
                      have HJ : Hid (rd * 4 + rk < 12) := by have h1 := HRD.out; have h2 := HRK.out; show _ < _; omega
                      have hrd : (rd : Int) < 3 := by have h1 := HRD.out; omega
                      have hrk : (rk : Int) < 4 := by have h2 := HRK.out; omega
                      have HW : Hid (R.writes (rd : Int) (rk : Int) (secOf ⟨WH, D, A, X, .slice pb nb mb, bs, false⟩) = (0, R.fly rd rk (secOf ⟨WH, D, A, X, .slice pb nb mb, bs, false⟩))) := (HKK.out.write HRD.out HRK.out (secOf_len rfl)).1
                      have HL : Hid (R.L.length ≤ 1000000) := by have := HKK.out.len; show _ ≤ _; omega
                      obtain ⟨c0, c1, c2, c3, c4, c5⟩ := HV21.out.cell
                      go_wp2_with (first
                        | (go_at_call 12; refine (sector_yes (c := ⟨WH, D, A, X, .slice pb nb mb, bs, false⟩) HOK21.out rfl).mono ?_; rintro e w11 ⟨p11, n11, m11, rfl, hv, hg⟩; have HK11 : Hid (KI w w11 a bw F vs R Ws) := HK21.out.keep hg; have HV11 : Hid (Var w11 bk ⟨WH, D, A, X, .slice pb nb mb, bs, false⟩) := HV21.out.keep hg; have HOK11 : Hid (ActOk w11 ⟨WH, D, A, X, .slice pb nb mb, bs, false⟩) := HOK21.out.keep hg; have HVF : Hid (Aw F w11 (.slice p11 n11 m11) (secOf ⟨WH, D, A, X, .slice pb nb mb, bs, false⟩)) := hv.aw HK21.out.is.lt; clear hv hg HK21 HV21 HOK21)
                        | (go_at_call 13; refine (write_at HK11.out.is HVF.out HL.out (c := 0) (R' := R.fly rd rk (secOf ⟨WH, D, A, X, .slice pb nb mb, bs, false⟩)) (by rw [HW.out]; rfl) (by rw [HW.out])).mono ?_; rintro e w12 ⟨rfl, F12, hi12, hs12⟩; have HK12 : Hid (KI w w12 a bw F12 vs (R.fly rd rk (secOf ⟨WH, D, A, X, .slice pb nb mb, bs, false⟩)) Ws) := HK11.out.step hi12 hs12; have HV12 : Hid (Var w12 bk ⟨WH, D, A, X, .slice pb nb mb, bs, false⟩ ∧ ¬ F12 bk) := HV11.out.step hs12 HBW.out.2; have HOK12 : Hid (ActOk w12 ⟨WH, D, A, X, .slice pb nb mb, bs, false⟩) := ⟨HOK11.out.what, HOK11.out.disk, HOK11.out.at_, HOK11.out.x, (Aw.step ⟨HOK11.out.vec, HBO.out⟩ hs12).vec⟩; have cpk := HCP.out _ HK12.out.base.grown; clear hi12 hs12 HK11 HV11 HOK11 HVF)
                        | fail)
                      clear c0 c1 c2 c3 c4 c5
                      have HC12 : Hid (w12.cell? ⟨bk, 0, none⟩ = some (.int .i64 WH) ∧ w12.cell? ⟨bk, 1, none⟩ = some (.int .i64 D) ∧ w12.cell? ⟨bk, 2, none⟩ = some (.int .i64 A) ∧ w12.cell? ⟨bk, 3, none⟩ = some (.int .u8 (X : Int)) ∧ w12.cell? ⟨bk, 4, none⟩ = some (.slice pb nb mb) ∧ w12.cell? ⟨bk, 5, none⟩ = some (.bool false)) := HV12.out.1.cell
                      have HCK : Hid (∀ W, w12.grownBy W none → W.cell? ⟨bk, 0, none⟩ = some (.int .i64 WH) ∧ W.cell? ⟨bk, 1, none⟩ = some (.int .i64 D) ∧ W.cell? ⟨bk, 2, none⟩ = some (.int .i64 A) ∧ W.cell? ⟨bk, 3, none⟩ = some (.int .u8 (X : Int)) ∧ W.cell? ⟨bk, 4, none⟩ = some (.slice pb nb mb) ∧ W.cell? ⟨bk, 5, none⟩ = some (.bool false)) := fun W g => (HV12.out.1.keep g).cell
                      have HCS : Hid (∀ (W : World) (j : Nat) (v : Value), w12.grownBy W none → (W.setCell ⟨bw, j, none⟩ v).cell? ⟨bk, 0, none⟩ = some (.int .i64 WH) ∧ (W.setCell ⟨bw, j, none⟩ v).cell? ⟨bk, 1, none⟩ = some (.int .i64 D) ∧ (W.setCell ⟨bw, j, none⟩ v).cell? ⟨bk, 2, none⟩ = some (.int .i64 A) ∧ (W.setCell ⟨bw, j, none⟩ v).cell? ⟨bk, 3, none⟩ = some (.int .u8 (X : Int)) ∧ (W.setCell ⟨bw, j, none⟩ v).cell? ⟨bk, 4, none⟩ = some (.slice pb nb mb) ∧ (W.setCell ⟨bw, j, none⟩ v).cell? ⟨bk, 5, none⟩ = some (.bool false)) := fun W j v g => by
                        have h0 := HV12.out.1.keep g
                        exact (show Var (W.setCell ⟨bw, j, none⟩ v) bk ⟨WH, D, A, X, .slice pb nb mb, bs, false⟩ from ⟨by rw [Below.heap_setCell _ _ _ _ HBW.out.1]; exact h0.heap⟩).cell
                      go_region_held3 (fun w' => w'.cell? ⟨bk, 0, none⟩ = some (.int .i64 WH) ∧ w'.cell? ⟨bk, 1, none⟩ = some (.int .i64 D) ∧ w'.cell? ⟨bk, 2, none⟩ = some (.int .i64 A) ∧ w'.cell? ⟨bk, 3, none⟩ = some (.int .u8 (X : Int)) ∧ w'.cell? ⟨bk, 4, none⟩ = some (.slice pb nb mb) ∧ w'.cell? ⟨bk, 5, none⟩ = some (.bool false)) (first | exact HC12.out | exact HCK.out _ (by first | exact World.grownBy.refl _ _ | exact gb_drew (World.grownBy.refl _ _) | exact gb_drew (gb_drew (World.grownBy.refl _ _))) | exact HCK.out _ HGF.out | exact HCK.out _ (gb_drew HGF.out) | exact HCS.out _ _ _ HGF.out | exact HCS.out _ _ _ (gb_drew HGF.out))
                        ((go_at_call 12; refine (sector_yes (c := ⟨WH, D, A, X, .slice pb nb mb, bs, false⟩) (HOK12.out.keep (by first | exact World.grownBy.refl _ _ | exact gb_drew (World.grownBy.refl _ _) | exact gb_drew (gb_drew (World.grownBy.refl _ _)))) rfl).mono ?_; rintro e w13 ⟨p13, n13, m13, rfl, hv, hg⟩; have HGF : Hid (w12.grownBy w13 none) := grown_trans (by first | exact World.grownBy.refl _ _ | exact gb_drew (World.grownBy.refl _ _) | exact gb_drew (gb_drew (World.grownBy.refl _ _))) hg; have HK13 : Hid (KI w w13 a bw F12 vs (R.fly rd rk (secOf ⟨WH, D, A, X, .slice pb nb mb, bs, false⟩)) Ws) := HK12.out.keep HGF.out; have HVF : Hid (Aw F12 w13 (.slice p13 n13 m13) (secOf ⟨WH, D, A, X, .slice pb nb mb, bs, false⟩) ∧ ∀ g, (Value.slice p13 n13 m13).ownBlock = some g → g ≠ bw) := ⟨hv.aw (HK12.out.is.keep (w' := _) (by first | exact World.grownBy.refl _ _ | exact gb_drew (World.grownBy.refl _ _) | exact gb_drew (gb_drew (World.grownBy.refl _ _)))).lt, fun g hg' e => by have h3 : bw < g := Nat.lt_of_lt_of_le HK12.out.want.lt (hv.lt hg').1; omega⟩; obtain ⟨ov, _, co, fo, _⟩ := HK13.out.want.cell HJ.out; clear hv hg))
                      have HK9 : Hid (KI w (w13.setCell ⟨bw, rd * 4 + rk, none⟩ (.slice p13 n13 m13)) a bw F12 (vs.set (rd * 4 + rk) (.slice p13 n13 m13)) (R.fly rd rk (secOf ⟨WH, D, A, X, .slice pb nb mb, bs, false⟩)) (Ws.set (rd * 4 + rk) (secOf ⟨WH, D, A, X, .slice pb nb mb, bs, false⟩))) := HK13.out.set HJ.out HVF.out.1 HVF.out.2
                      go_wp2
                      go_roundw
                      case rel => exact ⟨i + 1, by omega, by go_num, F12, _, _, _, by first | exact HK9.out | exact HK9.out.keep (grown_drewN _ 1), (HKK.out.write HRD.out HRK.out (secOf_len rfl)).2.1 HODD.out⟩
                      case measure => simp [intOf]; omega
                  · have o1 : (y : Int) % 2 = 0 := by omega
                    have HODD : Hid (¬ (i < ps.length ∧ ps.getD i 0 % 2 = 1)) := fun h => ho (by rw [hy]; exact h.2)
                    clear cp hy hip ho
                    go_wp2_with (first | (refine wpList_load_act rfl _ rfl rfl HLA.out ?_) | (refine wpList_store_act rfl _ _ rfl HLA.out HZ.out rfl rfl rfl ?_; intro w9 hh hg; have HVV : Hid (Var w9 wr.heap.size ⟨WH, D, A, X, .slice pb nb mb, bs, SH⟩) := ⟨by rw [hh, HLA.out.ar]⟩; have HG9 : Hid (wr.grownBy w9 none) := hg; have c5 := HVV.out.cell.2.2.2.2.2; have f5 : w9.frozen? ⟨wr.heap.size, 5, none⟩ = false := topFrozen 5 HVV.out.heap; clear hh hg) | fail)
                    have HV10 : Hid (Var (w9.setCell ⟨wr.heap.size, 5, none⟩ (.bool false)) wr.heap.size ⟨WH, D, A, X, .slice pb nb mb, bs, false⟩) := ⟨by rw [heap_setCell_same _ _ _ _ _ _ HVV.out.heap]; rfl⟩
                    have HG10 : Hid (wr.grownBy (w9.setCell ⟨wr.heap.size, 5, none⟩ (.bool false)) none) := gb_setCell HG9.out (Nat.le_refl _) _
                    obtain ⟨bk, hbk⟩ : ∃ bk, bk = wr.heap.size := ⟨_, rfl⟩
                    have HBW : Hid (bk ≠ bw ∧ ¬ F bk) := ⟨fun e => by have := HKI.out.want.lt; omega, fun hf => by have := HKI.out.is.lt _ hf; omega⟩
                    rw [← hbk] at HV10 HG10
                    rw [← hbk]
                    clear hbk HVV HG9 c5 f5 HLA
                    generalize w9.setCell ⟨bk, 5, none⟩ (.bool false) = w10 at *
                    have HK10 : Hid (KI w w10 a bw F vs R Ws) := HKI.out.keep HG10.out
                    have HOK10 : Hid (ActOk w10 ⟨WH, D, A, X, .slice pb nb mb, bs, false⟩) := HOK.out.keep HG10.out
                    have HCK : Hid (∀ W, w10.grownBy W none → W.cell? ⟨bk, 1, none⟩ = some (.int .i64 D) ∧ W.cell? ⟨bk, 2, none⟩ = some (.int .i64 A)) := fun W g => ⟨(HV10.out.keep g).cell.2.1, (HV10.out.keep g).cell.2.2.1⟩
                    clear HKI HOK HG10
                    go_region_held3 (fun w' => w'.cell? ⟨bk, 1, none⟩ = some (.int .i64 D) ∧ w'.cell? ⟨bk, 2, none⟩ = some (.int .i64 A)) (exact HCK.out _ (by first | exact World.grownBy.refl _ _ | exact gb_drew (World.grownBy.refl _ _) | exact gb_drew (gb_drew (World.grownBy.refl _ _))))
                      ((first
                        | (go_at_call_of 34 (Value.int IntKind.i64 D); refine (within_any _ HOK10.out.disk (n := 3) (by decide) (by decide)).mono ?_; rintro e w20 ⟨rd, hr, rfl, hw⟩; obtain rfl := hw.symm; clear hw; have HRD : Hid (rd < 3) := hr; clear hr)
                        | (go_at_call_of 34 (Value.int IntKind.i64 A); refine (within_any _ HOK10.out.at_ (n := 4) (by decide) (by decide)).mono ?_; rintro e w20 ⟨rk, hr, rfl, hw⟩; obtain rfl := hw.symm; clear hw; have HRK : Hid (rk < 4) := hr; clear hr)))
                    all_goals
                      clear HCK
                      have hg21 : w10.grownBy w10.drew none := grown_drewN _ 1
                      have HV21 : Hid (Var w10.drew bk ⟨WH, D, A, X, .slice pb nb mb, bs, false⟩) := HV10.out.keep hg21
                      have HK21 : Hid (KI w w10.drew a bw F vs R Ws) := HK10.out.keep hg21
                      have HOK21 : Hid (ActOk w10.drew ⟨WH, D, A, X, .slice pb nb mb, bs, false⟩) := HOK10.out.keep hg21
                      clear hg21 HV10 HK10 HOK10
                      generalize w10.drew = w21 at *
                      have HJ : Hid (rd * 4 + rk < 12) := by have h1 := HRD.out; have h2 := HRK.out; show _ < _; omega
                      have hrd : (rd : Int) < 3 := by have h1 := HRD.out; omega
                      have hrk : (rk : Int) < 4 := by have h2 := HRK.out; omega
                      have HW : Hid (R.writes (rd : Int) (rk : Int) (secOf ⟨WH, D, A, X, .slice pb nb mb, bs, false⟩) = (0, R.fly rd rk (secOf ⟨WH, D, A, X, .slice pb nb mb, bs, false⟩))) := (HKK.out.write HRD.out HRK.out (secOf_len rfl)).1
                      have HL : Hid (R.L.length ≤ 1000000) := by have := HKK.out.len; show _ ≤ _; omega
                      obtain ⟨c0, c1, c2, c3, c4, c5⟩ := HV21.out.cell
                      go_wp2_with (first
                        | (go_at_call 12; refine (sector_yes (c := ⟨WH, D, A, X, .slice pb nb mb, bs, false⟩) HOK21.out rfl).mono ?_; rintro e w11 ⟨p11, n11, m11, rfl, hv, hg⟩; have HK11 : Hid (KI w w11 a bw F vs R Ws) := HK21.out.keep hg; have HV11 : Hid (Var w11 bk ⟨WH, D, A, X, .slice pb nb mb, bs, false⟩) := HV21.out.keep hg; have HOK11 : Hid (ActOk w11 ⟨WH, D, A, X, .slice pb nb mb, bs, false⟩) := HOK21.out.keep hg; have HVF : Hid (Aw F w11 (.slice p11 n11 m11) (secOf ⟨WH, D, A, X, .slice pb nb mb, bs, false⟩)) := hv.aw HK21.out.is.lt; clear hv hg HK21 HV21 HOK21)
                        | (go_at_call 13; refine (write_at HK11.out.is HVF.out HL.out (c := 0) (R' := R.fly rd rk (secOf ⟨WH, D, A, X, .slice pb nb mb, bs, false⟩)) (by rw [HW.out]; rfl) (by rw [HW.out])).mono ?_; rintro e w12 ⟨rfl, F12, hi12, hs12⟩; have HK12 : Hid (KI w w12 a bw F12 vs (R.fly rd rk (secOf ⟨WH, D, A, X, .slice pb nb mb, bs, false⟩)) Ws) := HK11.out.step hi12 hs12; have HV12 : Hid (Var w12 bk ⟨WH, D, A, X, .slice pb nb mb, bs, false⟩ ∧ ¬ F12 bk) := HV11.out.step hs12 HBW.out.2; have HOK12 : Hid (ActOk w12 ⟨WH, D, A, X, .slice pb nb mb, bs, false⟩) := ⟨HOK11.out.what, HOK11.out.disk, HOK11.out.at_, HOK11.out.x, (Aw.step ⟨HOK11.out.vec, HBO.out⟩ hs12).vec⟩; have cpk := HCP.out _ HK12.out.base.grown; clear hi12 hs12 HK11 HV11 HOK11 HVF)
                        | fail)
                      clear c0 c1 c2 c3 c4 c5
                      (try go_wp2)
                      go_roundw
                      case rel => exact ⟨i + 1, by omega, by go_num, F12, _, _, _, HK12.out, (HKK.out.write HRD.out HRK.out (secOf_len rfl)).2.2 HODD.out⟩
                      case measure => simp [intOf]; omega
                · have i3 : ¬ (i : Int) < (nu : Int) := by have := HNU.out; omega
                  have HODD : Hid (¬ (i < ps.length ∧ ps.getD i 0 % 2 = 1)) := fun h => hip h.1
                  clear hip
                  go_wp2_with (first | (refine wpList_load_act rfl _ rfl rfl HLA.out ?_) | (refine wpList_store_act rfl _ _ rfl HLA.out HZ.out rfl rfl rfl ?_; intro w9 hh hg; have HVV : Hid (Var w9 wr.heap.size ⟨WH, D, A, X, .slice pb nb mb, bs, SH⟩) := ⟨by rw [hh, HLA.out.ar]⟩; have HG9 : Hid (wr.grownBy w9 none) := hg; have c5 := HVV.out.cell.2.2.2.2.2; have f5 : w9.frozen? ⟨wr.heap.size, 5, none⟩ = false := topFrozen 5 HVV.out.heap; clear hh hg) | fail)
                  have HV10 : Hid (Var (w9.setCell ⟨wr.heap.size, 5, none⟩ (.bool false)) wr.heap.size ⟨WH, D, A, X, .slice pb nb mb, bs, false⟩) := ⟨by rw [heap_setCell_same _ _ _ _ _ _ HVV.out.heap]; rfl⟩
                  have HG10 : Hid (wr.grownBy (w9.setCell ⟨wr.heap.size, 5, none⟩ (.bool false)) none) := gb_setCell HG9.out (Nat.le_refl _) _
                  obtain ⟨bk, hbk⟩ : ∃ bk, bk = wr.heap.size := ⟨_, rfl⟩
                  have HBW : Hid (bk ≠ bw ∧ ¬ F bk) := ⟨fun e => by have := HKI.out.want.lt; omega, fun hf => by have := HKI.out.is.lt _ hf; omega⟩
                  rw [← hbk] at HV10 HG10
                  rw [← hbk]
                  clear hbk HVV HG9 c5 f5 HLA
                  generalize w9.setCell ⟨bk, 5, none⟩ (.bool false) = w10 at *
                  have HK10 : Hid (KI w w10 a bw F vs R Ws) := HKI.out.keep HG10.out
                  have HOK10 : Hid (ActOk w10 ⟨WH, D, A, X, .slice pb nb mb, bs, false⟩) := HOK.out.keep HG10.out
                  have HCK : Hid (∀ W, w10.grownBy W none → W.cell? ⟨bk, 1, none⟩ = some (.int .i64 D) ∧ W.cell? ⟨bk, 2, none⟩ = some (.int .i64 A)) := fun W g => ⟨(HV10.out.keep g).cell.2.1, (HV10.out.keep g).cell.2.2.1⟩
                  clear HKI HOK HG10
                  go_region_held3 (fun w' => w'.cell? ⟨bk, 1, none⟩ = some (.int .i64 D) ∧ w'.cell? ⟨bk, 2, none⟩ = some (.int .i64 A)) (exact HCK.out _ (by first | exact World.grownBy.refl _ _ | exact gb_drew (World.grownBy.refl _ _) | exact gb_drew (gb_drew (World.grownBy.refl _ _))))
                    ((first
                      | (go_at_call_of 34 (Value.int IntKind.i64 D); refine (within_any _ HOK10.out.disk (n := 3) (by decide) (by decide)).mono ?_; rintro e w20 ⟨rd, hr, rfl, hw⟩; obtain rfl := hw.symm; clear hw; have HRD : Hid (rd < 3) := hr; clear hr)
                      | (go_at_call_of 34 (Value.int IntKind.i64 A); refine (within_any _ HOK10.out.at_ (n := 4) (by decide) (by decide)).mono ?_; rintro e w20 ⟨rk, hr, rfl, hw⟩; obtain rfl := hw.symm; clear hw; have HRK : Hid (rk < 4) := hr; clear hr)))
                  all_goals
                    clear HCK
                    have hg21 : w10.grownBy w10.drew none := grown_drewN _ 1
                    have HV21 : Hid (Var w10.drew bk ⟨WH, D, A, X, .slice pb nb mb, bs, false⟩) := HV10.out.keep hg21
                    have HK21 : Hid (KI w w10.drew a bw F vs R Ws) := HK10.out.keep hg21
                    have HOK21 : Hid (ActOk w10.drew ⟨WH, D, A, X, .slice pb nb mb, bs, false⟩) := HOK10.out.keep hg21
                    clear hg21 HV10 HK10 HOK10
                    generalize w10.drew = w21 at *
                    have HJ : Hid (rd * 4 + rk < 12) := by have h1 := HRD.out; have h2 := HRK.out; show _ < _; omega
                    have hrd : (rd : Int) < 3 := by have h1 := HRD.out; omega
                    have hrk : (rk : Int) < 4 := by have h2 := HRK.out; omega
                    have HW : Hid (R.writes (rd : Int) (rk : Int) (secOf ⟨WH, D, A, X, .slice pb nb mb, bs, false⟩) = (0, R.fly rd rk (secOf ⟨WH, D, A, X, .slice pb nb mb, bs, false⟩))) := (HKK.out.write HRD.out HRK.out (secOf_len rfl)).1
                    have HL : Hid (R.L.length ≤ 1000000) := by have := HKK.out.len; show _ ≤ _; omega
                    obtain ⟨c0, c1, c2, c3, c4, c5⟩ := HV21.out.cell
                    go_wp2_with (first
                      | (go_at_call 12; refine (sector_yes (c := ⟨WH, D, A, X, .slice pb nb mb, bs, false⟩) HOK21.out rfl).mono ?_; rintro e w11 ⟨p11, n11, m11, rfl, hv, hg⟩; have HK11 : Hid (KI w w11 a bw F vs R Ws) := HK21.out.keep hg; have HV11 : Hid (Var w11 bk ⟨WH, D, A, X, .slice pb nb mb, bs, false⟩) := HV21.out.keep hg; have HOK11 : Hid (ActOk w11 ⟨WH, D, A, X, .slice pb nb mb, bs, false⟩) := HOK21.out.keep hg; have HVF : Hid (Aw F w11 (.slice p11 n11 m11) (secOf ⟨WH, D, A, X, .slice pb nb mb, bs, false⟩)) := hv.aw HK21.out.is.lt; clear hv hg HK21 HV21 HOK21)
                      | (go_at_call 13; refine (write_at HK11.out.is HVF.out HL.out (c := 0) (R' := R.fly rd rk (secOf ⟨WH, D, A, X, .slice pb nb mb, bs, false⟩)) (by rw [HW.out]; rfl) (by rw [HW.out])).mono ?_; rintro e w12 ⟨rfl, F12, hi12, hs12⟩; have HK12 : Hid (KI w w12 a bw F12 vs (R.fly rd rk (secOf ⟨WH, D, A, X, .slice pb nb mb, bs, false⟩)) Ws) := HK11.out.step hi12 hs12; have HV12 : Hid (Var w12 bk ⟨WH, D, A, X, .slice pb nb mb, bs, false⟩ ∧ ¬ F12 bk) := HV11.out.step hs12 HBW.out.2; have HOK12 : Hid (ActOk w12 ⟨WH, D, A, X, .slice pb nb mb, bs, false⟩) := ⟨HOK11.out.what, HOK11.out.disk, HOK11.out.at_, HOK11.out.x, (Aw.step ⟨HOK11.out.vec, HBO.out⟩ hs12).vec⟩; clear hi12 hs12 HK11 HV11 HOK11 HVF)
                      | fail)
                    clear c0 c1 c2 c3 c4 c5
                    (try go_wp2)
                    go_roundw
                    case rel => exact ⟨i + 1, by omega, by go_num, F12, _, _, _, HK12.out, (HKK.out.write HRD.out HRK.out (secOf_len rfl)).2.2 HODD.out⟩
                    case measure => simp [intOf]; omega
              · have i1 : ¬ (i : Int) < (M : Int) := by omega
                obtain ⟨F, vs, R, Ws, h1, h2⟩ := HX.out
                have HKI : Hid (KI w wr a bw F vs R Ws) := h1
                have HKK : Hid (K2 R i ps Ws) := h2
                have HL : Hid (R.L.length ≤ 1000000) := by have := h2.len; show _ ≤ _; omega
                clear h1 h2 HX
                go_wp2_with fail
                refine (crash_at HKI.out.is HL.out (HKI.out.base.aw HP.out) (R' := R.crash ps) rfl).mono ?_
                rintro e w40 ⟨rfl, F40, hi40, hs40⟩
                have HK40 : Hid (KI w w40 a bw F40 vs (R.crash ps) Ws) := HKI.out.step hi40 hs40
                have HRD : Hid (∀ d k : Nat, d < 3 → k < 4 → ((R.crash ps).reach (d : Int) (k : Int) : Int) = 0 ∧ (R.crash ps).read (d : Int) (k : Int) = Ws.getD (d * 4 + k) []) := fun d k hd hk => HKK.out.crash hd hk
                have HFO : Hid ((((R.crash ps).L.length : Nat) : Int) = 0 ∧ (R.crash ps).off = false) := ⟨rfl, rfl⟩
                clear hi40 hs40 HKI HKK HL
                generalize R.crash ps = R9 at *
                go_wp2_with fail
                obtain ⟨wd, hwd⟩ : ∃ wd, wd = wr := ⟨wr, rfl⟩
                subst hwd
                clear hi i1 hlt
                go_loopw [126] (fun ti wr => ∃ d : Nat, d ≤ 3 ∧ ti = .int .i64 (d : Int) ∧ Hid (KI w wr a bw F40 vs R9 Ws)) (fun ti _ => 3 - (intOf ti).toNat)
                case atStart => exact ⟨0, by omega, rfl, HK40⟩
                case round =>
                  clear HK40
                  obtain ⟨d, hd, rfl, HX⟩ := hrel
                  by_cases hd3 : d < 3
                  · have i1 : (d : Int) < 3 := by omega
                    go_wp2_with fail
                    obtain ⟨we, hwe⟩ : ∃ we, we = wr := ⟨wr, rfl⟩
                    subst hwe
                    go_loopw [129] (fun ti wr => ∃ k : Nat, k ≤ 4 ∧ ti = .int .i64 (k : Int) ∧ Hid (KI w wr a bw F40 vs R9 Ws)) (fun ti _ => 4 - (intOf ti).toNat)
                    case atStart => exact ⟨0, by omega, rfl, HX⟩
                    case round =>
                      clear HX
                      obtain ⟨k, hk, rfl, HY⟩ := hrel
                      by_cases hk4 : k < 4
                      · have i2 : (k : Int) < 4 := by omega
                        have HQ : Hid ((R9.reach (d : Int) (k : Int) : Int) = 0 ∧ R9.read (d : Int) (k : Int) = Ws.getD (d * 4 + k) []) := HRD.out d k hd3 hk4
                        have HJ : Hid (d * 4 + k < 12) := by show _ < _; omega
                        go_wp2_with fail
                        refine (read_at HY.out.is (c := 0) HQ.out.1 HQ.out.2).mono ?_
                        rintro e w41 ⟨p41, n41, m41, rfl, hv, hg⟩
                        have HK41 : Hid (KI w w41 a bw F40 vs R9 Ws) := HY.out.keep hg
                        have HV41 : Hid (Vec w41 (.slice p41 n41 m41) (Ws.getD (d * 4 + k) [])) := hv.vec
                        obtain ⟨ov, _, co, fo, av⟩ := HK41.out.want.cell HJ.out
                        have hav := av.vec
                        obtain ⟨po, no, mo, rfl, hno⟩ := hav.opened
                        have HV42 : Hid (Vec w41 (.slice po no mo) (Ws.getD (d * 4 + k) [])) := hav
                        clear hv hg HY hav hno av fo HQ
                        go_wp2_with fail
                        refine (equal_at HV41.out HV42.out rfl).mono ?_
                        rintro e w49 ⟨rfl, hw⟩
                        obtain rfl := hw.symm
                        clear hw HV41 HV42 co
                        go_wp2
                        go_roundw
                        case rel => exact ⟨k + 1, by omega, by go_num, HK41⟩
                        case measure => simp [intOf]; omega
                      · have i2 : ¬ (k : Int) < 4 := by omega
                        go_wp2
                        go_roundw
                        case rel => exact ⟨d + 1, by omega, by go_num, HY⟩
                        case measure => simp [intOf]; omega
                  · have i1 : ¬ (d : Int) < 3 := by omega
                    go_wp2_with fail
                    refine (flight_at HX.out.is (c := 0) HFO.out.1).mono ?_
                    rintro e w49 ⟨rfl, hw⟩
                    obtain rfl := hw.symm
                    clear hw
                    go_wp2_with fail
                    refine (off_at HX.out.is (b := false) HFO.out.2).mono ?_
                    rintro e w49 ⟨rfl, hw⟩
                    obtain rfl := hw.symm
                    clear hw
                    go_wp2
                    go_ret
                    exact ⟨rfl, HX.out.base.grown⟩
end arrayKeeps
end Go.Proofs.Ytfmlohedebdomaa
