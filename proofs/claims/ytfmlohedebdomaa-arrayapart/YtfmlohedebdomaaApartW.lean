/- The walk of ArrayApart. -/
import Derived.Test.YtfmlohedebdomaaAp6
import Derived.Deep.RegionHeld3
set_option linter.unusedSimpArgs false
set_option linter.unusedVariables false
namespace Go.Proofs.Ytfmlohedebdomaa
open Go.RowKit
theorem on_at {F : Nat → Prop} {w : World} {a : Nat} {R : AM.Raw} (h : Is F w a R) {d : Int} {b : Bool} (hc : R.on d = b) : Calls Try.prog 37 #[ptr a, .int .i64 d] w fun e w' => e = .returned (.bool b) ∧ w' = w := by
  subst hc; exact on_yes h d
theorem u8_small {k c : Nat} (h : k + c < 256) : IntKind.u8.wrap ((k : Int) + (c : Int)) = ((k + c : Nat) : Int) := by rw [IntKind.wrap_u8]; omega

namespace arrayApart
set_option maxRecDepth 100000 in
set_option maxHeartbeats 3200000 in
theorem walk {w : World} {v : Value} {l : List ActR} (hl : Acts w v l) : Calls Try.prog 6 #[v] w fun e w' => e = .returned (.bool true) ∧ w.grownBy w' none := by
  obtain ⟨p, N, cap, rfl, hN⟩ := hl.opened
  have HA : Hid (Acts w (.slice p N cap) l) := hl
  have HN : Hid (N = l.length) := hN
  have hNb : N ≤ 140737488351232 := by rw [hN]; exact hl.len
  have zA := run_zeroAct
  obtain ⟨ZR, hZR⟩ : ∃ ZR : Array Value, ZR = #[.int .i64 0, .int .i64 0, .int .i64 0, .int .u8 0, .slice none 0 0, .bool false] := ⟨_, rfl⟩
  rw [← hZR] at zA
  have HZ : Hid (ZR.size = 6) := by show _ = _; rw [hZR]; rfl
  clear hl hN hZR
  go_enter Try.func6, Try.ntmps6
  go_wp2_with fail
  refine (new_at (w := w) (N := 3) (n := 4) (by decide) (by decide) (by decide) (by decide) rfl rfl).mono ?_
  rintro e w1 ⟨a, rfl, F1, hi, hb⟩
  have HI : Hid (Is F1 w1 a (AM.Raw.new 3 4)) := hi
  have HB : Hid (Base w F1 w1) := hb
  clear hi hb
  go_wp2_with fail
  refine (awake_yes w1).mono ?_
  rintro e w2 ⟨rfl, hg⟩
  have HI2 : Hid (Is F1 w2 a (pre 0)) := HI.out.keep hg
  have HB2 : Hid (Base w F1 w2) := HB.out.keep hg
  clear hg HI HB
  go_wp2_with fail
  go_loopw [23] (fun ti wr => ∃ k : Nat, k ≤ 4 ∧ ti = .int .i64 (k : Int) ∧ Hid (∃ F, Is F wr a (pre k) ∧ Base w F wr)) (fun ti _ => 4 - (intOf ti).toNat)
  case atStart => exact ⟨0, by omega, rfl, F1, HI2.out, HB2.out⟩
  case round =>
    clear HI2 HB2
    obtain ⟨k, hk, rfl, HX⟩ := hrel
    by_cases hk4 : k < 4
    · have i1 : (k : Int) < 4 := by omega
      obtain ⟨F, h1, h2⟩ := HX.out
      have HI : Hid (Is F wr a (pre k)) := h1
      have HB : Hid (Base w F wr) := h2
      obtain ⟨q1, q2⟩ := pre_len k (by omega)
      have HL1 : Hid ((pre k).L.length ≤ 1000000) := q1
      have HL2 : Hid (((pre k).writes 0 (k : Int) (fl (k + 1))).2.L.length ≤ 1000000) := q2
      have HK : Hid (k + 1 < 256 ∧ k + 9 < 256) := by constructor <;> omega
      have e1 : IntKind.u8.wrap ((k : Int) + 1) = ((k + 1 : Nat) : Int) := u8_small (c := 1) (by omega)
      have e9 : IntKind.u8.wrap ((k : Int) + 9) = ((k + 9 : Nat) : Int) := u8_small (c := 9) (by omega)
      clear h1 h2 HX q1 q2
      go_wp2_with fail
      refine (full_at (F := F) (w := wr) HI.out.lt (x := k + 1) HK.out.1 (by first | rfl | omega)).mono ?_
      rintro e w3 ⟨p3, rfl, hv, hg⟩
      have HI3 : Hid (Is F w3 a (pre k)) := HI.out.keep hg
      have HB3 : Hid (Base w F w3) := HB.out.keep hg
      have HV3 : Hid (Aw F w3 (.slice p3 64 64) (fl (k + 1))) := hv
      clear hv hg HI HB
      go_wp2_with fail
      refine (write_some HI3.out HL1.out HV3.out).mono ?_
      rintro e w4 ⟨c4, rfl, F4, hi, hs⟩
      have HI4 : Hid (Is F4 w4 a ((pre k).writes 0 (k : Int) (fl (k + 1))).2) := hi
      have HB4 : Hid (Base w F4 w4) := HB3.out.step hs
      clear hi hs HI3 HB3 HV3
      go_wp2_with fail
      refine (full_at (F := F4) (w := w4) HI4.out.lt (x := k + 9) HK.out.2 (by first | rfl | omega)).mono ?_
      rintro e w5 ⟨p5, rfl, hv, hg⟩
      have HI5 : Hid (Is F4 w5 a ((pre k).writes 0 (k : Int) (fl (k + 1))).2) := HI4.out.keep hg
      have HB5 : Hid (Base w F4 w5) := HB4.out.keep hg
      have HV5 : Hid (Aw F4 w5 (.slice p5 64 64) (fl (k + 9))) := hv
      clear hv hg HI4 HB4
      go_wp2_with fail
      refine (write_some HI5.out HL2.out HV5.out).mono ?_
      rintro e w6 ⟨c6, rfl, F6, hi, hs⟩
      have HX6 : Hid (∃ F, Is F w6 a (pre (k + 1)) ∧ Base w F w6) := ⟨F6, hi, HB5.out.step hs⟩
      clear hi hs HI5 HB5 HV5
      go_wp2
      go_roundw
      case rel => exact ⟨k + 1, by omega, by go_num, HX6⟩
      case measure => simp [intOf]; omega
    · have i1 : ¬ (k : Int) < 4 := by omega
      obtain rfl : k = 4 := by omega
      obtain ⟨F, h1, h2⟩ := HX.out
      have HI : Hid (Is F wr a (pre 4)) := h1
      have HB : Hid (Base w F wr) := h2
      clear h1 h2 HX
      go_wp2_with fail
      refine (barrier_yes HI.out).mono ?_
      rintro e w7 ⟨rfl, hi, hs⟩
      have HX7 : Hid (∃ F R, Is F w7 a R ∧ Base w F w7 ∧ ApI R 0) := ⟨F, _, hi, HB.out.step hs, pre_ap⟩
      clear hi hs HI HB
      generalize ((pre 4).barrier.1 : Int) = z7
      go_wp2_with fail
      obtain ⟨wa, hwa⟩ : ∃ wa, wa = wr := ⟨wr, rfl⟩
      subst hwa
      go_loopw [45] (fun ti wr => ∃ i : Nat, i ≤ N ∧ ti = .int .i64 (i : Int) ∧ i ≤ 60 ∧ Hid (∃ F R, Is F wr a R ∧ Base w F wr ∧ ApI R i)) (fun ti _ => N - (intOf ti).toNat)
      case atStart => exact ⟨0, by omega, rfl, by omega, HX7⟩
      case round =>
        clear HX7
        obtain ⟨i, hi, rfl, h60, HX⟩ := hrel
        by_cases hlt : i < N
        · have i1 : (i : Int) < (N : Int) := by omega
          have hil : i < l.length := by rw [← HN.out]; exact hlt
          obtain ⟨F, R, h1, h2, h3⟩ := HX.out
          have hokw := HA.out.ok l[i] (List.getElem_mem hil)
          obtain ⟨b, off, rfl, hrg, hok⟩ := (HA.out.keep h2.grown).at hil
          obtain ⟨c, hce⟩ : ∃ c, c = l[i] := ⟨_, rfl⟩
          rw [← hce] at hrg hok hokw
          obtain ⟨AR, hla⟩ := laid hrg hok
          obtain ⟨WH, D, A, X, bval, bs, SH⟩ := c
          have hvb : Vec wr bval bs := hok.vec
          have hvw : Vec w bval bs := hokw.vec
          obtain ⟨pb, nb, mb, rfl, hnb⟩ := hvb.opened
          have HLA : Hid (Laid wr b (off + i * 6) wr.heap.size AR ⟨WH, D, A, X, .slice pb nb mb, bs, SH⟩) := hla
          have HOK : Hid (ActOk wr ⟨WH, D, A, X, .slice pb nb mb, bs, SH⟩) := hok
          have HBV : Hid (∀ W, Base w F W → Aw F W (.slice pb nb mb) bs) := fun W hW => hW.aw hvw
          clear hrg hla hce hok hokw hvb hvw hnb
          by_cases hi60 : i = 60
          · clear h1 h2 h3 HOK HBV
            clear F R
            subst hi60
            go_wp2_with (first | (refine wpList_load_act rfl _ rfl rfl HLA.out ?_) | (refine wpList_store_act rfl _ _ rfl HLA.out HZ.out rfl rfl rfl ?_; intro w9 hh hg; have HVV : Hid (Var w9 wr.heap.size ⟨WH, D, A, X, .slice pb nb mb, bs, SH⟩) := ⟨by rw [hh, HLA.out.ar]⟩; have HG9 : Hid (wr.grownBy w9 none) := hg; have cw := HVV.out.cell.1; have c4 := HVV.out.cell.2.2.2.2.1; clear hh hg) | fail)
            have HX9 : Hid (∃ F R, Is F w9 a R ∧ Base w F w9 ∧ ApI R 60) := by
              obtain ⟨F, R, h1, h2, h3⟩ := HX.out
              exact ⟨F, R, h1.keep HG9.out, h2.keep HG9.out, h3⟩
            clear HX HG9 HVV HLA cw c4
            obtain ⟨F, R, h1, h2, h3⟩ := HX9.out
            obtain ⟨x0, y0, z0⟩ := h3.d0
            obtain ⟨x2, y2, z2⟩ := h3.d2
            have HI : Hid (Is F w9 a R ∧ Base w F w9) := ⟨h1, h2⟩
            have HR : Hid (∀ k : Nat, k < 4 → ((R.reach 0 (k : Int) : Int) = 0 ∧ R.read 0 (k : Int) = fl (k + 1)) ∧ (R.reach 2 (k : Int) : Int) = 0 ∧ R.read 2 (k : Int) = fl (k + 9)) := fun k hk => by
              have a1 := reach_of (d := 0) (k := k) y0 h3.off (by rw [h3.n4]; exact hk)
              have a2 := read_of (d := 0) (k := k) y0 h3.off (by rw [h3.n4]; exact hk)
              have a3 := reach_of (d := 2) (k := k) y2 h3.off (by rw [h3.n4]; exact hk)
              have a4 := read_of (d := 2) (k := k) y2 h3.off (by rw [h3.n4]; exact hk)
              exact ⟨⟨congrArg (fun m : Nat => (m : Int)) a1, a2.trans (z0 k hk)⟩, congrArg (fun m : Nat => (m : Int)) a3, a4.trans (z2 k hk)⟩
            have HON : Hid (R.on 0 = true ∧ R.on 2 = true) := ⟨on_of (d := 0) y0, on_of (d := 2) y2⟩
            have HOS : Hid (2 ≤ R.ons) := h3.ons
            clear h1 h2 h3 x0 y0 z0 x2 y2 z2 HX9
            go_wp2_with fail
            obtain ⟨wb, hwb⟩ : ∃ wb, wb = wr := ⟨wr, rfl⟩
            subst hwb
            go_loopw [81] (fun ti wr => ∃ k : Nat, k ≤ 4 ∧ ti = .int .i64 (k : Int) ∧ Hid (Is F wr a R ∧ Base w F wr)) (fun ti _ => 4 - (intOf ti).toNat)
            case atStart => exact ⟨0, by omega, rfl, HI⟩
            case round =>
              clear HI
              obtain ⟨k, hk, rfl, HY⟩ := hrel
              by_cases hk4 : k < 4
              · have i1 : (k : Int) < 4 := by omega
                obtain ⟨⟨q1, q2⟩, q3, q4⟩ := HR.out k hk4
                have HQ : Hid (((R.reach 0 (k : Int) : Int) = 0 ∧ R.read 0 (k : Int) = fl (k + 1)) ∧ (R.reach 2 (k : Int) : Int) = 0 ∧ R.read 2 (k : Int) = fl (k + 9)) := ⟨⟨q1, q2⟩, q3, q4⟩
                have HK : Hid (k + 1 < 256 ∧ k + 9 < 256) := by constructor <;> omega
                have e1 : IntKind.u8.wrap ((k : Int) + 1) = ((k + 1 : Nat) : Int) := u8_small (c := 1) (by omega)
                have e9 : IntKind.u8.wrap ((k : Int) + 9) = ((k + 9 : Nat) : Int) := u8_small (c := 9) (by omega)
                clear q1 q2 q3 q4
                go_wp2_with fail
                refine (read_at HY.out.1 (c := 0) HQ.out.1.1 HQ.out.1.2).mono ?_
                rintro e w11 ⟨p11, n11, m11, rfl, hv, hg⟩
                have HI11 : Hid (Is F w11 a R ∧ Base w F w11) := ⟨HY.out.1.keep hg, HY.out.2.keep hg⟩
                have HV11 : Hid (Aw F w11 (.slice p11 n11 m11) (fl (k + 1))) := hv
                clear hv hg HY
                go_wp2_with fail
                refine (read_at HI11.out.1 (c := 0) HQ.out.2.1 HQ.out.2.2).mono ?_
                rintro e w12 ⟨p12, n12, m12, rfl, hv, hg⟩
                have HI12 : Hid (Is F w12 a R ∧ Base w F w12) := ⟨HI11.out.1.keep hg, HI11.out.2.keep hg⟩
                have HV12 : Hid (Aw F w12 (.slice p11 n11 m11) (fl (k + 1)) ∧ Aw F w12 (.slice p12 n12 m12) (fl (k + 9))) := ⟨HV11.out.keep hg, hv⟩
                clear hv hg HI11 HV11
                go_wp2_with fail
                refine (full_at (F := F) (w := w12) HI12.out.1.lt (x := k + 1) HK.out.1 (by first | rfl | omega)).mono ?_
                rintro e w13 ⟨p13, rfl, hv, hg⟩
                have HI13 : Hid (Is F w13 a R ∧ Base w F w13) := ⟨HI12.out.1.keep hg, HI12.out.2.keep hg⟩
                have HV13 : Hid (Aw F w13 (.slice p11 n11 m11) (fl (k + 1)) ∧ Aw F w13 (.slice p12 n12 m12) (fl (k + 9)) ∧ Aw F w13 (.slice p13 64 64) (fl (k + 1))) := ⟨HV12.out.1.keep hg, HV12.out.2.keep hg, hv⟩
                clear hv hg HI12 HV12
                go_wp2_with fail
                refine (equal_at HV13.out.1.vec HV13.out.2.2.vec rfl).mono ?_
                rintro e w19 ⟨rfl, hw⟩
                obtain rfl := hw.symm
                clear hw
                go_wp2_with fail
                refine (full_at (F := F) (w := w13) HI13.out.1.lt (x := k + 9) HK.out.2 (by first | rfl | omega)).mono ?_
                rintro e w14 ⟨p14, rfl, hv, hg⟩
                have HI14 : Hid (Is F w14 a R ∧ Base w F w14) := ⟨HI13.out.1.keep hg, HI13.out.2.keep hg⟩
                have HV14 : Hid (Aw F w14 (.slice p12 n12 m12) (fl (k + 9)) ∧ Aw F w14 (.slice p14 64 64) (fl (k + 9))) := ⟨HV13.out.2.1.keep hg, hv⟩
                clear hv hg HI13 HV13
                go_wp2_with fail
                refine (equal_at HV14.out.1.vec HV14.out.2.vec rfl).mono ?_
                rintro e w19 ⟨rfl, hw⟩
                obtain rfl := hw.symm
                clear hw HV14
                go_wp2
                go_roundw
                case rel => exact ⟨k + 1, by omega, by go_num, HI14⟩
                case measure => simp [intOf]; omega
              · have i1 : ¬ (k : Int) < 4 := by omega
                go_wp2_with fail
                refine (on_at HY.out.1 (d := 0) (b := true) HON.out.1).mono ?_
                rintro e w19 ⟨rfl, hw⟩
                obtain rfl := hw.symm
                clear hw
                go_wp2_with fail
                refine (on_at HY.out.1 (d := 2) (b := true) HON.out.2).mono ?_
                rintro e w19 ⟨rfl, hw⟩
                obtain rfl := hw.symm
                clear hw
                go_wp2_with fail
                refine (ons_yes HY.out.1).mono ?_
                rintro e w19 ⟨rfl, hw⟩
                obtain rfl := hw.symm
                clear hw
                have hge : (2 : Int) ≤ (R.ons : Int) := by have := HOS.out; omega
                generalize (R.ons : Int) = zz at *
                go_wp2
                go_ret
                exact ⟨rfl, HY.out.2.grown⟩
          · have HI : Hid (Is F wr a R ∧ Base w F wr) := ⟨h1, h2⟩
            have HBI : Hid (ApI R i) := h3
            have H60 : Hid (i ≤ 60) := h60
            clear h1 h2 h3 HX
            by_cases g0 : WH = 0
            · subst g0
              go_wp2_with (first | (refine wpList_load_act rfl _ rfl rfl HLA.out ?_) | (refine wpList_store_act rfl _ _ rfl HLA.out HZ.out rfl rfl rfl ?_; intro w9 hh hg; have HVV : Hid (Var w9 wr.heap.size ⟨0, D, A, X, .slice pb nb mb, bs, SH⟩) := ⟨by rw [hh, HLA.out.ar]⟩; have HG9 : Hid (wr.grownBy w9 none) := hg; have cw := HVV.out.cell.1; have c4 := HVV.out.cell.2.2.2.2.1; clear hh hg) | fail)
              have HI9 : Hid (Is F w9 a R ∧ Base w F w9) := ⟨HI.out.1.keep HG9.out, HI.out.2.keep HG9.out⟩
              have HOK9 : Hid (ActOk w9 ⟨0, D, A, X, .slice pb nb mb, bs, SH⟩) := HOK.out.keep HG9.out
              have HC9 : Hid ((w9.cell? ⟨wr.heap.size, 0, none⟩ = some (.int .i64 0) ∧ w9.cell? ⟨wr.heap.size, 1, none⟩ = some (.int .i64 D) ∧ w9.cell? ⟨wr.heap.size, 2, none⟩ = some (.int .i64 A) ∧ w9.cell? ⟨wr.heap.size, 3, none⟩ = some (.int .u8 (X : Int)) ∧ w9.cell? ⟨wr.heap.size, 4, none⟩ = some (.slice pb nb mb) ∧ w9.cell? ⟨wr.heap.size, 5, none⟩ = some (.bool SH))) := HVV.out.cell
              have HCK : Hid (∀ W, w9.grownBy W none → (W.cell? ⟨wr.heap.size, 0, none⟩ = some (.int .i64 0) ∧ W.cell? ⟨wr.heap.size, 1, none⟩ = some (.int .i64 D) ∧ W.cell? ⟨wr.heap.size, 2, none⟩ = some (.int .i64 A) ∧ W.cell? ⟨wr.heap.size, 3, none⟩ = some (.int .u8 (X : Int)) ∧ W.cell? ⟨wr.heap.size, 4, none⟩ = some (.slice pb nb mb) ∧ W.cell? ⟨wr.heap.size, 5, none⟩ = some (.bool SH))) := fun W g => (HVV.out.keep g).cell
              have HCW : Hid (∀ (W W' : World) (F' : Nat → Prop), w9.grownBy W none → Step F W F' W' → (W'.cell? ⟨wr.heap.size, 0, none⟩ = some (.int .i64 0) ∧ W'.cell? ⟨wr.heap.size, 1, none⟩ = some (.int .i64 D) ∧ W'.cell? ⟨wr.heap.size, 2, none⟩ = some (.int .i64 A) ∧ W'.cell? ⟨wr.heap.size, 3, none⟩ = some (.int .u8 (X : Int)) ∧ W'.cell? ⟨wr.heap.size, 4, none⟩ = some (.slice pb nb mb) ∧ W'.cell? ⟨wr.heap.size, 5, none⟩ = some (.bool SH))) := fun W W' F' g s => ((HVV.out.keep g).step s (fun hf => by have := HI.out.1.lt _ hf; omega)).1.cell
              clear HI HLA HG9 HVV cw c4
              go_region_held3 (fun w' => w'.cell? ⟨wr.heap.size, 0, none⟩ = some (.int .i64 0) ∧ w'.cell? ⟨wr.heap.size, 1, none⟩ = some (.int .i64 D) ∧ w'.cell? ⟨wr.heap.size, 2, none⟩ = some (.int .i64 A) ∧ w'.cell? ⟨wr.heap.size, 3, none⟩ = some (.int .u8 (X : Int)) ∧ w'.cell? ⟨wr.heap.size, 4, none⟩ = some (.slice pb nb mb) ∧ w'.cell? ⟨wr.heap.size, 5, none⟩ = some (.bool SH)) (first | exact HC9.out | exact HCK.out _ (by first | exact World.grownBy.refl _ _ | exact gb_drew (World.grownBy.refl _ _) | exact gb_drew (gb_drew (World.grownBy.refl _ _))) | exact HCF.out | exact HCF2.out _ (by first | exact World.grownBy.refl _ _ | exact gb_drew (World.grownBy.refl _ _) | exact gb_drew (gb_drew (World.grownBy.refl _ _))) | exact HC12.out)
                ((first
                  | (go_at_call 12; refine (sector_yes (c := ⟨0, D, A, X, .slice pb nb mb, bs, SH⟩) (HOK9.out.keep (by first | exact World.grownBy.refl _ _ | exact gb_drew (World.grownBy.refl _ _) | exact gb_drew (gb_drew (World.grownBy.refl _ _)))) rfl).mono ?_; rintro e w11 ⟨p11, n11, m11, rfl, hv, hg⟩; have HGF : Hid (w9.grownBy w11 none) := grown_trans (by first | exact World.grownBy.refl _ _ | exact gb_drew (World.grownBy.refl _ _) | exact gb_drew (gb_drew (World.grownBy.refl _ _))) hg; have HVF : Hid (Aw F w11 (.slice p11 n11 m11) (secOf ⟨0, D, A, X, .slice pb nb mb, bs, SH⟩)) := hv.aw (HI9.out.1.keep (w' := _) (by first | exact World.grownBy.refl _ _ | exact gb_drew (World.grownBy.refl _ _) | exact gb_drew (gb_drew (World.grownBy.refl _ _)))).lt; have HCF : Hid ((w11.cell? ⟨wr.heap.size, 0, none⟩ = some (.int .i64 0) ∧ w11.cell? ⟨wr.heap.size, 1, none⟩ = some (.int .i64 D) ∧ w11.cell? ⟨wr.heap.size, 2, none⟩ = some (.int .i64 A) ∧ w11.cell? ⟨wr.heap.size, 3, none⟩ = some (.int .u8 (X : Int)) ∧ w11.cell? ⟨wr.heap.size, 4, none⟩ = some (.slice pb nb mb) ∧ w11.cell? ⟨wr.heap.size, 5, none⟩ = some (.bool SH))) := HCK.out _ HGF.out; have HCF2 : Hid (∀ W, w11.grownBy W none → (W.cell? ⟨wr.heap.size, 0, none⟩ = some (.int .i64 0) ∧ W.cell? ⟨wr.heap.size, 1, none⟩ = some (.int .i64 D) ∧ W.cell? ⟨wr.heap.size, 2, none⟩ = some (.int .i64 A) ∧ W.cell? ⟨wr.heap.size, 3, none⟩ = some (.int .u8 (X : Int)) ∧ W.cell? ⟨wr.heap.size, 4, none⟩ = some (.slice pb nb mb) ∧ W.cell? ⟨wr.heap.size, 5, none⟩ = some (.bool SH))) := fun W g => HCK.out _ (grown_trans HGF.out g); clear hv hg)
                  | (go_at_call 13; refine (write_ap (HI9.out.1.keep (grown_trans HGF.out (by first | exact World.grownBy.refl _ _ | exact gb_drew (World.grownBy.refl _ _) | exact gb_drew (gb_drew (World.grownBy.refl _ _))))) HBI.out (Nat.le_trans H60.out (by decide)) (HVF.out.keep (by first | exact World.grownBy.refl _ _ | exact gb_drew (World.grownBy.refl _ _) | exact gb_drew (gb_drew (World.grownBy.refl _ _)))) A).mono ?_; rintro e w12 ⟨c12, rfl, F12, R12, hi12, hs12, ha12⟩; have HX12 : Hid (∃ F R, Is F w12 a R ∧ Base w F w12 ∧ ApI R (i + 1)) := ⟨F12, R12, hi12, (HI9.out.2.keep (grown_trans HGF.out (by first | exact World.grownBy.refl _ _ | exact gb_drew (World.grownBy.refl _ _) | exact gb_drew (gb_drew (World.grownBy.refl _ _))))).step hs12, ha12⟩; have HC12 : Hid ((w12.cell? ⟨wr.heap.size, 0, none⟩ = some (.int .i64 0) ∧ w12.cell? ⟨wr.heap.size, 1, none⟩ = some (.int .i64 D) ∧ w12.cell? ⟨wr.heap.size, 2, none⟩ = some (.int .i64 A) ∧ w12.cell? ⟨wr.heap.size, 3, none⟩ = some (.int .u8 (X : Int)) ∧ w12.cell? ⟨wr.heap.size, 4, none⟩ = some (.slice pb nb mb) ∧ w12.cell? ⟨wr.heap.size, 5, none⟩ = some (.bool SH))) := HCW.out _ _ _ (grown_trans HGF.out (by first | exact World.grownBy.refl _ _ | exact gb_drew (World.grownBy.refl _ _) | exact gb_drew (gb_drew (World.grownBy.refl _ _)))) hs12; clear hi12 hs12 ha12)))
              all_goals
                go_wp2
                go_roundw
                case rel => exact ⟨i + 1, by omega, by go_num, by omega, HX12⟩
                case measure => simp [intOf]; omega
            · skip
              by_cases g2 : WH = 2
              · subst g2
                go_wp2_with (first | (refine wpList_load_act rfl _ rfl rfl HLA.out ?_) | (refine wpList_store_act rfl _ _ rfl HLA.out HZ.out rfl rfl rfl ?_; intro w9 hh hg; have HVV : Hid (Var w9 wr.heap.size ⟨2, D, A, X, .slice pb nb mb, bs, SH⟩) := ⟨by rw [hh, HLA.out.ar]⟩; have HG9 : Hid (wr.grownBy w9 none) := hg; have cw := HVV.out.cell.1; have c4 := HVV.out.cell.2.2.2.2.1; clear hh hg) | fail)
                have HI9 : Hid (Is F w9 a R ∧ Base w F w9) := ⟨HI.out.1.keep HG9.out, HI.out.2.keep HG9.out⟩
                clear HI HLA
                refine (barrier_ap HI9.out.1 HBI.out).mono ?_
                rintro e w12 ⟨c12, rfl, F12, R12, hi12, hs12, ha12⟩
                have HX12 : Hid (∃ F R, Is F w12 a R ∧ Base w F w12 ∧ ApI R (i + 1)) := ⟨F12, R12, hi12, HI9.out.2.step hs12, ha12⟩
                clear hi12 hs12 ha12 HI9
                go_wp2
                go_roundw
                case rel => exact ⟨i + 1, by omega, by go_num, by omega, HX12⟩
                case measure => simp [intOf]; omega
              · skip
                by_cases g3 : WH = 3
                · subst g3
                  go_wp2_with (first | (refine wpList_load_act rfl _ rfl rfl HLA.out ?_) | (refine wpList_store_act rfl _ _ rfl HLA.out HZ.out rfl rfl rfl ?_; intro w9 hh hg; have HVV : Hid (Var w9 wr.heap.size ⟨3, D, A, X, .slice pb nb mb, bs, SH⟩) := ⟨by rw [hh, HLA.out.ar]⟩; have HG9 : Hid (wr.grownBy w9 none) := hg; have cw := HVV.out.cell.1; have c4 := HVV.out.cell.2.2.2.2.1; clear hh hg) | fail)
                  have HI9 : Hid (Is F w9 a R ∧ Base w F w9) := ⟨HI.out.1.keep HG9.out, HI.out.2.keep HG9.out⟩
                  clear HI HLA
                  refine (lose_ap HI9.out.1 HBI.out (Nat.le_trans H60.out (by decide))).mono ?_
                  rintro e w12 ⟨c12, rfl, F12, R12, hi12, hs12, ha12⟩
                  have HX12 : Hid (∃ F R, Is F w12 a R ∧ Base w F w12 ∧ ApI R (i + 1)) := ⟨F12, R12, hi12, HI9.out.2.step hs12, ha12⟩
                  clear hi12 hs12 ha12 HI9
                  go_wp2
                  go_roundw
                  case rel => exact ⟨i + 1, by omega, by go_num, by omega, HX12⟩
                  case measure => simp [intOf]; omega
                · skip
                  by_cases g4 : WH = 4
                  · subst g4
                    go_wp2_with (first | (refine wpList_load_act rfl _ rfl rfl HLA.out ?_) | (refine wpList_store_act rfl _ _ rfl HLA.out HZ.out rfl rfl rfl ?_; intro w9 hh hg; have HVV : Hid (Var w9 wr.heap.size ⟨4, D, A, X, .slice pb nb mb, bs, SH⟩) := ⟨by rw [hh, HLA.out.ar]⟩; have HG9 : Hid (wr.grownBy w9 none) := hg; have cw := HVV.out.cell.1; have c4 := HVV.out.cell.2.2.2.2.1; clear hh hg) | fail)
                    have HI9 : Hid (Is F w9 a R ∧ Base w F w9) := ⟨HI.out.1.keep HG9.out, HI.out.2.keep HG9.out⟩
                    clear HI HLA
                    refine (replace_ap HI9.out.1 HBI.out).mono ?_
                    rintro e w12 ⟨c12, rfl, F12, R12, hi12, hs12, ha12⟩
                    have HX12 : Hid (∃ F R, Is F w12 a R ∧ Base w F w12 ∧ ApI R (i + 1)) := ⟨F12, R12, hi12, HI9.out.2.step hs12, ha12⟩
                    clear hi12 hs12 ha12 HI9
                    go_wp2
                    go_roundw
                    case rel => exact ⟨i + 1, by omega, by go_num, by omega, HX12⟩
                    case measure => simp [intOf]; omega
                  · skip
                    by_cases g6 : WH = 6
                    · subst g6
                      go_wp2_with (first | (refine wpList_load_act rfl _ rfl rfl HLA.out ?_) | (refine wpList_store_act rfl _ _ rfl HLA.out HZ.out rfl rfl rfl ?_; intro w9 hh hg; have HVV : Hid (Var w9 wr.heap.size ⟨6, D, A, X, .slice pb nb mb, bs, SH⟩) := ⟨by rw [hh, HLA.out.ar]⟩; have HG9 : Hid (wr.grownBy w9 none) := hg; have cw := HVV.out.cell.1; have c4 := HVV.out.cell.2.2.2.2.1; clear hh hg) | fail)
                      have HI9 : Hid (Is F w9 a R ∧ Base w F w9) := ⟨HI.out.1.keep HG9.out, HI.out.2.keep HG9.out⟩
                      clear HI HLA
                      refine (crash_ap HI9.out.1 HBI.out (Nat.le_trans H60.out (by decide)) (HBV.out w9 HI9.out.2)).mono ?_
                      rintro e w12 ⟨rfl, F12, R12, hi12, hs12, ha12⟩
                      have HX12 : Hid (∃ F R, Is F w12 a R ∧ Base w F w12 ∧ ApI R (i + 1)) := ⟨F12, R12, hi12, HI9.out.2.step hs12, ha12⟩
                      clear hi12 hs12 ha12 HI9
                      go_wp2
                      go_roundw
                      case rel => exact ⟨i + 1, by omega, by go_num, by omega, HX12⟩
                      case measure => simp [intOf]; omega
                    · skip
                      go_wp2_with (first | (refine wpList_load_act rfl _ rfl rfl HLA.out ?_) | (refine wpList_store_act rfl _ _ rfl HLA.out HZ.out rfl rfl rfl ?_; intro w9 hh hg; have HVV : Hid (Var w9 wr.heap.size ⟨WH, D, A, X, .slice pb nb mb, bs, SH⟩) := ⟨by rw [hh, HLA.out.ar]⟩; have HG9 : Hid (wr.grownBy w9 none) := hg; have cw := HVV.out.cell.1; have c4 := HVV.out.cell.2.2.2.2.1; clear hh hg) | fail)
                      have HX12 : Hid (∃ F R, Is F w9 a R ∧ Base w F w9 ∧ ApI R (i + 1)) := ⟨F, R, HI.out.1.keep HG9.out, HI.out.2.keep HG9.out, HBI.out.up⟩
                      go_wp2
                      go_roundw
                      case rel => exact ⟨i + 1, by omega, by go_num, by omega, HX12⟩
                      case measure => simp [intOf]; omega
        · have i1 : ¬ (i : Int) < (N : Int) := by omega
          obtain ⟨F, R, h1, h2, h3⟩ := HX.out
          obtain ⟨x0, y0, z0⟩ := h3.d0
          obtain ⟨x2, y2, z2⟩ := h3.d2
          have HI : Hid (Is F wr a R ∧ Base w F wr) := ⟨h1, h2⟩
          have HR : Hid (∀ k : Nat, k < 4 → ((R.reach 0 (k : Int) : Int) = 0 ∧ R.read 0 (k : Int) = fl (k + 1)) ∧ (R.reach 2 (k : Int) : Int) = 0 ∧ R.read 2 (k : Int) = fl (k + 9)) := fun k hk => by
            have a1 := reach_of (d := 0) (k := k) y0 h3.off (by rw [h3.n4]; exact hk)
            have a2 := read_of (d := 0) (k := k) y0 h3.off (by rw [h3.n4]; exact hk)
            have a3 := reach_of (d := 2) (k := k) y2 h3.off (by rw [h3.n4]; exact hk)
            have a4 := read_of (d := 2) (k := k) y2 h3.off (by rw [h3.n4]; exact hk)
            exact ⟨⟨congrArg (fun m : Nat => (m : Int)) a1, a2.trans (z0 k hk)⟩, congrArg (fun m : Nat => (m : Int)) a3, a4.trans (z2 k hk)⟩
          have HON : Hid (R.on 0 = true ∧ R.on 2 = true) := ⟨on_of (d := 0) y0, on_of (d := 2) y2⟩
          have HOS : Hid (2 ≤ R.ons) := h3.ons
          clear h1 h2 h3 x0 y0 z0 x2 y2 z2 HX
          go_wp2_with fail
          obtain ⟨wb, hwb⟩ : ∃ wb, wb = wr := ⟨wr, rfl⟩
          subst hwb
          go_loopw [81] (fun ti wr => ∃ k : Nat, k ≤ 4 ∧ ti = .int .i64 (k : Int) ∧ Hid (Is F wr a R ∧ Base w F wr)) (fun ti _ => 4 - (intOf ti).toNat)
          case atStart => exact ⟨0, by omega, rfl, HI⟩
          case round =>
            clear HI
            obtain ⟨k, hk, rfl, HY⟩ := hrel
            by_cases hk4 : k < 4
            · have i1 : (k : Int) < 4 := by omega
              obtain ⟨⟨q1, q2⟩, q3, q4⟩ := HR.out k hk4
              have HQ : Hid (((R.reach 0 (k : Int) : Int) = 0 ∧ R.read 0 (k : Int) = fl (k + 1)) ∧ (R.reach 2 (k : Int) : Int) = 0 ∧ R.read 2 (k : Int) = fl (k + 9)) := ⟨⟨q1, q2⟩, q3, q4⟩
              have HK : Hid (k + 1 < 256 ∧ k + 9 < 256) := by constructor <;> omega
              have e1 : IntKind.u8.wrap ((k : Int) + 1) = ((k + 1 : Nat) : Int) := u8_small (c := 1) (by omega)
              have e9 : IntKind.u8.wrap ((k : Int) + 9) = ((k + 9 : Nat) : Int) := u8_small (c := 9) (by omega)
              clear q1 q2 q3 q4
              go_wp2_with fail
              refine (read_at HY.out.1 (c := 0) HQ.out.1.1 HQ.out.1.2).mono ?_
              rintro e w11 ⟨p11, n11, m11, rfl, hv, hg⟩
              have HI11 : Hid (Is F w11 a R ∧ Base w F w11) := ⟨HY.out.1.keep hg, HY.out.2.keep hg⟩
              have HV11 : Hid (Aw F w11 (.slice p11 n11 m11) (fl (k + 1))) := hv
              clear hv hg HY
              go_wp2_with fail
              refine (read_at HI11.out.1 (c := 0) HQ.out.2.1 HQ.out.2.2).mono ?_
              rintro e w12 ⟨p12, n12, m12, rfl, hv, hg⟩
              have HI12 : Hid (Is F w12 a R ∧ Base w F w12) := ⟨HI11.out.1.keep hg, HI11.out.2.keep hg⟩
              have HV12 : Hid (Aw F w12 (.slice p11 n11 m11) (fl (k + 1)) ∧ Aw F w12 (.slice p12 n12 m12) (fl (k + 9))) := ⟨HV11.out.keep hg, hv⟩
              clear hv hg HI11 HV11
              go_wp2_with fail
              refine (full_at (F := F) (w := w12) HI12.out.1.lt (x := k + 1) HK.out.1 (by first | rfl | omega)).mono ?_
              rintro e w13 ⟨p13, rfl, hv, hg⟩
              have HI13 : Hid (Is F w13 a R ∧ Base w F w13) := ⟨HI12.out.1.keep hg, HI12.out.2.keep hg⟩
              have HV13 : Hid (Aw F w13 (.slice p11 n11 m11) (fl (k + 1)) ∧ Aw F w13 (.slice p12 n12 m12) (fl (k + 9)) ∧ Aw F w13 (.slice p13 64 64) (fl (k + 1))) := ⟨HV12.out.1.keep hg, HV12.out.2.keep hg, hv⟩
              clear hv hg HI12 HV12
              go_wp2_with fail
              refine (equal_at HV13.out.1.vec HV13.out.2.2.vec rfl).mono ?_
              rintro e w19 ⟨rfl, hw⟩
              obtain rfl := hw.symm
              clear hw
              go_wp2_with fail
              refine (full_at (F := F) (w := w13) HI13.out.1.lt (x := k + 9) HK.out.2 (by first | rfl | omega)).mono ?_
              rintro e w14 ⟨p14, rfl, hv, hg⟩
              have HI14 : Hid (Is F w14 a R ∧ Base w F w14) := ⟨HI13.out.1.keep hg, HI13.out.2.keep hg⟩
              have HV14 : Hid (Aw F w14 (.slice p12 n12 m12) (fl (k + 9)) ∧ Aw F w14 (.slice p14 64 64) (fl (k + 9))) := ⟨HV13.out.2.1.keep hg, hv⟩
              clear hv hg HI13 HV13
              go_wp2_with fail
              refine (equal_at HV14.out.1.vec HV14.out.2.vec rfl).mono ?_
              rintro e w19 ⟨rfl, hw⟩
              obtain rfl := hw.symm
              clear hw HV14
              go_wp2
              go_roundw
              case rel => exact ⟨k + 1, by omega, by go_num, HI14⟩
              case measure => simp [intOf]; omega
            · have i1 : ¬ (k : Int) < 4 := by omega
              go_wp2_with fail
              refine (on_at HY.out.1 (d := 0) (b := true) HON.out.1).mono ?_
              rintro e w19 ⟨rfl, hw⟩
              obtain rfl := hw.symm
              clear hw
              go_wp2_with fail
              refine (on_at HY.out.1 (d := 2) (b := true) HON.out.2).mono ?_
              rintro e w19 ⟨rfl, hw⟩
              obtain rfl := hw.symm
              clear hw
              go_wp2_with fail
              refine (ons_yes HY.out.1).mono ?_
              rintro e w19 ⟨rfl, hw⟩
              obtain rfl := hw.symm
              clear hw
              have hge : (2 : Int) ≤ (R.ons : Int) := by have := HOS.out; omega
              generalize (R.ons : Int) = zz at *
              go_wp2
              go_ret
              exact ⟨rfl, HY.out.2.grown⟩
end arrayApart
end Go.Proofs.Ytfmlohedebdomaa
