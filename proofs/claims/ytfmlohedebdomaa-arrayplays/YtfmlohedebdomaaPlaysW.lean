/- The walk of ArrayPlays. -/
import Derived.Test.YtfmlohedebdomaaPly6
import Derived.Test.YtfmlohedebdomaaWith6
import Derived.Deep.RegionHeld3
set_option linter.unusedSimpArgs false
set_option linter.unusedVariables false
namespace Go.Proofs.Ytfmlohedebdomaa
open Go.RowKit
def Stopp (p : Prop) : Prop := p
theorem stopp {p : Prop} (h : Stopp p) : p := h
theorem uint_mod {d : Int} (m : Nat) (h0 : 0 < m) (h1 : m ≤ 1000) : ∃ u x : Nat, x < m ∧ IntKind.u64.wrap d = (u : Int) ∧ ((u : Int)).tmod (m : Int) = (x : Int) ∧ IntKind.u64.wrap (x : Int) = (x : Int) ∧ IntKind.i64.wrap (x : Int) = (x : Int) := by
  obtain ⟨u, hu⟩ : ∃ u : Nat, IntKind.u64.wrap d = (u : Int) := by
    rw [IntKind.wrap_u64]
    exact ⟨(d % 18446744073709551616).toNat, by omega⟩
  have hlt : u % m < m := Nat.mod_lt _ h0
  exact ⟨u, u % m, hlt, hu, rfl, by rw [IntKind.wrap_u64]; omega, IntWalk.i64_in _ (by omega)⟩

namespace arrayPlays
set_option maxRecDepth 100000 in
set_option maxHeartbeats 12800000 in
theorem walk {w : World} {v : Value} {l : List ActR} {d s : Int} (hl : Acts w v l) : Calls Try.prog 3 #[.int .i64 d, .int .i64 s, v] w fun e w' => e = .returned (.bool true) ∧ w.grownBy w' none := by
  obtain ⟨p, N, cap, rfl, hN⟩ := hl.opened
  have HA : Hid (Acts w (.slice p N cap) l) := hl
  have HN : Hid (N = l.length) := hN
  have hNb : N ≤ 140737488351232 := by rw [hN]; exact hl.len
  have zA := run_zeroAct
  obtain ⟨ZR, hZR⟩ : ∃ ZR : Array Value, ZR = #[.int .i64 0, .int .i64 0, .int .i64 0, .int .u8 0, .slice none 0 0, .bool false] := ⟨_, rfl⟩
  rw [← hZR] at zA
  have HZ : Hid (ZR.size = 6) := by show _ = _; rw [hZR]; rfl
  obtain ⟨u1, x1, hx1, a1, a2, a3, a4⟩ := uint_mod (d := d) 6 (by decide) (by decide)
  obtain ⟨u2, x2, hx2, b1, b2, b3, b4⟩ := uint_mod (d := s) 8 (by decide) (by decide)
  have a2 : ((u1 : Int)).tmod 6 = (x1 : Int) := a2
  have b2 : ((u2 : Int)).tmod 8 = (x2 : Int) := b2
  have HXX : Hid (x1 < 6 ∧ x2 < 8) := ⟨hx1, hx2⟩
  clear hl hN hZR
  go_enter Try.func3, Try.ntmps3
  go_wp2_with fail
  refine (awake_yes w).mono ?_
  rintro e w1 ⟨rfl, hg⟩
  have G1 : Hid (w.grownBy w1 none) := hg
  clear hg
  go_wp2_with fail
  refine (new_at (w := w1) (N := 1 + x1) (n := 1 + x2) (by omega) (by omega) (by omega) (by omega) (by omega) (by omega)).mono ?_
  rintro e w2 ⟨a, rfl, F1, hi, hb⟩
  have I2 : Hid (Is F1 w2 a (AM.Raw.new (1 + x1) (1 + x2)) ∧ Base w1 F1 w2) := ⟨hi, hb⟩
  clear hi hb
  go_wp2_with fail
  refine (rnew_at (w := w2) (N := 1 + x1) (n := 1 + x2) (by omega) (by omega) (by omega) (by omega) (by omega) (by omega)).mono ?_
  rintro e w3 ⟨r, rfl, G3, hi, hb⟩
  have HX3 : Hid (Ply w w3 a r 0) := by
    refine ⟨F1, G3, _, _, ⟨I2.out.1.keep hb.grown, hi, fun k hf hg => ?_, ⟨grown_trans G1.out (grown_trans I2.out.2.grown hb.grown), fun k hk => Nat.le_trans G1.out.size (I2.out.2.lo k hk)⟩, ⟨grown_trans G1.out (grown_trans I2.out.2.grown hb.grown), fun k hk => Nat.le_trans G1.out.size (Nat.le_trans I2.out.2.grown.size (hb.lo k hk))⟩⟩, AM.sim_new (by omega) (by have := HXX.out; omega) (by omega) (by have := HXX.out; omega), Nat.zero_le _⟩
    have e1 := I2.out.1.lt k hf
    have e2 := hb.lo k hg
    omega
  clear hi hb I2 G1 a1 a2 a3 a4 b1 b2 b3 b4 hx1 hx2 HXX
  go_wp2_with fail
  go_loopw [7, 49] (fun ta ti wr => ∃ i : Nat, i ≤ N ∧ ti = .int .i64 (i : Int) ∧ i ≤ 150 ∧ ∃ a : Nat, ta = ptr a ∧ Hid (Ply w wr a r i)) (fun ta ti _ => N - (intOf ti).toNat)
  case atStart => exact ⟨0, by omega, rfl, by omega, a, rfl, HX3⟩
  case round =>
    clear HX3
    obtain ⟨i, hi, rfl, h60, a, rfl, HX⟩ := hrel
    by_cases hlt : i < N
    · have i1 : (i : Int) < (N : Int) := by omega
      have hil : i < l.length := by rw [← HN.out]; exact hlt
      have hokw := HA.out.ok l[i] (List.getElem_mem hil)
      obtain ⟨b, off, rfl, hrg, hok⟩ := (HA.out.keep HX.out.grown).at hil
      obtain ⟨c, hce⟩ : ∃ c, c = l[i] := ⟨_, rfl⟩
      rw [← hce] at hrg hok hokw
      obtain ⟨AR, hla⟩ := laid hrg hok
      obtain ⟨WH, D, K, X, bval, bs, SH⟩ := c
      have hvb : Vec wr bval bs := hok.vec
      have hvw : Vec w bval bs := hokw.vec
      obtain ⟨pb, nb, mb, rfl, hnb⟩ := hvb.opened
      have HLA : Hid (Laid wr b (off + i * 6) wr.heap.size AR ⟨WH, D, K, X, .slice pb nb mb, bs, SH⟩) := hla
      have HOKW : Hid (ActOk w ⟨WH, D, K, X, .slice pb nb mb, bs, SH⟩) := hokw
      have HBV : Hid (Vec w (.slice pb nb mb) bs) := hvw
      clear hrg hla hce hok hokw hvb hvw hnb
      by_cases hi150 : i = 150
      · clear HOKW HBV
        subst hi150
        go_wp2_with (first | (refine wpList_load_act rfl _ rfl rfl HLA.out ?_) | (refine wpList_store_act rfl _ _ rfl HLA.out HZ.out rfl rfl rfl ?_; intro w9 hh hg; have HVV : Hid (Var w9 wr.heap.size ⟨WH, D, K, X, .slice pb nb mb, bs, SH⟩) := ⟨by rw [hh, HLA.out.ar]⟩; have HG9 : Hid (wr.grownBy w9 none) := hg; have cw := HVV.out.cell.1; have cc1 := HVV.out.cell.2.1; have cc2 := HVV.out.cell.2.2.1; have cc3 := HVV.out.cell.2.2.2.1; have cc4 := HVV.out.cell.2.2.2.2.1; have cc5 := HVV.out.cell.2.2.2.2.2; clear hh hg) | fail)
        have HGG : Hid (w.grownBy w9 none) := grown_trans HX.out.grown HG9.out
        clear HX HVV HLA
        go_ret
        exact ⟨rfl, HGG.out⟩
      · have i150 : ¬ (i : Int) = 150 := by omega
        have H149 : Hid (i ≤ 150) := h60
        have H150 : Hid (i ≤ 1000000) := by show _ ≤ _; omega
        have H151 : Hid (i + 1 ≤ 1000000) := by show _ ≤ _; omega
        obtain ⟨F, G, R, A, h1, h2, h3⟩ := HX.out
        have HT : Hid (Two F G w wr a r R A) := h1
        have HSM : Hid (AM.Sim R A) := h2
        have HLL : Hid (R.L.length ≤ i) := h3
        clear h1 h2 h3 HX
        by_cases g0 : WH = 0
        · subst g0
          go_wp2_with (first | (refine wpList_load_act rfl _ rfl rfl HLA.out ?_) | (refine wpList_store_act rfl _ _ rfl HLA.out HZ.out rfl rfl rfl ?_; intro w9 hh hg; have HVV : Hid (Var w9 wr.heap.size ⟨0, D, K, X, .slice pb nb mb, bs, SH⟩) := ⟨by rw [hh, HLA.out.ar]⟩; have HG9 : Hid (wr.grownBy w9 none) := hg; have cw := HVV.out.cell.1; have cc1 := HVV.out.cell.2.1; have cc2 := HVV.out.cell.2.2.1; have cc3 := HVV.out.cell.2.2.2.1; have cc4 := HVV.out.cell.2.2.2.2.1; have cc5 := HVV.out.cell.2.2.2.2.2; clear hh hg) | fail)
          obtain ⟨bk, hbk⟩ : ∃ bk, bk = wr.heap.size := ⟨_, rfl⟩
          have T9 : Hid (Two F G w w9 a r R A) := HT.out.keep HG9.out
          have NB : Hid (¬ F bk ∧ ¬ G bk) := ⟨fun hf => (by have := HT.out.i.lt _ hf; omega), fun hf => (by have := HT.out.j.lt _ hf; omega)⟩
          rw [← hbk] at HVV cw cc1 cc2 cc3 cc4 cc5 ⊢
          clear hbk
          have HOK9 : Hid (ActOk w ⟨0, D, K, X, .slice pb nb mb, bs, SH⟩) := HOKW.out
          clear cw cc1 cc2 cc3 cc4 cc5
          refine (sector_yes (c := ⟨0, D, K, X, .slice pb nb mb, bs, SH⟩) (HOK9.out.keep T9.out.bi.grown) rfl).mono ?_
          rintro e w11 ⟨p11, n11, m11, rfl, hv, hg⟩
          have HS11 : Hid (Spo F G w w11 (.slice p11 n11 m11) (secOf ⟨0, D, K, X, .slice pb nb mb, bs, SH⟩)) := spo_of hv T9.out
          have T11 : Hid (Two F G w w11 a r R A) := T9.out.keep hg
          have V11 : Hid (Var w11 bk ⟨0, D, K, X, .slice pb nb mb, bs, SH⟩) := HVV.out.keep hg
          clear hv hg T9 HVV
          obtain ⟨cA, hcA⟩ : ∃ cA : Int, ((R.writes D K (secOf ⟨0, D, K, X, .slice pb nb mb, bs, SH⟩)).1 : Int) = cA := ⟨_, rfl⟩
          have HCA : Hid (((R.writes D K (secOf ⟨0, D, K, X, .slice pb nb mb, bs, SH⟩)).1 : Int) = cA) := hcA
          clear hcA
          go_wp2_with fail
          go_region_held3 (fun w' => w'.cell? ⟨bk, 0, none⟩ = some (.int .i64 0) ∧ w'.cell? ⟨bk, 1, none⟩ = some (.int .i64 D) ∧ w'.cell? ⟨bk, 2, none⟩ = some (.int .i64 K) ∧ w'.cell? ⟨bk, 3, none⟩ = some (.int .u8 (X : Int)) ∧ w'.cell? ⟨bk, 4, none⟩ = some (.slice pb nb mb) ∧ w'.cell? ⟨bk, 5, none⟩ = some (.bool SH)) (first | exact V11.out.cell | exact (V11.out.keep (by first | exact World.grownBy.refl _ _ | exact gb_drew (World.grownBy.refl _ _) | exact gb_drew (gb_drew (World.grownBy.refl _ _)) | exact gb_drew (gb_drew (gb_drew (World.grownBy.refl _ _))))).cell | exact V12.out.cell | exact (V12.out.keep (by first | exact World.grownBy.refl _ _ | exact gb_drew (World.grownBy.refl _ _) | exact gb_drew (gb_drew (World.grownBy.refl _ _)) | exact gb_drew (gb_drew (gb_drew (World.grownBy.refl _ _))))).cell | exact V13.out.cell | exact (V13.out.keep (by first | exact World.grownBy.refl _ _ | exact gb_drew (World.grownBy.refl _ _) | exact gb_drew (gb_drew (World.grownBy.refl _ _)) | exact gb_drew (gb_drew (gb_drew (World.grownBy.refl _ _))))).cell | exact V14.out.cell)
            ((first
              | (go_at_call 13; refine (write_at (T11.out.i.keep (by first | exact World.grownBy.refl _ _ | exact gb_drew (World.grownBy.refl _ _) | exact gb_drew (gb_drew (World.grownBy.refl _ _)) | exact gb_drew (gb_drew (gb_drew (World.grownBy.refl _ _))))) (HS11.out.keep (by first | exact World.grownBy.refl _ _ | exact gb_drew (World.grownBy.refl _ _) | exact gb_drew (gb_drew (World.grownBy.refl _ _)) | exact gb_drew (gb_drew (gb_drew (World.grownBy.refl _ _))))).awF (Nat.le_trans HLL.out H150.out) HCA.out rfl).mono ?_; rintro e w12 ⟨rfl, F12, hi12, hs12⟩; have T12 : Hid (Two F12 G w w12 a r (R.writes D K (secOf ⟨0, D, K, X, .slice pb nb mb, bs, SH⟩)).2 A) := (T11.out.keep (by first | exact World.grownBy.refl _ _ | exact gb_drew (World.grownBy.refl _ _) | exact gb_drew (gb_drew (World.grownBy.refl _ _)) | exact gb_drew (gb_drew (gb_drew (World.grownBy.refl _ _))))).stepA hi12 hs12; have S12 : Hid (Spo F12 G w w12 (.slice p11 n11 m11) (secOf ⟨0, D, K, X, .slice pb nb mb, bs, SH⟩)) := (HS11.out.keep (by first | exact World.grownBy.refl _ _ | exact gb_drew (World.grownBy.refl _ _) | exact gb_drew (gb_drew (World.grownBy.refl _ _)) | exact gb_drew (gb_drew (gb_drew (World.grownBy.refl _ _))))).stepA hs12; have V12 : Hid (Var w12 bk ⟨0, D, K, X, .slice pb nb mb, bs, SH⟩) := ((V11.out.keep (by first | exact World.grownBy.refl _ _ | exact gb_drew (World.grownBy.refl _ _) | exact gb_drew (gb_drew (World.grownBy.refl _ _)) | exact gb_drew (gb_drew (gb_drew (World.grownBy.refl _ _))))).step hs12 NB.out.1).1; clear hi12 hs12)
              | (go_at_call 12; refine (sector_yes (c := ⟨0, D, K, X, .slice pb nb mb, bs, SH⟩) (HOK9.out.keep T12.out.bi.grown) rfl).mono ?_; rintro e w13 ⟨p13, n13, m13, rfl, hv, hg⟩; have HS13 : Hid (Aw G w13 (.slice p13 n13 m13) (secOf ⟨0, D, K, X, .slice pb nb mb, bs, SH⟩)) := hv.aw T12.out.j.lt; have T13 : Hid (Two F12 G w w13 a r (R.writes D K (secOf ⟨0, D, K, X, .slice pb nb mb, bs, SH⟩)).2 A) := T12.out.keep hg; have V13 : Hid (Var w13 bk ⟨0, D, K, X, .slice pb nb mb, bs, SH⟩) := V12.out.keep hg; have S13 : Hid (Spo F12 G w w13 (.slice p11 n11 m11) (secOf ⟨0, D, K, X, .slice pb nb mb, bs, SH⟩)) := S12.out.keep hg; clear hv hg)
              | (go_at_call 14; refine (rwrite_at T13.out.j HSM.out (Nat.le_trans HLL.out H150.out) HS13.out HCA.out).mono ?_; rintro e w14 ⟨rfl, G14, hi14, hs14⟩; have V14 : Hid (Var w14 bk ⟨0, D, K, X, .slice pb nb mb, bs, SH⟩) := (V13.out.step hs14 NB.out.2).1; have HQ : Hid (∃ F G R A xs, Two F G w w14 a r R A ∧ Spo F G w w14 (.slice p11 n11 m11) xs ∧ AM.Sim R A ∧ R.L.length ≤ i + 1 ∧ Var w14 bk ⟨0, D, K, X, .slice pb nb mb, bs, SH⟩) := ⟨F12, G14, _, _, _, T13.out.stepB hi14 hs14, S13.out.stepB hs14, (HSM.out.write D K HS13.out.vec.small).2, Nat.le_trans (writes_len R D K _) (Nat.succ_le_succ HLL.out), V14.out⟩; clear hi14 hs14)))
          go_wp2_with fail
          obtain ⟨wa, hwa⟩ : ∃ wa, wa = wr := ⟨wr, rfl⟩
          subst hwa
          go_loopw [80] (fun tq wr => ∃ q : Nat, q ≤ n11 ∧ tq = .int .i64 (q : Int) ∧ Hid (∃ F G R A xs, Two F G w wr a r R A ∧ Spo F G w wr (.slice p11 n11 m11) xs ∧ AM.Sim R A ∧ R.L.length ≤ i + 1 ∧ Var wr bk ⟨0, D, K, X, .slice pb nb mb, bs, SH⟩)) (fun tq _ => n11 - (intOf tq).toNat)
          case atStart => exact ⟨0, by omega, rfl, HQ.out⟩
          case round =>
            clear HQ
            obtain ⟨q, hq, rfl, HY⟩ := hrel
            obtain ⟨F5, G5, R5, A5, xs5, t5, s5, m5, l5, v5⟩ := HY.out
            have hxl : n11 = xs5.length := by
              obtain ⟨_, _, _, e5, e6⟩ := s5.part.vec.opened
              injection e5 with _ e7 _
              omega
            by_cases hlt2 : q < n11
            · have i2 : (q : Int) < (n11 : Int) := by omega
              obtain ⟨g, x, rfl, cx, fx, hx, hlo, ⟨cc, hcc⟩, t6, s6⟩ := s5.spot t5 (k := q) (by omega)
              have hxx := xor_u8 hx
              have HX6 : Hid (∃ F G R A xs, Two F G w (wr.setCell ⟨g, q, none⟩ (.int .u8 ((x ^^^ 255 : Nat) : Int))) a r R A ∧ Spo F G w (wr.setCell ⟨g, q, none⟩ (.int .u8 ((x ^^^ 255 : Nat) : Int))) (.slice (some ⟨g, 0, none⟩) n11 m11) xs ∧ AM.Sim R A ∧ R.L.length ≤ i + 1 ∧ Var (wr.setCell ⟨g, q, none⟩ (.int .u8 ((x ^^^ 255 : Nat) : Int))) bk ⟨0, D, K, X, .slice pb nb mb, bs, SH⟩) :=
                ⟨F5, G5, R5, A5, _, t6, s6, m5, l5, ⟨by rw [Below.heap_setCell _ _ _ _ (ne_ty v5.heap hcc (by decide))]; exact v5.heap⟩⟩
              have hn47 : n11 ≤ 140737488351232 := by rw [hxl]; exact s5.part.vec.len
              obtain ⟨z, hz⟩ : ∃ z, z = x ^^^ 255 := ⟨_, rfl⟩
              rw [← hz] at hxx HX6
              clear t5 s5 m5 l5 v5 HY hxl hcc t6 s6 hz hlo
              go_wp2
              go_roundw
              case rel => exact ⟨q + 1, by omega, by go_num, HX6⟩
              case measure => simp [intOf]; omega
            · have i2 : ¬ (q : Int) < (n11 : Int) := by omega
              have HP12 : Hid (Ply w wr a r (i + 1)) := ⟨F5, G5, R5, A5, t5, m5, l5⟩
              have HV12 : Hid (Var wr bk ⟨0, D, K, X, .slice pb nb mb, bs, SH⟩) := v5
              clear t5 s5 m5 l5 v5 HY hxl
              have cv4 := HV12.out.cell.2.2.2.2.1
              go_wp2_with (first | (go_at_call 30; refine (ply_alike HP12.out H151.out HBV.out).mono ?_; rintro e w99 ⟨rfl, hg99⟩; have HP99 : Hid (Ply w w99 a r (i + 1)) := HP12.out.keep hg99; clear hg99) | fail)
              go_roundw
              case rel => exact ⟨i + 1, by omega, by go_num, by omega, a, rfl, HP99⟩
              case measure => simp [intOf]; omega
        · skip
          by_cases g1 : WH = 1
          · subst g1
            go_wp2_with (first | (refine wpList_load_act rfl _ rfl rfl HLA.out ?_) | (refine wpList_store_act rfl _ _ rfl HLA.out HZ.out rfl rfl rfl ?_; intro w9 hh hg; have HVV : Hid (Var w9 wr.heap.size ⟨1, D, K, X, .slice pb nb mb, bs, SH⟩) := ⟨by rw [hh, HLA.out.ar]⟩; have HG9 : Hid (wr.grownBy w9 none) := hg; have cw := HVV.out.cell.1; have cc1 := HVV.out.cell.2.1; have cc2 := HVV.out.cell.2.2.1; have cc3 := HVV.out.cell.2.2.2.1; have cc4 := HVV.out.cell.2.2.2.2.1; have cc5 := HVV.out.cell.2.2.2.2.2; clear hh hg) | fail)
            obtain ⟨bk, hbk⟩ : ∃ bk, bk = wr.heap.size := ⟨_, rfl⟩
            have T9 : Hid (Two F G w w9 a r R A) := HT.out.keep HG9.out
            have NB : Hid (¬ F bk ∧ ¬ G bk) := ⟨fun hf => (by have := HT.out.i.lt _ hf; omega), fun hf => (by have := HT.out.j.lt _ hf; omega)⟩
            rw [← hbk] at HVV cw cc1 cc2 cc3 cc4 cc5 ⊢
            clear hbk
            obtain ⟨cA, hcA⟩ : ∃ cA : Int, ((R.reach D K) : Int) = cA := ⟨_, rfl⟩
            obtain ⟨xs, hxs⟩ : ∃ xs, R.read D K = xs := ⟨_, rfl⟩
            have HCA : Hid (((R.reach D K) : Int) = cA ∧ R.read D K = xs) := ⟨hcA, hxs⟩
            have HRA : Hid (Calls Try.prog 15 #[ptr a, .int .i64 D, .int .i64 K] w9 fun e w' => ∃ p n c, e = .returned (.tuple #[.slice p n c, .int .i64 cA]) ∧ Own w9.heap.size w' (.slice p n c) xs ∧ w9.grownBy w' none) := by
              have := read_any T9.out.i D K
              rw [hcA, hxs] at this
              exact this
            clear hcA hxs
            clear cw cc1 cc2 cc3 cc4 cc5
            refine HRA.out.mono ?_
            rintro e w11 ⟨p11, n11, m11, rfl, hv, hg⟩
            have S11 : Hid (Spo F G w w11 (.slice p11 n11 m11) xs) := spo_of hv.part T9.out
            have T11 : Hid (Two F G w w11 a r R A) := T9.out.keep hg
            have V11 : Hid (Var w11 bk ⟨1, D, K, X, .slice pb nb mb, bs, SH⟩) := HVV.out.keep hg
            have d1 := V11.out.cell.2.1
            have d2 := V11.out.cell.2.2.1
            clear hv hg T9 HVV HRA
            go_wp2_with fail
            clear d1 d2
            refine (rread_at T11.out.j HSM.out (Nat.le_trans HLL.out H150.out) HCA.out.1 HCA.out.2).mono ?_
            rintro e w12 ⟨p12, n12, m12, rfl, ho, hg⟩
            have V12 : Hid (Var w12 bk ⟨1, D, K, X, .slice pb nb mb, bs, SH⟩) := V11.out.keep hg
            have S12 : Hid (Spo F G w w12 (.slice p11 n11 m11) xs ∧ Vec w12 (.slice p12 n12 m12) xs) := ⟨S11.out.keep hg, ho.vec⟩
            have T12 : Hid (Two F G w w12 a r R A) := T11.out.keep hg
            clear ho hg S11 T11 V11
            go_wp2_with fail
            refine (equal_at S12.out.1.part.vec S12.out.2 rfl).mono ?_
            rintro e w19 ⟨rfl, hw⟩
            obtain rfl := hw.symm
            clear hw
            have HQ : Hid (∃ F G R A xs, Two F G w w12 a r R A ∧ Spo F G w w12 (.slice p11 n11 m11) xs ∧ AM.Sim R A ∧ R.L.length ≤ i + 1 ∧ Var w12 bk ⟨1, D, K, X, .slice pb nb mb, bs, SH⟩) := ⟨F, G, R, A, xs, T12.out, S12.out.1, HSM.out, Nat.le_succ_of_le HLL.out, V12.out⟩
            go_wp2_with fail
            obtain ⟨wa, hwa⟩ : ∃ wa, wa = wr := ⟨wr, rfl⟩
            subst hwa
            go_loopw [121] (fun tq wr => ∃ q : Nat, q ≤ n11 ∧ tq = .int .i64 (q : Int) ∧ Hid (∃ F G R A xs, Two F G w wr a r R A ∧ Spo F G w wr (.slice p11 n11 m11) xs ∧ AM.Sim R A ∧ R.L.length ≤ i + 1 ∧ Var wr bk ⟨1, D, K, X, .slice pb nb mb, bs, SH⟩)) (fun tq _ => n11 - (intOf tq).toNat)
            case atStart => exact ⟨0, by omega, rfl, HQ.out⟩
            case round =>
              clear HQ
              obtain ⟨q, hq, rfl, HY⟩ := hrel
              obtain ⟨F5, G5, R5, A5, xs5, t5, s5, m5, l5, v5⟩ := HY.out
              have hxl : n11 = xs5.length := by
                obtain ⟨_, _, _, e5, e6⟩ := s5.part.vec.opened
                injection e5 with _ e7 _
                omega
              by_cases hlt2 : q < n11
              · have i2 : (q : Int) < (n11 : Int) := by omega
                obtain ⟨g, x, rfl, cx, fx, hx, hlo, ⟨cc, hcc⟩, t6, s6⟩ := s5.spot t5 (k := q) (by omega)
                have hxx := xor_u8 hx
                have HX6 : Hid (∃ F G R A xs, Two F G w (wr.setCell ⟨g, q, none⟩ (.int .u8 ((x ^^^ 255 : Nat) : Int))) a r R A ∧ Spo F G w (wr.setCell ⟨g, q, none⟩ (.int .u8 ((x ^^^ 255 : Nat) : Int))) (.slice (some ⟨g, 0, none⟩) n11 m11) xs ∧ AM.Sim R A ∧ R.L.length ≤ i + 1 ∧ Var (wr.setCell ⟨g, q, none⟩ (.int .u8 ((x ^^^ 255 : Nat) : Int))) bk ⟨1, D, K, X, .slice pb nb mb, bs, SH⟩) :=
                  ⟨F5, G5, R5, A5, _, t6, s6, m5, l5, ⟨by rw [Below.heap_setCell _ _ _ _ (ne_ty v5.heap hcc (by decide))]; exact v5.heap⟩⟩
                have hn47 : n11 ≤ 140737488351232 := by rw [hxl]; exact s5.part.vec.len
                obtain ⟨z, hz⟩ : ∃ z, z = x ^^^ 255 := ⟨_, rfl⟩
                rw [← hz] at hxx HX6
                clear t5 s5 m5 l5 v5 HY hxl hcc t6 s6 hz hlo
                go_wp2
                go_roundw
                case rel => exact ⟨q + 1, by omega, by go_num, HX6⟩
                case measure => simp [intOf]; omega
              · have i2 : ¬ (q : Int) < (n11 : Int) := by omega
                have HP12 : Hid (Ply w wr a r (i + 1)) := ⟨F5, G5, R5, A5, t5, m5, l5⟩
                have HV12 : Hid (Var wr bk ⟨1, D, K, X, .slice pb nb mb, bs, SH⟩) := v5
                clear t5 s5 m5 l5 v5 HY hxl
                have cv4 := HV12.out.cell.2.2.2.2.1
                go_wp2_with (first | (go_at_call 30; refine (ply_alike HP12.out H151.out HBV.out).mono ?_; rintro e w99 ⟨rfl, hg99⟩; have HP99 : Hid (Ply w w99 a r (i + 1)) := HP12.out.keep hg99; clear hg99) | fail)
                go_roundw
                case rel => exact ⟨i + 1, by omega, by go_num, by omega, a, rfl, HP99⟩
                case measure => simp [intOf]; omega
          · skip
            by_cases g2 : WH = 2
            · subst g2
              go_wp2_with (first | (refine wpList_load_act rfl _ rfl rfl HLA.out ?_) | (refine wpList_store_act rfl _ _ rfl HLA.out HZ.out rfl rfl rfl ?_; intro w9 hh hg; have HVV : Hid (Var w9 wr.heap.size ⟨2, D, K, X, .slice pb nb mb, bs, SH⟩) := ⟨by rw [hh, HLA.out.ar]⟩; have HG9 : Hid (wr.grownBy w9 none) := hg; have cw := HVV.out.cell.1; have cc1 := HVV.out.cell.2.1; have cc2 := HVV.out.cell.2.2.1; have cc3 := HVV.out.cell.2.2.2.1; have cc4 := HVV.out.cell.2.2.2.2.1; have cc5 := HVV.out.cell.2.2.2.2.2; clear hh hg) | fail)
              obtain ⟨bk, hbk⟩ : ∃ bk, bk = wr.heap.size := ⟨_, rfl⟩
              have T9 : Hid (Two F G w w9 a r R A) := HT.out.keep HG9.out
              have NB : Hid (¬ F bk ∧ ¬ G bk) := ⟨fun hf => (by have := HT.out.i.lt _ hf; omega), fun hf => (by have := HT.out.j.lt _ hf; omega)⟩
              rw [← hbk] at HVV cw cc1 cc2 cc3 cc4 cc5 ⊢
              clear hbk
              obtain ⟨cA, hcA⟩ : ∃ cA : Int, (R.barrier.1 : Int) = cA := ⟨_, rfl⟩
              have HCA : Hid ((R.barrier.1 : Int) = cA) := hcA
              clear hcA
              clear cw cc1 cc2 cc3 cc4 cc5
              refine (barrier_at T9.out.i HCA.out rfl).mono ?_
              rintro e w11 ⟨rfl, F11, hi, hs⟩
              have T11 : Hid (Two F11 G w w11 a r R.barrier.2 A) := T9.out.stepA hi hs
              have V11 : Hid (Var w11 bk ⟨2, D, K, X, .slice pb nb mb, bs, SH⟩) := (HVV.out.step hs NB.out.1).1
              clear hi hs
              go_wp2_with fail
              refine (rbarrier_at T11.out.j HSM.out (Nat.le_trans HLL.out H150.out) HCA.out).mono ?_
              rintro e w12 ⟨rfl, G12, hi, hs⟩
              have HP12 : Hid (Ply w w12 a r (i + 1)) := ⟨F11, G12, _, _, T11.out.stepB hi hs, HSM.out.barrier.2, Nat.le_trans (barrier_len R) (Nat.le_succ_of_le HLL.out)⟩
              have HV12 : Hid (Var w12 bk ⟨2, D, K, X, .slice pb nb mb, bs, SH⟩) := (V11.out.step hs NB.out.2).1
              clear hi hs
              have cv4 := HV12.out.cell.2.2.2.2.1
              go_wp2_with (first | (go_at_call 30; refine (ply_alike HP12.out H151.out HBV.out).mono ?_; rintro e w99 ⟨rfl, hg99⟩; have HP99 : Hid (Ply w w99 a r (i + 1)) := HP12.out.keep hg99; clear hg99) | fail)
              go_roundw
              case rel => exact ⟨i + 1, by omega, by go_num, by omega, a, rfl, HP99⟩
              case measure => simp [intOf]; omega
            · skip
              by_cases g3 : WH = 3
              · subst g3
                go_wp2_with (first | (refine wpList_load_act rfl _ rfl rfl HLA.out ?_) | (refine wpList_store_act rfl _ _ rfl HLA.out HZ.out rfl rfl rfl ?_; intro w9 hh hg; have HVV : Hid (Var w9 wr.heap.size ⟨3, D, K, X, .slice pb nb mb, bs, SH⟩) := ⟨by rw [hh, HLA.out.ar]⟩; have HG9 : Hid (wr.grownBy w9 none) := hg; have cw := HVV.out.cell.1; have cc1 := HVV.out.cell.2.1; have cc2 := HVV.out.cell.2.2.1; have cc3 := HVV.out.cell.2.2.2.1; have cc4 := HVV.out.cell.2.2.2.2.1; have cc5 := HVV.out.cell.2.2.2.2.2; clear hh hg) | fail)
                obtain ⟨bk, hbk⟩ : ∃ bk, bk = wr.heap.size := ⟨_, rfl⟩
                have T9 : Hid (Two F G w w9 a r R A) := HT.out.keep HG9.out
                have NB : Hid (¬ F bk ∧ ¬ G bk) := ⟨fun hf => (by have := HT.out.i.lt _ hf; omega), fun hf => (by have := HT.out.j.lt _ hf; omega)⟩
                rw [← hbk] at HVV cw cc1 cc2 cc3 cc4 cc5 ⊢
                clear hbk
                obtain ⟨cA, hcA⟩ : ∃ cA : Int, ((R.lose D).1 : Int) = cA := ⟨_, rfl⟩
                have HCA : Hid (((R.lose D).1 : Int) = cA) := hcA
                clear hcA
                clear cw cc1 cc2 cc3 cc4 cc5
                go_region_held3 (fun w' => w'.cell? ⟨bk, 1, none⟩ = some (.int .i64 D)) (first | exact HVV.out.cell.2.1 | exact V11.out.cell.2.1 | exact (V11.out.keep (by first | exact World.grownBy.refl _ _ | exact gb_drew (World.grownBy.refl _ _) | exact gb_drew (gb_drew (World.grownBy.refl _ _)) | exact gb_drew (gb_drew (gb_drew (World.grownBy.refl _ _))))).cell.2.1 | exact HV12.out.cell.2.1)
                  ((first
                    | (go_at_call 20; refine (lose_at (T9.out.i.keep (by first | exact World.grownBy.refl _ _ | exact gb_drew (World.grownBy.refl _ _) | exact gb_drew (gb_drew (World.grownBy.refl _ _)) | exact gb_drew (gb_drew (gb_drew (World.grownBy.refl _ _))))) (Nat.le_trans HLL.out H150.out) HCA.out rfl).mono ?_; rintro e w11 ⟨rfl, F11, hi, hs⟩; have T11 : Hid (Two F11 G w w11 a r (R.lose D).2 A) := (T9.out.keep (by first | exact World.grownBy.refl _ _ | exact gb_drew (World.grownBy.refl _ _) | exact gb_drew (gb_drew (World.grownBy.refl _ _)) | exact gb_drew (gb_drew (gb_drew (World.grownBy.refl _ _))))).stepA hi hs; have V11 : Hid (Var w11 bk ⟨3, D, K, X, .slice pb nb mb, bs, SH⟩) := ((HVV.out.keep (by first | exact World.grownBy.refl _ _ | exact gb_drew (World.grownBy.refl _ _) | exact gb_drew (gb_drew (World.grownBy.refl _ _)) | exact gb_drew (gb_drew (gb_drew (World.grownBy.refl _ _))))).step hs NB.out.1).1; clear hi hs)
                    | (go_at_call 21; refine (rlose_at T11.out.j HSM.out (Nat.le_trans HLL.out H150.out) HCA.out).mono ?_; rintro e w12 ⟨rfl, G12, hi, hs⟩; have HP12 : Hid (Ply w w12 a r (i + 1)) := ⟨F11, G12, _, _, T11.out.stepB hi hs, (HSM.out.lose D).2, Nat.le_trans (lose_len R D) (Nat.le_succ_of_le HLL.out)⟩; have HV12 : Hid (Var w12 bk ⟨3, D, K, X, .slice pb nb mb, bs, SH⟩) := (V11.out.step hs NB.out.2).1; clear hi hs)))
                have cv4 := HV12.out.cell.2.2.2.2.1
                go_wp2_with (first | (go_at_call 30; refine (ply_alike HP12.out H151.out HBV.out).mono ?_; rintro e w99 ⟨rfl, hg99⟩; have HP99 : Hid (Ply w w99 a r (i + 1)) := HP12.out.keep hg99; clear hg99) | fail)
                go_roundw
                case rel => exact ⟨i + 1, by omega, by go_num, by omega, a, rfl, HP99⟩
                case measure => simp [intOf]; omega
              · skip
                by_cases g4 : WH = 4
                · subst g4
                  go_wp2_with (first | (refine wpList_load_act rfl _ rfl rfl HLA.out ?_) | (refine wpList_store_act rfl _ _ rfl HLA.out HZ.out rfl rfl rfl ?_; intro w9 hh hg; have HVV : Hid (Var w9 wr.heap.size ⟨4, D, K, X, .slice pb nb mb, bs, SH⟩) := ⟨by rw [hh, HLA.out.ar]⟩; have HG9 : Hid (wr.grownBy w9 none) := hg; have cw := HVV.out.cell.1; have cc1 := HVV.out.cell.2.1; have cc2 := HVV.out.cell.2.2.1; have cc3 := HVV.out.cell.2.2.2.1; have cc4 := HVV.out.cell.2.2.2.2.1; have cc5 := HVV.out.cell.2.2.2.2.2; clear hh hg) | fail)
                  obtain ⟨bk, hbk⟩ : ∃ bk, bk = wr.heap.size := ⟨_, rfl⟩
                  have T9 : Hid (Two F G w w9 a r R A) := HT.out.keep HG9.out
                  have NB : Hid (¬ F bk ∧ ¬ G bk) := ⟨fun hf => (by have := HT.out.i.lt _ hf; omega), fun hf => (by have := HT.out.j.lt _ hf; omega)⟩
                  rw [← hbk] at HVV cw cc1 cc2 cc3 cc4 cc5 ⊢
                  clear hbk
                  obtain ⟨cA, hcA⟩ : ∃ cA : Int, ((R.replace D).1 : Int) = cA := ⟨_, rfl⟩
                  have HCA : Hid (((R.replace D).1 : Int) = cA) := hcA
                  clear hcA
                  clear cw cc1 cc2 cc3 cc4 cc5
                  go_region_held3 (fun w' => w'.cell? ⟨bk, 1, none⟩ = some (.int .i64 D)) (first | exact HVV.out.cell.2.1 | exact V11.out.cell.2.1 | exact (V11.out.keep (by first | exact World.grownBy.refl _ _ | exact gb_drew (World.grownBy.refl _ _) | exact gb_drew (gb_drew (World.grownBy.refl _ _)) | exact gb_drew (gb_drew (gb_drew (World.grownBy.refl _ _))))).cell.2.1 | exact HV12.out.cell.2.1)
                    ((first
                      | (go_at_call 22; refine (replace_at (T9.out.i.keep (by first | exact World.grownBy.refl _ _ | exact gb_drew (World.grownBy.refl _ _) | exact gb_drew (gb_drew (World.grownBy.refl _ _)) | exact gb_drew (gb_drew (gb_drew (World.grownBy.refl _ _))))) HCA.out rfl).mono ?_; rintro e w11 ⟨rfl, F11, hi, hs⟩; have T11 : Hid (Two F11 G w w11 a r (R.replace D).2 A) := (T9.out.keep (by first | exact World.grownBy.refl _ _ | exact gb_drew (World.grownBy.refl _ _) | exact gb_drew (gb_drew (World.grownBy.refl _ _)) | exact gb_drew (gb_drew (gb_drew (World.grownBy.refl _ _))))).stepA hi hs; have V11 : Hid (Var w11 bk ⟨4, D, K, X, .slice pb nb mb, bs, SH⟩) := ((HVV.out.keep (by first | exact World.grownBy.refl _ _ | exact gb_drew (World.grownBy.refl _ _) | exact gb_drew (gb_drew (World.grownBy.refl _ _)) | exact gb_drew (gb_drew (gb_drew (World.grownBy.refl _ _))))).step hs NB.out.1).1; clear hi hs)
                      | (go_at_call 23; refine (rreplace_at T11.out.j HSM.out HCA.out).mono ?_; rintro e w12 ⟨rfl, G12, hi, hs⟩; have HP12 : Hid (Ply w w12 a r (i + 1)) := ⟨F11, G12, _, _, T11.out.stepB hi hs, (HSM.out.replace D).2, Nat.le_trans (replace_len R D) (Nat.le_succ_of_le HLL.out)⟩; have HV12 : Hid (Var w12 bk ⟨4, D, K, X, .slice pb nb mb, bs, SH⟩) := (V11.out.step hs NB.out.2).1; clear hi hs)))
                  have cv4 := HV12.out.cell.2.2.2.2.1
                  go_wp2_with (first | (go_at_call 30; refine (ply_alike HP12.out H151.out HBV.out).mono ?_; rintro e w99 ⟨rfl, hg99⟩; have HP99 : Hid (Ply w w99 a r (i + 1)) := HP12.out.keep hg99; clear hg99) | fail)
                  go_roundw
                  case rel => exact ⟨i + 1, by omega, by go_num, by omega, a, rfl, HP99⟩
                  case measure => simp [intOf]; omega
                · skip
                  by_cases g5 : WH = 5
                  · subst g5
                    go_wp2_with (first | (refine wpList_load_act rfl _ rfl rfl HLA.out ?_) | (refine wpList_store_act rfl _ _ rfl HLA.out HZ.out rfl rfl rfl ?_; intro w9 hh hg; have HVV : Hid (Var w9 wr.heap.size ⟨5, D, K, X, .slice pb nb mb, bs, SH⟩) := ⟨by rw [hh, HLA.out.ar]⟩; have HG9 : Hid (wr.grownBy w9 none) := hg; have cw := HVV.out.cell.1; have cc1 := HVV.out.cell.2.1; have cc2 := HVV.out.cell.2.2.1; have cc3 := HVV.out.cell.2.2.2.1; have cc4 := HVV.out.cell.2.2.2.2.1; have cc5 := HVV.out.cell.2.2.2.2.2; clear hh hg) | fail)
                    obtain ⟨bk, hbk⟩ : ∃ bk, bk = wr.heap.size := ⟨_, rfl⟩
                    have T9 : Hid (Two F G w w9 a r R A) := HT.out.keep HG9.out
                    have NB : Hid (¬ F bk ∧ ¬ G bk) := ⟨fun hf => (by have := HT.out.i.lt _ hf; omega), fun hf => (by have := HT.out.j.lt _ hf; omega)⟩
                    rw [← hbk] at HVV cw cc1 cc2 cc3 cc4 cc5 ⊢
                    clear hbk
                    have HK : Hid (K < 9223372036854775808) := by have h2 : K ≤ 9223372036854775807 := HOKW.out.at_.2; show _ < _; omega
                    clear cw cc1 cc2 cc3 cc4 cc5
                    refine (fuse_at T9.out.i HK.out rfl).mono ?_
                    rintro e w11 ⟨rfl, F11, hi, hs⟩
                    have T11 : Hid (Two F11 G w w11 a r (R.fused K) A) := T9.out.stepA hi hs
                    have V11 : Hid (Var w11 bk ⟨5, D, K, X, .slice pb nb mb, bs, SH⟩) := (HVV.out.step hs NB.out.1).1
                    have d2 := V11.out.cell.2.2.1
                    clear hi hs
                    go_wp2_with fail
                    clear d2
                    refine (rfuse_yes T11.out.j HK.out).mono ?_
                    rintro e w12 ⟨rfl, hi, hs⟩
                    have HP12 : Hid (Ply w w12 a r (i + 1)) := ⟨F11, G, _, _, T11.out.stepB hi hs, HSM.out.fuse HK.out, Nat.le_succ_of_le HLL.out⟩
                    have HV12 : Hid (Var w12 bk ⟨5, D, K, X, .slice pb nb mb, bs, SH⟩) := (V11.out.step hs NB.out.2).1
                    clear hi hs
                    have cv4 := HV12.out.cell.2.2.2.2.1
                    go_wp2_with (first | (go_at_call 30; refine (ply_alike HP12.out H151.out HBV.out).mono ?_; rintro e w99 ⟨rfl, hg99⟩; have HP99 : Hid (Ply w w99 a r (i + 1)) := HP12.out.keep hg99; clear hg99) | fail)
                    go_roundw
                    case rel => exact ⟨i + 1, by omega, by go_num, by omega, a, rfl, HP99⟩
                    case measure => simp [intOf]; omega
                  · skip
                    by_cases g6 : WH = 6
                    · subst g6
                      go_wp2_with (first | (refine wpList_load_act rfl _ rfl rfl HLA.out ?_) | (refine wpList_store_act rfl _ _ rfl HLA.out HZ.out rfl rfl rfl ?_; intro w9 hh hg; have HVV : Hid (Var w9 wr.heap.size ⟨6, D, K, X, .slice pb nb mb, bs, SH⟩) := ⟨by rw [hh, HLA.out.ar]⟩; have HG9 : Hid (wr.grownBy w9 none) := hg; have cw := HVV.out.cell.1; have cc1 := HVV.out.cell.2.1; have cc2 := HVV.out.cell.2.2.1; have cc3 := HVV.out.cell.2.2.2.1; have cc4 := HVV.out.cell.2.2.2.2.1; have cc5 := HVV.out.cell.2.2.2.2.2; have cc6 : (w9.alloc (.cells #[] 5)).cell? ⟨wr.heap.size, 4, none⟩ = some (.slice pb nb mb) := (World.grownBy_alloc w9 _ none).cell cc4 (by simp); clear hh hg) | (at_builtin; refine stopp ?_) | fail)
                      obtain ⟨bk, hbk⟩ : ∃ bk, bk = wr.heap.size := ⟨_, rfl⟩
                      have T9 : Hid (Two F G w w9 a r R A) := HT.out.keep HG9.out
                      have NB : Hid (¬ F bk ∧ ¬ G bk) := ⟨fun hf => (by have := HT.out.i.lt _ hf; omega), fun hf => (by have := HT.out.j.lt _ hf; omega)⟩
                      rw [← hbk] at HVV cw cc1 cc2 cc3 cc4 cc5 ⊢
                      clear hbk
                      clear cc6
                      unfold Stopp
                      clear cw cc1 cc2 cc3 cc4 cc5
                      have HGA : Hid (w9.grownBy (w9.alloc (.cells #[] 5)) none) := World.grownBy_alloc _ _ none
                      have HE9 : Hid (Own w9.heap.size (w9.alloc (.cells #[] 5)) (.slice (some ⟨w9.heap.size, 0, none⟩) 0 0) []) := own_lit (xs := []) (heap_alloc_new w9 _) (Nat.le_refl _) rfl (by simp) (by simp)
                      have HVA : Hid (Vec (w9.alloc (.cells #[] 5)) (.slice pb nb mb) bs) := (HBV.out.keep T9.out.bi.grown).keep HGA.out
                      refine wpList_append_vec rfl _ _ rfl _ _ rfl rfl HE9.out HVA.out (by simp) (by have := HVA.out.len; simpa using this) ?_
                      intro v10 w10 ho hg
                      rw [List.nil_append] at ho
                      have G10 : Hid (w9.grownBy w10 none) := grown_new HGA.out hg (fun i e => by have e2 : w9.heap.size = i := Option.some.inj e; omega)
                      have T10 : Hid (Two F G w w10 a r R A) := T9.out.keep G10.out
                      have V10 : Hid (Var w10 bk ⟨6, D, K, X, .slice pb nb mb, bs, SH⟩) := HVV.out.keep G10.out
                      have HO10 : Hid (Aw F w10 v10 bs) := ho.aw T9.out.i.lt
                      clear ho hg
                      go_wp2_with fail
                      refine (crash_at T10.out.i (Nat.le_trans HLL.out H150.out) HO10.out rfl).mono ?_
                      rintro e w11 ⟨rfl, F11, hi, hs⟩
                      have T11 : Hid (Two F11 G w w11 a r (R.crash bs) A) := T10.out.stepA hi hs
                      have V11 : Hid (Var w11 bk ⟨6, D, K, X, .slice pb nb mb, bs, SH⟩) := (V10.out.step hs NB.out.1).1
                      have d4 := V11.out.cell.2.2.2.2.1
                      clear hi hs
                      go_wp2_with fail
                      clear d4
                      refine (rcrash_any T11.out.j HSM.out.fit (by rw [HSM.out.llen]; exact Nat.le_trans HLL.out H150.out) (T11.out.bj.aw HBV.out).vec (T11.out.bj.aw HBV.out).off).mono ?_
                      rintro e w12 ⟨rfl, G12, hi, hs⟩
                      have HP12 : Hid (Ply w w12 a r (i + 1)) := ⟨F11, G12, _, _, T11.out.stepB hi hs, HSM.out.crash bs, Nat.zero_le _⟩
                      have HV12 : Hid (Var w12 bk ⟨6, D, K, X, .slice pb nb mb, bs, SH⟩) := (V11.out.step hs NB.out.2).1
                      clear hi hs
                      have cv4 := HV12.out.cell.2.2.2.2.1
                      go_wp2_with (first | (go_at_call 30; refine (ply_alike HP12.out H151.out HBV.out).mono ?_; rintro e w99 ⟨rfl, hg99⟩; have HP99 : Hid (Ply w w99 a r (i + 1)) := HP12.out.keep hg99; clear hg99) | fail)
                      go_roundw
                      case rel => exact ⟨i + 1, by omega, by go_num, by omega, a, rfl, HP99⟩
                      case measure => simp [intOf]; omega
                    · skip
                      by_cases g7 : WH = 7
                      · subst g7
                        go_wp2_with (first | (refine wpList_load_act rfl _ rfl rfl HLA.out ?_) | (refine wpList_store_act rfl _ _ rfl HLA.out HZ.out rfl rfl rfl ?_; intro w9 hh hg; have HVV : Hid (Var w9 wr.heap.size ⟨7, D, K, X, .slice pb nb mb, bs, SH⟩) := ⟨by rw [hh, HLA.out.ar]⟩; have HG9 : Hid (wr.grownBy w9 none) := hg; have cw := HVV.out.cell.1; have cc1 := HVV.out.cell.2.1; have cc2 := HVV.out.cell.2.2.1; have cc3 := HVV.out.cell.2.2.2.1; have cc4 := HVV.out.cell.2.2.2.2.1; have cc5 := HVV.out.cell.2.2.2.2.2; clear hh hg) | fail)
                        obtain ⟨bk, hbk⟩ : ∃ bk, bk = wr.heap.size := ⟨_, rfl⟩
                        have T9 : Hid (Two F G w w9 a r R A) := HT.out.keep HG9.out
                        have NB : Hid (¬ F bk ∧ ¬ G bk) := ⟨fun hf => (by have := HT.out.i.lt _ hf; omega), fun hf => (by have := HT.out.j.lt _ hf; omega)⟩
                        rw [← hbk] at HVV cw cc1 cc2 cc3 cc4 cc5 ⊢
                        clear hbk
                        clear cw cc1 cc2 cc3 cc4 cc5
                        refine (copy_yes T9.out.i (Nat.le_trans HLL.out H150.out)).mono ?_
                        rintro e w10 ⟨y, Fy, rfl, h1, h2, h3⟩
                        have W10 : Hid (Wild F Fy G w w10 a bk y r R R A ⟨7, D, K, X, .slice pb nb mb, bs, SH⟩) := ⟨T9.out.i.keep h3, T9.out.bi.keep h3, ⟨h1, T9.out.j.keep h3, fun k hf hg => (by have e1 := h2 k hf; have e2 := T9.out.j.lt k hg; omega), ⟨grown_trans T9.out.bi.grown h3, fun k hk => Nat.le_trans T9.out.bi.grown.size (h2 k hk)⟩, T9.out.bj.keep h3⟩, fun k hf hg => (by have e1 := h2 k hg; have e2 := T9.out.i.lt k hf; omega), T9.out.ap, NB.out.1, HVV.out.keep h3⟩
                        clear h1 h2 h3 T9 HVV
                        go_wp2_with fail
                        refine (full_at (F := F) W10.out.i.lt (x := 99) (by decide) rfl).mono ?_
                        rintro e w11 ⟨pf, rfl, hv, hg⟩
                        have W11 : Hid (Wild F Fy G w w11 a bk y r R R A ⟨7, D, K, X, .slice pb nb mb, bs, SH⟩) := W10.out.keep hg
                        have HV11 : Hid (Aw F w11 (.slice pf 64 64) (fl 99)) := hv
                        clear hv hg W10
                        go_wp2_with fail
                        refine (write_any W11.out.i 0 0 HV11.out.vec HV11.out.off (Nat.le_trans HLL.out H150.out)).mono ?_
                        rintro e w12 ⟨rfl, F12, hi, hs⟩
                        obtain ⟨Q12, hQ12⟩ : ∃ Q, Q = (R.writes 0 0 (fl 99)).2 := ⟨_, rfl⟩
                        rw [← hQ12] at hi
                        have HQ12 : Hid (Q12.L.length ≤ 1000000) := by have h1 := writes_len R 0 0 (fl 99); have h2 := HLL.out; have h3 := H149.out; show _ ≤ _; rw [hQ12]; omega
                        have W12 : Hid (Wild F12 Fy G w w12 a bk y r Q12 R A ⟨7, D, K, X, .slice pb nb mb, bs, SH⟩) := W11.out.step hi hs
                        clear hi hs W11 HV11 hQ12
                        go_wp2_with fail
                        refine (barrier_yes W12.out.i).mono ?_
                        rintro e w13 ⟨rfl, hi, hs⟩
                        have HQ13 : Hid (Q12.barrier.2.L.length ≤ 1000000) := Nat.le_trans (barrier_len Q12) HQ12.out
                        have W13 : Hid (Wild F12 Fy G w w13 a bk y r Q12.barrier.2 R A ⟨7, D, K, X, .slice pb nb mb, bs, SH⟩) := W12.out.step hi hs
                        clear hi hs W12
                        go_wp2_with fail
                        refine (lose_any W13.out.i 0 HQ13.out).mono ?_
                        rintro e w14 ⟨rfl, hi, hs⟩
                        have W14 : Hid (Wild F12 Fy G w w14 a bk y r (Q12.barrier.2.lose 0).2 R A ⟨7, D, K, X, .slice pb nb mb, bs, SH⟩) := W13.out.step hi hs
                        clear hi hs W13
                        go_wp2_with fail
                        refine (fuse_yes W14.out.i (n := 1) (by decide)).mono ?_
                        rintro e w15 ⟨rfl, hi, hs⟩
                        have W15 : Hid (Wild F12 Fy G w w15 a bk y r ((Q12.barrier.2.lose 0).2.fused 1) R A ⟨7, D, K, X, .slice pb nb mb, bs, SH⟩) := W14.out.step hi hs
                        have HP15 : Hid (Ply w w15 y r (i + 1)) := ⟨Fy, G, R, A, W15.out.t, HSM.out, Nat.le_succ_of_le HLL.out⟩
                        have HV15 : Hid (Var w15 bk ⟨7, D, K, X, .slice pb nb mb, bs, SH⟩) := W15.out.v
                        clear hi hs W14
                        have cv4 := HV15.out.cell.2.2.2.2.1
                        go_wp2_with (first | (go_at_call 30; refine (ply_alike HP15.out H151.out HBV.out).mono ?_; rintro e w99 ⟨rfl, hg99⟩; have HP99 : Hid (Ply w w99 y r (i + 1)) := HP15.out.keep hg99; clear hg99) | fail)
                        go_roundw
                        case rel => exact ⟨i + 1, by omega, by go_num, by omega, y, rfl, HP99⟩
                        case measure => simp [intOf]; omega
                      · skip
                        go_wp2_with (first | (refine wpList_load_act rfl _ rfl rfl HLA.out ?_) | (refine wpList_store_act rfl _ _ rfl HLA.out HZ.out rfl rfl rfl ?_; intro w9 hh hg; have HVV : Hid (Var w9 wr.heap.size ⟨WH, D, K, X, .slice pb nb mb, bs, SH⟩) := ⟨by rw [hh, HLA.out.ar]⟩; have HG9 : Hid (wr.grownBy w9 none) := hg; have cw := HVV.out.cell.1; have cc1 := HVV.out.cell.2.1; have cc2 := HVV.out.cell.2.2.1; have cc3 := HVV.out.cell.2.2.2.1; have cc4 := HVV.out.cell.2.2.2.2.1; have cc5 := HVV.out.cell.2.2.2.2.2; clear hh hg) | (go_at_call 30; refine stopp ?_) | fail)
                        obtain ⟨bk, hbk⟩ : ∃ bk, bk = wr.heap.size := ⟨_, rfl⟩
                        have T9 : Hid (Two F G w w9 a r R A) := HT.out.keep HG9.out
                        have NB : Hid (¬ F bk ∧ ¬ G bk) := ⟨fun hf => (by have := HT.out.i.lt _ hf; omega), fun hf => (by have := HT.out.j.lt _ hf; omega)⟩
                        rw [← hbk] at HVV cw cc1 cc2 cc3 cc4 cc5 ⊢
                        clear hbk
                        have HP9 : Hid (Ply w w9 a r (i + 1)) := ⟨F, G, R, A, T9.out, HSM.out, Nat.le_succ_of_le HLL.out⟩
                        unfold Stopp
                        refine (ply_alike HP9.out H151.out HBV.out).mono ?_
                        rintro e w99 ⟨rfl, hg99⟩
                        have HP99 : Hid (Ply w w99 a r (i + 1)) := HP9.out.keep hg99
                        clear hg99 cw cc1 cc2 cc3 cc4 cc5
                        go_wp2
                        go_roundw
                        case rel => exact ⟨i + 1, by omega, by go_num, by omega, a, rfl, HP99⟩
                        case measure => simp [intOf]; omega
    · have i1 : ¬ (i : Int) < (N : Int) := by omega
      have HGG : Hid (w.grownBy wr none) := HX.out.grown
      clear HX
      go_wp2
      go_ret
      exact ⟨rfl, HGG.out⟩
end arrayPlays
end Go.Proofs.Ytfmlohedebdomaa
