/- The walk of ArrayBlank. -/
import Derived.Test.YtfmlohedebdomaaWith6
import Derived.Test.YtfmlohedebdomaaAwake6
import Derived.Deep.RegionHeld3
set_option linter.unusedSimpArgs false
set_option linter.unusedVariables false
namespace Go.Proofs.Ytfmlohedebdomaa
open Go.RowKit

/-- What writes on disk 0 alone leave. -/
structure BlankI (R : AM.Raw) (i : Nat) : Prop where
  c2 : R.C.length = 2
  n4 : R.n = 4
  off : R.off = false
  fuse : R.fuse = 0
  on : ∃ xs, R.C[0]? = some (some xs)
  L : ∀ l ∈ R.L, l.d = 0
  len : R.L.length ≤ i
theorem on_of {R : AM.Raw} {d : Nat} {xs : List Nat} (h : R.C[d]? = some (some xs)) : R.on (d : Int) = true := by
  have hlt := (List.getElem?_eq_some_iff.1 h).1
  simp only [AM.Raw.on, Int.toNat_natCast, List.getD, h]
  simp [hlt]
theorem reach_of {R : AM.Raw} {d k : Nat} {xs : List Nat} (h : R.C[d]? = some (some xs)) (ho : R.off = false) (hk : k < R.n) : R.reach (d : Int) (k : Int) = 0 := by
  have hlt := (List.getElem?_eq_some_iff.1 h).1
  simp [AM.Raw.reach, ho, on_of h, hlt, hk]
theorem burnt_of {R : AM.Raw} (h : R.fuse = 0) : R.burnt = R ∧ R.burns = false := by simp [AM.Raw.burnt, AM.Raw.burns, h]
theorem writes_of {R : AM.Raw} {d k : Nat} {b : List Nat} (hr : R.reach (d : Int) (k : Int) = 0) (hb : b.length = 64) (hf : R.fuse = 0) : R.writes (d : Int) (k : Int) b = (0, R.fly d k b) := by
  simp [AM.Raw.writes, hr, hb, burnt_of hf]
theorem BlankI.write {R : AM.Raw} {i : Nat} (h : BlankI R i) {r : Nat} (hr : r < 4) {b : List Nat} (hb : b.length = 64) : (R.writes 0 (r : Int) b).1 = 0 ∧ BlankI (R.writes 0 (r : Int) b).2 (i + 1) := by
  obtain ⟨xs, hx⟩ := h.on
  have e : R.writes 0 (r : Int) b = (0, R.fly 0 r b) := writes_of (d := 0) (reach_of hx h.off (by rw [h.n4]; exact hr)) hb h.fuse
  rw [e]
  refine ⟨rfl, ⟨by simp [AM.Raw.fly, AM.lay_len, h.c2], h.n4, h.off, h.fuse, ⟨_, AM.lay_at r b hx⟩, fun l hl => ?_, by simp [AM.Raw.fly]; exact h.len⟩⟩
  rcases List.mem_append.1 hl with hl | hl
  · exact h.L l hl
  · obtain rfl := List.mem_singleton.1 hl; rfl
theorem BlankI.lost {R : AM.Raw} {i : Nat} (h : BlankI R i) : (R.lose 0).1 = 0 ∧ (R.lose 0).2.L = [] ∧ ((R.lose 0).2.replace 0).1 = 0 ∧ ∀ ps, ((((R.lose 0).2.replace 0).2.crash ps).off = false ∧ (((R.lose 0).2.replace 0).2.crash ps).n = 4 ∧ (((R.lose 0).2.replace 0).2.crash ps).C[0]? = some (some (AM.zs 256))) := by
  obtain ⟨xs, hx⟩ := h.on
  have hon : R.on 0 = true := on_of (d := 0) hx
  have hlt : 0 < R.C.length := by rw [h.c2]; decide
  have hfi : R.find 0 = 0 := by simp [AM.Raw.find, hlt]
  have e : R.lose 0 = (0, R.lost 0) := by simp [AM.Raw.lose, hfi, hon]
  have hL : (R.lost 0).L = [] := by
    show R.L.filter _ = []
    rw [List.filter_eq_nil_iff]
    intro l hl
    simp [h.L l hl]
  have hon2 : (R.lost 0).on 0 = false := by simp [AM.Raw.on, AM.Raw.lost, List.getD, hlt]
  have hfi2 : (R.lost 0).find 0 = 0 := by simp [AM.Raw.find, AM.Raw.lost, hlt]
  have e2 : (R.lost 0).replace 0 = (0, (R.lost 0).blank 0) := by simp [AM.Raw.replace, hfi2, hon2]
  rw [e]
  refine ⟨rfl, hL, by rw [e2], fun ps => ?_⟩
  rw [e2]
  refine ⟨rfl, h.n4, ?_⟩
  have hL2 : ((R.lost 0).blank 0).L = [] := hL
  show (AM.crashC ((R.lost 0).blank 0).C ((R.lost 0).blank 0).L ps)[0]? = _
  rw [hL2]
  show ((R.C.set 0 none).set 0 (some (AM.zs (R.n * 64))))[0]? = _
  simp [hlt, h.n4]
theorem read_of {R : AM.Raw} {d k : Nat} {xs : List Nat} (h : R.C[d]? = some (some xs)) (ho : R.off = false) (hk : k < R.n) : R.read (d : Int) (k : Int) = AM.sec xs k := by
  unfold AM.Raw.read
  rw [if_pos (reach_of h ho hk), Int.toNat_natCast, Int.toNat_natCast, AM.look_at _ h]

theorem replace_L (R : AM.Raw) (d : Int) : (R.replace d).2.L = R.L := by
  unfold AM.Raw.replace
  split
  · rfl
  · split <;> rfl

namespace arrayBlank
set_option maxRecDepth 100000 in
set_option maxHeartbeats 3200000 in
theorem walk {w : World} {v u : Value} {l : List ActR} {ps : List Nat} (hl : Acts w v l) (hp : Vec w u ps) : Calls Try.prog 7 #[v, u] w fun e w' => e = .returned (.bool true) ∧ w.grownBy w' none := by
  obtain ⟨p, N, cap, rfl, hN⟩ := hl.opened
  obtain ⟨pu, nu, cu, rfl, hnu⟩ := hp.opened
  have HA : Hid (Acts w (.slice p N cap) l) := hl
  have HP : Hid (Vec w (.slice pu nu cu) ps) := hp
  have HN : Hid (N = l.length) := hN
  have hNb : N ≤ 140737488351232 := by rw [hN]; exact hl.len
  have zA := run_zeroAct
  obtain ⟨ZR, hZR⟩ : ∃ ZR : Array Value, ZR = #[.int .i64 0, .int .i64 0, .int .i64 0, .int .u8 0, .slice none 0 0, .bool false] := ⟨_, rfl⟩
  rw [← hZR] at zA
  have HZ : Hid (ZR.size = 6) := by show _ = _; rw [hZR]; rfl
  clear hl hp hN hnu hZR
  go_enter Try.func7, Try.ntmps7
  go_wp2_with fail
  refine (new_at (w := w) (N := 2) (n := 4) (by decide) (by decide) (by decide) (by decide) rfl rfl).mono ?_
  rintro e w1 ⟨a, rfl, F1, hi, hb⟩
  have HI : Hid (Is F1 w1 a (AM.Raw.new 2 4)) := hi
  have HB : Hid (Base w F1 w1) := hb
  clear hi hb
  go_wp2_with fail
  refine (awake_yes w1).mono ?_
  rintro e w2 ⟨rfl, hg⟩
  have HI2 : Hid (Is F1 w2 a (AM.Raw.new 2 4)) := HI.out.keep hg
  have HB2 : Hid (Base w F1 w2) := HB.out.keep hg
  clear hg HI HB
  go_wp2_with fail
  go_loopw [24] (fun ti wr => ∃ i : Nat, i ≤ N ∧ ti = .int .i64 (i : Int) ∧ i ≤ 30 ∧ Hid (∃ F R, Is F wr a R ∧ Base w F wr ∧ BlankI R i)) (fun ti _ => N - (intOf ti).toNat)
  case atStart => exact ⟨0, by omega, rfl, by omega, F1, _, HI2.out, HB2.out, ⟨rfl, rfl, rfl, rfl, ⟨_, rfl⟩, by simp [AM.Raw.new], by simp [AM.Raw.new]⟩⟩
  case round =>
    clear HI2 HB2
    obtain ⟨i, hi, rfl, h30, HX⟩ := hrel
    by_cases hlt : i < N
    · have i1 : (i : Int) < (N : Int) := by omega
      have hil : i < l.length := by rw [← HN.out]; exact hlt
      obtain ⟨F, R, h1, h2, h3⟩ := HX.out
      obtain ⟨b, off, rfl, hrg, hok⟩ := (HA.out.keep h2.grown).at hil
      obtain ⟨c, hce⟩ : ∃ c, c = l[i] := ⟨_, rfl⟩
      rw [← hce] at hrg hok
      obtain ⟨AR, hla⟩ := laid hrg hok
      have HLA : Hid (Laid wr b (off + i * 6) wr.heap.size AR c) := hla
      clear hrg hla hce
      by_cases hi30 : i = 30
      · clear hok h1 h2 h3 F R
        subst hi30
        go_wp2_with (first | (refine wpList_load_act rfl _ rfl rfl HLA.out ?_) | (refine wpList_store_act rfl _ _ rfl HLA.out HZ.out rfl rfl rfl ?_; intro w9 hh hg; have HVV : Hid (Var w9 wr.heap.size c) := ⟨by rw [hh, HLA.out.ar]⟩; have HG9 : Hid (wr.grownBy w9 none) := hg; clear hh hg) | fail)
        have HX9 : Hid (∃ F R, Is F w9 a R ∧ Base w F w9 ∧ BlankI R 30) := by
          obtain ⟨F, R, h1, h2, h3⟩ := HX.out
          exact ⟨F, R, h1.keep HG9.out, h2.keep HG9.out, h3⟩
        clear HX HG9 HVV HLA
        obtain ⟨F, R, h1, h2, h3⟩ := HX9.out
        obtain ⟨q1, q2, q3, q4⟩ := h3.lost
        have hL : R.L.length ≤ 1000000 := Nat.le_trans h3.len (by omega)
        have HI : Hid (Is F w9 a R) := h1
        have HB : Hid (Base w F w9) := h2
        have HQ : Hid (((R.lose 0).1 : Int) = 0 ∧ (((R.lose 0).2.L.length : Nat) : Int) = 0 ∧ (((R.lose 0).2.replace 0).1 : Int) = 0) := ⟨by rw [q1]; rfl, by rw [q2]; rfl, by rw [q3]; rfl⟩
        have HL : Hid (R.L.length ≤ 1000000) := hL
        have HL2 : Hid (((R.lose 0).2.replace 0).2.L.length ≤ 1000000) := by
          show _ ≤ _
          rw [replace_L, q2]; decide
        have HR : Hid (∀ k : Nat, k < 4 → ((((R.lose 0).2.replace 0).2.crash ps).reach 0 (k : Int) : Int) = 0 ∧ (((R.lose 0).2.replace 0).2.crash ps).read 0 (k : Int) = fl 0) := fun k hk => by
          obtain ⟨r1, r2, r3⟩ := q4 ps
          have a1 := reach_of (d := 0) (k := k) r3 r1 (by rw [r2]; exact hk)
          have a2 := read_of (d := 0) (k := k) r3 r1 (by rw [r2]; exact hk)
          exact ⟨congrArg (fun m : Nat => (m : Int)) a1, a2.trans (AM.sec_zs (n := 4) hk)⟩
        clear h1 h2 h3 q1 q2 q3 q4 hL HX9
        refine (lose_at HI.out HL.out (c := 0) (R' := (R.lose 0).2) HQ.out.1 rfl).mono ?_
        rintro e w3 ⟨rfl, F3, hi, hs⟩
        have HI3 : Hid (Is F3 w3 a (R.lose 0).2) := hi
        have HB3 : Hid (Base w F3 w3) := HB.out.step hs
        clear hi hs HI HB
        go_wp2_with fail
        refine (flight_at HI3.out (c := 0) HQ.out.2.1).mono ?_
        rintro e w9 ⟨rfl, hw⟩
        obtain rfl := hw.symm
        clear hw
        go_wp2_with fail
        refine (replace_at HI3.out (c := 0) (R' := ((R.lose 0).2.replace 0).2) HQ.out.2.2 rfl).mono ?_
        rintro e w4 ⟨rfl, F4, hi, hs⟩
        have HI4 : Hid (Is F4 w4 a ((R.lose 0).2.replace 0).2) := hi
        have HB4 : Hid (Base w F4 w4) := HB3.out.step hs
        clear hi hs HI3 HB3
        go_wp2_with fail
        refine (crash_at HI4.out HL2.out (HB4.out.aw HP.out) (R' := ((R.lose 0).2.replace 0).2.crash ps) rfl).mono ?_
        rintro e w5 ⟨rfl, F5, hi, hs⟩
        have HI5 : Hid (Is F5 w5 a (((R.lose 0).2.replace 0).2.crash ps)) := hi
        have HB5 : Hid (Base w F5 w5) := HB4.out.step hs
        clear hi hs HI4 HB4
        generalize ((R.lose 0).2.replace 0).2.crash ps = R5 at *
        go_wp2_with fail
        obtain ⟨wa, hwa⟩ : ∃ wa, wa = wr := ⟨wr, rfl⟩
        subst hwa
        go_loopw [56] (fun ti wr => ∃ k : Nat, k ≤ 4 ∧ ti = .int .i64 (k : Int) ∧ Hid (Is F5 wr a R5 ∧ Base w F5 wr)) (fun ti _ => 4 - (intOf ti).toNat)
        case atStart => exact ⟨0, by omega, rfl, HI5.out, HB5.out⟩
        case round =>
          clear HI5 HB5
          obtain ⟨k, hk, rfl, HY⟩ := hrel
          by_cases hk4 : k < 4
          · have i1 : (k : Int) < 4 := by omega
            have HRk : Hid ((R5.reach 0 (k : Int) : Int) = 0 ∧ R5.read 0 (k : Int) = fl 0) := HR.out k hk4
            go_wp2_with fail
            refine (read_at HY.out.1 (c := 0) (xs := fl 0) HRk.out.1 HRk.out.2).mono ?_
            rintro e w6 ⟨p6, n6, m6, rfl, hv, hg⟩
            have HI6 : Hid (Is F5 w6 a R5 ∧ Base w F5 w6) := ⟨HY.out.1.keep hg, HY.out.2.keep hg⟩
            have HV6 : Hid (Aw F5 w6 (.slice p6 n6 m6) (fl 0)) := hv
            clear hv hg HY
            go_wp2_with fail
            refine (full_at (F := F5) (w := w6) HI6.out.1.lt (x := 0) (by decide) rfl).mono ?_
            rintro e w7 ⟨p7, rfl, hv, hg⟩
            have HI7 : Hid (Is F5 w7 a R5 ∧ Base w F5 w7) := ⟨HI6.out.1.keep hg, HI6.out.2.keep hg⟩
            have HV7 : Hid (Aw F5 w7 (.slice p6 n6 m6) (fl 0)) := HV6.out.keep hg
            have HV8 : Hid (Aw F5 w7 (.slice p7 64 64) (fl 0)) := hv
            clear hv hg HI6 HV6
            go_wp2_with fail
            refine (equal_at HV7.out.vec HV8.out.vec rfl).mono ?_
            rintro e w9 ⟨rfl, hw⟩
            obtain rfl := hw.symm
            clear hw HV7 HV8
            go_wp2
            go_roundw
            case rel => exact ⟨k + 1, by omega, by go_num, HI7⟩
            case measure => simp [intOf]; omega
          · have i1 : ¬ (k : Int) < 4 := by omega
            go_wp2
            go_ret
            exact ⟨rfl, HY.out.2.grown⟩
      · have HI : Hid (Is F wr a R ∧ Base w F wr) := ⟨h1, h2⟩
        have HBI : Hid (BlankI R i) := h3
        have HL : Hid (R.L.length ≤ 1000000) := Nat.le_trans h3.len (by omega)
        have hA := hok.at_
        have hX := hok.x
        clear hok h1 h2 h3 HX
        go_wp2_with (first | (refine wpList_load_act rfl _ rfl rfl HLA.out ?_) | (refine wpList_store_act rfl _ _ rfl HLA.out HZ.out rfl rfl rfl ?_; intro w9 hh hg; have HVV : Hid (Var w9 wr.heap.size c) := ⟨by rw [hh, HLA.out.ar]⟩; have HG9 : Hid (wr.grownBy w9 none) := hg; clear hh hg) | fail)
        obtain ⟨A, hAe⟩ : ∃ A, A = c.at_ := ⟨_, rfl⟩
        obtain ⟨X, hXe⟩ : ∃ X, X = c.x := ⟨_, rfl⟩
        have HS : Hid (w9.cell? ⟨wr.heap.size, 2, none⟩ = some (.int .i64 A) ∧ w9.cell? ⟨wr.heap.size, 3, none⟩ = some (.int .u8 (X : Int))) := by rw [hAe, hXe]; exact ⟨HVV.out.cell.2.2.1, HVV.out.cell.2.2.2.1⟩
        rw [← hAe] at hA
        rw [← hXe] at hX
        have HAA : Hid (I64 A ∧ X < 256) := ⟨hA, hX⟩
        have HI9 : Hid (Is F w9 a R ∧ Base w F w9) := ⟨HI.out.1.keep HG9.out, HI.out.2.keep HG9.out⟩
        have HSK : Hid (∀ W, w9.grownBy W none → W.cell? ⟨wr.heap.size, 2, none⟩ = some (.int .i64 A) ∧ W.cell? ⟨wr.heap.size, 3, none⟩ = some (.int .u8 (X : Int))) := fun W g => ⟨g.cell HS.out.1 (by simp), g.cell HS.out.2 (by simp)⟩
        have HSW : Hid (∀ (W W' : World) (F' : Nat → Prop), w9.grownBy W none → Step F W F' W' → W'.cell? ⟨wr.heap.size, 2, none⟩ = some (.int .i64 A) ∧ W'.cell? ⟨wr.heap.size, 3, none⟩ = some (.int .u8 (X : Int))) := fun W W' F' g s => by
          have hF : ¬ F wr.heap.size := fun hf => by have := HI.out.1.lt _ hf; omega
          have h9 := ((HVV.out.keep g).step s hF).1.cell
          rw [hAe, hXe]
          exact ⟨h9.2.2.1, h9.2.2.2.1⟩
        clear hAe hXe hA hX HVV HLA HI HG9
        go_wp2_with fail
        go_region_held3 (fun w' => w'.cell? ⟨wr.heap.size, 2, none⟩ = some (.int .i64 A) ∧ w'.cell? ⟨wr.heap.size, 3, none⟩ = some (.int .u8 (X : Int))) (first | exact HS.out | exact HSK.out _ (by first | exact World.grownBy.refl _ _ | exact gb_drew (World.grownBy.refl _ _) | exact gb_drew (gb_drew (World.grownBy.refl _ _))) | exact HSF.out | exact HSF2.out _ (by first | exact World.grownBy.refl _ _ | exact gb_drew (World.grownBy.refl _ _) | exact gb_drew (gb_drew (World.grownBy.refl _ _))) | exact HS12.out)
          ((first
            | (go_at_call 34; refine (within_any _ HAA.out.1 (n := 4) (by decide) (by decide)).mono ?_; rintro e w10 ⟨r, hr, rfl, hw⟩; obtain rfl := hw.symm; clear hw; have HR : Hid (r < 4) := hr; clear hr)
            | (go_at_call 29; refine (full_at (F := F) (HI9.out.1.keep (w' := _) (by first | exact World.grownBy.refl _ _ | exact gb_drew (World.grownBy.refl _ _) | exact gb_drew (gb_drew (World.grownBy.refl _ _)))).lt (x := X) HAA.out.2 rfl).mono ?_; rintro e w11 ⟨p11, rfl, hv, hg⟩; have HGF : Hid (w9.grownBy w11 none) := grown_trans (by first | exact World.grownBy.refl _ _ | exact gb_drew (World.grownBy.refl _ _) | exact gb_drew (gb_drew (World.grownBy.refl _ _))) hg; have HVF : Hid (Aw F w11 (.slice p11 64 64) (fl X)) := hv; have HSF : Hid (w11.cell? ⟨wr.heap.size, 2, none⟩ = some (.int .i64 A) ∧ w11.cell? ⟨wr.heap.size, 3, none⟩ = some (.int .u8 (X : Int))) := HSK.out _ HGF.out; have HSF2 : Hid (∀ W, w11.grownBy W none → W.cell? ⟨wr.heap.size, 2, none⟩ = some (.int .i64 A) ∧ W.cell? ⟨wr.heap.size, 3, none⟩ = some (.int .u8 (X : Int))) := fun W g => HSK.out _ (grown_trans HGF.out g); clear hv hg)
            | (go_at_call 13; refine (write_at (F := F) (HI9.out.1.keep (grown_trans HGF.out (by first | exact World.grownBy.refl _ _ | exact gb_drew (World.grownBy.refl _ _) | exact gb_drew (gb_drew (World.grownBy.refl _ _))))) (HVF.out.keep (by first | exact World.grownBy.refl _ _ | exact gb_drew (World.grownBy.refl _ _) | exact gb_drew (gb_drew (World.grownBy.refl _ _)))) HL.out (c := 0) (congrArg (fun m : Nat => (m : Int)) (HBI.out.write HR.out (fl_len X)).1) rfl).mono ?_; rintro e w12 ⟨rfl, F12, hi12, hs12⟩; have HX12 : Hid (∃ F R, Is F w12 a R ∧ Base w F w12 ∧ BlankI R (i + 1)) := ⟨F12, _, hi12, (HI9.out.2.keep (grown_trans HGF.out (by first | exact World.grownBy.refl _ _ | exact gb_drew (World.grownBy.refl _ _) | exact gb_drew (gb_drew (World.grownBy.refl _ _))))).step hs12, (HBI.out.write HR.out (fl_len X)).2⟩; have HS12 : Hid (w12.cell? ⟨wr.heap.size, 2, none⟩ = some (.int .i64 A) ∧ w12.cell? ⟨wr.heap.size, 3, none⟩ = some (.int .u8 (X : Int))) := HSW.out _ _ _ (grown_trans HGF.out (by first | exact World.grownBy.refl _ _ | exact gb_drew (World.grownBy.refl _ _) | exact gb_drew (gb_drew (World.grownBy.refl _ _)))) hs12; clear hi12 hs12)))
        all_goals
          go_wp2
          go_roundw
          case rel => exact ⟨i + 1, by omega, by go_num, by omega, HX12⟩
          case measure => simp [intOf]; omega
    · have i1 : ¬ (i : Int) < (N : Int) := by omega
      obtain ⟨F, R, h1, h2, h3⟩ := HX.out
      obtain ⟨q1, q2, q3, q4⟩ := h3.lost
      have hL : R.L.length ≤ 1000000 := Nat.le_trans h3.len (by omega)
      have HI : Hid (Is F wr a R) := h1
      have HB : Hid (Base w F wr) := h2
      have HQ : Hid (((R.lose 0).1 : Int) = 0 ∧ (((R.lose 0).2.L.length : Nat) : Int) = 0 ∧ (((R.lose 0).2.replace 0).1 : Int) = 0) := ⟨by rw [q1]; rfl, by rw [q2]; rfl, by rw [q3]; rfl⟩
      have HL : Hid (R.L.length ≤ 1000000) := hL
      have HL2 : Hid (((R.lose 0).2.replace 0).2.L.length ≤ 1000000) := by
        show _ ≤ _
        rw [replace_L, q2]; decide
      have HR : Hid (∀ k : Nat, k < 4 → ((((R.lose 0).2.replace 0).2.crash ps).reach 0 (k : Int) : Int) = 0 ∧ (((R.lose 0).2.replace 0).2.crash ps).read 0 (k : Int) = fl 0) := fun k hk => by
        obtain ⟨r1, r2, r3⟩ := q4 ps
        have a1 := reach_of (d := 0) (k := k) r3 r1 (by rw [r2]; exact hk)
        have a2 := read_of (d := 0) (k := k) r3 r1 (by rw [r2]; exact hk)
        exact ⟨congrArg (fun m : Nat => (m : Int)) a1, a2.trans (AM.sec_zs (n := 4) hk)⟩
      clear h1 h2 h3 q1 q2 q3 q4 hL HX
      go_wp2_with fail
      refine (lose_at HI.out HL.out (c := 0) (R' := (R.lose 0).2) HQ.out.1 rfl).mono ?_
      rintro e w3 ⟨rfl, F3, hi, hs⟩
      have HI3 : Hid (Is F3 w3 a (R.lose 0).2) := hi
      have HB3 : Hid (Base w F3 w3) := HB.out.step hs
      clear hi hs HI HB
      go_wp2_with fail
      refine (flight_at HI3.out (c := 0) HQ.out.2.1).mono ?_
      rintro e w9 ⟨rfl, hw⟩
      obtain rfl := hw.symm
      clear hw
      go_wp2_with fail
      refine (replace_at HI3.out (c := 0) (R' := ((R.lose 0).2.replace 0).2) HQ.out.2.2 rfl).mono ?_
      rintro e w4 ⟨rfl, F4, hi, hs⟩
      have HI4 : Hid (Is F4 w4 a ((R.lose 0).2.replace 0).2) := hi
      have HB4 : Hid (Base w F4 w4) := HB3.out.step hs
      clear hi hs HI3 HB3
      go_wp2_with fail
      refine (crash_at HI4.out HL2.out (HB4.out.aw HP.out) (R' := ((R.lose 0).2.replace 0).2.crash ps) rfl).mono ?_
      rintro e w5 ⟨rfl, F5, hi, hs⟩
      have HI5 : Hid (Is F5 w5 a (((R.lose 0).2.replace 0).2.crash ps)) := hi
      have HB5 : Hid (Base w F5 w5) := HB4.out.step hs
      clear hi hs HI4 HB4
      generalize ((R.lose 0).2.replace 0).2.crash ps = R5 at *
      go_wp2_with fail
      obtain ⟨wa, hwa⟩ : ∃ wa, wa = wr := ⟨wr, rfl⟩
      subst hwa
      go_loopw [56] (fun ti wr => ∃ k : Nat, k ≤ 4 ∧ ti = .int .i64 (k : Int) ∧ Hid (Is F5 wr a R5 ∧ Base w F5 wr)) (fun ti _ => 4 - (intOf ti).toNat)
      case atStart => exact ⟨0, by omega, rfl, HI5.out, HB5.out⟩
      case round =>
        clear HI5 HB5
        obtain ⟨k, hk, rfl, HY⟩ := hrel
        by_cases hk4 : k < 4
        · have i1 : (k : Int) < 4 := by omega
          have HRk : Hid ((R5.reach 0 (k : Int) : Int) = 0 ∧ R5.read 0 (k : Int) = fl 0) := HR.out k hk4
          go_wp2_with fail
          refine (read_at HY.out.1 (c := 0) (xs := fl 0) HRk.out.1 HRk.out.2).mono ?_
          rintro e w6 ⟨p6, n6, m6, rfl, hv, hg⟩
          have HI6 : Hid (Is F5 w6 a R5 ∧ Base w F5 w6) := ⟨HY.out.1.keep hg, HY.out.2.keep hg⟩
          have HV6 : Hid (Aw F5 w6 (.slice p6 n6 m6) (fl 0)) := hv
          clear hv hg HY
          go_wp2_with fail
          refine (full_at (F := F5) (w := w6) HI6.out.1.lt (x := 0) (by decide) rfl).mono ?_
          rintro e w7 ⟨p7, rfl, hv, hg⟩
          have HI7 : Hid (Is F5 w7 a R5 ∧ Base w F5 w7) := ⟨HI6.out.1.keep hg, HI6.out.2.keep hg⟩
          have HV7 : Hid (Aw F5 w7 (.slice p6 n6 m6) (fl 0)) := HV6.out.keep hg
          have HV8 : Hid (Aw F5 w7 (.slice p7 64 64) (fl 0)) := hv
          clear hv hg HI6 HV6
          go_wp2_with fail
          refine (equal_at HV7.out.vec HV8.out.vec rfl).mono ?_
          rintro e w9 ⟨rfl, hw⟩
          obtain rfl := hw.symm
          clear hw HV7 HV8
          go_wp2
          go_roundw
          case rel => exact ⟨k + 1, by omega, by go_num, HI7⟩
          case measure => simp [intOf]; omega
        · have i1 : ¬ (k : Int) < 4 := by omega
          go_wp2
          go_ret
          exact ⟨rfl, HY.out.2.grown⟩
end arrayBlank
end Go.Proofs.Ytfmlohedebdomaa
