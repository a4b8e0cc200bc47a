/- Packed: Write8, High8, Awk8. -/
import Derived.Deep.RegionHeld3
import Derived.BigRegion
import Derived.Test.YtfjlpifaaknmpaaGreatSk1
import Derived.Test.YtfjlpifaaknmpaaGreatSk2
import Derived.Test.YtfjlpifaaknmpaaGreatSk3
import Derived.Test.YtfjlpifaaknmpaaGreatSk4
import Derived.Test.YtfjlpifaaknmpaaGreatSk5
import Derived.Test.YtfjlpifaaknmpaaGreatSk6
import Derived.Test.YtfjlpifaaknmpaaGreatSk7
import Derived.Test.YtfjlpifaaknmpaaGreatSk8
import Derived.Test.YtfjlpifaaknmpaaGreatSk9
import Derived.Test.YtfjlpifaaknmpaaGreatSk10
import Derived.Test.YtfjlpifaaknmpaaGreatSk11
import Derived.Test.YtfjlpifaaknmpaaGreatSk12
import Derived.Test.YtfjlpifaaknmpaaGreatSk13
import Derived.Test.YtfjlpifaaknmpaaGreatSk14
import Derived.Test.YtfjlpifaaknmpaaGreatSk15
import Derived.Test.YtfjlpifaaknmpaaGreatSk16
import Derived.Test.YtfjlpifaaknmpaaGreatSk17
import Derived.Test.YtfjlpifaaknmpaaGreatSk18
import Derived.Test.YtfjlpifaaknmpaaGreatSk19
import Derived.Test.YtfjlpifaaknmpaaGreatSk25
import Derived.Deep.MidRow
import Derived.Test.YtfjlpifaaknmpaaGreatSk20
import Derived.Test.YtfjlpifaaknmpaaGreatSk21
import Derived.Test.YtfjlpifaaknmpaaGreatSk22
import Derived.Test.YtfjlpifaaknmpaaGreatSk23
import Derived.Test.YtfjlpifaaknmpaaGreatSk24
/- The contract of stripe.Write. -/
set_option linter.unusedSimpArgs false
set_option linter.unusedVariables false
set_option maxRecDepth 100000
namespace Go.Proofs.YtfjlpifaaknmpaaGreat
open Go.RowKit

theorem wrTo_len (R : AM.Raw) (g : SP.Geo) (slot m : Nat) (E : List (List Nat)) : ∀ d, (SP.wrTo R g slot m E d).2.L.length ≤ R.L.length + 8 * d
  | 0 => by simp [SP.wrTo]
  | d + 1 => by
    have := wrTo_len R g slot m E d
    unfold SP.wrTo
    split
    · have := layTo_len (SP.wrTo R g slot m E d).2 g slot d (CM.secs m (E.getD d []) 8) 8
      unfold SP.lays
      omega
    · omega

section
variable {F F' : Nat → Prop} {w w' : World} {s a : Nat} {g : SP.Geo} {R R' : AM.Raw}
/-- Encode of a segment's parts. -/
theorem sencode (hg : g.Ok R) {u : Value} {us : List Value} {xs : List Nat} (hl : xs.length = g.k * 448) (hm : Mat w u us (SP.parts xs g.k)) :
    Calls Tryz.prog 46 #[.int .i64 (g.k : Int), .int .i64 (g.n : Int), u] w fun e w' => ∃ p n c us', e = .returned (.tuple #[.slice p n c, .int .i64 0]) ∧ OwnMat w.heap.size w' (.slice p n c) us' (SP.code g xs) ∧ w.grownBy w' none := by
  have hf := SP.parts_fits hg hl
  have e1 : encL (g.k : Int) (g.n : Int) (SP.parts xs g.k) = SP.code g xs := by
    unfold encL SP.code
    rw [if_pos hf, Int.toNat_natCast, Int.toNat_natCast, (SP.parts_shape hl).row 0 (by have := hg.k1; omega)]
  have e2 : encE (g.k : Int) (g.n : Int) (SP.parts xs g.k) = 0 := if_pos hf
  have := encode_all (g.k : Int) (g.n : Int) hm
  rw [e1, e2] at this
  refine this.mono ?_
  rintro e w' ⟨p, n, c, us', rfl, h1, _, h2⟩
  exact ⟨p, n, c, us', rfl, h1, h2⟩

theorem swrite_err (h : SI F w s a g R) {slot : Int} {m : Nat} {v : Value} (hy : SP.why R g slot ≠ 0) :
    Calls Tryz.prog 11 #[ptr s, .int .i64 slot, .int .u64 (m : Int), v] w fun e w' => e = .returned (.int .i64 (SP.why R g slot : Int)) ∧ w' = w := by
  obtain ⟨y, hy1⟩ : ∃ y, y = SP.why R g slot := ⟨_, rfl⟩
  have HR : Hid (Calls Tryz.prog 45 #[ptr s, .int .i64 slot] w fun e w'' => e = .returned (.int .i64 (y : Int)) ∧ w'' = w) := by rw [hy1]; exact sreach_yes h slot
  rw [← hy1] at hy ⊢
  have hne : ((y : Int) != 0) = true := neb_yes (b := 0) hy
  clear h hy hy1
  go_enter Tryz.func11, Tryz.ntmps11
  go_wp2_with (go_at_call 45; refine HR.out.mono ?_; rintro e w9 ⟨rfl, hw9⟩; obtain rfl := hw9.symm; clear hw9)
  go_ret
  exact ⟨rfl, rfl⟩
theorem swrite_arg (h : SI F w s a g R) {slot : Int} {m : Nat} {v : Value} {xs : List Nat} (hv : Vec w v xs) (hy : SP.why R g slot = 0) (ha : m = 0 ∨ xs.length ≠ g.k * 448) :
    Calls Tryz.prog 11 #[ptr s, .int .i64 slot, .int .u64 (m : Int), v] w fun e w' => e = .returned (.int .i64 1) ∧ w' = w := by
  obtain ⟨q, N, cap, rfl, hN⟩ := hv.opened
  have HR : Hid (Calls Tryz.prog 45 #[ptr s, .int .i64 slot] w fun e w'' => e = .returned (.int .i64 0) ∧ w'' = w) := sreach_at h (by rw [hy]; rfl)
  have c1 := h.at2
  have hk : g.k ≤ 255 := by have := h.ok.kn; have := h.ok.n255; omega
  have hw : IntKind.i64.wrap ((g.k : Int) * 448) = (g.k : Int) * 448 := IntWalk.i64_in _ (by omega)
  by_cases hm : m = 0
  · subst hm
    clear h hy ha hv hN
    go_enter Tryz.func11, Tryz.ntmps11
    go_wp2_with (go_at_call 45; refine HR.out.mono ?_; rintro e w9 ⟨rfl, hw9⟩; obtain rfl := hw9.symm; clear hw9)
    go_ret
    exact ⟨rfl, rfl⟩
  · have i1 : ((m : Int) == 0) = false := eqb_no (b := 0) hm
    have i2 : ((N : Int) != (g.k : Int) * 448) = true := by
      have : N ≠ g.k * 448 := by rcases ha with h' | h' <;> omega
      have := neb_yes this
      rwa [Int.natCast_mul] at this
    clear h hy ha hv hN
    go_enter Tryz.func11, Tryz.ntmps11
    go_wp2_with (go_at_call 45; refine HR.out.mono ?_; rintro e w9 ⟨rfl, hw9⟩; obtain rfl := hw9.symm; clear hw9)
    go_ret
    exact ⟨rfl, rfl⟩

set_option maxHeartbeats 6400000 in
theorem swrite_few (h : SI F w s a g R) {slot : Int} {m : Nat} {v : Value} {xs : List Nat} (hv : Vec w v xs) (hy : SP.why R g slot = 0) (hm : m ≠ 0) (hl : xs.length = g.k * 448) (ho : R.ons < g.k) :
    Calls Tryz.prog 11 #[ptr s, .int .i64 slot, .int .u64 (m : Int), v] w fun e w' => e = .returned (.int .i64 20) ∧ w.grownBy w' none := by
  obtain ⟨q, N, cap, rfl, hN⟩ := hv.opened
  have HR : Hid (Calls Tryz.prog 45 #[ptr s, .int .i64 slot] w fun e w'' => e = .returned (.int .i64 0) ∧ w'' = w) := sreach_at h (by rw [hy]; rfl)
  have c1 := h.at2
  have HS : Hid (∀ w', w.grownBy w' none → w'.cell? ⟨s, 0, none⟩ = some (ptr a) ∧ w'.cell? ⟨s, 1, none⟩ = some (.int .i64 (g.k : Int))) := fun w' g' => ⟨(h.keep g').at1, (h.keep g').at2⟩
  obtain ⟨O, hO⟩ : ∃ O, O = R.ons := ⟨_, rfl⟩
  have HO : Hid (Calls Tryz.prog 39 #[ptr a] (w.drewN 1) fun e w' => e = .returned (.int .i64 (O : Int)) ∧ w' = w.drewN 1) := by rw [hO]; exact ons_yes (h.i.keep (grown_drewN w 1))
  have hk : g.k ≤ 255 := by have := h.ok.kn; have := h.ok.n255; omega
  have hw : IntKind.i64.wrap ((g.k : Int) * 448) = (g.k : Int) * 448 := IntWalk.i64_in _ (by omega)
  have i1 : ((m : Int) == 0) = false := eqb_no (b := 0) hm
  have i2 : ((N : Int) != (g.k : Int) * 448) = false := by
    have : N = g.k * 448 := by omega
    have := neb_no this
    rwa [Int.natCast_mul] at this
  have i3 : (O : Int) < (g.k : Int) := by omega
  clear h hy hv hN hm hl ho hO hk
  go_enter Tryz.func11, Tryz.ntmps11
  go_wp2_with (first | (go_at_call 45; refine HR.out.mono ?_; rintro e w9 ⟨rfl, hw9⟩; obtain rfl := hw9.symm; clear hw9) | fail)
  go_region_held3 (fun w' => w'.cell? ⟨s, 0, none⟩ = some (ptr a) ∧ w'.cell? ⟨s, 1, none⟩ = some (.int .i64 (g.k : Int))) (exact HS.out _ (grown_drewN w 1))
    ((go_at_call 39; refine HO.out.mono ?_; rintro e w9 ⟨rfl, hw9⟩; obtain rfl := hw9.symm; clear hw9))
  go_wp2
  go_ret
  exact ⟨rfl, grown_drewN w 1⟩

set_option maxHeartbeats 6400000 in
theorem swrite_main (h : SI F w s a g R) {slot m : Nat} {v : Value} {xs : List Nat} (hv : Aw F w v xs) (hL : R.L.length ≤ 990000) (hy : SP.why R g (slot : Int) = 0) (hm : m ≠ 0) (hl : xs.length = g.k * 448) (ho : ¬ R.ons < g.k) :
    Calls Tryz.prog 11 #[ptr s, .int .i64 (slot : Int), .int .u64 (m : Int), v] w fun e w' => e = .returned (.int .i64 ((SP.wrTo R g slot m (SP.code g xs) g.n).1 : Int)) ∧ ∃ F', SI F' w' s a g (SP.wrTo R g slot m (SP.code g xs) g.n).2 ∧ Step F w F' w' := by
  obtain ⟨q, N, cap, rfl, hN⟩ := hv.vec.opened
  have HR : Hid (Calls Tryz.prog 45 #[ptr s, .int .i64 (slot : Int)] w fun e w'' => e = .returned (.int .i64 0) ∧ w'' = w) := sreach_at h (by rw [hy]; rfl)
  obtain ⟨q0, q1, q2⟩ := SP.why_zero hy
  have c1 := h.at2
  have H : Hid (SI F w s a g R) := h
  have HS : Hid (∀ w', w.grownBy w' none → w'.cell? ⟨s, 0, none⟩ = some (ptr a) ∧ w'.cell? ⟨s, 1, none⟩ = some (.int .i64 (g.k : Int)) ∧ w'.cell? ⟨s, 2, none⟩ = some (.int .i64 (g.n : Int))) := fun w' g' => ⟨(h.keep g').at1, (h.keep g').at2, (h.keep g').at3⟩
  obtain ⟨O, hO⟩ : ∃ O, O = R.ons := ⟨_, rfl⟩
  have HO : Hid (Calls Tryz.prog 39 #[ptr a] (w.drewN 1) fun e w' => e = .returned (.int .i64 (O : Int)) ∧ w' = w.drewN 1) := by rw [hO]; exact ons_yes (h.i.keep (grown_drewN w 1))
  have hk : g.k ≤ 255 := by have := h.ok.kn; have := h.ok.n255; omega
  have hw : IntKind.i64.wrap ((g.k : Int) * 448) = (g.k : Int) * 448 := IntWalk.i64_in _ (by omega)
  have i1 : ((m : Int) == 0) = false := eqb_no (b := 0) hm
  have i2 : ((N : Int) != (g.k : Int) * 448) = false := by
    have : N = g.k * 448 := by omega
    have := neb_no this
    rwa [Int.natCast_mul] at this
  have i3 : ¬ (O : Int) < (g.k : Int) := by omega
  have PA : Hid (∀ w', w.grownBy w' none → Calls Tryz.prog 47 #[.slice q N cap] w' fun e w'' => ∃ u us, e = .returned u ∧ Mat w'' u us (SP.parts xs g.k) ∧ w'.grownBy w'' none) := fun w' g1 => sparts_yes (hv.vec.keep g1) h.ok.k1 hk hl
  have EN : Hid (∀ w' u us, Mat w' u us (SP.parts xs g.k) → Calls Tryz.prog 46 #[.int .i64 (g.k : Int), .int .i64 (g.n : Int), u] w' fun e w'' => ∃ p n c us', e = .returned (.tuple #[.slice p n c, .int .i64 0]) ∧ OwnMat w'.heap.size w'' (.slice p n c) us' (SP.code g xs) ∧ w'.grownBy w'' none) := fun w' u us m1 => sencode h.ok hl m1
  have HN : Hid (slot < g.s ∧ R.L.length ≤ 990000 ∧ m ≠ 0 ∧ g.n ≤ 255) := ⟨by omega, hL, hm, h.ok.n255⟩
  have hn255 : g.n ≤ 255 := h.ok.n255
  have HRow : Hid (∀ d, d < g.n → ((SP.code g xs).getD d []).length = 448) := fun d hd => SP.code_row g xs hd
  have HCL : Hid ((SP.code g xs).length = g.n) := SP.code_len g xs
  have HK : Hid (∀ d, SP.Kept R (SP.wrTo R g slot m (SP.code g xs) d).2) := SP.wrTo_kept R g slot m (SP.code g xs)
  have HLL : Hid (∀ d, (SP.wrTo R g slot m (SP.code g xs) d).2.L.length ≤ R.L.length + 8 * d) := wrTo_len R g slot m (SP.code g xs)
  have HX0 : Hid (SP.wrTo R g slot m (SP.code g xs) 0 = (0, R)) := rfl
  have HX1 : Hid (∀ d : Nat, (SP.wrTo R g slot m (SP.code g xs) d).1 = 0 → R.on (d : Int) = true → SP.wrTo R g slot m (SP.code g xs) (d + 1) = SP.lays (SP.wrTo R g slot m (SP.code g xs) d).2 g slot d m ((SP.code g xs).getD d [])) := fun d h0 h1 => SP.wrTo_on h0 h1
  have HX2 : Hid (∀ d : Nat, R.on (d : Int) = false → SP.wrTo R g slot m (SP.code g xs) (d + 1) = SP.wrTo R g slot m (SP.code g xs) d) := fun d h1 => SP.wrTo_off h1
  have HX3 : Hid (∀ d, d ≤ g.n → (SP.wrTo R g slot m (SP.code g xs) d).1 ≠ 0 → SP.wrTo R g slot m (SP.code g xs) g.n = SP.wrTo R g slot m (SP.code g xs) d) := fun d hd h0 => SP.wrTo_stop h0 g.n hd
  clear h hy hv hN hm hl ho hO hk q0 q1 q2 hL
  generalize SP.wrTo R g slot m (SP.code g xs) = WT at *
  generalize SP.code g xs = E at *
  go_enter Tryz.func11, Tryz.ntmps11
  go_wp2_with (first | (go_at_call 45; refine HR.out.mono ?_; rintro e w9 ⟨rfl, hw9⟩; obtain rfl := hw9.symm; clear hw9) | fail)
  go_region_held3 (fun w' => w'.cell? ⟨s, 0, none⟩ = some (ptr a) ∧ w'.cell? ⟨s, 1, none⟩ = some (.int .i64 (g.k : Int))) (exact ⟨(HS.out _ (grown_drewN w 1)).1, (HS.out _ (grown_drewN w 1)).2.1⟩)
    ((go_at_call 39; refine HO.out.mono ?_; rintro e w9 ⟨rfl, hw9⟩; obtain rfl := hw9.symm; clear hw9))
  go_wp2_with fail
  clear c1 hw i1 i2 i3 HO HR
  go_region_held3 (fun w' => w'.cell? ⟨s, 1, none⟩ = some (.int .i64 (g.k : Int)) ∧ w'.cell? ⟨s, 2, none⟩ = some (.int .i64 (g.n : Int))) (first | exact ⟨(HS.out _ (grown_trans (grown_drewN w 1) (grown_drewN _ 1))).2.1, (HS.out _ (grown_trans (grown_drewN w 1) (grown_drewN _ 1))).2.2⟩ | exact ⟨(HS.out _ G2.out).2.1, (HS.out _ G2.out).2.2⟩ | exact ⟨(HS.out _ G3.out).2.1, (HS.out _ G3.out).2.2⟩)
    ((first
      | (go_at_call 47; refine (PA.out _ (grown_trans (grown_drewN w 1) (grown_drewN _ 1))).mono ?_; rintro e w2 ⟨u, us, rfl, m2, g2⟩; have M2 : Hid (Mat w2 u us (SP.parts xs g.k)) := m2; have G2 : Hid (w.grownBy w2 none) := grown_trans (grown_trans (grown_drewN w 1) (grown_drewN _ 1)) g2; clear m2 g2)
      | (go_at_call 46; refine (EN.out _ _ _ M2.out).mono ?_; rintro e w3 ⟨p3, n3, c3, us3, rfl, m3, g3⟩; have M3 : Hid (OwnMat w.heap.size w3 (.slice p3 n3 c3) us3 E) := m3.down G2.out.size; have G3 : Hid (w.grownBy w3 none) := grown_trans G2.out g3; clear m3 g3)))
  have HN3 : Hid (n3 = g.n ∧ us3.length = g.n) := by
    have h1 := M3.out.same
    have h2 := HCL.out
    have h3 := (mat_n M3.out.mat).1
    exact ⟨by omega, by omega⟩
  have hn3 : n3 = g.n := HN3.out.1
  have S3 : Hid (SI F w3 s a g R) := H.out.keep G3.out
  clear PA EN M2 G2
  subst hn3
  go_wp2_with fail
  go_loopw [66] (fun ti wr => ∃ k : Nat, k ≤ g.n ∧ ti = .int .i64 k ∧ Hid ((WT k).1 = 0) ∧ Hid (∃ F', SI F' wr s a g (WT k).2 ∧ Step F w3 F' wr)) (fun ti _ => g.n - (intOf ti).toNat)
  case atStart => exact ⟨0, by omega, rfl, (by show _ = _; rw [HX0.out]), ⟨F, by rw [HX0.out]; exact S3.out, Step.refl _ _⟩⟩
  case round =>
    clear S3
    obtain ⟨k, hk, rfl, OK, HRR⟩ := hrel
    obtain ⟨F1, i1, st1⟩ := HRR.out
    have I1 : Hid (SI F1 wr s a g (WT k).2) := i1
    have T1 : Hid (Step F w3 F1 wr) := st1
    clear HRR i1 st1
    by_cases hlt : k < g.n
    · have i4 : (k : Int) < (g.n : Int) := by omega
      have i5 : (0 : Int) ≤ (k : Int) := by omega
      obtain ⟨b0, off, rfl, hr0⟩ := M3.out.mat.row.spot (k := k) (by have := HN3.out; omega)
      obtain ⟨pk, nk, ck, ek, hnk⟩ := (M3.out.mat.vec k (by have := HCL.out; omega)).opened
      have hbk : ¬ F b0 := fun hf => by
        have h1 := M3.out.out.lo b0 rfl
        have h2 := H.out.i.lt b0 hf
        omega
      have hr := T1.out.upd.cell hr0 hbk
      have AV : Hid (Vec wr (.slice pk nk ck) (E.getD k [])) := by
        have hv := M3.out.vec k (by have := HCL.out; omega)
        rw [ek] at hv
        exact hv.vec.upd T1.out.upd (fun _ g' hg' hf => by
          have h1 := hv.lo g' hg'
          have h2 := H.out.i.lt g' hf
          omega)
      rw [ek] at hr
      have c0 := I1.out.at1
      clear hr0 ek hnk hbk
      obtain ⟨o, ho⟩ : ∃ o, o = R.on (k : Int) := ⟨_, rfl⟩
      have ON : Hid (Calls Tryz.prog 48 #[ptr a, .int .i64 (k : Int)] wr fun e w' => e = .returned (.bool o) ∧ w' = wr) := by
        rw [ho, ← (HK.out k).on]; exact on_yes I1.out.i (k : Int)
      cases o
      · have HX : Hid (WT (k + 1) = WT k) := HX2.out k ho.symm
        clear ho
        go_wp2_with (go_at_call 48; refine ON.out.mono ?_; rintro e w9 ⟨rfl, hw9⟩; obtain rfl := hw9.symm; clear hw9)
        go_roundw
        case rel => exact ⟨k + 1, by omega, by go_num, (by show _ = _; rw [HX.out]; exact OK.out), ⟨F1, by rw [HX.out]; exact I1.out, T1.out⟩⟩
        case measure => simp [intOf]; omega
      · have HX := HX1.out k OK.out ho.symm
        obtain ⟨c, hc⟩ : ∃ c, c = (WT (k + 1)).1 := ⟨_, rfl⟩
        have LA : Hid (Calls Tryz.prog 49 #[ptr s, .int .i64 (k : Int), .int .i64 (slot : Int), .int .u64 (m : Int), .slice pk nk ck] wr fun e w' => e = .returned (.int .i64 (c : Int)) ∧ ∃ F', SI F' w' s a g (WT (k + 1)).2 ∧ Step F w3 F' w') := by
          rw [hc, HX]
          refine (slay_any I1.out (d := k) HN.out.1 AV.out HN.out.2.2.1 (HRow.out k hlt) (by have h1 := HLL.out k; have h2 := HN.out.2.1; omega)).mono ?_
          rintro e w9 ⟨rfl, F9, i9, s9⟩
          exact ⟨rfl, F9, i9, T1.out.trans s9⟩
        have HCE : Hid (c = (WT (k + 1)).1) := hc
        clear ho HX hc AV
        by_cases h0 : c = 0
        · subst h0
          go_wp2_with (first
            | (go_at_call 48; refine ON.out.mono ?_; rintro e w9 ⟨rfl, hw9⟩; obtain rfl := hw9.symm; clear hw9)
            | (go_at_call 49; refine LA.out.mono ?_; rintro e w4 ⟨rfl, F4, i4', st4⟩; have I4 : Hid (SI F4 w4 s a g (WT (k + 1)).2) := i4'; have T4 : Hid (Step F w3 F4 w4) := st4; clear i4' st4))
          go_roundw
          case rel => exact ⟨k + 1, by omega, by go_num, HCE.out.symm, ⟨F4, I4.out, T4.out⟩⟩
          case measure => simp [intOf]; omega
        · have hne : ((c : Int) != 0) = true := neb_yes (b := 0) h0
          have HEQ : Hid (WT g.n = WT (k + 1)) := HX3.out (k + 1) (by omega) (by rw [← HCE.out]; exact h0)
          go_wp2_with (first
            | (go_at_call 48; refine ON.out.mono ?_; rintro e w9 ⟨rfl, hw9⟩; obtain rfl := hw9.symm; clear hw9)
            | (go_at_call 49; refine LA.out.mono ?_; rintro e w4 ⟨rfl, F4, i4', st4⟩; have I4 : Hid (SI F4 w4 s a g (WT (k + 1)).2) := i4'; have T4 : Hid (Step F w3 F4 w4) := st4; clear i4' st4))
          go_ret
          rw [HEQ.out, ← HCE.out]
          exact ⟨rfl, F4, I4.out, (Step.new G3.out).trans T4.out⟩
    · have i4 : ¬ (k : Int) < (g.n : Int) := by omega
      have hkn : Hid (k = g.n) := by show _ = _; omega
      go_wp2
      go_ret
      rw [← hkn.out, OK.out]
      exact ⟨rfl, F1, I1.out, (Step.new G3.out).trans T1.out⟩

/-- What Write does, whatever is asked. -/
theorem swrite_all (h : SI F w s a g R) (slot : Int) (m : Nat) {v : Value} {xs : List Nat} (hv : Aw F w v xs) (hL : R.L.length ≤ 990000) :
    Calls Tryz.prog 11 #[ptr s, .int .i64 slot, .int .u64 (m : Int), v] w fun e w' => e = .returned (.int .i64 ((SP.write R g slot m xs).1 : Int)) ∧ ∃ F', SI F' w' s a g (SP.write R g slot m xs).2 ∧ Step F w F' w' := by
  unfold SP.write
  by_cases hy : SP.why R g slot = 0
  · rw [if_neg (by omega)]
    by_cases ha : m = 0 ∨ xs.length ≠ g.k * 448
    · rw [if_pos ha]
      refine (swrite_arg h hv.vec hy ha).mono ?_
      rintro e w' ⟨rfl, rfl⟩
      exact ⟨rfl, F, h, Step.refl _ _⟩
    · rw [if_neg ha]
      by_cases ho : R.ons < g.k
      · rw [if_pos ho]
        refine (swrite_few h hv.vec hy (by omega) (by omega) ho).mono ?_
        rintro e w' ⟨rfl, g1⟩
        exact ⟨rfl, F, h.keep g1, Step.new g1⟩
      · rw [if_neg ho]
        obtain ⟨_, q1, _⟩ := SP.why_zero hy
        obtain ⟨n, rfl⟩ : ∃ n : Nat, slot = (n : Int) := ⟨slot.toNat, by omega⟩
        rw [Int.toNat_natCast]
        exact swrite_main h hv hL hy (by omega) (by omega) ho
  · rw [if_pos hy]
    refine (swrite_err h hy).mono ?_
    rintro e w' ⟨rfl, rfl⟩
    exact ⟨rfl, F, h, Step.refl _ _⟩
end
end Go.Proofs.YtfjlpifaaknmpaaGreat

/- The contract of stripe.Highest. -/
set_option linter.unusedSimpArgs false
set_option linter.unusedVariables false
set_option maxRecDepth 100000
namespace Go.Proofs.YtfjlpifaaknmpaaGreat
open Go.RowKit

theorem max_run (m n : Nat) (ts : Array TypeId) (t : TypeId) (W : World) : (Builtin.max_ ts t #[.int .u64 (m : Int), .int .u64 (n : Int)]).run Tryz.prog W = .ok (.int .u64 ((max m n : Nat) : Int)) W := by
  simp only [Builtin.max_, List.foldlM]
  rcases Nat.lt_or_ge m n with h | h
  · have h1 : (m : Int) < (n : Int) := by omega
    simp [Builtin.max2, h1, Nat.max_eq_right (Nat.le_of_lt h)]
  · have h1 : ¬ (m : Int) < (n : Int) := by omega
    simp [Builtin.max2, h1, Nat.max_eq_left h]

def SP.hiN (R : AM.Raw) (g : SP.Geo) (slot : Int) : Nat := if SP.why R g slot = 0 then SP.high R g slot.toNat else 0
theorem top_take {L0 M : List Nat} {i : Nat} (hi : i < M.length) : SP.top (L0 ++ M.take (i + 1)) = max (SP.top (L0 ++ M.take i)) (M.getD i 0) := by
  rw [List.take_succ_eq_append_getElem hi, ← List.append_assoc, SP.top_app]
  simp [List.getD, hi]
section
variable {F F' : Nat → Prop} {w w' : World} {s a : Nat} {g : SP.Geo} {R R' : AM.Raw}
theorem sects_row (ok : R.Ok) (h : g.Ok R) {slot d : Nat} (hs : slot < g.s) {i : Nat} (hi : i < (SP.sects R g slot d).length) : ((SP.sects R g slot d).getD i []).length = 64 := by
  cases c : R.on (d : Int)
  · rw [SP.sects_off c] at hi; simp at hi
  · rw [SP.sects_on c] at hi ⊢
    rw [SP.sectTo_len] at hi
    have e : (SP.sectTo R g slot d 8).getD i [] = AM.look R.C d (g.f + 8 * slot + i) := by simp [SP.sectTo, List.getD, hi]
    rw [e]
    exact (SP.sect_ok ok h hs hi c).1
theorem shigh_err (h : SI F w s a g R) {slot : Int} (hy : SP.why R g slot ≠ 0) :
    Calls Tryz.prog 23 #[ptr s, .int .i64 slot] w fun e w' => e = .returned (.tuple #[.int .u64 0, .int .i64 (SP.why R g slot : Int)]) ∧ w' = w := by
  obtain ⟨y, hy1⟩ : ∃ y, y = SP.why R g slot := ⟨_, rfl⟩
  have HR : Hid (Calls Tryz.prog 45 #[ptr s, .int .i64 slot] w fun e w'' => e = .returned (.int .i64 (y : Int)) ∧ w'' = w) := by rw [hy1]; exact sreach_yes h slot
  rw [← hy1] at hy ⊢
  have hne : ((y : Int) != 0) = true := neb_yes (b := 0) hy
  clear h hy hy1
  go_enter Tryz.func23, Tryz.ntmps23
  go_wp2_with (go_at_call 45; refine HR.out.mono ?_; rintro e w9 ⟨rfl, hw9⟩; obtain rfl := hw9.symm; clear hw9)
  go_ret2
  exact ⟨rfl, rfl⟩

set_option maxHeartbeats 6400000 in
theorem shigh_main (h : SI F w s a g R) {slot : Nat} (hy : SP.why R g (slot : Int) = 0) :
    Calls Tryz.prog 23 #[ptr s, .int .i64 (slot : Int)] w fun e w' => e = .returned (.tuple #[.int .u64 ((SP.high R g slot : Nat) : Int), .int .i64 0]) ∧ w.grownBy w' none := by
  have HR : Hid (Calls Tryz.prog 45 #[ptr s, .int .i64 (slot : Int)] w fun e w'' => e = .returned (.int .i64 0) ∧ w'' = w) := sreach_at h (by rw [hy]; rfl)
  obtain ⟨q0, q1, q2⟩ := SP.why_zero hy
  have c2 := h.at3
  have H : Hid (SI F w s a g R) := h
  have HN : Hid (R.off = false ∧ slot < g.s ∧ R.Ok) := ⟨q0, by omega, h.i.ok⟩
  have hn255 : g.n ≤ 255 := h.ok.n255
  clear h hy q0 q1 q2
  go_enter Tryz.func23, Tryz.ntmps23
  go_wp2_with (first | (go_at_call 45; refine HR.out.mono ?_; rintro e w9 ⟨rfl, hw9⟩; obtain rfl := hw9.symm; clear hw9) | fail)
  clear c2 HR
  go_loopw [7, 25] (fun th ti wr => ∃ k : Nat, k ≤ g.n ∧ ti = .int .i64 k ∧ th = .int .u64 ((SP.top (SP.markTo R g slot k) : Nat) : Int) ∧ Hid (w.grownBy wr none)) (fun _ ti _ => g.n - (intOf ti).toNat)
  case atStart => exact ⟨0, by omega, rfl, rfl, World.grownBy.refl _ _⟩
  case round =>
    obtain ⟨k, hk, rfl, rfl, GK⟩ := hrel
    obtain ⟨wa, hwa⟩ : ∃ wa, wa = wr := ⟨wr, rfl⟩
    subst hwa
    by_cases hlt : k < g.n
    · have i4 : (k : Int) < (g.n : Int) := by omega
      have SEC : Hid (Calls Tryz.prog 65 #[ptr s, .int .i64 (k : Int), .int .i64 (slot : Int)] wa fun e w' => ∃ v us, e = .returned v ∧ Mat w' v us (SP.sects R g slot k) ∧ wa.grownBy w' none) := ssectors_any (H.out.keep GK.out) HN.out.1 hlt HN.out.2.1
      have H64 : Hid (∀ i, i < (SP.sects R g slot k).length → ((SP.sects R g slot k).getD i []).length = 64) := fun i hi => sects_row HN.out.2.2 H.out.ok HN.out.2.1 hi
      have HM : Hid (SP.markTo R g slot (k + 1) = SP.markTo R g slot k ++ (SP.sects R g slot k).map (fun b => SM.val b 8)) := SP.markTo_succ R g slot k
      generalize SP.sects R g slot k = X at *
      generalize SP.markTo R g slot k = L0 at *
      obtain ⟨M, hM⟩ : ∃ M, M = X.map (fun b => SM.val b 8) := ⟨_, rfl⟩
      have HMM : Hid (M = X.map (fun b => SM.val b 8)) := hM
      rw [← hM] at HM
      clear hM
      go_wp2_with (first
        | (go_at_call 65; refine SEC.out.mono ?_; rintro e w1 ⟨v, us, rfl, m1, g1⟩; have hs1 := m1.same; obtain ⟨q, N, cp, rfl, hN⟩ := m1.row.opened; have M1 : Hid (Mat w1 (.slice q N cp) us X) := m1; have G1 : Hid (w.grownBy w1 none) := grown_trans GK.out g1; have HNN : Hid (N = us.length ∧ N = X.length) := ⟨hN, (by omega)⟩; have hNl : N ≤ 140737488351232 := (by have := m1.row.len; omega); clear m1 g1 hN hs1)
        | fail)
      clear SEC
      go_loopw [7, 33] (fun th ti wr => ∃ i : Nat, i ≤ N ∧ ti = .int .i64 i ∧ th = .int .u64 ((SP.top (L0 ++ M.take i) : Nat) : Int) ∧ Hid (w1.grownBy wr none)) (fun _ ti _ => N - (intOf ti).toNat)
      case atStart => exact ⟨0, by omega, rfl, by simp, World.grownBy.refl _ _⟩
      case round =>
        obtain ⟨i, hi, rfl, rfl, GI⟩ := hrel
        by_cases hlt2 : i < N
        · have i5 : (i : Int) < (N : Int) := by omega
          have i6 : (0 : Int) ≤ (i : Int) := by omega
          obtain ⟨b, off, rfl, hr⟩ := (M1.out.keep GI.out).row.spot (k := i) (by have := HNN.out; omega)
          obtain ⟨pk, nk, ck, ek, hnk⟩ := ((M1.out.keep GI.out).vec i (by have := HNN.out; omega)).opened
          have TK : Hid (Calls Tryz.prog 68 #[.slice pk nk ck] wr fun e w' => ∃ p k er, e = .returned (.tuple #[.int .u64 ((M.getD i 0 : Nat) : Int), .slice p k k, .int .i64 er]) ∧ wr.grownBy w' none) := by
            have hv := (M1.out.keep GI.out).vec i (by have := HNN.out; omega)
            rw [ek] at hv
            have e1 : takeN (X.getD i []) = M.getD i 0 := by
              have hil : i < X.length := by have := HNN.out; omega
              unfold takeN
              rw [if_pos (H64.out i hil), HMM.out]
              simp [List.getD, hil]
            refine (take_all hv).mono ?_
            rintro e w9 ⟨p, k9, rfl, _, g9⟩
            exact ⟨p, k9, _, by rw [e1], g9⟩
          have HT : Hid (SP.top (L0 ++ M.take (i + 1)) = max (SP.top (L0 ++ M.take i)) (M.getD i 0)) := top_take (by rw [HMM.out, List.length_map]; have := HNN.out; omega)
          rw [ek] at hr
          clear ek hnk
          generalize SP.top (L0 ++ M.take i) = T0 at *
          generalize M.getD i 0 = Z at *
          have hmx := max_run T0 Z
          obtain ⟨T1, hT1⟩ : ∃ T1, T1 = max T0 Z := ⟨_, rfl⟩
          rw [← hT1] at hmx
          have HT1 : Hid (T1 = SP.top (L0 ++ M.take (i + 1))) := by show _ = _; rw [HT.out, hT1]
          clear hT1
          go_wp2_with (go_at_call 68; refine TK.out.mono ?_; rintro e w5 ⟨p, k5, er, rfl, g5⟩; have G5 : Hid (w1.grownBy w5 none) := grown_trans GI.out g5; clear g5)
          go_roundw
          case rel => exact ⟨i + 1, by omega, by go_num, by rw [HT1.out], G5⟩
          case measure => simp [intOf]; omega
        · have i5 : ¬ (i : Int) < (N : Int) := by omega
          have HE : Hid (SP.top (L0 ++ M.take i) = SP.top (SP.markTo R g slot (k + 1))) := by
            show _ = _
            rw [HM.out, List.take_of_length_le (by rw [HMM.out, List.length_map]; have := HNN.out; omega)]
          go_wp2
          go_roundw
          case rel => exact ⟨k + 1, by omega, by go_num, by rw [HE.out], grown_trans G1.out GI.out⟩
          case measure => simp [intOf]; omega
    · have i4 : ¬ (k : Int) < (g.n : Int) := by omega
      have hkn : Hid (k = g.n) := by show _ = _; omega
      go_wp2
      go_ret2
      exact ⟨by unfold SP.high; rw [hkn.out]; rfl, GK.out⟩
theorem shigh_all (h : SI F w s a g R) (slot : Int) :
    Calls Tryz.prog 23 #[ptr s, .int .i64 slot] w fun e w' => e = .returned (.tuple #[.int .u64 ((SP.hiN R g slot : Nat) : Int), .int .i64 (SP.why R g slot : Int)]) ∧ w.grownBy w' none := by
  unfold SP.hiN
  by_cases hy : SP.why R g slot = 0
  · obtain ⟨_, q1, _⟩ := SP.why_zero hy
    obtain ⟨n, rfl⟩ : ∃ n : Nat, slot = (n : Int) := ⟨slot.toNat, by omega⟩
    rw [if_pos hy, hy, Int.toNat_natCast]
    exact shigh_main h hy
  · rw [if_neg hy]
    refine (shigh_err h hy).mono ?_
    rintro e w' ⟨rfl, rfl⟩
    exact ⟨rfl, World.grownBy.refl _ _⟩
end
end Go.Proofs.YtfjlpifaaknmpaaGreat

/- The contract of hayricklaw08.awake. -/
set_option linter.unusedSimpArgs false
set_option linter.unusedVariables false
set_option maxRecDepth 100000
namespace Go.Proofs.YtfjlpifaaknmpaaGreat
open Go.RowKit

def gA : SP.Geo := ⟨2, 3, 1, 3⟩
def QA0 : AM.Raw := AM.Raw.new 3 11
def QA1 : AM.Raw := (SP.write QA0 gA ((0 : Nat) : Int) 5 (datL 2 7)).2
def QA2 : AM.Raw := (QA1.lose ((1 : Nat) : Int)).2
def QA3 : AM.Raw := (QA2.lose ((2 : Nat) : Int)).2
theorem gA_ok : gA.Ok QA0 := SP.new_geo (k := 2) (N := 3) (S := 1) (f := 3) (n := 11) rfl (by decide) (by decide) (by decide) (by decide) (by decide)
theorem qa0 : QA0.Ok ∧ QA0.ons = 3 ∧ ∀ d : Nat, QA0.on (d : Int) = decide (d < 3) := by
  have h := SP.new_ok (N := 3) (n := 11) (by decide) (by decide) (by decide) (by decide)
  exact ⟨h.1, SP.new_ons (N := 3) (n := 11) gA_ok rfl (by decide) (by decide) (by decide) (by decide), h.2⟩
theorem qa1 : (SP.write QA0 gA ((0 : Nat) : Int) 5 (datL 2 7)).1 = 0 ∧ SP.Wrote QA1 gA 0 5 (datL 2 7) ∧ QA1.off = false ∧ QA1.L.length ≤ 24 ∧ gA.Ok QA1 ∧ ∀ d : Nat, QA1.on (d : Int) = decide (d < 3) := by
  obtain ⟨h1, h2, h3, _, _⟩ := SP.write_sure qa0.1 gA_ok (slot := 0) (m := 5) (by decide) rfl rfl (by decide) (datL_small 2 7) (datL_len 2 7) (by rw [qa0.2.1]; decide)
  refine ⟨h1, h2, h3, ?_, gA_ok.kept (SP.write_kept _ _ _ _ _), fun d => ?_⟩
  · have := SP.write_len (R := QA0) (g := gA) ((0 : Nat) : Int) 5 (datL 2 7) writes_len8
    exact this
  · exact ((SP.write_kept QA0 gA ((0 : Nat) : Int) 5 (datL 2 7)).on (d : Int)).trans (qa0.2.2 d)
theorem qa2 : (QA1.lose ((1 : Nat) : Int)).1 = 0 ∧ SP.Wrote QA2 gA 0 5 (datL 2 7) ∧ QA2.off = false ∧ QA2.L.length ≤ 24 ∧ gA.Ok QA2 ∧ (∀ d : Nat, QA2.on (d : Int) = (decide (d < 3) && !(d == 1))) ∧ QA2.ons = 2 := by
  obtain ⟨_, h2, h3, h4, h5, h6⟩ := qa1
  obtain ⟨l1, l2⟩ := SP.lose_yes (R := QA1) (d := 1) (by rw [h6]; decide)
  have hon : ∀ d : Nat, QA2.on (d : Int) = (decide (d < 3) && !(d == 1)) := fun d => (l2 d).trans (by rw [h6])
  have hg : gA.Ok QA2 := SP.lose_geo h5 _
  refine ⟨l1, h2.lose _, (SP.lose_off _ _).trans h3, Nat.le_trans (SP.lose_L _ _) h4, hg, hon, ?_⟩
  rw [← SP.ons_filter hg]
  have e : (fun d : Nat => QA2.on (d : Int)) = fun d : Nat => (decide (d < 3) && !(d == 1)) := by funext d; exact hon d
  rw [e]
  decide
theorem qa3 : SP.Wrote QA3 gA 0 5 (datL 2 7) ∧ QA3.off = false ∧ QA3.L.length ≤ 24 ∧ gA.Ok QA3 ∧ QA3.on ((0 : Nat) : Int) = true ∧ QA3.ons = 1 := by
  obtain ⟨_, h2, h3, h4, h5, h6, _⟩ := qa2
  obtain ⟨l1, l2⟩ := SP.lose_yes (R := QA2) (d := 2) (by rw [h6]; decide)
  have hon : ∀ d : Nat, QA3.on (d : Int) = ((decide (d < 3) && !(d == 1)) && !(d == 2)) := fun d => (l2 d).trans (by rw [h6])
  have hg : gA.Ok QA3 := SP.lose_geo h5 _
  refine ⟨h2.lose _, (SP.lose_off _ _).trans h3, Nat.le_trans (SP.lose_L _ _) h4, hg, (hon 0).trans (by decide), ?_⟩
  rw [← SP.ons_filter hg]
  have e : (fun d : Nat => QA3.on (d : Int)) = fun d : Nat => ((decide (d < 3) && !(d == 1)) && !(d == 2)) := by funext d; exact hon d
  rw [e]
  decide

set_option maxHeartbeats 6400000 in
theorem awake8 (w : World) : Calls Tryz.prog 6 #[] w fun e w' => e = .returned (.bool true) ∧ w.grownBy w' none := by
  have MD : Hid (Calls Tryz.prog 7 #[.int .i64 2, .int .i64 1, .int .i64 1, .int .i64 3] w fun e w' => ∃ s t, e = .returned (.tuple #[ptr s, .pointer (some ⟨t, 0, none⟩)]) ∧ ∃ F G a r, Duo F G w w' s a t r gA QA0) := made8_yes w (k := 2) (more := 1) (S := 1) (f := 3) (by decide) (by decide) (by decide) (by decide) (by decide) (by decide)
  have DT : Hid (∀ w', Calls Tryz.prog 10 #[.int .i64 2, .int .u8 7] w' fun e w'' => ∃ p n c, e = .returned (.slice p n c) ∧ Own w'.heap.size w'' (.slice p n c) (datL 2 7) ∧ w'.grownBy w'' none) := fun w' => data_yes w' (k := 2) (x := 7) (by decide) (by decide) (by decide)
  go_enter Tryz.func6, Tryz.ntmps6
  go_wp2_with (first
    | (go_at_call 7; refine MD.out.mono ?_; rintro e w1 ⟨s, t, rfl, F1, G1, a, r, du⟩; have I1 : Hid (SI F1 w1 s a gA QA0) := du.i; have B1 : Hid (Base w F1 w1) := ⟨du.gr, du.bi⟩; clear du)
    | fail)
  clear MD
  refine (DT.out w1).mono ?_
  rintro e w2 ⟨p2, n2, c2, rfl, o2, g2⟩
  have V2 : Hid (Aw F1 w2 (.slice p2 n2 c2) (datL 2 7)) := o2.aw I1.out.i.lt
  have I2 : Hid (SI F1 w2 s a gA QA0) := I1.out.keep g2
  have B2 : Hid (Base w F1 w2) := B1.out.keep g2
  clear o2 g2 I1 B1
  have WR : Hid (Calls Tryz.prog 11 #[ptr s, .int .i64 0, .int .u64 5, .slice p2 n2 c2] w2 fun e w' => e = .returned (.int .i64 0) ∧ ∃ F', SI F' w' s a gA QA1 ∧ Base w F' w') := by
    have h0 := swrite_all I2.out ((0 : Nat) : Int) 5 V2.out (by decide)
    rw [qa1.1] at h0
    refine h0.mono ?_
    rintro e w' ⟨rfl, F', i, st⟩
    exact ⟨rfl, F', i, B2.out.step st⟩
  clear V2
  go_wp2_with (first
    | (go_at_call 11; refine WR.out.mono ?_; rintro e w3 ⟨rfl, F3, i3, b3⟩; have I3 : Hid (SI F3 w3 s a gA QA1) := i3; have B3 : Hid (Base w F3 w3) := b3; clear i3 b3)
    | (go_at_call 9; refine (sarray_yes I3.out).mono ?_; rintro e w9 ⟨rfl, hw9⟩; obtain rfl := hw9.symm; clear hw9)
    | fail)
  clear WR I2 B2
  have L1 : Hid (Calls Tryz.prog 25 #[ptr a, .int .i64 1] w3 fun e w' => e = .returned (.int .i64 0) ∧ ∃ F', SI F' w' s a gA QA2 ∧ Base w F' w') := by
    refine (lose_at (d := ((1 : Nat) : Int)) I3.out.i (by have := qa1.2.2.2.1; omega) (c := 0) (by rw [qa2.1]; rfl) rfl).mono ?_
    rintro e w' ⟨rfl, F', i, st⟩
    exact ⟨rfl, F', I3.out.step i st qa2.2.2.2.2.1, B3.out.step st⟩
  go_wp2_with (first
    | (go_at_call 25; refine L1.out.mono ?_; rintro e w4 ⟨rfl, F4, i4, b4⟩; have I4 : Hid (SI F4 w4 s a gA QA2) := i4; have B4 : Hid (Base w F4 w4) := b4; clear i4 b4)
    | fail)
  clear L1 I3 B3
  have R1 : Hid (Calls Tryz.prog 14 #[ptr s, .int .i64 0, .int .u64 5] w4 fun e w' => ∃ p n c, e = .returned (.tuple #[.slice p n c, .int .i64 0]) ∧ Own w4.heap.size w' (.slice p n c) (datL 2 7) ∧ w4.grownBy w' none) := by
    refine (sread_all I4.out ((0 : Nat) : Int) 5).mono ?_
    rintro e w' ⟨v, er, out, rfl, hr, ho, hg⟩
    obtain ⟨h1, h2⟩ := (qa2.2.1.read qa2.2.2.2.2.1 (by decide) (by decide) (datL_small 2 7) (datL_len 2 7) qa2.2.2.1 (by decide) hr).1 (by rw [qa2.2.2.2.2.2.2]; decide)
    rw [h1] at ho
    rw [h2]
    obtain ⟨p, n, c, rfl, _⟩ := ho.vec.opened
    exact ⟨p, n, c, rfl, ho, hg⟩
  go_wp2_with (first
    | (go_at_call 14; refine R1.out.mono ?_; rintro e w5 ⟨p5, n5, c5, rfl, v5, g5⟩; have V5 : Hid (Aw F4 w5 (.slice p5 n5 c5) (datL 2 7)) := v5.aw I4.out.i.lt; have I5 : Hid (SI F4 w5 s a gA QA2) := I4.out.keep g5; have B5 : Hid (Base w F4 w5) := B4.out.keep g5; clear v5 g5)
    | (go_at_call 9; refine (sarray_yes I5.out).mono ?_; rintro e w9 ⟨rfl, hw9⟩; obtain rfl := hw9.symm; clear hw9)
    | fail)
  clear R1 I4 B4
  have L2 : Hid (Calls Tryz.prog 25 #[ptr a, .int .i64 2] w5 fun e w' => ∃ c, e = .returned (.int .i64 c) ∧ ∃ F', SI F' w' s a gA QA3 ∧ Base w F' w' ∧ Aw F' w' (.slice p5 n5 c5) (datL 2 7)) := by
    refine (lose_at (d := ((2 : Nat) : Int)) I5.out.i (by have := qa2.2.2.2.1; omega) rfl rfl).mono ?_
    rintro e w' ⟨rfl, F', i, st⟩
    exact ⟨_, rfl, F', I5.out.step i st qa3.2.2.2.1, B5.out.step st, V5.out.step st⟩
  go_wp2_with (first
    | (go_at_call 25; refine L2.out.mono ?_; rintro e w6 ⟨c6, rfl, F6, i6, b6, v6⟩; have I6 : Hid (SI F6 w6 s a gA QA3) := i6; have B6 : Hid (Base w F6 w6) := b6; have V6 : Hid (Aw F6 w6 (.slice p5 n5 c5) (datL 2 7)) := v6; clear i6 b6 v6)
    | fail)
  clear L2 I5 B5 V5
  have R2 : Hid (Calls Tryz.prog 14 #[ptr s, .int .i64 0, .int .u64 5] w6 fun e w' => ∃ p n c, e = .returned (.tuple #[.slice p n c, .int .i64 20]) ∧ w6.grownBy w' none) := by
    refine (sread_all I6.out ((0 : Nat) : Int) 5).mono ?_
    rintro e w' ⟨v, er, out, rfl, hr, ho, hg⟩
    obtain ⟨h1, h2⟩ := (qa3.1.read qa3.2.2.2.1 (by decide) (by decide) (datL_small 2 7) (datL_len 2 7) qa3.2.1 (by decide) hr).2 (by rw [qa3.2.2.2.2.2]; decide)
    rw [h2]
    obtain ⟨p, n, c, rfl, _⟩ := ho.vec.opened
    exact ⟨p, n, c, rfl, hg⟩
  have HI : Hid (SP.hiN QA3 gA ((0 : Nat) : Int) = 5 ∧ SP.why QA3 gA ((0 : Nat) : Int) = 0) := by
    have hy : SP.why QA3 gA ((0 : Nat) : Int) = 0 := by
      unfold SP.why
      rw [qa3.2.1]
      simp only [Bool.false_eq_true, if_false]
      rw [if_pos (by decide)]
    refine ⟨?_, hy⟩
    unfold SP.hiN
    rw [if_pos hy]
    exact qa3.1.high (by decide) (d := 0) (by decide) qa3.2.2.2.2.1
  have HH : Hid (∀ w', w6.grownBy w' none → Calls Tryz.prog 23 #[ptr s, .int .i64 0] w' fun e w'' => e = .returned (.tuple #[.int .u64 5, .int .i64 0]) ∧ w'.grownBy w'' none) := fun w' g1 => by
    have := shigh_all (I6.out.keep g1) ((0 : Nat) : Int)
    rw [HI.out.1, HI.out.2] at this
    exact this
  clear HI
  go_wp2_with (first
    | (go_at_call 14; refine R2.out.mono ?_; rintro e w7 ⟨p7, n7, c7, rfl, g7⟩; have G7 : Hid (w6.grownBy w7 none) := g7; clear g7)
    | (go_at_call 23; refine (HH.out _ G7.out).mono ?_; rintro e w8 ⟨rfl, g8⟩; have G8 : Hid (w6.grownBy w8 none) := grown_trans G7.out g8; clear g8)
    | (go_at_call 10; refine (DT.out _).mono ?_; rintro e wa ⟨pa, na, ca, rfl, oa, ga⟩; have GA : Hid (w6.grownBy wa none) := grown_trans G8.out ga; have VA : Hid (Vec wa (.slice pa na ca) (datL 2 7) ∧ Vec wa (.slice p5 n5 c5) (datL 2 7)) := ⟨oa.vec, V6.out.vec.keep GA.out⟩; clear oa ga)
    | (go_at_call 13; refine (equal_at VA.out.2 VA.out.1 rfl).mono ?_; rintro e w9 ⟨rfl, hw9⟩; obtain rfl := hw9.symm; clear hw9))
  go_ret
  exact ⟨rfl, grown_trans B6.out.grown GA.out⟩
end Go.Proofs.YtfjlpifaaknmpaaGreat

