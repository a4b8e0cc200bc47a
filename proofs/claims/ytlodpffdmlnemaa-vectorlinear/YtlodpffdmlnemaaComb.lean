/- Contracts of vector.Combine and its closures. -/
import Derived.Test.YtlodpffdmlnemaaOps
namespace Go.Proofs.Ytlodpffdmlnemaa
open Go.RowKit

theorem enters32 : ∀ args w, (callFunc 32 args).run Try.prog w = .ok (.enter 32 args) w := by
  intro args w
  simp [go_sem, callFunc, Try.func32, Try.f32]
theorem enters33 : ∀ args w, (callFunc 33 args).run Try.prog w = .ok (.enter 33 args) w := by
  intro args w
  simp [go_sem, callFunc, Try.func33, Try.f33]

/-- One place of a combination. -/
def vcat (cs : List Nat) (xss : List (List Nat)) (p : Nat) : Nat := xsum (fun k => M.mul (cs.getD k 0) ((xss.getD k []).getD p 0)) xss.length
def vcomb (cs : List Nat) (xss : List (List Nat)) : List Nat := (List.range (xss.getD 0 []).length).map (vcat cs xss)

theorem vcat_lt {cs : List Nat} (h : ∀ x ∈ cs, x < 256) (xss : List (List Nat)) (p : Nat) : vcat cs xss p < 256 :=
  xsum_lt fun j _ => M.mul_lt _ (getD_small h j)

theorem Cells.opened {w : World} {v : Value} {vs : List Value} (h : Cells w v vs) : ∃ p n cap, v = .slice p n cap ∧ n = vs.length := by
  obtain ⟨p, cap, e, _⟩ := h.form
  exact ⟨p, _, cap, e, rfl⟩

set_option maxHeartbeats 400000 in
theorem combine1_any (p bc br : Nat) (c r : Value) (cs : List Nat) (vs : List Value) (xss : List (List Nat)) (w : World) (hc0 : w.cell? ⟨bc, 0, none⟩ = some c) (hr0 : w.cell? ⟨br, 0, none⟩ = some r)
    (vc : Vec w c cs) (mr : Mat w r vs xss) (hl : cs.length = xss.length) (hp : ∀ k, k < xss.length → p < (xss.getD k []).length) :
    Calls Try.prog 32 #[.int .i64 (p : Int), .pointer (some ⟨br, 0, none⟩), .pointer (some ⟨bc, 0, none⟩)] w fun e w' => e = .returned (bv (vcat cs xss p)) ∧ w.grownBy w' none := by
  have b1 : br < w.heap.size := World.block_lt_of_cell? w _ hr0
  have hsz : xss.length ≤ 140737488351232 := by have := mr.row.len; rw [mr.same] at this; omega
  obtain ⟨q, n, cap, rfl, hn⟩ := mr.row.opened
  have HN : Hid (n = xss.length) := hn.trans mr.same
  clear hn
  have HG : Hid (w.grownBy (w.alloc (.cells #[.int .i64 (p : Int)] 3)) none) := World.grownBy_alloc w _ none
  have HT : Told 33 #[.pointer (some ⟨bc, 0, none⟩), .pointer (some ⟨br, 0, none⟩), .pointer (some ⟨w.heap.size, 0, none⟩)] n (fun k => M.mul (cs.getD k 0) ((xss.getD k []).getD p 0)) (w.alloc (.cells #[.int .i64 (p : Int)] 3)) := by
    have hh := HN.out
    refine ⟨enters33, fun k hk w2 g2 => (combine11_any k p _ _ _ _ _ cs vs xss w2 ((grown_trans HG.out g2).cell hc0 (by simp)) ((grown_trans HG.out g2).cell hr0 (by simp)) (g2.cell (v := .int .i64 (p : Int)) (by simp) (by simp))
      (vc.keep (grown_trans HG.out g2)) (mr.keep (grown_trans HG.out g2)) (by omega) (by omega) (hp k (by omega))).mono fun _ _ ⟨h1, m, h2⟩ => ⟨h1, by rw [h2]; exact grown_drewN _ _⟩⟩
  have HL : Hid (n ≤ 140737488351232) := by rw [HN.out]; exact hsz
  have HS : Hid (∀ j, j < n → M.mul (cs.getD j 0) ((xss.getD j []).getD p 0) < 256) := fun j _ => M.mul_lt _ (getD_small vc.small j)
  have HD : Hid (xsum (fun k => M.mul (cs.getD k 0) ((xss.getD k []).getD p 0)) n = vcat cs xss p) := by rw [HN.out]; rfl
  clear hsz hl hp
  go_enter Try.func32, Try.ntmps32
  go_wp2_with (first
    | (go_at_call 29; refine (sum_any 33 _ n (fun k => M.mul (cs.getD k 0) ((xss.getD k []).getD p 0)) _ HL.out HS.out HT).mono ?_; rintro e w2 ⟨rfl, hg2⟩; have HG2 : Hid _ := hg2; clear hg2; rw [HD.out]))
  go_ret
  exact ⟨rfl, grown_trans HG.out HG2.out⟩

theorem combine_count {w : World} {c r : Value} {cs : List Nat} {vs : List Value} {xss : List (List Nat)} (vc : Vec w c cs) (mr : Mat w r vs xss) (hl : cs.length ≠ xss.length) :
    Calls Try.prog 19 #[c, r] w fun e w' => e = .returned (.tuple #[.slice none 0 0, .int .i64 1]) ∧ w.grownBy w' none := by
  obtain ⟨p, n, cp, rfl, hn⟩ := vc.opened
  obtain ⟨q, n', cp', rfl, hn'⟩ := mr.row.opened
  have hfit : ((n : Int) != (n' : Int)) = true := by have := mr.same; simp [hn, hn']; omega
  clear hl hn hn'
  go_enter Try.func19, Try.ntmps19
  go_wp2
  go_ret2
  exact ⟨rfl, grown_trans (World.grownBy_alloc w _ none) (World.grownBy_alloc _ _ none)⟩

theorem combine_none {w : World} {c r : Value} (vc : Vec w c []) (mr : Mat w r [] []) :
    Calls Try.prog 19 #[c, r] w fun e w' => e = .returned (.tuple #[.slice none 0 0, .int .i64 0]) ∧ w.grownBy w' none := by
  obtain ⟨p, n, cp, rfl, hn⟩ := vc.opened
  obtain ⟨q, n', cp', rfl, hn'⟩ := mr.row.opened
  subst hn
  subst hn'
  go_enter Try.func19, Try.ntmps19
  go_wp2
  go_ret2
  exact ⟨rfl, grown_trans (World.grownBy_alloc w _ none) (World.grownBy_alloc _ _ none)⟩

set_option maxHeartbeats 800000 in
theorem combine_yes {w : World} {c r : Value} {cs : List Nat} {vs : List Value} {xss : List (List Nat)} (vc : Vec w c cs) (mr : Mat w r vs xss) (hl : cs.length = xss.length) (h0 : 0 < xss.length)
    (hfit : ∀ k, k < xss.length → (xss.getD k []).length = (xss.getD 0 []).length) :
    Calls Try.prog 19 #[c, r] w fun e w' => ∃ v, e = .returned (.tuple #[v, .int .i64 0]) ∧ Own w.heap.size w' v (vcomb cs xss) ∧ w.grownBy w' none := by
  obtain ⟨p, n, cp, rfl, hn⟩ := vc.opened
  have hl1 := mr.row.len
  have hsame := mr.same
  obtain ⟨b, off, cap, rfl, hc0⟩ := mr.row.at (k := 0) (by omega)
  obtain ⟨p0, n0, c0, e0, hn0⟩ := (mr.vec 0 h0).opened
  rw [e0] at hc0
  have hb : b < w.heap.size := World.block_lt_of_cell? w _ hc0
  have hc0' : w.cell? ⟨b, off, none⟩ = some (.slice p0 n0 c0) := hc0
  clear hc0
  generalize hN : vs.length = N at *
  have heq : ((n : Int) != (N : Int)) = false := by simp; omega
  have hne : ((N : Int) == 0) = false := by simp; omega
  have hpos : (0 : Int) < (N : Int) := by omega
  have HN : Hid (n = cs.length ∧ N = xss.length ∧ cs.length = xss.length ∧ n0 = (xss.getD 0 []).length) := ⟨hn, hsame, hl, hn0⟩
  have HF : Hid (∀ k, k < xss.length → (xss.getD k []).length = (xss.getD 0 []).length) := hfit
  have HE : Hid (vs.getD 0 undef = .slice p0 n0 c0) := e0
  have HV : Hid (vs.length = N) := hN
  clear hfit hl hn hsame hn0 h0 e0 hN
  go_enter Try.func19, Try.ntmps19
  go_wp2_with fail
  have G0 : w.grownBy ((w.alloc (.cells #[.slice p n cp] 22)).alloc (.cells #[.slice (some ⟨b, off, none⟩) N cap] 38)) none := grown_trans (World.grownBy_alloc w _ none) (World.grownBy_alloc _ _ none)
  have C1 := cell_box1 w (.slice p n cp) (.slice (some ⟨b, off, none⟩) N cap) 22 38
  have C2 := cell_box2 w (.slice p n cp) (.slice (some ⟨b, off, none⟩) N cap) 22 38
  generalize (w.alloc (.cells #[.slice p n cp] 22)).alloc (.cells #[.slice (some ⟨b, off, none⟩) N cap] 38) = W at *
  have MR : Mat W _ vs xss := mr.keep G0
  have VC : Vec W _ cs := vc.keep G0
  have D0 : W.cell? ⟨b, off, none⟩ = some (.slice p0 n0 c0) := G0.cell hc0' (by simp)
  have HG : Hid (w.grownBy W none) := G0
  clear mr vc hc0' G0
  go_loop [18] (fun ti => ∃ k : Nat, k ≤ N ∧ ti = .int .i64 k) (fun ti => N - (intOf ti).toNat)
  case atStart => exact ⟨0, by omega, rfl⟩
  case round =>
    obtain ⟨k, hk, rfl⟩ := hrel
    by_cases hlt : k < N
    · have hkx : k < xss.length := by have := HN.out.2.1; omega
      obtain ⟨b2, off2, cap2, e2, hck⟩ := MR.row.at (k := k) (by have := HV.out; omega)
      obtain ⟨rfl, rfl, rfl⟩ : b = b2 ∧ off = off2 ∧ cap = cap2 := by
        injection e2 with e3 e4 e5
        injection e3 with e3
        injection e3 with e6 e7
        exact ⟨e6, e7, e5⟩
      clear e2
      obtain ⟨pk, nk, ck, ek, hnk⟩ := (MR.vec k hkx).opened
      rw [ek] at hck
      have hf : ((nk : Int) == (n0 : Int)) = true := by
        have h1 := HF.out k hkx
        have h2 := HN.out.2.2.2
        rw [hnk, h1, h2]; simp
      have HK : Hid _ := ek
      clear ek hnk hkx
      go_wp2_with (go_at_call 21; refine (fit_any _ _ _ _ _ _ _).mono ?_; rintro e w2 ⟨rfl, hw⟩; obtain rfl := hw.symm; clear hw)
      go_round
      case rel => exact ⟨k + 1, by omega, by go_num⟩
      case measure => simp [intOf]; omega
    · have HT : Told 32 #[.pointer (some ⟨w.heap.size + 1, 0, none⟩), .pointer (some ⟨w.heap.size, 0, none⟩)] n0 (vcat cs xss) W := by
        have hh := HN.out
        refine ⟨enters32, fun k hk w2 g2 => combine1_any k _ _ _ _ cs vs xss w2 (g2.cell C1 (by simp)) (g2.cell C2 (by simp)) (VC.keep g2) (MR.keep g2) hh.2.2.1 (fun j hj => ?_)⟩
        have := HF.out j hj
        omega
      have HL : Hid (n0 ≤ 140737488351232) := by
        have h1 := HN.out
        have h2 := (MR.vec 0 (by omega)).len
        rw [h1.2.2.2]; exact h2
      have HS : Hid (∀ j, j < n0 → vcat cs xss j < 256) := fun j _ => vcat_lt VC.small xss j
      go_wp2_with (go_at_call 22; refine (list_any 32 _ n0 (vcat cs xss) _ HL.out HS.out HT).mono ?_; rintro e w1 ⟨v, rfl, ho, hg⟩; have HO : Hid _ := ho; have HG2 : Hid _ := hg; clear ho hg)
      go_ret2
      refine ⟨_, rfl, ?_, grown_trans HG.out HG2.out⟩
      have h1 := HO.out
      have h2 := HG.out.size
      rw [HN.out.2.2.2] at h1
      exact ⟨h1.small, h1.len, h1.row.1, by
        rcases h1.row.2 with h | ⟨g, cp, cur, a1, a2, a3⟩
        · exact .inl h
        · exact .inr ⟨g, cp, cur, a1, by omega, a3⟩⟩

set_option maxHeartbeats 800000 in
theorem combine_no {w : World} {c r : Value} {cs : List Nat} {vs : List Value} {xss : List (List Nat)} (vc : Vec w c cs) (mr : Mat w r vs xss) (hl : cs.length = xss.length) (m : Nat) (hm : m < xss.length)
    (hfit : ∀ k, k < m → (xss.getD k []).length = (xss.getD 0 []).length) (hno : (xss.getD m []).length ≠ (xss.getD 0 []).length) :
    Calls Try.prog 19 #[c, r] w fun e w' => e = .returned (.tuple #[.slice none 0 0, .int .i64 1]) ∧ w.grownBy w' none := by
  have h0 : 0 < xss.length := by omega
  obtain ⟨p, n, cp, rfl, hn⟩ := vc.opened
  have hl1 := mr.row.len
  have hsame := mr.same
  obtain ⟨b, off, cap, rfl, hc0⟩ := mr.row.at (k := 0) (by omega)
  obtain ⟨p0, n0, c0, e0, hn0⟩ := (mr.vec 0 h0).opened
  rw [e0] at hc0
  have hb : b < w.heap.size := World.block_lt_of_cell? w _ hc0
  have hc0' : w.cell? ⟨b, off, none⟩ = some (.slice p0 n0 c0) := hc0
  clear hc0
  generalize hN : vs.length = N at *
  have heq : ((n : Int) != (N : Int)) = false := by simp; omega
  have hne : ((N : Int) == 0) = false := by simp; omega
  have hpos : (0 : Int) < (N : Int) := by omega
  have HN : Hid (n = cs.length ∧ N = xss.length ∧ cs.length = xss.length ∧ n0 = (xss.getD 0 []).length) := ⟨hn, hsame, hl, hn0⟩
  have HF : Hid (∀ k, k < m → (xss.getD k []).length = (xss.getD 0 []).length) := hfit
  have HM : Hid ((xss.getD m []).length ≠ (xss.getD 0 []).length) := hno
  have hmN : m < N := by omega
  have HE : Hid (vs.getD 0 undef = .slice p0 n0 c0) := e0
  have HV : Hid (vs.length = N) := hN
  clear hfit hno hl hn hsame hn0 h0 e0 hN
  go_enter Try.func19, Try.ntmps19
  go_wp2_with fail
  have G0 : w.grownBy ((w.alloc (.cells #[.slice p n cp] 22)).alloc (.cells #[.slice (some ⟨b, off, none⟩) N cap] 38)) none := grown_trans (World.grownBy_alloc w _ none) (World.grownBy_alloc _ _ none)
  have C1 := cell_box1 w (.slice p n cp) (.slice (some ⟨b, off, none⟩) N cap) 22 38
  have C2 := cell_box2 w (.slice p n cp) (.slice (some ⟨b, off, none⟩) N cap) 22 38
  generalize (w.alloc (.cells #[.slice p n cp] 22)).alloc (.cells #[.slice (some ⟨b, off, none⟩) N cap] 38) = W at *
  have MR : Mat W _ vs xss := mr.keep G0
  have VC : Vec W _ cs := vc.keep G0
  have D0 : W.cell? ⟨b, off, none⟩ = some (.slice p0 n0 c0) := G0.cell hc0' (by simp)
  have HG : Hid (w.grownBy W none) := G0
  clear mr vc hc0' G0
  go_loop [18] (fun ti => ∃ k : Nat, k ≤ m ∧ ti = .int .i64 k) (fun ti => N - (intOf ti).toNat)
  case atStart => exact ⟨0, by omega, rfl⟩
  case round =>
    obtain ⟨k, hk, rfl⟩ := hrel
    have hkN : k < N := by omega
    have hkx : k < xss.length := by have := HN.out.2.1; omega
    obtain ⟨b2, off2, cap2, e2, hck⟩ := MR.row.at (k := k) (by have := HV.out; omega)
    obtain ⟨rfl, rfl, rfl⟩ : b = b2 ∧ off = off2 ∧ cap = cap2 := by
      injection e2 with e3 e4 e5
      injection e3 with e3
      injection e3 with e6 e7
      exact ⟨e6, e7, e5⟩
    clear e2
    obtain ⟨pk, nk, ck, ek, hnk⟩ := (MR.vec k hkx).opened
    rw [ek] at hck
    have HK : Hid _ := ek
    clear ek
    by_cases hlt : k < m
    · have hf : ((nk : Int) == (n0 : Int)) = true := by
        have h1 := HF.out k hlt
        have h2 := HN.out.2.2.2
        rw [hnk, h1, h2]; simp
      clear hnk hkx
      go_wp2_with (go_at_call 21; refine (fit_any _ _ _ _ _ _ _).mono ?_; rintro e w2 ⟨rfl, hw⟩; obtain rfl := hw.symm; clear hw)
      go_round
      case rel => exact ⟨k + 1, by omega, by go_num⟩
      case measure => simp [intOf]; omega
    · have hf : ((nk : Int) == (n0 : Int)) = false := by
        have hkm : k = m := by omega
        have h1 := HM.out
        have h2 := HN.out.2.2.2
        rw [← hkm, ← hnk, ← h2] at h1
        simp; omega
      clear hnk hkx
      go_wp2_with (go_at_call 21; refine (fit_any _ _ _ _ _ _ _).mono ?_; rintro e w2 ⟨rfl, hw⟩; obtain rfl := hw.symm; clear hw)
      go_ret2
      exact ⟨rfl, HG.out⟩
end Go.Proofs.Ytlodpffdmlnemaa
