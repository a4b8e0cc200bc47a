/- The walk of CodeDecodes. -/
import Derived.Test.YtdeajclghlbhcaaFlat4
import Derived.Test.YtdeajclghlbhcaaRefDec4
import Derived.Test.YtdeajclghlbhcaaWake4
import Derived.Test.YtdeajclghlbhcaaLift
set_option linter.unusedVariables false
namespace Go.Proofs.Ytdeajclghlbhcaa.codeDecodes
open Go.ChangeShapes Go.WideShapes Go.ChangeAt Go.RowKit

set_option maxHeartbeats 12800000 in
set_option maxRecDepth 100000 in
theorem walk {w : World} {k n : Int} {l x : Value} {ls : List Int} {vx : List Value} {X : List (List Nat)} (hl : IVec w l ls) (h8 : ls.length * 8 ≤ 140737488351232) (mx : Mat w x vx X) :
    Calls Try.prog 5 #[.agg #[.int .i64 k, .int .i64 n, l, x]] w fun e w' => e = .returned (.bool true) ∧ w.grownBy w' none := by
  obtain ⟨q, N, cap, rfl, hN⟩ := mx.row.opened
  obtain ⟨ql, A, capl, rfl, hA⟩ := hl.opened
  have MX : Hid (∀ w', w.grownBy w' none → Mat w' (.slice q N cap) vx X) := fun w' g => mx.keep g
  have ML : Hid (∀ w', w.grownBy w' none → IVec w' (.slice ql A capl) ls) := fun w' g => hl.keep g
  have HL : Hid (A = ls.length ∧ ls.length * 8 ≤ 140737488351232) := ⟨hA, h8⟩
  have hAl : A ≤ 140737488351232 := by omega
  clear mx hN hl hA h8
  have HC : Hid ((w.alloc (.cells #[.int .i64 k, .int .i64 n, .slice ql A capl, .slice q N cap] 47)).drew.cell? ⟨w.heap.size, 0, none⟩ = some (.int .i64 k) ∧ (w.alloc (.cells #[.int .i64 k, .int .i64 n, .slice ql A capl, .slice q N cap] 47)).drew.cell? ⟨w.heap.size, 1, none⟩ = some (.int .i64 n) ∧ (w.alloc (.cells #[.int .i64 k, .int .i64 n, .slice ql A capl, .slice q N cap] 47)).drew.cell? ⟨w.heap.size, 2, none⟩ = some (.slice ql A capl) ∧ (w.alloc (.cells #[.int .i64 k, .int .i64 n, .slice ql A capl, .slice q N cap] 47)).drew.cell? ⟨w.heap.size, 3, none⟩ = some (.slice q N cap)) := by
    have h := heap_alloc_new w (.cells #[.int .i64 k, .int .i64 n, .slice ql A capl, .slice q N cap] 47)
    exact ⟨cell_of_row _ _ 0 _ _ _ h, cell_of_row _ _ 1 _ _ _ h, cell_of_row _ _ 2 _ _ _ h, cell_of_row _ _ 3 _ _ _ h⟩
  have G0 : Hid (w.grownBy (w.alloc (.cells #[.int .i64 k, .int .i64 n, .slice ql A capl, .slice q N cap] 47)).drew none) := gb_drew (gb_alloc (World.grownBy.refl _ _) _)
  go_enter Try.func5, Try.ntmps5
  go_wp2_with fail
  go_region_held3 (fun w' => w'.cell? ⟨w.heap.size, 0, none⟩ = some (.int .i64 k) ∧ w'.cell? ⟨w.heap.size, 1, none⟩ = some (.int .i64 n) ∧ w'.cell? ⟨w.heap.size, 2, none⟩ = some (.slice ql A capl) ∧ w'.cell? ⟨w.heap.size, 3, none⟩ = some (.slice q N cap)) (exact HC.out) (fail)
  clear HC
  generalize (w.alloc (.cells #[.int .i64 k, .int .i64 n, .slice ql A capl, .slice q N cap] 47)).drew = W0 at *
  go_wp2_with fail
  refine (awake_any W0).mono ?_
  rintro e w1 ⟨rfl, g1⟩
  have G1 : Hid (w.grownBy w1 none) := grown_trans G0.out g1
  clear g1 G0
  go_wp2_with fail
  refine (great4_any k n (MX.out _ G1.out)).mono ?_
  rintro e w2 ⟨⟨b1, rfl⟩, hw⟩
  obtain rfl := hw.symm
  clear hw
  cases b1
  case true =>
    go_wp2
    go_ret
    exact ⟨rfl, G1.out⟩
  case false =>
  by_cases h300 : (300 : Int) < (A : Int)
  · go_wp2
    go_ret
    exact ⟨rfl, G1.out⟩
  have h300' : decide ((300 : Int) < (A : Int)) = false := decide_eq_false h300
  obtain ⟨b, HB⟩ : ∃ b, Hid (b = mayI k n) := ⟨_, rfl⟩
  have MM : Hid (Calls Try.prog 10 #[.int .i64 k, .int .i64 n] w1 fun e w' => e = .returned (.bool b) ∧ w' = w1) := by rw [HB.out]; exact codeMay_any k n w1
  have CASES : (b = true ∧ (40 : Int) < k ∧ k ≤ (A : Int)) ∨ b = false ∨ (b = true ∧ ¬ (40 : Int) < k) ∨ (b = true ∧ (40 : Int) < k ∧ ¬ k ≤ (A : Int)) := by
    cases b
    · exact .inr (.inl rfl)
    · by_cases e1 : (40 : Int) < k
      · by_cases e2 : k ≤ (A : Int)
        · exact .inl ⟨rfl, e1, e2⟩
        · exact .inr (.inr (.inr ⟨rfl, e1, e2⟩))
      · exact .inr (.inr (.inl ⟨rfl, e1⟩))
  clear HB
  rcases CASES with ⟨rfl, e1, e2⟩ | rfl | ⟨rfl, e1⟩ | ⟨rfl, e1, e2⟩
  · go_wp2_with (go_at_call 10; refine MM.out.mono ?_; rintro e w2 ⟨rfl, hw⟩; obtain rfl := hw.symm; clear hw)
    go_ret
    exact ⟨rfl, G1.out⟩
  all_goals
    go_wp2_with (go_at_call 10; refine MM.out.mono ?_; rintro e w2 ⟨rfl, hw⟩; obtain rfl := hw.symm; clear hw)
    clear MM h300'
    refine (refCopy_any (MX.out _ G1.out)).mono ?_
    rintro e w3 ⟨v, ux, rfl, om, g3⟩
    obtain ⟨px, nx, cx, rfl, hq⟩ := om.mat.row.opened
    have KX3 : Hid (∀ w', w3.grownBy w' none → Mat w' (.slice px nx cx) ux X) := fun w' g => om.mat.keep g
    have G3 : Hid (w.grownBy w3 none) := grown_trans G1.out g3
    clear om g3 hq G1
    go_wp2_with (at_builtin; refine wpList_append_ints rfl _ _ rfl _ rfl rfl (ML.out _ G3.out) HL.out.2 ?_; intro v' w4 iv g4; obtain ⟨pl, nl, cl, rfl, hnl⟩ := iv.opened; have IV4 : Hid (∀ w', w4.grownBy w' none → IVec w' (.slice pl nl cl) ls) := (fun w' g => iv.keep g); have HNL : Hid (nl = ls.length) := hnl; have G4 : Hid (w.grownBy w4 none ∧ w3.grownBy w4 none) := ⟨grown_trans G3.out g4, g4⟩; clear iv g4 hnl)
    have KX : Hid (∀ w', w4.grownBy w' none → Mat w' (.slice px nx cx) ux X) := fun w' g => KX3.out _ (grown_trans G4.out.2 g)
    have KA : Hid (∀ w', w4.grownBy w' none → Mat w' (.slice q N cap) vx X) := fun w' g => MX.out _ (grown_trans G4.out.1 g)
    have KM : Hid (∀ w', w4.grownBy w' none → IVec w' (.slice ql A capl) ls) := fun w' g => ML.out _ (grown_trans G4.out.1 g)
    have GW : Hid (w.grownBy w4 none) := G4.out.1
    have hnl : nl = A := by have := HNL.out; have := HL.out; omega
    clear KX3 G3 G4 MX ML
    refine (decode_all (IV4.out _ (World.grownBy.refl _ _)) (KX.out _ (World.grownBy.refl _ _))).mono ?_
    rintro e w5 ⟨pa, na, ca, ua, P, er, rfl, oa, ip, g5⟩
    have O5 : Hid (∀ w', w5.grownBy w' none → OwnMat w4.heap.size w' (.slice pa na ca) ua P) := fun w' g => oa.keep g
    have IP : Hid (DecP k n ls X P er) := ip
    have W5 : Hid (w4.grownBy w5 none) := g5
    clear oa ip g5
    go_wp2_with fail
    refine (refDecode_all (KM.out _ W5.out) (KA.out _ W5.out)).mono ?_
    rintro e w6 ⟨pb, nb, cb, ub, Q, er', rfl, ob, iq, g6⟩
    obtain ⟨hPQ, hee⟩ := Dec.one IP.out iq
    subst hPQ hee
    have A6 : Hid (OwnMat w4.heap.size w6 (.slice pa na ca) ua Q) := O5.out _ g6
    have W6 : Hid (w4.grownBy w6 none) := grown_trans W5.out g6
    have SA : Hid (Calls Try.prog 14 #[.slice pa na ca, .slice pb nb cb] w6 fun e w'' => e = .returned (.bool true) ∧ w6.grownBy w'' none) := by
      have h := refSame_any A6.out.mat ob.mat
      rw [decide_eq_true rfl] at h
      exact h
    clear ob iq g6 O5 IP W5
    go_wp2_with (go_at_call 14; refine SA.out.mono ?_; rintro e w7 ⟨rfl, g7⟩; have A7 : Hid (OwnMat w4.heap.size w7 (.slice pa na ca) ua Q) := A6.out.keep g7; have W7 : Hid (w4.grownBy w7 none) := grown_trans W6.out g7; clear g7)
    have hna : na ≤ 140737488351232 := by
      obtain ⟨p', n', c', e', h'⟩ := A7.out.mat.row.opened
      injection e' with e1 e2 e3
      have := A7.out.len
      omega
    have HNA : Hid (na = ua.length) := by
      obtain ⟨p', n', c', e', h'⟩ := A7.out.mat.row.opened
      injection e' with e1 e2 e3
      show _ = _
      omega
    have FL : Hid (Flat w4 w4.heap.size w7 [(.slice pa na ca, ua)] ua) := A7.out.flat (Nat.le_refl _) (Nat.le_refl _) W7.out
    clear A6 SA W6 A7 W7
    go_loopw [83] (fun ti wr => ∃ j : Nat, j ≤ na ∧ ti = .int .i64 j ∧ Hid (Flat w4 w4.heap.size wr [(.slice pa na ca, ua)] ua)) (fun ti _ => na - (intOf ti).toNat)
    case atStart => exact ⟨0, by omega, rfl, FL⟩
    case round =>
      clear FL
      obtain ⟨j, hj, rfl, FL⟩ := hrel
      obtain ⟨wa, hwa⟩ : ∃ wa, wa = wr := ⟨wr, rfl⟩
      subst hwa
      by_cases hlt : j < na
      · have i1 : (j : Int) < (na : Int) := by omega
        have i3 : (0 : Int) ≤ (j : Int) := by omega
        have hO : Out w4.heap.size wa (.slice pa na ca) ua := FL.out.out _ List.mem_cons_self
        obtain ⟨b, off, rfl, hr⟩ := hO.cells.spot (k := j) (by have := HNA.out; omega)
        clear hO
        have HMJ : Hid (ua.getD j undef ∈ ua) := by
          have hj' : j < ua.length := by have := HNA.out; omega
          show _ ∈ _
          simp [List.getD, hj']
        obtain ⟨ys, oy⟩ := FL.out.vec _ HMJ.out
        obtain ⟨pj, nj, cj, ej, hnj⟩ := oy.vec.opened
        have hl : nj ≤ 140737488351232 := by rw [hnj]; exact oy.len
        rw [ej] at hr HMJ
        clear ej hnj oy ys
        go_wp2
        clear hr
        go_loopw [89] (fun ti wr => ∃ t : Nat, t ≤ nj ∧ ti = .int .i64 t ∧ Hid (Flat w4 w4.heap.size wr [(.slice (some ⟨b, off, none⟩) na ca, ua)] ua)) (fun ti _ => nj - (intOf ti).toNat)
        case atStart => exact ⟨0, by omega, rfl, FL⟩
        case round =>
          clear FL
          obtain ⟨t, ht, rfl, FL⟩ := hrel
          by_cases hlt2 : t < nj
          · have i2 : (t : Int) < (nj : Int) := by omega
            obtain ⟨g, y, rfl, hy, hc, hf, hset⟩ := FL.out.poke HMJ.out hlt2
            obtain ⟨z, hz1, hz2⟩ := xor_255 hy
            have FN : Hid _ := hset z hz1
            clear hset FL
            go_wp2
            go_roundw
            case rel => exact ⟨t + 1, by omega, by go_num, FN⟩
            case measure => simp [intOf]; omega
          · have i2 : ¬ (t : Int) < (nj : Int) := by omega
            go_wp2
            go_roundw
            case rel => exact ⟨j + 1, by omega, by go_num, FL⟩
            case measure => simp [intOf]; omega
      · have i1 : ¬ (j : Int) < (na : Int) := by omega
        have GF : Hid (w4.grownBy wa none) := FL.out.gr
        clear FL
        go_wp2
        go_loopw [13, 102] (fun tk ti wr => ∃ t : Nat, t ≤ nl ∧ tk = .bool true ∧ ti = .int .i64 t ∧ Hid (w4.grownBy wr none)) (fun _ ti _ => nl - (intOf ti).toNat)
        case atStart => exact ⟨0, by omega, rfl, rfl, GF⟩
        case round =>
          clear GF
          obtain ⟨t, ht, rfl, rfl, GF⟩ := hrel
          by_cases hlt2 : t < nl
          · have i2 : (t : Int) < (nl : Int) := by omega
            have i4 : (t : Int) < (A : Int) := by omega
            have i3 : (0 : Int) ≤ (t : Int) := by omega
            obtain ⟨b1, o1, rfl, c1⟩ := (IV4.out _ (gb_drew GF.out)).spot (k := t) (by have := HNL.out; omega)
            obtain ⟨b2, o2, rfl, c2⟩ := (KM.out _ (gb_drew GF.out)).spot (k := t) (by have := HNL.out; omega)
            have S0 : Hid (wr.drew.cell? ⟨b1, o1 + t, none⟩ = some (.int .i64 (ls.getD t 0)) ∧ wr.drew.cell? ⟨b2, o2 + t, none⟩ = some (.int .i64 (ls.getD t 0))) := ⟨c1, c2⟩
            have GD : Hid (w4.grownBy wr.drew none) := gb_drew GF.out
            clear c1 c2
            generalize ls.getD t 0 = xt at *
            go_wp2_with fail
            go_region_held3 (fun w' => w'.cell? ⟨b1, o1 + t, none⟩ = some (.int .i64 xt) ∧ w'.cell? ⟨b2, o2 + t, none⟩ = some (.int .i64 xt)) (exact S0.out) (fail)
            clear S0 GF
            go_wp2
            go_roundw
            case rel => exact ⟨t + 1, by omega, rfl, by go_num, GD⟩
            case measure => simp [intOf]; omega
          · have i2 : ¬ (t : Int) < (nl : Int) := by omega
            have SB : Hid (Calls Try.prog 14 #[.slice px nx cx, .slice q N cap] wr fun e w'' => e = .returned (.bool true) ∧ wr.grownBy w'' none) := by
              have h := refSame_any (KX.out _ GF.out) (KA.out _ GF.out)
              rw [decide_eq_true rfl] at h
              exact h
            go_wp2_with (go_at_call 14; refine SB.out.mono ?_; rintro e w9 ⟨rfl, g9⟩)
            go_ret
            exact ⟨rfl, grown_trans GW.out (grown_trans GF.out g9)⟩
end Go.Proofs.Ytdeajclghlbhcaa.codeDecodes
