/- The contract of hayrickref03.Invert: the document's own inverse. -/
import Derived.Test.YtdeajclghlbhcaaTwoS
namespace Go.Proofs.Ytdeajclghlbhcaa
open Go.RowKit

theorem OwnMat.cellOf {B : Nat} {w : World} {g n cap : Nat} {us : List Value} {X : List (List Nat)} (h : OwnMat B w (.slice (some ⟨g, 0, none⟩) n cap) us X) {k : Nat} (hk : k < X.length) : w.cell? ⟨g, k, none⟩ = some (us.getD k undef) := by
  obtain ⟨g1, e1, _, hc, _, _, _, _⟩ := h.place (k := k) hk
  obtain rfl : g = g1 := (by injection e1 with e1; injection e1 with e1)
  exact hc

/-- What the search from below has found down to t: none, or the first one. -/
def Found (n : Nat) (A : List (List Nat)) (i t : Nat) (z : Int) : Prop :=
  (z = -1 ∧ ∀ j, t ≤ j → j < n → at2 A j i = 0) ∨ ∃ p : Nat, z = p ∧ t ≤ p ∧ p < n ∧ at2 A p i ≠ 0 ∧ ∀ j, t ≤ j → j < p → at2 A j i = 0

theorem Found.zero {n i s : Nat} {A : List (List Nat)} {z : Int} (h : Found n A i (s + 1) z) (hz : at2 A s i = 0) : Found n A i s z := by
  have key : ∀ j, s ≤ j → s + 1 ≤ j ∨ j = s := fun j hj => by omega
  rcases h with ⟨e, h⟩ | ⟨p, e, h1, h2, h3, h4⟩
  · exact .inl ⟨e, fun j hj hn => by rcases key j hj with k | k; exact h j k hn; rw [k]; exact hz⟩
  · exact .inr ⟨p, e, by omega, h2, h3, fun j hj hn => by rcases key j hj with k | k; exact h4 j k hn; rw [k]; exact hz⟩
theorem Found.hit {n i s : Nat} {A : List (List Nat)} (hs : s < n) (hz : at2 A s i ≠ 0) : Found n A i s (s : Int) := .inr ⟨s, rfl, Nat.le_refl _, hs, hz, fun j h1 h2 => by omega⟩

set_option maxHeartbeats 12800000 in
set_option maxRecDepth 100000 in
theorem refInvert_any {w : World} {m : Value} {vs : List Value} {X : List (List Nat)} (mr : Mat w m vs X) (hx : mayB X = true) (hsq : X.length = (X.getD 0 []).length) :
    Calls Try.prog 38 #[m] w fun e w' => w.grownBy w' none ∧ ((∃ p k c us Y, e = .returned (.tuple #[.slice p k c, .int .i64 0]) ∧ OwnMat w.heap.size w' (.slice p k c) us Y ∧ Shape Y X.length X.length ∧ MX.Inv X.length (at2 X) (at2 Y)) ∨ (e = .returned (.tuple #[.slice none 0 0, .int .i64 22]) ∧ NoInv X.length (at2 X))) := by
  obtain ⟨q, N, cap, rfl, hN⟩ := mr.row.opened
  have MA := refMay_any mr
  rw [hx] at MA
  have HA : Hid (∀ r, r = Value.slice q N cap → Calls Try.prog 48 #[r] w fun e w'' => e = .returned (.bool true) ∧ w'' = w) := fun r e => e ▸ MA
  have HC : Hid (∀ r, r = Value.slice q N cap → Calls Try.prog 16 #[r] w fun e w' => ∃ v us, e = .returned v ∧ OwnMat w.heap.size w' v us X ∧ Sep us ∧ w.grownBy w' none) := fun r e => e ▸ refCopy_sep mr
  have sx := may_spec hx
  have hsa := mr.same
  have hXN : X.length = N := by omega
  have hs : Shape X N N := by have := sx.2.2.2.2; rw [← hsq] at this; rw [← hXN]; exact this
  obtain ⟨b0, off, rfl, hc⟩ := mr.row.spot (k := 0) (by omega)
  obtain ⟨p0, n0, c0, e0, hn0⟩ := (mr.vec 0 (by omega)).opened
  rw [e0] at hc
  have hc1 : w.cell? ⟨b0, off, none⟩ = some (.slice p0 n0 c0) := hc
  have hpos : (0 : Int) < (N : Int) := by omega
  have hne : ((N : Int) != (n0 : Int)) = false := by simp; omega
  have h1 : 1 ≤ N := by omega
  have h2 : N ≤ 255 := by omega
  have HS : Hid (Shape X N N ∧ ∀ i j, at2 X i j < 256) := ⟨hs, mr.small⟩
  rw [hXN]
  clear MA hN mr hc e0 hn0 hsa sx hs hsq hx hXN
  go_enter Try.func38, Try.ntmps38
  go_wp2_with (first
    | (go_at_call 48; refine (HA.out _ (by with_reducible rfl)).mono ?_; rintro e w1 ⟨rfl, hw⟩; obtain rfl := hw.symm; clear hw)
    | (go_at_call 16; refine (HC.out _ (by with_reducible rfl)).mono ?_; rintro e w1 ⟨va, ua, rfl, oa, sa, g1⟩; have OA : Hid (OwnMat w.heap.size w1 va ua X) := oa; have SA : Hid (Sep ua) := sa; have G1 : Hid (w.grownBy w1 none) := g1; clear oa sa g1)
    | (go_at_call 27; refine (refIdent_any N _ h1 h2).mono ?_; rintro e w2 ⟨vb, ub, rfl, ob, sb, g2⟩; have OB : Hid (OwnMat w1.heap.size w2 vb ub (idList N)) := ob; have SB : Hid (Sep ub) := sb; have G2 : Hid (w1.grownBy w2 none) := g2; clear ob sb g2))
  clear HA HC hc1 hpos hne
  obtain ⟨pa, na, ca, rfl, hna⟩ := OA.out.mat.row.opened
  obtain rfl : na = N := by have := OA.out.same; have := HS.out.1.len; omega
  obtain ⟨ga, rfl, q1, q2, q3, q4, q5, q6⟩ := OA.out.place (k := 0) (by rw [HS.out.1.len]; omega)
  clear q1 q2 q3 q4 q5 q6 hna
  obtain ⟨pb, nb, cb, rfl, hnb⟩ := OB.out.mat.row.opened
  obtain rfl : nb = na := by have := OB.out.same; simp [idList] at this; omega
  obtain ⟨gb, rfl, q1, q2, q3, q4, q5, q6⟩ := OB.out.place (k := 0) (by simp [idList]; omega)
  clear q1 q2 q3 q4 q5 q6 hnb
  have T0 : Hid (Two w w1.heap.size w2 (.slice (some ⟨ga, 0, none⟩) nb ca) ua X (.slice (some ⟨gb, 0, none⟩) nb cb) ub (idList nb)) := ⟨OA.out.keep G2.out, OB.out, SA.out, SB.out, OA.out.hi, OA.out.hiRow, G1.out.size, grown_trans G1.out G2.out⟩
  have W0 : Hid (Work2 nb (at2 X) 0 X (idList nb)) := Work2.start HS.out.1 HS.out.2
  clear OA OB SA SB G1 G2 HS
  generalize w1.heap.size = H1 at *
  obtain ⟨N, hN⟩ : ∃ N, N = nb := ⟨nb, rfl⟩
  subst hN
  go_loopw [8] (fun ti wr => ∃ (i : Nat) (A B : List (List Nat)), i ≤ N ∧ ti = .int .i64 i ∧ Hid (Two w H1 wr (.slice (some ⟨ga, 0, none⟩) N ca) ua A (.slice (some ⟨gb, 0, none⟩) N cb) ub B) ∧ Hid (Work2 N (at2 X) i A B)) (fun ti _ => N - (intOf ti).toNat)
  case atStart => exact ⟨0, X, idList N, by omega, rfl, T0.out, W0.out⟩
  case round =>
    clear T0 W0
    obtain ⟨i, A, B, hi, rfl, T, WK⟩ := hrel
    by_cases hlt : i < N
    · have i1 : (i : Int) < (N : Int) := by omega
      have i3 : (0 : Int) ≤ (i : Int) := by omega
      go_wp2_with fail
      go_loop [9, 10] (fun tz tk => ∃ (t : Nat) (z : Int), i ≤ t ∧ t ≤ N ∧ tk = .int .i64 ((t : Int) - 1) ∧ tz = .int .i64 z ∧ Hid (Found N A i t z)) (fun _ tk => (intOf tk + 1).toNat)
      case atStart => exact ⟨N, -1, by omega, by omega, by go_num, rfl, .inl ⟨rfl, fun j h1 h2 => by omega⟩⟩
      case round =>
        obtain ⟨t, z, hit, htN, rfl, rfl, FO⟩ := hrel
        by_cases hgt : i < t
        · obtain ⟨s, rfl⟩ : ∃ s, t = s + 1 := ⟨t - 1, by omega⟩
          have es : (((s + 1 : Nat) : Int) - 1) = (s : Int) := by omega
          rw [es]
          have s1 : (s : Int) < (N : Int) := by omega
          have s3 : (0 : Int) ≤ (s : Int) := by omega
          have s4 : (i : Int) ≤ (s : Int) := by omega
          obtain ⟨gs, ns, cs, es2, hns, hcs, os, hcsj⟩ := T.out.oa.at2 (k := s) (by rw [WK.out.sA.len]; omega) (by rw [WK.out.sA.row s (by omega)]; omega)
          rw [WK.out.sA.row s (by omega)] at hns hcsj
          have hcsi := hcsj i hlt
          have s5 : (i : Int) < (ns : Int) := by omega
          by_cases hz : at2 A s i = 0
          · have FO2 : Hid (Found N A i s z) := FO.out.zero hz
            rw [hz] at hcsi
            have hcz : wr.cell? ⟨gs, i, none⟩ = some (.int .u8 0) := hcsi
            clear hz hcsi hcsj os es2 hns FO es
            go_wp2
            go_round
            case rel => exact ⟨s, z, by omega, by omega, by go_num, rfl, FO2.out⟩
            case measure => first | (simp [intOf]; done) | (simp [intOf]; omega)
          · have FO2 : Hid (Found N A i s (s : Int)) := Found.hit (by omega) hz
            have hnz : (((at2 A s i : Nat) : Int) != 0) = true := by simp; exact hz
            generalize at2 A s i = yy at *
            clear hz hcsj os es2 hns FO es
            go_wp2
            go_round
            case rel => exact ⟨s, (s : Int), by omega, by omega, by go_num, rfl, FO2.out⟩
            case measure => first | (simp [intOf]; done) | (simp [intOf]; omega)
        · obtain rfl : t = i := by omega
          have nge : ¬ ((t : Int) ≤ (t : Int) - 1) := by omega
          rcases FO.out with ⟨rfl, hall⟩ | ⟨p, rfl, hp1, hp2, hp3, hp4⟩
          · have NI : Hid (NoInv N (at2 X)) := WK.out.none hlt hall
            have GR : Hid (w.grownBy wr none) := T.out.gr
            clear hall FO
            go_wp2
            go_ret2
            exact ⟨GR.out, .inr ⟨rfl, NI.out⟩⟩
          · obtain ⟨i, hieq⟩ : ∃ i, i = t := ⟨t, rfl⟩
            subst hieq
            have p1 : (p : Int) < (N : Int) := by omega
            have p3 : ¬ (p : Int) < 0 := by omega
            have p4 : (0 : Int) ≤ (p : Int) := by omega
            by_cases hpi : p = i
            · have hnn : ((p : Int) != (i : Int)) = false := by simp [hpi]
              have W3 : Hid (Work2 N (at2 X) i A B ∧ at2 A i i ≠ 0) := ⟨WK.out, by rw [← hpi]; rw [hpi] at hp3 ⊢; exact hp3⟩
              clear hp1 hp3 hp4 FO WK hpi
              have hAi := W3.out.1.sA
              have hiA : i < A.length := by rw [hAi.len]; exact hlt
              obtain ⟨gi, ni, ci, ei, hni, hci, oi, hcij⟩ := T.out.oa.at2 hiA (by rw [hAi.row i hlt]; omega)
              rw [hAi.row i hlt] at hni hcij
              have hcii := hcij i hlt
              have hx256 := W3.out.1.smallA hlt i hlt
              have hxpos : 0 < at2 A i i := Nat.pos_of_ne_zero W3.out.2
              have t1 : (i : Int) < (ni : Int) := by omega
              have MI0 : Hid (Mid2 N (at2 X) i 0 (scale2 A i (M.inv (at2 A i i))) (scale2 B i (M.inv (at2 A i i)))) := W3.out.1.raise hlt W3.out.2
              have SCA : Hid (∀ r1 r3, r1 = Value.slice (some ⟨gi, 0, none⟩) ni ci → r3 = Value.int .u8 ((M.inv (at2 A i i) : Nat) : Int) → Calls Try.prog 50 #[r1, r3] wr fun e w' => e = .returned (.tuple #[]) ∧ Two w H1 w' (.slice (some ⟨ga, 0, none⟩) N ca) ua (scale2 A i (M.inv (at2 A i i))) (.slice (some ⟨gb, 0, none⟩) N cb) ub B) := fun r1 r3 e1 e3 => T.out.scaleA hAi hlt (M.inv_lt _) r1 r3 (e1.trans ei.symm) e3
              have SCB : Hid (∀ w' r1 r3, Two w H1 w' (.slice (some ⟨ga, 0, none⟩) N ca) ua (scale2 A i (M.inv (at2 A i i))) (.slice (some ⟨gb, 0, none⟩) N cb) ub B → r1 = ub.getD i undef → r3 = Value.int .u8 ((M.inv (at2 A i i) : Nat) : Int) → Calls Try.prog 50 #[r1, r3] w' fun e w'' => e = .returned (.tuple #[]) ∧ Two w H1 w'' (.slice (some ⟨ga, 0, none⟩) N ca) ua (scale2 A i (M.inv (at2 A i i))) (.slice (some ⟨gb, 0, none⟩) N cb) ub (scale2 B i (M.inv (at2 A i i)))) := fun w' r1 r3 T2 e1 e3 => T2.scaleB W3.out.1.sB hlt (M.inv_lt _) r1 r3 e1 e3
              have SHB : Hid (Shape B N N) := W3.out.1.sB
              have IV : Hid (∀ r w', r = Value.int .u8 ((at2 A i i : Nat) : Int) → Calls Try.prog 28 #[r] w' fun e w'' => e = .returned (.tuple #[.int .u8 ((M.inv (at2 A i i) : Nat) : Int), .int .i64 0]) ∧ w'' = w') := fun r w' e => by subst e; exact refInv_any _ w' hxpos hx256
              generalize scale2 A i (M.inv (at2 A i i)) = A5 at *
              generalize scale2 B i (M.inv (at2 A i i)) = B5 at *
              generalize M.inv (at2 A i i) = xi at *
              generalize at2 A i i = xx at *
              clear hxpos hx256 hcij oi ei hiA hAi hni
              go_wp2_with fail
              refine (IV.out _ _ (by with_reducible rfl)).mono ?_
              rintro e w5 ⟨rfl, hw⟩
              obtain rfl := hw.symm
              clear hw IV
              go_wp2_with fail
              refine (SCA.out _ _ (by with_reducible rfl) (by with_reducible rfl)).mono ?_
              rintro e w5 ⟨rfl, T5⟩
              have T5' : Hid (Two w H1 w5 (.slice (some ⟨ga, 0, none⟩) N ca) ua A5 (.slice (some ⟨gb, 0, none⟩) N cb) ub B) := T5
              clear T5 SCA hci hcii
              obtain ⟨gj, nj, cj, ej, hnj, hcj, oj, hcjj⟩ := T5'.out.ob.at2 (k := i) (by rw [SHB.out.len]; exact hlt) (by rw [SHB.out.row i hlt]; omega)
              have EJ : Hid (ub.getD i undef = .slice (some ⟨gj, 0, none⟩) nj cj) := ej
              clear ej hnj oj hcjj
              go_wp2_with fail
              refine (SCB.out _ _ _ T5'.out (by rw [EJ.out]) (by with_reducible rfl)).mono ?_
              rintro e w6 ⟨rfl, T6⟩
              have T6' : Hid (Two w H1 w6 (.slice (some ⟨ga, 0, none⟩) N ca) ua A5 (.slice (some ⟨gb, 0, none⟩) N cb) ub B5) := T6
              clear T6 SCB hcj T5' EJ T W3 SHB
              go_wp2_with fail
              go_loopw [13] (fun ti wr => ∃ (t : Nat) (A B : List (List Nat)), t ≤ N ∧ ti = .int .i64 t ∧ Hid (Two w H1 wr (.slice (some ⟨ga, 0, none⟩) N ca) ua A (.slice (some ⟨gb, 0, none⟩) N cb) ub B) ∧ Hid (Mid2 N (at2 X) i t A B)) (fun ti _ => N - (intOf ti).toNat)
              case atStart => exact ⟨0, A5, B5, by omega, rfl, T6'.out, MI0.out⟩
              case round =>
                clear T6' MI0
                obtain ⟨t, A, B, ht, rfl, T, MI⟩ := hrel
                by_cases htl : t < N
                · have u1 : (t : Int) < (N : Int) := by omega
                  have u3 : (0 : Int) ≤ (t : Int) := by omega
                  have hA := MI.out.wk.sA
                  have hB := MI.out.wk.sB
                  obtain ⟨gt, nt, ct, et, hnt, hct, ot, hctj⟩ := T.out.oa.at2 (k := t) (by rw [hA.len]; exact htl) (by rw [hA.row t htl]; omega)
                  rw [hA.row t htl] at hnt hctj
                  have hcti := hctj i hlt
                  have u4 : (i : Int) < (nt : Int) := by omega
                  by_cases hti : t = i
                  · have hnn : ((t : Int) != (i : Int)) = false := by simp [hti]
                    have MI2 : Hid (Mid2 N (at2 X) i (t + 1) A B) := MI.out.skip (.inl hti)
                    clear hti hctj ot et hnt hA hB
                    generalize at2 A t i = yy at *
                    go_wp2_with fail
                    go_roundw
                    case rel => exact ⟨t + 1, A, B, by omega, by go_num, T.out, MI2.out⟩
                    case measure => simp [intOf]; omega
                  · have hnn : ((t : Int) != (i : Int)) = true := by simp; omega
                    by_cases hy0 : at2 A t i = 0
                    · have MI2 : Hid (Mid2 N (at2 X) i (t + 1) A B) := MI.out.skip (.inr hy0)
                      rw [hy0] at hcti
                      have hcz : wr.cell? ⟨gt, i, none⟩ = some (.int .u8 0) := hcti
                      clear hti hctj ot et hnt hA hB hcti hy0
                      go_wp2_with fail
                      go_roundw
                      case rel => exact ⟨t + 1, A, B, by omega, by go_num, T.out, MI2.out⟩
                      case measure => simp [intOf]; omega
                    · have hyn : (((at2 A t i : Nat) : Int) != 0) = true := by simp; exact hy0
                      have hy256 := MI.out.wk.smallA htl i hlt
                      have MI2 : Hid (Mid2 N (at2 X) i (t + 1) (strike2 A t i (at2 A t i)) (strike2 B t i (at2 A t i))) := MI.out.strike hlt htl hti
                      obtain ⟨gi, ni, ci, ei, hni, hci, oi, hcij⟩ := T.out.oa.at2 (k := i) (by rw [hA.len]; exact hlt) (by rw [hA.row i hlt]; omega)
                      have SA : Hid (∀ r1 r2 r3, r1 = Value.slice (some ⟨gt, 0, none⟩) nt ct → r2 = Value.slice (some ⟨gi, 0, none⟩) ni ci → r3 = Value.int .u8 ((at2 A t i : Nat) : Int) → Calls Try.prog 49 #[r1, r2, r3] wr.drew fun e w' => e = .returned (.tuple #[]) ∧ Two w H1 w' (.slice (some ⟨ga, 0, none⟩) N ca) ua (strike2 A t i (at2 A t i)) (.slice (some ⟨gb, 0, none⟩) N cb) ub B ∧ w'.cell? ⟨ga, t, none⟩ = some (.slice (some ⟨gt, 0, none⟩) nt ct) ∧ w'.cell? ⟨ga, i, none⟩ = some (.slice (some ⟨gi, 0, none⟩) ni ci)) := fun r1 r2 r3 e1 e2 e3 => ((T.out.keep (grown_drewN _ 1)).strikeA hA htl hlt hti hy256 r1 r2 r3 (e1.trans et.symm) (e2.trans ei.symm) e3).mono fun e w' h => ⟨h.1, h.2, by rw [h.2.oa.cellOf (by rw [(strike2_shape hA htl).len]; exact htl), et], by rw [h.2.oa.cellOf (by rw [(strike2_shape hA htl).len]; exact hlt), ei]⟩
                      have SB : Hid (∀ w' r1 r2 r3, Two w H1 w' (.slice (some ⟨ga, 0, none⟩) N ca) ua (strike2 A t i (at2 A t i)) (.slice (some ⟨gb, 0, none⟩) N cb) ub B → r1 = ub.getD t undef → r2 = ub.getD i undef → r3 = Value.int .u8 ((at2 A t i : Nat) : Int) → Calls Try.prog 49 #[r1, r2, r3] w' fun e w'' => e = .returned (.tuple #[]) ∧ Two w H1 w'' (.slice (some ⟨ga, 0, none⟩) N ca) ua (strike2 A t i (at2 A t i)) (.slice (some ⟨gb, 0, none⟩) N cb) ub (strike2 B t i (at2 A t i))) := fun w' r1 r2 r3 T2 e1 e2 e3 => T2.strikeB hB htl hlt hti hy256 r1 r2 r3 e1 e2 e3
                      have HSB : Hid (Shape B N N) := hB
                      have HC1 : Hid (wr.drew.cell? ⟨ga, t, none⟩ = some (.slice (some ⟨gt, 0, none⟩) nt ct) ∧ wr.drew.cell? ⟨ga, i, none⟩ = some (.slice (some ⟨gi, 0, none⟩) ni ci)) := ⟨hct, hci⟩
                      have LB7 : Hid ((strike2 B t i (at2 A t i)).length = N) := (strike2_shape hB htl).len
                      generalize strike2 A t i (at2 A t i) = A7 at *
                      generalize strike2 B t i (at2 A t i) = B7 at *
                      generalize at2 A t i = yy at *
                      clear hti hctj ot et hnt hA hB hy0 hcij oi ei hni T MI
                      go_wp2_with fail
                      go_region_held3 (fun w' => w'.cell? ⟨ga, t, none⟩ = some (.slice (some ⟨gt, 0, none⟩) nt ct) ∧ w'.cell? ⟨ga, i, none⟩ = some (.slice (some ⟨gi, 0, none⟩) ni ci)) (first | exact HC1.out | exact HC2.out) (first | (go_at_call 49; refine (SA.out _ _ _ (by with_reducible rfl) (by with_reducible rfl) (by with_reducible rfl)).mono ?_; rintro e w7 ⟨rfl, T7, hd1, hd2⟩; have T7' : Hid (Two w H1 w7 (.slice (some ⟨ga, 0, none⟩) N ca) ua A7 (.slice (some ⟨gb, 0, none⟩) N cb) ub B) := T7; have HC2 : Hid (w7.cell? ⟨ga, t, none⟩ = some (.slice (some ⟨gt, 0, none⟩) nt ct) ∧ w7.cell? ⟨ga, i, none⟩ = some (.slice (some ⟨gi, 0, none⟩) ni ci)) := ⟨hd1, hd2⟩; clear T7 hd1 hd2))
                      all_goals
                        clear hct hcti hci
                        obtain ⟨gx, nx, cx, ex, hnx, hcx, ox, hcxj⟩ := T7'.out.ob.at2 (k := t) (by rw [HSB.out.len]; exact htl) (by rw [HSB.out.row t htl]; omega)
                        obtain ⟨gz, nz, cz, ez, hnz, hcz, oz, hczj⟩ := T7'.out.ob.at2 (k := i) (by rw [HSB.out.len]; exact hlt) (by rw [HSB.out.row i hlt]; omega)
                        have SB2 : Hid (∀ r1 r2 r3, r1 = Value.slice (some ⟨gx, 0, none⟩) nx cx → r2 = Value.slice (some ⟨gz, 0, none⟩) nz cz → r3 = Value.int .u8 (yy : Int) → Calls Try.prog 49 #[r1, r2, r3] w7.drew fun e w'' => e = .returned (.tuple #[]) ∧ Two w H1 w'' (.slice (some ⟨ga, 0, none⟩) N ca) ua A7 (.slice (some ⟨gb, 0, none⟩) N cb) ub B7 ∧ w''.cell? ⟨gb, t, none⟩ = some (.slice (some ⟨gx, 0, none⟩) nx cx) ∧ w''.cell? ⟨gb, i, none⟩ = some (.slice (some ⟨gz, 0, none⟩) nz cz)) := fun r1 r2 r3 e1 e2 e3 => (SB.out _ r1 r2 r3 (T7'.out.keep (grown_drewN _ 1)) (e1.trans ex.symm) (e2.trans ez.symm) e3).mono fun e w' h => ⟨h.1, h.2, by rw [h.2.ob.cellOf (by rw [LB7.out]; exact htl), ex], by rw [h.2.ob.cellOf (by rw [LB7.out]; exact hlt), ez]⟩
                        have HD1 : Hid (w7.drew.cell? ⟨gb, t, none⟩ = some (.slice (some ⟨gx, 0, none⟩) nx cx) ∧ w7.drew.cell? ⟨gb, i, none⟩ = some (.slice (some ⟨gz, 0, none⟩) nz cz)) := ⟨hcx, hcz⟩
                        clear ex ez hnx hnz ox oz hcxj hczj SA SB T7'
                        go_wp2_with fail
                        go_region_held3 (fun w' => w'.cell? ⟨gb, t, none⟩ = some (.slice (some ⟨gx, 0, none⟩) nx cx) ∧ w'.cell? ⟨gb, i, none⟩ = some (.slice (some ⟨gz, 0, none⟩) nz cz)) (first | exact HD1.out | exact HD2.out) (first | (go_at_call 49; refine (SB2.out _ _ _ (by with_reducible rfl) (by with_reducible rfl) (by with_reducible rfl)).mono ?_; rintro e w8 ⟨rfl, T8, hd1, hd2⟩; have T8' : Hid (Two w H1 w8 (.slice (some ⟨ga, 0, none⟩) N ca) ua A7 (.slice (some ⟨gb, 0, none⟩) N cb) ub B7) := T8; have HD2 : Hid (w8.cell? ⟨gb, t, none⟩ = some (.slice (some ⟨gx, 0, none⟩) nx cx) ∧ w8.cell? ⟨gb, i, none⟩ = some (.slice (some ⟨gz, 0, none⟩) nz cz)) := ⟨hd1, hd2⟩; clear T8 hd1 hd2))
                        all_goals
                          go_wp2
                          go_roundw
                          case rel => exact ⟨t + 1, A7, B7, by omega, by go_num, T8'.out, MI2.out⟩
                          case measure => simp [intOf]; omega
                · have htn : t = N := by omega
                  subst htn
                  go_wp2_with fail
                  go_roundw
                  case rel => exact ⟨i + 1, A, B, by omega, by go_num, T.out, MI.out.work⟩
                  case measure => simp [intOf]; omega
            · have hnn : ((p : Int) != (i : Int)) = true := by simp; omega
              have hz := hp4 i (Nat.le_refl _) (by omega)
              have LI := WK.out.lift hlt hp2 (by omega) hz hp3
              have W4 : Hid (Work2 N (at2 X) i (strike2 A i p 1) (strike2 B i p 1) ∧ at2 (strike2 A i p 1) i i ≠ 0) := LI
              obtain ⟨gx, nx, cx, ex, hnx, hcx, ox, hcxj⟩ := T.out.oa.at2 (k := i) (by rw [WK.out.sA.len]; exact hlt) (by rw [WK.out.sA.row i hlt]; omega)
              obtain ⟨gz, nz, cz, ez, hnz, hcz, oz, hczj⟩ := T.out.oa.at2 (k := p) (by rw [WK.out.sA.len]; exact hp2) (by rw [WK.out.sA.row p hp2]; omega)
              have ST1 : Hid (∀ r1 r2 r3, r1 = Value.slice (some ⟨gx, 0, none⟩) nx cx → r2 = Value.slice (some ⟨gz, 0, none⟩) nz cz → r3 = Value.int .u8 1 → Calls Try.prog 49 #[r1, r2, r3] wr.drew fun e w' => e = .returned (.tuple #[]) ∧ Two w H1 w' (.slice (some ⟨ga, 0, none⟩) N ca) ua (strike2 A i p 1) (.slice (some ⟨gb, 0, none⟩) N cb) ub B ∧ w'.cell? ⟨ga, i, none⟩ = some (.slice (some ⟨gx, 0, none⟩) nx cx) ∧ w'.cell? ⟨ga, p, none⟩ = some (.slice (some ⟨gz, 0, none⟩) nz cz)) := fun r1 r2 r3 e1 e2 e3 => ((T.out.keep (grown_drewN _ 1)).strikeA WK.out.sA hlt hp2 (fun e => hpi e.symm) (by decide) r1 r2 r3 (e1.trans ex.symm) (e2.trans ez.symm) e3).mono fun e w' h => ⟨h.1, h.2, by rw [h.2.oa.cellOf (by rw [(strike2_shape WK.out.sA hlt).len]; exact hlt), ex], by rw [h.2.oa.cellOf (by rw [(strike2_shape WK.out.sA hlt).len]; exact hp2), ez]⟩
              have LB4 : Hid ((strike2 B i p 1).length = N) := (strike2_shape WK.out.sB hlt).len
              have HC1 : Hid (wr.drew.cell? ⟨ga, i, none⟩ = some (.slice (some ⟨gx, 0, none⟩) nx cx) ∧ wr.drew.cell? ⟨ga, p, none⟩ = some (.slice (some ⟨gz, 0, none⟩) nz cz)) := ⟨hcx, hcz⟩
              have ST2 : Hid (∀ w' r1 r2 r3, Two w H1 w' (.slice (some ⟨ga, 0, none⟩) N ca) ua (strike2 A i p 1) (.slice (some ⟨gb, 0, none⟩) N cb) ub B → r1 = ub.getD i undef → r2 = ub.getD p undef → r3 = Value.int .u8 1 → Calls Try.prog 49 #[r1, r2, r3] w' fun e w'' => e = .returned (.tuple #[]) ∧ Two w H1 w'' (.slice (some ⟨ga, 0, none⟩) N ca) ua (strike2 A i p 1) (.slice (some ⟨gb, 0, none⟩) N cb) ub (strike2 B i p 1)) := fun w' r1 r2 r3 T2 e1 e2 e3 => T2.strikeB WK.out.sB hlt hp2 (fun e => hpi e.symm) (by decide) r1 r2 r3 e1 e2 e3
              have HSB : Hid (Shape B N N) := WK.out.sB
              generalize strike2 A i p 1 = A4 at *
              generalize strike2 B i p 1 = B4 at *
              clear LI hz ex ez hnx hnz ox oz hcxj hczj hp1 hp3 hp4 FO WK hpi T
              go_wp2_with fail
              go_region_held3 (fun w' => w'.cell? ⟨ga, i, none⟩ = some (.slice (some ⟨gx, 0, none⟩) nx cx) ∧ w'.cell? ⟨ga, p, none⟩ = some (.slice (some ⟨gz, 0, none⟩) nz cz)) (first | exact HC1.out | exact HC2.out) (first | (go_at_call 49; refine (ST1.out _ _ _ (by with_reducible rfl) (by with_reducible rfl) (by with_reducible rfl)).mono ?_; rintro e w3 ⟨rfl, T3, hd1, hd2⟩; have T3' : Hid (Two w H1 w3 (.slice (some ⟨ga, 0, none⟩) N ca) ua A4 (.slice (some ⟨gb, 0, none⟩) N cb) ub B) := T3; have HC2 : Hid (w3.cell? ⟨ga, i, none⟩ = some (.slice (some ⟨gx, 0, none⟩) nx cx) ∧ w3.cell? ⟨ga, p, none⟩ = some (.slice (some ⟨gz, 0, none⟩) nz cz)) := ⟨hd1, hd2⟩; clear T3 hd1 hd2))
              all_goals
                clear hcx hcz ST1 HC1 HC2
                obtain ⟨gx, nx, cx, ex, hnx, hcx, ox, hcxj⟩ := T3'.out.ob.at2 (k := i) (by rw [HSB.out.len]; exact hlt) (by rw [HSB.out.row i hlt]; omega)
                obtain ⟨gz, nz, cz, ez, hnz, hcz, oz, hczj⟩ := T3'.out.ob.at2 (k := p) (by rw [HSB.out.len]; exact hp2) (by rw [HSB.out.row p hp2]; omega)
                have ST3 : Hid (∀ r1 r2 r3, r1 = Value.slice (some ⟨gx, 0, none⟩) nx cx → r2 = Value.slice (some ⟨gz, 0, none⟩) nz cz → r3 = Value.int .u8 1 → Calls Try.prog 49 #[r1, r2, r3] w3.drew fun e w'' => e = .returned (.tuple #[]) ∧ Two w H1 w'' (.slice (some ⟨ga, 0, none⟩) N ca) ua A4 (.slice (some ⟨gb, 0, none⟩) N cb) ub B4 ∧ w''.cell? ⟨gb, i, none⟩ = some (.slice (some ⟨gx, 0, none⟩) nx cx) ∧ w''.cell? ⟨gb, p, none⟩ = some (.slice (some ⟨gz, 0, none⟩) nz cz)) := fun r1 r2 r3 e1 e2 e3 => (ST2.out _ r1 r2 r3 (T3'.out.keep (grown_drewN _ 1)) (e1.trans ex.symm) (e2.trans ez.symm) e3).mono fun e w' h => ⟨h.1, h.2, by rw [h.2.ob.cellOf (by rw [LB4.out]; exact hlt), ex], by rw [h.2.ob.cellOf (by rw [LB4.out]; exact hp2), ez]⟩
                have HD1 : Hid (w3.drew.cell? ⟨gb, i, none⟩ = some (.slice (some ⟨gx, 0, none⟩) nx cx) ∧ w3.drew.cell? ⟨gb, p, none⟩ = some (.slice (some ⟨gz, 0, none⟩) nz cz)) := ⟨hcx, hcz⟩
                clear ex ez hnx hnz ox oz hcxj hczj ST2 T3' HSB
                go_wp2_with fail
                go_region_held3 (fun w' => w'.cell? ⟨gb, i, none⟩ = some (.slice (some ⟨gx, 0, none⟩) nx cx) ∧ w'.cell? ⟨gb, p, none⟩ = some (.slice (some ⟨gz, 0, none⟩) nz cz)) (first | exact HD1.out | exact HD2.out) (first | (go_at_call 49; refine (ST3.out _ _ _ (by with_reducible rfl) (by with_reducible rfl) (by with_reducible rfl)).mono ?_; rintro e w4 ⟨rfl, T4, hd1, hd2⟩; have T4' : Hid (Two w H1 w4 (.slice (some ⟨ga, 0, none⟩) N ca) ua A4 (.slice (some ⟨gb, 0, none⟩) N cb) ub B4) := T4; have HD2 : Hid (w4.cell? ⟨gb, i, none⟩ = some (.slice (some ⟨gx, 0, none⟩) nx cx) ∧ w4.cell? ⟨gb, p, none⟩ = some (.slice (some ⟨gz, 0, none⟩) nz cz)) := ⟨hd1, hd2⟩; clear T4 hd1 hd2))
                all_goals
                  clear hcx hcz ST3 HD1 HD2 LB4
                  have T4 := T4'
                  clear T4'
                  have hAi := W4.out.1.sA
                  have hiA : i < A4.length := by rw [hAi.len]; exact hlt
                  obtain ⟨gi, ni, ci, ei, hni, hci, oi, hcij⟩ := T4.out.oa.at2 hiA (by rw [hAi.row i hlt]; omega)
                  rw [hAi.row i hlt] at hni hcij
                  have hcii := hcij i hlt
                  have hx256 := W4.out.1.smallA hlt i hlt
                  have hxpos : 0 < at2 A4 i i := Nat.pos_of_ne_zero W4.out.2
                  have t1 : (i : Int) < (ni : Int) := by omega
                  have MI0 : Hid (Mid2 N (at2 X) i 0 (scale2 A4 i (M.inv (at2 A4 i i))) (scale2 B4 i (M.inv (at2 A4 i i)))) := W4.out.1.raise hlt W4.out.2
                  have SCA : Hid (∀ r1 r3, r1 = Value.slice (some ⟨gi, 0, none⟩) ni ci → r3 = Value.int .u8 ((M.inv (at2 A4 i i) : Nat) : Int) → Calls Try.prog 50 #[r1, r3] w4 fun e w' => e = .returned (.tuple #[]) ∧ Two w H1 w' (.slice (some ⟨ga, 0, none⟩) N ca) ua (scale2 A4 i (M.inv (at2 A4 i i))) (.slice (some ⟨gb, 0, none⟩) N cb) ub B4) := fun r1 r3 e1 e3 => T4.out.scaleA hAi hlt (M.inv_lt _) r1 r3 (e1.trans ei.symm) e3
                  have SCB : Hid (∀ w' r1 r3, Two w H1 w' (.slice (some ⟨ga, 0, none⟩) N ca) ua (scale2 A4 i (M.inv (at2 A4 i i))) (.slice (some ⟨gb, 0, none⟩) N cb) ub B4 → r1 = ub.getD i undef → r3 = Value.int .u8 ((M.inv (at2 A4 i i) : Nat) : Int) → Calls Try.prog 50 #[r1, r3] w' fun e w'' => e = .returned (.tuple #[]) ∧ Two w H1 w'' (.slice (some ⟨ga, 0, none⟩) N ca) ua (scale2 A4 i (M.inv (at2 A4 i i))) (.slice (some ⟨gb, 0, none⟩) N cb) ub (scale2 B4 i (M.inv (at2 A4 i i)))) := fun w' r1 r3 T2 e1 e3 => T2.scaleB W4.out.1.sB hlt (M.inv_lt _) r1 r3 e1 e3
                  have SHB : Hid (Shape B4 N N) := W4.out.1.sB
                  have IV : Hid (∀ r w', r = Value.int .u8 ((at2 A4 i i : Nat) : Int) → Calls Try.prog 28 #[r] w' fun e w'' => e = .returned (.tuple #[.int .u8 ((M.inv (at2 A4 i i) : Nat) : Int), .int .i64 0]) ∧ w'' = w') := fun r w' e => by subst e; exact refInv_any _ w' hxpos hx256
                  generalize scale2 A4 i (M.inv (at2 A4 i i)) = A5 at *
                  generalize scale2 B4 i (M.inv (at2 A4 i i)) = B5 at *
                  generalize M.inv (at2 A4 i i) = xi at *
                  generalize at2 A4 i i = xx at *
                  clear hxpos hx256 hcij oi ei hiA hAi hni
                  go_wp2_with fail
                  refine (IV.out _ _ (by with_reducible rfl)).mono ?_
                  rintro e w5 ⟨rfl, hw⟩
                  obtain rfl := hw.symm
                  clear hw IV
                  go_wp2_with fail
                  refine (SCA.out _ _ (by with_reducible rfl) (by with_reducible rfl)).mono ?_
                  rintro e w5 ⟨rfl, T5⟩
                  have T5' : Hid (Two w H1 w5 (.slice (some ⟨ga, 0, none⟩) N ca) ua A5 (.slice (some ⟨gb, 0, none⟩) N cb) ub B4) := T5
                  clear T5 SCA hci hcii
                  obtain ⟨gj, nj, cj, ej, hnj, hcj, oj, hcjj⟩ := T5'.out.ob.at2 (k := i) (by rw [SHB.out.len]; exact hlt) (by rw [SHB.out.row i hlt]; omega)
                  have EJ : Hid (ub.getD i undef = .slice (some ⟨gj, 0, none⟩) nj cj) := ej
                  clear ej hnj oj hcjj
                  go_wp2_with fail
                  refine (SCB.out _ _ _ T5'.out (by rw [EJ.out]) (by with_reducible rfl)).mono ?_
                  rintro e w6 ⟨rfl, T6⟩
                  have T6' : Hid (Two w H1 w6 (.slice (some ⟨ga, 0, none⟩) N ca) ua A5 (.slice (some ⟨gb, 0, none⟩) N cb) ub B5) := T6
                  clear T6 SCB hcj T5' EJ T4 W4 SHB
                  go_wp2_with fail
                  go_loopw [13] (fun ti wr => ∃ (t : Nat) (A B : List (List Nat)), t ≤ N ∧ ti = .int .i64 t ∧ Hid (Two w H1 wr (.slice (some ⟨ga, 0, none⟩) N ca) ua A (.slice (some ⟨gb, 0, none⟩) N cb) ub B) ∧ Hid (Mid2 N (at2 X) i t A B)) (fun ti _ => N - (intOf ti).toNat)
                  case atStart => exact ⟨0, A5, B5, by omega, rfl, T6'.out, MI0.out⟩
                  case round =>
                    clear T6' MI0
                    obtain ⟨t, A, B, ht, rfl, T, MI⟩ := hrel
                    by_cases htl : t < N
                    · have u1 : (t : Int) < (N : Int) := by omega
                      have u3 : (0 : Int) ≤ (t : Int) := by omega
                      have hA := MI.out.wk.sA
                      have hB := MI.out.wk.sB
                      obtain ⟨gt, nt, ct, et, hnt, hct, ot, hctj⟩ := T.out.oa.at2 (k := t) (by rw [hA.len]; exact htl) (by rw [hA.row t htl]; omega)
                      rw [hA.row t htl] at hnt hctj
                      have hcti := hctj i hlt
                      have u4 : (i : Int) < (nt : Int) := by omega
                      by_cases hti : t = i
                      · have hnn : ((t : Int) != (i : Int)) = false := by simp [hti]
                        have MI2 : Hid (Mid2 N (at2 X) i (t + 1) A B) := MI.out.skip (.inl hti)
                        clear hti hctj ot et hnt hA hB
                        generalize at2 A t i = yy at *
                        go_wp2_with fail
                        go_roundw
                        case rel => exact ⟨t + 1, A, B, by omega, by go_num, T.out, MI2.out⟩
                        case measure => simp [intOf]; omega
                      · have hnn : ((t : Int) != (i : Int)) = true := by simp; omega
                        by_cases hy0 : at2 A t i = 0
                        · have MI2 : Hid (Mid2 N (at2 X) i (t + 1) A B) := MI.out.skip (.inr hy0)
                          rw [hy0] at hcti
                          have hcz : wr.cell? ⟨gt, i, none⟩ = some (.int .u8 0) := hcti
                          clear hti hctj ot et hnt hA hB hcti hy0
                          go_wp2_with fail
                          go_roundw
                          case rel => exact ⟨t + 1, A, B, by omega, by go_num, T.out, MI2.out⟩
                          case measure => simp [intOf]; omega
                        · have hyn : (((at2 A t i : Nat) : Int) != 0) = true := by simp; exact hy0
                          have hy256 := MI.out.wk.smallA htl i hlt
                          have MI2 : Hid (Mid2 N (at2 X) i (t + 1) (strike2 A t i (at2 A t i)) (strike2 B t i (at2 A t i))) := MI.out.strike hlt htl hti
                          obtain ⟨gi, ni, ci, ei, hni, hci, oi, hcij⟩ := T.out.oa.at2 (k := i) (by rw [hA.len]; exact hlt) (by rw [hA.row i hlt]; omega)
                          have SA : Hid (∀ r1 r2 r3, r1 = Value.slice (some ⟨gt, 0, none⟩) nt ct → r2 = Value.slice (some ⟨gi, 0, none⟩) ni ci → r3 = Value.int .u8 ((at2 A t i : Nat) : Int) → Calls Try.prog 49 #[r1, r2, r3] wr.drew fun e w' => e = .returned (.tuple #[]) ∧ Two w H1 w' (.slice (some ⟨ga, 0, none⟩) N ca) ua (strike2 A t i (at2 A t i)) (.slice (some ⟨gb, 0, none⟩) N cb) ub B ∧ w'.cell? ⟨ga, t, none⟩ = some (.slice (some ⟨gt, 0, none⟩) nt ct) ∧ w'.cell? ⟨ga, i, none⟩ = some (.slice (some ⟨gi, 0, none⟩) ni ci)) := fun r1 r2 r3 e1 e2 e3 => ((T.out.keep (grown_drewN _ 1)).strikeA hA htl hlt hti hy256 r1 r2 r3 (e1.trans et.symm) (e2.trans ei.symm) e3).mono fun e w' h => ⟨h.1, h.2, by rw [h.2.oa.cellOf (by rw [(strike2_shape hA htl).len]; exact htl), et], by rw [h.2.oa.cellOf (by rw [(strike2_shape hA htl).len]; exact hlt), ei]⟩
                          have SB : Hid (∀ w' r1 r2 r3, Two w H1 w' (.slice (some ⟨ga, 0, none⟩) N ca) ua (strike2 A t i (at2 A t i)) (.slice (some ⟨gb, 0, none⟩) N cb) ub B → r1 = ub.getD t undef → r2 = ub.getD i undef → r3 = Value.int .u8 ((at2 A t i : Nat) : Int) → Calls Try.prog 49 #[r1, r2, r3] w' fun e w'' => e = .returned (.tuple #[]) ∧ Two w H1 w'' (.slice (some ⟨ga, 0, none⟩) N ca) ua (strike2 A t i (at2 A t i)) (.slice (some ⟨gb, 0, none⟩) N cb) ub (strike2 B t i (at2 A t i))) := fun w' r1 r2 r3 T2 e1 e2 e3 => T2.strikeB hB htl hlt hti hy256 r1 r2 r3 e1 e2 e3
                          have HSB : Hid (Shape B N N) := hB
                          have HC1 : Hid (wr.drew.cell? ⟨ga, t, none⟩ = some (.slice (some ⟨gt, 0, none⟩) nt ct) ∧ wr.drew.cell? ⟨ga, i, none⟩ = some (.slice (some ⟨gi, 0, none⟩) ni ci)) := ⟨hct, hci⟩
                          have LB7 : Hid ((strike2 B t i (at2 A t i)).length = N) := (strike2_shape hB htl).len
                          generalize strike2 A t i (at2 A t i) = A7 at *
                          generalize strike2 B t i (at2 A t i) = B7 at *
                          generalize at2 A t i = yy at *
                          clear hti hctj ot et hnt hA hB hy0 hcij oi ei hni T MI
                          go_wp2_with fail
                          go_region_held3 (fun w' => w'.cell? ⟨ga, t, none⟩ = some (.slice (some ⟨gt, 0, none⟩) nt ct) ∧ w'.cell? ⟨ga, i, none⟩ = some (.slice (some ⟨gi, 0, none⟩) ni ci)) (first | exact HC1.out | exact HC2.out) (first | (go_at_call 49; refine (SA.out _ _ _ (by with_reducible rfl) (by with_reducible rfl) (by with_reducible rfl)).mono ?_; rintro e w7 ⟨rfl, T7, hd1, hd2⟩; have T7' : Hid (Two w H1 w7 (.slice (some ⟨ga, 0, none⟩) N ca) ua A7 (.slice (some ⟨gb, 0, none⟩) N cb) ub B) := T7; have HC2 : Hid (w7.cell? ⟨ga, t, none⟩ = some (.slice (some ⟨gt, 0, none⟩) nt ct) ∧ w7.cell? ⟨ga, i, none⟩ = some (.slice (some ⟨gi, 0, none⟩) ni ci)) := ⟨hd1, hd2⟩; clear T7 hd1 hd2))
                          all_goals
                            clear hct hcti hci
                            obtain ⟨gx, nx, cx, ex, hnx, hcx, ox, hcxj⟩ := T7'.out.ob.at2 (k := t) (by rw [HSB.out.len]; exact htl) (by rw [HSB.out.row t htl]; omega)
                            obtain ⟨gz, nz, cz, ez, hnz, hcz, oz, hczj⟩ := T7'.out.ob.at2 (k := i) (by rw [HSB.out.len]; exact hlt) (by rw [HSB.out.row i hlt]; omega)
                            have SB2 : Hid (∀ r1 r2 r3, r1 = Value.slice (some ⟨gx, 0, none⟩) nx cx → r2 = Value.slice (some ⟨gz, 0, none⟩) nz cz → r3 = Value.int .u8 (yy : Int) → Calls Try.prog 49 #[r1, r2, r3] w7.drew fun e w'' => e = .returned (.tuple #[]) ∧ Two w H1 w'' (.slice (some ⟨ga, 0, none⟩) N ca) ua A7 (.slice (some ⟨gb, 0, none⟩) N cb) ub B7 ∧ w''.cell? ⟨gb, t, none⟩ = some (.slice (some ⟨gx, 0, none⟩) nx cx) ∧ w''.cell? ⟨gb, i, none⟩ = some (.slice (some ⟨gz, 0, none⟩) nz cz)) := fun r1 r2 r3 e1 e2 e3 => (SB.out _ r1 r2 r3 (T7'.out.keep (grown_drewN _ 1)) (e1.trans ex.symm) (e2.trans ez.symm) e3).mono fun e w' h => ⟨h.1, h.2, by rw [h.2.ob.cellOf (by rw [LB7.out]; exact htl), ex], by rw [h.2.ob.cellOf (by rw [LB7.out]; exact hlt), ez]⟩
                            have HD1 : Hid (w7.drew.cell? ⟨gb, t, none⟩ = some (.slice (some ⟨gx, 0, none⟩) nx cx) ∧ w7.drew.cell? ⟨gb, i, none⟩ = some (.slice (some ⟨gz, 0, none⟩) nz cz)) := ⟨hcx, hcz⟩
                            clear ex ez hnx hnz ox oz hcxj hczj SA SB T7'
                            go_wp2_with fail
                            go_region_held3 (fun w' => w'.cell? ⟨gb, t, none⟩ = some (.slice (some ⟨gx, 0, none⟩) nx cx) ∧ w'.cell? ⟨gb, i, none⟩ = some (.slice (some ⟨gz, 0, none⟩) nz cz)) (first | exact HD1.out | exact HD2.out) (first | (go_at_call 49; refine (SB2.out _ _ _ (by with_reducible rfl) (by with_reducible rfl) (by with_reducible rfl)).mono ?_; rintro e w8 ⟨rfl, T8, hd1, hd2⟩; have T8' : Hid (Two w H1 w8 (.slice (some ⟨ga, 0, none⟩) N ca) ua A7 (.slice (some ⟨gb, 0, none⟩) N cb) ub B7) := T8; have HD2 : Hid (w8.cell? ⟨gb, t, none⟩ = some (.slice (some ⟨gx, 0, none⟩) nx cx) ∧ w8.cell? ⟨gb, i, none⟩ = some (.slice (some ⟨gz, 0, none⟩) nz cz)) := ⟨hd1, hd2⟩; clear T8 hd1 hd2))
                            all_goals
                              go_wp2
                              go_roundw
                              case rel => exact ⟨t + 1, A7, B7, by omega, by go_num, T8'.out, MI2.out⟩
                              case measure => simp [intOf]; omega
                    · have htn : t = N := by omega
                      subst htn
                      go_wp2_with fail
                      go_roundw
                      case rel => exact ⟨i + 1, A, B, by omega, by go_num, T.out, MI.out.work⟩
                      case measure => simp [intOf]; omega
    · have hkn : N = i := by omega
      subst hkn
      have IV : Hid (MX.Inv N (at2 X) (at2 B) ∧ Shape B N N) := ⟨WK.out.done, WK.out.sB⟩
      go_wp2
      go_ret2
      exact ⟨T.out.gr, .inl ⟨_, _, _, ub, B, rfl, T.out.ob.down T.out.lt, IV.out.2, IV.out.1⟩⟩
end Go.Proofs.Ytdeajclghlbhcaa
