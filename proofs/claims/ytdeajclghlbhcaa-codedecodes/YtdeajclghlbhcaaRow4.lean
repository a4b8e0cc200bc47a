/- Contracts of code.copied and code.row. -/
import Derived.Test.YtdeajclghlbhcaaProd
import Derived.Test.YtdeajclghlbhcaaCMath
import Derived.Test.YtdeajclghlbhcaaBeside
namespace Go.Proofs.Ytdeajclghlbhcaa
open Go.RowKit

/-- A whole vector over another of its length. -/
theorem run_copy_vec {B : Nat} {w : World} {d s : Value} {xs ys : List Nat} (hd : Own B w d xs) (hs : Vec w s ys) (hl : ys.length = xs.length) (ty : TypeId) :
    ∃ w', (Builtin.copy_ #[39, 39] ty #[d, s]).run Try.prog w = .ok (goInt xs.length) w' ∧ Own B w' d ys ∧ w.grownBy w' d.ownBlock := by
  obtain ⟨s1, s2, p, cap, rfl, s3, s4, s5⟩ := hs
  by_cases hx : xs = []
  · subst hx
    have : ys = [] := List.eq_nil_of_length_eq_zero hl
    subst this
    obtain ⟨p', c', rfl, _⟩ := hd.vec.form
    refine ⟨w, run_copy_none (P := Try.prog) w 39 39 ty 5 p' p 0 c' 0 cap Try.underlying39 Try.size5 (by simp), hd, World.grownBy.refl _ _⟩
  · have hy : ys ≠ [] := fun e => hx (List.eq_nil_of_length_eq_zero (by rw [← hl, e]; rfl))
    obtain ⟨b, off, rfl, hc⟩ := s5 hy
    rcases hd.row.2 with ⟨rfl, hn⟩ | ⟨g, dcap, cur, rfl, hb, hg, hcc, hm, hcs, ht⟩
    · exact absurd (List.eq_nil_of_length_eq_zero hn) hx
    · have hr := run_copy_row (P := Try.prog) w 39 39 ty 5 g 0 xs.length dcap ⟨b, off, none⟩ ys.length cap cur 5 (ys.map bv) Try.underlying39 Try.size5 hg (by rw [List.length_map, hl]; simp)
        (fun j v hj => by
          have hj' : j < ys.length := by
            have := (List.getElem?_eq_some_iff.1 hj).1
            simpa using this
          rw [getD_map_bv ys j hj'] at hj
          rw [add_off, hc j hj']; exact hj) (by simp; omega) (fun v hv => by obtain ⟨x, _, rfl⟩ := List.mem_map.1 hv; rfl)
      refine ⟨w.setRow g (ys.map bv ++ cur.toList.drop xs.length).toArray, by rw [hr]; simp [hl], ⟨s1, s2, by simp, .inr ⟨g, dcap, _, by rw [hl], hb, setRow_heap w g cur _ 5 _ hg, by omega, hm, ?_, ?_⟩⟩, ⟨rfl, rfl, rfl, by simp, fun k _ hk => setRow_other w g k _ (fun e => hk (by simp [Value.ownBlock, e]))⟩⟩
      · simp; omega
      · simp

theorem wpList_copy_vec {w : World} {ops : Array Oper} {rest : List Oper} {o : Oper} {a : Act} {Q : Exit → Act → World → Prop} (hgd : o.guard = none) (d s : Operand)
    (ho : o.op = .call { callee := .builtin .copy, args := #[d, s], argTypes := #[39, 39] }) (dv sv : Value) (hed : a.eval d = dv) (hes : a.eval s = sv)
    {B : Nat} {xs ys : List Nat} (hd : Own B w dv xs) (hs : Vec w sv ys) (hl : ys.length = xs.length)
    (h : ∀ w', Own B w' dv ys → w.grownBy w' dv.ownBlock → wpList Try.prog ops Q rest (a.put o.dst (goInt xs.length)) w') : wpList Try.prog ops Q (o :: rest) a w := by
  refine wpList_plain hgd fun K hK => ?_
  obtain ⟨w', hrun, r1, r2⟩ := run_copy_vec hd hs hl o.type
  unfold Oper.wp
  simp [execOp, ho, resolve, invoke, builtin, hed, hes, hrun, Result.andThen]
  exact hK _ _ (h _ r1 r2)

theorem copied_any {w : World} {v : Value} {xs : List Nat} (hv : Vec w v xs) :
    Calls Try.prog 44 #[v] w fun e w' => ∃ p n c, e = .returned (.slice p n c) ∧ Own w.heap.size w' (.slice p n c) xs ∧ w.grownBy w' none := by
  obtain ⟨q, n, cap, rfl, hn⟩ := hv.opened
  have hl : n ≤ 140737488351232 := by rw [hn]; exact hv.len
  have HN : Hid (n = xs.length) := hn
  have HV : Hid (∀ w', w.grownBy w' none → Vec w' (.slice q n cap) xs) := fun w' g => hv.keep g
  clear hn hv
  go_enter Try.func44, Try.ntmps44
  go_wp2_with (first
    | (at_make; refine wpList_make_vec rfl _ _ rfl n rfl rfl hl ?_; intro w1 p ou g1; have OU : Hid (Own w.heap.size w1 (.slice p n n) (List.replicate n 0)) := ou; have G1 : Hid (w.grownBy w1 none) := g1; clear ou g1)
    | (refine wpList_copy_vec rfl _ _ rfl _ _ rfl rfl OU.out (HV.out _ G1.out) (by rw [List.length_replicate]; exact HN.out.symm) ?_; intro w2 o2 g2; have O2 : Hid (Own w.heap.size w2 (.slice p n n) xs) := o2; have G2 : Hid (w.grownBy w2 none) := grown_new G1.out g2 (fun i e => OU.out.lo i e); clear o2 g2))
  go_ret
  exact ⟨p, n, n, rfl, O2.out, G2.out⟩

/-- The generator's row i. -/
def genRow (k i : Nat) : List Nat := (List.range k).map (MX.gen k i)
theorem genRow_len (k i : Nat) : (genRow k i).length = k := by simp [genRow]
theorem genRow_get {k i j : Nat} (h : j < k) : (genRow k i).getD j 0 = MX.gen k i j := gd_map _ h
theorem genRow_low {k i : Nat} (h : i < k) : (List.replicate k 0).set i 1 = genRow k i := by
  apply List.ext_getElem
  · simp [genRow]
  · intro j h1 h2
    have hj : j < k := by simpa using h1
    by_cases e : i = j
    · subst e; simp [genRow, MX.gen, MX.one, h]
    · simp [genRow, MX.gen, MX.one, h, e]

set_option maxHeartbeats 1600000 in
theorem row_any (k i : Nat) (w : World) (hk : k ≤ 255) (hi : i < 256) :
    Calls Try.prog 26 #[.int .i64 (k : Int), .int .i64 (i : Int)] w fun e w' => ∃ p n c, e = .returned (.slice p n c) ∧ Own w.heap.size w' (.slice p n c) (genRow k i) ∧ w.grownBy w' none := by
  by_cases hlow : i < k
  · have i1 : (i : Int) < (k : Int) := by omega
    have i3 : (0 : Int) ≤ (i : Int) := by omega
    go_enter Try.func26, Try.ntmps26
    go_wp2_with (at_make; refine wpList_make_vec rfl _ _ rfl k rfl rfl (by omega) ?_; intro w1 p ou g1; obtain ⟨g, rfl, hnn, hc, hf, h1, hset, hgr⟩ := ou.spot (k := i) (by rw [List.length_replicate]; exact hlow); have HS : Hid _ := hset 1 (by decide); have HG : Hid (w.grownBy (w1.setCell ⟨g, i, none⟩ (.int .u8 1)) none) := grown_new g1 (hgr _) (fun r e => ou.lo r e); clear hset hgr ou g1 hnn h1)
    go_ret
    exact ⟨_, k, k, rfl, by have h := HS.out; rw [genRow_low hlow] at h; exact h, HG.out⟩
  · have i1 : ¬ (i : Int) < (k : Int) := by omega
    go_enter Try.func26, Try.ntmps26
    go_wp2_with (at_make; refine wpList_make_vec rfl _ _ rfl k rfl rfl (by omega) ?_; intro w1 p ou g1; have OU : Hid (Own w.heap.size w1 (.slice p k k) (mix (MX.gen k i) (List.replicate k 0) 0)) := (by rw [mix_zero]; exact ou); have G1 : Hid (w.grownBy w1 none) := g1; clear ou g1)
    go_loopw [18] (fun ti wr => ∃ j : Nat, j ≤ k ∧ ti = .int .i64 j ∧ Hid (Own w.heap.size wr (.slice p k k) (mix (MX.gen k i) (List.replicate k 0) j)) ∧ Hid (w.grownBy wr none)) (fun ti _ => k - (intOf ti).toNat)
    case atStart => exact ⟨0, by omega, rfl, OU, G1⟩
    case round =>
      clear OU G1
      obtain ⟨j, hj, rfl, OK, GK⟩ := hrel
      by_cases hlt : j < k
      · have i2 : (j : Int) < (k : Int) := by omega
        have i3 : (0 : Int) ≤ (j : Int) := by omega
        have hL : j < (mix (MX.gen k i) (List.replicate k 0) j).length := by rw [mix_len]; simp; omega
        have hgen : MX.gen k i j = M.inv (i ^^^ j) := by unfold MX.gen; rw [if_neg hlow]
        have HM : Hid ((mix (MX.gen k i) (List.replicate k 0) j).set j (M.inv (i ^^^ j)) = mix (MX.gen k i) (List.replicate k 0) (j + 1)) := by
          show _ = _
          rw [← hgen]; exact mix_set _ _ _
        have HL : Hid (j < (mix (MX.gen k i) (List.replicate k 0) j).length) := hL
        have hx : i ^^^ j < 256 := M.xor_lt hi (by omega)
        have h0 : 0 < i ^^^ j := MX.xor_ne (by omega)
        have AA : Hid (∀ w, Calls Try.prog 43 #[.int .u8 (i : Int), .int .u8 (j : Int)] w fun e w' => e = .returned (.int .u8 ((i ^^^ j : Nat) : Int)) ∧ w' = w) := fun w => add_any _ _ w (by omega) (by omega) (by omega) (by omega)
        have II : Hid (∀ w, Calls Try.prog 42 #[.int .u8 ((i ^^^ j : Nat) : Int)] w fun e w' => e = .returned (.tuple #[.int .u8 ((M.inv (i ^^^ j) : Nat) : Int), .int .i64 0]) ∧ w.grownBy w' none) := fun w => inv_any _ w (by omega) (by omega)
        have hI : M.inv (i ^^^ j) < 256 := M.inv_lt _
        generalize M.inv (i ^^^ j) = y at *
        generalize i ^^^ j = x at *
        generalize mix (MX.gen k i) (List.replicate k 0) j = XK at *
        clear hgen hL
        obtain ⟨g, rfl, hz, _⟩ := OK.out.spot (k := j) HL.out
        clear hz
        go_wp2_with (first
          | (go_at_call 43; refine (AA.out _).mono ?_; rintro e w1 ⟨rfl, hw⟩; obtain rfl := hw.symm; clear hw)
          | (go_at_call 42; refine (II.out _).mono ?_; rintro e w2 ⟨rfl, g2⟩; obtain ⟨g', e', hnn, hc, hf, h1, hset, hgr⟩ := (OK.out.keep g2).spot (k := j) HL.out; obtain rfl : g = g' := (by injection e' with e'; injection e' with e'); have HS : Hid _ := hset _ hI; have HG : Hid (w.grownBy (w2.setCell ⟨g, j, none⟩ (.int .u8 (y : Int))) none) := grown_new (grown_trans GK.out g2) (hgr _) (fun r e => OK.out.lo r e); clear hset hgr g2 e' hnn h1))
        go_roundw
        case rel => exact ⟨j + 1, by omega, by go_num, by rw [← HM.out]; exact HS, HG⟩
        case measure => simp [intOf]; omega
      · have hjk : j = k := by omega
        subst hjk
        go_wp2
        go_ret
        have h := OK.out
        have ha := mix_all (MX.gen j i) (List.replicate j 0)
        rw [List.length_replicate] at ha
        rw [ha] at h
        exact ⟨p, j, j, rfl, h, GK.out⟩
end Go.Proofs.Ytdeajclghlbhcaa
