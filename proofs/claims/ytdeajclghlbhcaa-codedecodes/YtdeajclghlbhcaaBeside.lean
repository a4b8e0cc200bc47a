/- The contract of matrix.beside; copy of a vector over the beginning of a row of the call's own. -/
import Derived.Test.YtdeajclghlbhcaaInvMath
import Derived.Laws.CopyRow
namespace Go.Proofs.Ytdeajclghlbhcaa
open Go.RowKit

theorem Try.size5 : (Try.prog.info? 5).map (·.size) = some 1 := by kernel_rfl

theorem run_copy_into {B : Nat} {w : World} {d s : Value} {xs ys : List Nat} (hd : Own B w d xs) (hs : Vec w s ys) (hl : ys.length ≤ xs.length) (h0 : 0 < ys.length) (ty : TypeId) :
    ∃ w', (Builtin.copy_ #[39, 39] ty #[d, s]).run Try.prog w = .ok (goInt ys.length) w' ∧ Own B w' d (ys ++ xs.drop ys.length) ∧ w.grownBy w' d.ownBlock := by
  obtain ⟨s1, s2, p, cap, rfl, s3, s4, s5⟩ := hs
  have hy : ys ≠ [] := fun e => by simp [e] at h0
  obtain ⟨b, off, rfl, hc⟩ := s5 hy
  rcases hd.row.2 with ⟨rfl, hn⟩ | ⟨g, dcap, cur, rfl, hb, hg, hcc, hm, hcs, ht⟩
  · omega
  · have hr := run_copy_row (P := Try.prog) w 39 39 ty 5 g 0 xs.length dcap ⟨b, off, none⟩ ys.length cap cur 5 (ys.map bv) Try.underlying39 Try.size5 hg (by rw [List.length_map]; exact (Nat.min_eq_left hl).symm)
      (fun j v hj => by
        have hj' : j < ys.length := by
          have := (List.getElem?_eq_some_iff.1 hj).1
          simpa using this
        rw [getD_map_bv ys j hj'] at hj
        rw [add_off, hc j hj']; exact hj) (by simp; omega) (fun v hv => by obtain ⟨x, _, rfl⟩ := List.mem_map.1 hv; rfl)
    have hlen : (ys ++ xs.drop ys.length).length = xs.length := by simp; omega
    refine ⟨w.setRow g (ys.map bv ++ cur.toList.drop ys.length).toArray, by rw [hr]; simp, ⟨fun x hx => ?_, by rw [hlen]; exact hd.len, by simp, .inr ⟨g, dcap, _, by rw [hlen], hb, setRow_heap w g cur _ 5 _ hg, by omega, hm, ?_, ?_⟩⟩, ⟨rfl, rfl, rfl, by simp, fun k _ hk => setRow_other w g k _ (fun e => hk (by simp [Value.ownBlock, e]))⟩⟩
    · rcases List.mem_append.1 hx with h | h
      · exact s1 x h
      · exact hd.small x (List.mem_of_mem_drop h)
    · simp; omega
    · have ht' : cur.toList.take xs.length = xs.map bv := by simpa using ht
      rw [hlen, Nat.mul_one, List.map_append, List.map_drop, ← ht']
      apply List.ext_getElem?
      intro j
      by_cases h1 : j < ys.length
      · simp [List.getElem?_append, h1, show j < xs.length from by omega]
      · simp [List.getElem?_take, List.getElem?_append, h1, List.getElem?_drop]
        by_cases h2 : j < xs.length
        · simp [h2, show ys.length + (j - ys.length) = j from by omega]
        · simp [h2, show ¬ ys.length + (j - ys.length) < xs.length from by omega]

theorem wpList_copy_into {w : World} {ops : Array Oper} {rest : List Oper} {o : Oper} {a : Act} {Q : Exit → Act → World → Prop} (hgd : o.guard = none) (d s : Operand)
    (ho : o.op = .call { callee := .builtin .copy, args := #[d, s], argTypes := #[39, 39] }) (dv sv : Value) (hed : a.eval d = dv) (hes : a.eval s = sv)
    {B : Nat} {xs ys : List Nat} (hd : Own B w dv xs) (hs : Vec w sv ys) (hl : ys.length ≤ xs.length) (h0 : 0 < ys.length)
    (h : ∀ w', Own B w' dv (ys ++ xs.drop ys.length) → w.grownBy w' dv.ownBlock → wpList Try.prog ops Q rest (a.put o.dst (goInt ys.length)) w') : wpList Try.prog ops Q (o :: rest) a w := by
  refine wpList_plain hgd fun K hK => ?_
  obtain ⟨w', hrun, r1, r2⟩ := run_copy_into hd hs hl h0 o.type
  unfold Oper.wp
  simp [execOp, ho, resolve, invoke, builtin, hed, hes, hrun, Result.andThen]
  exact hK _ _ (h _ r1 r2)

theorem step_copy_into {ops : Array Oper} {o : Oper} {a : Act} {w : World} {K : Act → World → Prop} {Q : Exit → Act → World → Prop} {E : Prop} (hgd : o.guard = none) (d s : Operand)
    (ho : o.op = .call { callee := .builtin .copy, args := #[d, s], argTypes := #[39, 39] }) (dv sv : Value) (hed : a.eval d = dv) (hes : a.eval s = sv)
    {B : Nat} {xs ys : List Nat} (hd : Own B w dv xs) (hs : Vec w sv ys) (hl : ys.length ≤ xs.length) (h0 : 0 < ys.length)
    (h : ∀ w', Own B w' dv (ys ++ xs.drop ys.length) → w.grownBy w' dv.ownBlock → K (a.put o.dst (goInt ys.length)) w') :
    if Region.wanted o (yielded ops a.tmps) = true then Oper.wp Try.prog o a w K Q else E := by
  have hw : Region.wanted o (yielded ops a.tmps) = true := by simp [Region.wanted, hgd]
  rw [if_pos hw]
  obtain ⟨w', hrun, h1, h2⟩ := run_copy_into hd hs hl h0 o.type
  unfold Oper.wp
  simp [execOp, ho, resolve, invoke, builtin, hed, hes, hrun, Result.andThen]
  exact h _ h1 h2

/-- A vector from a place on. -/
theorem Vec.tail {w : World} {b off n cap k : Nat} {xs : List Nat} (h : Vec w (.slice (some ⟨b, off, none⟩) n cap) xs) (hk : k ≤ n) : Vec w (.slice (some ⟨b, off + k, none⟩) (n - k) (cap - k)) (xs.drop k) := by
  obtain ⟨h1, h2, p, cp, e, h3, h4, h5⟩ := h
  injection e with e1 e2 e3
  subst e2 e3
  refine ⟨fun x hx => h1 x (List.mem_of_mem_drop hx), by simp; omega, some ⟨b, off + k, none⟩, cap - k, by simp, by simp; omega, by omega, fun hne => ⟨b, off + k, rfl, fun j hj => ?_⟩⟩
  have hx : xs ≠ [] := fun e => hne (by rw [e]; simp)
  obtain ⟨b', off', e', hc⟩ := h5 hx
  rw [← e1] at e'
  injection e' with e'
  injection e' with e2 e3
  subst e2 e3
  simp only [List.length_drop] at hj
  have := hc (k + j) (by omega)
  rw [drop_getD]
  rw [show off + k + j = off + (k + j) from by omega]
  exact this

def besTo (X : List (List Nat)) (n k : Nat) : List (List Nat) := (List.range n).map fun i => if i < k then X.getD i [] ++ idRow n i else List.replicate (2 * n) 0
theorem besTo_len (X : List (List Nat)) (n k : Nat) : (besTo X n k).length = n := by simp [besTo]
theorem besTo_zero (X : List (List Nat)) (n : Nat) : besTo X n 0 = List.replicate n (List.replicate (2 * n) 0) := by
  apply List.ext_getElem
  · simp [besTo]
  · intro i h1 h2
    simp [besTo]
theorem besTo_all (X : List (List Nat)) (n : Nat) : besTo X n n = besList X n := List.map_congr_left fun i hi => by simp [List.mem_range.1 hi]
theorem besTo_get (X : List (List Nat)) (n k : Nat) (h : k < n) : (besTo X n k).getD k [] = List.replicate (2 * n) 0 := by simp [besTo, List.getD, h]
theorem besTo_set (X : List (List Nat)) (n k : Nat) : (besTo X n k).set k (X.getD k [] ++ idRow n k) = besTo X n (k + 1) := by
  apply List.ext_getElem
  · simp [besTo]
  · intro i h1 h2
    by_cases e : k = i
    · subst e; simp [besTo]
    · by_cases l : i < k
      · simp [besTo, e, l, show i < k + 1 from by omega]
      · simp [besTo, e, l, show ¬ i < k + 1 from by omega]

set_option maxHeartbeats 3200000 in
theorem beside_any {w : World} {m : Value} {vs : List Value} {X : List (List Nat)} {n : Nat} (mr : Mat w m vs X) (hs : Shape X n n) (h1 : 1 ≤ n) (h2 : n ≤ 255) :
    Calls Try.prog 62 #[m] w fun e w' => ∃ v us, e = .returned v ∧ OwnMat w.heap.size w' v us (besList X n) ∧ Sep us ∧ w.grownBy w' none := by
  obtain ⟨q, N, cap, rfl, hN⟩ := mr.row.opened
  have hsm := mr.same
  have hlen := hs.len
  have hNn : N = n := by omega
  subst hNn
  have MR : Hid (Mat w (.slice q N cap) vs X) := mr
  have HS : Hid (Shape X N N ∧ vs.length = N ∧ X.length = N) := ⟨hs, by omega, hlen⟩
  have BL : Hid (∀ (x : Int) w, x = 2 * (N : Int) → Calls Try.prog 65 #[.int .i64 (N : Int), .int .i64 x] w fun e w' => ∃ v us, e = .returned v ∧ OwnMat w.heap.size w' v us (List.replicate N (List.replicate (2 * N) 0)) ∧ Sep us ∧ w.grownBy w' none) := fun x w hx => by
    obtain rfl : x = ((2 * N : Nat) : Int) := by omega
    exact blank_any N (2 * N) w (by omega) (by omega)
  clear hN hsm hlen hs mr
  go_enter Try.func62, Try.ntmps62
  go_wp2_with (go_at_call 65; refine (BL.out _ _ (by first | rfl | (unfold wrap64; omega) | omega)).mono ?_; rintro e w1 ⟨v, us, rfl, om, sp, g1⟩; have OM : Hid (OwnMat w.heap.size w1 v us (List.replicate N (List.replicate (2 * N) 0))) := om; have SP : Hid (Sep us) := sp; have G1 : Hid (w.grownBy w1 none) := g1; clear om sp g1)
  obtain ⟨p, N2, cap2, rfl, hN2⟩ := OM.out.mat.row.opened
  have HN2 : Hid (N2 = N) := by have := OM.out.same; simp at this; show _ = _; omega
  clear hN2 BL
  go_loopw [15] (fun ti wr => ∃ (k : Nat), k ≤ N ∧ ti = .int .i64 k ∧ Hid (OwnMat w.heap.size wr (.slice p N2 cap2) us (besTo X N k)) ∧ Hid (w.grownBy wr none)) (fun ti _ => N - (intOf ti).toNat)
  case atStart => exact ⟨0, by omega, rfl, by have h := OM.out; rw [← besTo_zero X N] at h; exact h, G1.out⟩
  case round =>
    clear OM G1
    obtain ⟨k, hk, rfl, OK, GK⟩ := hrel
    by_cases hlt : k < N
    · have i1 : (k : Int) < (N : Int) := by omega
      have i3 : (0 : Int) ≤ (k : Int) := by omega
      have i4 : (k : Int) < (N2 : Int) := by have := HN2.out; omega
      obtain ⟨b0, off, rfl, hr⟩ := (MR.out.keep GK.out).row.spot (k := k) (by have := HS.out.2.1; omega)
      obtain ⟨pk, nk, ck, ek, hnk⟩ := ((MR.out.keep GK.out).vec k (by have := HS.out.2.2; omega)).opened
      have KV : Hid (∀ w', w.grownBy w' none → Vec w' (.slice pk nk ck) (X.getD k [])) := fun w' g => by rw [← ek]; exact (MR.out.keep g).vec k (by have := HS.out.2.2; omega)
      rw [ek] at hr
      have hkX : k < (besTo X N k).length := by rw [besTo_len]; exact hlt
      obtain ⟨g, rfl, hb, hc, hf, q1, q2, q3⟩ := OK.out.place (k := k) hkX
      clear q1 q2 q3
      have ov := OK.out.vec k hkX
      rw [besTo_get _ _ _ hlt] at ov
      obtain ⟨pu, nu, cu, eu, hnu⟩ := ov.vec.opened
      rw [eu] at hc ov
      simp only [List.length_replicate] at hnu
      obtain ⟨gu, rfl, q1, q2, q3, q4, q5, q6⟩ := ov.spot (k := 0) (by simp; omega)
      clear q1 q2 q3 q4 q5 q6
      have hlo := ov.lo gu rfl
      have hXk := HS.out.1.row k hlt
      have OV : Hid (Own w.heap.size wr (.slice (some ⟨gu, 0, none⟩) nu cu) (List.replicate (2 * N) 0)) := ov
      have ST : Hid (∀ w2, Own w.heap.size w2 (.slice (some ⟨gu, 0, none⟩) nu cu) (X.getD k [] ++ (List.replicate (2 * N) 0).drop (X.getD k []).length) → wr.grownBy w2 (some gu) →
          w2.cell? ⟨g, k, none⟩ = some (.slice (some ⟨gu, 0, none⟩) nu cu) ∧ (∃ x : Nat, w2.cell? ⟨gu, N + k, none⟩ = some (.int .u8 (x : Int))) ∧ w2.frozen? ⟨gu, N + k, none⟩ = false ∧
          OwnMat w.heap.size (w2.setCell ⟨gu, N + k, none⟩ (.int .u8 1)) (.slice (some ⟨g, 0, none⟩) N2 cap2) us (besTo X N (k + 1)) ∧ w.grownBy (w2.setCell ⟨gu, N + k, none⟩ (.int .u8 1)) none) := fun w2 o2 g2 => by
        have om2 := OK.out.rowSet SP.out hkX (by rw [eu]; exact o2) (by rw [eu]; exact g2)
        obtain ⟨g', e', _, hc', _, _, _, _⟩ := om2.place (k := k) (by simpa using hkX)
        obtain rfl : g = g' := (by injection e' with e'; injection e' with e')
        rw [eu] at hc'
        have hd : (List.replicate (2 * N) 0).drop (X.getD k []).length = List.replicate N 0 := by rw [hXk, List.drop_replicate, show 2 * N - N = N from by omega]
        rw [hd] at o2 om2
        obtain ⟨gu', e2, _, hcx, hfx, _, hset, hgrow⟩ := o2.spot (k := N + k) (by rw [List.length_append, hXk, List.length_replicate]; omega)
        obtain rfl : gu = gu' := (by injection e2 with e2; injection e2 with e2)
        have hs1 := hset 1 (by decide)
        rw [List.set_append_right _ _ (by omega), hXk, show N + k - N = k from by omega, idRow_set] at hs1
        have om3 := om2.rowSet SP.out (k := k) (by simpa using hkX) (by rw [eu]; exact hs1) (by rw [eu]; exact hgrow _)
        rw [List.set_set, besTo_set] at om3
        exact ⟨hc', ⟨_, hcx⟩, hfx, om3, grown_new (grown_new GK.out g2 (fun i e => by have := Option.some.inj e; omega)) (hgrow _) (fun i e => by have := Option.some.inj e; omega)⟩
      have HXK : Hid ((X.getD k []).length = N) := hXk
      have i5 : ((N : Int) + (k : Int)) < (nu : Int) := by omega
      have hnu510 : nu ≤ 510 := by omega
      clear OK eu ov hkX hlo hb hf hXk ek hnk hnu
      go_wp2_with (refine wpList_copy_into rfl _ _ rfl _ _ rfl rfl OV.out (KV.out _ GK.out) (by rw [HXK.out]; simp; omega) (by rw [HXK.out]; omega) ?_; intro w2 o2 g2; obtain ⟨hc2, ⟨x2, hx2⟩, hf2, hom, hgg⟩ := ST.out w2 o2 g2; have OM2 : Hid (OwnMat w.heap.size (w2.setCell ⟨gu, N + k, none⟩ (.int .u8 1)) (.slice (some ⟨g, 0, none⟩) N2 cap2) us (besTo X N (k + 1))) := hom; have GG2 : Hid (w.grownBy (w2.setCell ⟨gu, N + k, none⟩ (.int .u8 1)) none) := hgg; clear o2 g2 hom hgg hc hr)
      go_roundw
      case rel => exact ⟨k + 1, by omega, by go_num, OM2.out, GG2.out⟩
      case measure => simp [intOf]; omega
    · have hkn : N = k := by omega
      subst hkn
      go_wp2
      go_ret
      exact ⟨_, us, rfl, by have h := OK.out; rw [besTo_all] at h; exact h, SP.out, GK.out⟩
end Go.Proofs.Ytdeajclghlbhcaa
