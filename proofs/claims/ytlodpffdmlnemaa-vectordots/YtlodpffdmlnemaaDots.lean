/- VectorDots: for any two byte slices the call hayricklaw02.VectorDots(a, b) returns true, and a and b read afterwards as they read before.
   Conditions: none beyond the form's own (each slice is readable as data and within the form's reach). -/
import Derived.Test.YtlodpffdmlnemaaLift
import Derived.Test.YtlodpffdmlnemaaRefVec
import Derived.Test.YtlodpffdmlnemaaWakes
namespace Go.Proofs.Ytlodpffdmlnemaa.vectorDots
open Go.ChangeShapes Go.WideShapes Go.ChangeAt Go.RowKit
set_option linter.unusedVariables false

theorem dot_both {w : World} {d s : Value} {xs ys : List Nat} (hd : Vec w d xs) (hs : Vec w s ys) :
    Calls Try.prog 16 #[d, s] w fun e w' => e = .returned (.tuple #[bv (if ys.length = xs.length then vdot xs ys else 0), .int .i64 (if ys.length = xs.length then 0 else 1)]) ∧ w.grownBy w' none := by
  by_cases h : ys.length = xs.length
  · simp only [if_pos h]; exact dot_yes hd hs h
  · simp only [if_neg h]; exact dot_no hd hs h
theorem refDot_both {w : World} {d s : Value} {xs ys : List Nat} (hd : Vec w d xs) (hs : Vec w s ys) :
    Calls Try.prog 17 #[d, s] w fun e w' => e = .returned (.tuple #[bv (if ys.length = xs.length then vdot xs ys else 0), .int .i64 (if ys.length = xs.length then 0 else 1)]) ∧ w.grownBy w' none := by
  by_cases h : ys.length = xs.length
  · simp only [if_pos h]; exact (refDot_yes hd hs h).mono fun e w' ⟨h1, m, h2⟩ => ⟨h1, by rw [h2]; exact grown_drewN w m⟩
  · simp only [if_neg h]; exact (refDot_no hd hs h).mono fun e w' ⟨h1, h2⟩ => ⟨h1, by rw [h2]; exact World.grownBy.refl _ _⟩

set_option maxHeartbeats 8000000 in
theorem walk {w : World} {a b : Value} {xs ys : List Nat} (va : Vec w a xs) (vb : Vec w b ys) :
    Calls Try.prog 4 #[a, b] w fun e w' => e = .returned (.bool true) ∧ w.grownBy w' none := by
  go_enter Try.func4, Try.ntmps4
  go_wp2_with fail
  refine (own_any va).mono ?_
  rintro e w1 ⟨x, rfl, ox, g1⟩
  have va1 := va.keep g1
  have vb1 := vb.keep g1
  have G1 : Hid (w.grownBy w1 none) := g1
  clear va vb g1
  go_wp2_with fail
  refine (own_any vb1).mono ?_
  rintro e w2 ⟨y, rfl, oy, g2⟩
  have va2 := va1.keep g2
  have vb2 := vb1.keep g2
  have ox2 := ox.keep g2
  have G2 : Hid (w.grownBy w2 none) := grown_trans G1.out g2
  clear va1 vb1 ox g2 G1
  go_wp2_with fail
  refine (dot_both ox2.vec oy.vec).mono ?_
  rintro e w3 ⟨rfl, g3⟩
  have va3 := va2.keep g3
  have vb3 := vb2.keep g3
  have ox3 := ox2.keep g3
  have oy3 := oy.keep g3
  have G3 : Hid (w.grownBy w3 none) := grown_trans G2.out g3
  clear va2 vb2 ox2 oy g3 G2
  generalize hN : (if ys.length = xs.length then vdot xs ys else 0) = N
  generalize hE : (if ys.length = xs.length then (0 : Int) else 1) = E
  have HN : Hid _ := hN
  have HE : Hid _ := hE
  clear hN hE
  go_wp2_with fail
  refine (refDot_both va3 vb3).mono ?_
  rw [HN.out, HE.out]
  rintro e w4 ⟨rfl, g4⟩
  have va4 := va3.keep g4
  have vb4 := vb3.keep g4
  have ox4 := ox3.keep g4
  have oy4 := oy3.keep g4
  have G4 : Hid (w.grownBy w4 none) := grown_trans G3.out g4
  clear va3 vb3 ox3 oy3 g4 G3 HN HE
  go_wp2_with fail
  have KEEP : ∀ w', w4.grownBy w' none → (convert 22 9 x).run Try.prog w' = .ok (.string (strOf xs)) w' ∧ (convert 22 9 y).run Try.prog w' = .ok (.string (strOf ys)) w' ∧
      (convert 22 9 a).run Try.prog w' = .ok (.string (strOf xs)) w' ∧ (convert 22 9 b).run Try.prog w' = .ok (.string (strOf ys)) w' := fun w' g =>
    ⟨convert_vec (ox4.vec.keep g), convert_vec (oy4.vec.keep g), convert_vec (va4.keep g), convert_vec (vb4.keep g)⟩
  have hcmp := str_cmp va4.small vb4.small
  have VA : Hid (∀ w', w4.grownBy w' none → Vec w' a xs) := fun w' g => va4.keep g
  have VB : Hid (∀ w', w4.grownBy w' none → Vec w' b ys) := fun w' g => vb4.keep g
  have HK : Hid (∀ w', w4.grownBy w' none → (convert 22 9 x).run Try.prog w' = .ok (.string (strOf xs)) w' ∧ (convert 22 9 y).run Try.prog w' = .ok (.string (strOf ys)) w' ∧
      (convert 22 9 a).run Try.prog w' = .ok (.string (strOf xs)) w' ∧ (convert 22 9 b).run Try.prog w' = .ok (.string (strOf ys)) w') := KEEP
  clear KEEP ox4 oy4 va4 vb4
  go_region_held3 (fun w' => (convert 22 9 x).run Try.prog w' = .ok (.string (strOf xs)) w' ∧ (convert 22 9 y).run Try.prog w' = .ok (.string (strOf ys)) w' ∧
      (convert 22 9 a).run Try.prog w' = .ok (.string (strOf xs)) w' ∧ (convert 22 9 b).run Try.prog w' = .ok (.string (strOf ys)) w')
    (first | exact HK.out _ (grown_drewN w4 1) | exact HK.out _ (grown_trans (grown_drewN w4 1) g5))
    (first
      | (go_at_call 18; refine (same_any (VA.out _ (grown_drewN w4 1)) (VB.out _ (grown_drewN w4 1))).mono ?_; rintro e w6 ⟨rfl, hw⟩; obtain rfl := hw.symm; clear hw)
      | (go_at_call 15; refine (wakes_any _).mono ?_; rintro e w5 ⟨rfl, g5⟩))
  have G5 : Hid (w.grownBy w5 none) := grown_trans G4.out (grown_trans (grown_drewN w4 1) g5)
  clear g5 G4 VA VB HK
  go_wp2
  go_ret
  exact ⟨rfl, G5.out⟩

set_option maxRecDepth 100000 in
theorem lifted (os : Os) (started : os.Started) (H : Type) (enc : TypeId × Value → H) :
    ReturnsInHanded {} Try.checked os 4 .any (Rows.vectorDotsSpec.pre6 enc Try.prog Try.f4 Rows.vectorDotsRow.domain false) (Rows.vectorDotsSpec.post enc Try.prog Try.f4 false true false false) := by
  refine returnsInHanded_of_change_sized (C := Try.checked) Try.own started (by kernel_rfl) Try.func4
    (ChangeSpec.witness6 (enc := enc) (C := Try.checked) false ⟨#[], #[.slice none 0 0, .slice none 0 0], []⟩ 8 (by kernel_rfl) (by kernel_rfl) (by kernel_rfl) (by kernel_rfl)) ?_
  intro W base args ds gs before hval0 hW hcnd hsz0 _
  have hsz : (DataW.weightsEach Try.prog (Try.f4.params.toList ++ Rows.vectorDotsSpec.plain.varTypes Try.prog) (ds ++ gs)).all (· ≤ reachBytes) = true := hsz0
  clear hsz0
  have hval : ∀ (j : Nat) t v, Try.f4.params[j]? = some t → args[j]? = some v → Value.okWide Try.prog W .any base t v := hval0
  have hW' := hW
  obtain ⟨p, q, hA0, hV, rfl, hfz, hnd⟩ := hW
  have hA : DataW.TrodAll enc Try.prog W 0 (fun _ => true) true Try.f4.params.toList args.toList ds p := hA0
  rw [Try.params4] at hA hval hsz
  obtain ⟨v0, vs0, d0, ds0, p0, q0, hargs, rfl, rfl, h0, r0⟩ := trodAll_cons hA
  obtain ⟨v1, vs1, d1, ds1, p1, q1, rfl, rfl, rfl, h1, r1⟩ := trodAll_cons r0
  obtain ⟨rfl, rfl, rfl⟩ := trodAll_nil r1
  obtain rfl : args = #[v0, v1] := by cases args; simp_all
  obtain ⟨rfl, rfl⟩ := trodVars_none hV
  have k0 := h0
  have lt0 : ∀ x ∈ p0, x.block < W.heap.size := by obtain ⟨m, hm⟩ := k0; exact DataW.trod_lt m _ _ _ hm
  obtain ⟨x0, w0⟩ := vec_arg (hval 0 22 v0 rfl rfl) h0 (fun elems spare e => sized_slice hsz (j := 0) (t := 22) (e := 5) rfl (by rw [e]; rfl) Try.underlying22)
  have k1 := h1
  have lt1 : ∀ x ∈ p1, x.block < W.heap.size := by obtain ⟨m, hm⟩ := k1; exact DataW.trod_lt m _ _ _ hm
  obtain ⟨x1, w1⟩ := vec_arg (hval 1 22 v1 rfl rfl) h1 (fun elems spare e => sized_slice hsz (j := 1) (t := 22) (e := 5) rfl (by rw [e]; rfl) Try.underlying22)
  clear hA0 hval0
  refine (walk w0 w1).mono fun e W' ⟨he, hg⟩ => ?_
  have bel : Below W.heap.size W W' := grown_below hg (Nat.le_refl _) (by simp)
  subst he
  exact ⟨_, rfl, _, _, _, [], _, [], hW', trodAll_mk1 (shut_bool Try.underlying4 _), (trodAll_cons_mk (Below.trod Try.laidOut (by kernel_rfl) (of_decide_eq_true (by kernel_rfl)) k0 bel lt0) (trodAll_cons_mk (Below.trod Try.laidOut (by kernel_rfl) (of_decide_eq_true (by kernel_rfl)) k1 bel lt1) trodAll_mk0)), rfl, bel.frame _, fun h => by cases h⟩

theorem over : Rows.vectorDotsRow.holds Try.pinned (OpenSpec.ofChange Rows.vectorDotsSpec) :=
  OpenClaim.holds_of_wide 4 Try.f4 rfl rfl rfl rfl rfl rfl rfl ⟨rfl, rfl, rfl, rfl, rfl⟩ rfl rfl rfl rfl rfl (by kernel_rfl) Try.func4 (by kernel_rfl)
    (of_decide_eq_true (by kernel_rfl)) (by unfold Func.isWrapper; first | (rw [if_pos (by decide +kernel)]; kernel_rfl) | (rw [if_neg (by decide +kernel)]; exact ⟨rfl, rfl⟩))
    (fun os started H enc _ => lifted os started H enc)

theorem proved : Rows.VectorDotsSaid := over
end Go.Proofs.Ytlodpffdmlnemaa.vectorDots

namespace Go.Proofs.Ytlodpffdmlnemaa
theorem vectorDots_holds : Rows.VectorDotsSaid := vectorDots.proved
#print axioms vectorDots_holds
end Go.Proofs.Ytlodpffdmlnemaa
