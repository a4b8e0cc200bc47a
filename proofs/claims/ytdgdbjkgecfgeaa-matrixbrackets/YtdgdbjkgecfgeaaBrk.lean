/- The walk of hayricklaw03.MatrixBrackets over its argument's parts. -/
import Derived.Test.YtdgdbjkgecfgeaaBrkMath
import Derived.Test.YtdgdbjkgecfgeaaMade
import Derived.Test.YtdgdbjkgecfgeaaBoth
namespace Go.Proofs.Ytdgdbjkgecfgeaa
open Go.RowKit
set_option linter.unusedVariables false

theorem cellBox (w : World) (C : Array Value) (t : TypeId) (j : Nat) : (w.alloc (.cells C t)).cell? ⟨w.heap.size, j, none⟩ = C[j]? := by
  have h := heap_alloc_new w (.cells C t)
  unfold World.cell?
  rw [h]; rfl

theorem tmod9 (A : Nat) : ((A : Int)).tmod 9 = ((A % 9 : Nat) : Int) := by
  rw [Int.tmod_eq_emod_of_nonneg (by omega)]; rfl

set_option maxHeartbeats 12800000 in
set_option maxRecDepth 100000 in
theorem brk_walk {w : World} {A B C D : Nat} {x y z r : Value} {xs ys zs rs : List Nat} (hA : A < 256) (hB : B < 256) (hC : C < 256) (hD : D < 256) (vx : Vec w x xs) (vy : Vec w y ys) (vz : Vec w z zs) (vr : Vec w r rs) :
    Calls Try.prog 6 #[.agg #[.int .u8 (A : Int), .int .u8 (B : Int), .int .u8 (C : Int), .int .u8 (D : Int), x, y, z, r]] w fun e w' => e = .returned (.bool true) ∧ w.grownBy w' none := by
  obtain ⟨px, nx, cx, rfl, hx⟩ := vx.opened
  obtain ⟨py, ny, cy, rfl, hy⟩ := vy.opened
  obtain ⟨pz, nz, cz, rfl, hz⟩ := vz.opened
  obtain ⟨pr, nr, cr, rfl, hr⟩ := vr.opened
  have BX := cellBox w #[.int .u8 (A : Int), .int .u8 (B : Int), .int .u8 (C : Int), .int .u8 (D : Int), .slice px nx cx, .slice py ny cy, .slice pz nz cz, .slice pr nr cr] 47
  have tA := tmod9 A
  have tB := tmod9 B
  have tC := tmod9 C
  have tD := tmod9 D
  obtain ⟨a, ha⟩ : ∃ a, a = 1 + A % 9 := ⟨_, rfl⟩
  obtain ⟨b, hb⟩ : ∃ b, b = 1 + B % 9 := ⟨_, rfl⟩
  obtain ⟨c, hc⟩ : ∃ c, c = 1 + C % 9 := ⟨_, rfl⟩
  obtain ⟨d, hd⟩ : ∃ d, d = 1 + D % 9 := ⟨_, rfl⟩
  have HS : Hid (1 ≤ a ∧ a ≤ 9 ∧ 1 ≤ b ∧ b ≤ 9 ∧ 1 ≤ c ∧ c ≤ 9 ∧ 1 ≤ d ∧ d ≤ 9) := by show _ ∧ _; omega
  have sA : IntKind.i64.wrap (1 + ((A % 9 : Nat) : Int)) = (a : Int) := by rw [IntWalk.i64_in _ (by omega)]; omega
  have sB : IntKind.i64.wrap (1 + ((B % 9 : Nat) : Int)) = (b : Int) := by rw [IntWalk.i64_in _ (by omega)]; omega
  have sC : IntKind.i64.wrap (1 + ((C % 9 : Nat) : Int)) = (c : Int) := by rw [IntWalk.i64_in _ (by omega)]; omega
  have sD : IntKind.i64.wrap (1 + ((D % 9 : Nat) : Int)) = (d : Int) := by rw [IntWalk.i64_in _ (by omega)]; omega
  have eA : IntKind.i64.wrap (((A % 9 : Nat)) : Int) = ((A % 9 : Nat) : Int) := IntWalk.i64_in _ (by omega)
  have eB : IntKind.i64.wrap (((B % 9 : Nat)) : Int) = ((B % 9 : Nat) : Int) := IntWalk.i64_in _ (by omega)
  have eC : IntKind.i64.wrap (((C % 9 : Nat)) : Int) = ((C % 9 : Nat) : Int) := IntWalk.i64_in _ (by omega)
  have eD : IntKind.i64.wrap (((D % 9 : Nat)) : Int) = ((D % 9 : Nat) : Int) := IntWalk.i64_in _ (by omega)
  generalize A % 9 = A9 at *
  generalize B % 9 = B9 at *
  generalize C % 9 = C9 at *
  generalize D % 9 = D9 at *
  have VX : Hid (∀ w', w.grownBy w' none → Vec w' (.slice px nx cx) xs) := fun w' g => vx.keep g
  have VY : Hid (∀ w', w.grownBy w' none → Vec w' (.slice py ny cy) ys) := fun w' g => vy.keep g
  have VZ : Hid (∀ w', w.grownBy w' none → Vec w' (.slice pz nz cz) zs) := fun w' g => vz.keep g
  have VR : Hid (∀ w', w.grownBy w' none → Vec w' (.slice pr nr cr) rs) := fun w' g => vr.keep g
  have HR : Hid (nr = rs.length) := hr
  have hrl : nr ≤ 140737488351232 := by rw [hr]; exact vr.len
  have GB0 : Hid (w.grownBy (w.alloc (.cells #[.int .u8 (A : Int), .int .u8 (B : Int), .int .u8 (C : Int), .int .u8 (D : Int), .slice px nx cx, .slice py ny cy, .slice pz nz cz, .slice pr nr cr] 47)) none) := World.grownBy_alloc _ _ none
  have BX' : Hid (∀ j, (w.alloc (.cells #[.int .u8 (A : Int), .int .u8 (B : Int), .int .u8 (C : Int), .int .u8 (D : Int), .slice px nx cx, .slice py ny cy, .slice pz nz cz, .slice pr nr cr] 47)).cell? ⟨w.heap.size, j, none⟩ = #[Value.int .u8 (A : Int), .int .u8 (B : Int), .int .u8 (C : Int), .int .u8 (D : Int), .slice px nx cx, .slice py ny cy, .slice pz nz cz, .slice pr nr cr][j]?) := BX
  clear vx vy vz vr hx hy hz hr ha hb hc hd BX
  go_enter Try.func6, Try.ntmps6
  go_wp2_with fail
  go_region_held3 (fun w' => w'.cell? ⟨w.heap.size, 0, none⟩ = some (.int .u8 (A : Int)) ∧ w'.cell? ⟨w.heap.size, 1, none⟩ = some (.int .u8 (B : Int)) ∧ w'.cell? ⟨w.heap.size, 2, none⟩ = some (.int .u8 (C : Int)) ∧ w'.cell? ⟨w.heap.size, 3, none⟩ = some (.int .u8 (D : Int)))
    (exact ⟨BX'.out 0, BX'.out 1, BX'.out 2, BX'.out 3⟩) (fail)
  have GB : Hid (w.grownBy (w.alloc (.cells #[.int .u8 (A : Int), .int .u8 (B : Int), .int .u8 (C : Int), .int .u8 (D : Int), .slice px nx cx, .slice py ny cy, .slice pz nz cz, .slice pr nr cr] 47)).drew none) := grown_trans GB0.out (grown_drewN _ 1)
  have BC : Hid (∀ w', (w.alloc (.cells #[.int .u8 (A : Int), .int .u8 (B : Int), .int .u8 (C : Int), .int .u8 (D : Int), .slice px nx cx, .slice py ny cy, .slice pz nz cz, .slice pr nr cr] 47)).drew.grownBy w' none → w'.cell? ⟨w.heap.size, 4, none⟩ = some (.slice px nx cx) ∧ w'.cell? ⟨w.heap.size, 5, none⟩ = some (.slice py ny cy) ∧ w'.cell? ⟨w.heap.size, 6, none⟩ = some (.slice pz nz cz) ∧ w'.cell? ⟨w.heap.size, 7, none⟩ = some (.slice pr nr cr)) := fun w' g =>
    ⟨g.cell (BX'.out 4) (by simp), g.cell (BX'.out 5) (by simp), g.cell (BX'.out 6) (by simp), g.cell (BX'.out 7) (by simp)⟩
  clear GB0 BX' tA tB tC tD sA sB sC sD eA eB eC eD
  generalize (w.alloc (.cells #[.int .u8 (A : Int), .int .u8 (B : Int), .int .u8 (C : Int), .int .u8 (D : Int), .slice px nx cx, .slice py ny cy, .slice pz nz cz, .slice pr nr cr] 47)).drew = w2 at *
  have MD : Hid (∀ (n m : Nat) (l : Value) (w' : World) (ks : List Nat), 1 ≤ n → n ≤ 9 → m ≤ 9 → Vec w' l ks → Calls Try.prog 24 #[.int .i64 (n : Int), .int .i64 (m : Int), l] w' fun e w'' => ∃ p k c us M, e = .returned (.slice p k c) ∧ OwnMat w'.heap.size w'' (.slice p k c) us M ∧ Shape M n m ∧ w'.grownBy w'' none) := fun n m l w' ks h1 h2 h3 v => made_any n m h2 h3 h1 v
  have GD : Hid (w2.grownBy w2.drew none) := grown_drewN _ 1
  have M1 : Hid (∀ r1 r2 r3 w', r1 = Value.int .i64 (a : Int) → r2 = Value.int .i64 (b : Int) → r3 = Value.slice px nx cx → w2.grownBy w' none → Calls Try.prog 24 #[r1, r2, r3] w' fun e w'' => ∃ p k c us M, e = .returned (.slice p k c) ∧ OwnMat w'.heap.size w'' (.slice p k c) us M ∧ Shape M a b ∧ w'.grownBy w'' none) := fun r1 r2 r3 w' e1 e2 e3 g => by subst e1 e2 e3; exact MD.out a b _ w' xs HS.out.1 HS.out.2.1 HS.out.2.2.2.1 (VX.out _ (grown_trans GB.out g))
  have M2 : Hid (∀ r1 r2 r3 w', r1 = Value.int .i64 (b : Int) → r2 = Value.int .i64 (c : Int) → r3 = Value.slice py ny cy → w2.grownBy w' none → Calls Try.prog 24 #[r1, r2, r3] w' fun e w'' => ∃ p k c' us M, e = .returned (.slice p k c') ∧ OwnMat w'.heap.size w'' (.slice p k c') us M ∧ Shape M b c ∧ w'.grownBy w'' none) := fun r1 r2 r3 w' e1 e2 e3 g => by subst e1 e2 e3; exact MD.out b c _ w' ys HS.out.2.2.1 HS.out.2.2.2.1 HS.out.2.2.2.2.2.1 (VY.out _ (grown_trans GB.out g))
  have M3 : Hid (∀ r1 r2 r3 w', r1 = Value.int .i64 (c : Int) → r2 = Value.int .i64 (d : Int) → r3 = Value.slice pz nz cz → w2.grownBy w' none → Calls Try.prog 24 #[r1, r2, r3] w' fun e w'' => ∃ p k c' us M, e = .returned (.slice p k c') ∧ OwnMat w'.heap.size w'' (.slice p k c') us M ∧ Shape M c d ∧ w'.grownBy w'' none) := fun r1 r2 r3 w' e1 e2 e3 g => by subst e1 e2 e3; exact MD.out c d _ w' zs HS.out.2.2.2.2.1 HS.out.2.2.2.2.2.1 HS.out.2.2.2.2.2.2.2 (VZ.out _ (grown_trans GB.out g))
  clear MD
  go_wp2_with fail
  go_region_held3 (fun w' => w'.cell? ⟨w.heap.size, 4, none⟩ = some (.slice px nx cx) ∧ w'.cell? ⟨w.heap.size, 5, none⟩ = some (.slice py ny cy) ∧ w'.cell? ⟨w.heap.size, 6, none⟩ = some (.slice pz nz cz) ∧ w'.cell? ⟨w.heap.size, 7, none⟩ = some (.slice pr nr cr))
    (first | with_reducible exact BC.out _ GD.out | with_reducible exact BC.out _ G3.out | with_reducible exact BC.out _ G4.out | with_reducible exact BC.out _ G5.out)
    (first
      | (go_at_call_of 24 (Value.slice px nx cx); refine (M1.out _ _ _ _ (by with_reducible rfl) (by with_reducible rfl) (by with_reducible rfl) GD.out).mono ?_; rintro e w3 ⟨p1, k1, c1, u1, X, rfl, om, sh, g⟩; have OX : Hid (∀ w', w3.grownBy w' none → Mat w' (.slice p1 k1 c1) u1 X) := (fun w' g' => om.mat.keep g'); have SX : Hid (Shape X a b) := sh; have G3 : Hid (w2.grownBy w3 none) := grown_trans GD.out g; clear om sh g)
      | (go_at_call_of 24 (Value.slice py ny cy); refine (M2.out _ _ _ _ (by with_reducible rfl) (by with_reducible rfl) (by with_reducible rfl) G3.out).mono ?_; rintro e w4 ⟨p2, k2, c2, u2, Y, rfl, om, sh, g⟩; have OY : Hid (∀ w', w4.grownBy w' none → Mat w' (.slice p2 k2 c2) u2 Y) := (fun w' g' => om.mat.keep g'); have SY : Hid (Shape Y b c) := sh; have G4 : Hid (w2.grownBy w4 none) := grown_trans G3.out g; have H4 : Hid (w3.grownBy w4 none) := g; clear om sh g)
      | (go_at_call_of 24 (Value.slice pz nz cz); refine (M3.out _ _ _ _ (by with_reducible rfl) (by with_reducible rfl) (by with_reducible rfl) G4.out).mono ?_; rintro e w5 ⟨p3, k3, c3, u3, Z, rfl, om, sh, g⟩; have OZ : Hid (∀ w', w5.grownBy w' none → Mat w' (.slice p3 k3 c3) u3 Z) := (fun w' g' => om.mat.keep g'); have SZ : Hid (Shape Z c d) := sh; have G5 : Hid (w2.grownBy w5 none) := grown_trans G4.out g; have H5 : Hid (w3.grownBy w5 none ∧ w4.grownBy w5 none) := ⟨grown_trans H4.out g, g⟩; clear om sh g))
  clear M1 M2 M3 GD G3 G4 H4 VX VY VZ
  have mayOf : ∀ {n m : Nat} {U : List (List Nat)}, Shape U n m → 1 ≤ n → n ≤ 9 → 1 ≤ m → m ≤ 9 → mayB U = true := fun h a1 a2 a3 a4 => may_of h a1 (by omega) a3 (by omega)
  have KX : Hid (∀ w', w5.grownBy w' none → Mat w' (.slice p1 k1 c1) u1 X) := fun w' g => OX.out _ (grown_trans H5.out.1 g)
  have KY : Hid (∀ w', w5.grownBy w' none → Mat w' (.slice p2 k2 c2) u2 Y) := fun w' g => OY.out _ (grown_trans H5.out.2 g)
  have HM : Hid ((mayB X = true ∧ mayB Y = true ∧ mayB Z = true) ∧ (X.getD 0 []).length = b ∧ (Y.getD 0 []).length = c ∧ (Z.getD 0 []).length = d ∧ (∀ i j, at2 X i j < 256) ∧ (∀ i j, at2 Y i j < 256) ∧ ∀ i j, at2 Z i j < 256) :=
    ⟨⟨mayOf SX.out HS.out.1 HS.out.2.1 HS.out.2.2.1 HS.out.2.2.2.1, mayOf SY.out HS.out.2.2.1 HS.out.2.2.2.1 HS.out.2.2.2.2.1 HS.out.2.2.2.2.2.1, mayOf SZ.out HS.out.2.2.2.2.1 HS.out.2.2.2.2.2.1 HS.out.2.2.2.2.2.2.1 HS.out.2.2.2.2.2.2.2⟩,
      SX.out.row 0 (by have := HS.out; omega), SY.out.row 0 (by have := HS.out; omega), SZ.out.row 0 (by have := HS.out; omega), (KX.out _ (World.grownBy.refl _ _)).small, (KY.out _ (World.grownBy.refl _ _)).small, (OZ.out _ (World.grownBy.refl _ _)).small⟩
  have SXY : Hid (Shape (mulList X Y) a c ∧ mayB (mulList X Y) = true) := ⟨mul_shape SX.out SY.out HS.out.2.2.1, mayOf (mul_shape SX.out SY.out HS.out.2.2.1) HS.out.1 HS.out.2.1 HS.out.2.2.2.2.1 HS.out.2.2.2.2.2.1⟩
  have SYZ : Hid (Shape (mulList Y Z) b d ∧ mayB (mulList Y Z) = true) := ⟨mul_shape SY.out SZ.out HS.out.2.2.2.2.1, mayOf (mul_shape SY.out SZ.out HS.out.2.2.2.2.1) HS.out.2.2.1 HS.out.2.2.2.1 HS.out.2.2.2.2.2.2.1 HS.out.2.2.2.2.2.2.2⟩
  have BR : Hid (mulList (mulList X Y) Z = mulList X (mulList Y Z) ∧ Shape (mulList X (mulList Y Z)) a d) := ⟨mul_brackets SX.out SY.out SZ.out HS.out.2.2.1 HS.out.2.2.2.2.1 HM.out.2.2.2.2.1 HM.out.2.2.2.2.2.1 HM.out.2.2.2.2.2.2, mul_shape SX.out SYZ.out.1 HS.out.2.2.1⟩
  clear mayOf OX OY H5
  go_wp2_with fail
  refine (mul_yes (KX.out _ (World.grownBy.refl _ _)) (KY.out _ (World.grownBy.refl _ _)) HM.out.1.1 HM.out.1.2.1 (by rw [HM.out.2.1, SY.out.len])).mono ?_
  rintro e w6 ⟨v, u6', rfl, om, sp, g6⟩
  obtain ⟨p6, k6, c6, rfl, hq⟩ := om.mat.row.opened
  have OXY : Hid (∀ w', w6.grownBy w' none → Mat w' (.slice p6 k6 c6) u6' (mulList X Y)) := fun w' g => om.mat.keep g
  have Z6 : Hid (w5.grownBy w6 none) := g6
  clear om sp g6 hq
  go_wp2_with fail
  refine (mul_yes (KY.out _ Z6.out) (OZ.out _ Z6.out) HM.out.1.2.1 HM.out.1.2.2 (by rw [HM.out.2.2.1, SZ.out.len])).mono ?_
  rintro e w7 ⟨v, u7', rfl, om, sp, g7⟩
  obtain ⟨p7, k7, c7, rfl, hq⟩ := om.mat.row.opened
  have OYZ : Hid (∀ w', w7.grownBy w' none → Mat w' (.slice p7 k7 c7) u7' (mulList Y Z)) := fun w' g => om.mat.keep g
  have Z7 : Hid (w5.grownBy w7 none ∧ w6.grownBy w7 none) := ⟨grown_trans Z6.out g7, g7⟩
  clear om sp g7 hq Z6
  go_wp2_with fail
  refine (mul_yes (OXY.out _ Z7.out.2) (OZ.out _ Z7.out.1) SXY.out.2 HM.out.1.2.2 (by rw [SXY.out.1.row 0 (by have := HS.out; omega), SZ.out.len])).mono ?_
  rintro e w8 ⟨v, u8', rfl, om, sp, g8⟩
  obtain ⟨p8, k8, c8, rfl, hq⟩ := om.mat.row.opened
  rw [BR.out.1] at om
  have hk8 : (k8 : Int) = (a : Int) := by have := om.same; have := BR.out.2.len; omega
  have hk8p : (0 : Int) < (k8 : Int) := by have := HS.out; omega
  have OL : Hid (∀ w', w8.grownBy w' none → Mat w' (.slice p8 k8 c8) u8' (mulList X (mulList Y Z))) := fun w' g => om.mat.keep g
  have Z8 : Hid (w5.grownBy w8 none ∧ w6.grownBy w8 none ∧ w7.grownBy w8 none) := ⟨grown_trans Z7.out.1 g8, grown_trans Z7.out.2 g8, g8⟩
  clear om sp g8 hq Z7
  go_wp2_with fail
  refine (mul_yes (KX.out _ Z8.out.1) (OYZ.out _ Z8.out.2.2) HM.out.1.1 SYZ.out.2 (by rw [HM.out.2.1, SYZ.out.1.len])).mono ?_
  rintro e w9 ⟨v, u9', rfl, om, sp, g9⟩
  obtain ⟨p9, k9, c9, rfl, hq⟩ := om.mat.row.opened
  have Z9 : Hid (w5.grownBy w9 none ∧ w6.grownBy w9 none) := ⟨grown_trans Z8.out.1 g9, grown_trans Z8.out.2.1 g9⟩
  have SM : Hid (Calls Try.prog 20 #[.slice p8 k8 c8, .slice p9 k9 c9] w9 fun e w'' => e = .returned (.bool true) ∧ w'' = w9) := by
    have h := same_any (OL.out _ g9) om.mat
    rw [show decide (mulList X (mulList Y Z) = mulList X (mulList Y Z)) = true from decide_eq_true rfl] at h
    exact h
  have ml := OL.out _ g9
  obtain ⟨b8, o8, rfl, hc8⟩ := ml.row.spot (k := 0) (by have h1 := ml.same; have h2 := BR.out.2.len; have := HS.out; omega)
  obtain ⟨p0, n0, c0, e0, hn0⟩ := (ml.vec 0 (by have h2 := BR.out.2.len; have := HS.out; omega)).opened
  rw [e0] at hc8
  have hcl : w9.cell? ⟨b8, o8, none⟩ = some (.slice p0 n0 c0) := hc8
  have hn0d : ((n0 : Int) != (d : Int)) = false := by have := BR.out.2.row 0 (by have := HS.out; omega); simp; omega
  have hk8n : ((k8 : Int) != (a : Int)) = false := by simp; omega
  have hk8N : 0 < k8 := by omega
  clear om sp g9 hq Z8 hc8 e0 hn0 ml OL OYZ hk8
  go_wp2_with fail
  refine SM.out.mono ?_
  rintro e w10 ⟨rfl, hw⟩
  obtain rfl := hw.symm
  clear hw SM
  have hr7 := (BC.out _ (grown_trans G5.out Z9.out.1))
  have h7 : (w9.alloc (.cells #[.int .i64 0] 3)).cell? ⟨w.heap.size, 7, none⟩ = some (.slice pr nr cr) := (World.grownBy_alloc w9 _ none).cell hr7.2.2.2 (by simp)
  have IO0 : Hid (IOwn w9.heap.size (w9.alloc (.cells #[.int .i64 0] 3)) (.slice (some ⟨w9.heap.size, 0, none⟩) 1 1) [0]) := iown_lit (heap_new _ _ _ rfl) (Nat.le_refl _)
  have ZA : Hid (w9.grownBy (w9.alloc (.cells #[.int .i64 0] 3)) none) := World.grownBy_alloc _ _ none
  have AP : Hid (0 < a) := by have := HS.out; show _ < _; omega
  clear hr7
  go_wp2_with fail
  have hA0 : ¬ a = 0 := by have := AP.out; omega
  have ha9 : a ≤ 9 := HS.out.2.1
  clear hcl hn0d hk8n hk8N h7
  go_loopw [18, 124] (fun tv ti wr => ∃ (k : Nat) (ls : List Int), k ≤ nr ∧ ti = .int .i64 k ∧ Hid (IOwn w9.heap.size wr tv ls) ∧ Hid (1 ≤ ls.length ∧ ls.length ≤ 21 ∧ ls.length ≤ 1 + k ∧ ∀ j, j < ls.length → 0 ≤ ls.getD j 0 ∧ ls.getD j 0 < (a : Int)) ∧ Hid (w9.grownBy wr none)) (fun _ ti _ => nr - (intOf ti).toNat)
  case atStart => exact ⟨0, [0], by omega, rfl, IO0.out, ⟨by simp, by simp, by simp, fun j hj => by
    match j, hj with
    | 0, _ => have := AP.out; simp; omega⟩, ZA.out⟩
  case round =>
    clear IO0 ZA
    obtain ⟨k, ls, hk, rfl, OI, HLS, ZK⟩ := hrel
    by_cases hlt : k < nr
    · have i1 : (k : Int) < (nr : Int) := by omega
      have i3 : (0 : Int) ≤ (k : Int) := by omega
      obtain ⟨br, orr, rfl, hcr, hr256⟩ := (VR.out _ (grown_trans GB.out (grown_trans (grown_trans G5.out Z9.out.1) ZK.out))).spot (k := k) (by have := HR.out; omega)
      by_cases h20 : k < 20
      · have j20 : (k : Int) < 20 := by omega
        have tm : (((rs.getD k 0 : Nat) : Int)).tmod (a : Int) = ((rs.getD k 0 % a : Nat) : Int) := tmod_nat _ _
        have hT : rs.getD k 0 % a < a := Nat.mod_lt _ AP.out
        generalize rs.getD k 0 % a = TT at *
        generalize rs.getD k 0 = tt at *
        have wt : IntKind.i64.wrap ((tt : Int)) = (tt : Int) := IntWalk.i64_in _ (by omega)
        have HT : Hid (TT < a) := hT
        have hsz := ZK.out.size
        have HSZ : Hid (w9.heap.size ≤ wr.heap.size) := hsz
        clear hT hsz
        go_wp2_with (at_builtin; refine wpList_append_int rfl _ _ rfl u18 ⟨wr.heap.size, 0, none⟩ rfl rfl (B := w9.heap.size) (ls := ls) (OI.out.keep (World.grownBy_alloc _ _ none)) (cell_new1 _ _ rfl) (by have := HSZ.out; simp; omega) (by have := HLS.out; omega) ?_; intro v' w11 io g11; have OI' : Hid (IOwn w9.heap.size w11 v' (ls ++ [(TT : Int)])) := io; have GG : Hid (w9.grownBy w11 none) := grown_new (grown_trans ZK.out (World.grownBy_alloc _ _ none)) g11 OI.out.lo; clear io g11)
        have HL' : Hid (1 ≤ (ls ++ [(TT : Int)]).length ∧ (ls ++ [(TT : Int)]).length ≤ 21 ∧ (ls ++ [(TT : Int)]).length ≤ 1 + (k + 1) ∧ ∀ j, j < (ls ++ [(TT : Int)]).length → 0 ≤ (ls ++ [(TT : Int)]).getD j 0 ∧ (ls ++ [(TT : Int)]).getD j 0 < (a : Int)) := by
          have h := HLS.out
          refine ⟨by simp, by simp; omega, by simp; omega, fun j hj => ?_⟩
          by_cases e : j < ls.length
          · rw [show (ls ++ [(TT : Int)]).getD j 0 = ls.getD j 0 from by simp [List.getD, List.getElem?_append, e]]
            exact h.2.2.2 j e
          · have e2 : j = ls.length := by simp at hj; omega
            rw [show (ls ++ [(TT : Int)]).getD j 0 = (TT : Int) from by simp [List.getD, e2]]
            have := HT.out
            omega
        go_roundw
        case rel => exact ⟨k + 1, ls ++ [(TT : Int)], by omega, by go_num, OI'.out, HL'.out, GG.out⟩
        case measure => simp [intOf]; omega
      · have j20 : ¬ (k : Int) < 20 := by omega
        go_wp2_with fail
        go_roundw
        case rel => exact ⟨k + 1, ls, by omega, by go_num, OI.out, ⟨HLS.out.1, HLS.out.2.1, by have := HLS.out; omega, HLS.out.2.2.2⟩, ZK.out⟩
        case measure => simp [intOf]; omega
    · have iv := OI.out.ivec
      obtain ⟨pv, nv, cv, hv, hq⟩ := iv.opened
      subst hv
      have IVK : Hid (∀ w', wr.grownBy w' none → IVec w' (.slice pv nv cv) ls) := fun w' g => iv.keep g
      have RX : Hid (rowsOK X ls ∧ rowsOK (mulList X Y) ls) := ⟨⟨HM.out.1.1, HLS.out.1, by have := HLS.out; omega, fun j hj => by rw [SX.out.len]; exact HLS.out.2.2.2 j hj⟩, ⟨SXY.out.2, HLS.out.1, by have := HLS.out; omega, fun j hj => by rw [SXY.out.1.len]; exact HLS.out.2.2.2 j hj⟩⟩
      have SR : Hid (Shape (rowsList X ls) ls.length b ∧ mayB (rowsList X ls) = true ∧ mulList (rowsList X ls) Y = rowsList (mulList X Y) ls) := by
        have h := rows_shape SX.out HLS.out.2.2.2
        have h1 := HLS.out
        have h2 := HS.out
        exact ⟨h, may_of h (by omega) (by omega) (by omega) (by omega), rows_mul SX.out SY.out (by omega) HLS.out.2.2.2⟩
      clear iv hq OI
      go_wp2_with fail
      refine (rows_yes (KX.out _ (grown_trans Z9.out.1 ZK.out)) (IVK.out _ (World.grownBy.refl _ _)) RX.out.1).mono ?_
      rintro e w11 ⟨p11, n11, c11, u11', rfl, om, g11⟩
      have OS : Hid (Mat w11 (.slice p11 n11 c11) u11' (rowsList X ls)) := om.mat
      have Z11 : Hid (wr.grownBy w11 none) := g11
      clear om g11
      go_wp2_with fail
      refine (mul_yes OS.out (KY.out _ (grown_trans (grown_trans Z9.out.1 ZK.out) Z11.out)) SR.out.2.1 HM.out.1.2.1 (by rw [SR.out.1.row 0 (by have := HLS.out; omega), SY.out.len])).mono ?_
      rintro e w12 ⟨v, u12', rfl, om, sp, g12⟩
      rw [SR.out.2.2] at om
      obtain ⟨p12, n12, c12, rfl, hq⟩ := om.mat.row.opened
      have OP : Hid (∀ w', w12.grownBy w' none → Mat w' (.slice p12 n12 c12) u12' (rowsList (mulList X Y) ls)) := fun w' g => om.mat.keep g
      have Z12 : Hid (wr.grownBy w12 none) := grown_trans Z11.out g12
      clear om sp g12 hq OS Z11
      go_wp2_with fail
      refine (rows_yes (OXY.out _ (grown_trans (grown_trans Z9.out.2 ZK.out) Z12.out)) (IVK.out _ Z12.out) RX.out.2).mono ?_
      rintro e w13 ⟨p13, n13, c13, u13', rfl, om, g13⟩
      have OQ : Hid (∀ w', w13.grownBy w' none → Mat w' (.slice p13 n13 c13) u13' (rowsList (mulList X Y) ls)) := fun w' g => om.mat.keep g
      have Z13 : Hid (wr.grownBy w13 none ∧ w12.grownBy w13 none) := ⟨grown_trans Z12.out g13, g13⟩
      clear om g13 Z12
      go_wp2_with fail
      refine (awake_any _).mono ?_
      rintro e w14 ⟨rfl, g14⟩
      have SF : Hid (Calls Try.prog 20 #[.slice p12 n12 c12, .slice p13 n13 c13] w14 fun e w'' => e = .returned (.bool true) ∧ w'' = w14) := by
        have h := same_any (OP.out _ (grown_trans Z13.out.2 g14)) (OQ.out _ g14)
        rw [show decide (rowsList (mulList X Y) ls = rowsList (mulList X Y) ls) = true from decide_eq_true rfl] at h
        exact h
      have ZF : Hid (w.grownBy w14 none) := grown_trans GB.out (grown_trans (grown_trans G5.out Z9.out.1) (grown_trans ZK.out (grown_trans Z13.out.1 g14)))
      clear g14
      go_wp2_with fail
      refine SF.out.mono ?_
      rintro e w15 ⟨rfl, hw⟩
      obtain rfl := hw.symm
      clear hw
      go_wp2
      go_ret
      exact ⟨rfl, ZF.out⟩
end Go.Proofs.Ytdgdbjkgecfgeaa
