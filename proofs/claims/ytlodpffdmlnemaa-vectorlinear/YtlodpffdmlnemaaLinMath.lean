/- Dot and Combine are linear: plain facts. -/
import Derived.Test.YtlodpffdmlnemaaOut
namespace Go.Proofs.Ytlodpffdmlnemaa

theorem xsum_congr {f g : Nat → Nat} : ∀ {n : Nat}, (∀ j, j < n → f j = g j) → xsum f n = xsum g n
  | 0, _ => rfl
  | n + 1, h => by
    show xsum f n ^^^ f n = xsum g n ^^^ g n
    rw [xsum_congr (fun j hj => h j (by omega)), h n (by omega)]

theorem xor4 (a b c d : Nat) : (a ^^^ b) ^^^ (c ^^^ d) = (a ^^^ c) ^^^ (b ^^^ d) := by
  rw [Nat.xor_assoc, Nat.xor_assoc, ← Nat.xor_assoc b c d, Nat.xor_comm b c, Nat.xor_assoc c b d]

theorem xsum_xor (f g : Nat → Nat) : ∀ n, xsum f n ^^^ xsum g n = xsum (fun j => f j ^^^ g j) n
  | 0 => Nat.xor_self 0
  | n + 1 => by
    show (xsum f n ^^^ f n) ^^^ (xsum g n ^^^ g n) = xsum (fun j => f j ^^^ g j) n ^^^ (f n ^^^ g n)
    rw [xor4, xsum_xor f g n]

theorem xsum_zero : ∀ n, xsum (fun _ => 0) n = 0
  | 0 => rfl
  | n + 1 => by show xsum (fun _ => 0) n ^^^ 0 = 0; rw [xsum_zero n, Nat.xor_self]

theorem xsum_swap (F : Nat → Nat → Nat) (m : Nat) : ∀ n, xsum (fun p => xsum (fun j => F p j) m) n = xsum (fun j => xsum (fun p => F p j) n) m
  | 0 => by
    show 0 = xsum (fun _ => 0) m
    rw [xsum_zero]
  | n + 1 => by
    show xsum (fun p => xsum (fun j => F p j) m) n ^^^ xsum (fun j => F n j) m = _
    rw [xsum_swap F m n, xsum_xor]
    rfl

theorem xsum_mul {f : Nat → Nat} (b : Nat) : ∀ {n : Nat}, (∀ j, j < n → f j < 256) → M.mul (xsum f n) b = xsum (fun j => M.mul (f j) b) n
  | 0, _ => M.zero_mul b
  | n + 1, h => by
    show M.mul (xsum f n ^^^ f n) b = xsum (fun j => M.mul (f j) b) n ^^^ M.mul (f n) b
    rw [M.mul_xor b (xsum_lt fun j hj => h j (by omega)) (h n (by omega)), xsum_mul b (fun j hj => h j (by omega))]

theorem mul_xor_right {a b c : Nat} (ha : a < 256) (hb : b < 256) (hc : c < 256) : M.mul a (b ^^^ c) = M.mul a b ^^^ M.mul a c := by
  rw [M.mul_comm ha (M.xor_lt hb hc), M.mul_xor a hb hc, M.mul_comm hb ha, M.mul_comm hc ha]

/-- Rows that are sums, place by place. -/
theorem comb_sum {C : List Nat} {XA YA SA : List (List Nat)} {K n : Nat} (hC : ∀ x ∈ C, x < 256) (hX : XA.length = K) (hY : YA.length = K) (hS : SA.length = K) (hK : 0 < K)
    (lX : ∀ j, j < K → (XA.getD j []).length = n) (lY : ∀ j, j < K → (YA.getD j []).length = n) (sX : ∀ j, j < K → ∀ x ∈ XA.getD j [], x < 256) (sY : ∀ j, j < K → ∀ x ∈ YA.getD j [], x < 256)
    (eS : ∀ j, j < K → SA.getD j [] = vadd (XA.getD j []) (YA.getD j [])) : vadd (vcomb C XA) (vcomb C YA) = vcomb C SA := by
  have e1 : (vcomb C XA).length = n := by unfold vcomb; rw [List.length_map, List.length_range, lX 0 hK]
  have e2 : (SA.getD 0 []).length = n := by rw [eS 0 hK, vadd_len, lX 0 hK]
  unfold vadd
  rw [e1]
  conv => rhs; unfold vcomb; rw [e2]
  refine List.map_congr_left fun p hp => ?_
  have hp' := List.mem_range.1 hp
  unfold vcomb
  rw [lX 0 hK, lY 0 hK, getD_range _ _ _ hp', getD_range _ _ _ hp']
  unfold vcat
  rw [hX, hY, hS, xsum_xor]
  refine xsum_congr fun j hj => ?_
  rw [eS j hj]
  unfold vadd
  rw [lX j hj, getD_range _ _ _ hp', mul_xor_right (getD_small hC j) (getD_small (sX j hj) p) (getD_small (sY j hj) p)]

/-- The product with a combination is the combination of the products. -/
theorem dot_comb {C V : List Nat} {XA : List (List Nat)} {K n : Nat} (hC : ∀ x ∈ C, x < 256) (hV : ∀ x ∈ V, x < 256) (hX : XA.length = K) (hK : 0 < K)
    (lX : ∀ j, j < K → (XA.getD j []).length = n) (sX : ∀ j, j < K → ∀ x ∈ XA.getD j [], x < 256) :
    vdot (vcomb C XA) V = xsum (fun j => M.mul (vdot (XA.getD j []) V) (C.getD j 0)) K := by
  have e1 : (vcomb C XA).length = n := by unfold vcomb; rw [List.length_map, List.length_range, lX 0 hK]
  unfold vdot
  rw [e1]
  have a1 : xsum (fun k => M.mul ((vcomb C XA).getD k 0) (V.getD k 0)) n = xsum (fun p => xsum (fun j => M.mul (M.mul (C.getD j 0) ((XA.getD j []).getD p 0)) (V.getD p 0)) K) n := by
    refine xsum_congr fun p hp => ?_
    unfold vcomb
    rw [lX 0 hK, getD_range _ _ _ hp]
    unfold vcat
    rw [hX, xsum_mul _ fun j _ => M.mul_lt _ (getD_small hC j)]
  rw [a1, xsum_swap]
  refine xsum_congr fun j hj => ?_
  rw [lX j hj, xsum_mul _ fun p _ => M.mul_lt _ (getD_small (sX j hj) p)]
  refine xsum_congr fun p _ => ?_
  have hc := getD_small hC j
  have hx := getD_small (sX j hj) p
  have hv := getD_small hV p
  rw [M.mul_assoc hc hx hv, M.mul_comm hc (M.mul_lt _ hx)]

theorem dot_one (d c : Nat) : vdot [d] [c] = M.mul d c := by
  show 0 ^^^ M.mul d c = _
  rw [Nat.zero_xor]


/-- What the first loop leaves: a number that no row falls short of. -/
def Fits (m k : Nat) (X Y : List (List Nat)) : Prop := ∀ j, j < k → m ≤ (X.getD j []).length ∧ m ≤ (Y.getD j []).length

def Sums (n k : Nat) (X Y : List (List Nat)) : List (List Nat) := (List.range k).map fun j => vadd ((X.getD j []).take n) ((Y.getD j []).take n)
theorem Sums_more (n k : Nat) (X Y : List (List Nat)) : Sums n k X Y ++ [vadd ((X.getD k []).take n) ((Y.getD k []).take n)] = Sums n (k + 1) X Y := by unfold Sums; rw [List.range_succ]; simp
theorem Sums_get (n k j : Nat) (X Y : List (List Nat)) (h : j < k) : (Sums n k X Y).getD j [] = vadd ((X.getD j []).take n) ((Y.getD j []).take n) := by simp [Sums, List.getD, h]
theorem Sums_len (n k : Nat) (X Y : List (List Nat)) : (Sums n k X Y).length = k := by simp [Sums]

def dotsum (n : Nat) (X : List (List Nat)) (C V : List Nat) (k : Nat) : Nat := xsum (fun j => M.mul (vdot ((X.getD j []).take n) (V.take n)) (C.getD j 0)) k

def Bytes (X : List (List Nat)) : Prop := ∀ j, j < X.length → ∀ x ∈ X.getD j [], x < 256

theorem take_getD (C : List Nat) (K j : Nat) (h : j < K) : (C.take K).getD j 0 = C.getD j 0 := by simp [List.getD, h]

theorem cut_len {n K : Nat} {X : List (List Nat)} (hX : K ≤ X.length) (hn : ∀ j, j < K → n ≤ (X.getD j []).length) (j : Nat) (hj : j < K) : ((cutx n K X).getD j []).length = n := by
  rw [cutx_get _ _ _ _ hj hX, List.length_take]
  have := hn j hj
  omega

theorem cut_small {n K : Nat} {X : List (List Nat)} (hX : K ≤ X.length) (hb : Bytes X) (j : Nat) (hj : j < K) : ∀ x ∈ (cutx n K X).getD j [], x < 256 := by
  rw [cutx_get _ _ _ _ hj hX]
  exact fun x hx => hb j (by omega) x (List.mem_of_mem_take hx)

theorem lin_comb_len {n K : Nat} {X : List (List Nat)} (C : List Nat) (hX : K ≤ X.length) (hK : 0 < K) (hn : ∀ j, j < K → n ≤ (X.getD j []).length) : (vcomb C (cutx n K X)).length = n := by
  unfold vcomb
  rw [List.length_map, List.length_range, cut_len hX hn 0 hK]

theorem lin_fits {n K : Nat} {X : List (List Nat)} (hX : K ≤ X.length) (hn : ∀ j, j < K → n ≤ (X.getD j []).length) : fits (cutx n K X) = true := by
  rw [fits_iff]
  intro k hk
  rw [cutx_len _ _ _ hX] at hk
  rw [cut_len hX hn k hk, cut_len hX hn 0 (by omega)]

theorem lin_fits_sums {n K : Nat} {X Y : List (List Nat)} (hn : ∀ j, j < K → n ≤ (X.getD j []).length) : fits (Sums n K X Y) = true := by
  rw [fits_iff]
  intro k hk
  rw [Sums_len] at hk
  have h1 := hn k hk
  have h2 := hn 0 (by omega)
  rw [Sums_get _ _ _ _ _ hk, Sums_get _ _ _ _ _ (by omega), vadd_len, vadd_len, List.length_take, List.length_take]
  omega

theorem lin_dot {n K : Nat} {X : List (List Nat)} {C V : List Nat} (hX : K ≤ X.length) (hK : 0 < K) (hn : ∀ j, j < K → n ≤ (X.getD j []).length) (hb : Bytes X) (sC : ∀ x ∈ C, x < 256) (sV : ∀ x ∈ V, x < 256) :
    vdot (vcomb (C.take K) (cutx n K X)) (V.take n) = dotsum n X C V K := by
  rw [dot_comb (take_small sC K) (take_small sV n) (cutx_len _ _ _ hX) hK (cut_len hX hn) (cut_small hX hb)]
  exact xsum_congr fun j hj => by rw [cutx_get _ _ _ _ hj hX, take_getD _ _ _ hj]

theorem lin_sum {n K : Nat} {X Y : List (List Nat)} {C : List Nat} (hX : K ≤ X.length) (hY : K ≤ Y.length) (hK : 0 < K) (hn : Fits n K X Y) (hb : Bytes X) (hb' : Bytes Y) (sC : ∀ x ∈ C, x < 256) :
    vadd (vcomb (C.take K) (cutx n K X)) (vcomb (C.take K) (cutx n K Y)) = vcomb (C.take K) (Sums n K X Y) :=
  comb_sum (take_small sC K) (cutx_len _ _ _ hX) (cutx_len _ _ _ hY) (Sums_len _ _ _ _) hK (cut_len hX fun j hj => (hn j hj).1) (cut_len hY fun j hj => (hn j hj).2) (cut_small hX hb) (cut_small hY hb')
    (fun j hj => by rw [Sums_get _ _ _ _ _ hj, cutx_get _ _ _ _ hj hX, cutx_get _ _ _ _ hj hY])

theorem dotsum_lt {n : Nat} {X : List (List Nat)} {C V : List Nat} (hb : Bytes X) (k : Nat) : dotsum n X C V k < 256 :=
  xsum_lt fun j _ => M.mul_lt _ (xsum_lt fun p _ => M.mul_lt _ (getD_small (fun x hx => by
    by_cases hj : j < X.length
    · exact hb j hj x (List.mem_of_mem_take hx)
    · simp [List.getD, hj] at hx) p))

/-- Combine, where the rows fit. -/
theorem combine_fits {w : World} {c r : Value} {cs : List Nat} {vs : List Value} {xss : List (List Nat)} (vc : Vec w c cs) (mr : Mat w r vs xss) (hl : cs.length = xss.length) (hf : fits xss = true) :
    Calls Try.prog 19 #[c, r] w fun e w' => ∃ v, e = .returned (.tuple #[v, .int .i64 0]) ∧ Own w.heap.size w' v (vcomb cs xss) ∧ w.grownBy w' none := by
  have h := combine_all vc mr
  unfold combE combZ at h
  rw [if_pos ⟨hl, hf⟩, if_pos ⟨hl, hf⟩] at h
  exact h
end Go.Proofs.Ytlodpffdmlnemaa
