/- Packed: Leaf, RefMul, MatMath, RefMat, Blank, Ident. -/
import Derived.Test.YtlklmhojadlncaaGreatTk1
set_option maxRecDepth 100000
namespace Go.Proofs.YtlklmhojadlncaaGreat
open Go.RowKit
theorem ret_int {k:IntKind} {a b:Int} (h:a=b):Ending.returned (.int k a)=.returned (.int k b):=by rw[h]
theorem mask_any (x:Int) (w:World) :
 Calls Tryz.prog 112 #[.int .u8 x] w fun e w'=>e=.returned (.int .u8 (-x % 256))/\w'=w:=by
 go_enter Tryz.func112,Tryz.ntmps112
 go_wp2
 go_ret
 exact⟨rfl,rfl⟩
theorem dbl_bits (x:Nat) (h:x < 256):bits .xor .u8 ((x:Int) * 2 % 256) (bits .and .u8 29 (-((x:Int) / 128) % 256))=((M.dbl x:Nat):Int):=by
 have e:(x:Int) * 2 % 256=((2 * x % 256:Nat):Int):=by omega
 rw[e]
 by_cases hx:128<=x
 ·have:-((x:Int) / 128) % 256=((255:Nat):Int):=by omega
  rw[this,show (29:Int)=((29:Nat):Int) from rfl,u8_and_nat 29 255 (by omega) (by omega),u8_xor_nat _ _ (by omega) (by decide)]
  simp[M.dbl,hx]
 ·have:-((x:Int) / 128) % 256=((0:Nat):Int):=by omega
  rw[this,show (29:Int)=((29:Nat):Int) from rfl,u8_and_nat 29 0 (by omega) (by omega),u8_xor_nat _ _ (by omega) (by decide)]
  simp[M.dbl,hx]
theorem double_any (x:Int) (w:World) (h0:0<=x) (h1:x < 256) :
 Calls Tryz.prog 113 #[.int .u8 x] w fun e w'=>e=.returned (.int .u8 ((M.dbl x.toNat:Nat):Int))/\w'=w:=by
 go_enter Tryz.func113,Tryz.ntmps113
 go_wp2_with (go_at_call 112;refine (mask_any _ _).mono ?_;rintro e w' ⟨rfl,rfl⟩)
 go_ret
 obtain⟨n,rfl⟩:=Int.eq_ofNat_of_zero_le h0
 exact⟨ret_int (dbl_bits n (by omega)),rfl⟩
theorem add_any (x y:Int) (w:World) (h0:0<=x) (h1:x < 256) (h2:0<=y) (h3:y < 256) :
 Calls Tryz.prog 94 #[.int .u8 x,.int .u8 y] w fun e w'=>e=.returned (.int .u8 ((x.toNat ^^^ y.toNat:Nat):Int))/\w'=w:=by
 go_enter Tryz.func94,Tryz.ntmps94
 go_wp2
 go_ret
 exact⟨ret_int (u8_xor _ _ h0 h1 h2 h3),rfl⟩
theorem round_any (x:Int) (w:World) :
 Calls Tryz.prog 104 #[.int .i64 x] w fun e w'=>e=.returned (.int .i64 (x % 255))/\w'=w:=by
 go_enter Tryz.func104,Tryz.ntmps104
 have hb:-255 < x.tmod 255/\x.tmod 255 < 255:=by
  have:=Int.tmod_lt_of_pos x (b:=255) (by decide)
  have:=Int.lt_tmod_of_pos x (b:=255) (by decide)
  omega
 have he:x.tmod 255=x % 255 - (if 0<=x\/(255:Int) ∣ x then 0 else 255):=by
  rw[Int.tmod_eq_emod];split <;> simp
 have HB:Hid (-255 < x.tmod 255/\x.tmod 255 < 255):=hb
 have HE:Hid (x.tmod 255=x % 255 - (if 0<=x\/(255:Int) ∣ x then 0 else 255)):=he
 clear hb he
 go_wp2
 all_goals
  go_ret
  refine⟨ret_int ?_,rfl⟩
 ·rw[show wrap64 (x.tmod 255+255)=x.tmod 255+255 from by have:=HB.out;unfold wrap64;omega]
  have h:=HE.out
  rename_i h1
  split at h <;> omega
 ·have h:=HE.out
  rename_i h1
  split at h <;> omega
theorem and_one (b:Nat) (h:b < 256):bits .and .u8 (b:Int) 1=((b % 2:Nat):Int):=by
 rw[show (1:Int)=((1:Nat):Int) from rfl,u8_and_nat b 1 h (by omega),Nat.and_one_is_mod]
theorem mul_step (s a b:Nat) (hs:s < 256) (ha:a < 256) :
 bits .xor .u8 (s:Int) (bits .and .u8 (a:Int) (-((b % 2:Nat):Int) % 256))=((s ^^^ (if b % 2=1 then a else 0):Nat):Int):=by
 rcases Nat.mod_two_eq_zero_or_one b with h | h
 ·rw[h,show -((0:Nat):Int) % 256=((0:Nat):Int) from rfl,u8_and_nat a 0 ha (by omega),u8_xor_nat _ _ hs (by simp)]
  simp
 ·rw[h,show -((1:Nat):Int) % 256=((255:Nat):Int) from rfl,u8_and_nat a 255 ha (by omega)]
  have:a &&& 255=a:=by
   have:=Nat.and_two_pow_sub_one_eq_mod a 8
   simpa [Nat.mod_eq_of_lt ha] using this
  rw[this,u8_xor_nat _ _ hs ha]
  simp
set_option maxHeartbeats 800000 in
theorem mul_any (x y:Int) (w:World) (h0:0<=x) (h1:x < 256) (h2:0<=y) (h3:y < 256) :
 Calls Tryz.prog 102 #[.int .u8 x,.int .u8 y] w fun e w'=>e=.returned (.int .u8 ((M.mul x.toNat y.toNat:Nat):Int))/\w'=w:=by
 go_enter Tryz.func102,Tryz.ntmps102
 go_wp2
 go_loop [0,1,5,6] (fun ta tb ts ti=>∃ k s a b:Nat,k<=8/\s < 256/\a < 256/\b < 256/\Hid (M.mulGo (8 - k) s a b=M.mul x.toNat y.toNat)/\ta=.int .u8 a/\tb=.int .u8 b/\ts=.int .u8 s/\ti=.int .i64 k) (fun _ _ _ ti=>8 - (intOf ti).toNat)
 case atStart =>
  obtain⟨m,rfl⟩:=Int.eq_ofNat_of_zero_le h0
  obtain⟨n,rfl⟩:=Int.eq_ofNat_of_zero_le h2
  exact⟨0,0,m,n,by omega,by omega,by omega,by omega,rfl,rfl,rfl,rfl,rfl⟩
 case round =>
  obtain⟨k,s,a,b,hk,hs,ha,hb,HM,rfl,rfl,rfl,rfl⟩:=hrel
  by_cases hlt:k < 8
  ·have hb1:=and_one b hb
   go_wp2_with (first | (go_at_call 112;refine (mask_any _ _).mono ?_;rintro e w' ⟨rfl,rfl⟩) | (go_at_call 113;refine (double_any _ _ (by omega) (by omega)).mono ?_;rintro e w' ⟨rfl,rfl⟩))
   go_round
   case rel =>
    refine⟨k+1,s ^^^ (if b % 2=1 then a else 0),M.dbl a,b / 2,by omega,?_,M.dbl_lt a,by omega,?_,rfl,by go_num,?_,by go_num⟩
    ·exact Nat.xor_lt_two_pow (n:=8) (by omega) (by split <;> omega)
    ·have h:=HM.out
     rw[show 8 - k=(8 - (k+1))+1 from by omega] at h
     exact h
    ·have h:=mul_step s a b hs ha
     rw[show (((b % 2:Nat):Int))=(b:Int) % 2 from by omega] at h
     rw[h]
   case measure=>simp[intOf];omega
  ·go_wp2
   go_ret
   have h:=HM.out
   rw[show 8 - k=0 from by omega] at h
   exact⟨ret_int (by rw[<- h];rfl),rfl⟩
theorem wrap_small (n:Int) (h0:0<=n) (h1:n < 32768):wrap64 n=n:=by unfold wrap64;omega
end Go.Proofs.YtlklmhojadlncaaGreat
namespace Go.Proofs.YtlklmhojadlncaaGreat.MX
open Go.Proofs.YtlklmhojadlncaaGreat
def xs (f:Nat->Nat):Nat->Nat
 | 0=>0
 | k+1=>xs f k ^^^ f k
theorem xs_lt {f:Nat->Nat}:∀ {n:Nat},(∀ j,j < n->f j < 256)->xs f n < 256
 | 0,_=>by simp[xs]
 | n+1,h=>M.xor_lt (xs_lt fun j hj=>h j (by omega)) (h n (by omega))
theorem xs_congr {f g:Nat->Nat}:∀ {n:Nat},(∀ j,j < n->f j=g j)->xs f n=xs g n
 | 0,_=>rfl
 | n+1,h=>by
   show xs f n ^^^ f n=xs g n ^^^ g n
   rw[xs_congr (fun j hj=>h j (by omega)),h n (by omega)]
theorem xor4 (a b c d:Nat):(a ^^^ b) ^^^ (c ^^^ d)=(a ^^^ c) ^^^ (b ^^^ d):=by
 rw[Nat.xor_assoc,Nat.xor_assoc,<- Nat.xor_assoc b c d,Nat.xor_comm b c,Nat.xor_assoc c b d]
theorem xs_xor (f g:Nat->Nat):∀ n,xs f n ^^^ xs g n=xs (fun j=>f j ^^^ g j) n
 | 0=>Nat.xor_self 0
 | n+1=>by
   show (xs f n ^^^ f n) ^^^ (xs g n ^^^ g n)=xs (fun j=>f j ^^^ g j) n ^^^ (f n ^^^ g n)
   rw[xor4,xs_xor f g n]
theorem xs_zero:∀ n,xs (fun _=>0) n=0
 | 0=>rfl
 | n+1=>by show xs (fun _=>0) n ^^^ 0=0;rw[xs_zero n,Nat.xor_self]
theorem xs_swap (F:Nat->Nat->Nat) (m:Nat):∀ n,xs (fun p=>xs (fun j=>F p j) m) n=xs (fun j=>xs (fun p=>F p j) n) m
 | 0=>by
   show 0=xs (fun _=>0) m
   rw[xs_zero]
 | n+1=>by
   show xs (fun p=>xs (fun j=>F p j) m) n ^^^ xs (fun j=>F n j) m=_
   rw[xs_swap F m n,xs_xor]
   rfl
theorem xs_mul {f:Nat->Nat} (b:Nat):∀ {n:Nat},(∀ j,j < n->f j < 256)->M.mul (xs f n) b=xs (fun j=>M.mul (f j) b) n
 | 0,_=>M.zero_mul b
 | n+1,h=>by
   show M.mul (xs f n ^^^ f n) b=xs (fun j=>M.mul (f j) b) n ^^^ M.mul (f n) b
   rw[M.mul_xor b (xs_lt fun j hj=>h j (by omega)) (h n (by omega)),xs_mul b (fun j hj=>h j (by omega))]
theorem mul_xor_right {a b c:Nat} (ha:a < 256) (hb:b < 256) (hc:c < 256):M.mul a (b ^^^ c)=M.mul a b ^^^ M.mul a c:=by
 rw[M.mul_comm ha (M.xor_lt hb hc),M.mul_xor a hb hc,M.mul_comm hb ha,M.mul_comm hc ha]
theorem mul_xs {f:Nat->Nat} {a:Nat} (ha:a < 256) {n:Nat} (h:∀ j,j < n->f j < 256):M.mul a (xs f n)=xs (fun j=>M.mul a (f j)) n:=by
 rw[M.mul_comm ha (xs_lt h),xs_mul a h]
 exact xs_congr fun j hj=>M.mul_comm (h j hj) ha
theorem xs_one {f:Nat->Nat} {p:Nat}:∀ {n:Nat},p < n->(∀ j,j < n->j ≠ p->f j=0)->xs f n=f p
 | n+1,hp,h=>by
   show xs f n ^^^ f n=f p
   by_cases e:p=n
   ·subst e
    have:xs f p=xs (fun _=>0) p:=xs_congr fun j hj=>h j (by omega) (by omega)
    rw[this,xs_zero,Nat.zero_xor]
   ·rw[xs_one (by omega) (fun j hj hne=>h j (by omega) hne),h n (by omega) (fun e'=>e e'.symm),Nat.xor_zero]
def Small (n m:Nat) (a:Nat->Nat->Nat):Prop:=∀ i j,i < n->j < m->a i j < 256
def Eq2 (n m:Nat) (a b:Nat->Nat->Nat):Prop:=∀ i j,i < n->j < m->a i j=b i j
def mm (k:Nat) (a b:Nat->Nat->Nat):Nat->Nat->Nat:=fun i j=>xs (fun t=>M.mul (a i t) (b t j)) k
def one:Nat->Nat->Nat:=fun i j=>if i=j then 1 else 0
theorem Eq2.refl (n m:Nat) (a:Nat->Nat->Nat):Eq2 n m a a:=fun _ _ _ _=>rfl
theorem Eq2.symm {n m:Nat} {a b:Nat->Nat->Nat} (h:Eq2 n m a b):Eq2 n m b a:=fun i j hi hj=>(h i j hi hj).symm
theorem Eq2.trans {n m:Nat} {a b c:Nat->Nat->Nat} (h:Eq2 n m a b) (k:Eq2 n m b c):Eq2 n m a c:=fun i j hi hj=>(h i j hi hj).trans (k i j hi hj)
theorem one_small (n m:Nat):Small n m one:=fun i j _ _=>by unfold one;split <;> decide
theorem mm_small {n k m:Nat} {a:Nat->Nat->Nat} (b:Nat->Nat->Nat) (ha:Small n k a):Small n m (mm k a b):=fun i _ hi _=>xs_lt fun t ht=>M.mul_lt _ (ha i t hi ht)
theorem mm_congr {n k m:Nat} {a a' b b':Nat->Nat->Nat} (ha:Eq2 n k a a') (hb:Eq2 k m b b'):Eq2 n m (mm k a b) (mm k a' b'):=fun i j hi hj =>
 xs_congr fun t ht=>by rw[ha i t hi ht,hb t j ht hj]
theorem mm_assoc {n k l m:Nat} {a b c:Nat->Nat->Nat} (ha:Small n k a) (hb:Small k l b) (hc:Small l m c):Eq2 n m (mm l (mm k a b) c) (mm k a (mm l b c)):=fun i j hi hj=>by
 show xs (fun t=>M.mul (xs (fun s=>M.mul (a i s) (b s t)) k) (c t j)) l=xs (fun s=>M.mul (a i s) (xs (fun t=>M.mul (b s t) (c t j)) l)) k
 have e1:xs (fun t=>M.mul (xs (fun s=>M.mul (a i s) (b s t)) k) (c t j)) l=xs (fun t=>xs (fun s=>M.mul (M.mul (a i s) (b s t)) (c t j)) k) l :=
  xs_congr fun t ht=>xs_mul _ fun s hs=>M.mul_lt _ (ha i s hi hs)
 rw[e1,xs_swap]
 refine xs_congr fun s hs=>?_
 rw[mul_xs (ha i s hi hs) fun t ht=>M.mul_lt _ (hb s t hs ht)]
 exact xs_congr fun t ht=>M.mul_assoc (ha i s hi hs) (hb s t hs ht) (hc t j ht hj)
theorem mm_one {n k:Nat} {a:Nat->Nat->Nat} (ha:Small n k a):Eq2 n k (mm k a one) a:=fun i j hi hj=>by
 show xs (fun t=>M.mul (a i t) (one t j)) k=a i j
 rw[xs_one hj fun t _ hne=>by unfold one;rw[if_neg hne,M.mul_zero]]
 unfold one
 rw[if_pos rfl,M.mul_one (ha i j hi hj)]
theorem one_mm {n k:Nat} {a:Nat->Nat->Nat} (ha:Small n k a):Eq2 n k (mm n one a) a:=fun i j hi hj=>by
 show xs (fun t=>M.mul (one i t) (a t j)) n=a i j
 rw[xs_one hi fun t _ hne=>by unfold one;rw[if_neg (fun e=>hne e.symm),M.zero_mul]]
 unfold one
 rw[if_pos rfl,M.one_mul (ha i j hi hj)]
structure Inv (n:Nat) (a b:Nat->Nat->Nat):Prop where
 sa:Small n n a
 sb:Small n n b
 l:Eq2 n n (mm n b a) one
 r:Eq2 n n (mm n a b) one
theorem Inv.symm {n:Nat} {a b:Nat->Nat->Nat} (h:Inv n a b):Inv n b a:=⟨h.sb,h.sa,h.r,h.l⟩
theorem Inv.one (n:Nat):Inv n MX.one MX.one:=⟨one_small n n,one_small n n,mm_one (one_small n n),mm_one (one_small n n)⟩
theorem Inv.mul {n:Nat} {a b c d:Nat->Nat->Nat} (h:Inv n a b) (k:Inv n c d):Inv n (mm n a c) (mm n d b):=by
 have key:∀ {a b c d:Nat->Nat->Nat},Inv n a b->Inv n c d->Eq2 n n (mm n (mm n d b) (mm n a c)) MX.one:=fun {a b c d} h k=>by
  refine (mm_assoc k.sb h.sb (mm_small c h.sa)).trans ?_
  have e1:Eq2 n n (mm n b (mm n a c)) c:=((mm_assoc h.sb h.sa k.sa).symm.trans (mm_congr h.l (Eq2.refl n n c))).trans (one_mm k.sa)
  exact (mm_congr (Eq2.refl n n d) e1).trans k.l
 exact⟨mm_small c h.sa,mm_small b k.sb,key h k,key k.symm h.symm⟩
structure Struck (n:Nat) (m a b:Nat->Nat->Nat):Prop where
 sm:Small n n m
 sa:Small n n a
 eq:Eq2 n n (mm n b m) a
 inv:∃ c,Inv n b c
theorem Struck.start {n:Nat} {m:Nat->Nat->Nat} (h:Small n n m):Struck n m m MX.one:=⟨h,h,one_mm h,MX.one,Inv.one n⟩
theorem Struck.step {n:Nat} {m a b a' b' e f:Nat->Nat->Nat} (h:Struck n m a b) (he:Inv n e f) (ha:Eq2 n n a' (mm n e a)) (hb:Eq2 n n b' (mm n e b)):Struck n m a' b':=by
 obtain⟨sm,sa,eq,c,hi⟩:=h
 have sb':Small n n b':=fun i j hi' hj=>by rw[hb i j hi' hj];exact mm_small b he.sa i j hi' hj
 have hi':=he.mul hi
 refine⟨sm,fun i j hi' hj=>by rw[ha i j hi' hj];exact mm_small a he.sa i j hi' hj,?_,mm n c f,⟨sb',hi'.sb,?_,?_⟩⟩
 ·exact (((mm_congr hb (Eq2.refl n n m)).trans (mm_assoc he.sa hi.sa sm)).trans (mm_congr (Eq2.refl n n e) eq)).trans ha.symm
 ·exact (mm_congr (Eq2.refl n n _) hb).trans hi'.l
 ·exact (mm_congr hb (Eq2.refl n n _)).trans hi'.r
theorem Struck.done {n:Nat} {m a b:Nat->Nat->Nat} (h:Struck n m a b) (ha:Eq2 n n a MX.one):Inv n m b:=by
 obtain⟨sm,sa,eq,c,hi⟩:=h
 have l:Eq2 n n (mm n b m) MX.one:=eq.trans ha
 have e:Eq2 n n m c:=by
  have e1:Eq2 n n (mm n (mm n c b) m) m:=(mm_congr hi.l (Eq2.refl n n m)).trans (one_mm sm)
  have e2:Eq2 n n (mm n c (mm n b m)) c:=(mm_congr (Eq2.refl n n c) l).trans (mm_one hi.sb)
  exact (e1.symm.trans (mm_assoc hi.sb hi.sa sm)).trans e2
 exact⟨sm,hi.sa,l,(mm_congr e (Eq2.refl n n b)).trans hi.l⟩
theorem Struck.none {n:Nat} {m a b:Nat->Nat->Nat} (h:Struck n m a b) {i:Nat} (hi:i < n) (low:∀ k j,k < n->j < i->a k j=MX.one k j) (nought:∀ k,i<=k->k < n->a k i=0) :
 ¬ ∃ c,Small n n c/\Eq2 n n (mm n c m) MX.one:=by
 rintro ⟨c,sc,hc⟩
 obtain⟨sm,sa,eq,d,hb⟩:=h
 -- a x=0 for x=(a 0 i,..,a (i-1) i,1,0,..)
 let x:Nat->Nat->Nat:=fun j _=>if j < i then a j i else if j=i then 1 else 0
 have sx:Small n 1 x:=fun j _ hj _=>by
  show (if j < i then a j i else if j=i then 1 else 0) < 256
  split
  ·exact sa j i hj hi
  ·split <;> decide
 have ax:Eq2 n 1 (mm n a x) (fun _ _=>0):=fun k j hk hj=>by
  show xs (fun t=>M.mul (a k t) (x t j)) n=0
  have split1:xs (fun t=>M.mul (a k t) (x t j)) n=xs (fun t=>(if t < i then M.mul (MX.one k t) (a t i) else 0) ^^^ (if t=i then a k i else 0)) n:=xs_congr fun t ht=>by
   show M.mul (a k t) (if t < i then a t i else if t=i then 1 else 0)=_
   by_cases h1:t < i
   ·have h2:¬ t=i:=by omega
    simp only[if_pos h1,if_neg h2,Nat.xor_zero]
    rw[low k t hk h1]
   ·by_cases h2:t=i
    ·subst h2
     simp only[if_neg h1,if_true,Nat.zero_xor]
     exact M.mul_one (sa k t hk ht)
    ·simp only[if_neg h1,if_neg h2,Nat.xor_zero]
     exact M.mul_zero _
  rw[split1,<- xs_xor (fun t=>if t < i then M.mul (MX.one k t) (a t i) else 0) (fun t=>if t=i then a k i else 0)]
  have e2:xs (fun t=>if t=i then a k i else 0) n=a k i:=by
   rw[xs_one hi fun t _ hne=>if_neg hne,if_pos rfl]
  rw[e2]
  by_cases hki:k < i
  ·have e1:xs (fun t=>if t < i then M.mul (MX.one k t) (a t i) else 0) n=a k i:=by
    rw[xs_one hk fun t _ hne=>by
     by_cases h1:t < i
     ·rw[if_pos h1];unfold MX.one;rw[if_neg (fun e=>hne e.symm),M.zero_mul]
     ·exact if_neg h1]
    rw[if_pos hki]
    unfold MX.one
    rw[if_pos rfl,M.one_mul (sa k i hk hi)]
   rw[e1,Nat.xor_self]
  ·have e1:xs (fun t=>if t < i then M.mul (MX.one k t) (a t i) else 0) n=xs (fun _=>0) n:=xs_congr fun t _=>by
    by_cases h1:t < i
    ·rw[if_pos h1];unfold MX.one;rw[if_neg (by omega),M.zero_mul]
    ·exact if_neg h1
   rw[e1,xs_zero,nought k (by omega) hk,Nat.xor_self]
 -- so m x=0,so x=c m x=0
 have mx:Eq2 n 1 (mm n m x) (fun _ _=>0):=by
  have e1:Eq2 n n (mm n d a) m:=((mm_congr (Eq2.refl n n d) eq.symm).trans (mm_assoc hb.sb hb.sa sm).symm).trans ((mm_congr hb.l (Eq2.refl n n m)).trans (one_mm sm))
  have e2:Eq2 n 1 (mm n m x) (mm n d (mm n a x)):=(mm_congr e1.symm (Eq2.refl n 1 x)).trans (mm_assoc hb.sb sa sx)
  refine e2.trans ((mm_congr (Eq2.refl n n d) ax).trans fun k j hk hj=>?_)
  show xs (fun t=>M.mul (d k t) 0) n=0
  rw[xs_congr (g:=fun _=>0) fun t _=>M.mul_zero _,xs_zero]
 have cx:Eq2 n 1 x (fun _ _=>0):=by
  have e1:Eq2 n 1 (mm n (mm n c m) x) x:=(mm_congr hc (Eq2.refl n 1 x)).trans (one_mm sx)
  refine (e1.symm.trans (mm_assoc sc sm sx)).trans ((mm_congr (Eq2.refl n n c) mx).trans fun k j hk hj=>?_)
  show xs (fun t=>M.mul (c k t) 0) n=0
  rw[xs_congr (g:=fun _=>0) fun t _=>M.mul_zero _,xs_zero]
 have:=cx i 0 hi (by decide)
 simp[x] at this
def strikeE (k s y:Nat):Nat->Nat->Nat:=fun i j=>if i=j then 1 else if i=k/\j=s then y else 0
theorem strike_mm {n k s y:Nat} {a:Nat->Nat->Nat} {m:Nat} (ha:Small n m a) (hk:k < n) (hs:s < n) (hks:k ≠ s) :
 Eq2 n m (mm n (strikeE k s y) a) (fun i j=>if i=k then a k j ^^^ M.mul y (a s j) else a i j):=fun i j hi hj=>by
 show xs (fun t=>M.mul (strikeE k s y i t) (a t j)) n=_
 by_cases e:i=k
 ·subst e
  simp only[if_true]
  have e1:xs (fun t=>M.mul (strikeE i s y i t) (a t j)) n=xs (fun t=>(if t=i then a i j else 0) ^^^ (if t=s then M.mul y (a s j) else 0)) n:=xs_congr fun t ht=>by
   unfold strikeE
   by_cases h1:t=i
   ·subst h1
    simp only[if_true,if_neg hks,Nat.xor_zero]
    exact M.one_mul (ha t j ht hj)
   ·have h1':¬ i=t:=fun e=>h1 e.symm
    by_cases h2:t=s
    ·subst h2
     simp only[if_neg h1,if_neg h1',true_and,if_true,Nat.zero_xor]
    ·simp only[if_neg h1,if_neg h1',h2,and_false,if_false,Nat.xor_zero]
     exact M.zero_mul _
  rw[e1,<- xs_xor (fun t=>if t=i then a i j else 0) (fun t=>if t=s then M.mul y (a s j) else 0),xs_one hi fun t _ hne=>if_neg hne,xs_one hs fun t _ hne=>if_neg hne,if_pos rfl,if_pos rfl]
 ·simp only[if_neg e]
  rw[xs_one hi fun t _ hne=>by unfold strikeE;rw[if_neg (fun e'=>hne e'.symm),if_neg (fun h=>e h.1),M.zero_mul]]
  unfold strikeE
  rw[if_pos rfl,M.one_mul (ha i j hi hj)]
theorem strike_small {n k s y:Nat} (hy:y < 256):Small n n (strikeE k s y):=fun i j _ _=>by
 unfold strikeE
 split
 ·decide
 ·split
  ·exact hy
  ·decide
theorem strike_inv {n k s y:Nat} (hy:y < 256) (hk:k < n) (hs:s < n) (hks:k ≠ s):Inv n (strikeE k s y) (strikeE k s y):=by
 have h:Eq2 n n (mm n (strikeE k s y) (strikeE k s y)) MX.one:=(strike_mm (strike_small hy) hk hs hks).trans fun i j hi hj=>by
  by_cases e:i=k
  ·subst e
   simp only[if_true]
   unfold strikeE MX.one
   by_cases h1:i=j
   ·subst h1
    have h2:¬ s=i:=fun e=>hks e.symm
    simp only[if_true,if_neg h2]
    rw[if_neg (fun h=>h2 h.1),M.mul_zero,Nat.xor_zero]
   ·by_cases h2:s=j
    ·subst h2
     have h3:¬ s=i:=fun e=>hks e.symm
     simp only[if_neg h1,and_true,if_true]
     rw[M.mul_one hy,Nat.xor_self]
    ·have h3:¬ j=s:=fun e=>h2 e.symm
     have h4:¬ s=i:=fun e=>hks e.symm
     simp only[if_neg h1,if_neg h2,h3,h4,and_false,if_false,Nat.zero_xor]
     exact M.mul_zero y
  ·simp only[if_neg e]
   unfold strikeE MX.one
   by_cases h1:i=j
   ·simp only[if_pos h1]
   ·simp only[if_neg h1,e,false_and,if_false]
 exact⟨strike_small hy,strike_small hy,h,h⟩
def scaleE (k x:Nat):Nat->Nat->Nat:=fun i j=>if i=j then (if i=k then x else 1) else 0
theorem scale_mm {n k x:Nat} {a:Nat->Nat->Nat} {m:Nat} (ha:Small n m a):Eq2 n m (mm n (scaleE k x) a) (fun i j=>if i=k then M.mul x (a k j) else a i j):=fun i j hi hj=>by
 show xs (fun t=>M.mul (scaleE k x i t) (a t j)) n=_
 rw[xs_one hi fun t _ hne=>by unfold scaleE;rw[if_neg (fun e'=>hne e'.symm),M.zero_mul]]
 unfold scaleE
 rw[if_pos rfl]
 by_cases e:i=k
 ·subst e;simp only[if_true]
 ·simp only[if_neg e]
  exact M.one_mul (ha i j hi hj)
theorem scale_small {n k x:Nat} (hx:x < 256):Small n n (scaleE k x):=fun i j _ _=>by
 unfold scaleE
 split
 ·split
  ·exact hx
  ·decide
 ·decide
theorem scale_inv {n k x y:Nat} (hx:x < 256) (hy:y < 256) (h:M.mul x y=1):Inv n (scaleE k x) (scaleE k y):=by
 have key:∀ {x y:Nat},x < 256->y < 256->M.mul x y=1->Eq2 n n (mm n (scaleE k x) (scaleE k y)) MX.one:=fun {x y} hx hy h=>(scale_mm (scale_small hy)).trans fun i j hi hj=>by
  unfold scaleE MX.one
  by_cases e:i=k
  ·subst e
   by_cases h1:i=j
   ·subst h1;simp only[if_true];exact h
   ·simp only[if_true,if_neg h1];exact M.mul_zero x
  ·by_cases h1:i=j
   ·simp only[if_neg e,if_pos h1]
   ·simp only[if_neg e,if_neg h1]
 exact⟨scale_small hx,scale_small hy,key hy hx (by rw[M.mul_comm hy hx];exact h),key hx hy h⟩
def swapE (k s:Nat):Nat->Nat->Nat:=fun i j=>if j=(if i=k then s else if i=s then k else i) then 1 else 0
theorem swap_mm {n k s:Nat} {a:Nat->Nat->Nat} {m:Nat} (ha:Small n m a) (hk:k < n) (hs:s < n) :
 Eq2 n m (mm n (swapE k s) a) (fun i j=>a (if i=k then s else if i=s then k else i) j):=fun i j hi hj=>by
 have hp:(if i=k then s else if i=s then k else i) < n:=by
  split
  ·exact hs
  ·split
   ·exact hk
   ·exact hi
 show xs (fun t=>M.mul (swapE k s i t) (a t j)) n=_
 rw[xs_one hp fun t _ hne=>by unfold swapE;rw[if_neg hne,M.zero_mul]]
 unfold swapE
 rw[if_pos rfl,M.one_mul (ha _ j hp hj)]
theorem swap_small {n k s:Nat}:Small n n (swapE k s):=fun i j _ _=>by
 unfold swapE
 by_cases h:j=(if i=k then s else if i=s then k else i)
 ·rw[if_pos h];decide
 ·rw[if_neg h];decide
theorem swap_inv {n k s:Nat} (hk:k < n) (hs:s < n):Inv n (swapE k s) (swapE k s):=by
 have h:Eq2 n n (mm n (swapE k s) (swapE k s)) MX.one:=(swap_mm swap_small hk hs).trans fun i j hi hj=>by
  unfold swapE MX.one
  by_cases h1:i=k
  ·by_cases h2:s=k
   ·subst h2;subst h1;simp[eq_comm]
   ·subst h1;simp[h2,eq_comm]
  ·by_cases h2:i=s
   ·subst h2;simp[h1,eq_comm]
   ·simp[h1,h2,eq_comm]
 exact⟨swap_small,swap_small,h,h⟩
def Low (n i:Nat) (a:Nat->Nat->Nat):Prop:=∀ k j,k < n->j < i->a k j=MX.one k j
theorem Low.zero (n:Nat) (a:Nat->Nat->Nat):Low n 0 a:=fun _ _ _ h=>by omega
theorem Low.nought {n i s j:Nat} {a:Nat->Nat->Nat} (h:Low n i a) (hs:s < n) (his:i<=s) (hj:j < i):a s j=0:=by
 rw[h s j hs hj]
 unfold MX.one
 rw[if_neg (by omega)]
theorem Low.strike {n i k s y:Nat} {a:Nat->Nat->Nat} (h:Low n i a) (hs:s < n) (his:i<=s):Low n i (fun r j=>if r=k then a k j ^^^ M.mul y (a s j) else a r j):=fun r j hr hj=>by
 by_cases e:r=k
 ·subst e
  simp only[if_true]
  rw[h.nought hs his hj,M.mul_zero,Nat.xor_zero]
  exact h r j hr hj
 ·simp only[if_neg e]
  exact h r j hr hj
theorem Low.scale {n i k x:Nat} {a:Nat->Nat->Nat} (h:Low n i a) (hik:i<=k):Low n i (fun r j=>if r=k then M.mul x (a k j) else a r j):=fun r j hr hj=>by
 by_cases e:r=k
 ·subst e
  simp only[if_true]
  rw[h.nought hr hik hj,M.mul_zero]
  unfold MX.one
  rw[if_neg (by omega)]
 ·simp only[if_neg e]
  exact h r j hr hj
theorem Low.swap {n i k s:Nat} {a:Nat->Nat->Nat} (h:Low n i a) (hk:k < n) (hs:s < n) (hik:i<=k) (his:i<=s):Low n i (fun r j=>a (if r=k then s else if r=s then k else r) j):=fun r j hr hj=>by
 have one0:∀ t,i<=t->MX.one t j=0:=fun t ht=>by unfold MX.one;rw[if_neg (by omega)]
 by_cases e:r=k
 ·subst e
  simp only[if_true]
  rw[h.nought hs his hj,one0 r hik]
 ·by_cases e2:r=s
  ·subst e2
   simp only[if_neg e,if_true]
   rw[h.nought hk hik hj,one0 r his]
  ·simp only[if_neg e,if_neg e2]
   exact h r j hr hj
theorem Low.next {n i:Nat} {a:Nat->Nat->Nat} (h:Low n i a) (hc:∀ k,k < n->a k i=MX.one k i):Low n (i+1) a:=fun k j hk hj=>by
 by_cases e:j=i
 ·subst e;exact hc k hk
 ·exact h k j hk (by omega)
theorem Low.all {n:Nat} {a:Nat->Nat->Nat} (h:Low n n a):Eq2 n n a MX.one:=fun i j hi hj=>h i j hi hj
theorem Struck.strike {n k s y:Nat} {m a b:Nat->Nat->Nat} (h:Struck n m a b) (hy:y < 256) (hk:k < n) (hs:s < n) (hks:k ≠ s) :
 Struck n m (fun i j=>if i=k then a k j ^^^ M.mul y (a s j) else a i j) (fun i j=>if i=k then b k j ^^^ M.mul y (b s j) else b i j) :=
 h.step (strike_inv hy hk hs hks) (strike_mm h.sa hk hs hks).symm (strike_mm (by obtain⟨c,hc⟩:=h.inv;exact hc.sa) hk hs hks).symm
theorem Struck.scale {n k x y:Nat} {m a b:Nat->Nat->Nat} (h:Struck n m a b) (hx:x < 256) (hy:y < 256) (hxy:M.mul x y=1) :
 Struck n m (fun i j=>if i=k then M.mul x (a k j) else a i j) (fun i j=>if i=k then M.mul x (b k j) else b i j) :=
 h.step (scale_inv hx hy hxy) (scale_mm h.sa).symm (scale_mm (by obtain⟨c,hc⟩:=h.inv;exact hc.sa)).symm
theorem Struck.swap {n k s:Nat} {m a b:Nat->Nat->Nat} (h:Struck n m a b) (hk:k < n) (hs:s < n) :
 Struck n m (fun i j=>a (if i=k then s else if i=s then k else i) j) (fun i j=>b (if i=k then s else if i=s then k else i) j) :=
 h.step (swap_inv hk hs) (swap_mm h.sa hk hs).symm (swap_mm (by obtain⟨c,hc⟩:=h.inv;exact hc.sa) hk hs).symm
end Go.Proofs.YtlklmhojadlncaaGreat.MX
namespace Go.Proofs.YtlklmhojadlncaaGreat
open Go.RowKit
def mayTo (X:List (List Nat)) (n k:Nat):Bool:=decide (1<=n)&&(decide (n<=255)&&(List.range k).all fun j=>(X.getD j []).length==n)
def mayB (X:List (List Nat)):Bool:=decide (1<=X.length)&&(decide (X.length<=255)&&mayTo X (X.getD 0 []).length X.length)
theorem list_ext {X Y:List (List Nat)} (hl:X.length=Y.length) (h:∀ j,j < X.length->X.getD j []=Y.getD j []):X=Y:=by
 apply List.ext_getElem hl
 intro i h1 h2
 have:=h i h1
 simpa [List.getD,h1,h2] using this
def mix (f:Nat->Nat) (xs:List Nat) (k:Nat):List Nat:=(List.range xs.length).map fun j=>if j < k then f j else xs.getD j 0
theorem mix_len (f:Nat->Nat) (xs:List Nat) (k:Nat):(mix f xs k).length=xs.length:=by simp[mix]
theorem mix_get (f:Nat->Nat) (xs:List Nat) (k:Nat) (h:k < xs.length):(mix f xs k).getD k 0=xs.getD k 0:=by simp[mix,List.getD,h]
theorem mix_zero (f:Nat->Nat) (xs:List Nat):mix f xs 0=xs:=by
 apply List.ext_getElem
 ·simp[mix]
 ·intro i h1 h2
  simp[mix,List.getD,h2]
theorem mix_set (f:Nat->Nat) (xs:List Nat) (k:Nat):(mix f xs k).set k (f k)=mix f xs (k+1):=by
 apply List.ext_getElem
 ·simp[mix]
 ·intro i h1 h2
  have hi:i < xs.length:=by simpa [mix] using h2
  by_cases e:k=i
  ·subst e;simp[mix]
  ·by_cases l:i < k
   ·simp[mix,e,l,show i < k+1 from by omega]
   ·simp[mix,e,l,show ¬ i < k+1 from by omega]
theorem mix_all (f:Nat->Nat) (xs:List Nat):mix f xs xs.length=(List.range xs.length).map f :=
 List.map_congr_left fun j hj=>by simp[List.mem_range.1 hj]
theorem within_any (n:Int) (w:World) {b:Bool} (hb:(decide (1<=n)&&decide (n<=255))=b) :
 Calls Tryz.prog 106 #[.int .i64 n] w fun e w'=>e=.returned (.bool b)/\w'=w:=by
 subst hb
 by_cases h:1<=n
 all_goals
  go_enter Tryz.func106,Tryz.ntmps106
  go_wp2
  go_ret
  exact⟨by first | (simp[h];done) | (simp;omega),rfl⟩
theorem mayTo_all {X:List (List Nat)} {n k:Nat} (h1:1<=n) (h2:n<=255) (h:∀ j,j < k->(X.getD j []).length=n):mayTo X n k=true:=by
 unfold mayTo
 rw[decide_eq_true h1,decide_eq_true h2]
 simp only[Bool.true_and,List.all_eq_true,List.mem_range,beq_iff_eq]
 exact h
theorem mayTo_not {X:List (List Nat)} {n k j:Nat} (hj:j < k) (h:(X.getD j []).length ≠ n):mayTo X n k=false:=by
 unfold mayTo
 have:((List.range k).all fun j=>(X.getD j []).length==n)=false:=by
  rw[Bool.eq_false_iff]
  intro e
  have:=List.all_eq_true.1 e j (List.mem_range.2 hj)
  exact h (by simpa using this)
 rw[this];simp
set_option maxHeartbeats 1600000 in
theorem may_any {w:World} {r:Value} {vs:List Value} {X:List (List Nat)} (mr:Mat w r vs X) :
 Calls Tryz.prog 98 #[r] w fun e w'=>e=.returned (.bool (mayB X))/\w'=w:=by
 obtain⟨q,N,cap,rfl,hN⟩:=mr.row.opened
 have hs:=mr.same
 have hNl:N<=140737488351232:=by have:=mr.row.len;omega
 by_cases h0:1<=N/\N<=255
 ·have hb:(decide (1<=(N:Int))&&decide ((N:Int)<=255))=true:=by simp;omega
  obtain⟨b,off,rfl,hc⟩:=mr.row.spot (k:=0) (by omega)
  obtain⟨p0,n0,c0,e0,hn0⟩:=(mr.vec 0 (by omega)).opened
  rw[e0] at hc
  have hc0:w.cell? ⟨b,off,none⟩=some (.slice p0 n0 c0):=hc
  have hpos:(0:Int) < (N:Int):=by omega
  have hn0l:n0<=140737488351232:=by rw[hn0];exact (mr.vec 0 (by omega)).len
  have MR:Hid (Mat w (.slice (some ⟨b,off,none⟩) N cap) vs X):=mr
  have HN:Hid (N=vs.length/\N=X.length/\n0=(X.getD 0 []).length):=⟨hN,by omega,hn0⟩
  have HR:Hid (mayB X=mayTo X n0 N):=by
   unfold mayB
   rw[show decide (1<=X.length)=true from decide_eq_true (by omega),show decide (X.length<=255)=true from decide_eq_true (by omega),<- hn0,<- hs,<- hN]
   rfl
  rw[HR.out]
  have WN:Hid (∀ r w,r=Value.int .i64 (N:Int)->Calls Tryz.prog 106 #[r] w fun e w'=>e=.returned (.bool true)/\w'=w):=fun r w e=>e ▸ within_any _ w hb
  by_cases h1:1<=n0/\n0<=255
  ·have WM:Hid (∀ r w,r=Value.int .i64 (n0:Int)->Calls Tryz.prog 106 #[r] w fun e w'=>e=.returned (.bool true)/\w'=w):=fun r w e=>e ▸ within_any _ w (by simp;omega)
   have H1:Hid (1<=n0/\n0<=255):=h1
   clear hc e0 hn0 hN hs mr h0 hb h1
   go_enter Tryz.func98,Tryz.ntmps98
   go_wp2_with (go_at_call 106;(first | refine (WN.out _ _ (by with_reducible rfl)).mono ?_ | refine (WM.out _ _ (by with_reducible rfl)).mono ?_);rintro e w1 ⟨rfl,hw⟩;obtain rfl:=hw.symm;clear hw)
   go_loop [19] (fun ti=>∃ k:Nat,k<=N/\ti=.int .i64 k/\Hid (∀ j,j < k->(X.getD j []).length=n0)) (fun ti=>N - (intOf ti).toNat)
   case atStart=>exact⟨0,by omega,rfl,fun j hj=>by omega⟩
   case round =>
    obtain⟨k,hk,rfl,HA⟩:=hrel
    by_cases hlt:k < N
    ·obtain⟨b1,o1,e1,hr⟩:=MR.out.row.spot (k:=k) (by have:=HN.out;omega)
     obtain⟨rfl,rfl⟩:b=b1/\off=o1:=by
      injection e1 with e1
      injection e1 with e2 e3
      exact⟨e2,e3⟩
     obtain⟨pk,nk,ck,ek,hnk⟩:=(MR.out.vec k (by have:=HN.out;omega)).opened
     rw[ek] at hr
     clear e1 ek
     have i2:(k:Int) < (N:Int):=by omega
     have i3:(0:Int)<=(k:Int):=by omega
     by_cases he:nk=n0
     ·have hne:((nk:Int) != (n0:Int))=false:=by simp[he]
      have HA':Hid (∀ j,j < k+1->(X.getD j []).length=n0):=fun j hj=>by
       by_cases e:j=k
       ·subst e;omega
       ·exact HA.out j (by omega)
      clear he hnk
      go_wp2
      go_round
      case rel=>exact⟨k+1,by omega,by go_num,HA'⟩
      case measure=>simp[intOf];omega
     ·have hne:((nk:Int) != (n0:Int))=true:=by simp;omega
      have HM:Hid (mayTo X n0 N=false):=mayTo_not (j:=k) hlt (by omega)
      clear he hnk
      go_wp2
      go_ret
      exact⟨by rw[HM.out];rfl,rfl⟩
    ·have HM:Hid (mayTo X n0 N=true):=mayTo_all H1.out.1 H1.out.2 (fun j hj=>HA.out j (by omega))
     go_wp2
     go_ret
     exact⟨by rw[HM.out];rfl,rfl⟩
  ·have WM:Hid (∀ r w,r=Value.int .i64 (n0:Int)->Calls Tryz.prog 106 #[r] w fun e w'=>e=.returned (.bool false)/\w'=w):=fun r w e=>e ▸ within_any _ w (by simp;omega)
   have HM:Hid (mayTo X n0 N=false):=by
    show _=_
    unfold mayTo
    by_cases h:1<=n0
    ·rw[show decide (n0<=255)=false from decide_eq_false (by omega)];simp
    ·rw[show decide (1<=n0)=false from decide_eq_false h];simp
   clear hc e0 hn0 hN hs mr h0 hb
   go_enter Tryz.func98,Tryz.ntmps98
   go_wp2_with (go_at_call 106;(first | refine (WN.out _ _ (by with_reducible rfl)).mono ?_ | refine (WM.out _ _ (by with_reducible rfl)).mono ?_);rintro e w1 ⟨rfl,hw⟩;obtain rfl:=hw.symm;clear hw)
   go_ret
   exact⟨by rw[HM.out];rfl,rfl⟩
 ·have hz:mayB X=false:=by
   unfold mayB
   by_cases h:1<=X.length
   ·rw[show decide (X.length<=255)=false from decide_eq_false (by omega)];simp
   ·rw[show decide (1<=X.length)=false from decide_eq_false h];simp
  rw[hz]
  have WN:Hid (∀ w,Calls Tryz.prog 106 #[.int .i64 (N:Int)] w fun e w'=>e=.returned (.bool false)/\w'=w):=fun w=>within_any _ w (by simp;omega)
  clear h0 hN hs mr hz
  go_enter Tryz.func98,Tryz.ntmps98
  go_wp2_with (go_at_call 106;refine (WN.out _).mono ?_;rintro e w1 ⟨rfl,hw⟩;obtain rfl:=hw.symm;clear hw)
  go_ret
  exact⟨rfl,rfl⟩
theorem rep_set {α:Type} (a b:α) (k n:Nat):(List.replicate k a++List.replicate (n+1) b).set k a=List.replicate (k+1) a++List.replicate n b:=by
 rw[List.set_append_right _ _ (by simp)]
 simp only[List.length_replicate,Nat.sub_self,List.replicate_succ,List.set_cons_zero]
 rw[<- List.replicate_succ,List.replicate_succ',List.append_assoc];rfl
set_option maxHeartbeats 1600000 in
theorem blank_any (n m:Nat) (w:World) (hn:n<=255) (hm:m<=510) :
 Calls Tryz.prog 111 #[.int .i64 (n:Int),.int .i64 (m:Int)] w fun e w'=>∃ v us,e=.returned v/\OwnMat w.heap.size w' v us (List.replicate n (List.replicate m 0))/\Sep us/\w.grownBy w' none:=by
 go_enter Tryz.func111,Tryz.ntmps111
 go_wp2_with (at_make;refine wpList_make_rows rfl _ _ rfl n rfl rfl (by omega) ?_;intro w1 p om g1;have OM:Hid (OwnMat w.heap.size w1 (.slice p n n) (List.replicate n (.slice none 0 0)) (List.replicate n [])):=om;have G1:Hid (w.grownBy w1 none):=g1;clear om g1)
 go_loopw [11] (fun ti wr=>∃ (k:Nat) (us:List Value),k<=n/\ti=.int .i64 k/\Hid (OwnMat w.heap.size wr (.slice p n n) us (List.replicate k (List.replicate m 0)++List.replicate (n - k) []))/\Hid (Sep us)/\Hid (w.grownBy wr none)) (fun ti _=>n - (intOf ti).toNat)
 case atStart =>
  have h0:OwnMat w.heap.size w1 (.slice p n n) (List.replicate n (.slice none 0 0)) (List.replicate 0 (List.replicate m 0)++List.replicate (n - 0) []):=by simpa using OM.out
  exact⟨0,_,by omega,rfl,h0,Sep.nils n,G1.out⟩
 case round =>
  clear OM G1
  obtain⟨k,us,hk,rfl,OK,SK,GK⟩:=hrel
  by_cases hlt:k < n
  ·have i1:(k:Int) < (n:Int):=by omega
   have i3:(0:Int)<=(k:Int):=by omega
   have HX:Hid ((List.replicate k (List.replicate m 0)++List.replicate (n - k) ([]:List Nat)).set k (List.replicate m 0)=List.replicate (k+1) (List.replicate m 0)++List.replicate (n - (k+1)) []):=by
    have:=rep_set (List.replicate m 0) ([]:List Nat) k (n - (k+1))
    rw[show n - (k+1)+1=n - k from by omega] at this
    exact this
   have HL:Hid (k < (List.replicate k (List.replicate m 0)++List.replicate (n - k) ([]:List Nat)).length):=by show _ < _;simp;omega
   generalize List.replicate k (List.replicate m 0)++List.replicate (n - k) ([]:List Nat)=XK at *
   obtain⟨g,rfl,_⟩:=OK.out.place (k:=k) HL.out
   go_wp2_with (first
    | (at_make;refine wpList_make_vec rfl _ _ rfl m rfl rfl (by omega) ?_;intro w2 pu ou g2;obtain⟨g',e',hb,hc,hf,hput,hown,hgr⟩:=(OK.out.keep g2).place (k:=k) HL.out;obtain rfl:g=g':=(by injection e' with e';injection e' with e');have OU:Hid (Own wr.heap.size w2 (.slice pu m m) (List.replicate m 0)):=ou;have G2:Hid (wr.grownBy w2 none):=g2;have PUT:Hid _:=hput;have GR:Hid _:=hgr;have HB:Hid (w.heap.size<=g):=hb;clear ou g2 e' hput hgr hown hb))
   have R:Hid (OwnMat w.heap.size (w2.setCell ⟨g,k,none⟩ (.slice pu m m)) (.slice (some ⟨g,0,none⟩) n n) (us.set k (.slice pu m m)) (List.replicate (k+1) (List.replicate m 0)++List.replicate (n - (k+1)) [])/\Sep (us.set k (.slice pu m m))/\w.grownBy (w2.setCell ⟨g,k,none⟩ (.slice pu m m)) none):=by
    refine⟨?_,SK.out.put (H:=wr.heap.size) (OK.out.hiRow) OU.out.lo k,?_⟩
    ·rw[<- HX.out]
     exact PUT.out _ _ (OU.out.down GK.out.size)
    ·exact grown_new (grown_trans GK.out G2.out) (GR.out _) (fun i e=>by have:=Option.some.inj e;have:=HB.out;omega)
   clear OK SK GK OU G2 PUT GR HX HL HB
   go_roundw
   case rel=>exact⟨k+1,us.set k (.slice pu m m),by omega,by go_num,R.out.1,R.out.2.1,R.out.2.2⟩
   case measure=>simp[intOf];omega
  ·have hkn:n=k:=by omega
   subst hkn
   go_wp2
   go_ret
   have h0:=OK.out
   rw[Nat.sub_self,List.replicate_zero,List.append_nil] at h0
   exact⟨_,us,rfl,h0,SK.out,GK.out⟩
def idRow (n i:Nat):List Nat:=(List.range n).map fun j=>if i=j then 1 else 0
theorem idRow_set (n k:Nat):(List.replicate n 0).set k 1=idRow n k:=by
 apply List.ext_getElem
 ·simp[idRow]
 ·intro i h1 h2
  by_cases e:k=i
  ·subst e;simp[idRow]
  ·simp[idRow,e]
end Go.Proofs.YtlklmhojadlncaaGreat
