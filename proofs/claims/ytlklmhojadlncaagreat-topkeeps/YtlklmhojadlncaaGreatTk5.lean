/- Packed: CMath, Row4, Row5. -/
import Derived.Test.YtlklmhojadlncaaGreatTk3
import Derived.Test.YtlklmhojadlncaaGreatTk4
import Derived.OwnWalk
set_option maxRecDepth 100000
namespace Go.Proofs.YtlklmhojadlncaaGreat
namespace MX
def ls (f:Nat->Nat):List Nat->Nat
 | []=>0
 | y :: Y=>f y ^^^ ls f Y
theorem ls_lt {f:Nat->Nat}:∀ {Y:List Nat},(∀ y ∈ Y,f y < 256)->ls f Y < 256
 | [],_=>by simp[ls]
 | y :: Y,h=>M.xor_lt (h y (by simp)) (ls_lt fun z hz=>h z (by simp[hz]))
theorem ls_congr {f g:Nat->Nat}:∀ {Y:List Nat},(∀ y ∈ Y,f y=g y)->ls f Y=ls g Y
 | [],_=>rfl
 | y :: Y,h=>by
   show f y ^^^ ls f Y=g y ^^^ ls g Y
   rw[h y (by simp),ls_congr fun z hz=>h z (by simp[hz])]
theorem ls_xor (f g:Nat->Nat):∀ Y,ls f Y ^^^ ls g Y=ls (fun y=>f y ^^^ g y) Y
 | []=>Nat.xor_self 0
 | y :: Y=>by
   show (f y ^^^ ls f Y) ^^^ (g y ^^^ ls g Y)=(f y ^^^ g y) ^^^ ls (fun y=>f y ^^^ g y) Y
   rw[xor4,ls_xor f g Y]
theorem ls_mul {f:Nat->Nat} {a:Nat} (ha:a < 256):∀ {Y:List Nat},(∀ y ∈ Y,f y < 256)->M.mul a (ls f Y)=ls (fun y=>M.mul a (f y)) Y
 | [],_=>M.mul_zero a
 | y :: Y,h=>by
   show M.mul a (f y ^^^ ls f Y)=M.mul a (f y) ^^^ ls (fun y=>M.mul a (f y)) Y
   rw[mul_xor_right ha (h y (by simp)) (ls_lt fun z hz=>h z (by simp[hz])),ls_mul ha fun z hz=>h z (by simp[hz])]
theorem ls_zero {f:Nat->Nat}:∀ {Y:List Nat},(∀ y ∈ Y,f y=0)->ls f Y=0
 | [],_=>rfl
 | y :: Y,h=>by
   show f y ^^^ ls f Y=0
   rw[h y (by simp),ls_zero fun z hz=>h z (by simp[hz]),Nat.xor_self]
theorem ls_app (f:Nat->Nat):∀ A B,ls f (A++B)=ls f A ^^^ ls f B
 | [],B=>by show ls f B=0 ^^^ ls f B;rw[Nat.zero_xor]
 | a :: A,B=>by
   show f a ^^^ ls f (A++B)=(f a ^^^ ls f A) ^^^ ls f B
   rw[ls_app f A B,Nat.xor_assoc]
theorem xs_ls (f:Nat->Nat):∀ n,xs f n=ls f (List.range n)
 | 0=>rfl
 | n+1=>by
   rw[List.range_succ,ls_app,<- xs_ls f n]
   show xs f n ^^^ f n=xs f n ^^^ (f n ^^^ 0)
   rw[Nat.xor_zero]
theorem ls_filter {f:Nat->Nat} {p:Nat->Bool}:∀ {Y:List Nat},(∀ y ∈ Y,p y=false->f y=0)->ls f Y=ls f (Y.filter p)
 | [],_=>rfl
 | y :: Y,h=>by
   have ih:=ls_filter (f:=f) (p:=p) (Y:=Y) fun z hz=>h z (by simp[hz])
   by_cases e:p y=true
   ·rw[List.filter_cons_of_pos e]
    show f y ^^^ ls f Y=f y ^^^ ls f (Y.filter p)
    rw[ih]
   ·rw[List.filter_cons_of_neg (by simpa using e),<- ih]
    show f y ^^^ ls f Y=ls f Y
    rw[h y (by simp) (by simpa using e),Nat.zero_xor]
theorem xor_ne {a b:Nat} (h:a ≠ b):0 < a ^^^ b:=by
 rcases Nat.eq_zero_or_pos (a ^^^ b) with e | e
 ·refine absurd ?_ h
  rw[<- Nat.xor_zero a,<- Nat.xor_self b,<- Nat.xor_assoc,e,Nat.zero_xor]
 ·exact e
theorem xor_eq {a b:Nat} (h:a ^^^ b=0):a=b:=by
 rw[<- Nat.xor_zero a,<- Nat.xor_self b,<- Nat.xor_assoc,h,Nat.zero_xor]
theorem xor_mid (x y z:Nat):x ^^^ z=(x ^^^ y) ^^^ (y ^^^ z):=by
 rw[Nat.xor_assoc,<- Nat.xor_assoc y y z,Nat.xor_self,Nat.zero_xor]
theorem cancel {a v:Nat} (ha:a < 256) (h0:0 < a) (hv:v < 256):M.mul a (M.mul v (M.inv a))=v:=by
 rw[M.mul_comm hv (M.inv_lt a),<- M.mul_assoc ha (M.inv_lt a) hv,M.mul_inv ha h0,M.one_mul hv]
theorem turn {b v i:Nat} (hb:b < 256) (hv:v < 256) (hi:i < 256):M.mul b (M.mul v i)=M.mul (M.mul v b) i:=by
 rw[<- M.mul_assoc hb hv hi,M.mul_comm hb hv]
theorem inv_sum {a b:Nat} (ha:a < 256) (hb:b < 256) (a0:0 < a) (b0:0 < b):M.inv a ^^^ M.inv b=M.mul (a ^^^ b) (M.mul (M.inv b) (M.inv a)):=by
 rw[M.mul_xor _ ha hb,cancel ha a0 (M.inv_lt b),M.mul_comm (M.inv_lt b) (M.inv_lt a),cancel hb b0 (M.inv_lt a),Nat.xor_comm]
theorem zero_of {a b:Nat} (ha:a < 256) (hb:b < 256) (b0:0 < b) (h:M.mul a b=0):a=0:=by
 rcases Nat.eq_zero_or_pos a with e | e
 ·exact e
 ·have:=M.mul_pos ha hb e b0
  omega
theorem inv_pos {a:Nat}:0 < M.inv a:=M.pw_pos _
theorem cauchy:∀ (Y X:List Nat) (v:Nat->Nat),Y.Nodup->X.Nodup->Y.length<=X.length->(∀ y ∈ Y,y < 256)->(∀ x ∈ X,x < 256)->(∀ x ∈ X,∀ y ∈ Y,x ≠ y)->(∀ y ∈ Y,v y < 256) ->
 (∀ x ∈ X,ls (fun y=>M.mul (v y) (M.inv (x ^^^ y))) Y=0)->∀ y ∈ Y,v y=0
 | [],_,_,_,_,_,_,_,_,_,_=>by simp
 | y0 :: Y,[],_,_,_,hl,_,_,_,_,_=>by simp at hl
 | y0 :: Y,x1 :: X,v,hY,hX,hl,sy,sx,ne,sv,heq=>by
   have hY':=List.nodup_cons.1 hY
   have hX':=List.nodup_cons.1 hX
   have by0:y0 < 256:=sy y0 (by simp)
   have vy0:v y0 < 256:=sv y0 (by simp)
   have bx1:x1 < 256:=sx x1 (by simp)
   have bY:∀ y ∈ Y,y < 256:=fun y h=>sy y (by simp[h])
   have bV:∀ y ∈ Y,v y < 256:=fun y h=>sv y (by simp[h])
   have bU:∀ y ∈ Y,M.mul (v y) (y ^^^ y0) < 256:=fun y h=>M.mul_lt _ (bV y h)
   have A:∀ x ∈ x1 :: X,(v y0 ^^^ ls v Y) ^^^ ls (fun y=>M.mul (M.mul (v y) (y ^^^ y0)) (M.inv (x ^^^ y))) Y=0:=by
    intro x hx
    have bx:=sx x hx
    have b0:=M.xor_lt bx by0
    have p0:=xor_ne (ne x hx y0 (by simp))
    have e:=congrArg (M.mul (x ^^^ y0)) (heq x hx)
    rw[M.mul_zero] at e
    change M.mul (x ^^^ y0) (M.mul (v y0) (M.inv (x ^^^ y0)) ^^^ ls (fun y=>M.mul (v y) (M.inv (x ^^^ y))) Y)=0 at e
    rw[mul_xor_right b0 (M.mul_lt _ vy0) (ls_lt fun y h=>M.mul_lt _ (bV y h)),cancel b0 p0 vy0,ls_mul b0 (fun y h=>M.mul_lt _ (bV y h))] at e
    rw[Nat.xor_assoc,ls_xor]
    rw[<- e]
    congr 1
    refine ls_congr fun y h=>?_
    have b1:=M.xor_lt bx (bY y h)
    have b2:=M.xor_lt (bY y h) by0
    rw[xor_mid x y y0,M.mul_xor _ b1 b2,cancel b1 (xor_ne (ne x hx y (by simp[h]))) (bV y h),turn b2 (bV y h) (M.inv_lt _)]
   have B:∀ x ∈ X,ls (fun y=>M.mul (M.mul (M.mul (v y) (y ^^^ y0)) (M.inv (x1 ^^^ y))) (M.inv (x ^^^ y))) Y=0:=by
    intro x hx
    have bx:=sx x (by simp[hx])
    have nx:x ≠ x1:=fun e=>hX'.1 (e ▸ hx)
    have b0:=M.xor_lt bx bx1
    have p0:=xor_ne nx
    have e1:=A x (by simp[hx])
    have e2:=A x1 (by simp)
    have e3:ls (fun y=>M.mul (M.mul (v y) (y ^^^ y0)) (M.inv (x ^^^ y))) Y=ls (fun y=>M.mul (M.mul (v y) (y ^^^ y0)) (M.inv (x1 ^^^ y))) Y:=(xor_eq e1).symm.trans (xor_eq e2)
    have e4:M.mul (ls (fun y=>M.mul (M.mul (M.mul (v y) (y ^^^ y0)) (M.inv (x1 ^^^ y))) (M.inv (x ^^^ y))) Y) (x ^^^ x1)=0:=by
     rw[M.mul_comm (ls_lt fun y h=>M.mul_lt _ (M.mul_lt _ (bU y h))) b0,ls_mul b0 (fun y h=>M.mul_lt _ (M.mul_lt _ (bU y h)))]
     rw[<- Nat.xor_self (ls (fun y=>M.mul (M.mul (v y) (y ^^^ y0)) (M.inv (x1 ^^^ y))) Y)]
     conv=>rhs;lhs;rw[<- e3]
     rw[ls_xor]
     refine ls_congr fun y h=>?_
     have b1:=M.xor_lt bx (bY y h)
     have b2:=M.xor_lt bx1 (bY y h)
     have p1:=xor_ne (ne x (by simp[hx]) y (by simp[h]))
     have p2:=xor_ne (ne x1 (by simp) y (by simp[h]))
     have hs:x ^^^ x1=(x ^^^ y) ^^^ (x1 ^^^ y):=by rw[xor_mid x y x1,Nat.xor_comm y x1]
     rw[<- mul_xor_right (bU y h) (M.inv_lt _) (M.inv_lt _),inv_sum b1 b2 p1 p2,<- hs,M.mul_assoc (bU y h) (M.inv_lt _) (M.inv_lt _),turn b0 (bU y h) (M.mul_lt _ (M.inv_lt _)),M.mul_assoc (bU y h) b0 (M.mul_lt _ (M.inv_lt _))]
    exact zero_of (ls_lt fun y h=>M.mul_lt _ (M.mul_lt _ (bU y h))) b0 p0 e4
   have ih:=cauchy Y X (fun y=>M.mul (M.mul (v y) (y ^^^ y0)) (M.inv (x1 ^^^ y))) hY'.2 hX'.2 (by simpa using hl) bY (fun x h=>sx x (by simp[h])) (fun x hx y hy=>ne x (by simp[hx]) y (by simp[hy])) (fun y h=>M.mul_lt _ (bU y h)) B
   have hv:∀ y ∈ Y,v y=0:=fun y h=>by
    have e:=zero_of (bU y h) (M.inv_lt _) inv_pos (ih y h)
    exact zero_of (bV y h) (M.xor_lt (bY y h) by0) (xor_ne fun c=>hY'.1 (c ▸ h)) e
   intro y hy
   rcases List.mem_cons.1 hy with rfl | h
   ·have e:=heq x1 (by simp)
    change M.mul (v y) (M.inv (x1 ^^^ y)) ^^^ ls (fun y=>M.mul (v y) (M.inv (x1 ^^^ y))) Y=0 at e
    rw[ls_zero (fun z hz=>by rw[hv z hz,M.zero_mul]),Nat.xor_zero] at e
    exact zero_of vy0 (M.inv_lt _) inv_pos e
   ·exact hv y h
theorem nodup_len:∀ (A B:List Nat),A.Nodup->(∀ a ∈ A,a ∈ B)->A.length<=B.length
 | [],_,_,_=>by simp
 | a :: A,B,h,hs=>by
   have h':=List.nodup_cons.1 h
   have hm:a ∈ B:=hs a (by simp)
   have:=nodup_len A (B.erase a) h'.2 fun x hx=>(List.mem_erase_of_ne (fun (e:x=a)=>h'.1 (e ▸ hx))).2 (hs x (by simp[hx]))
   rw[List.length_erase_of_mem hm] at this
   have:0 < B.length:=List.length_pos_of_mem hm
   simp only[List.length_cons]
   omega
theorem filter_two (p:Nat->Bool) (l:List Nat):(l.filter p).length+(l.filter fun x=>!p x).length=l.length:=by
 induction l with
 | nil=>rfl
 | cons a l ih =>
   by_cases e:p a=true
   ·simp only[List.filter_cons,e,if_true,Bool.not_true,Bool.false_eq_true,if_false,List.length_cons];omega
   ·have e':p a=false:=by simpa using e
    simp only[List.filter_cons,e',if_true,Bool.not_false,Bool.false_eq_true,if_false,List.length_cons];omega
theorem nodup_range (n:Nat):(List.range n).Nodup:=List.nodup_range
theorem nodup_map {k:Nat} {r:Nat->Nat} (inj:∀ i j,i < k->j < k->r i=r j->i=j):((List.range k).map r).Nodup:=by
 refine List.pairwise_map.2 ((nodup_range k).imp_of_mem ?_)
 intro a b ha hb hne e
 exact hne (inj a b (List.mem_range.1 ha) (List.mem_range.1 hb) e)
def gen (k i j:Nat):Nat:=if i < k then one i j else M.inv (i ^^^ j)
theorem gen_lt (k i j:Nat):gen k i j < 256:=by
 unfold gen
 split
 ·unfold one;split <;> decide
 ·exact M.inv_lt _
theorem gen_kernel {k n:Nat} (hn:n<=255) (r:Nat->Nat) (hr:∀ i,i < k->r i < n) (inj:∀ i j,i < k->j < k->r i=r j->i=j) (hkn:k<=n) (v:Nat->Nat) (hv:∀ j,j < k->v j < 256)
 (h:∀ i,i < k->xs (fun j=>M.mul (gen k (r i) j) (v j)) k=0):∀ j,j < k->v j=0:=by
 have hlow:∀ i,i < k->r i < k->v (r i)=0:=fun i hi hrk=>by
  have e:=h i hi
  rw[xs_one (p:=r i) hrk (fun j hj hne=>by unfold gen;rw[if_pos hrk];unfold one;rw[if_neg (fun c=>hne c.symm),M.zero_mul])] at e
  unfold gen at e
  rw[if_pos hrk] at e
  unfold one at e
  rw[if_pos rfl,M.one_mul (hv _ hrk)] at e
  exact e
 have nd:=nodup_map inj
 have two1:=filter_two (fun x=>decide (x < k)) ((List.range k).map r)
 have two2:=filter_two (fun x=>decide (x ∈ (List.range k).map r)) (List.range k)
 have le:=nodup_len (((List.range k).map r).filter fun x=>decide (x < k)) ((List.range k).filter fun x=>decide (x ∈ (List.range k).map r)) (nd.filter _) (by
  intro a ha
  have:=List.mem_filter.1 ha
  refine List.mem_filter.2 ⟨List.mem_range.2 (by simpa using this.2),by simpa using this.1⟩)
 simp only[List.length_map,List.length_range] at two1 two2
 have main:=cauchy ((List.range k).filter fun x=>!decide (x ∈ (List.range k).map r)) (((List.range k).map r).filter fun x=>!decide (x < k)) v ((nodup_range k).filter _) (nd.filter _) (by omega)
  (fun y hy=>by have:=List.mem_range.1 (List.mem_filter.1 hy).1;omega)
  (fun x hx=>by
    obtain⟨i,hi,rfl⟩:=List.mem_map.1 (List.mem_filter.1 hx).1
    have:=hr i (List.mem_range.1 hi)
    omega)
  (fun x hx y hy e=>by
    have a:=(List.mem_filter.1 hx).2
    have b:=List.mem_range.1 (List.mem_filter.1 hy).1
    simp at a
    omega)
  (fun y hy=>hv y (List.mem_range.1 (List.mem_filter.1 hy).1))
  (fun x hx=>by
    obtain⟨i,hi,rfl⟩:=List.mem_map.1 (List.mem_filter.1 hx).1
    have hi':=List.mem_range.1 hi
    have hk:¬ r i < k:=by have:=(List.mem_filter.1 hx).2;simpa using this
    have e:=h i hi'
    rw[xs_ls,ls_filter (p:=fun x=>!decide (x ∈ (List.range k).map r))] at e
    ·rw[<- e]
     refine ls_congr fun y hy=>?_
     have hy':=List.mem_range.1 (List.mem_filter.1 hy).1
     show _=M.mul (gen k (r i) y) (v y)
     unfold gen
     rw[if_neg hk,M.mul_comm (hv y hy') (M.inv_lt _)]
    ·intro y hy hp
     have hy':=List.mem_range.1 hy
     have hm:y ∈ (List.range k).map r:=by simpa using hp
     obtain⟨t,ht,rfl⟩:=List.mem_map.1 hm
     show M.mul _ (v (r t))=0
     rw[hlow t (List.mem_range.1 ht) hy',M.mul_zero])
 intro j hj
 by_cases e:j ∈ (List.range k).map r
 ·obtain⟨t,ht,rfl⟩:=List.mem_map.1 e
  exact hlow t (List.mem_range.1 ht) hj
 ·exact main j (List.mem_filter.2 ⟨List.mem_range.2 hj,by simp only[e,decide_false,Bool.not_false]⟩)
def Kernel (n:Nat) (m:Nat->Nat->Nat):Prop:=∃ v:Nat->Nat,(∀ j,j < n->v j < 256)/\(∃ j,j < n/\v j ≠ 0)/\∀ i,i < n->xs (fun j=>M.mul (m i j) (v j)) n=0
theorem Struck.clear {n i:Nat} {m:Nat->Nat->Nat} (hi:i < n) {a b:Nat->Nat->Nat} (h:Struck n m a b) (l:Low n i a) (one1:a i i=1):∀ t,t<=n->∃ a b,Struck n m a b/\Low n i a/\a i i=1/\∀ r,r < t->r ≠ i->a r i=0
 | 0,_=>⟨a,b,h,l,one1,fun r hr=>by omega⟩
 | t+1,ht=>by
   obtain⟨a,b,h,l,o,z⟩:=Struck.clear hi h l one1 t (by omega)
   by_cases e:t=i\/a t i=0
   ·refine⟨a,b,h,l,o,fun r hr hne=>?_⟩
    by_cases c:r=t
    ·subst c
     rcases e with e | e
     ·exact absurd e hne
     ·exact e
    ·exact z r (by omega) hne
   ·have e1:t ≠ i:=fun c=>e (.inl c)
    have s256:a t i < 256:=h.sa t i (by omega) hi
    refine⟨_,_,h.strike (k:=t) (s:=i) (y:=a t i) s256 (by omega) hi e1,l.strike hi (Nat.le_refl _),?_,fun r hr hne=>?_⟩
    ·show (if i=t then _ else a i i)=1
     rw[if_neg (fun c=>e1 c.symm)];exact o
    ·show (if r=t then a t i ^^^ M.mul (a t i) (a i i) else a r i)=0
     by_cases c:r=t
     ·rw[if_pos c,o,M.mul_one s256,Nat.xor_self]
     ·rw[if_neg c];exact z r (by omega) hne
theorem Struck.kernel {n i:Nat} {m a b:Nat->Nat->Nat} (h:Struck n m a b) (l:Low n i a) (hi:i < n) (z:∀ k,i<=k->k < n->a k i=0):Kernel n m:=by
 refine⟨fun j=>if j < i then a j i else if j=i then 1 else 0,fun j hj=>?_,⟨i,hi,by simp⟩,?_⟩
 ·show (if j < i then a j i else if j=i then 1 else 0) < 256
  split
  ·exact h.sa j i hj hi
  ·split <;> decide
 ·obtain⟨c,hc⟩:=h.inv
  have av:∀ r,r < n->xs (fun j=>M.mul (a r j) (if j < i then a j i else if j=i then 1 else 0)) n=0:=by
   intro r hr
   have split2:xs (fun j=>M.mul (a r j) (if j < i then a j i else if j=i then 1 else 0)) n=xs (fun j=>if j=r/\r < i then a r i else 0) n ^^^ xs (fun j=>if j=i then a r i else 0) n:=by
    rw[xs_xor]
    refine xs_congr fun j hj=>?_
    by_cases c1:j < i
    ·rw[if_pos c1,l r j hr c1,if_neg (by omega:¬ j=i),Nat.xor_zero]
     unfold one
     by_cases c2:r=j
     ·subst c2
      rw[if_pos rfl,if_pos ⟨rfl,c1⟩,M.one_mul (h.sa r i hr hi)]
     ·rw[if_neg c2,if_neg (fun x=>c2 x.1.symm),M.zero_mul]
    ·rw[if_neg c1]
     by_cases c2:j=i
     ·subst c2
      rw[if_pos rfl,if_pos rfl,M.mul_one (h.sa r j hr hi),if_neg (by omega),Nat.zero_xor]
     ·rw[if_neg c2,if_neg c2,M.mul_zero,if_neg (by omega),Nat.xor_self]
   rw[split2,xs_one (f:=fun j=>if j=i then a r i else 0) (p:=i) hi (fun j _ hne=>if_neg hne),if_pos rfl]
   by_cases c:r < i
   ·rw[xs_one (f:=fun j=>if j=r/\r < i then a r i else 0) (p:=r) hr (fun j _ hne=>if_neg (fun x=>hne x.1)),if_pos ⟨rfl,c⟩,Nat.xor_self]
   ·rw[xs_congr (g:=fun _=>0) (fun j _=>if_neg (fun x=>c x.2)),xs_zero,z r (by omega) hr,Nat.xor_self]
  have E:Eq2 n n (mm n c a) m:=(mm_congr (Eq2.refl _ _ _) h.eq.symm).trans ((mm_assoc hc.sb hc.sa h.sm).symm.trans ((mm_congr hc.l (Eq2.refl _ _ _)).trans (one_mm h.sm)))
  intro r hr
  have sV:Small n 1 (fun j _=>if j < i then a j i else if j=i then 1 else 0):=fun j _ hj _=>by
   show (if j < i then a j i else if j=i then 1 else 0) < 256
   split
   ·exact h.sa j i hj hi
   ·split <;> decide
  have e1:=(mm_congr (n:=n) (m:=1) E (Eq2.refl n 1 (fun j _=>if j < i then a j i else if j=i then 1 else 0))) r 0 hr (by decide)
  have e2:=(mm_assoc (m:=1) hc.sb h.sa sV) r 0 hr (by decide)
  show mm n m (fun j _=>if j < i then a j i else if j=i then 1 else 0) r 0=0
  rw[<- e1,e2]
  show xs (fun t=>M.mul (c r t) (mm n a (fun j _=>if j < i then a j i else if j=i then 1 else 0) t 0)) n=0
  rw[xs_congr (g:=fun _=>0) (fun t ht=>by
   have:=av t ht
   show M.mul (c r t) (xs (fun j=>M.mul (a t j) (if j < i then a j i else if j=i then 1 else 0)) n)=0
   rw[this,M.mul_zero]),xs_zero]
theorem inv_or {n:Nat} {m:Nat->Nat->Nat} (sm:Small n n m) (hk:¬ Kernel n m):∃ c,Inv n m c:=by
 have main:∀ i,i<=n->∃ a b,Struck n m a b/\Low n i a:=by
  intro i
  induction i with
  | zero=>exact fun _=>⟨_,_,Struck.start sm,Low.zero n m⟩
  | succ i ih =>
    intro hi
    obtain⟨a,b,h,l⟩:=ih (by omega)
    by_cases e:∃ p,i<=p/\p < n/\a p i ≠ 0
    ·obtain⟨p,hp,hpn,hne⟩:=e
     have h1:=h.swap (k:=i) (s:=p) (by omega) hpn
     have l1:=l.swap (k:=i) (s:=p) (by omega) hpn (Nat.le_refl _) hp
     have a1:(fun r j=>a (if r=i then p else if r=p then i else r) j) i i=a p i:=by show a (if i=i then p else _) i=_;rw[if_pos rfl]
     have s256:a p i < 256:=h.sa p i hpn (by omega)
     have h2:=h1.scale (k:=i) (x:=M.inv (a p i)) (y:=a p i) (M.inv_lt _) s256 (M.inv_mul s256 (by omega))
     have l2:=l1.scale (k:=i) (x:=M.inv (a p i)) (Nat.le_refl _)
     obtain⟨a',b',h',l',o',z'⟩:=Struck.clear (by omega) h2 l2 (by
      show (if i=i then M.mul (M.inv (a p i)) (a (if i=i then p else _) i) else _)=1
      rw[if_pos rfl,if_pos rfl]
      exact M.inv_mul s256 (by omega)) n (Nat.le_refl _)
     refine⟨a',b',h',l'.next fun r hr=>?_⟩
     unfold one
     by_cases c:r=i
     ·subst c;rw[if_pos rfl];exact o'
     ·rw[if_neg c];exact z' r hr c
    ·refine absurd (h.kernel l (by omega) fun k hk hkn=>?_) hk
     rcases Nat.eq_zero_or_pos (a k i) with c | c
     ·exact c
     ·exact absurd ⟨k,hk,hkn,by omega⟩ e
 obtain⟨a,b,h,l⟩:=main n (Nat.le_refl _)
 exact⟨b,h.done l.all⟩
theorem gen_inv {k n:Nat} (hn:n<=255) (hkn:k<=n) (r:Nat->Nat) (hr:∀ i,i < k->r i < n) (inj:∀ i j,i < k->j < k->r i=r j->i=j):∃ c,Inv k (fun i j=>gen k (r i) j) c:=by
 refine inv_or (fun i j _ _=>gen_lt _ _ _) ?_
 rintro ⟨v,hv,⟨j,hj,hne⟩,h⟩
 exact hne (gen_kernel hn r hr inj hkn v hv h j hj)
end MX
open Go.RowKit
theorem run_copy_vec {B:Nat} {w:World} {d s:Value} {xs ys:List Nat} (hd:Own B w d xs) (hs:Vec w s ys) (hl:ys.length=xs.length) (ty:TypeId) :
 ∃ w',(Builtin.copy_ #[26,26] ty #[d,s]).run Tryz.prog w=.ok (goInt xs.length) w'/\Own B w' d ys/\w.grownBy w' d.ownBlock:=by
 obtain⟨s1,s2,p,cap,rfl,s3,s4,s5⟩:=hs
 by_cases hx:xs=[]
 ·subst hx
  have:ys=[]:=List.eq_nil_of_length_eq_zero hl
  subst this
  obtain⟨p',c',rfl,_⟩:=hd.vec.form
  refine⟨w,run_copy_none (P:=Tryz.prog) w 26 26 ty 5 p' p 0 c' 0 cap Tryz.underlying26 Tryz.size5 (by simp),hd,World.grownBy.refl _ _⟩
 ·have hy:ys ≠ []:=fun e=>hx (List.eq_nil_of_length_eq_zero (by rw[<- hl,e];rfl))
  obtain⟨b,off,rfl,hc⟩:=s5 hy
  rcases hd.row.2 with ⟨rfl,hn⟩ | ⟨g,dcap,cur,rfl,hb,hg,hcc,hm,hcs,ht⟩
  ·exact absurd (List.eq_nil_of_length_eq_zero hn) hx
  ·have hr:=run_copy_row (P:=Tryz.prog) w 26 26 ty 5 g 0 xs.length dcap ⟨b,off,none⟩ ys.length cap cur 5 (ys.map bv) Tryz.underlying26 Tryz.size5 hg (by rw[List.length_map,hl];simp)
    (fun j v hj=>by
      have hj':j < ys.length:=by
       have:=(List.getElem?_eq_some_iff.1 hj).1
       simpa using this
      rw[getD_map_bv ys j hj'] at hj
      rw[add_off,hc j hj'];exact hj) (by simp;omega) (fun v hv=>by obtain⟨x,_,rfl⟩:=List.mem_map.1 hv;rfl)
   refine⟨w.setRow g (ys.map bv++cur.toList.drop xs.length).toArray,by rw[hr];simp[hl],⟨s1,s2,by simp,.inr ⟨g,dcap,_,by rw[hl],hb,setRow_heap w g cur _ 5 _ hg,by omega,hm,?_,?_⟩⟩,⟨rfl,rfl,rfl,by simp,fun k _ hk=>setRow_other w g k _ (fun e=>hk (by simp[Value.ownBlock,e]))⟩⟩
   ·simp;omega
   ·simp
theorem wpList_copy_vec {w:World} {ops:Array Oper} {rest:List Oper} {o:Oper} {a:Act} {Q:Exit->Act->World->Prop} (hgd:o.guard=none) (d s:Operand)
 (ho:o.op=.call { callee:=.builtin .copy,args:=#[d,s],argTypes:=#[26,26] }) (dv sv:Value) (hed:a.eval d=dv) (hes:a.eval s=sv)
 {B:Nat} {xs ys:List Nat} (hd:Own B w dv xs) (hs:Vec w sv ys) (hl:ys.length=xs.length)
 (h:∀ w',Own B w' dv ys->w.grownBy w' dv.ownBlock->wpList Tryz.prog ops Q rest (a.put o.dst (goInt xs.length)) w'):wpList Tryz.prog ops Q (o :: rest) a w:=by
 refine wpList_plain hgd fun K hK=>?_
 obtain⟨w',hrun,r1,r2⟩:=run_copy_vec hd hs hl o.type
 unfold Oper.wp
 simp[execOp,ho,resolve,invoke,builtin,hed,hes,hrun,Result.andThen]
 exact hK _ _ (h _ r1 r2)
theorem copied_any {w:World} {v:Value} {xs:List Nat} (hv:Vec w v xs) :
 Calls Tryz.prog 82 #[v] w fun e w'=>∃ p n c,e=.returned (.slice p n c)/\Own w.heap.size w' (.slice p n c) xs/\w.grownBy w' none:=by
 obtain⟨q,n,cap,rfl,hn⟩:=hv.opened
 have hl:n<=140737488351232:=by rw[hn];exact hv.len
 have HN:Hid (n=xs.length):=hn
 have HV:Hid (∀ w',w.grownBy w' none->Vec w' (.slice q n cap) xs):=fun w' g=>hv.keep g
 clear hn hv
 go_enter Tryz.func82,Tryz.ntmps82
 go_wp2_with (first
  | (at_make;refine wpList_make_vec rfl _ _ rfl n rfl rfl hl ?_;intro w1 p ou g1;have OU:Hid (Own w.heap.size w1 (.slice p n n) (List.replicate n 0)):=ou;have G1:Hid (w.grownBy w1 none):=g1;clear ou g1)
  | (refine wpList_copy_vec rfl _ _ rfl _ _ rfl rfl OU.out (HV.out _ G1.out) (by rw[List.length_replicate];exact HN.out.symm) ?_;intro w2 o2 g2;have O2:Hid (Own w.heap.size w2 (.slice p n n) xs):=o2;have G2:Hid (w.grownBy w2 none):=grown_new G1.out g2 (fun i e=>OU.out.lo i e);clear o2 g2))
 go_ret
 exact⟨p,n,n,rfl,O2.out,G2.out⟩
def genRow (k i:Nat):List Nat:=(List.range k).map (MX.gen k i)
theorem genRow_len (k i:Nat):(genRow k i).length=k:=by simp[genRow]
theorem genRow_get {k i j:Nat} (h:j < k):(genRow k i).getD j 0=MX.gen k i j:=gd_map _ h
theorem genRow_low {k i:Nat} (h:i < k):(List.replicate k 0).set i 1=genRow k i:=by
 apply List.ext_getElem
 ·simp[genRow]
 ·intro j h1 h2
  have hj:j < k:=by simpa using h1
  by_cases e:i=j
  ·subst e;simp[genRow,MX.gen,MX.one,h]
  ·simp[genRow,MX.gen,MX.one,h,e]
set_option maxHeartbeats 1600000 in
theorem row_any (k i:Nat) (w:World) (hk:k<=255) (hi:i < 256) :
 Calls Tryz.prog 86 #[.int .i64 (k:Int),.int .i64 (i:Int)] w fun e w'=>∃ p n c,e=.returned (.slice p n c)/\Own w.heap.size w' (.slice p n c) (genRow k i)/\w.grownBy w' none:=by
 by_cases hlow:i < k
 ·have i1:(i:Int) < (k:Int):=by omega
  have i3:(0:Int)<=(i:Int):=by omega
  go_enter Tryz.func86,Tryz.ntmps86
  go_wp2_with (at_make;refine wpList_make_vec rfl _ _ rfl k rfl rfl (by omega) ?_;intro w1 p ou g1;obtain⟨g,rfl,hnn,hc,hf,h1,hset,hgr⟩:=ou.spot (k:=i) (by rw[List.length_replicate];exact hlow);have HS:Hid _:=hset 1 (by decide);have HG:Hid (w.grownBy (w1.setCell ⟨g,i,none⟩ (.int .u8 1)) none):=grown_new g1 (hgr _) (fun r e=>ou.lo r e);clear hset hgr ou g1 hnn h1)
  go_ret
  exact⟨_,k,k,rfl,by have h:=HS.out;rw[genRow_low hlow] at h;exact h,HG.out⟩
 ·have i1:¬ (i:Int) < (k:Int):=by omega
  go_enter Tryz.func86,Tryz.ntmps86
  go_wp2_with (at_make;refine wpList_make_vec rfl _ _ rfl k rfl rfl (by omega) ?_;intro w1 p ou g1;have OU:Hid (Own w.heap.size w1 (.slice p k k) (mix (MX.gen k i) (List.replicate k 0) 0)):=(by rw[mix_zero];exact ou);have G1:Hid (w.grownBy w1 none):=g1;clear ou g1)
  go_loopw [18] (fun ti wr=>∃ j:Nat,j<=k/\ti=.int .i64 j/\Hid (Own w.heap.size wr (.slice p k k) (mix (MX.gen k i) (List.replicate k 0) j))/\Hid (w.grownBy wr none)) (fun ti _=>k - (intOf ti).toNat)
  case atStart=>exact⟨0,by omega,rfl,OU,G1⟩
  case round =>
   clear OU G1
   obtain⟨j,hj,rfl,OK,GK⟩:=hrel
   by_cases hlt:j < k
   ·have i2:(j:Int) < (k:Int):=by omega
    have i3:(0:Int)<=(j:Int):=by omega
    have hL:j < (mix (MX.gen k i) (List.replicate k 0) j).length:=by rw[mix_len];simp;omega
    have hgen:MX.gen k i j=M.inv (i ^^^ j):=by unfold MX.gen;rw[if_neg hlow]
    have HM:Hid ((mix (MX.gen k i) (List.replicate k 0) j).set j (M.inv (i ^^^ j))=mix (MX.gen k i) (List.replicate k 0) (j+1)):=by
     show _=_
     rw[<- hgen];exact mix_set _ _ _
    have HL:Hid (j < (mix (MX.gen k i) (List.replicate k 0) j).length):=hL
    have hx:i ^^^ j < 256:=M.xor_lt hi (by omega)
    have h0:0 < i ^^^ j:=MX.xor_ne (by omega)
    have AA:Hid (∀ w,Calls Tryz.prog 94 #[.int .u8 (i:Int),.int .u8 (j:Int)] w fun e w'=>e=.returned (.int .u8 ((i ^^^ j:Nat):Int))/\w'=w):=fun w=>add_any _ _ w (by omega) (by omega) (by omega) (by omega)
    have II:Hid (∀ w,Calls Tryz.prog 95 #[.int .u8 ((i ^^^ j:Nat):Int)] w fun e w'=>e=.returned (.tuple #[.int .u8 ((M.inv (i ^^^ j):Nat):Int),.int .i64 0])/\w.grownBy w' none):=fun w=>inv_any _ w (by omega) (by omega)
    have hI:M.inv (i ^^^ j) < 256:=M.inv_lt _
    generalize M.inv (i ^^^ j)=y at *
    generalize i ^^^ j=x at *
    generalize mix (MX.gen k i) (List.replicate k 0) j=XK at *
    clear hgen hL
    obtain⟨g,rfl,hz,_⟩:=OK.out.spot (k:=j) HL.out
    clear hz
    go_wp2_with (first
     | (go_at_call 94;refine (AA.out _).mono ?_;rintro e w1 ⟨rfl,hw⟩;obtain rfl:=hw.symm;clear hw)
     | (go_at_call 95;refine (II.out _).mono ?_;rintro e w2 ⟨rfl,g2⟩;obtain⟨g',e',hnn,hc,hf,h1,hset,hgr⟩:=(OK.out.keep g2).spot (k:=j) HL.out;obtain rfl:g=g':=(by injection e' with e';injection e' with e');have HS:Hid _:=hset _ hI;have HG:Hid (w.grownBy (w2.setCell ⟨g,j,none⟩ (.int .u8 (y:Int))) none):=grown_new (grown_trans GK.out g2) (hgr _) (fun r e=>OK.out.lo r e);clear hset hgr g2 e' hnn h1))
    go_roundw
    case rel=>exact⟨j+1,by omega,by go_num,by rw[<- HM.out];exact HS,HG⟩
    case measure=>simp[intOf];omega
   ·have hjk:j=k:=by omega
    subst hjk
    go_wp2
    go_ret
    have h:=OK.out
    have ha:=mix_all (MX.gen j i) (List.replicate j 0)
    rw[List.length_replicate] at ha
    rw[ha] at h
    exact⟨p,j,j,rfl,h,GK.out⟩
theorem gb_setRow {a b:World} (h:a.grownBy b none) {g:Nat} (hg:a.heap.size<=g) (c:Array Value):a.grownBy (b.setRow g c) none :=
 grown_new h (row:=some g) ⟨rfl,rfl,rfl,by simp,fun k _ hk=>setRow_other b g k _ (fun e=>hk (by simp[e]))⟩ (fun i e=>by have:=Option.some.inj e;omega)
theorem Vec.tail_a {w:World} {b off len cap:Nat} {xs:List Nat} (h:Vec w (.slice (some ⟨b,off,none⟩) len cap) xs) {n:Nat} (hn:n<=xs.length):Vec w (.slice (some ⟨b,off+n,none⟩) (len - n) (cap - n)) (xs.drop n):=by
 obtain⟨h1,h2,p',cap',e,h3,h4,h5⟩:=h
 injection e with e1 e2 e3
 subst e3
 have hl:(xs.drop n).length=len - n:=by simp;omega
 refine⟨fun x hx=>h1 x (List.mem_of_mem_drop hx),by omega,_,_,by rw[hl],by omega,by omega,fun hne=>⟨b,off+n,rfl,fun j hj=>?_⟩⟩
 rw[hl] at hj
 obtain⟨b',off',e',hc⟩:=h5 (fun e=>hne (by rw[e];simp))
 rw[<- e1] at e'
 injection e' with e'
 injection e' with e3 e4
 subst e3
 subst e4
 rw[Nat.add_assoc,hc (n+j) (by omega)]
 simp[List.getD]
def rowOf (xs:List Nat):Array Value:=(xs.map bv).toArray
theorem rowOf_size (xs:List Nat):(rowOf xs).size=xs.length:=by simp[rowOf]
theorem rowOf_get (xs:List Nat) {i:Nat} (h:i < xs.length):(rowOf xs)[i]?=some (.int .u8 ((xs.getD i 0:Nat):Int)):=by
 simp[rowOf,List.getD,h]
theorem rowOf_set (xs:List Nat) (i z:Nat):(rowOf xs).setIfInBounds i (.int .u8 (z:Int))=rowOf (xs.set i z):=by
 simp[rowOf,List.map_set]
theorem rowOf_one (xs:List Nat):(rowOf xs).all (·.oneCell')=true:=by
 rw[Array.all_eq_true_iff_forall_mem]
 intro v hv
 simp only[rowOf,List.mem_toArray,List.mem_map] at hv
 obtain⟨x,_,rfl⟩:=hv
 rfl
structure Arr (T:TypeId) (B:Nat) (w:World) (v:Value) (xs:List Nat):Prop where
 small:∀ x ∈ xs,x < 256
 len:xs.length<=140737488351232
 row:w.ownsRow B T 1 v xs.length (xs.map bv)
theorem Arr.lo {T:TypeId} {B:Nat} {w:World} {v:Value} {xs:List Nat} (h:Arr T B w v xs):Lo B v:=fun k hk=>(h.row.lt k hk).1
theorem Arr.kept {T:TypeId} {B:Nat} {w w':World} {v:Value} {xs:List Nat} {row:Option Nat} (h:Arr T B w v xs) (g:w.grownBy w' row) (ne:v.ownBlock=none\/v.ownBlock ≠ row):Arr T B w' v xs :=
 ⟨h.small,h.len,h.row.kept g ne⟩
theorem Arr.keep {T:TypeId} {B:Nat} {w w':World} {v:Value} {xs:List Nat} (h:Arr T B w v xs) (g:w.grownBy w' none):Arr T B w' v xs :=
 h.kept g (by cases h:v.ownBlock <;> simp)
theorem Arr.down {T:TypeId} {B B':Nat} {w:World} {v:Value} {xs:List Nat} (h:Arr T B' w v xs) (hB:B<=B'):Arr T B w v xs :=
 ⟨h.small,h.len,h.row.1,by
   rcases h.row.2 with h | ⟨g,cp,cur,a1,a2,a3⟩
   ·exact .inl h
   ·exact .inr ⟨g,cp,cur,a1,by omega,a3⟩⟩
theorem Own.arr {B:Nat} {w:World} {v:Value} {xs:List Nat} (h:Own B w v xs):Arr 5 B w v xs:=⟨h.small,h.len,h.row⟩
theorem Arr.vec {T:TypeId} {B:Nat} {w:World} {v:Value} {xs:List Nat} (h:Arr T B w v xs):Vec w v xs:=by
 refine⟨h.small,h.len,?_⟩
 have hr:=h.row
 rcases h.row.2 with ⟨rfl,hn⟩ | ⟨g,cap,cur,rfl,hb,hg,hc,hm,hs,ht⟩
 ·have:xs=[]:=List.eq_nil_of_length_eq_zero hn
  subst this
  exact⟨none,0,rfl,Nat.le_refl _,by decide,fun h=>absurd rfl h⟩
 ·refine⟨some ⟨g,0,none⟩,cap,rfl,hc,hm,fun _=>⟨g,0,rfl,fun j hj=>?_⟩⟩
  have:=hr.cells (g:=g) rfl j _ (getD_map_bv xs j hj)
  rwa [add_at] at this
theorem Arr.whole {T:TypeId} {B g n:Nat} {w:World} {xs:List Nat} (h:w.heap[g]?=some (.cells (rowOf xs) T (0,0))) (hB:B<=g) (hn:n=xs.length) (hx:∀ x ∈ xs,x < 256) (hl:xs.length<=140737488351232) :
 Arr T B w (.slice (some ⟨g,0,none⟩) n n) xs:=by
 subst hn
 exact⟨hx,hl,by simp,.inr ⟨g,_,_,rfl,hB,h,Nat.le_refl _,by unfold maxLen;omega,by simp[rowOf],by simp[rowOf,List.take_of_length_le]⟩⟩
theorem run_copy_part {w:World} {T:TypeId} {g o dLen dCap:Nat} {s:Value} {cur ys:List Nat} (hg:w.heap[g]?=some (.cells (rowOf cur) T (0,0))) (hs:Vec w s ys) (hd:ys.length<=dLen) (hf:o+ys.length<=cur.length) (ty:TypeId) :
 ∃ w',(Builtin.copy_ #[26,26] ty #[.slice (some ⟨g,o,none⟩) dLen dCap,s]).run Tryz.prog w=.ok (goInt ys.length) w'/\w'.heap[g]?=some (.cells (rowOf (cur.take o++ys++cur.drop (o+ys.length))) T (0,0))/\w.grownBy w' (some g):=by
 obtain⟨s1,s2,p,cap,rfl,s3,s4,s5⟩:=hs
 by_cases hy:ys=[]
 ·subst hy
  refine⟨w,run_copy_none (P:=Tryz.prog) w 26 26 ty 5 _ p dLen dCap 0 cap Tryz.underlying26 Tryz.size5 (by simp),?_,World.grownBy.refl _ _⟩
  rw[hg];simp
 ·obtain⟨b,off,rfl,hc⟩:=s5 hy
  have hr:=run_copy_row (P:=Tryz.prog) w 26 26 ty 5 g o dLen dCap ⟨b,off,none⟩ ys.length cap (rowOf cur) T (ys.map bv) Tryz.underlying26 Tryz.size5 hg (by rw[List.length_map];exact (Nat.min_eq_left hd).symm)
   (fun j v hj=>by
     have hj':j < ys.length:=by
      have:=(List.getElem?_eq_some_iff.1 hj).1
      simpa using this
     rw[getD_map_bv ys j hj'] at hj
     rw[add_off,hc j hj'];exact hj) (by simp[rowOf];omega) (fun v hv=>by obtain⟨x,_,rfl⟩:=List.mem_map.1 hv;rfl)
  refine⟨w.setRow g (rowOf (cur.take o++ys++cur.drop (o+ys.length))),?_,setRow_heap w g _ _ T _ hg,⟨rfl,rfl,rfl,by simp,fun k _ hk=>setRow_other w g k _ (fun e=>hk (by simp[e]))⟩⟩
  rw[hr]
  simp[rowOf,List.map_take,List.map_drop]
theorem wpList_copy_part {w:World} {ops:Array Oper} {rest:List Oper} {o:Oper} {a:Act} {Q:Exit->Act->World->Prop} (hgd:o.guard=none) (d s:Operand)
 (ho:o.op=.call { callee:=.builtin .copy,args:=#[d,s],argTypes:=#[26,26] }) (sv:Value) {T:TypeId} {g f dLen dCap:Nat} {cur ys:List Nat} (hed:a.eval d=.slice (some ⟨g,f,none⟩) dLen dCap) (hes:a.eval s=sv)
 (hg:w.heap[g]?=some (.cells (rowOf cur) T (0,0))) (hs:Vec w sv ys) (hd:ys.length<=dLen) (hf:f+ys.length<=cur.length)
 (h:∀ w',w'.heap[g]?=some (.cells (rowOf (cur.take f++ys++cur.drop (f+ys.length))) T (0,0))->w.grownBy w' (some g)->wpList Tryz.prog ops Q rest (a.put o.dst (goInt ys.length)) w'):wpList Tryz.prog ops Q (o :: rest) a w:=by
 refine wpList_plain hgd fun K hK=>?_
 obtain⟨w',hrun,r1,r2⟩:=run_copy_part (dCap:=dCap) hg hs hd hf o.type
 unfold Oper.wp
 simp[execOp,ho,resolve,invoke,builtin,hed,hes,hrun,Result.andThen]
 exact hK _ _ (h _ r1 r2)
theorem step_copy_part {ops:Array Oper} {o:Oper} {a:Act} {w:World} {K:Act->World->Prop} {Q:Exit->Act->World->Prop} {E:Prop} (hgd:o.guard=none) (d s:Operand)
 (ho:o.op=.call { callee:=.builtin .copy,args:=#[d,s],argTypes:=#[26,26] }) (sv:Value) {T:TypeId} {g f dLen dCap:Nat} {cur ys:List Nat} (hed:a.eval d=.slice (some ⟨g,f,none⟩) dLen dCap) (hes:a.eval s=sv)
 (hg:w.heap[g]?=some (.cells (rowOf cur) T (0,0))) (hs:Vec w sv ys) (hd:ys.length<=dLen) (hf:f+ys.length<=cur.length)
 (h:∀ w',w'.heap[g]?=some (.cells (rowOf (cur.take f++ys++cur.drop (f+ys.length))) T (0,0))->w.grownBy w' (some g)->K (a.put o.dst (goInt ys.length)) w') :
 if Region.wanted o (yielded ops a.tmps)=true then Oper.wp Tryz.prog o a w K Q else E:=by
 have hw:Region.wanted o (yielded ops a.tmps)=true:=by simp[Region.wanted,hgd]
 rw[if_pos hw]
 obtain⟨w',hrun,r1,r2⟩:=run_copy_part (dCap:=dCap) hg hs hd hf o.type
 unfold Oper.wp
 simp[execOp,ho,resolve,invoke,builtin,hed,hes,hrun,Result.andThen]
 exact h _ r1 r2
end Go.Proofs.YtlklmhojadlncaaGreat
