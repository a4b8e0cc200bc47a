/- Packed: RefRows, TwoM, TwoS, RefInv. -/
import Derived.Test.YtaalagkbpeinkaaGreatMp17
set_option maxRecDepth 100000
namespace Go.Proofs.YtaalagkbpeinkaaGreat
open Go.RowKit
def rowsUp (X:List (List Nat)) (ls:List Int) (k:Nat):List (List Nat):=(List.range k).map fun j=>X.getD (ls.getD j 0).toNat []
theorem rowsUp_next (X:List (List Nat)) (ls:List Int) (k:Nat):rowsUp X ls k++[X.getD (ls.getD k 0).toNat []]=rowsUp X ls (k+1):=by simp[rowsUp,List.range_succ]
theorem rowsUp_all (X:List (List Nat)) (ls:List Int):rowsUp X ls ls.length=rowsList X ls:=by
 rw[<- rowsTo_all]
 exact List.map_congr_left fun j hj=>by simp[List.mem_range.1 hj]
set_option maxHeartbeats 3200000 in
theorem refRows_any {w:World} {m l:Value} {vs:List Value} {X:List (List Nat)} {ls:List Int} (mr:Mat w m vs X) (hl:IVec w l ls) :
 Calls Tryz.prog 137 #[m,l] w (RowsEnd X ls w):=by
 obtain⟨q,N,cap,rfl,hN⟩:=mr.row.opened
 obtain⟨ql,L,capl,rfl,hL⟩:=hl.opened
 have MA:=refMay_any mr
 cases hx:mayB X with
 | false =>
   rw[hx] at MA
   have HA:Hid (∀ r,r=Value.slice q N cap->Calls Tryz.prog 148 #[r] w fun e w'=>e=.returned (.bool false)/\w'=w):=fun r e=>e ▸ MA
   have NO:Hid (¬ rowsOK X ls):=fun h=>by have:=h.1;rw[hx] at this;cases this
   clear MA hN hL mr hl
   go_enter Tryz.func137,Tryz.ntmps137
   go_wp2_with (go_at_call 148;refine (HA.out _ (by with_reducible rfl)).mono ?_;rintro e w1 ⟨rfl,hw⟩;obtain rfl:=hw.symm;clear hw)
   go_ret2
   exact⟨World.grownBy.refl _ _,.inr ⟨NO.out,rfl⟩⟩
 | true =>
   rw[hx] at MA
   have HA:Hid (∀ r,r=Value.slice q N cap->Calls Tryz.prog 148 #[r] w fun e w'=>e=.returned (.bool true)/\w'=w):=fun r e=>e ▸ MA
   have hLl:=hl.len
   by_cases h0:L=0
   ·have hb:((L:Int)==0)=true:=by simp[h0]
    have NO:Hid (¬ rowsOK X ls):=fun h=>by have:=h.2.1;omega
    clear MA hN hL mr hl h0 hLl
    go_enter Tryz.func137,Tryz.ntmps137
    go_wp2_with (go_at_call 148;refine (HA.out _ (by with_reducible rfl)).mono ?_;rintro e w1 ⟨rfl,hw⟩;obtain rfl:=hw.symm;clear hw)
    go_ret2
    exact⟨World.grownBy.refl _ _,.inr ⟨NO.out,rfl⟩⟩
   ·have hb:((L:Int)==0)=false:=by simp;omega
    by_cases h255:255 < L
    ·have i255:(255:Int) < (L:Int):=by omega
     have NO:Hid (¬ rowsOK X ls):=fun h=>by have:=h.2.2.1;omega
     clear MA hN hL mr hl h0 hLl
     go_enter Tryz.func137,Tryz.ntmps137
     go_wp2_with (go_at_call 148;refine (HA.out _ (by with_reducible rfl)).mono ?_;rintro e w1 ⟨rfl,hw⟩;obtain rfl:=hw.symm;clear hw)
     go_ret2
     exact⟨World.grownBy.refl _ _,.inr ⟨NO.out,rfl⟩⟩
    ·have i255:¬ (255:Int) < (L:Int):=by omega
     have sx:=may_spec hx
     have hsa:=mr.same
     have HN:Hid (N=vs.length/\N=X.length/\L=ls.length/\1<=L/\L<=255/\N<=255):=⟨hN,by omega,hL,by omega,by omega,by omega⟩
     have KM:Hid (∀ w',w.grownBy w' none->Mat w' (.slice q N cap) vs X):=fun w' g=>mr.keep g
     have KL:Hid (∀ w',w.grownBy w' none->IVec w' (.slice ql L capl) ls):=fun w' g=>hl.keep g
     have HX:Hid (mayB X=true):=hx
     have hL255:L<=255:=by omega
     clear MA hN hL mr hl sx hsa hx hLl h0 h255
     go_enter Tryz.func137,Tryz.ntmps137
     go_wp2_with (go_at_call 148;refine (HA.out _ (by with_reducible rfl)).mono ?_;rintro e w1 ⟨rfl,hw⟩;obtain rfl:=hw.symm;clear hw)
     clear HA hb i255
     go_loopw [6,7] (fun tv ti wr=>∃ (k:Nat) (us:List Value),k<=L/\ti=.int .i64 k/\Hid (us.length=k)/\Hid (OwnMat w.heap.size wr tv us (rowsUp X ls k))/\Hid (∀ j,j < k->0<=ls.getD j 0/\ls.getD j 0 < X.length)/\Hid (w.grownBy wr none)) (fun _ ti _=>L - (intOf ti).toNat)
     case atStart=>exact⟨0,[],by omega,rfl,rfl,OwnMat.nil _ _,(fun j hj=>by omega),World.grownBy.refl _ _⟩
     case round =>
      obtain⟨k,us,hk,rfl,HU,OM,AL,GK⟩:=hrel
      by_cases hlt:k < L
      ·have i1:(k:Int) < (L:Int):=by omega
       have i3:(0:Int)<=(k:Int):=by omega
       have hkl:k < ls.length:=by have:=HN.out;omega
       obtain⟨bl,ol,rfl,hcl⟩:=(KL.out _ GK.out).spot (k:=k) hkl
       by_cases hin:0<=ls.getD k 0/\ls.getD k 0 < X.length
       ·have AL':Hid (∀ j,j < k+1->0<=ls.getD j 0/\ls.getD j 0 < X.length):=fun j hj=>by
         by_cases e:j=k
         ·subst e;exact hin
         ·exact AL.out j (by omega)
        obtain⟨i,hi⟩:=Int.eq_ofNat_of_zero_le hin.1
        have hiN:i < N:=by have:=HN.out;omega
        have HT:Hid (rowsUp X ls k++[X.getD i []]=rowsUp X ls (k+1)):=by have h:=rowsUp_next X ls k;rw[hi] at h;exact h
        rw[hi] at hcl
        obtain⟨b0,off,rfl,hr⟩:=(KM.out _ GK.out).row.spot (k:=i) (by have:=HN.out;omega)
        have vi:=(KM.out _ GK.out).vec i (by have:=HN.out;omega)
        obtain⟨pi,ni,ci,ei,hni⟩:=vi.opened
        rw[ei] at hr vi
        have VK:Hid (Vec wr (.slice pi ni ci) (X.getD i [])):=vi
        have HLN:Hid ((X.getD i []).length<=140737488351232):=vi.len
        have HB:Hid (w.heap.size<=wr.heap.size):=GK.out.size
        have j1:(i:Int) < (N:Int):=by omega
        have j2:(0:Int)<=(i:Int):=by omega
        have j3:¬ (N:Int)<=(i:Int):=by omega
        have j4:¬ (i:Int) < 0:=by omega
        clear AL hin hi hkl ei hni vi hiN
        generalize X.getD i []=Y at *
        generalize rowsUp X ls k=XT at *
        go_wp2_with (first
         | (at_builtin;refine wpList_append_vec rfl _ _ rfl _ _ rfl rfl (Own.nil wr.heap.size wr) VK.out (Nat.le_refl _) (by simpa using HLN.out) ?_;intro u w1 ou g1;obtain⟨pu,nu,cu,rfl,hnu⟩:=ou.vec.opened;have OU:Hid (Own wr.heap.size w1 (.slice pu nu cu) ([]++Y)):=ou;have G1:Hid (wr.grownBy w1 none):=g1;clear ou g1 hnu hr hcl)
         | (at_builtin;refine wpList_append_out rfl _ _ rfl u6 ⟨w1.heap.size,0,none⟩ rfl rfl (B:=w.heap.size) (us:=us) (u:=.slice pu nu cu) ((OM.out.keep (grown_trans G1.out (World.grownBy_alloc _ _ none))).out) (cell_new1 _ _ rfl) rfl (by have h1:=HB.out;have h2:=G1.out.size;simp;omega) (by have:=HU.out;omega) ?_;intro v' w2 oo gg at2;have HO:Hid (Out w.heap.size w2 v' (us++[.slice pu nu cu])):=oo;have HG:Hid ((w1.alloc (.cells #[.slice pu nu cu] 31)).grownBy w2 u6.ownBlock):=gg;clear oo gg at2))
        have R:Hid (OwnMat w.heap.size w2 v' (us++[.slice pu nu cu]) (rowsUp X ls (k+1))/\w.grownBy w2 none):=by
         rw[<- HT.out]
         refine⟨(OM.out.keep (grown_trans G1.out (World.grownBy_alloc _ _ none))).more ((OU.out.down HB.out).keep (World.grownBy_alloc _ _ none)) (by have:=HU.out;omega) (by simpa using HO.out.row) HG.out,?_⟩
         exact grown_new (grown_trans GK.out (grown_trans G1.out (World.grownBy_alloc _ _ none))) HG.out OM.out.lo
        clear HO HG OM OU G1 HT VK HB HLN
        go_roundw
        case rel=>exact⟨k+1,us++[Value.slice pu nu cu],by omega,by go_num,show _=_ by simpa using HU.out,R.out.1,AL'.out,R.out.2⟩
        case measure=>simp[intOf];omega
       ·have NO:Hid (¬ rowsOK X ls):=fun h=>hin (h.2.2.2 k hkl)
        have hXN:(X.length:Int)=(N:Int):=by have:=HN.out;omega
        rw[hXN] at hin
        generalize ls.getD k 0=r at *
        by_cases hneg:r < 0
        ·clear hin hkl hXN
         go_wp2
         go_ret2
         exact⟨GK.out,.inr ⟨NO.out,rfl⟩⟩
        ·have hge:(N:Int)<=r:=by omega
         clear hin hkl hXN
         go_wp2
         go_ret2
         exact⟨GK.out,.inr ⟨NO.out,rfl⟩⟩
      ·have hkn:L=k:=by omega
       subst hkn
       have OKK:Hid (rowsOK X ls/\rowsUp X ls L=rowsList X ls):=⟨⟨HX.out,by have:=HN.out;omega,by have:=HN.out;omega,fun j hj=>AL.out j (by have:=HN.out;omega)⟩,by rw[HN.out.2.2.1];exact rowsUp_all X ls⟩
       have h0:=OM.out
       rw[OKK.out.2] at h0
       have OM2:Hid (OwnMat w.heap.size wr u6 us (rowsList X ls)):=h0
       obtain⟨pv,nv,cv,hv,hq⟩:=h0.mat.row.opened
       clear h0 OM hq
       subst hv
       go_wp2
       go_ret2
       exact⟨GK.out,.inl ⟨OKK.out.1,_,_,_,us,rfl,OM2.out⟩⟩
theorem refRows_yes {w:World} {m l:Value} {vs:List Value} {X:List (List Nat)} {ls:List Int} (mr:Mat w m vs X) (hl:IVec w l ls) (h:rowsOK X ls) :
 Calls Tryz.prog 137 #[m,l] w fun e w'=>∃ p n c us,e=.returned (.tuple #[.slice p n c,.int .i64 0])/\OwnMat w.heap.size w' (.slice p n c) us (rowsList X ls)/\w.grownBy w' none :=
 (refRows_any mr hl).mono fun e w' k=>by
   rcases k with ⟨g,⟨_,p,n,c,us,rfl,om⟩ | ⟨no,_⟩⟩
   ·exact⟨p,n,c,us,rfl,om,g⟩
   ·exact absurd h no
set_option maxHeartbeats 3200000 in
theorem refCopy_sep {w:World} {r:Value} {vs:List Value} {X:List (List Nat)} (mr:Mat w r vs X) :
 Calls Tryz.prog 149 #[r] w fun e w'=>∃ v us,e=.returned v/\OwnMat w.heap.size w' v us X/\Sep us/\w.grownBy w' none:=by
 obtain⟨q,N,cap,rfl,hN⟩:=mr.row.opened
 have hNl:N * 24<=140737488351232:=by rw[hN];exact mr.row.len
 have MR:Hid (Mat w (.slice q N cap) vs X):=mr
 have HN:Hid (N=vs.length/\N=X.length):=⟨hN,by have:=mr.same;omega⟩
 clear mr hN
 go_enter Tryz.func149,Tryz.ntmps149
 go_wp2_with fail
 go_loopw [3,4] (fun tv ti wr=>∃ (k:Nat) (us:List Value),k<=N/\ti=.int .i64 k/\Hid (us.length=k)/\Hid (OwnMat w.heap.size wr tv us (X.take k))/\Hid (Sep us)/\Hid (w.grownBy wr none)) (fun _ ti _=>N - (intOf ti).toNat)
 case atStart=>exact⟨0,[],by omega,rfl,rfl,OwnMat.nil _ _,(fun i j hi=>by simp at hi),World.grownBy.refl _ _⟩
 case round =>
  obtain⟨k,us,hk,rfl,HU,OM,SP,GK⟩:=hrel
  by_cases hlt:k < N
  ·obtain⟨b,off,rfl,hr0⟩:=MR.out.row.spot (k:=k) (by have:=HN.out;omega)
   obtain⟨pk,nk,ck,ek,hnk⟩:=(MR.out.vec k (by have:=HN.out;omega)).opened
   have VK:Hid (Vec w (.slice pk nk ck) (X.getD k [])):=by rw[<- ek];exact MR.out.vec k (by have:=HN.out;omega)
   rw[ek] at hr0
   have hr:=GK.out.cell hr0 (by simp)
   have hkX:k < X.length:=by have:=HN.out;omega
   have ht0:X.take k++[X.getD k []]=X.take (k+1):=by
    rw[List.take_succ_eq_append_getElem hkX]
    simp[List.getD,hkX]
   have HT:Hid (X.take k++[X.getD k []]=X.take (k+1)):=ht0
   clear hkX ht0
   have HL:Hid ((X.getD k []).length<=140737488351232):=VK.out.len
   clear ek hnk hr0
   generalize X.take k=XT at *
   generalize X.getD k []=Y at *
   have i1:(k:Int) < (N:Int):=by omega
   have i3:(0:Int)<=(k:Int):=by omega
   have HB:Hid (w.heap.size<=wr.heap.size):=GK.out.size
   go_wp2_with (first
    | (at_builtin;refine wpList_append_vec rfl _ _ rfl _ _ rfl rfl (Own.nil wr.heap.size wr) (VK.out.keep GK.out) (Nat.le_refl _) (by simpa using HL.out) ?_;intro u w1 ou g1;obtain⟨pu,nu,cu,rfl,hnu⟩:=ou.vec.opened;have OU:Hid (Own wr.heap.size w1 (.slice pu nu cu) ([]++Y)):=ou;have G1:Hid (wr.grownBy w1 none):=g1;clear ou g1 hnu hr)
    | (at_builtin;refine wpList_append_out rfl _ _ rfl u3 ⟨w1.heap.size,0,none⟩ rfl rfl (B:=w.heap.size) (us:=us) (u:=.slice pu nu cu) ((OM.out.keep (grown_trans G1.out (World.grownBy_alloc _ _ none))).out) (by simp) rfl (by have h1:=HB.out;have h2:=G1.out.size;simp;omega) (by have:=HU.out;omega) ?_;intro v' w2 oo gg at2;have HO:Hid _:=oo;have HG:Hid _:=gg;clear oo gg at2))
   have R:Hid (OwnMat w.heap.size w2 v' (us++[.slice pu nu cu]) (X.take (k+1))/\Sep (us++[.slice pu nu cu])/\w.grownBy w2 none):=by
    rw[<- HT.out]
    refine⟨(OM.out.keep (grown_trans G1.out (World.grownBy_alloc _ _ none))).more ((OU.out.down HB.out).keep (World.grownBy_alloc _ _ none)) (by have:=HU.out;omega) (by simpa using HO.out.row) HG.out,SP.out.more (H:=wr.heap.size) OM.out.hiRow OU.out.lo,?_⟩
    exact grown_new (grown_trans GK.out (grown_trans G1.out (World.grownBy_alloc _ _ none))) HG.out OM.out.lo
   clear HO HG OM OU G1 HT VK HB SP
   go_roundw
   case rel=>exact⟨k+1,us++[Value.slice pu nu cu],by omega,by go_num,show _=_ by simpa using HU.out,R.out.1,R.out.2.1,R.out.2.2⟩
   case measure=>simp[intOf];omega
  ·have hkN:N=k:=by omega
   subst hkN
   have HX:X.take N=X:=by rw[List.take_of_length_le];have:=HN.out;omega
   go_wp2
   go_ret
   exact⟨_,us,rfl,by have h:=OM.out;rw[HX] at h;exact h,SP.out,GK.out⟩
def strike2 (A:List (List Nat)) (k s y:Nat):List (List Nat):=A.set k ((List.range (A.getD k []).length).map fun j=>(A.getD k []).getD j 0 ^^^ M.mul ((A.getD s []).getD j 0) y)
def scale2 (A:List (List Nat)) (k x:Nat):List (List Nat):=A.set k ((List.range (A.getD k []).length).map fun j=>M.mul ((A.getD k []).getD j 0) x)
theorem strike2_at {A:List (List Nat)} {n k s y:Nat} (h:Shape A n n) (hk:k < n) (_:s < n) (hy:y < 256) (sm:∀ j,j < n->at2 A s j < 256) {r j:Nat} (hj:j < n) :
 at2 (strike2 A k s y) r j=if r=k then at2 A k j ^^^ M.mul y (at2 A s j) else at2 A r j:=by
 unfold strike2
 rw[at2_set (by rw[h.len];exact hk)]
 by_cases e:r=k
 ·subst e
  simp only[if_true]
  rw[gd_map _ (by rw[h.row r hk];exact hj)]
  show at2 A r j ^^^ M.mul (at2 A s j) y=_
  rw[M.mul_comm (sm j hj) hy]
 ·rw[if_neg e,if_neg e]
theorem strike2_shape {A:List (List Nat)} {n k s y:Nat} (h:Shape A n n) (hk:k < n):Shape (strike2 A k s y) n n:=h.set (by rw[List.length_map,List.length_range];exact h.row k hk)
theorem scale2_at {A:List (List Nat)} {n k x:Nat} (h:Shape A n n) (hk:k < n) (hx:x < 256) (sm:∀ j,j < n->at2 A k j < 256) {r j:Nat} (hj:j < n) :
 at2 (scale2 A k x) r j=if r=k then M.mul x (at2 A k j) else at2 A r j:=by
 unfold scale2
 rw[at2_set (by rw[h.len];exact hk)]
 by_cases e:r=k
 ·subst e
  simp only[if_true]
  rw[gd_map _ (by rw[h.row r hk];exact hj)]
  show M.mul (at2 A r j) x=_
  rw[M.mul_comm (sm j hj) hx]
 ·rw[if_neg e,if_neg e]
theorem scale2_shape {A:List (List Nat)} {n k x:Nat} (h:Shape A n n) (hk:k < n):Shape (scale2 A k x) n n:=h.set (by rw[List.length_map,List.length_range];exact h.row k hk)
structure Work2 (n:Nat) (m:Nat->Nat->Nat) (k:Nat) (A B:List (List Nat)):Prop where
 sA:Shape A n n
 sB:Shape B n n
 st:MX.Struck n m (at2 A) (at2 B)
 low:MX.Low n k (at2 A)
theorem Work2.smallA {n:Nat} {m:Nat->Nat->Nat} {k:Nat} {A B:List (List Nat)} (h:Work2 n m k A B) {i:Nat} (hi:i < n):∀ j,j < n->at2 A i j < 256:=fun j hj=>h.st.sa i j hi hj
theorem Work2.smallB {n:Nat} {m:Nat->Nat->Nat} {k:Nat} {A B:List (List Nat)} (h:Work2 n m k A B) {i:Nat} (hi:i < n):∀ j,j < n->at2 B i j < 256:=fun j hj=>by
 obtain⟨c,hc⟩:=h.st.inv
 exact hc.sa i j hi hj
theorem Work2.start {X:List (List Nat)} {n:Nat} (h:Shape X n n) (hs:∀ i j,at2 X i j < 256):Work2 n (at2 X) 0 X (idList n):=by
 have ids:Shape (idList n) n n:=⟨by simp[idList],fun j hj=>by simp[idList,List.getD,hj,idRow]⟩
 have ida:MX.Eq2 n n MX.one (at2 (idList n)):=fun i j hi hj=>by
  show _=((idList n).getD i []).getD j 0
  rw[show (idList n).getD i []=idRow n i from by simp[idList,List.getD,hi],idRow_get n i j hj]
 exact⟨h,ids,(MX.Struck.start (fun i j _ _=>hs i j)).congr (MX.Eq2.refl _ _ _) ida,MX.Low.zero _ _⟩
theorem Work2.strike {n:Nat} {m:Nat->Nat->Nat} {i:Nat} {A B:List (List Nat)} (h:Work2 n m i A B) {k s y:Nat} (hk:k < n) (hs:s < n) (hks:k ≠ s) (his:i<=s) (hin:i<=n) (hy:y < 256) :
 Work2 n m i (strike2 A k s y) (strike2 B k s y) :=
 ⟨strike2_shape h.sA hk,strike2_shape h.sB hk,(h.st.strike hy hk hs hks).congr (fun r j _ hj=>by rw[strike2_at h.sA hk hs hy (h.smallA hs) hj]) (fun r j _ hj=>by rw[strike2_at h.sB hk hs hy (h.smallB hs) hj]),
   (h.low.strike (k:=k) (y:=y) hs his).congr hin (fun r j _ hj=>by rw[strike2_at h.sA hk hs hy (h.smallA hs) hj])⟩
theorem Work2.scale {n:Nat} {m:Nat->Nat->Nat} {i:Nat} {A B:List (List Nat)} (h:Work2 n m i A B) {k x y:Nat} (hk:k < n) (hik:i<=k) (hin:i<=n) (hx:x < 256) (hy:y < 256) (hxy:M.mul x y=1) :
 Work2 n m i (scale2 A k x) (scale2 B k x) :=
 ⟨scale2_shape h.sA hk,scale2_shape h.sB hk,(h.st.scale (k:=k) hx hy hxy).congr (fun r j _ hj=>by rw[scale2_at h.sA hk hx (h.smallA hk) hj]) (fun r j _ hj=>by rw[scale2_at h.sB hk hx (h.smallB hk) hj]),
   (h.low.scale (k:=k) (x:=x) hik).congr hin (fun r j _ hj=>by rw[scale2_at h.sA hk hx (h.smallA hk) hj])⟩
structure Mid2 (n:Nat) (m:Nat->Nat->Nat) (i t:Nat) (A B:List (List Nat)):Prop where
 wk:Work2 n m i A B
 one:at2 A i i=1
 nought:∀ r,r < t->r < n->r ≠ i->at2 A r i=0
theorem Mid2.work {n:Nat} {m:Nat->Nat->Nat} {i:Nat} {A B:List (List Nat)} (h:Mid2 n m i n A B):Work2 n m (i+1) A B :=
 ⟨h.wk.sA,h.wk.sB,h.wk.st,h.wk.low.next fun r hr=>by
   unfold MX.one
   by_cases e:r=i
   ·subst e;rw[if_pos rfl];exact h.one
   ·rw[if_neg e];exact h.nought r hr hr e⟩
theorem Mid2.skip {n:Nat} {m:Nat->Nat->Nat} {i t:Nat} {A B:List (List Nat)} (h:Mid2 n m i t A B) (hz:t=i\/at2 A t i=0):Mid2 n m i (t+1) A B :=
 ⟨h.wk,h.one,fun r hr hn hne=>by
   by_cases e:r=t
   ·subst e
    rcases hz with hz | hz
    ·exact absurd hz hne
    ·exact hz
   ·exact h.nought r (by omega) hn hne⟩
theorem Mid2.strike {n:Nat} {m:Nat->Nat->Nat} {i t:Nat} {A B:List (List Nat)} (h:Mid2 n m i t A B) (hi:i < n) (ht:t < n) (hne:t ≠ i):Mid2 n m i (t+1) (strike2 A t i (at2 A t i)) (strike2 B t i (at2 A t i)):=by
 have hy:=h.wk.smallA ht i hi
 refine⟨h.wk.strike ht hi hne (Nat.le_refl _) (Nat.le_of_lt hi) hy,?_,fun r hr hn hri=>?_⟩
 ·rw[strike2_at h.wk.sA ht hi hy (h.wk.smallA hi) hi,if_neg (fun e=>hne e.symm)];exact h.one
 ·rw[strike2_at h.wk.sA ht hi hy (h.wk.smallA hi) hi]
  by_cases e:r=t
  ·subst e
   simp only[if_true]
   rw[h.one,M.mul_one hy,Nat.xor_self]
  ·rw[if_neg e];exact h.nought r (by omega) hn hri
theorem Work2.raise {n:Nat} {m:Nat->Nat->Nat} {i:Nat} {A B:List (List Nat)} (h:Work2 n m i A B) (hi:i < n) (hne:at2 A i i ≠ 0):Mid2 n m i 0 (scale2 A i (M.inv (at2 A i i))) (scale2 B i (M.inv (at2 A i i))):=by
 have hs:=h.smallA hi i hi
 have hiv:=M.inv_lt (at2 A i i)
 have hm:M.mul (M.inv (at2 A i i)) (at2 A i i)=1:=by rw[M.mul_comm hiv hs];exact M.mul_inv hs (Nat.pos_of_ne_zero hne)
 refine⟨h.scale hi (Nat.le_refl _) (Nat.le_of_lt hi) hiv hs hm,?_,fun r hr=>by omega⟩
 rw[scale2_at h.sA hi hiv (h.smallA hi) hi,if_pos rfl];exact hm
theorem Work2.lift {n:Nat} {m:Nat->Nat->Nat} {i p:Nat} {A B:List (List Nat)} (h:Work2 n m i A B) (hi:i < n) (hp:p < n) (hip:i < p) (hz:at2 A i i=0) (hne:at2 A p i ≠ 0) :
 Work2 n m i (strike2 A i p 1) (strike2 B i p 1)/\at2 (strike2 A i p 1) i i ≠ 0:=by
 refine⟨h.strike hi hp (by omega) (by omega) (Nat.le_of_lt hi) (by decide),?_⟩
 rw[strike2_at h.sA hi hp (by decide) (h.smallA hp) hi,if_pos rfl,hz,M.one_mul (h.smallA hp i hi),Nat.zero_xor]
 exact hne
theorem Work2.done {n:Nat} {m:Nat->Nat->Nat} {A B:List (List Nat)} (h:Work2 n m n A B):MX.Inv n m (at2 B):=h.st.done h.low.all
theorem Work2.none {n:Nat} {m:Nat->Nat->Nat} {k:Nat} {A B:List (List Nat)} (h:Work2 n m k A B) (hk:k < n) (z:∀ j,k<=j->j < n->at2 A j k=0):NoInv n m:=h.st.none hk h.low z
theorem OwnMat.keptHigh {B H1 r:Nat} {w w':World} {v:Value} {us:List Value} {X:List (List Nat)} (h:OwnMat B w v us X) (hv:Hi H1 v) (hu:∀ j,j < us.length->Hi H1 (us.getD j undef)) (hr:H1<=r) (g:w.grownBy w' (some r)):OwnMat B w' v us X:=by
 have ap:∀ u:Value,Hi H1 u->u.ownBlock=none\/u.ownBlock ≠ some r:=fun u hu=>by
  cases hk:u.ownBlock with
  | none=>exact .inl rfl
  | some k=>exact .inr fun e=>by have:=hu k hk;have:=Option.some.inj e;omega
 exact⟨h.len,h.row.kept g (ap _ hv),h.same,fun j hj=>(h.vec j hj).kept g (ap _ (hu j (by have:=h.same;omega)))⟩
structure Two (w0:World) (H1:Nat) (w:World) (va:Value) (ua:List Value) (A:List (List Nat)) (vb:Value) (ub:List Value) (B:List (List Nat)):Prop where
 oa:OwnMat w0.heap.size w va ua A
 ob:OwnMat H1 w vb ub B
 sa:Sep ua
 sb:Sep ub
 hv:Hi H1 va
 hu:∀ j,j < ua.length->Hi H1 (ua.getD j undef)
 lt:w0.heap.size<=H1
 gr:w0.grownBy w none
theorem Two.keep {w0 w w':World} {H1:Nat} {va vb:Value} {ua ub:List Value} {A B:List (List Nat)} (h:Two w0 H1 w va ua A vb ub B) (g:w.grownBy w' none):Two w0 H1 w' va ua A vb ub B :=
 ⟨h.oa.keep g,h.ob.keep g,h.sa,h.sb,h.hv,h.hu,h.lt,grown_trans h.gr g⟩
theorem Two.setA {w0 w w':World} {H1:Nat} {va vb:Value} {ua ub:List Value} {A B:List (List Nat)} (h:Two w0 H1 w va ua A vb ub B) {k:Nat} {ys:List Nat} (hk:k < A.length) {g:Nat} (hg:(ua.getD k undef).ownBlock=some g)
 (o:Own w0.heap.size w' (ua.getD k undef) ys) (gr:w.grownBy w' (some g)):Two w0 H1 w' va ua (A.set k ys) vb ub B:=by
 have hl:=h.hu k (by have:=h.oa.same;omega) g hg
 have hlo:=(h.oa.vec k hk).lo g hg
 exact⟨h.oa.rowSet h.sa hk o (by rw[hg];exact gr),h.ob.keptLow hl gr,h.sa,h.sb,h.hv,h.hu,h.lt,grown_new h.gr gr (fun i e=>by have:=Option.some.inj e;omega)⟩
theorem Two.setB {w0 w w':World} {H1:Nat} {va vb:Value} {ua ub:List Value} {A B:List (List Nat)} (h:Two w0 H1 w va ua A vb ub B) {k:Nat} {ys:List Nat} (hk:k < B.length) {g:Nat} (hg:(ub.getD k undef).ownBlock=some g)
 (o:Own H1 w' (ub.getD k undef) ys) (gr:w.grownBy w' (some g)):Two w0 H1 w' va ua A vb ub (B.set k ys):=by
 have hlo:=(h.ob.vec k hk).lo g hg
 have hlt:=h.lt
 exact⟨h.oa.keptHigh h.hv h.hu hlo gr,h.ob.rowSet h.sb hk o (by rw[hg];exact gr),h.sa,h.sb,h.hv,h.hu,h.lt,grown_new h.gr gr (fun i e=>by have:=Option.some.inj e;omega)⟩
theorem OwnMat.at2 {B:Nat} {w:World} {g n cap:Nat} {us:List Value} {X:List (List Nat)} (h:OwnMat B w (.slice (some ⟨g,0,none⟩) n cap) us X) {k:Nat} (hk:k < X.length) (h0:0 < (X.getD k []).length) :
 ∃ gk nk ck,us.getD k undef=.slice (some ⟨gk,0,none⟩) nk ck/\nk=(X.getD k []).length/\w.cell? ⟨g,k,none⟩=some (.slice (some ⟨gk,0,none⟩) nk ck)/\Own B w (.slice (some ⟨gk,0,none⟩) nk ck) (X.getD k [])/\∀ j,j < (X.getD k []).length->w.cell? ⟨gk,j,none⟩=some (.int .u8 ((at2 X k j:Nat):Int)):=by
 obtain⟨g1,e1,_,hc,_,_,_,_⟩:=h.place (k:=k) hk
 obtain rfl:g=g1:=(by injection e1 with e1;injection e1 with e1)
 have ov:=h.vec k hk
 obtain⟨p,nk,ck,ek,hnk⟩:=ov.vec.opened
 rw[ek] at hc ov
 obtain⟨gk,rfl,_,_,_,_,_,_⟩:=ov.spot (k:=0) h0
 refine⟨gk,nk,ck,ek,hnk,hc,ov,fun j hj=>?_⟩
 obtain⟨g2,e2,_,hcx,_,_,_,_⟩:=ov.spot (k:=j) hj
 obtain rfl:gk=g2:=(by injection e2 with e2;injection e2 with e2)
 exact hcx
theorem Two.strikeA {w0 w:World} {H1:Nat} {va vb:Value} {ua ub:List Value} {A B:List (List Nat)} {n:Nat} (T:Two w0 H1 w va ua A vb ub B) (hA:Shape A n n) {k s y:Nat} (hk:k < n) (hs:s < n) (hks:k ≠ s) (hy:y < 256)
 (r1 r2 r3:Value) (e1:r1=ua.getD k undef) (e2:r2=ua.getD s undef) (e3:r3=.int .u8 (y:Int)) :
 Calls Tryz.prog 150 #[r1,r2,r3] w fun e w'=>e=.returned (.tuple #[])/\Two w0 H1 w' va ua (strike2 A k s y) vb ub B:=by
 subst e1 e2 e3
 have hkA:k < A.length:=by rw[hA.len];exact hk
 have hsA:s < A.length:=by rw[hA.len];exact hs
 have ok:=T.oa.vec k hkA
 have hsm:=T.oa.same
 refine (refStrikeRow hy ok (T.oa.vec s hsA).vec (by rw[hA.row k hk,hA.row s hs]) (T.sa s k (by omega) (by omega) (fun e=>hks e.symm))).mono ?_
 rintro e w' ⟨rfl,o,g⟩
 refine⟨rfl,?_⟩
 obtain⟨p,nk,ck,ek,hnk⟩:=ok.vec.opened
 have ok2:=ok
 rw[ek] at ok2
 obtain⟨gk,rfl,_⟩:=ok2.spot (k:=0) (by rw[hA.row k hk];omega)
 have hg:(ua.getD k undef).ownBlock=some gk:=by rw[ek];rfl
 rw[hg] at g
 exact T.setA hkA hg o g
theorem Two.strikeB {w0 w:World} {H1:Nat} {va vb:Value} {ua ub:List Value} {A B:List (List Nat)} {n:Nat} (T:Two w0 H1 w va ua A vb ub B) (hB:Shape B n n) {k s y:Nat} (hk:k < n) (hs:s < n) (hks:k ≠ s) (hy:y < 256)
 (r1 r2 r3:Value) (e1:r1=ub.getD k undef) (e2:r2=ub.getD s undef) (e3:r3=.int .u8 (y:Int)) :
 Calls Tryz.prog 150 #[r1,r2,r3] w fun e w'=>e=.returned (.tuple #[])/\Two w0 H1 w' va ua A vb ub (strike2 B k s y):=by
 subst e1 e2 e3
 have hkA:k < B.length:=by rw[hB.len];exact hk
 have hsA:s < B.length:=by rw[hB.len];exact hs
 have ok:=T.ob.vec k hkA
 have hsm:=T.ob.same
 refine (refStrikeRow hy ok (T.ob.vec s hsA).vec (by rw[hB.row k hk,hB.row s hs]) (T.sb s k (by omega) (by omega) (fun e=>hks e.symm))).mono ?_
 rintro e w' ⟨rfl,o,g⟩
 refine⟨rfl,?_⟩
 obtain⟨p,nk,ck,ek,hnk⟩:=ok.vec.opened
 have ok2:=ok
 rw[ek] at ok2
 obtain⟨gk,rfl,_⟩:=ok2.spot (k:=0) (by rw[hB.row k hk];omega)
 have hg:(ub.getD k undef).ownBlock=some gk:=by rw[ek];rfl
 rw[hg] at g
 exact T.setB hkA hg o g
theorem Two.scaleA {w0 w:World} {H1:Nat} {va vb:Value} {ua ub:List Value} {A B:List (List Nat)} {n:Nat} (T:Two w0 H1 w va ua A vb ub B) (hA:Shape A n n) {k y:Nat} (hk:k < n) (hy:y < 256)
 (r1 r3:Value) (e1:r1=ua.getD k undef) (e3:r3=.int .u8 (y:Int)) :
 Calls Tryz.prog 151 #[r1,r3] w fun e w'=>e=.returned (.tuple #[])/\Two w0 H1 w' va ua (scale2 A k y) vb ub B:=by
 subst e1 e3
 have hkA:k < A.length:=by rw[hA.len];exact hk
 have ok:=T.oa.vec k hkA
 refine (refScaleRow hy ok).mono ?_
 rintro e w' ⟨rfl,o,g⟩
 refine⟨rfl,?_⟩
 obtain⟨p,nk,ck,ek,hnk⟩:=ok.vec.opened
 have ok2:=ok
 rw[ek] at ok2
 obtain⟨gk,rfl,_⟩:=ok2.spot (k:=0) (by rw[hA.row k hk];omega)
 have hg:(ua.getD k undef).ownBlock=some gk:=by rw[ek];rfl
 rw[hg] at g
 exact T.setA hkA hg o g
theorem Two.scaleB {w0 w:World} {H1:Nat} {va vb:Value} {ua ub:List Value} {A B:List (List Nat)} {n:Nat} (T:Two w0 H1 w va ua A vb ub B) (hB:Shape B n n) {k y:Nat} (hk:k < n) (hy:y < 256)
 (r1 r3:Value) (e1:r1=ub.getD k undef) (e3:r3=.int .u8 (y:Int)) :
 Calls Tryz.prog 151 #[r1,r3] w fun e w'=>e=.returned (.tuple #[])/\Two w0 H1 w' va ua A vb ub (scale2 B k y):=by
 subst e1 e3
 have hkA:k < B.length:=by rw[hB.len];exact hk
 have ok:=T.ob.vec k hkA
 refine (refScaleRow hy ok).mono ?_
 rintro e w' ⟨rfl,o,g⟩
 refine⟨rfl,?_⟩
 obtain⟨p,nk,ck,ek,hnk⟩:=ok.vec.opened
 have ok2:=ok
 rw[ek] at ok2
 obtain⟨gk,rfl,_⟩:=ok2.spot (k:=0) (by rw[hB.row k hk];omega)
 have hg:(ub.getD k undef).ownBlock=some gk:=by rw[ek];rfl
 rw[hg] at g
 exact T.setB hkA hg o g
theorem OwnMat.cellOf {B:Nat} {w:World} {g n cap:Nat} {us:List Value} {X:List (List Nat)} (h:OwnMat B w (.slice (some ⟨g,0,none⟩) n cap) us X) {k:Nat} (hk:k < X.length):w.cell? ⟨g,k,none⟩=some (us.getD k undef):=by
 obtain⟨g1,e1,_,hc,_,_,_,_⟩:=h.place (k:=k) hk
 obtain rfl:g=g1:=(by injection e1 with e1;injection e1 with e1)
 exact hc
def Found (n:Nat) (A:List (List Nat)) (i t:Nat) (z:Int):Prop :=
 (z=-1/\∀ j,t<=j->j < n->at2 A j i=0)\/∃ p:Nat,z=p/\t<=p/\p < n/\at2 A p i ≠ 0/\∀ j,t<=j->j < p->at2 A j i=0
theorem Found.zero {n i s:Nat} {A:List (List Nat)} {z:Int} (h:Found n A i (s+1) z) (hz:at2 A s i=0):Found n A i s z:=by
 have key:∀ j,s<=j->s+1<=j\/j=s:=fun j hj=>by omega
 rcases h with ⟨e,h⟩ | ⟨p,e,h1,h2,h3,h4⟩
 ·exact .inl ⟨e,fun j hj hn=>by rcases key j hj with k | k;exact h j k hn;rw[k];exact hz⟩
 ·exact .inr ⟨p,e,by omega,h2,h3,fun j hj hn=>by rcases key j hj with k | k;exact h4 j k hn;rw[k];exact hz⟩
theorem Found.hit {n i s:Nat} {A:List (List Nat)} (hs:s < n) (hz:at2 A s i ≠ 0):Found n A i s (s:Int):=.inr ⟨s,rfl,Nat.le_refl _,hs,hz,fun j h1 h2=>by omega⟩
set_option maxHeartbeats 12800000 in
set_option maxRecDepth 100000 in
theorem refInvert_any {w:World} {m:Value} {vs:List Value} {X:List (List Nat)} (mr:Mat w m vs X) (hx:mayB X=true) (hsq:X.length=(X.getD 0 []).length) :
 Calls Tryz.prog 138 #[m] w fun e w'=>w.grownBy w' none/\((∃ p k c us Y,e=.returned (.tuple #[.slice p k c,.int .i64 0])/\OwnMat w.heap.size w' (.slice p k c) us Y/\Shape Y X.length X.length/\MX.Inv X.length (at2 X) (at2 Y))\/(e=.returned (.tuple #[.slice none 0 0,.int .i64 22])/\NoInv X.length (at2 X))):=by
 obtain⟨q,N,cap,rfl,hN⟩:=mr.row.opened
 have MA:=refMay_any mr
 rw[hx] at MA
 have HA:Hid (∀ r,r=Value.slice q N cap->Calls Tryz.prog 148 #[r] w fun e w''=>e=.returned (.bool true)/\w''=w):=fun r e=>e ▸ MA
 have HC:Hid (∀ r,r=Value.slice q N cap->Calls Tryz.prog 149 #[r] w fun e w'=>∃ v us,e=.returned v/\OwnMat w.heap.size w' v us X/\Sep us/\w.grownBy w' none):=fun r e=>e ▸ refCopy_sep mr
 have sx:=may_spec hx
 have hsa:=mr.same
 have hXN:X.length=N:=by omega
 have hs:Shape X N N:=by have:=sx.2.2.2.2;rw[<- hsq] at this;rw[<- hXN];exact this
 obtain⟨b0,off,rfl,hc⟩:=mr.row.spot (k:=0) (by omega)
 obtain⟨p0,n0,c0,e0,hn0⟩:=(mr.vec 0 (by omega)).opened
 rw[e0] at hc
 have hc1:w.cell? ⟨b0,off,none⟩=some (.slice p0 n0 c0):=hc
 have hpos:(0:Int) < (N:Int):=by omega
 have hne:((N:Int) != (n0:Int))=false:=by simp;omega
 have h1:1<=N:=by omega
 have h2:N<=255:=by omega
 have HS:Hid (Shape X N N/\∀ i j,at2 X i j < 256):=⟨hs,mr.small⟩
 rw[hXN]
 clear MA hN mr hc e0 hn0 hsa sx hs hsq hx hXN
 go_enter Tryz.func138,Tryz.ntmps138
 go_wp2_with (first
  | (go_at_call 148;refine (HA.out _ (by with_reducible rfl)).mono ?_;rintro e w1 ⟨rfl,hw⟩;obtain rfl:=hw.symm;clear hw)
  | (go_at_call 149;refine (HC.out _ (by with_reducible rfl)).mono ?_;rintro e w1 ⟨va,ua,rfl,oa,sa,g1⟩;have OA:Hid (OwnMat w.heap.size w1 va ua X):=oa;have SA:Hid (Sep ua):=sa;have G1:Hid (w.grownBy w1 none):=g1;clear oa sa g1)
  | (go_at_call 133;refine (refIdent_any N _ h1 h2).mono ?_;rintro e w2 ⟨vb,ub,rfl,ob,sb,g2⟩;have OB:Hid (OwnMat w1.heap.size w2 vb ub (idList N)):=ob;have SB:Hid (Sep ub):=sb;have G2:Hid (w1.grownBy w2 none):=g2;clear ob sb g2))
 clear HA HC hc1 hpos hne
 obtain⟨pa,na,ca,rfl,hna⟩:=OA.out.mat.row.opened
 obtain rfl:na=N:=by have:=OA.out.same;have:=HS.out.1.len;omega
 obtain⟨ga,rfl,q1,q2,q3,q4,q5,q6⟩:=OA.out.place (k:=0) (by rw[HS.out.1.len];omega)
 clear q1 q2 q3 q4 q5 q6 hna
 obtain⟨pb,nb,cb,rfl,hnb⟩:=OB.out.mat.row.opened
 obtain rfl:nb=na:=by have:=OB.out.same;simp[idList] at this;omega
 obtain⟨gb,rfl,q1,q2,q3,q4,q5,q6⟩:=OB.out.place (k:=0) (by simp[idList];omega)
 clear q1 q2 q3 q4 q5 q6 hnb
 have T0:Hid (Two w w1.heap.size w2 (.slice (some ⟨ga,0,none⟩) nb ca) ua X (.slice (some ⟨gb,0,none⟩) nb cb) ub (idList nb)):=⟨OA.out.keep G2.out,OB.out,SA.out,SB.out,OA.out.hi,OA.out.hiRow,G1.out.size,grown_trans G1.out G2.out⟩
 have W0:Hid (Work2 nb (at2 X) 0 X (idList nb)):=Work2.start HS.out.1 HS.out.2
 clear OA OB SA SB G1 G2 HS
 generalize w1.heap.size=H1 at *
 obtain⟨N,hN⟩:∃ N,N=nb:=⟨nb,rfl⟩
 subst hN
 go_loopw [8] (fun ti wr=>∃ (i:Nat) (A B:List (List Nat)),i<=N/\ti=.int .i64 i/\Hid (Two w H1 wr (.slice (some ⟨ga,0,none⟩) N ca) ua A (.slice (some ⟨gb,0,none⟩) N cb) ub B)/\Hid (Work2 N (at2 X) i A B)) (fun ti _=>N - (intOf ti).toNat)
 case atStart=>exact⟨0,X,idList N,by omega,rfl,T0.out,W0.out⟩
 case round =>
  clear T0 W0
  obtain⟨i,A,B,hi,rfl,T,WK⟩:=hrel
  by_cases hlt:i < N
  ·have i1:(i:Int) < (N:Int):=by omega
   have i3:(0:Int)<=(i:Int):=by omega
   go_wp2_with fail
   go_loop [9,10] (fun tz tk=>∃ (t:Nat) (z:Int),i<=t/\t<=N/\tk=.int .i64 ((t:Int) - 1)/\tz=.int .i64 z/\Hid (Found N A i t z)) (fun _ tk=>(intOf tk+1).toNat)
   case atStart=>exact⟨N,-1,by omega,by omega,by go_num,rfl,.inl ⟨rfl,fun j h1 h2=>by omega⟩⟩
   case round =>
    obtain⟨t,z,hit,htN,rfl,rfl,FO⟩:=hrel
    by_cases hgt:i < t
    ·obtain⟨s,rfl⟩:∃ s,t=s+1:=⟨t - 1,by omega⟩
     have es:(((s+1:Nat):Int) - 1)=(s:Int):=by omega
     rw[es]
     have s1:(s:Int) < (N:Int):=by omega
     have s3:(0:Int)<=(s:Int):=by omega
     have s4:(i:Int)<=(s:Int):=by omega
     obtain⟨gs,ns,cs,es2,hns,hcs,os,hcsj⟩:=T.out.oa.at2 (k:=s) (by rw[WK.out.sA.len];omega) (by rw[WK.out.sA.row s (by omega)];omega)
     rw[WK.out.sA.row s (by omega)] at hns hcsj
     have hcsi:=hcsj i hlt
     have s5:(i:Int) < (ns:Int):=by omega
     by_cases hz:at2 A s i=0
     ·have FO2:Hid (Found N A i s z):=FO.out.zero hz
      rw[hz] at hcsi
      have hcz:wr.cell? ⟨gs,i,none⟩=some (.int .u8 0):=hcsi
      clear hz hcsi hcsj os es2 hns FO es
      go_wp2
      go_round
      case rel=>exact⟨s,z,by omega,by omega,by go_num,rfl,FO2.out⟩
      case measure=>first | (simp[intOf];done) | (simp[intOf];omega)
     ·have FO2:Hid (Found N A i s (s:Int)):=Found.hit (by omega) hz
      have hnz:(((at2 A s i:Nat):Int) != 0)=true:=by simp;exact hz
      generalize at2 A s i=yy at *
      clear hz hcsj os es2 hns FO es
      go_wp2
      go_round
      case rel=>exact⟨s,(s:Int),by omega,by omega,by go_num,rfl,FO2.out⟩
      case measure=>first | (simp[intOf];done) | (simp[intOf];omega)
    ·obtain rfl:t=i:=by omega
     have nge:¬ ((t:Int)<=(t:Int) - 1):=by omega
     rcases FO.out with ⟨rfl,hall⟩ | ⟨p,rfl,hp1,hp2,hp3,hp4⟩
     ·have NI:Hid (NoInv N (at2 X)):=WK.out.none hlt hall
      have GR:Hid (w.grownBy wr none):=T.out.gr
      clear hall FO
      go_wp2
      go_ret2
      exact⟨GR.out,.inr ⟨rfl,NI.out⟩⟩
     ·obtain⟨i,hieq⟩:∃ i,i=t:=⟨t,rfl⟩
      subst hieq
      have p1:(p:Int) < (N:Int):=by omega
      have p3:¬ (p:Int) < 0:=by omega
      have p4:(0:Int)<=(p:Int):=by omega
      by_cases hpi:p=i
      ·have hnn:((p:Int) != (i:Int))=false:=by simp[hpi]
       have W3:Hid (Work2 N (at2 X) i A B/\at2 A i i ≠ 0):=⟨WK.out,by rw[<- hpi];rw[hpi] at hp3 ⊢;exact hp3⟩
       clear hp1 hp3 hp4 FO WK hpi
       have hAi:=W3.out.1.sA
       have hiA:i < A.length:=by rw[hAi.len];exact hlt
       obtain⟨gi,ni,ci,ei,hni,hci,oi,hcij⟩:=T.out.oa.at2 hiA (by rw[hAi.row i hlt];omega)
       rw[hAi.row i hlt] at hni hcij
       have hcii:=hcij i hlt
       have hx256:=W3.out.1.smallA hlt i hlt
       have hxpos:0 < at2 A i i:=Nat.pos_of_ne_zero W3.out.2
       have t1:(i:Int) < (ni:Int):=by omega
       have MI0:Hid (Mid2 N (at2 X) i 0 (scale2 A i (M.inv (at2 A i i))) (scale2 B i (M.inv (at2 A i i)))):=W3.out.1.raise hlt W3.out.2
       have SCA:Hid (∀ r1 r3,r1=Value.slice (some ⟨gi,0,none⟩) ni ci->r3=Value.int .u8 ((M.inv (at2 A i i):Nat):Int)->Calls Tryz.prog 151 #[r1,r3] wr fun e w'=>e=.returned (.tuple #[])/\Two w H1 w' (.slice (some ⟨ga,0,none⟩) N ca) ua (scale2 A i (M.inv (at2 A i i))) (.slice (some ⟨gb,0,none⟩) N cb) ub B):=fun r1 r3 e1 e3=>T.out.scaleA hAi hlt (M.inv_lt _) r1 r3 (e1.trans ei.symm) e3
       have SCB:Hid (∀ w' r1 r3,Two w H1 w' (.slice (some ⟨ga,0,none⟩) N ca) ua (scale2 A i (M.inv (at2 A i i))) (.slice (some ⟨gb,0,none⟩) N cb) ub B->r1=ub.getD i undef->r3=Value.int .u8 ((M.inv (at2 A i i):Nat):Int)->Calls Tryz.prog 151 #[r1,r3] w' fun e w''=>e=.returned (.tuple #[])/\Two w H1 w'' (.slice (some ⟨ga,0,none⟩) N ca) ua (scale2 A i (M.inv (at2 A i i))) (.slice (some ⟨gb,0,none⟩) N cb) ub (scale2 B i (M.inv (at2 A i i)))):=fun w' r1 r3 T2 e1 e3=>T2.scaleB W3.out.1.sB hlt (M.inv_lt _) r1 r3 e1 e3
       have SHB:Hid (Shape B N N):=W3.out.1.sB
       have IV:Hid (∀ r w',r=Value.int .u8 ((at2 A i i:Nat):Int)->Calls Tryz.prog 134 #[r] w' fun e w''=>e=.returned (.tuple #[.int .u8 ((M.inv (at2 A i i):Nat):Int),.int .i64 0])/\w''=w'):=fun r w' e=>by subst e;exact refInv_any _ w' hxpos hx256
       generalize scale2 A i (M.inv (at2 A i i))=A5 at *
       generalize scale2 B i (M.inv (at2 A i i))=B5 at *
       generalize M.inv (at2 A i i)=xi at *
       generalize at2 A i i=xx at *
       clear hxpos hx256 hcij oi ei hiA hAi hni
       go_wp2_with fail
       refine (IV.out _ _ (by with_reducible rfl)).mono ?_
       rintro e w5 ⟨rfl,hw⟩
       obtain rfl:=hw.symm
       clear hw IV
       go_wp2_with fail
       refine (SCA.out _ _ (by with_reducible rfl) (by with_reducible rfl)).mono ?_
       rintro e w5 ⟨rfl,T5⟩
       have T5':Hid (Two w H1 w5 (.slice (some ⟨ga,0,none⟩) N ca) ua A5 (.slice (some ⟨gb,0,none⟩) N cb) ub B):=T5
       clear T5 SCA hci hcii
       obtain⟨gj,nj,cj,ej,hnj,hcj,oj,hcjj⟩:=T5'.out.ob.at2 (k:=i) (by rw[SHB.out.len];exact hlt) (by rw[SHB.out.row i hlt];omega)
       have EJ:Hid (ub.getD i undef=.slice (some ⟨gj,0,none⟩) nj cj):=ej
       clear ej hnj oj hcjj
       go_wp2_with fail
       refine (SCB.out _ _ _ T5'.out (by rw[EJ.out]) (by with_reducible rfl)).mono ?_
       rintro e w6 ⟨rfl,T6⟩
       have T6':Hid (Two w H1 w6 (.slice (some ⟨ga,0,none⟩) N ca) ua A5 (.slice (some ⟨gb,0,none⟩) N cb) ub B5):=T6
       clear T6 SCB hcj T5' EJ T W3 SHB
       go_wp2_with fail
       go_loopw [13] (fun ti wr=>∃ (t:Nat) (A B:List (List Nat)),t<=N/\ti=.int .i64 t/\Hid (Two w H1 wr (.slice (some ⟨ga,0,none⟩) N ca) ua A (.slice (some ⟨gb,0,none⟩) N cb) ub B)/\Hid (Mid2 N (at2 X) i t A B)) (fun ti _=>N - (intOf ti).toNat)
       case atStart=>exact⟨0,A5,B5,by omega,rfl,T6'.out,MI0.out⟩
       case round =>
        clear T6' MI0
        obtain⟨t,A,B,ht,rfl,T,MI⟩:=hrel
        by_cases htl:t < N
        ·have u1:(t:Int) < (N:Int):=by omega
         have u3:(0:Int)<=(t:Int):=by omega
         have hA:=MI.out.wk.sA
         have hB:=MI.out.wk.sB
         obtain⟨gt,nt,ct,et,hnt,hct,ot,hctj⟩:=T.out.oa.at2 (k:=t) (by rw[hA.len];exact htl) (by rw[hA.row t htl];omega)
         rw[hA.row t htl] at hnt hctj
         have hcti:=hctj i hlt
         have u4:(i:Int) < (nt:Int):=by omega
         by_cases hti:t=i
         ·have hnn:((t:Int) != (i:Int))=false:=by simp[hti]
          have MI2:Hid (Mid2 N (at2 X) i (t+1) A B):=MI.out.skip (.inl hti)
          clear hti hctj ot et hnt hA hB
          generalize at2 A t i=yy at *
          go_wp2_with fail
          go_roundw
          case rel=>exact⟨t+1,A,B,by omega,by go_num,T.out,MI2.out⟩
          case measure=>simp[intOf];omega
         ·have hnn:((t:Int) != (i:Int))=true:=by simp;omega
          by_cases hy0:at2 A t i=0
          ·have MI2:Hid (Mid2 N (at2 X) i (t+1) A B):=MI.out.skip (.inr hy0)
           rw[hy0] at hcti
           have hcz:wr.cell? ⟨gt,i,none⟩=some (.int .u8 0):=hcti
           clear hti hctj ot et hnt hA hB hcti hy0
           go_wp2_with fail
           go_roundw
           case rel=>exact⟨t+1,A,B,by omega,by go_num,T.out,MI2.out⟩
           case measure=>simp[intOf];omega
          ·have hyn:(((at2 A t i:Nat):Int) != 0)=true:=by simp;exact hy0
           have hy256:=MI.out.wk.smallA htl i hlt
           have MI2:Hid (Mid2 N (at2 X) i (t+1) (strike2 A t i (at2 A t i)) (strike2 B t i (at2 A t i))):=MI.out.strike hlt htl hti
           obtain⟨gi,ni,ci,ei,hni,hci,oi,hcij⟩:=T.out.oa.at2 (k:=i) (by rw[hA.len];exact hlt) (by rw[hA.row i hlt];omega)
           have SA:Hid (∀ r1 r2 r3,r1=Value.slice (some ⟨gt,0,none⟩) nt ct->r2=Value.slice (some ⟨gi,0,none⟩) ni ci->r3=Value.int .u8 ((at2 A t i:Nat):Int)->Calls Tryz.prog 150 #[r1,r2,r3] wr.drew fun e w'=>e=.returned (.tuple #[])/\Two w H1 w' (.slice (some ⟨ga,0,none⟩) N ca) ua (strike2 A t i (at2 A t i)) (.slice (some ⟨gb,0,none⟩) N cb) ub B/\w'.cell? ⟨ga,t,none⟩=some (.slice (some ⟨gt,0,none⟩) nt ct)/\w'.cell? ⟨ga,i,none⟩=some (.slice (some ⟨gi,0,none⟩) ni ci)):=fun r1 r2 r3 e1 e2 e3=>((T.out.keep (grown_drewN _ 1)).strikeA hA htl hlt hti hy256 r1 r2 r3 (e1.trans et.symm) (e2.trans ei.symm) e3).mono fun e w' h=>⟨h.1,h.2,by rw[h.2.oa.cellOf (by rw[(strike2_shape hA htl).len];exact htl),et],by rw[h.2.oa.cellOf (by rw[(strike2_shape hA htl).len];exact hlt),ei]⟩
           have SB:Hid (∀ w' r1 r2 r3,Two w H1 w' (.slice (some ⟨ga,0,none⟩) N ca) ua (strike2 A t i (at2 A t i)) (.slice (some ⟨gb,0,none⟩) N cb) ub B->r1=ub.getD t undef->r2=ub.getD i undef->r3=Value.int .u8 ((at2 A t i:Nat):Int)->Calls Tryz.prog 150 #[r1,r2,r3] w' fun e w''=>e=.returned (.tuple #[])/\Two w H1 w'' (.slice (some ⟨ga,0,none⟩) N ca) ua (strike2 A t i (at2 A t i)) (.slice (some ⟨gb,0,none⟩) N cb) ub (strike2 B t i (at2 A t i))):=fun w' r1 r2 r3 T2 e1 e2 e3=>T2.strikeB hB htl hlt hti hy256 r1 r2 r3 e1 e2 e3
           have HSB:Hid (Shape B N N):=hB
           have HC1:Hid (wr.drew.cell? ⟨ga,t,none⟩=some (.slice (some ⟨gt,0,none⟩) nt ct)/\wr.drew.cell? ⟨ga,i,none⟩=some (.slice (some ⟨gi,0,none⟩) ni ci)):=⟨hct,hci⟩
           have LB7:Hid ((strike2 B t i (at2 A t i)).length=N):=(strike2_shape hB htl).len
           generalize strike2 A t i (at2 A t i)=A7 at *
           generalize strike2 B t i (at2 A t i)=B7 at *
           generalize at2 A t i=yy at *
           clear hti hctj ot et hnt hA hB hy0 hcij oi ei hni T MI
           go_wp2_with fail
           go_region_held3 (fun w'=>w'.cell? ⟨ga,t,none⟩=some (.slice (some ⟨gt,0,none⟩) nt ct)/\w'.cell? ⟨ga,i,none⟩=some (.slice (some ⟨gi,0,none⟩) ni ci)) (first | exact HC1.out | exact HC2.out) (first | (go_at_call 150;refine (SA.out _ _ _ (by with_reducible rfl) (by with_reducible rfl) (by with_reducible rfl)).mono ?_;rintro e w7 ⟨rfl,T7,hd1,hd2⟩;have T7':Hid (Two w H1 w7 (.slice (some ⟨ga,0,none⟩) N ca) ua A7 (.slice (some ⟨gb,0,none⟩) N cb) ub B):=T7;have HC2:Hid (w7.cell? ⟨ga,t,none⟩=some (.slice (some ⟨gt,0,none⟩) nt ct)/\w7.cell? ⟨ga,i,none⟩=some (.slice (some ⟨gi,0,none⟩) ni ci)):=⟨hd1,hd2⟩;clear T7 hd1 hd2))
           all_goals
            clear hct hcti hci
            obtain⟨gx,nx,cx,ex,hnx,hcx,ox,hcxj⟩:=T7'.out.ob.at2 (k:=t) (by rw[HSB.out.len];exact htl) (by rw[HSB.out.row t htl];omega)
            obtain⟨gz,nz,cz,ez,hnz,hcz,oz,hczj⟩:=T7'.out.ob.at2 (k:=i) (by rw[HSB.out.len];exact hlt) (by rw[HSB.out.row i hlt];omega)
            have SB2:Hid (∀ r1 r2 r3,r1=Value.slice (some ⟨gx,0,none⟩) nx cx->r2=Value.slice (some ⟨gz,0,none⟩) nz cz->r3=Value.int .u8 (yy:Int)->Calls Tryz.prog 150 #[r1,r2,r3] w7.drew fun e w''=>e=.returned (.tuple #[])/\Two w H1 w'' (.slice (some ⟨ga,0,none⟩) N ca) ua A7 (.slice (some ⟨gb,0,none⟩) N cb) ub B7/\w''.cell? ⟨gb,t,none⟩=some (.slice (some ⟨gx,0,none⟩) nx cx)/\w''.cell? ⟨gb,i,none⟩=some (.slice (some ⟨gz,0,none⟩) nz cz)):=fun r1 r2 r3 e1 e2 e3=>(SB.out _ r1 r2 r3 (T7'.out.keep (grown_drewN _ 1)) (e1.trans ex.symm) (e2.trans ez.symm) e3).mono fun e w' h=>⟨h.1,h.2,by rw[h.2.ob.cellOf (by rw[LB7.out];exact htl),ex],by rw[h.2.ob.cellOf (by rw[LB7.out];exact hlt),ez]⟩
            have HD1:Hid (w7.drew.cell? ⟨gb,t,none⟩=some (.slice (some ⟨gx,0,none⟩) nx cx)/\w7.drew.cell? ⟨gb,i,none⟩=some (.slice (some ⟨gz,0,none⟩) nz cz)):=⟨hcx,hcz⟩
            clear ex ez hnx hnz ox oz hcxj hczj SA SB T7'
            go_wp2_with fail
            go_region_held3 (fun w'=>w'.cell? ⟨gb,t,none⟩=some (.slice (some ⟨gx,0,none⟩) nx cx)/\w'.cell? ⟨gb,i,none⟩=some (.slice (some ⟨gz,0,none⟩) nz cz)) (first | exact HD1.out | exact HD2.out) (first | (go_at_call 150;refine (SB2.out _ _ _ (by with_reducible rfl) (by with_reducible rfl) (by with_reducible rfl)).mono ?_;rintro e w8 ⟨rfl,T8,hd1,hd2⟩;have T8':Hid (Two w H1 w8 (.slice (some ⟨ga,0,none⟩) N ca) ua A7 (.slice (some ⟨gb,0,none⟩) N cb) ub B7):=T8;have HD2:Hid (w8.cell? ⟨gb,t,none⟩=some (.slice (some ⟨gx,0,none⟩) nx cx)/\w8.cell? ⟨gb,i,none⟩=some (.slice (some ⟨gz,0,none⟩) nz cz)):=⟨hd1,hd2⟩;clear T8 hd1 hd2))
            all_goals
             go_wp2
             go_roundw
             case rel=>exact⟨t+1,A7,B7,by omega,by go_num,T8'.out,MI2.out⟩
             case measure=>simp[intOf];omega
        ·have htn:t=N:=by omega
         subst htn
         go_wp2_with fail
         go_roundw
         case rel=>exact⟨i+1,A,B,by omega,by go_num,T.out,MI.out.work⟩
         case measure=>simp[intOf];omega
      ·have hnn:((p:Int) != (i:Int))=true:=by simp;omega
       have hz:=hp4 i (Nat.le_refl _) (by omega)
       have LI:=WK.out.lift hlt hp2 (by omega) hz hp3
       have W4:Hid (Work2 N (at2 X) i (strike2 A i p 1) (strike2 B i p 1)/\at2 (strike2 A i p 1) i i ≠ 0):=LI
       obtain⟨gx,nx,cx,ex,hnx,hcx,ox,hcxj⟩:=T.out.oa.at2 (k:=i) (by rw[WK.out.sA.len];exact hlt) (by rw[WK.out.sA.row i hlt];omega)
       obtain⟨gz,nz,cz,ez,hnz,hcz,oz,hczj⟩:=T.out.oa.at2 (k:=p) (by rw[WK.out.sA.len];exact hp2) (by rw[WK.out.sA.row p hp2];omega)
       have ST1:Hid (∀ r1 r2 r3,r1=Value.slice (some ⟨gx,0,none⟩) nx cx->r2=Value.slice (some ⟨gz,0,none⟩) nz cz->r3=Value.int .u8 1->Calls Tryz.prog 150 #[r1,r2,r3] wr.drew fun e w'=>e=.returned (.tuple #[])/\Two w H1 w' (.slice (some ⟨ga,0,none⟩) N ca) ua (strike2 A i p 1) (.slice (some ⟨gb,0,none⟩) N cb) ub B/\w'.cell? ⟨ga,i,none⟩=some (.slice (some ⟨gx,0,none⟩) nx cx)/\w'.cell? ⟨ga,p,none⟩=some (.slice (some ⟨gz,0,none⟩) nz cz)):=fun r1 r2 r3 e1 e2 e3=>((T.out.keep (grown_drewN _ 1)).strikeA WK.out.sA hlt hp2 (fun e=>hpi e.symm) (by decide) r1 r2 r3 (e1.trans ex.symm) (e2.trans ez.symm) e3).mono fun e w' h=>⟨h.1,h.2,by rw[h.2.oa.cellOf (by rw[(strike2_shape WK.out.sA hlt).len];exact hlt),ex],by rw[h.2.oa.cellOf (by rw[(strike2_shape WK.out.sA hlt).len];exact hp2),ez]⟩
       have LB4:Hid ((strike2 B i p 1).length=N):=(strike2_shape WK.out.sB hlt).len
       have HC1:Hid (wr.drew.cell? ⟨ga,i,none⟩=some (.slice (some ⟨gx,0,none⟩) nx cx)/\wr.drew.cell? ⟨ga,p,none⟩=some (.slice (some ⟨gz,0,none⟩) nz cz)):=⟨hcx,hcz⟩
       have ST2:Hid (∀ w' r1 r2 r3,Two w H1 w' (.slice (some ⟨ga,0,none⟩) N ca) ua (strike2 A i p 1) (.slice (some ⟨gb,0,none⟩) N cb) ub B->r1=ub.getD i undef->r2=ub.getD p undef->r3=Value.int .u8 1->Calls Tryz.prog 150 #[r1,r2,r3] w' fun e w''=>e=.returned (.tuple #[])/\Two w H1 w'' (.slice (some ⟨ga,0,none⟩) N ca) ua (strike2 A i p 1) (.slice (some ⟨gb,0,none⟩) N cb) ub (strike2 B i p 1)):=fun w' r1 r2 r3 T2 e1 e2 e3=>T2.strikeB WK.out.sB hlt hp2 (fun e=>hpi e.symm) (by decide) r1 r2 r3 e1 e2 e3
       have HSB:Hid (Shape B N N):=WK.out.sB
       generalize strike2 A i p 1=A4 at *
       generalize strike2 B i p 1=B4 at *
       clear LI hz ex ez hnx hnz ox oz hcxj hczj hp1 hp3 hp4 FO WK hpi T
       go_wp2_with fail
       go_region_held3 (fun w'=>w'.cell? ⟨ga,i,none⟩=some (.slice (some ⟨gx,0,none⟩) nx cx)/\w'.cell? ⟨ga,p,none⟩=some (.slice (some ⟨gz,0,none⟩) nz cz)) (first | exact HC1.out | exact HC2.out) (first | (go_at_call 150;refine (ST1.out _ _ _ (by with_reducible rfl) (by with_reducible rfl) (by with_reducible rfl)).mono ?_;rintro e w3 ⟨rfl,T3,hd1,hd2⟩;have T3':Hid (Two w H1 w3 (.slice (some ⟨ga,0,none⟩) N ca) ua A4 (.slice (some ⟨gb,0,none⟩) N cb) ub B):=T3;have HC2:Hid (w3.cell? ⟨ga,i,none⟩=some (.slice (some ⟨gx,0,none⟩) nx cx)/\w3.cell? ⟨ga,p,none⟩=some (.slice (some ⟨gz,0,none⟩) nz cz)):=⟨hd1,hd2⟩;clear T3 hd1 hd2))
       all_goals
        clear hcx hcz ST1 HC1 HC2
        obtain⟨gx,nx,cx,ex,hnx,hcx,ox,hcxj⟩:=T3'.out.ob.at2 (k:=i) (by rw[HSB.out.len];exact hlt) (by rw[HSB.out.row i hlt];omega)
        obtain⟨gz,nz,cz,ez,hnz,hcz,oz,hczj⟩:=T3'.out.ob.at2 (k:=p) (by rw[HSB.out.len];exact hp2) (by rw[HSB.out.row p hp2];omega)
        have ST3:Hid (∀ r1 r2 r3,r1=Value.slice (some ⟨gx,0,none⟩) nx cx->r2=Value.slice (some ⟨gz,0,none⟩) nz cz->r3=Value.int .u8 1->Calls Tryz.prog 150 #[r1,r2,r3] w3.drew fun e w''=>e=.returned (.tuple #[])/\Two w H1 w'' (.slice (some ⟨ga,0,none⟩) N ca) ua A4 (.slice (some ⟨gb,0,none⟩) N cb) ub B4/\w''.cell? ⟨gb,i,none⟩=some (.slice (some ⟨gx,0,none⟩) nx cx)/\w''.cell? ⟨gb,p,none⟩=some (.slice (some ⟨gz,0,none⟩) nz cz)):=fun r1 r2 r3 e1 e2 e3=>(ST2.out _ r1 r2 r3 (T3'.out.keep (grown_drewN _ 1)) (e1.trans ex.symm) (e2.trans ez.symm) e3).mono fun e w' h=>⟨h.1,h.2,by rw[h.2.ob.cellOf (by rw[LB4.out];exact hlt),ex],by rw[h.2.ob.cellOf (by rw[LB4.out];exact hp2),ez]⟩
        have HD1:Hid (w3.drew.cell? ⟨gb,i,none⟩=some (.slice (some ⟨gx,0,none⟩) nx cx)/\w3.drew.cell? ⟨gb,p,none⟩=some (.slice (some ⟨gz,0,none⟩) nz cz)):=⟨hcx,hcz⟩
        clear ex ez hnx hnz ox oz hcxj hczj ST2 T3' HSB
        go_wp2_with fail
        go_region_held3 (fun w'=>w'.cell? ⟨gb,i,none⟩=some (.slice (some ⟨gx,0,none⟩) nx cx)/\w'.cell? ⟨gb,p,none⟩=some (.slice (some ⟨gz,0,none⟩) nz cz)) (first | exact HD1.out | exact HD2.out) (first | (go_at_call 150;refine (ST3.out _ _ _ (by with_reducible rfl) (by with_reducible rfl) (by with_reducible rfl)).mono ?_;rintro e w4 ⟨rfl,T4,hd1,hd2⟩;have T4':Hid (Two w H1 w4 (.slice (some ⟨ga,0,none⟩) N ca) ua A4 (.slice (some ⟨gb,0,none⟩) N cb) ub B4):=T4;have HD2:Hid (w4.cell? ⟨gb,i,none⟩=some (.slice (some ⟨gx,0,none⟩) nx cx)/\w4.cell? ⟨gb,p,none⟩=some (.slice (some ⟨gz,0,none⟩) nz cz)):=⟨hd1,hd2⟩;clear T4 hd1 hd2))
        all_goals
         clear hcx hcz ST3 HD1 HD2 LB4
         have T4:=T4'
         clear T4'
         have hAi:=W4.out.1.sA
         have hiA:i < A4.length:=by rw[hAi.len];exact hlt
         obtain⟨gi,ni,ci,ei,hni,hci,oi,hcij⟩:=T4.out.oa.at2 hiA (by rw[hAi.row i hlt];omega)
         rw[hAi.row i hlt] at hni hcij
         have hcii:=hcij i hlt
         have hx256:=W4.out.1.smallA hlt i hlt
         have hxpos:0 < at2 A4 i i:=Nat.pos_of_ne_zero W4.out.2
         have t1:(i:Int) < (ni:Int):=by omega
         have MI0:Hid (Mid2 N (at2 X) i 0 (scale2 A4 i (M.inv (at2 A4 i i))) (scale2 B4 i (M.inv (at2 A4 i i)))):=W4.out.1.raise hlt W4.out.2
         have SCA:Hid (∀ r1 r3,r1=Value.slice (some ⟨gi,0,none⟩) ni ci->r3=Value.int .u8 ((M.inv (at2 A4 i i):Nat):Int)->Calls Tryz.prog 151 #[r1,r3] w4 fun e w'=>e=.returned (.tuple #[])/\Two w H1 w' (.slice (some ⟨ga,0,none⟩) N ca) ua (scale2 A4 i (M.inv (at2 A4 i i))) (.slice (some ⟨gb,0,none⟩) N cb) ub B4):=fun r1 r3 e1 e3=>T4.out.scaleA hAi hlt (M.inv_lt _) r1 r3 (e1.trans ei.symm) e3
         have SCB:Hid (∀ w' r1 r3,Two w H1 w' (.slice (some ⟨ga,0,none⟩) N ca) ua (scale2 A4 i (M.inv (at2 A4 i i))) (.slice (some ⟨gb,0,none⟩) N cb) ub B4->r1=ub.getD i undef->r3=Value.int .u8 ((M.inv (at2 A4 i i):Nat):Int)->Calls Tryz.prog 151 #[r1,r3] w' fun e w''=>e=.returned (.tuple #[])/\Two w H1 w'' (.slice (some ⟨ga,0,none⟩) N ca) ua (scale2 A4 i (M.inv (at2 A4 i i))) (.slice (some ⟨gb,0,none⟩) N cb) ub (scale2 B4 i (M.inv (at2 A4 i i)))):=fun w' r1 r3 T2 e1 e3=>T2.scaleB W4.out.1.sB hlt (M.inv_lt _) r1 r3 e1 e3
         have SHB:Hid (Shape B4 N N):=W4.out.1.sB
         have IV:Hid (∀ r w',r=Value.int .u8 ((at2 A4 i i:Nat):Int)->Calls Tryz.prog 134 #[r] w' fun e w''=>e=.returned (.tuple #[.int .u8 ((M.inv (at2 A4 i i):Nat):Int),.int .i64 0])/\w''=w'):=fun r w' e=>by subst e;exact refInv_any _ w' hxpos hx256
         generalize scale2 A4 i (M.inv (at2 A4 i i))=A5 at *
         generalize scale2 B4 i (M.inv (at2 A4 i i))=B5 at *
         generalize M.inv (at2 A4 i i)=xi at *
         generalize at2 A4 i i=xx at *
         clear hxpos hx256 hcij oi ei hiA hAi hni
         go_wp2_with fail
         refine (IV.out _ _ (by with_reducible rfl)).mono ?_
         rintro e w5 ⟨rfl,hw⟩
         obtain rfl:=hw.symm
         clear hw IV
         go_wp2_with fail
         refine (SCA.out _ _ (by with_reducible rfl) (by with_reducible rfl)).mono ?_
         rintro e w5 ⟨rfl,T5⟩
         have T5':Hid (Two w H1 w5 (.slice (some ⟨ga,0,none⟩) N ca) ua A5 (.slice (some ⟨gb,0,none⟩) N cb) ub B4):=T5
         clear T5 SCA hci hcii
         obtain⟨gj,nj,cj,ej,hnj,hcj,oj,hcjj⟩:=T5'.out.ob.at2 (k:=i) (by rw[SHB.out.len];exact hlt) (by rw[SHB.out.row i hlt];omega)
         have EJ:Hid (ub.getD i undef=.slice (some ⟨gj,0,none⟩) nj cj):=ej
         clear ej hnj oj hcjj
         go_wp2_with fail
         refine (SCB.out _ _ _ T5'.out (by rw[EJ.out]) (by with_reducible rfl)).mono ?_
         rintro e w6 ⟨rfl,T6⟩
         have T6':Hid (Two w H1 w6 (.slice (some ⟨ga,0,none⟩) N ca) ua A5 (.slice (some ⟨gb,0,none⟩) N cb) ub B5):=T6
         clear T6 SCB hcj T5' EJ T4 W4 SHB
         go_wp2_with fail
         go_loopw [13] (fun ti wr=>∃ (t:Nat) (A B:List (List Nat)),t<=N/\ti=.int .i64 t/\Hid (Two w H1 wr (.slice (some ⟨ga,0,none⟩) N ca) ua A (.slice (some ⟨gb,0,none⟩) N cb) ub B)/\Hid (Mid2 N (at2 X) i t A B)) (fun ti _=>N - (intOf ti).toNat)
         case atStart=>exact⟨0,A5,B5,by omega,rfl,T6'.out,MI0.out⟩
         case round =>
          clear T6' MI0
          obtain⟨t,A,B,ht,rfl,T,MI⟩:=hrel
          by_cases htl:t < N
          ·have u1:(t:Int) < (N:Int):=by omega
           have u3:(0:Int)<=(t:Int):=by omega
           have hA:=MI.out.wk.sA
           have hB:=MI.out.wk.sB
           obtain⟨gt,nt,ct,et,hnt,hct,ot,hctj⟩:=T.out.oa.at2 (k:=t) (by rw[hA.len];exact htl) (by rw[hA.row t htl];omega)
           rw[hA.row t htl] at hnt hctj
           have hcti:=hctj i hlt
           have u4:(i:Int) < (nt:Int):=by omega
           by_cases hti:t=i
           ·have hnn:((t:Int) != (i:Int))=false:=by simp[hti]
            have MI2:Hid (Mid2 N (at2 X) i (t+1) A B):=MI.out.skip (.inl hti)
            clear hti hctj ot et hnt hA hB
            generalize at2 A t i=yy at *
            go_wp2_with fail
            go_roundw
            case rel=>exact⟨t+1,A,B,by omega,by go_num,T.out,MI2.out⟩
            case measure=>simp[intOf];omega
           ·have hnn:((t:Int) != (i:Int))=true:=by simp;omega
            by_cases hy0:at2 A t i=0
            ·have MI2:Hid (Mid2 N (at2 X) i (t+1) A B):=MI.out.skip (.inr hy0)
             rw[hy0] at hcti
             have hcz:wr.cell? ⟨gt,i,none⟩=some (.int .u8 0):=hcti
             clear hti hctj ot et hnt hA hB hcti hy0
             go_wp2_with fail
             go_roundw
             case rel=>exact⟨t+1,A,B,by omega,by go_num,T.out,MI2.out⟩
             case measure=>simp[intOf];omega
            ·have hyn:(((at2 A t i:Nat):Int) != 0)=true:=by simp;exact hy0
             have hy256:=MI.out.wk.smallA htl i hlt
             have MI2:Hid (Mid2 N (at2 X) i (t+1) (strike2 A t i (at2 A t i)) (strike2 B t i (at2 A t i))):=MI.out.strike hlt htl hti
             obtain⟨gi,ni,ci,ei,hni,hci,oi,hcij⟩:=T.out.oa.at2 (k:=i) (by rw[hA.len];exact hlt) (by rw[hA.row i hlt];omega)
             have SA:Hid (∀ r1 r2 r3,r1=Value.slice (some ⟨gt,0,none⟩) nt ct->r2=Value.slice (some ⟨gi,0,none⟩) ni ci->r3=Value.int .u8 ((at2 A t i:Nat):Int)->Calls Tryz.prog 150 #[r1,r2,r3] wr.drew fun e w'=>e=.returned (.tuple #[])/\Two w H1 w' (.slice (some ⟨ga,0,none⟩) N ca) ua (strike2 A t i (at2 A t i)) (.slice (some ⟨gb,0,none⟩) N cb) ub B/\w'.cell? ⟨ga,t,none⟩=some (.slice (some ⟨gt,0,none⟩) nt ct)/\w'.cell? ⟨ga,i,none⟩=some (.slice (some ⟨gi,0,none⟩) ni ci)):=fun r1 r2 r3 e1 e2 e3=>((T.out.keep (grown_drewN _ 1)).strikeA hA htl hlt hti hy256 r1 r2 r3 (e1.trans et.symm) (e2.trans ei.symm) e3).mono fun e w' h=>⟨h.1,h.2,by rw[h.2.oa.cellOf (by rw[(strike2_shape hA htl).len];exact htl),et],by rw[h.2.oa.cellOf (by rw[(strike2_shape hA htl).len];exact hlt),ei]⟩
             have SB:Hid (∀ w' r1 r2 r3,Two w H1 w' (.slice (some ⟨ga,0,none⟩) N ca) ua (strike2 A t i (at2 A t i)) (.slice (some ⟨gb,0,none⟩) N cb) ub B->r1=ub.getD t undef->r2=ub.getD i undef->r3=Value.int .u8 ((at2 A t i:Nat):Int)->Calls Tryz.prog 150 #[r1,r2,r3] w' fun e w''=>e=.returned (.tuple #[])/\Two w H1 w'' (.slice (some ⟨ga,0,none⟩) N ca) ua (strike2 A t i (at2 A t i)) (.slice (some ⟨gb,0,none⟩) N cb) ub (strike2 B t i (at2 A t i))):=fun w' r1 r2 r3 T2 e1 e2 e3=>T2.strikeB hB htl hlt hti hy256 r1 r2 r3 e1 e2 e3
             have HSB:Hid (Shape B N N):=hB
             have HC1:Hid (wr.drew.cell? ⟨ga,t,none⟩=some (.slice (some ⟨gt,0,none⟩) nt ct)/\wr.drew.cell? ⟨ga,i,none⟩=some (.slice (some ⟨gi,0,none⟩) ni ci)):=⟨hct,hci⟩
             have LB7:Hid ((strike2 B t i (at2 A t i)).length=N):=(strike2_shape hB htl).len
             generalize strike2 A t i (at2 A t i)=A7 at *
             generalize strike2 B t i (at2 A t i)=B7 at *
             generalize at2 A t i=yy at *
             clear hti hctj ot et hnt hA hB hy0 hcij oi ei hni T MI
             go_wp2_with fail
             go_region_held3 (fun w'=>w'.cell? ⟨ga,t,none⟩=some (.slice (some ⟨gt,0,none⟩) nt ct)/\w'.cell? ⟨ga,i,none⟩=some (.slice (some ⟨gi,0,none⟩) ni ci)) (first | exact HC1.out | exact HC2.out) (first | (go_at_call 150;refine (SA.out _ _ _ (by with_reducible rfl) (by with_reducible rfl) (by with_reducible rfl)).mono ?_;rintro e w7 ⟨rfl,T7,hd1,hd2⟩;have T7':Hid (Two w H1 w7 (.slice (some ⟨ga,0,none⟩) N ca) ua A7 (.slice (some ⟨gb,0,none⟩) N cb) ub B):=T7;have HC2:Hid (w7.cell? ⟨ga,t,none⟩=some (.slice (some ⟨gt,0,none⟩) nt ct)/\w7.cell? ⟨ga,i,none⟩=some (.slice (some ⟨gi,0,none⟩) ni ci)):=⟨hd1,hd2⟩;clear T7 hd1 hd2))
             all_goals
              clear hct hcti hci
              obtain⟨gx,nx,cx,ex,hnx,hcx,ox,hcxj⟩:=T7'.out.ob.at2 (k:=t) (by rw[HSB.out.len];exact htl) (by rw[HSB.out.row t htl];omega)
              obtain⟨gz,nz,cz,ez,hnz,hcz,oz,hczj⟩:=T7'.out.ob.at2 (k:=i) (by rw[HSB.out.len];exact hlt) (by rw[HSB.out.row i hlt];omega)
              have SB2:Hid (∀ r1 r2 r3,r1=Value.slice (some ⟨gx,0,none⟩) nx cx->r2=Value.slice (some ⟨gz,0,none⟩) nz cz->r3=Value.int .u8 (yy:Int)->Calls Tryz.prog 150 #[r1,r2,r3] w7.drew fun e w''=>e=.returned (.tuple #[])/\Two w H1 w'' (.slice (some ⟨ga,0,none⟩) N ca) ua A7 (.slice (some ⟨gb,0,none⟩) N cb) ub B7/\w''.cell? ⟨gb,t,none⟩=some (.slice (some ⟨gx,0,none⟩) nx cx)/\w''.cell? ⟨gb,i,none⟩=some (.slice (some ⟨gz,0,none⟩) nz cz)):=fun r1 r2 r3 e1 e2 e3=>(SB.out _ r1 r2 r3 (T7'.out.keep (grown_drewN _ 1)) (e1.trans ex.symm) (e2.trans ez.symm) e3).mono fun e w' h=>⟨h.1,h.2,by rw[h.2.ob.cellOf (by rw[LB7.out];exact htl),ex],by rw[h.2.ob.cellOf (by rw[LB7.out];exact hlt),ez]⟩
              have HD1:Hid (w7.drew.cell? ⟨gb,t,none⟩=some (.slice (some ⟨gx,0,none⟩) nx cx)/\w7.drew.cell? ⟨gb,i,none⟩=some (.slice (some ⟨gz,0,none⟩) nz cz)):=⟨hcx,hcz⟩
              clear ex ez hnx hnz ox oz hcxj hczj SA SB T7'
              go_wp2_with fail
              go_region_held3 (fun w'=>w'.cell? ⟨gb,t,none⟩=some (.slice (some ⟨gx,0,none⟩) nx cx)/\w'.cell? ⟨gb,i,none⟩=some (.slice (some ⟨gz,0,none⟩) nz cz)) (first | exact HD1.out | exact HD2.out) (first | (go_at_call 150;refine (SB2.out _ _ _ (by with_reducible rfl) (by with_reducible rfl) (by with_reducible rfl)).mono ?_;rintro e w8 ⟨rfl,T8,hd1,hd2⟩;have T8':Hid (Two w H1 w8 (.slice (some ⟨ga,0,none⟩) N ca) ua A7 (.slice (some ⟨gb,0,none⟩) N cb) ub B7):=T8;have HD2:Hid (w8.cell? ⟨gb,t,none⟩=some (.slice (some ⟨gx,0,none⟩) nx cx)/\w8.cell? ⟨gb,i,none⟩=some (.slice (some ⟨gz,0,none⟩) nz cz)):=⟨hd1,hd2⟩;clear T8 hd1 hd2))
              all_goals
               go_wp2
               go_roundw
               case rel=>exact⟨t+1,A7,B7,by omega,by go_num,T8'.out,MI2.out⟩
               case measure=>simp[intOf];omega
          ·have htn:t=N:=by omega
           subst htn
           go_wp2_with fail
           go_roundw
           case rel=>exact⟨i+1,A,B,by omega,by go_num,T.out,MI.out.work⟩
           case measure=>simp[intOf];omega
  ·have hkn:N=i:=by omega
   subst hkn
   have IV:Hid (MX.Inv N (at2 X) (at2 B)/\Shape B N N):=⟨WK.out.done,WK.out.sB⟩
   go_wp2
   go_ret2
   exact⟨T.out.gr,.inl ⟨_,_,_,ub,B,rfl,T.out.ob.down T.out.lt,IV.out.2,IV.out.1⟩⟩
end Go.Proofs.YtaalagkbpeinkaaGreat
