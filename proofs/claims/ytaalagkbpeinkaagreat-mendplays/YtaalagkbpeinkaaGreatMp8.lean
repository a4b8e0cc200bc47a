/- Packed: Ask, RefId, Mark5, Put5, Ref5, All5, Rows7, RTake7. -/
import Derived.Laws.BitsAllLaws
import Derived.Test.YtaalagkbpeinkaaGreatMp7
import Derived.Laws.MakeOwn
set_option maxRecDepth 100000
namespace Go.Proofs.YtaalagkbpeinkaaGreat
open Go.RowKit
def mayI (k n:Int):Bool:=decide (1<=k)&&(decide (k < n)&&decide (n<=255))
theorem mayI_iff {k n:Int}:mayI k n=true ↔ 1<=k/\k < n/\n<=255:=by unfold mayI;simp
theorem mayI_not {k n:Int} (h:¬ (1<=k/\k < n/\n<=255)):mayI k n=false:=by
 rw[Bool.eq_false_iff]
 exact fun e=>h (mayI_iff.1 e)
theorem codeMay_any (k n:Int) (w:World):Calls Tryz.prog 81 #[.int .i64 k,.int .i64 n] w fun e w'=>e=.returned (.bool (mayI k n))/\w'=w:=by
 by_cases h1:1<=k
 ·by_cases h2:k < n
  ·by_cases h3:n<=255
   ·have HE:Hid (mayI k n=true):=mayI_iff.2 ⟨by omega,h2,by omega⟩
    go_enter Tryz.func81,Tryz.ntmps81
    go_wp2
    go_ret
    exact⟨by rw[HE.out];first | rfl | (rw[decide_eq_true h3]),rfl⟩
   ·have HE:Hid (mayI k n=false):=mayI_not (by omega)
    go_enter Tryz.func81,Tryz.ntmps81
    go_wp2
    go_ret
    exact⟨by rw[HE.out];first | rfl | (rw[decide_eq_false h3]),rfl⟩
  ·have HE:Hid (mayI k n=false):=mayI_not (by omega)
   go_enter Tryz.func81,Tryz.ntmps81
   go_wp2
   go_ret
   exact⟨by rw[HE.out];rfl,rfl⟩
 ·have HE:Hid (mayI k n=false):=mayI_not (by omega)
  go_enter Tryz.func81,Tryz.ntmps81
  go_wp2
  go_ret
  exact⟨by rw[HE.out];rfl,rfl⟩
theorem refMay4_any (k n:Int) (w:World):Calls Tryz.prog 83 #[.int .i64 k,.int .i64 n] w fun e w'=>e=.returned (.bool (mayI k n))/\w'=w:=by
 by_cases h1:0 < k
 ·by_cases h2:k < n
  ·by_cases h3:n < 256
   ·have HE:Hid (mayI k n=true):=mayI_iff.2 ⟨by omega,h2,by omega⟩
    go_enter Tryz.func83,Tryz.ntmps83
    go_wp2
    go_ret
    exact⟨by rw[HE.out];first | rfl | (rw[decide_eq_true h3]),rfl⟩
   ·have HE:Hid (mayI k n=false):=mayI_not (by omega)
    go_enter Tryz.func83,Tryz.ntmps83
    go_wp2
    go_ret
    exact⟨by rw[HE.out];first | rfl | (rw[decide_eq_false h3]),rfl⟩
  ·have HE:Hid (mayI k n=false):=mayI_not (by omega)
   go_enter Tryz.func83,Tryz.ntmps83
   go_wp2
   go_ret
   exact⟨by rw[HE.out];rfl,rfl⟩
 ·have HE:Hid (mayI k n=false):=mayI_not (by omega)
  go_enter Tryz.func83,Tryz.ntmps83
  go_wp2
  go_ret
  exact⟨by rw[HE.out];rfl,rfl⟩
def evenB (X:List (List Nat)):Bool:=(List.range X.length).all fun j=>(X.getD j []).length==(X.getD 0 []).length
theorem evenB_iff {X:List (List Nat)}:evenB X=true ↔ ∀ j,j < X.length->(X.getD j []).length=(X.getD 0 []).length:=by
 unfold evenB
 simp only[List.all_eq_true,List.mem_range,beq_iff_eq]
theorem evenB_not {X:List (List Nat)} {j:Nat} (hj:j < X.length) (h:(X.getD j []).length ≠ (X.getD 0 []).length):evenB X=false:=by
 rw[Bool.eq_false_iff]
 exact fun e=>h (evenB_iff.1 e j hj)
theorem even_shape {X:List (List Nat)} (h:evenB X=true):Shape X X.length (X.getD 0 []).length:=⟨rfl,evenB_iff.1 h⟩
set_option maxHeartbeats 1600000 in
theorem asLong_any {w:World} {r:Value} {vs:List Value} {X:List (List Nat)} (mr:Mat w r vs X) :
 Calls Tryz.prog 110 #[r] w fun e w'=>e=.returned (.bool (evenB X))/\w'=w:=by
 obtain⟨q,N,cap,rfl,hN⟩:=mr.row.opened
 have hs:=mr.same
 have hNl:N<=140737488351232:=by have:=mr.row.len;omega
 by_cases h0:N=0
 ·subst h0
  have HE:Hid (evenB X=true):=evenB_iff.2 fun j hj=>by omega
  clear hN hs mr
  go_enter Tryz.func110,Tryz.ntmps110
  go_wp2_with fail
  go_loop [7] (fun ti=>ti=.int .i64 0) (fun _=>0)
  case atStart=>exact rfl
  case round =>
   obtain rfl:=hrel
   go_wp2
   go_ret
   exact⟨by rw[HE.out];rfl,rfl⟩
 ·obtain⟨b,off,rfl,hc⟩:=mr.row.spot (k:=0) (by omega)
  obtain⟨p0,n0,c0,e0,hn0⟩:=(mr.vec 0 (by omega)).opened
  rw[e0,Nat.add_zero] at hc
  have HN:Hid (N=X.length/\n0=(X.getD 0 []).length):=⟨by omega,hn0⟩
  have MR:Hid (Mat w (.slice (some ⟨b,off,none⟩) N cap) vs X):=mr
  have hN0:(0:Int) < (N:Int):=by omega
  clear e0 hn0 hN hs mr
  go_enter Tryz.func110,Tryz.ntmps110
  go_wp2_with fail
  go_loop [7] (fun ti=>∃ k:Nat,k<=N/\ti=.int .i64 k/\Hid (∀ j,j < k->(X.getD j []).length=n0)) (fun ti=>N - (intOf ti).toNat)
  case atStart=>exact⟨0,by omega,rfl,fun j hj=>by omega⟩
  case round =>
   obtain⟨k,hk,rfl,HA⟩:=hrel
   by_cases hlt:k < N
   ·obtain⟨b1,o1,e1,hr⟩:=MR.out.row.spot (k:=k) (by have:=HN.out;have:=MR.out.same;omega)
    obtain⟨rfl,rfl⟩:b=b1/\off=o1:=by
     injection e1 with e1
     injection e1 with e2 e3
     exact⟨e2,e3⟩
    obtain⟨pk,nk,ck,ek,hnk⟩:=(MR.out.vec k (by have:=HN.out;omega)).opened
    rw[ek] at hr
    clear e1 ek
    have i2:(k:Int) < (N:Int):=by omega
    have i3:(0:Int)<=(k:Int):=by omega
    by_cases he:nk=n0
    ·have hne:((nk:Int) != (n0:Int))=false:=by simp[he]
     have HA':Hid (∀ j,j < k+1->(X.getD j []).length=n0):=fun j hj=>by
      by_cases e:j=k
      ·subst e;omega
      ·exact HA.out j (by omega)
     clear he hnk
     go_wp2
     go_round
     case rel=>exact⟨k+1,by omega,by go_num,HA'⟩
     case measure=>simp[intOf];omega
    ·have hne:((nk:Int) != (n0:Int))=true:=by simp;omega
     have HM:Hid (evenB X=false):=evenB_not (j:=k) (by have:=HN.out;omega) (by have:=HN.out;omega)
     clear he hnk
     go_wp2
     go_ret
     exact⟨by rw[HM.out];rfl,rfl⟩
   ·have HM:Hid (evenB X=true):=evenB_iff.2 fun j hj=>by rw[HA.out j (by have:=HN.out;omega)];exact HN.out.2
    go_wp2
    go_ret
    exact⟨by rw[HM.out];rfl,rfl⟩
set_option maxHeartbeats 1600000 in
theorem refEven_any {w:World} {r:Value} {vs:List Value} {X:List (List Nat)} (mr:Mat w r vs X) :
 Calls Tryz.prog 115 #[r] w fun e w'=>e=.returned (.bool (evenB X))/\w.grownBy w' none:=by
 obtain⟨q,N,cap,rfl,hN⟩:=mr.row.opened
 have hs:=mr.same
 have hNl:N<=140737488351232:=by have:=mr.row.len;omega
 have HN:Hid (N=X.length):=by show _=_;omega
 have MR:Hid (∀ w',w.grownBy w' none->Mat w' (.slice q N cap) vs X):=fun w' g=>mr.keep g
 clear hN hs mr
 go_enter Tryz.func115,Tryz.ntmps115
 go_wp2_with fail
 go_loopw [3] (fun ti wr=>∃ k:Nat,1<=k/\(k<=N\/k=1)/\ti=.int .i64 k/\Hid (w.grownBy wr none)/\Hid (∀ j,j < k->(X.getD j []).length=(X.getD 0 []).length)) (fun ti _=>N - (intOf ti).toNat)
 case atStart=>exact⟨1,by omega,by omega,rfl,World.grownBy.refl _ _,fun j hj=>by rw[show j=0 from by omega]⟩
 case round =>
  obtain⟨k,hk1,hk,rfl,GK,HA⟩:=hrel
  by_cases hlt:k < N
  ·have GD:w.grownBy wr.drew none:=grown_trans GK.out (grown_drewN _ 1)
   have MK:=MR.out _ GD
   obtain⟨b,off,rfl,hc⟩:=MK.row.spot (k:=0) (by have:=HN.out;have:=MK.same;omega)
   obtain⟨p0,n0,c0,e0,hn0⟩:=(MK.vec 0 (by have:=HN.out;omega)).opened
   rw[e0,Nat.add_zero] at hc
   obtain⟨b1,o1,e1,hr⟩:=MK.row.spot (k:=k) (by have:=HN.out;have:=MK.same;omega)
   obtain⟨rfl,rfl⟩:b=b1/\off=o1:=by
    injection e1 with e1
    injection e1 with e2 e3
    exact⟨e2,e3⟩
   obtain⟨pk,nk,ck,ek,hnk⟩:=(MK.vec k (by have:=HN.out;omega)).opened
   rw[ek] at hr
   clear e1 ek e0 MK
   have i1:(0:Int) < (N:Int):=by omega
   have i4:0 < N:=by omega
   have i2:(k:Int) < (N:Int):=by omega
   have i3:(0:Int)<=(k:Int):=by omega
   have GD':Hid (w.grownBy wr.drew none):=GD
   clear GD
   by_cases he:nk=n0
   ·have hne:((nk:Int) != (n0:Int))=false:=by simp[he]
    have HA':Hid (∀ j,j < k+1->(X.getD j []).length=(X.getD 0 []).length):=fun j hj=>by
     by_cases e:j=k
     ·subst e;omega
     ·exact HA.out j (by omega)
    clear he hnk hn0
    go_wp2_with fail
    go_region
    all_goals
     go_wp2
     go_roundw
     case rel=>exact⟨k+1,by omega,by omega,by go_num,GD'.out,HA'⟩
     case measure=>simp[intOf];omega
   ·have hne:((nk:Int) != (n0:Int))=true:=by simp;omega
    have HM:Hid (evenB X=false):=evenB_not (j:=k) (by have:=HN.out;omega) (by omega)
    clear he hnk hn0
    go_wp2_with fail
    go_region
    all_goals
     go_wp2
     go_ret
     exact⟨by rw[HM.out];rfl,GD'.out⟩
  ·have HM:Hid (evenB X=true):=evenB_iff.2 fun j hj=>HA.out j (by have:=HN.out;omega)
   go_wp2
   go_ret
   exact⟨by rw[HM.out];rfl,GK.out⟩
def fitsB (k n:Int) (X:List (List Nat)):Bool:=mayI k n&&(decide ((X.length:Int)=k)&&evenB X)
theorem fitsB_iff {k n:Int} {X:List (List Nat)}:fitsB k n X=true ↔ (1<=k/\k < n/\n<=255)/\(X.length:Int)=k/\evenB X=true:=by
 unfold fitsB
 rw[Bool.and_eq_true,Bool.and_eq_true,mayI_iff,decide_eq_true_iff]
theorem fits_any {k n:Int} {w:World} {r:Value} {vs:List Value} {X:List (List Nat)} (mr:Mat w r vs X) :
 Calls Tryz.prog 98 #[.int .i64 k,.int .i64 n,r] w fun e w'=>e=.returned (.bool (fitsB k n X))/\w'=w:=by
 obtain⟨q,N,cap,rfl,hN⟩:=mr.row.opened
 have hs:=mr.same
 have hNl:N<=140737488351232:=by have:=mr.row.len;omega
 have HN:Hid (N=X.length):=by show _=_;omega
 have HF:Hid (fitsB k n X=(mayI k n&&(decide ((N:Int)=k)&&evenB X))):=by show _=_;unfold fitsB;rw[HN.out]
 have MM:Hid (∀ w,Calls Tryz.prog 81 #[.int .i64 k,.int .i64 n] w fun e w'=>e=.returned (.bool (mayI k n))/\w'=w):=fun w=>codeMay_any k n w
 have AA:Hid (Calls Tryz.prog 110 #[.slice q N cap] w fun e w'=>e=.returned (.bool (evenB X))/\w'=w):=asLong_any mr
 clear hN hs mr
 generalize evenB X=be at *
 generalize mayI k n=bm at *
 by_cases hk:(N:Int)=k
 all_goals
  cases bm
  all_goals
   go_enter Tryz.func98,Tryz.ntmps98
   go_wp2_with (first
    | (go_at_call 81;refine (MM.out _).mono ?_;rintro e w1 ⟨rfl,hw⟩;obtain rfl:=hw.symm;clear hw)
    | (go_at_call 110;refine AA.out.mono ?_;rintro e w1 ⟨rfl,hw⟩;obtain rfl:=hw.symm;clear hw))
   go_ret
   exact⟨by rw[HF.out];first | rfl | (rw[decide_eq_true hk];rfl) | (rw[decide_eq_false hk];rfl) | (rw[decide_eq_true hk];simp),rfl⟩
def idUp (n k:Nat):List (List Nat):=(List.range k).map fun i=>idRow n i
theorem idUp_next (n k:Nat):idUp n k++[idRow n k]=idUp n (k+1):=by simp[idUp,List.range_succ]
theorem Sep.more {H:Nat} {us:List Value} (h:Sep us) (hh:∀ j,j < us.length->Hi H (us.getD j undef)) {u:Value} (hu:Lo H u):Sep (us++[u]):=by
 have e1:∀ j,j < us.length->(us++[u]).getD j undef=us.getD j undef:=fun j hj=>by simp[List.getD,List.getElem?_append,hj]
 have e2:(us++[u]).getD us.length undef=u:=by simp[List.getD]
 intro i j hi hj hne
 simp only[List.length_append,List.length_cons,List.length_nil] at hi hj
 by_cases h1:i < us.length
 ·by_cases h2:j < us.length
  ·rw[e1 i h1,e1 j h2];exact h i j h1 h2 hne
  ·obtain rfl:j=us.length:=by omega
   rw[e1 i h1,e2];exact ap_of (hh i h1) hu
 ·obtain rfl:i=us.length:=by omega
  rw[e2,e1 j (by omega)];exact (ap_of (hh j (by omega)) hu).symm
theorem cell_new1 {W:World} {g:Nat} (x:Value) (t:TypeId) (h:g=W.heap.size):(W.alloc (.cells #[x] t)).cell? ⟨g,0,none⟩=some x:=by
 subst h
 have h:=heap_alloc_new W (.cells #[x] t)
 unfold World.cell?
 rw[h];rfl
set_option maxHeartbeats 1600000 in
theorem refIdent_any (n:Nat) (w:World) (h1:1<=n) (h2:n<=255) :
 Calls Tryz.prog 133 #[.int .i64 (n:Int)] w fun e w'=>∃ v us,e=.returned (.tuple #[v,.int .i64 0])/\OwnMat w.heap.size w' v us (idList n)/\Sep us/\w.grownBy w' none:=by
 have j1:¬ (n:Int) < 1:=by omega
 have j2:¬ (255:Int) < (n:Int):=by omega
 go_enter Tryz.func133,Tryz.ntmps133
 go_wp2_with fail
 clear j1 j2
 have HN:Hid (1<=n/\n<=255):=⟨h1,h2⟩
 clear h1
 go_loopw [4,5] (fun tv ti wr=>∃ (k:Nat) (us:List Value),k<=n/\ti=.int .i64 k/\Hid (us.length=k)/\Hid (OwnMat w.heap.size wr tv us (idUp n k))/\Hid (Sep us)/\Hid (w.grownBy wr none)) (fun _ ti _=>n - (intOf ti).toNat)
 case atStart=>exact⟨0,[],by omega,rfl,rfl,OwnMat.nil _ _,(fun i j hi=>by simp at hi),World.grownBy.refl _ _⟩
 case round =>
  obtain⟨k,us,hk,rfl,HU,OM,SP,GK⟩:=hrel
  by_cases hlt:k < n
  ·have i1:(k:Int) < (n:Int):=by omega
   have i3:(0:Int)<=(k:Int):=by omega
   have HB:Hid (w.heap.size<=wr.heap.size):=GK.out.size
   go_wp2_with (first
    | (at_make;refine wpList_make_vec rfl _ _ rfl n rfl rfl (by omega) ?_;intro w1 p ou g1;obtain⟨gu,rfl,q1,hcx,hfx,q2,hset,hgrow⟩:=ou.spot (k:=k) (by simp;omega);have G2:Hid (wr.grownBy (w1.setCell ⟨gu,k,none⟩ (.int .u8 1)) none):=grown_new g1 (hgrow _) (fun i e=>by have h:=ou.lo gu rfl;have:=Option.some.inj e;omega);have OU:Hid (Own wr.heap.size (w1.setCell ⟨gu,k,none⟩ (.int .u8 1)) (.slice (some ⟨gu,0,none⟩) n n) (idRow n k)):=(by have h:=hset 1 (by decide);rw[idRow_set] at h;exact h);have HSZ:Hid (wr.heap.size<=w1.heap.size):=g1.size;clear q1 q2 hset hgrow ou g1)
    | (at_builtin;refine wpList_append_out rfl _ _ rfl u4 ⟨w1.heap.size,0,none⟩ rfl rfl (B:=w.heap.size) (us:=us) (u:=.slice (some ⟨gu,0,none⟩) n n) ((OM.out.keep (grown_trans G2.out (World.grownBy_alloc _ _ none))).out) (cell_new1 _ _ (by simp)) rfl (by have h1:=HB.out;have h2:=HSZ.out;simp;omega) (by have:=HU.out;omega) ?_;intro v' w2 oo gg at2;have HO:Hid (Out w.heap.size w2 v' (us++[.slice (some ⟨gu,0,none⟩) n n])):=oo;have HG:Hid (((w1.setCell ⟨gu,k,none⟩ (.int .u8 1)).alloc (.cells #[.slice (some ⟨gu,0,none⟩) n n] 31)).grownBy w2 u4.ownBlock):=gg;clear oo gg at2 hcx hfx))
   have R:Hid (OwnMat w.heap.size w2 v' (us++[.slice (some ⟨gu,0,none⟩) n n]) (idUp n (k+1))/\Sep (us++[.slice (some ⟨gu,0,none⟩) n n])/\w.grownBy w2 none):=by
    rw[<- idUp_next]
    refine⟨(OM.out.keep (grown_trans G2.out (World.grownBy_alloc _ _ none))).more ((OU.out.down HB.out).keep (World.grownBy_alloc _ _ none)) (by have:=HU.out;omega) (by simpa using HO.out.row) HG.out,SP.out.more (H:=wr.heap.size) OM.out.hiRow OU.out.lo,?_⟩
    exact grown_new (grown_trans GK.out (grown_trans G2.out (World.grownBy_alloc _ _ none))) HG.out OM.out.lo
   clear HO HG OM OU G2 HB HSZ SP
   go_roundw
   case rel=>exact⟨k+1,us++[Value.slice (some ⟨gu,0,none⟩) n n],by omega,by go_num,show _=_ by simpa using HU.out,R.out.1,R.out.2.1,R.out.2.2⟩
   case measure=>simp[intOf];omega
  ·have hkN:n=k:=by omega
   subst hkN
   go_wp2
   go_ret2
   exact⟨_,us,rfl,OM.out,SP.out,GK.out⟩
def markTo (n j:Nat):List Nat:=(List.range 8).map fun i=>if 8 - j<=i then n / 256 ^ (7 - i) % 256 else 0
theorem markTo_len (n j:Nat):(markTo n j).length=8:=by simp[markTo]
theorem markTo_zero (n:Nat):markTo n 0=SM.z 8:=by
 simp only[markTo,SM.z]
 rw[List.eq_replicate_iff]
 refine⟨by simp,fun b hb=>?_⟩
 obtain⟨i,hi,rfl⟩:=List.mem_map.1 hb
 rw[if_neg (by have:=List.mem_range.1 hi;omega)]
theorem markTo_all (n:Nat):markTo n 8=SM.mk n:=by simp[markTo,SM.mk]
theorem markTo_set (n j:Nat) (h:j < 8):(markTo n j).set (7 - j) (n / 256 ^ j % 256)=markTo n (j+1):=by
 apply SM.ext_getD (by simp[markTo])
 intro i hi
 have hi':i < 8:=by simpa [markTo] using hi
 by_cases e:7 - j=i
 ·subst e
  have e2:7 - (7 - j)=j:=by omega
  simp[markTo,List.getD,hi',e2]
  omega
 ·have e3:(7<=i+j)=(8<=i+j):=by apply propext;omega
  simp[markTo,List.getD,hi',e,e3]
theorem pow_256 (j:Nat):2 ^ (8 * j)=256 ^ j:=by rw[Nat.pow_mul]
theorem byte_cast (n j:Nat):((n:Int) / 2 ^ (8 * j) % 256)=((n / 256 ^ j % 256:Nat):Int):=by
 rw[<- pow_256];simp
theorem or_bytes {v y:Nat} (hv:v < 72057594037927936) (hy:y < 256):bits .or .u64 ((v:Int) * 256) (y:Int)=((256 * v+y:Nat):Int):=by
 have e:(v:Int) * 256=((256 * v:Nat):Int):=by omega
 rw[e,u64_or_nat _ _ (by omega) (by omega)]
 have:=Nat.two_pow_add_eq_or_of_lt (i:=8) hy v
 rw[show 2 ^ 8=256 by rfl] at this
 rw[this]
theorem zeroM (w:World):(zeroValue 205).run Tryz.prog w=.ok (.agg (rowOf (SM.z 8))) w:=by
 have h:(Tryz.prog.info? 205).map (fun i=>(i.zero,i.size))=some (some (.agg (rowOf (SM.z 8))),8):=by kernel_rfl
 cases hq:Tryz.prog.info? 205 with
 | none=>simp[hq] at h
 | some i=>simp[hq] at h;simp[zeroValue,typeInfo,hq,h.1]
theorem infoM {xs:List Nat} (h:xs.length=8):(Tryz.prog.info? 205).map (·.size)=some (rowOf xs).size:=by rw[rowOf_size,h];kernel_rfl
set_option maxHeartbeats 800000 in
theorem marked_any (n:Nat) (w:World) :
 Calls Tryz.prog 155 #[.int .u64 (n:Int)] w fun e w'=>e=.returned (.agg (rowOf (SM.mk n)))/\w.grownBy w' none:=by
 have zM:=zeroM
 go_enter Tryz.func155,Tryz.ntmps155
 go_wp2
 clear zM
 go_loopw [4] (fun ti wr=>∃ j:Nat,j<=8/\ti=.int .i64 j/\Hid (wr.heap[w.heap.size]?=some (.cells (rowOf (markTo n j)) 205 (0,0)))/\Hid (w.grownBy wr none)) (fun ti _=>8 - (intOf ti).toNat)
 case atStart =>
  refine⟨0,by omega,rfl,?_,gb_alloc (World.grownBy.refl _ _) _⟩
  rw[markTo_zero]
  exact heap_alloc_new w _
 case round =>
  obtain⟨j,hj,rfl,HM,HG⟩:=hrel
  by_cases hlt:j < 8
  ·have i1:(j:Int) < 8:=by omega
   have hc:wr.cell? ⟨w.heap.size,7 - j,none⟩=some (.int .u8 (((markTo n j).getD (7 - j) 0:Nat):Int)):=by rw[cell_of_row _ _ _ _ _ _ HM.out,rowOf_get _ (by rw[markTo_len];omega)]
   have hf:wr.frozen? ⟨w.heap.size,7 - j,none⟩=false:=frozen_of_row _ _ _ _ _ HM.out
   have HP:Hid ((wr.setCell ⟨w.heap.size,7 - j,none⟩ (.int .u8 ((n / 256 ^ j % 256:Nat):Int))).heap[w.heap.size]?=some (.cells (rowOf (markTo n (j+1))) 205 (0,0))):=by
    show _=_
    rw[heap_setCell_same _ _ _ _ _ _ HM.out,rowOf_set,markTo_set n j hlt]
   have HGN:Hid (w.grownBy (wr.setCell ⟨w.heap.size,7 - j,none⟩ (.int .u8 ((n / 256 ^ j % 256:Nat):Int))) none):=gb_setCell HG.out (by simp) _
   rw[<- byte_cast] at HP HGN
   clear HM HG
   go_wp2
   go_roundw
   case rel=>exact⟨j+1,by omega,by go_num,HP,HGN⟩
   case measure=>simp[intOf];omega
  ·have i1:¬ (j:Int) < 8:=by omega
   have HM':wr.heap[w.heap.size]?=some (.cells (rowOf (SM.mk n)) 205 (0,0)):=by
    have e:j=8:=by omega
    rw[<- markTo_all,<- e];exact HM.out
   clear HM
   have HI:Hid ((Tryz.prog.info? 205).map (·.size)=some (rowOf (SM.mk n)).size):=infoM (SM.mk_len n)
   have HP:Hid (wr.heap[w.heap.size]?=some (.cells (rowOf (SM.mk n)) 205 (0,0))):=HM'
   have H1:Hid ((rowOf (SM.mk n)).all (·.oneCell')=true):=rowOf_one _
   have HSR:Hid (wr.setRow w.heap.size (rowOf (SM.mk n))=wr):=setRow_self wr w.heap.size _ _ _ HM'
   clear HM'
   obtain⟨AR,hAR⟩:∃ AR,AR=rowOf (SM.mk n):=⟨_,rfl⟩
   rw[<- hAR] at HI HP H1 HSR
   have HAR:Hid (AR=rowOf (SM.mk n)):=hAR
   clear hAR
   go_wp2_with (first
    | refine wpList_load_row rfl 205 (.tmp 2) rfl w.heap.size rfl 205 AR (0,0) _ HP.out Tryz.underlying205 rfl HI.out ?_
    | (refine wpList_store_row rfl 205 (.tmp 2) (.tmp 16) rfl w.heap.size AR rfl rfl 205 AR HP.out HI.out rfl H1.out ?_;rw[HSR.out]))
   exact bodyPost_ret (results_cell_row rfl _ _ w.heap.size 205 AR (0,0) _ rfl HP.out Tryz.underlying205 rfl HI.out) rfl ⟨by rw[HAR.out],HG.out⟩
set_option maxHeartbeats 800000 in
theorem stampOf_any {w:World} {v:Value} {xs:List Nat} (hv:Vec w v xs) (h8:8<=xs.length) :
 Calls Tryz.prog 156 #[v] w fun e w'=>e=.returned (.int .u64 ((SM.val xs 8:Nat):Int))/\w'=w:=by
 obtain⟨q,N,cap,rfl,hN⟩:=hv.opened
 obtain⟨b,off,rfl,_⟩:=hv.spot (k:=0) (by omega)
 have hcap:N<=cap:=by
  obtain⟨p',cap',e,h3,_⟩:=hv.form
  injection e with e1 e2 e3
  omega
 have hN8:8<=N:=by omega
 have HV:Hid (Vec w (.slice (some ⟨b,off,none⟩) N cap) xs):=hv
 have HS:Hid (∀ x ∈ xs,x < 256):=hv.small
 clear hv hN
 go_enter Tryz.func156,Tryz.ntmps156
 go_wp2
 go_loop [3,9] (fun ts ti=>∃ k:Nat,k<=8/\ti=.int .i64 k/\ts=.int .u64 ((SM.val xs k:Nat):Int)) (fun _ ti=>8 - (intOf ti).toNat)
 case atStart=>exact⟨0,by omega,rfl,rfl⟩
 case round =>
  obtain⟨k,hk,rfl,rfl⟩:=hrel
  by_cases hlt:k < 8
  ·have i1:(k:Int) < 8:=by omega
   obtain⟨b',off',e,hc,h256⟩:=HV.out.spot (k:=k) (by omega)
   injection e with e
   injection e with e1 e2
   subst e1
   subst e2
   have h7:SM.val xs k < 72057594037927936:=by
    have h1:=SM.val_lt HS.out k
    have h2:256 ^ k<=256 ^ 7:=Nat.pow_le_pow_right (by decide) (by omega)
    have h3:256 ^ 7=72057594037927936:=by decide
    omega
   have HOR:Hid (bits .or .u64 (((SM.val xs k:Nat):Int) * 256) ((xs.getD k 0:Nat):Int)=((SM.val xs (k+1):Nat):Int)):=or_bytes h7 h256
   generalize xs.getD k 0=y at *
   go_wp2
   go_round
   case rel=>exact⟨k+1,by omega,by go_num,by rw[HOR.out]⟩
   case measure=>simp[intOf];omega
  ·have i1:¬ (k:Int) < 8:=by omega
   have HE:Hid (SM.val xs k=SM.val xs 8):=by
    have e:k=8:=by omega
    show _=_
    rw[e]
   go_wp2
   go_ret
   exact⟨by rw[HE.out];rfl,rfl⟩
theorem zeroS (w:World):(zeroValue 107).run Tryz.prog w=.ok (.agg (rowOf (SM.z 64))) w:=by
 have h:(Tryz.prog.info? 107).map (fun i=>(i.zero,i.size))=some (some (.agg (rowOf (SM.z 64))),64):=by kernel_rfl
 cases hq:Tryz.prog.info? 107 with
 | none=>simp[hq] at h
 | some i=>simp[hq] at h;simp[zeroValue,typeInfo,hq,h.1]
abbrev Sect (B:Nat) (w:World) (v:Value) (xs:List Nat):Prop:=Arr 107 B w v xs
theorem sec_cur (n:Nat) (ld:List Nat) (h:ld.length<=56):(SM.mk n++SM.z 56).take 8++ld++(SM.mk n++SM.z 56).drop (8+ld.length)=SM.sec n ld:=by
 have e1:(SM.mk n++SM.z 56).take 8=SM.mk n:=by rw[List.take_append_of_le_length (by rw[SM.mk_len];exact Nat.le_refl _),List.take_of_length_le (by rw[SM.mk_len];exact Nat.le_refl _)]
 have e2:(SM.mk n++SM.z 56).drop (8+ld.length)=SM.z (56 - ld.length):=by
  rw[List.drop_append,SM.mk_len,List.drop_eq_nil_of_le (by rw[SM.mk_len];omega),List.nil_append,SM.z_drop,Nat.add_sub_cancel_left]
 rw[e1,e2,SM.sec,List.append_assoc]
set_option maxHeartbeats 1600000 in
theorem put_yes {w:World} {n:Nat} {v:Value} {ld:List Nat} (hv:Vec w v ld) (hl:ld.length<=56) :
 Calls Tryz.prog 143 #[.int .u64 (n:Int),v] w fun e w'=>∃ p,e=.returned (.tuple #[.slice p 64 64,.int .i64 0])/\Sect w.heap.size w' (.slice p 64 64) (SM.sec n ld)/\w.grownBy w' none:=by
 obtain⟨q,N,cap,rfl,hN⟩:=hv.opened
 have i1:¬ (56:Int) < (N:Int):=by omega
 have HN:Hid (N=ld.length):=hN
 have HV:Hid (∀ w',w.grownBy w' none->Vec w' (.slice q N cap) ld):=fun w' g=>hv.keep g
 clear hv hN
 have zS:=zeroS
 have zM:=zeroM
 go_enter Tryz.func143,Tryz.ntmps143
 go_wp2_with (first
  | (go_at_call 155;refine (marked_any n _).mono ?_;rintro e w2 ⟨rfl,g2⟩)
  | (refine wpList_store_row rfl 205 (.tmp 7) (.tmp 12) rfl w2.heap.size (rowOf (SM.mk n)) rfl rfl 205 (rowOf (SM.z 8)) (heap_alloc_new w2 _) (infoM (SM.mk_len n)) (by rw[rowOf_size,rowOf_size,SM.mk_len,SM.z_len]) (rowOf_one _) ?_))
 clear zS zM
 have HA:Hid (((w2.alloc (.cells (rowOf (SM.z 8)) 205)).setRow w2.heap.size (rowOf (SM.mk n))).heap[w.heap.size]?=some (.cells (rowOf (SM.z 64)) 107 (0,0))):=by
  have hlt:w.heap.size < w2.heap.size:=by have:=g2.size;simp at this;omega
  show _=_
  rw[setRow_other _ _ _ _ (by omega)]
  refine heap_old _ _ ?_
  rw[g2.block _ (by simp) (by simp)]
  exact heap_alloc_new w _
 have HB:Hid (((w2.alloc (.cells (rowOf (SM.z 8)) 205)).setRow w2.heap.size (rowOf (SM.mk n))).heap[w2.heap.size]?=some (.cells (rowOf (SM.mk n)) 205 (0,0))):=setRow_heap _ _ _ _ _ _ (heap_alloc_new w2 _)
 have HG:Hid (w.grownBy ((w2.alloc (.cells (rowOf (SM.z 8)) 205)).setRow w2.heap.size (rowOf (SM.mk n))) none):=gb_setRow (gb_alloc (grown_trans (gb_alloc (World.grownBy.refl _ _) _) g2) _) (by have:=g2.size;simp at this;omega) _
 have HLT:Hid (w.heap.size < w2.heap.size):=by have:=g2.size;simp at this;show _ < _;omega
 clear g2
 generalize (w2.alloc (.cells (rowOf (SM.z 8)) 205)).setRow w2.heap.size (rowOf (SM.mk n))=W at *
 generalize w2.heap.size=h2 at *
 go_wp2_with fail
 have VB:Hid (Vec W.drew (.slice (some ⟨h2,0,none⟩) 8 8) (SM.mk n)):=((Arr.whole (B:=0) (n:=8) HB.out (Nat.zero_le _) (by rw[SM.mk_len]) (SM.mk_small n) (by rw[SM.mk_len];decide)).vec.keep (grown_drewN W 1))
 go_region_held3 (fun w'=>w.grownBy w' none) (first | exact gb_drew HG.out | exact HG4.out)
  ((refine step_copy_part (T:=107) (cur:=SM.z 64) (ys:=SM.mk n) (by rfl) _ _ (by rfl) _ (by rfl) (by rfl) HA.out VB.out (by rw[SM.mk_len];decide) (by rw[SM.mk_len,SM.z_len];decide) ?_;intro w4 h4 g4;have HG4:Hid (w.grownBy w4 none):=grown_new (gb_drew HG.out) g4 (fun i e=>by have:=Option.some.inj e;omega)))
 have H4:Hid (w4.heap[w.heap.size]?=some (.cells (rowOf (SM.mk n++SM.z 56)) 107 (0,0))):=by
  show _=_
  rw[h4,List.take_zero,List.nil_append,SM.mk_len,SM.z_drop]
 clear h4 g4 VB HA HB HG HLT
 have hS:Hid ((SM.mk n++SM.z 56).take 8++ld++(SM.mk n++SM.z 56).drop (8+ld.length)=SM.sec n ld):=sec_cur n ld hl
 have HL:Hid ((SM.mk n++SM.z 56).length=64):=by show _=_;rw[List.length_append,SM.mk_len,SM.z_len]
 have VL:Hid (∀ x ∈ ld,x < 256):=(HV.out _ HG4.out).small
 generalize SM.mk n++SM.z 56=cur at *
 go_wp2_with (refine wpList_copy_part rfl _ _ rfl _ (cur:=cur) (ys:=ld) rfl rfl H4.out (HV.out _ HG4.out) hl (by rw[HL.out];omega) ?_;intro w5 h5 g5)
 go_ret2
 rw[hS.out] at h5
 exact⟨_,rfl,Arr.whole h5 (Nat.le_refl _) (SM.sec_len hl).symm (SM.sec_small VL.out) (by rw[SM.sec_len hl];decide),grown_new HG4.out g5 (fun i e=>by have:=Option.some.inj e;omega)⟩
theorem take_short {w:World} {v:Value} {xs:List Nat} (hv:Vec w v xs) (hl:xs.length < 64) :
 Calls Tryz.prog 144 #[v] w fun e w'=>e=.returned (.tuple #[.int .u64 0,.slice none 0 0,.int .i64 4])/\w'=w:=by
 obtain⟨q,N,cap,rfl,hN⟩:=hv.opened
 have i1:(N:Int) < 64:=by omega
 clear hv hN
 go_enter Tryz.func144,Tryz.ntmps144
 go_wp2
 go_ret3
 exact⟨rfl,rfl⟩
theorem take_long {w:World} {v:Value} {xs:List Nat} (hv:Vec w v xs) (hl:64 < xs.length) :
 Calls Tryz.prog 144 #[v] w fun e w'=>e=.returned (.tuple #[.int .u64 0,.slice none 0 0,.int .i64 3])/\w'=w:=by
 obtain⟨q,N,cap,rfl,hN⟩:=hv.opened
 have i1:(64:Int) < (N:Int):=by omega
 clear hv hN
 go_enter Tryz.func144,Tryz.ntmps144
 go_wp2
 go_ret3
 exact⟨rfl,rfl⟩
set_option maxHeartbeats 800000 in
theorem take_yes {w:World} {v:Value} {xs:List Nat} (hv:Vec w v xs) (hl:xs.length=64) :
 Calls Tryz.prog 144 #[v] w fun e w'=>∃ p,e=.returned (.tuple #[.int .u64 ((SM.val xs 8:Nat):Int),.slice p 56 56,.int .i64 0])/\Own w.heap.size w' (.slice p 56 56) (xs.drop 8)/\w.grownBy w' none:=by
 obtain⟨q,N,cap,rfl,hN⟩:=hv.opened
 obtain rfl:N=64:=by omega
 obtain⟨b,off,rfl,_⟩:=hv.spot (k:=0) (by omega)
 have hcap:64<=cap:=by
  obtain⟨p',cap',e,h3,_⟩:=hv.form
  injection e with e1 e2 e3
  omega
 have hcm:cap<=maxLen:=by
  obtain⟨p',cap',e,_,h4,_⟩:=hv.form
  injection e with e1 e2 e3
  omega
 have HV:Hid (∀ w',w.grownBy w' none->Vec w' (.slice (some ⟨b,off,none⟩) 64 cap) xs):=fun w' g=>hv.keep g
 have HT:Hid (∀ w',w.grownBy w' none->Vec w' (.slice (some ⟨b,off+8,none⟩) 56 (cap - 8)) (xs.drop 8)):=fun w' g=>(hv.keep g).tail_a (by omega)
 clear hv hN
 unfold maxLen at hcm
 go_enter Tryz.func144,Tryz.ntmps144
 go_wp2_with (first
  | (at_make;refine wpList_make_vec rfl _ _ rfl 56 rfl rfl (by decide) ?_;intro w1 p ou g1;have OU:Hid (Own w.heap.size w1 (.slice p 56 56) (SM.z 56)):=ou;have G1:Hid (w.grownBy w1 none):=g1;clear ou g1)
  | (refine wpList_copy_vec rfl _ _ rfl _ _ rfl rfl OU.out (HT.out _ G1.out) (by rw[SM.z_len,List.length_drop,hl]) ?_;intro w2 o2 g2;have O2:Hid (Own w.heap.size w2 (.slice p 56 56) (xs.drop 8)):=o2;have G2:Hid (w.grownBy w2 none):=grown_new G1.out g2 (fun i e=>OU.out.lo i e);clear o2 g2)
  | (go_at_call 156;refine (stampOf_any (HV.out _ G2.out) (by omega)).mono ?_;rintro e w3 ⟨rfl,hw⟩;obtain rfl:=hw.symm;clear hw))
 go_ret3
 exact⟨p,rfl,O2.out,G2.out⟩
def fillTo (n:Nat) (ld:List Nat) (k:Nat):List Nat:=SM.mk n++(ld.take k++SM.z (56 - k))
theorem fillTo_zero (n:Nat) (ld:List Nat):fillTo n ld 0=SM.mk n++SM.z 56:=by simp[fillTo]
theorem fillTo_all (n:Nat) (ld:List Nat):fillTo n ld ld.length=SM.sec n ld:=by simp[fillTo,SM.sec]
theorem fillTo_len {n:Nat} {ld:List Nat} {k:Nat} (h:k<=ld.length) (hl:ld.length<=56):(fillTo n ld k).length=64:=by
 simp[fillTo,SM.mk_len,SM.z_len];omega
theorem set_app (xs ys:List Nat) (k z:Nat):(xs++ys).set (xs.length+k) z=xs++ys.set k z:=by
 rw[List.set_append_right _ _ (by omega)]
 simp
theorem fillTo_set {n:Nat} {ld:List Nat} {k:Nat} (h:k < ld.length) (hl:ld.length<=56):(fillTo n ld k).set (8+k) (ld.getD k 0)=fillTo n ld (k+1):=by
 have e8:8+k=(SM.mk n).length+k:=by rw[SM.mk_len]
 have ek:k=(ld.take k).length+0:=by simp;omega
 have e2:(ld.take k++SM.z (56 - k)).set k (ld.getD k 0)=ld.take (k+1)++SM.z (56 - (k+1)):=by
  have h1:=set_app (ld.take k) (SM.z (56 - k)) 0 (ld.getD k 0)
  rw[<- ek] at h1
  rw[h1]
  have e3:(SM.z (56 - k)).set 0 (ld.getD k 0)=ld.getD k 0 :: SM.z (56 - (k+1)):=by
   have:56 - k=(56 - (k+1))+1:=by omega
   rw[this]
   rfl
  have e4:ld[k]=ld.getD k 0:=by simp[List.getD,h]
  rw[e3,List.take_succ_eq_append_getElem h,e4,List.append_assoc]
  rfl
 unfold fillTo
 rw[e8,set_app,e2]
theorem markFill_set (n j:Nat) (h:j < 8):(markTo n j++SM.z 56).set (7 - j) (n / 256 ^ j % 256)=markTo n (j+1)++SM.z 56:=by
 rw[List.set_append_left _ _ (by rw[markTo_len];omega),markTo_set n j h]
set_option maxHeartbeats 1600000 in
theorem refPut_yes {w:World} {n:Nat} {v:Value} {ld:List Nat} (hn:n < 18446744073709551616) (hv:Vec w v ld) (hl:ld.length<=56) :
 Calls Tryz.prog 135 #[.int .u64 (n:Int),v] w fun e w'=>∃ p,e=.returned (.tuple #[.slice p 64 64,.int .i64 0])/\Own w.heap.size w' (.slice p 64 64) (SM.sec n ld)/\w.grownBy w' none:=by
 obtain⟨q,N,cap,rfl,hN⟩:=hv.opened
 have i1:¬ (56:Int) < (N:Int):=by omega
 have HN:Hid (N=ld.length):=hN
 have HV:Hid (∀ w',w.grownBy w' none->Vec w' (.slice q N cap) ld):=fun w' g=>hv.keep g
 have hN56:N<=56:=by omega
 clear hv hN
 go_enter Tryz.func135,Tryz.ntmps135
 go_wp2_with (at_make;refine wpList_make_vec rfl _ _ rfl 64 rfl rfl (by decide) ?_;intro w1 p ou g1;have OU:Hid (Own w.heap.size w1 (.slice p 64 64) (SM.z 64)):=ou;have G1:Hid (w.grownBy w1 none):=g1;clear ou g1)
 go_loopw [0,7] (fun ts ti wr=>∃ j:Nat,j<=8/\ts=.int .u64 ((n / 256 ^ j:Nat):Int)/\ti=.int .i64 (7 - (j:Int))/\Hid (Own w.heap.size wr (.slice p 64 64) (markTo n j++SM.z 56))/\Hid (w.grownBy wr none)) (fun _ ti _=>(intOf ti+1).toNat)
 case atStart=>exact⟨0,by omega,by simp,by simp,by rw[markTo_zero];exact OU,G1⟩
 case round =>
  clear OU G1
  obtain⟨j,hj,rfl,rfl,OK,GK⟩:=hrel
  by_cases hlt:j < 8
  ·have i2:(j:Int) < 8:=by omega
   obtain⟨g,rfl,hz,hc,hf,h1,hset,hgr⟩:=OK.out.spot (k:=7 - j) (by rw[List.length_append,markTo_len,SM.z_len];omega)
   clear hz
   have HS:Hid (Own w.heap.size (wr.setCell ⟨g,7 - j,none⟩ (.int .u8 ((n / 256 ^ j % 256:Nat):Int))) (.slice (some ⟨g,0,none⟩) 64 64) (markTo n (j+1)++SM.z 56)):=by
    have h:=hset (n / 256 ^ j % 256) (Nat.mod_lt _ (by decide))
    rw[markFill_set n j hlt] at h
    exact h
   have HG:Hid (w.grownBy (wr.setCell ⟨g,7 - j,none⟩ (.int .u8 ((n / 256 ^ j % 256:Nat):Int))) none):=grown_new GK.out (hgr _) (fun r e=>OK.out.lo r e)
   have HD:Hid (n / 256 ^ j / 256=n / 256 ^ (j+1)):=by show _=_;rw[Nat.div_div_eq_div_mul,Nat.pow_succ]
   have hx:n / 256 ^ j < 18446744073709551616:=Nat.lt_of_le_of_lt (Nat.div_le_self _ _) hn
   clear hset hgr OK GK h1
   generalize (markTo n j++SM.z 56).getD (7 - j) 0=y at *
   generalize n / 256 ^ j=x at *
   rw[Int.natCast_emod] at HS HG
   go_wp2
   go_roundw
   case rel=>exact⟨j+1,by omega,by rw[<- HD.out];go_num,by go_num,HS,HG⟩
   case measure=>simp[intOf];omega
  ·have i2:¬ (j:Int) < 8:=by omega
   have HM:Hid (Own w.heap.size wr (.slice p 64 64) (fillTo n ld 0)):=by
    have e:j=8:=by omega
    rw[fillTo_zero,<- markTo_all,<- e];exact OK
   have i3:¬ (0:Int)<=7 - (j:Int):=by omega
   clear OK
   obtain⟨wa,hwa⟩:∃ wa,wa=wr:=⟨wr,rfl⟩
   subst hwa
   go_wp2
   go_loopw [8] (fun ti wr=>∃ k:Nat,k<=N/\ti=.int .i64 (k:Int)/\Hid (Own w.heap.size wr (.slice p 64 64) (fillTo n ld k))/\Hid (w.grownBy wr none)) (fun ti _=>N - (intOf ti).toNat)
   case atStart=>exact⟨0,by omega,by simp,HM,GK⟩
   case round =>
    clear HM GK
    obtain⟨k,hk,rfl,OK,GK⟩:=hrel
    by_cases hlt2:k < N
    ·have j1:(k:Int) < (N:Int):=by omega
     have hkl:k < ld.length:=by have:=HN.out;omega
     obtain⟨b,off,rfl,hcl,hl256⟩:=(HV.out _ GK.out).spot (k:=k) hkl
     obtain⟨g,rfl,hz,hc,hf,h1,hset,hgr⟩:=OK.out.spot (k:=8+k) (by rw[fillTo_len (by omega) hl];omega)
     clear hz
     have HS:Hid (Own w.heap.size (wr.setCell ⟨g,8+k,none⟩ (.int .u8 ((ld.getD k 0:Nat):Int))) (.slice (some ⟨g,0,none⟩) 64 64) (fillTo n ld (k+1))):=by
      have h:=hset (ld.getD k 0) hl256
      rw[fillTo_set hkl hl] at h
      exact h
     have HG:Hid (w.grownBy (wr.setCell ⟨g,8+k,none⟩ (.int .u8 ((ld.getD k 0:Nat):Int))) none):=grown_new GK.out (hgr _) (fun r e=>OK.out.lo r e)
     clear hset hgr OK GK h1
     generalize (fillTo n ld k).getD (8+k) 0=y at *
     generalize ld.getD k 0=x at *
     go_wp2
     go_roundw
     case rel=>exact⟨k+1,by omega,by go_num,HS,HG⟩
     case measure=>simp[intOf];omega
    ·have j1:¬ (k:Int) < (N:Int):=by omega
     have HM:Hid (Own w.heap.size wr (.slice p 64 64) (SM.sec n ld)):=by
      have e:k=ld.length:=by have:=HN.out;omega
      rw[<- fillTo_all,<- e];exact OK
     clear OK
     go_wp2
     go_ret2
     exact⟨p,rfl,HM.out,GK.out⟩
theorem refTake_short {w:World} {v:Value} {xs:List Nat} (hv:Vec w v xs) (hl:xs.length < 64) :
 Calls Tryz.prog 147 #[v] w fun e w'=>e=.returned (.tuple #[.int .u64 0,.slice none 0 0,.int .i64 4])/\w'=w:=by
 obtain⟨q,N,cap,rfl,hN⟩:=hv.opened
 have i1:(N:Int) < 64:=by omega
 clear hv hN
 go_enter Tryz.func147,Tryz.ntmps147
 go_wp2
 go_ret3
 exact⟨rfl,rfl⟩
theorem refTake_long {w:World} {v:Value} {xs:List Nat} (hv:Vec w v xs) (hl:64 < xs.length) :
 Calls Tryz.prog 147 #[v] w fun e w'=>e=.returned (.tuple #[.int .u64 0,.slice none 0 0,.int .i64 3])/\w'=w:=by
 obtain⟨q,N,cap,rfl,hN⟩:=hv.opened
 have i1:(64:Int) < (N:Int):=by omega
 clear hv hN
 go_enter Tryz.func147,Tryz.ntmps147
 go_wp2
 go_ret3
 exact⟨rfl,rfl⟩
set_option maxHeartbeats 800000 in
theorem refTake_yes {w:World} {v:Value} {xs:List Nat} (hv:Vec w v xs) (hl:xs.length=64) :
 Calls Tryz.prog 147 #[v] w fun e w'=>∃ u,e=.returned (.tuple #[.int .u64 ((SM.val xs 8:Nat):Int),u,.int .i64 0])/\Own w.heap.size w' u (xs.drop 8)/\w.grownBy w' none:=by
 obtain⟨q,N,cap,rfl,hN⟩:=hv.opened
 obtain rfl:N=64:=by omega
 obtain⟨b,off,rfl,_⟩:=hv.spot (k:=0) (by omega)
 have hcap:64<=cap:=by
  obtain⟨p',cap',e,h3,_⟩:=hv.form
  injection e with e1 e2 e3
  omega
 have hcm:cap<=maxLen:=by
  obtain⟨p',cap',e,_,h4,_⟩:=hv.form
  injection e with e1 e2 e3
  omega
 have HV:Hid (Vec w (.slice (some ⟨b,off,none⟩) 64 cap) xs):=hv
 have HT:Hid (Vec w (.slice (some ⟨b,off+8,none⟩) 56 (cap - 8)) (xs.drop 8)):=hv.tail_a (by omega)
 have HS:Hid (∀ x ∈ xs,x < 256):=hv.small
 clear hv hN
 unfold maxLen at hcm
 go_enter Tryz.func147,Tryz.ntmps147
 go_wp2
 go_loop [5,6] (fun ts ti=>∃ k:Nat,k<=8/\ti=.int .i64 k/\ts=.int .u64 ((SM.val xs k:Nat):Int)) (fun _ ti=>8 - (intOf ti).toNat)
 case atStart=>exact⟨0,by omega,rfl,rfl⟩
 case round =>
  obtain⟨k,hk,rfl,rfl⟩:=hrel
  by_cases hlt:k < 8
  ·have i1:(k:Int) < 8:=by omega
   obtain⟨b',off',e,hc,h256⟩:=HV.out.spot (k:=k) (by omega)
   injection e with e
   injection e with e1 e2
   subst e1
   subst e2
   have h7:SM.val xs k < 72057594037927936:=by
    have h1:=SM.val_lt HS.out k
    have h2:256 ^ k<=256 ^ 7:=Nat.pow_le_pow_right (by decide) (by omega)
    have h3:256 ^ 7=72057594037927936:=by decide
    omega
   have HOR:Hid (256 * ((SM.val xs k:Nat):Int)+((xs.getD k 0:Nat):Int)=((SM.val xs (k+1):Nat):Int)):=by
    show _=(((256 * SM.val xs k+xs.getD k 0):Nat):Int)
    simp
   generalize xs.getD k 0=y at *
   go_wp2
   go_round
   case rel=>exact⟨k+1,by omega,by go_num,by rw[<- HOR.out]⟩
   case measure=>simp[intOf];omega
  ·have i1:¬ (k:Int) < 8:=by omega
   have HE:Hid (SM.val xs k=SM.val xs 8):=by
    have e:k=8:=by omega
    show _=_
    rw[e]
   go_wp2_with (at_builtin;refine wpList_append_vec rfl _ _ rfl _ _ rfl rfl (Own.nil w.heap.size w) HT.out (Nat.le_refl _) (by rw[List.length_drop,hl];decide) ?_;intro u w1 ho hg)
   go_ret3
   exact⟨_,by rw[HE.out];rfl,ho,hg⟩
def takeN (xs:List Nat):Nat:=if xs.length=64 then SM.val xs 8 else 0
def takeL (xs:List Nat):List Nat:=if xs.length=64 then xs.drop 8 else []
def takeE (xs:List Nat):Int:=if xs.length=64 then 0 else if xs.length < 64 then 4 else 3
theorem take_all {w:World} {v:Value} {xs:List Nat} (hv:Vec w v xs) :
 Calls Tryz.prog 144 #[v] w fun e w'=>∃ p k,e=.returned (.tuple #[.int .u64 ((takeN xs:Nat):Int),.slice p k k,.int .i64 (takeE xs)])/\Own w.heap.size w' (.slice p k k) (takeL xs)/\w.grownBy w' none:=by
 unfold takeN takeL takeE
 by_cases hl:xs.length=64
 ·rw[if_pos hl,if_pos hl,if_pos hl]
  exact (take_yes hv hl).mono fun e w' ⟨p,h⟩=>⟨p,56,h⟩
 ·rw[if_neg hl,if_neg hl,if_neg hl]
  by_cases h2:xs.length < 64
  ·rw[if_pos h2]
   exact (take_short hv h2).mono fun e w' ⟨h1,h2⟩=>⟨none,0,h1,Own.nil _ _,by rw[h2];exact World.grownBy.refl _ _⟩
  ·rw[if_neg h2]
   exact (take_long hv (by omega)).mono fun e w' ⟨h1,h2⟩=>⟨none,0,h1,Own.nil _ _,by rw[h2];exact World.grownBy.refl _ _⟩
theorem refTake_all {w:World} {v:Value} {xs:List Nat} (hv:Vec w v xs) :
 Calls Tryz.prog 147 #[v] w fun e w'=>∃ u,e=.returned (.tuple #[.int .u64 ((takeN xs:Nat):Int),u,.int .i64 (takeE xs)])/\Own w.heap.size w' u (takeL xs)/\w.grownBy w' none:=by
 unfold takeN takeL takeE
 by_cases hl:xs.length=64
 ·rw[if_pos hl,if_pos hl,if_pos hl]
  exact refTake_yes hv hl
 ·rw[if_neg hl,if_neg hl,if_neg hl]
  by_cases h2:xs.length < 64
  ·rw[if_pos h2]
   exact (refTake_short hv h2).mono fun e w' ⟨h1,h2⟩=>⟨_,h1,Own.nil _ _,by rw[h2];exact World.grownBy.refl _ _⟩
  ·rw[if_neg h2]
   exact (refTake_long hv (by omega)).mono fun e w' ⟨h1,h2⟩=>⟨_,h1,Own.nil _ _,by rw[h2];exact World.grownBy.refl _ _⟩
theorem mat_n {w:World} {p:Option Addr} {n c:Nat} {us:List Value} {X:List (List Nat)} (h:Mat w (.slice p n c) us X):us.length=n/\X.length=n:=by
 have hs:=h.same
 obtain⟨p',n',c',e',h'⟩:=h.row.opened
 injection e' with e1 e2 e3
 omega
theorem Mat.nil (w:World):Mat w (.slice none 0 0) [] []:=⟨⟨by simp,none,0,rfl,Nat.le_refl _,by decide,fun h=>absurd rfl h⟩,rfl,by simp⟩
structure RMat (T:TypeId) (B:Nat) (w:World) (v:Value) (us:List Value) (X:List (List Nat)):Prop where
 len:us.length * 24<=140737488351232
 row:w.ownsRow B 31 1 v us.length us
 same:us.length=X.length
 vec:∀ j,j < X.length->Arr T B w (us.getD j undef) (X.getD j [])
theorem RMat.nil (T:TypeId) (B:Nat) (w:World):RMat T B w (.slice none 0 0) [] []:=⟨by simp,World.ownsRow_nil w B 31 1,rfl,by simp⟩
theorem RMat.lo {T:TypeId} {B:Nat} {w:World} {v:Value} {us:List Value} {X:List (List Nat)} (h:RMat T B w v us X):Lo B v:=fun k hk=>(h.row.lt k hk).1
theorem RMat.keep {T:TypeId} {B:Nat} {w w':World} {v:Value} {us:List Value} {X:List (List Nat)} (h:RMat T B w v us X) (g:w.grownBy w' none):RMat T B w' v us X :=
 ⟨h.len,h.row.kept g (by cases h:v.ownBlock <;> simp),h.same,fun j hj=>(h.vec j hj).keep g⟩
theorem RMat.kept {T:TypeId} {B:Nat} {w w':World} {v:Value} {us:List Value} {X:List (List Nat)} {row:Option Nat} (h:RMat T B w v us X) (g:w.grownBy w' row) (hr:∀ r,row=some r->∀ c f,w.heap[r]? ≠ some (.cells c 31 f)/\w.heap[r]? ≠ some (.cells c T f)):RMat T B w' v us X:=by
 refine⟨h.len,h.row.kept g ?_,h.same,fun j hj=>(h.vec j hj).kept g ?_⟩
 ·rcases h.row.2 with ⟨e,_⟩ | ⟨b,cap,cur,e,_,hg,_⟩
  ·subst e;exact .inl rfl
  ·subst e
   exact .inr fun e=>(hr b (by simpa [Value.ownBlock] using e.symm) cur (0,0)).1 hg
 ·rcases (h.vec j hj).row.2 with ⟨e,_⟩ | ⟨b,cap,cur,e,_,hg,_⟩
  ·rw[e];exact .inl rfl
  ·rw[e]
   exact .inr fun e=>(hr b (by simpa [Value.ownBlock] using e.symm) cur (0,0)).2 hg
theorem RMat.apart {T T':TypeId} (hT:T' ≠ 31) {B B':Nat} {w:World} {v u:Value} {us:List Value} {X:List (List Nat)} {xs:List Nat} (h:RMat T B w v us X) (hu:Arr T' B' w u xs):u.ownBlock=none\/u.ownBlock ≠ v.ownBlock:=by
 rcases hu.row.2 with ⟨rfl,_⟩ | ⟨g,cap,cur,rfl,_,hg,_⟩
 ·exact .inl rfl
 ·rcases h.row.2 with ⟨rfl,_⟩ | ⟨g',cap',cur',rfl,_,hg',_⟩
  ·exact .inr (by simp[Value.ownBlock])
  ·refine .inr fun e=>?_
   simp only[Value.ownBlock,Option.some.injEq] at e
   subst e
   rw[hg] at hg'
   simp at hg'
   exact hT hg'.2
theorem RMat.more {T:TypeId} (hT:T ≠ 31) {B:Nat} {w w2:World} {v v' u:Value} {us:List Value} {X:List (List Nat)} {xs:List Nat} (h:RMat T B w v us X) (hu:Arr T B w u xs)
 (hl:(us.length+1) * 24<=140737488351232) (hr:w2.ownsRow B 31 1 v' (us.length+1) (us++[u])) (hg:w.grownBy w2 v.ownBlock):RMat T B w2 v' (us++[u]) (X++[xs]):=by
 refine⟨by simpa using hl,by simpa using hr,by simp[h.same],fun j hj=>?_⟩
 have hs:=h.same
 by_cases hj':j < X.length
 ·have e1:(us++[u]).getD j undef=us.getD j undef:=by simp[List.getD,List.getElem?_append,show j < us.length from by omega]
  have e2:(X++[xs]).getD j []=X.getD j []:=by simp[List.getD,List.getElem?_append,hj']
  rw[e1,e2]
  exact (h.vec j hj').kept hg (h.apart hT (h.vec j hj'))
 ·have hj2:j=X.length:=by simp at hj;omega
  have e1:(us++[u]).getD j undef=u:=by simp[List.getD,hj2,<- hs]
  have e2:(X++[xs]).getD j []=xs:=by simp[List.getD,hj2]
  rw[e1,e2]
  exact hu.kept hg (h.apart hT hu)
theorem RMat.mat {T:TypeId} {B:Nat} {w:World} {v:Value} {us:List Value} {X:List (List Nat)} (h:RMat T B w v us X):Mat w v us X:=by
 refine⟨⟨h.len,?_⟩,h.same,fun j hj=>(h.vec j hj).vec⟩
 have hr:=h.row
 rcases h.row.2 with ⟨rfl,hn⟩ | ⟨g,cap,cur,rfl,hb,hg,hc,hm,hs,ht⟩
 ·have:us=[]:=List.eq_nil_of_length_eq_zero hn
  subst this
  exact⟨none,0,rfl,Nat.le_refl _,by decide,fun h=>absurd rfl h⟩
 ·refine⟨some ⟨g,0,none⟩,cap,rfl,hc,hm,fun _=>⟨g,0,rfl,fun j hj=>?_⟩⟩
  have:=hr.cells (g:=g) rfl j (us.getD j undef) (by simp[List.getD,hj])
  rwa [add_at] at this
theorem run_append_row {B:Nat} {w:World} {dv:Value} {us:List Value} (hd:w.ownsRow B 31 1 dv us.length us) (ad:Addr) {u:Value} (hu:w.cell? ad=some u) (h1:u.oneCell'=true) (hB:B<=w.heap.size) (hl:(us.length+1) * 24<=140737488351232) (ty:TypeId) :
 ∃ v' w',(Builtin.append_ #[95,95] ty #[dv,.slice (some ad) 1 1]).run Tryz.prog w=.ok v' w'/\w'.ownsRow B 31 1 v' (us.length+1) (us++[u])/\w.grownBy w' dv.ownBlock/\(v'.ownBlock=dv.ownBlock\/v'.ownBlock=some w.heap.size):=by
 obtain⟨i0,hi,hz0,hz1,hz2⟩:=info_parts Tryz.info22
 obtain⟨v',w',r1,r2,r3,_,r5⟩:=run_append_own_at (P:=Tryz.prog) w B 95 ty 31 i0 (.slice none 0 0) 1 24 Tryz.underlying95 hi hz0 hz1 hz2 rfl (by decide) dv us.length us hd ad 1 1 [u] (by simp)
  (fun j v hj=>by
    match j,hj with
    | 0,hj=>simp at hj;subst hj;simpa [Addr.add] using hu)
  (fun v hv=>by simp at hv;subst hv;exact h1) (by unfold maxLen;omega) (by omega) hB
 exact⟨v',w',r1,by simpa using r2,r3,r5⟩
theorem wpList_append_row {w:World} {ops:Array Oper} {rest:List Oper} {o:Oper} {a:Act} {Q:Exit->Act->World->Prop} (hgd:o.guard=none) (d s:Operand)
 (ho:o.op=.call { callee:=.builtin .append,args:=#[d,s],argTypes:=#[95,95] }) (dv:Value) (ad:Addr) (hed:a.eval d=dv) (hes:a.eval s=.slice (some ad) 1 1)
 {B:Nat} {us:List Value} {u:Value} (hd:w.ownsRow B 31 1 dv us.length us) (hu:w.cell? ad=some u) (h1:u.oneCell'=true) (hB:B<=w.heap.size) (hl:(us.length+1) * 24<=140737488351232)
 (h:∀ v' w',w'.ownsRow B 31 1 v' (us.length+1) (us++[u])->w.grownBy w' dv.ownBlock->(v'.ownBlock=dv.ownBlock\/v'.ownBlock=some w.heap.size)->wpList Tryz.prog ops Q rest (a.put o.dst v') w'):wpList Tryz.prog ops Q (o :: rest) a w:=by
 refine wpList_plain hgd fun K hK=>?_
 obtain⟨v',w',hrun,r1,r2,r3⟩:=run_append_row hd ad hu h1 hB hl o.type
 unfold Oper.wp
 simp[execOp,ho,resolve,invoke,builtin,hed,hes,hrun,Result.andThen]
 exact hK _ _ (h _ _ r1 r2 r3)
theorem step_append_row {ops:Array Oper} {o:Oper} {a:Act} {w:World} {K:Act->World->Prop} {Q:Exit->Act->World->Prop} {E:Prop} (hgd:o.guard=none) (d s:Operand)
 (ho:o.op=.call { callee:=.builtin .append,args:=#[d,s],argTypes:=#[95,95] }) (dv:Value) (ad:Addr) (hed:a.eval d=dv) (hes:a.eval s=.slice (some ad) 1 1)
 {B:Nat} {us:List Value} {u:Value} (hd:w.ownsRow B 31 1 dv us.length us) (hu:w.cell? ad=some u) (h1:u.oneCell'=true) (hB:B<=w.heap.size) (hl:(us.length+1) * 24<=140737488351232)
 (h:∀ v' w',w'.ownsRow B 31 1 v' (us.length+1) (us++[u])->w.grownBy w' dv.ownBlock->(v'.ownBlock=dv.ownBlock\/v'.ownBlock=some w.heap.size)->K (a.put o.dst v') w') :
 if Region.wanted o (yielded ops a.tmps)=true then Oper.wp Tryz.prog o a w K Q else E:=by
 have hw:Region.wanted o (yielded ops a.tmps)=true:=by simp[Region.wanted,hgd]
 rw[if_pos hw]
 obtain⟨v',w',hrun,r1,r2,r3⟩:=run_append_row hd ad hu h1 hB hl o.type
 unfold Oper.wp
 simp[execOp,ho,resolve,invoke,builtin,hed,hes,hrun,Result.andThen]
 exact h _ _ r1 r2 r3
theorem run_make_room (W:World) {n:Nat} (hn:n<=140737488351232):∃ w',(Instr.makeSlice 31 (.int .i64 0) (.int .i64 (n:Int))).run Tryz.prog W=.ok (.slice (some ⟨W.heap.size,0,none⟩) 0 n) w'/\Own W.heap.size w' (.slice (some ⟨W.heap.size,0,none⟩) 0 n) []/\W.grownBy w' none:=by
 obtain⟨i0,hi,hz0,hz1,hz2⟩:=info_parts Tryz.info5
 obtain⟨w',h1,h2,h3⟩:=run_make_own (P:=Tryz.prog) W W.heap.size 31 5 i0 (.int .u8 0) 1 Tryz.underlying31 hi hz0 hz1 .i64 .i64 n (by rw[hz2];omega) (by unfold maxLen;omega) (Nat.le_refl _)
 exact⟨w',h1,⟨by simp,by simp,by simpa using h2⟩,h3⟩
theorem wpList_make_room {w:World} {ops:Array Oper} {rest:List Oper} {o:Oper} {a:Act} {Q:Exit->Act->World->Prop} (hgd:o.guard=none) (l c:Operand)
 (ho:o.op=Op.makeSlice 31 l c) (n:Nat) (hel:a.eval l=.int .i64 0) (hec:a.eval c=.int .i64 (n:Int)) (hn:n<=140737488351232)
 (h:∀ w1,Own w.heap.size w1 (.slice (some ⟨w.heap.size,0,none⟩) 0 n) []->w.grownBy w1 none->wpList Tryz.prog ops Q rest (a.put o.dst (.slice (some ⟨w.heap.size,0,none⟩) 0 n)) w1):wpList Tryz.prog ops Q (o :: rest) a w:=by
 refine wpList_plain hgd fun K hK=>?_
 obtain⟨w',hrun,r1,r2⟩:=run_make_room w hn
 unfold Oper.wp
 simp[execOp,ho,hel,hec,hrun,Result.andThen]
 exact hK _ _ (h _ r1 r2)
theorem run_make_rows0 (W:World) {n:Nat} (hn:n * 24<=140737488351232):∃ w',(Instr.makeSlice 95 (.int .i64 0) (.int .i64 (n:Int))).run Tryz.prog W=.ok (.slice (some ⟨W.heap.size,0,none⟩) 0 n) w'/\w'.ownsRow W.heap.size 31 1 (.slice (some ⟨W.heap.size,0,none⟩) 0 n) 0 []/\W.grownBy w' none:=by
 obtain⟨i0,hi,hz0,hz1,hz2⟩:=info_parts Tryz.info22
 exact run_make_own (P:=Tryz.prog) W W.heap.size 95 31 i0 (.slice none 0 0) 1 Tryz.underlying95 hi hz0 hz1 .i64 .i64 n (by rw[hz2];omega) (by unfold maxLen;omega) (Nat.le_refl _)
theorem eqb_no {a b:Nat} (h:a ≠ b):((a:Int)==(b:Int))=false:=by simp;omega
theorem eqb_yes {a b:Nat} (h:a=b):((a:Int)==(b:Int))=true:=by simp;omega
theorem neb_yes {a b:Nat} (h:a ≠ b):((a:Int) != (b:Int))=true:=by simp;omega
theorem neb_no {a b:Nat} (h:a=b):((a:Int) != (b:Int))=false:=by simp;omega
theorem yes_no_at {X:List (List Nat)} {k:Nat} (hk:k < X.length) (h:¬ CM.okTo X (k+1)):CM.yes X=false:=by
 cases e:CM.yes X with
 | false=>rfl
 | true=>exact absurd (fun j hj=>(CM.yes_iff.1 e).2.2 j (by omega)) h
theorem tN_no {X:List (List Nat)} (h:CM.yes X=false):CM.tN X=0:=by simp[CM.tN,h]
theorem tL_no {X:List (List Nat)} (h:CM.yes X=false):CM.tL X=[]:=by simp[CM.tL,h]
def stAt (X:List (List Nat)) (k:Nat):Nat:=if k=0 then 0 else SM.val (X.getD 0 []) 8
theorem okTo_more {X:List (List Nat)} {k:Nat} (h:CM.okTo X k) (h1:(X.getD k []).length=64) (h2:SM.val (X.getD k []) 8 ≠ 0) (h3:k=0\/SM.val (X.getD k []) 8=SM.val (X.getD 0 []) 8):CM.okTo X (k+1):=fun j hj=>by
 by_cases e:j=k
 ·subst e
  refine⟨h1,?_,h2⟩
  rcases h3 with h3 | h3
  ·subst h3;rfl
  ·exact h3
 ·exact h j (by omega)
theorem stAt_next {X:List (List Nat)} {k:Nat} (h3:k=0\/SM.val (X.getD k []) 8=SM.val (X.getD 0 []) 8):stAt X (k+1)=SM.val (X.getD k []) 8:=by
 unfold stAt
 rw[if_neg (by omega)]
 rcases h3 with h3 | h3
 ·subst h3;rfl
 ·exact h3.symm
set_option maxHeartbeats 1600000 in
theorem refTake7 {w:World} {r:Value} {us:List Value} {X:List (List Nat)} (mr:Mat w r us X) :
 Calls Tryz.prog 136 #[r] w fun e w'=>∃ u,e=.returned (.tuple #[.int .u64 ((CM.tN X:Nat):Int),u,.bool (CM.yes X)])/\Own w.heap.size w' u (CM.tL X)/\w.grownBy w' none:=by
 obtain⟨q,N,cap,rfl,hN⟩:=mr.row.opened
 have hs:=mr.same
 have hNl:N<=140737488351232:=by have:=mr.row.len;omega
 by_cases h0:N < 1
 ·have i1:(N:Int) < 1:=by omega
  have hy:CM.yes X=false:=by unfold CM.yes;rw[show decide (1<=X.length)=false from decide_eq_false (by omega)];rfl
  rw[hy,tN_no hy,tL_no hy]
  clear h0 hN hs mr hy
  go_enter Tryz.func136,Tryz.ntmps136
  go_wp2
  go_ret3
  exact⟨_,rfl,Own.nil _ _,World.grownBy.refl _ _⟩
 ·by_cases h1:64 < N
  ·have i1:¬ (N:Int) < 1:=by omega
   have i2:(64:Int) < (N:Int):=by omega
   have hy:CM.yes X=false:=by unfold CM.yes;rw[show decide (X.length<=64)=false from decide_eq_false (by omega)];simp
   rw[hy,tN_no hy,tL_no hy]
   clear h0 h1 hN hs mr hy
   go_enter Tryz.func136,Tryz.ntmps136
   go_wp2
   go_ret3
   exact⟨_,rfl,Own.nil _ _,World.grownBy.refl _ _⟩
  ·have i1:¬ (N:Int) < 1:=by omega
   have i2:¬ (64:Int) < (N:Int):=by omega
   have MR:Hid (Mat w (.slice q N cap) us X):=mr
   have HN:Hid (N=us.length/\N=X.length/\1<=N/\N<=64):=⟨hN,by omega,by omega,by omega⟩
   have hn64:N<=64:=by omega
   clear hN hs mr h0 h1
   go_enter Tryz.func136,Tryz.ntmps136
   go_wp2_with fail
   go_loopw [5,6,7] (fun ts td ti wr=>∃ k:Nat,k<=N/\ts=.int .u64 ((stAt X k:Nat):Int)/\ti=.int .i64 k/\Hid (CM.okTo X k)/\Hid (Own w.heap.size wr td (CM.loads X k))/\Hid (w.grownBy wr none)) (fun _ _ ti _=>N - (intOf ti).toNat)
   case atStart=>exact⟨0,by omega,rfl,rfl,fun j hj=>by omega,by rw[CM.loads_zero];exact Own.nil _ _,World.grownBy.refl _ _⟩
   case round =>
    obtain⟨k,hk,rfl,rfl,OK,OD,GK⟩:=hrel
    by_cases hlt:k < N
    ·have i3:(k:Int) < (N:Int):=by omega
     have i4:(0:Int)<=(k:Int):=by omega
     obtain⟨b,off,rfl,hr⟩:=(MR.out.keep GK.out).row.spot (k:=k) (by have:=HN.out;omega)
     obtain⟨pk,nk,ck,ek,hnk⟩:=((MR.out.keep GK.out).vec k (by have:=HN.out;omega)).opened
     rw[ek] at hr
     have VX:Hid (Vec wr (.slice pk nk ck) (X.getD k [])):=by rw[<- ek];exact (MR.out.keep GK.out).vec k (by have:=HN.out;omega)
     clear ek hnk
     by_cases h64:(X.getD k []).length=64
     ·have RT:=refTake_yes VX.out h64
      by_cases hz:SM.val (X.getD k []) 8=0
      ·have hy:CM.yes X=false:=yes_no_at (k:=k) (by have:=HN.out;omega) (fun h=>(h k (by omega)).2.2 hz)
       rw[hz] at RT
       have HY:Hid (CM.yes X=false):=hy
       have RT':Hid (Calls Tryz.prog 147 #[.slice pk nk ck] wr fun e w'=>∃ u,e=.returned (.tuple #[.int .u64 0,u,.int .i64 0])/\wr.grownBy w' none):=RT.mono fun e w' ⟨u,h1,_,h2⟩=>⟨u,h1,h2⟩
       clear RT hz hy h64
       go_wp2_with (go_at_call 147;refine RT'.out.mono ?_;rintro e w1 ⟨u,rfl,g1⟩)
       go_ret3
       rw[HY.out,tN_no HY.out,tL_no HY.out]
       exact⟨_,rfl,Own.nil _ _,grown_trans GK.out g1⟩
      ·have hzb:(((SM.val (X.getD k []) 8:Nat):Int)==0)=false:=eqb_no (b:=0) hz
       by_cases h3:k=0\/SM.val (X.getD k []) 8=SM.val (X.getD 0 []) 8
       ·have OK':Hid (CM.okTo X (k+1)):=okTo_more OK.out h64 hz h3
        have SN:Hid (stAt X (k+1)=SM.val (X.getD k []) 8):=stAt_next h3
        have HL:Hid (CM.loads X (k+1)=CM.loads X k++(X.getD k []).drop 8):=CM.loads_succ X (k:=k) (by have:=HN.out;omega)
        have HLL:Hid ((CM.loads X k).length+((X.getD k []).drop 8).length<=140737488351232):=by
         show _<=_
         rw[CM.loads_len (k:=k) (by have:=HN.out;omega) (fun j hj=>(OK.out j hj).1),List.length_drop,h64];omega
        have RT':Hid (Calls Tryz.prog 147 #[.slice pk nk ck] wr fun e w'=>∃ u,e=.returned (.tuple #[.int .u64 ((SM.val (X.getD k []) 8:Nat):Int),u,.int .i64 0])/\Own wr.heap.size w' u ((X.getD k []).drop 8)/\wr.grownBy w' none):=RT
        have hd:0 < k->(((SM.val (X.getD k []) 8:Nat):Int) != ((stAt X k:Nat):Int))=false:=fun hk=>by
         unfold stAt
         rw[if_neg (by omega)]
         rcases h3 with h3 | h3
         ·omega
         ·rw[h3];simp
        clear RT hz h64 h3 OK VX
        generalize SM.val (X.getD k []) 8=V at *
        generalize stAt X k=S at *
        generalize (X.getD k []).drop 8=L at *
        generalize CM.loads X k=P at *
        by_cases hk0:0 < k
        ·have hd':=hd hk0
         have i5:(0:Int) < (k:Int):=by omega
         clear hd
         go_wp2_with (first
          | (go_at_call 147;refine RT'.out.mono ?_;rintro e w1 ⟨u,rfl,ou,g1⟩;have OU:Hid (Own wr.heap.size w1 u L):=ou;have OD1:Hid (Own w.heap.size w1 u6 P):=OD.out.keep g1;have G1:Hid (w.grownBy w1 none):=grown_trans GK.out g1;clear ou g1)
          | (at_builtin;refine wpList_append_vec rfl _ _ rfl _ _ rfl rfl OD1.out OU.out.vec G1.out.size HLL.out ?_;intro v2 w2 o2 g2;have O2:Hid (Own w.heap.size w2 v2 (P++L)):=o2;have G2:Hid (w.grownBy w2 none):=grown_new G1.out g2 (fun i e=>OD1.out.lo i e);clear o2 g2))
         go_roundw
         case rel=>exact⟨k+1,by omega,by rw[SN.out],by go_num,OK',by rw[HL.out];exact O2,G2⟩
         case measure=>simp[intOf];omega
        ·have i5:¬ (0:Int) < (k:Int):=by omega
         clear hd
         go_wp2_with (first
          | (go_at_call 147;refine RT'.out.mono ?_;rintro e w1 ⟨u,rfl,ou,g1⟩;have OU:Hid (Own wr.heap.size w1 u L):=ou;have OD1:Hid (Own w.heap.size w1 u6 P):=OD.out.keep g1;have G1:Hid (w.grownBy w1 none):=grown_trans GK.out g1;clear ou g1)
          | (at_builtin;refine wpList_append_vec rfl _ _ rfl _ _ rfl rfl OD1.out OU.out.vec G1.out.size HLL.out ?_;intro v2 w2 o2 g2;have O2:Hid (Own w.heap.size w2 v2 (P++L)):=o2;have G2:Hid (w.grownBy w2 none):=grown_new G1.out g2 (fun i e=>OD1.out.lo i e);clear o2 g2))
         go_roundw
         case rel=>exact⟨k+1,by omega,by rw[SN.out],by go_num,OK',by rw[HL.out];exact O2,G2⟩
         case measure=>simp[intOf];omega
       ·have hk0:0 < k:=by omega
        have hy:CM.yes X=false:=yes_no_at (k:=k) (by have:=HN.out;omega) (fun h=>h3 (.inr (h k (by omega)).2.1))
        have i5:(0:Int) < (k:Int):=by omega
        have hd:(((SM.val (X.getD k []) 8:Nat):Int) != ((stAt X k:Nat):Int))=true:=by
         unfold stAt
         rw[if_neg (by omega)]
         exact neb_yes fun e=>h3 (.inr e)
        have HY:Hid (CM.yes X=false):=hy
        have RT':Hid (Calls Tryz.prog 147 #[.slice pk nk ck] wr fun e w'=>∃ u,e=.returned (.tuple #[.int .u64 ((SM.val (X.getD k []) 8:Nat):Int),u,.int .i64 0])/\wr.grownBy w' none):=RT.mono fun e w' ⟨u,h1,_,h2⟩=>⟨u,h1,h2⟩
        clear RT hz hy h64 h3 OK VX
        generalize SM.val (X.getD k []) 8=V at *
        generalize stAt X k=S at *
        go_wp2_with (go_at_call 147;refine RT'.out.mono ?_;rintro e w1 ⟨u,rfl,g1⟩)
        go_ret3
        rw[HY.out,tN_no HY.out,tL_no HY.out]
        exact⟨_,rfl,Own.nil _ _,grown_trans GK.out g1⟩
     ·have hy:CM.yes X=false:=yes_no_at (k:=k) (by have:=HN.out;omega) (fun h=>h64 (h k (by omega)).1)
      have HY:Hid (CM.yes X=false):=hy
      have hE:(takeE (X.getD k []) != 0)=true:=by
       unfold takeE
       rw[if_neg h64]
       split <;> decide
      have RT':Hid (Calls Tryz.prog 147 #[.slice pk nk ck] wr fun e w'=>∃ u,e=.returned (.tuple #[.int .u64 ((takeN (X.getD k []):Nat):Int),u,.int .i64 (takeE (X.getD k []))])/\wr.grownBy w' none):=(refTake_all VX.out).mono fun e w' ⟨u,h1,_,h2⟩=>⟨u,h1,h2⟩
      clear hy h64 VX
      generalize takeE (X.getD k [])=E at *
      generalize takeN (X.getD k [])=V at *
      go_wp2_with (go_at_call 147;refine RT'.out.mono ?_;rintro e w1 ⟨u,rfl,g1⟩)
      go_ret3
      rw[HY.out,tN_no HY.out,tL_no HY.out]
      exact⟨_,rfl,Own.nil _ _,grown_trans GK.out g1⟩
    ·have hkN:k=X.length:=by have:=HN.out;omega
     subst hkN
     have hy:CM.yes X=true:=CM.yes_iff.2 ⟨by have:=HN.out;omega,by have:=HN.out;omega,OK.out⟩
     have HT:Hid (CM.yes X=true/\CM.tN X=stAt X X.length/\CM.tL X=CM.loads X X.length):=⟨hy,by unfold CM.tN stAt;rw[if_pos hy,if_neg (by have:=HN.out;omega)],by unfold CM.tL;rw[if_pos hy]⟩
     clear hy OK
     generalize stAt X X.length=S at *
     go_wp2
     go_ret3
     rw[HT.out.1,HT.out.2.1,HT.out.2.2]
     exact⟨_,rfl,OD.out,GK.out⟩
end Go.Proofs.YtaalagkbpeinkaaGreat
