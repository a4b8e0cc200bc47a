/- Packed: Comb4, Raise. -/
import Derived.Test.YtlklmhojadlncaaGreatTk14
set_option maxRecDepth 100000
namespace Go.Proofs.YtlklmhojadlncaaGreat
open Go.RowKit
def combTo (al:List Nat) (X:List (List Nat)) (L k:Nat):List Nat:=(List.range L).map fun t=>MX.xs (fun j=>M.mul (al.getD j 0) (at2 X j t)) k
theorem combTo_len (al:List Nat) (X:List (List Nat)) (L k:Nat):(combTo al X L k).length=L:=by simp[combTo]
theorem combTo_zero (al:List Nat) (X:List (List Nat)) (L:Nat):combTo al X L 0=List.replicate L 0:=by
 apply List.ext_getElem
 ·simp[combTo]
 ·intro i h1 h2
  simp[combTo,MX.xs]
theorem combTo_get {al:List Nat} {X:List (List Nat)} {L k t:Nat} (h:t < L):(combTo al X L k).getD t 0=MX.xs (fun j=>M.mul (al.getD j 0) (at2 X j t)) k:=gd_map _ h
theorem combTo_step (al:List Nat) (X:List (List Nat)) (L k:Nat):mix (fun t=>(combTo al X L k).getD t 0 ^^^ M.mul (al.getD k 0) (at2 X k t)) (combTo al X L k) L=combTo al X L (k+1):=by
 have h:=mix_all (fun t=>(combTo al X L k).getD t 0 ^^^ M.mul (al.getD k 0) (at2 X k t)) (combTo al X L k)
 rw[combTo_len] at h
 rw[h]
 refine List.map_congr_left fun t ht=>?_
 rw[combTo_get (List.mem_range.1 ht)]
 rfl
theorem heap_grown {w w':World} (g:w.grownBy w' none) {i:Nat} {o:Obj} (h:w.heap[i]?=some o):w'.heap[i]?=some o:=by
 have hl:i < w.heap.size:=(Array.getElem?_eq_some_iff.1 h).1
 rw[g.block i hl (by simp)]
 exact h
set_option maxHeartbeats 3200000 in
set_option maxRecDepth 100000 in
theorem combine_any {w:World} {ns cs:Value} {vs:List Value} {al:List Nat} {X:List (List Nat)} {L:Nat} (hn:Vec w ns al) (mr:Mat w cs vs X) (hX:Shape X X.length L) (hl:al.length=X.length) (h1:1<=X.length) :
 Calls Tryz.prog 83 #[ns,cs] w fun e w'=>∃ p n c,e=.returned (.slice p n c)/\Own w.heap.size w' (.slice p n c) (combTo al X L al.length)/\w.grownBy w' none:=by
 obtain⟨qa,A,ca,rfl,hA⟩:=hn.opened
 obtain⟨q,N,cap,rfl,hN⟩:=mr.row.opened
 have hs:=mr.same
 have hAl:A<=140737488351232:=by rw[hA];exact hn.len
 obtain⟨b,off,rfl,hc⟩:=mr.row.spot (k:=0) (by omega)
 obtain⟨p0,n0,c0,e0,hn0⟩:=(mr.vec 0 (by omega)).opened
 have hLl:L<=140737488351232:=by have:=(mr.vec 0 (by omega)).len;rw[hX.row 0 (by omega)] at this;exact this
 obtain rfl:n0=L:=by rw[hn0];exact hX.row 0 (by omega)
 rw[e0,Nat.add_zero] at hc
 have HN:Hid (A=al.length/\A=N/\N=X.length):=⟨hA,by omega,by omega⟩
 have hN0:(0:Int) < (N:Int):=by omega
 have KA:Hid (∀ w',w.grownBy w' none->Vec w' (.slice qa A ca) al):=fun w' g=>hn.keep g
 have KM:Hid (∀ w',w.grownBy w' none->Mat w' (.slice (some ⟨b,off,none⟩) N cap) vs X):=fun w' g=>mr.keep g
 have HX:Hid (Shape X X.length n0):=hX
 clear e0 hn0 hN hs mr hn hA hl h1 hX
 go_enter Tryz.func83,Tryz.ntmps83
 go_wp2_with (at_make;refine wpList_make_vec rfl _ _ rfl n0 rfl rfl hLl ?_;intro w1 p ou g1;have OU:Hid (Own w.heap.size w1 (.slice p n0 n0) (combTo al X n0 0)):=(by rw[combTo_zero];exact ou);have G1:Hid (w.grownBy w1 none):=g1;clear ou g1)
 clear hc hN0
 go_loopw [18] (fun ti wr=>∃ k:Nat,k<=A/\ti=.int .i64 k/\Hid (Own w.heap.size wr (.slice p n0 n0) (combTo al X n0 k))/\Hid (w.grownBy wr none)) (fun ti _=>A - (intOf ti).toNat)
 case atStart=>exact⟨0,by omega,rfl,OU,G1⟩
 case round =>
  clear OU G1
  obtain⟨k,hk,rfl,OK,GK⟩:=hrel
  obtain⟨wa,hwa⟩:∃ wa,wa=wr:=⟨wr,rfl⟩
  subst hwa
  by_cases hlt:k < A
  ·have i1:(k:Int) < (A:Int):=by omega
   have i2:(k:Int) < (N:Int):=by have:=HN.out;omega
   have i3:(0:Int)<=(k:Int):=by omega
   obtain⟨ba,oa,rfl,hca,hsm⟩:=(KA.out _ GK.out).spot (k:=k) (by have:=HN.out;omega)
   obtain⟨pk,nk,ck,ek,hnk⟩:=((KM.out _ GK.out).vec k (by have:=HN.out;omega)).opened
   obtain rfl:nk=n0:=by rw[hnk];exact HX.out.row k (by have:=HN.out;omega)
   have KC:Hid (∀ w',w.grownBy w' none->w'.cell? ⟨b,off+k,none⟩=some (.slice pk nk ck)):=fun w' g=>by
    obtain⟨b1,o1,e1,hr⟩:=(KM.out _ g).row.spot (k:=k) (by have:=HN.out;have:=(KM.out _ g).same;omega)
    obtain⟨rfl,rfl⟩:b=b1/\off=o1:=by
     injection e1 with e1
     injection e1 with e2 e3
     exact⟨e2,e3⟩
    rw[ek] at hr
    exact hr
   have KV:Hid (∀ w',w.grownBy w' none->Vec w' (.slice pk nk ck) (X.getD k [])):=fun w' g=>by
    have h:=(KM.out _ g).vec k (by have:=HN.out;omega)
    rw[ek] at h
    exact h
   have HST:Hid (mix (fun t=>(combTo al X nk k).getD t 0 ^^^ M.mul (al.getD k 0) (at2 X k t)) (combTo al X nk k) nk=combTo al X nk (k+1)):=combTo_step al X nk k
   have HLen:Hid ((X.getD k []).length=nk):=hnk.symm
   have HAT:Hid (∀ t,at2 X k t=(X.getD k []).getD t 0):=fun t=>rfl
   clear hnk ek
   generalize al.getD k 0=a at *
   have z44:=zero44
   have PP:Hid (∀ w,Calls Tryz.prog 93 #[.int .u8 (a:Int)] w fun e w'=>e=.returned (.agg (prodTo a 256))/\w.grownBy w' none):=fun w=>products_any a w hsm
   have SZ:(prodTo a 256).size=256:=prodTo_size a 256
   have ST:∀ W:World,(storeCells ⟨W.heap.size,0,none⟩ (prodTo a 256).toList).run Tryz.prog (W.alloc (.cells (logTo 0) 151))=.ok () (W.alloc (.cells (prodTo a 256) 151)):=fun W=>by
    have:=run_storeCells_from (P:=Tryz.prog) W.heap.size 151 (prodTo a 256).toList 0 (logTo 0) (W.alloc (.cells (logTo 0) 151)) (heap_alloc_new W _) (by simp[prodTo_size,logTo_size]) (mem_one (prodTo_one a 256))
    simpa [World.setRow_alloc_new] using this
   go_wp2_with (go_at_call 93;refine (PP.out _).mono ?_;rintro e w2 ⟨rfl,g2⟩;have hcc:=KC.out _ (gb_alloc (grown_trans GK.out g2) (.cells (prodTo a 256) 151));have G2:Hid (wa.grownBy w2 none):=g2;clear g2)
   clear z44 SZ ST PP hcc hca
   have F2:Hid (w.grownBy (w2.alloc (.cells (prodTo a 256) 151)) none/\Own w.heap.size (w2.alloc (.cells (prodTo a 256) 151)) (.slice p nk nk) (combTo al X nk k) /\
    (w2.alloc (.cells (prodTo a 256) 151)).heap[w2.heap.size]?=some (.cells (prodTo a 256) 151 (0,0))/\Hi w2.heap.size (.slice p nk nk)/\w.heap.size<=w2.heap.size) :=
    ⟨gb_alloc (grown_trans GK.out G2.out) _,OK.out.keep (gb_alloc G2.out _),heap_alloc_new _ _,fun r e=>by have:=OK.out.hi r e;have:=G2.out.size;omega,Nat.le_trans GK.out.size G2.out.size⟩
   clear G2 GK OK
   generalize w2.alloc (.cells (prodTo a 256) 151)=wb at *
   generalize w2.heap.size=g8 at *
   generalize hC:combTo al X nk k=C at *
   have HC:Hid (C.length=nk):=by show _=_;rw[<- hC,combTo_len]
   clear hC w2
   generalize hXK:X.getD k []=XK at *
   have HAT':Hid (∀ t,at2 X k t=XK.getD t 0):=fun t=>by rw[HAT.out t]
   clear hXK HAT
   go_loopw [30] (fun ti wr=>∃ t:Nat,t<=nk/\ti=.int .i64 t/\Hid (Own w.heap.size wr (.slice p nk nk) (mix (fun t=>C.getD t 0 ^^^ M.mul a (at2 X k t)) C t))/\Hid (w.grownBy wr none)/\Hid (wr.heap[g8]?=some (.cells (prodTo a 256) 151 (0,0)))) (fun ti _=>nk - (intOf ti).toNat)
   case atStart=>exact⟨0,by omega,rfl,by rw[mix_zero];exact F2.out.2.1,F2.out.1,F2.out.2.2.1⟩
   case round =>
    obtain⟨t,ht,rfl,OT,GT,PT⟩:=hrel
    by_cases htl:t < nk
    ·have j1:(t:Int) < (nk:Int):=by omega
     have j3:(0:Int)<=(t:Int):=by omega
     obtain⟨bk,ok,rfl,hcx,hsx⟩:=(KV.out _ GT.out).spot (k:=t) (by have:=HLen.out;omega)
     obtain⟨g,rfl,hz,hcs,hf,h1,hset,hgr⟩:=OT.out.spot (k:=t) (by rw[mix_len];have:=HC.out;omega)
     rw[mix_get _ _ _ (by have:=HC.out;omega)] at hcs h1
     have hgne:g ≠ g8:=by have:=F2.out.2.2.2.1 g rfl;omega
     have hm:M.mul a (XK.getD t 0) < 256:=M.mul_lt _ hsm
     have hcp:wr.cell? ⟨g8,XK.getD t 0,none⟩=some (.int .u8 ((M.mul a (XK.getD t 0):Nat):Int)):=by rw[cell_of_row _ _ _ _ _ _ PT.out,prodTo_get _ _ _ hsx,if_pos hsx]
     have hx:=M.xor_lt h1 hm
     have HS:Hid _:=hset _ hx
     have HM:Hid ((mix (fun t=>C.getD t 0 ^^^ M.mul a (at2 X k t)) C t).set t (C.getD t 0 ^^^ M.mul a (XK.getD t 0))=mix (fun t=>C.getD t 0 ^^^ M.mul a (at2 X k t)) C (t+1)):=by
      show _=_
      rw[<- HAT'.out t]
      exact mix_set _ _ _
     have HG:Hid (w.grownBy (wr.setCell ⟨g,t,none⟩ (.int .u8 ((C.getD t 0 ^^^ M.mul a (XK.getD t 0):Nat):Int))) none):=grown_new GT.out (hgr _) (fun r e=>OT.out.lo r e)
     have HP:Hid ((wr.setCell ⟨g,t,none⟩ (.int .u8 ((C.getD t 0 ^^^ M.mul a (XK.getD t 0):Nat):Int))).heap[g8]?=some (.cells (prodTo a 256) 151 (0,0))):=by
      show _=_
      rw[heap_setCell_other _ _ _ _ (fun e=>hgne e.symm)]
      exact PT.out
     clear hset hgr hz hgne OT PT
     generalize mix (fun t=>C.getD t 0 ^^^ M.mul a (at2 X k t)) C t=LT at *
     generalize C.getD t 0=x at *
     generalize XK.getD t 0=z at *
     have AA:Hid (∀ w,Calls Tryz.prog 94 #[.int .u8 (x:Int),.int .u8 ((M.mul a z:Nat):Int)] w fun e w'=>e=.returned (.int .u8 ((x ^^^ M.mul a z:Nat):Int))/\w'=w):=fun w=>add_any _ _ w (by omega) (by omega) (by omega) (by omega)
     generalize M.mul a z=y at *
     generalize x ^^^ y=r at *
     have j4:(z:Int) < 256:=by omega
     have j5:(0:Int)<=(z:Int):=by omega
     go_wp2_with fail
     go_region_with (go_at_call 94;refine (AA.out _).mono ?_;rintro e w1 ⟨rfl,hw⟩;obtain rfl:=hw.symm;clear hw)
     all_goals
      go_wp2
      go_roundw
      case rel=>exact⟨t+1,by omega,by go_num,by rw[<- HM.out];exact HS.out.keep (grown_drewN _ 1),grown_trans HG.out (grown_drewN _ 1),HP.out⟩
      case measure=>simp[intOf];omega
    ·obtain rfl:t=nk:=by omega
     have OT':Hid (Own w.heap.size wr (.slice p t t) (combTo al X t (k+1))):=by rw[<- HST.out];exact OT
     clear OT
     go_wp2
     go_roundw
     case rel=>exact⟨k+1,by omega,by go_num,OT',GT⟩
     case measure=>simp[intOf];omega
  ·obtain rfl:k=A:=by omega
   go_wp2
   go_ret
   have h:=OK.out
   rw[HN.out.1] at h
   exact⟨p,n0,n0,rfl,h,GK.out⟩
theorem swap_get {α:Type} (us:List α) (d:α) {k i:Nat} (hk:k < us.length) (_:i < us.length):((us.set k (us.getD i d)).set i (us.getD k d)).getD k d=us.getD i d:=by
 by_cases e:i=k
 ·subst e
  rw[getD_set_self _ _ _ _ (by simpa using hk)]
 ·rw[getD_set_ne _ _ _ e,getD_set_self _ _ _ _ hk]
theorem OwnMat.swapped {B:Nat} {w:World} {g n cap:Nat} {us:List Value} {X:List (List Nat)} (h:OwnMat B w (.slice (some ⟨g,0,none⟩) n cap) us X) {k i:Nat} (hk:k < X.length) (hi:i < X.length) :
 OwnMat B ((w.setCell ⟨g,k,none⟩ (us.getD i undef)).setCell ⟨g,i,none⟩ (us.getD k undef)) (.slice (some ⟨g,0,none⟩) n cap) ((us.set k (us.getD i undef)).set i (us.getD k undef)) ((X.set k (X.getD i [])).set i (X.getD k [])) /\
  w.grownBy ((w.setCell ⟨g,k,none⟩ (us.getD i undef)).setCell ⟨g,i,none⟩ (us.getD k undef)) (some g):=by
 obtain⟨g1,e1,_,_,_,hput,_,hgr⟩:=h.place hk
 obtain rfl:g=g1:=(by injection e1 with e1;injection e1 with e1)
 have h1:=hput _ _ (h.vec i hi)
 have ok:Own B (w.setCell ⟨g,k,none⟩ (us.getD i undef)) (us.getD k undef) (X.getD k []):=(h.vec k hk).kept (hgr _) (apart_kinds h.row (h.vec k hk))
 obtain⟨g2,e2,_,_,_,hput2,_,hgr2⟩:=h1.place (k:=i) (by simpa using hi)
 obtain rfl:g=g2:=(by injection e2 with e2;injection e2 with e2)
 exact⟨hput2 _ _ ok,grown_trans (hgr _) (hgr2 _)⟩
set_option maxHeartbeats 3200000 in
theorem raise_yes {w0 w:World} {v:Value} {us:List Value} {X:List (List Nat)} {n k i:Nat} (om:OwnMat w0.heap.size w v us X) (sp:Sep us) (hs:Shape X n (2 * n)) (hn:n<=255) (p:Pivot n X k i) (G:w0.grownBy w none) :
 Calls Tryz.prog 109 #[v,.int .i64 (k:Int)] w fun e w'=>∃ us',e=.returned (.tuple #[])/\OwnMat w0.heap.size w' v us' (raised X k i)/\Sep us'/\w0.grownBy w' none:=by
 obtain⟨q,N,cap,rfl,hN⟩:=om.mat.row.opened
 have hsm:=om.same
 have hlen:=hs.len
 have hNn:N=n:=by omega
 subst hNn
 obtain⟨g,rfl,hb,q1,q2,q3,q4,q5⟩:=om.place (k:=k) (by have:=p.ki;have:=p.i_n;omega)
 clear q1 q2 q3 q4 q5
 have hki:=p.ki
 have hin:=p.i_n
 have PV:Hid (Pivot N X k i):=p
 have SH:Hid (Shape X N (2 * N)/\us.length=X.length/\w0.heap.size<=g):=⟨hs,hsm,hb⟩
 have SP:Hid (Sep us):=sp
 clear hN hsm hlen hs sp p hb
 go_enter Tryz.func109,Tryz.ntmps109
 go_wp2_with fail
 go_loopw [4] (fun ti wr=>∃ (t:Nat),k<=t/\t<=i/\ti=.int .i64 t/\Hid (OwnMat w0.heap.size wr (.slice (some ⟨g,0,none⟩) N cap) us X)/\Hid (w0.grownBy wr none)) (fun ti _=>N - (intOf ti).toNat)
 case atStart=>exact⟨k,by omega,hki,rfl,om,G⟩
 case round =>
  clear om G
  obtain⟨t,hkt,hti,rfl,OK,GK⟩:=hrel
  have i1:(t:Int) < (N:Int):=by omega
  have i2:(0:Int)<=(t:Int):=by omega
  have i3:(k:Int) < (N:Int):=by omega
  have i4:(0:Int)<=(k:Int):=by omega
  have htX:t < X.length:=by rw[SH.out.1.len];omega
  obtain⟨g1,e1,z1,hc,hf,z2,z3,z4⟩:=OK.out.place (k:=t) htX
  clear z1 z2 z3 z4
  obtain rfl:g=g1:=(by injection e1 with e1;injection e1 with e1)
  have ov:=OK.out.vec t htX
  obtain⟨pt,nt,ct,et,hnt⟩:=ov.vec.opened
  rw[et] at hc ov
  rw[SH.out.1.row t (by omega)] at hnt
  obtain⟨gt,rfl,z1,hcx,z2,hx256,z3,z4⟩:=ov.spot (k:=k) (by rw[SH.out.1.row t (by omega)];omega)
  clear z1 z2 z3 z4
  have i5:(k:Int) < (nt:Int):=by omega
  have HX:Hid ((X.getD t []).getD k 0=at2 X t k):=rfl
  clear e1 ov et hnt htX
  by_cases hlt:t < i
  ·have hz:(X.getD t []).getD k 0=0:=PV.out.first t hkt hlt
   rw[hz] at hcx
   have hcz:wr.cell? ⟨gt,k,none⟩=some (.int .u8 0):=hcx
   clear HX hx256 hz hcx
   go_wp2_with (go_at_call 95;refine (inv_zero _).mono ?_;rintro e w1 ⟨rfl,hw⟩;obtain rfl:=hw.symm;clear hw)
   go_roundw
   case rel=>exact⟨t+1,by omega,by omega,by go_num,OK.out,GK.out⟩
   case measure=>simp[intOf];omega
  ·obtain rfl:t=i:=by omega
   have hpos:0 < (X.getD t []).getD k 0:=Nat.pos_of_ne_zero PV.out.ne
   have IV:Hid (∀ w',Calls Tryz.prog 95 #[.int .u8 (((X.getD t []).getD k 0:Nat):Int)] w' fun e w''=>e=.returned (.tuple #[.int .u8 ((M.inv (at2 X t k):Nat):Int),.int .i64 0])/\w'.grownBy w'' none):=fun w'=>inv_any _ w' (by omega) (by omega)
   generalize (X.getD t []).getD k 0=x at *
   clear HX
   go_wp2_with (go_at_call 95;refine (IV.out _).mono ?_;rintro e w1 ⟨rfl,hg⟩;have OK1:Hid (OwnMat w0.heap.size w1 (.slice (some ⟨g,0,none⟩) N cap) us X):=OK.out.keep hg;have GK1:Hid (w0.grownBy w1 none):=grown_trans GK.out hg;clear hg hc hcx hf)
   clear OK GK IV hpos hx256
   have hkX:k < X.length:=by rw[SH.out.1.len];omega
   have htX:t < X.length:=by rw[SH.out.1.len];omega
   obtain⟨g1,e1,z1,hck,hfk,z2,z3,z4⟩:=OK1.out.place (k:=k) hkX
   obtain rfl:g=g1:=(by injection e1 with e1;injection e1 with e1)
   clear z1 z2 z3 z4 e1
   obtain⟨g1,e1,z1,hct,hft,z2,z3,z4⟩:=OK1.out.place (k:=t) htX
   obtain rfl:g=g1:=(by injection e1 with e1;injection e1 with e1)
   clear z1 z2 z3 z4 e1
   obtain⟨pk,nk,ck,ek,hnk⟩:=(OK1.out.vec k hkX).vec.opened
   obtain⟨pi,ni,ci,ei,hni⟩:=(OK1.out.vec t htX).vec.opened
   rw[ek] at hck
   rw[ei] at hct
   have ov:=OK1.out.vec t htX
   rw[ei] at ov
   obtain⟨gi,rfl,z1,z2,z3,z4,z5,z6⟩:=ov.spot (k:=0) (by rw[SH.out.1.row t (by omega)];omega)
   clear z1 z2 z3 z4 z5 z6 ov
   rw[SH.out.1.row t (by omega)] at hni
   have HNI:Hid (ni=2 * N):=hni
   have SW:Hid (OwnMat w0.heap.size ((w1.setCell ⟨g,k,none⟩ (.slice (some ⟨gi,0,none⟩) ni ci)).setCell ⟨g,t,none⟩ (.slice pk nk ck)).drew (.slice (some ⟨g,0,none⟩) N cap) ((us.set k (.slice (some ⟨gi,0,none⟩) ni ci)).set t (.slice pk nk ck)) ((X.set k (X.getD t [])).set t (X.getD k [])) /\
    w0.grownBy ((w1.setCell ⟨g,k,none⟩ (.slice (some ⟨gi,0,none⟩) ni ci)).setCell ⟨g,t,none⟩ (.slice pk nk ck)).drew none/\Sep ((us.set k (.slice (some ⟨gi,0,none⟩) ni ci)).set t (.slice pk nk ck))/\((us.set k (.slice (some ⟨gi,0,none⟩) ni ci)).set t (.slice pk nk ck)).getD k undef=.slice (some ⟨gi,0,none⟩) ni ci):=by
    have hl:=SH.out.2.1
    have h:=OK1.out.swapped hkX htX
    have h2:=SP.out.swap (a:=k) (b:=t) (by omega) (by omega)
    have h3:=swap_get us undef (k:=k) (i:=t) (by omega) (by omega)
    rw[ek,ei] at h h2 h3
    exact⟨h.1.keep (grown_drewN _ 1),grown_trans (grown_new GK1.out h.2 (fun j e=>by have:=Option.some.inj e;have:=SH.out.2.2;omega)) (grown_drewN _ 1),h2,h3⟩
   have XG:Hid (((X.set k (X.getD t [])).set t (X.getD k [])).getD k []=X.getD t []/\((X.set k (X.getD t [])).set t (X.getD k [])).length=N) :=
    ⟨swap_get X [] hkX htX,by simp[SH.out.1.len]⟩
   have XR:Hid (raised X k t=((X.set k (X.getD t [])).set t (X.getD k [])).set k ((List.range (X.getD t []).length).map fun j=>M.mul (M.inv (at2 X t k)) ((X.getD t []).getD j 0))):=rfl
   have XS:Hid ((X.getD t []).length=2 * N/\M.inv (at2 X t k) < 256/\∀ j,(X.getD t []).getD j 0 < 256):=⟨SH.out.1.row t (by omega),M.inv_lt _,fun j=>getD_small (OK1.out.vec t htX).small j⟩
   generalize M.inv (at2 X t k)=y at *
   generalize (X.set k (X.getD t [])).set t (X.getD k [])=X2 at *
   generalize X.getD t []=xs at *
   clear OK1 GK1 ek ei hnk hni hkX htX SP
   by_cases hne:t=k
   ·have hnk:((gi:Nat)=gi):=rfl
    obtain⟨rfl,rfl,rfl⟩:some ⟨gi,0,none⟩=pk/\ni=nk/\ci=ck:=by
     subst hne
     rw[hct] at hck
     simpa using hck
    subst hne
    clear hnk hck
    go_region_with fail
    all_goals
     generalize ((w1.setCell ⟨g,t,none⟩ (.slice (some ⟨gi,0,none⟩) ni ci)).setCell ⟨g,t,none⟩ (.slice (some ⟨gi,0,none⟩) ni ci)).drew=w2 at *
     generalize (us.set t (.slice (some ⟨gi,0,none⟩) ni ci)).set t (.slice (some ⟨gi,0,none⟩) ni ci)=us2 at *
     clear hft hct
     have hkX:t < X2.length:=by rw[XG.out.2];omega
     obtain⟨g1,e1,z1,hcc,hff,z2,z3,z4⟩:=SW.out.1.place (k:=t) hkX
     obtain rfl:g=g1:=(by injection e1 with e1;injection e1 with e1)
     rw[SW.out.2.2.2] at hcc
     clear z1 z2 z3 z4 e1 hkX
     go_wp2_with fail
     go_loopw [48] (fun ti wr=>∃ (s:Nat),s<=ni/\ti=.int .i64 s/\Hid (OwnMat w0.heap.size wr (.slice (some ⟨g,0,none⟩) N cap) us2 (X2.set t (mix (fun j=>M.mul y (xs.getD j 0)) xs s)))/\Hid (w0.grownBy wr none)) (fun ti _=>ni - (intOf ti).toNat)
     case atStart =>
      refine⟨0,by omega,rfl,?_,SW.out.2.1⟩
      have h:=SW.out.1
      have e:X2.set t (mix (fun j=>M.mul y (xs.getD j 0)) xs 0)=X2:=by
       rw[mix_zero,<- XG.out.1]
       apply List.ext_getElem
       ·simp
       ·intro j h1 h2
        by_cases e:t=j
        ·subst e;simp[List.getD,h2]
        ·simp[e]
      rw[<- e] at h
      exact h
     case round =>
      clear hcc hff
      obtain⟨s,hs,rfl,OK,GK⟩:=hrel
      have hni:=HNI.out
      by_cases hsl:s < ni
      ·have hkX:t < (X2.set t (mix (fun j=>M.mul y (xs.getD j 0)) xs s)).length:=by rw[List.length_set,XG.out.2];omega
       have hkX2:t < X2.length:=by rw[XG.out.2];omega
       obtain⟨g1,e1,hb,hcc,hff,z2,z3,z4⟩:=OK.out.place (k:=t) hkX
       obtain rfl:g=g1:=(by injection e1 with e1;injection e1 with e1)
       rw[SW.out.2.2.2] at hcc
       have ov:=OK.out.vec t hkX
       rw[getD_set_self _ _ _ _ hkX2,SW.out.2.2.2] at ov
       have hsx:s < xs.length:=by rw[XS.out.1];omega
       obtain⟨gi',e2,z5,hcx,hfx,h256,hset,hgrow⟩:=ov.spot (k:=s) (by rw[mix_len];exact hsx)
       obtain rfl:gi=gi':=(by injection e2 with e2;injection e2 with e2)
       rw[mix_get _ _ _ hsx] at hcx h256
       have hy:=XS.out.2.1
       have hm:M.mul y (xs.getD s 0) < 256:=M.mul_lt _ hy
       have hlo:=ov.lo gi rfl
       have R:Hid (OwnMat w0.heap.size (wr.setCell ⟨gi,s,none⟩ (.int .u8 ((M.mul y (xs.getD s 0):Nat):Int))) (.slice (some ⟨g,0,none⟩) N cap) us2 (X2.set t (mix (fun j=>M.mul y (xs.getD j 0)) xs (s+1)))/\w0.grownBy (wr.setCell ⟨gi,s,none⟩ (.int .u8 ((M.mul y (xs.getD s 0):Nat):Int))) none):=by
        have h1:=hset _ hm
        rw[mix_set (fun j=>M.mul y (xs.getD j 0)) xs s] at h1
        refine⟨?_,grown_new GK.out (hgrow _) (fun i e=>by have:=Option.some.inj e;omega)⟩
        have h2:=OK.out.rowSet SW.out.2.2.1 hkX (by rw[SW.out.2.2.2];exact h1) (by rw[SW.out.2.2.2];exact hgrow _)
        rw[List.set_set] at h2
        exact h2
       have MM:Hid (∀ w',Calls Tryz.prog 102 #[.int .u8 (y:Int),.int .u8 ((xs.getD s 0:Nat):Int)] w' fun e w''=>e=.returned (.int .u8 ((M.mul y (xs.getD s 0):Nat):Int))/\w''=w'):=fun w'=>mul_any _ _ w' (by omega) (by omega) (by omega) (by omega)
       generalize M.mul y (xs.getD s 0)=z at *
       generalize xs.getD s 0=x' at *
       have j1:(s:Int) < (ni:Int):=by omega
       have hni510:ni<=510:=by omega
       have j2:(0:Int)<=(s:Int):=by omega
       clear e1 e2 z2 z3 z4 z5 hset hgrow ov hkX hkX2 hsx hlo hb hff OK GK hni
       go_wp2_with fail
       go_region_with (go_at_call 102;refine (MM.out _).mono ?_;rintro e w3 ⟨rfl,hw⟩;obtain rfl:=hw.symm;clear hw)
       all_goals
        go_wp2
        go_roundw
        case rel=>exact⟨s+1,by omega,by go_num,R.out.1.keep (grown_drewN _ 1),grown_trans R.out.2 (grown_drewN _ 1)⟩
        case measure=>simp[intOf];omega
      ·have hsn:s=xs.length:=by rw[XS.out.1];omega
       have h:=OK.out
       rw[hsn,mix_all,<- XR.out] at h
       have HH:Hid (OwnMat w0.heap.size wr (.slice (some ⟨g,0,none⟩) N cap) us2 (raised X t t)):=h
       clear h hsn
       go_wp2
       first
        | go_end0
        | refine bodyPost_ret (results_none rfl _ _ _) rfl ?_
       exact⟨us2,rfl,HH.out,SW.out.2.2.1,GK.out⟩
   ·go_region_with fail
    all_goals
     generalize ((w1.setCell ⟨g,k,none⟩ (.slice (some ⟨gi,0,none⟩) ni ci)).setCell ⟨g,t,none⟩ (.slice pk nk ck)).drew=w2 at *
     generalize (us.set k (.slice (some ⟨gi,0,none⟩) ni ci)).set t (.slice pk nk ck)=us2 at *
     clear hft hct
     have hkX:k < X2.length:=by rw[XG.out.2];omega
     obtain⟨g1,e1,z1,hcc,hff,z2,z3,z4⟩:=SW.out.1.place (k:=k) hkX
     obtain rfl:g=g1:=(by injection e1 with e1;injection e1 with e1)
     rw[SW.out.2.2.2] at hcc
     clear z1 z2 z3 z4 e1 hkX
     go_wp2_with fail
     go_loopw [48] (fun ti wr=>∃ (s:Nat),s<=ni/\ti=.int .i64 s/\Hid (OwnMat w0.heap.size wr (.slice (some ⟨g,0,none⟩) N cap) us2 (X2.set k (mix (fun j=>M.mul y (xs.getD j 0)) xs s)))/\Hid (w0.grownBy wr none)) (fun ti _=>ni - (intOf ti).toNat)
     case atStart =>
      refine⟨0,by omega,rfl,?_,SW.out.2.1⟩
      have h:=SW.out.1
      have e:X2.set k (mix (fun j=>M.mul y (xs.getD j 0)) xs 0)=X2:=by
       rw[mix_zero,<- XG.out.1]
       apply List.ext_getElem
       ·simp
       ·intro j h1 h2
        by_cases e:k=j
        ·subst e;simp[List.getD,h2]
        ·simp[e]
      rw[<- e] at h
      exact h
     case round =>
      clear hcc hff
      obtain⟨s,hs,rfl,OK,GK⟩:=hrel
      have hni:=HNI.out
      by_cases hsl:s < ni
      ·have hkX:k < (X2.set k (mix (fun j=>M.mul y (xs.getD j 0)) xs s)).length:=by rw[List.length_set,XG.out.2];omega
       have hkX2:k < X2.length:=by rw[XG.out.2];omega
       obtain⟨g1,e1,hb,hcc,hff,z2,z3,z4⟩:=OK.out.place (k:=k) hkX
       obtain rfl:g=g1:=(by injection e1 with e1;injection e1 with e1)
       rw[SW.out.2.2.2] at hcc
       have ov:=OK.out.vec k hkX
       rw[getD_set_self _ _ _ _ hkX2,SW.out.2.2.2] at ov
       have hsx:s < xs.length:=by rw[XS.out.1];omega
       obtain⟨gi',e2,z5,hcx,hfx,h256,hset,hgrow⟩:=ov.spot (k:=s) (by rw[mix_len];exact hsx)
       obtain rfl:gi=gi':=(by injection e2 with e2;injection e2 with e2)
       rw[mix_get _ _ _ hsx] at hcx h256
       have hy:=XS.out.2.1
       have hm:M.mul y (xs.getD s 0) < 256:=M.mul_lt _ hy
       have hlo:=ov.lo gi rfl
       have R:Hid (OwnMat w0.heap.size (wr.setCell ⟨gi,s,none⟩ (.int .u8 ((M.mul y (xs.getD s 0):Nat):Int))) (.slice (some ⟨g,0,none⟩) N cap) us2 (X2.set k (mix (fun j=>M.mul y (xs.getD j 0)) xs (s+1)))/\w0.grownBy (wr.setCell ⟨gi,s,none⟩ (.int .u8 ((M.mul y (xs.getD s 0):Nat):Int))) none):=by
        have h1:=hset _ hm
        rw[mix_set (fun j=>M.mul y (xs.getD j 0)) xs s] at h1
        refine⟨?_,grown_new GK.out (hgrow _) (fun i e=>by have:=Option.some.inj e;omega)⟩
        have h2:=OK.out.rowSet SW.out.2.2.1 hkX (by rw[SW.out.2.2.2];exact h1) (by rw[SW.out.2.2.2];exact hgrow _)
        rw[List.set_set] at h2
        exact h2
       have MM:Hid (∀ w',Calls Tryz.prog 102 #[.int .u8 (y:Int),.int .u8 ((xs.getD s 0:Nat):Int)] w' fun e w''=>e=.returned (.int .u8 ((M.mul y (xs.getD s 0):Nat):Int))/\w''=w'):=fun w'=>mul_any _ _ w' (by omega) (by omega) (by omega) (by omega)
       generalize M.mul y (xs.getD s 0)=z at *
       generalize xs.getD s 0=x' at *
       have j1:(s:Int) < (ni:Int):=by omega
       have hni510:ni<=510:=by omega
       have j2:(0:Int)<=(s:Int):=by omega
       clear e1 e2 z2 z3 z4 z5 hset hgrow ov hkX hkX2 hsx hlo hb hff OK GK hni
       go_wp2_with fail
       go_region_with (go_at_call 102;refine (MM.out _).mono ?_;rintro e w3 ⟨rfl,hw⟩;obtain rfl:=hw.symm;clear hw)
       all_goals
        go_wp2
        go_roundw
        case rel=>exact⟨s+1,by omega,by go_num,R.out.1.keep (grown_drewN _ 1),grown_trans R.out.2 (grown_drewN _ 1)⟩
        case measure=>simp[intOf];omega
      ·have hsn:s=xs.length:=by rw[XS.out.1];omega
       have h:=OK.out
       rw[hsn,mix_all,<- XR.out] at h
       have HH:Hid (OwnMat w0.heap.size wr (.slice (some ⟨g,0,none⟩) N cap) us2 (raised X k t)):=h
       clear h hsn
       go_wp2
       first
        | go_end0
        | refine bodyPost_ret (results_none rfl _ _ _) rfl ?_
       exact⟨us2,rfl,HH.out,SW.out.2.2.1,GK.out⟩
set_option maxHeartbeats 3200000 in
theorem raise_no {w0 w:World} {v:Value} {us:List Value} {X:List (List Nat)} {n k:Nat} (om:OwnMat w0.heap.size w v us X) (hs:Shape X n (2 * n)) (hn:n<=255) (hk:k < n) (z:∀ j,k<=j->j < n->at2 X j k=0) (G:w0.grownBy w none) :
 Calls Tryz.prog 109 #[v,.int .i64 (k:Int)] w fun e w'=>e=.panicked [{ v:=.iface 169 (.agg #[]),recovered:=false }]/\w0.grownBy w' none:=by
 obtain⟨q,N,cap,rfl,hN⟩:=om.mat.row.opened
 have hsm:=om.same
 have hlen:=hs.len
 have hNn:N=n:=by omega
 subst hNn
 obtain⟨g,rfl,hb,q1,q2,q3,q4,q5⟩:=om.place (k:=k) (by omega)
 clear q1 q2 q3 q4 q5
 have ZZ:Hid (∀ j,k<=j->j < N->at2 X j k=0):=z
 have SH:Hid (Shape X N (2 * N)/\us.length=X.length/\w0.heap.size<=g):=⟨hs,hsm,hb⟩
 clear hN hsm hlen hs z hb
 go_enter Tryz.func109,Tryz.ntmps109
 go_wp2_with fail
 go_loopw [4] (fun ti wr=>∃ (t:Nat),k<=t/\t<=N/\ti=.int .i64 t/\Hid (OwnMat w0.heap.size wr (.slice (some ⟨g,0,none⟩) N cap) us X)/\Hid (w0.grownBy wr none)) (fun ti _=>N - (intOf ti).toNat)
 case atStart=>exact⟨k,by omega,by omega,rfl,om,G⟩
 case round =>
  clear om G
  obtain⟨t,hkt,hti,rfl,OK,GK⟩:=hrel
  have i3:(k:Int) < (N:Int):=by omega
  have i4:(0:Int)<=(k:Int):=by omega
  by_cases hlt:t < N
  ·have i1:(t:Int) < (N:Int):=by omega
   have i2:(0:Int)<=(t:Int):=by omega
   have htX:t < X.length:=by rw[SH.out.1.len];omega
   obtain⟨g1,e1,z1,hc,hf,z2,z3,z4⟩:=OK.out.place (k:=t) htX
   clear z1 z2 z3 z4
   obtain rfl:g=g1:=(by injection e1 with e1;injection e1 with e1)
   have ov:=OK.out.vec t htX
   obtain⟨pt,nt,ct,et,hnt⟩:=ov.vec.opened
   rw[et] at hc ov
   rw[SH.out.1.row t (by omega)] at hnt
   obtain⟨gt,rfl,z1,hcx,z2,hx256,z3,z4⟩:=ov.spot (k:=k) (by rw[SH.out.1.row t (by omega)];omega)
   clear z1 z2 z3 z4
   have i5:(k:Int) < (nt:Int):=by omega
   have hz:(X.getD t []).getD k 0=0:=ZZ.out t hkt hlt
   rw[hz] at hcx
   have hcz:wr.cell? ⟨gt,k,none⟩=some (.int .u8 0):=hcx
   clear e1 ov et hnt htX hx256 hz hcx
   go_wp2_with (go_at_call 95;refine (inv_zero _).mono ?_;rintro e w1 ⟨rfl,hw⟩;obtain rfl:=hw.symm;clear hw)
   go_roundw
   case rel=>exact⟨t+1,by omega,by omega,by go_num,OK.out,GK.out⟩
   case measure=>simp[intOf];omega
  ·have htn:N=t:=by omega
   subst htn
   go_wp2
   exact⟨rfl,rfl,GK.out⟩
end Go.Proofs.YtlklmhojadlncaaGreat
