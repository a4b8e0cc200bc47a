/- Packed: Comb4, Raise, Solve, Inver, Invert, Wakes. -/
import Derived.Test.YtaalagkbpeinkaaGreatMp8
import Derived.Defers
import Derived.Recover
import Derived.Laws.Pointers
set_option maxRecDepth 100000
namespace Go.Proofs.YtaalagkbpeinkaaGreat
open Go.RowKit
def combTo (al:List Nat) (X:List (List Nat)) (L k:Nat):List Nat:=(List.range L).map fun t=>MX.xs (fun j=>M.mul (al.getD j 0) (at2 X j t)) k
theorem combTo_len (al:List Nat) (X:List (List Nat)) (L k:Nat):(combTo al X L k).length=L:=by simp[combTo]
theorem combTo_zero (al:List Nat) (X:List (List Nat)) (L:Nat):combTo al X L 0=List.replicate L 0:=by
 apply List.ext_getElem
 ·simp[combTo]
 ·intro i h1 h2
  simp[combTo,MX.xs]
theorem combTo_get {al:List Nat} {X:List (List Nat)} {L k t:Nat} (h:t < L):(combTo al X L k).getD t 0=MX.xs (fun j=>M.mul (al.getD j 0) (at2 X j t)) k:=gd_map _ h
theorem combTo_step (al:List Nat) (X:List (List Nat)) (L k:Nat):mix (fun t=>(combTo al X L k).getD t 0 ^^^ M.mul (al.getD k 0) (at2 X k t)) (combTo al X L k) L=combTo al X L (k+1):=by
 have h:=mix_all (fun t=>(combTo al X L k).getD t 0 ^^^ M.mul (al.getD k 0) (at2 X k t)) (combTo al X L k)
 rw[combTo_len] at h
 rw[h]
 refine List.map_congr_left fun t ht=>?_
 rw[combTo_get (List.mem_range.1 ht)]
 rfl
theorem heap_grown {w w':World} (g:w.grownBy w' none) {i:Nat} {o:Obj} (h:w.heap[i]?=some o):w'.heap[i]?=some o:=by
 have hl:i < w.heap.size:=(Array.getElem?_eq_some_iff.1 h).1
 rw[g.block i hl (by simp)]
 exact h
set_option maxHeartbeats 3200000 in
set_option maxRecDepth 100000 in
theorem combine_any {w:World} {ns cs:Value} {vs:List Value} {al:List Nat} {X:List (List Nat)} {L:Nat} (hn:Vec w ns al) (mr:Mat w cs vs X) (hX:Shape X X.length L) (hl:al.length=X.length) (h1:1<=X.length) :
 Calls Tryz.prog 123 #[ns,cs] w fun e w'=>∃ p n c,e=.returned (.slice p n c)/\Own w.heap.size w' (.slice p n c) (combTo al X L al.length)/\w.grownBy w' none:=by
 obtain⟨qa,A,ca,rfl,hA⟩:=hn.opened
 obtain⟨q,N,cap,rfl,hN⟩:=mr.row.opened
 have hs:=mr.same
 have hAl:A<=140737488351232:=by rw[hA];exact hn.len
 obtain⟨b,off,rfl,hc⟩:=mr.row.spot (k:=0) (by omega)
 obtain⟨p0,n0,c0,e0,hn0⟩:=(mr.vec 0 (by omega)).opened
 have hLl:L<=140737488351232:=by have:=(mr.vec 0 (by omega)).len;rw[hX.row 0 (by omega)] at this;exact this
 obtain rfl:n0=L:=by rw[hn0];exact hX.row 0 (by omega)
 rw[e0,Nat.add_zero] at hc
 have HN:Hid (A=al.length/\A=N/\N=X.length):=⟨hA,by omega,by omega⟩
 have hN0:(0:Int) < (N:Int):=by omega
 have KA:Hid (∀ w',w.grownBy w' none->Vec w' (.slice qa A ca) al):=fun w' g=>hn.keep g
 have KM:Hid (∀ w',w.grownBy w' none->Mat w' (.slice (some ⟨b,off,none⟩) N cap) vs X):=fun w' g=>mr.keep g
 have HX:Hid (Shape X X.length n0):=hX
 clear e0 hn0 hN hs mr hn hA hl h1 hX
 go_enter Tryz.func123,Tryz.ntmps123
 go_wp2_with (at_make;refine wpList_make_vec rfl _ _ rfl n0 rfl rfl hLl ?_;intro w1 p ou g1;have OU:Hid (Own w.heap.size w1 (.slice p n0 n0) (combTo al X n0 0)):=(by rw[combTo_zero];exact ou);have G1:Hid (w.grownBy w1 none):=g1;clear ou g1)
 clear hc hN0
 go_loopw [18] (fun ti wr=>∃ k:Nat,k<=A/\ti=.int .i64 k/\Hid (Own w.heap.size wr (.slice p n0 n0) (combTo al X n0 k))/\Hid (w.grownBy wr none)) (fun ti _=>A - (intOf ti).toNat)
 case atStart=>exact⟨0,by omega,rfl,OU,G1⟩
 case round =>
  clear OU G1
  obtain⟨k,hk,rfl,OK,GK⟩:=hrel
  obtain⟨wa,hwa⟩:∃ wa,wa=wr:=⟨wr,rfl⟩
  subst hwa
  by_cases hlt:k < A
  ·have i1:(k:Int) < (A:Int):=by omega
   have i2:(k:Int) < (N:Int):=by have:=HN.out;omega
   have i3:(0:Int)<=(k:Int):=by omega
   obtain⟨ba,oa,rfl,hca,hsm⟩:=(KA.out _ GK.out).spot (k:=k) (by have:=HN.out;omega)
   obtain⟨pk,nk,ck,ek,hnk⟩:=((KM.out _ GK.out).vec k (by have:=HN.out;omega)).opened
   obtain rfl:nk=n0:=by rw[hnk];exact HX.out.row k (by have:=HN.out;omega)
   have KC:Hid (∀ w',w.grownBy w' none->w'.cell? ⟨b,off+k,none⟩=some (.slice pk nk ck)):=fun w' g=>by
    obtain⟨b1,o1,e1,hr⟩:=(KM.out _ g).row.spot (k:=k) (by have:=HN.out;have:=(KM.out _ g).same;omega)
    obtain⟨rfl,rfl⟩:b=b1/\off=o1:=by
     injection e1 with e1
     injection e1 with e2 e3
     exact⟨e2,e3⟩
    rw[ek] at hr
    exact hr
   have KV:Hid (∀ w',w.grownBy w' none->Vec w' (.slice pk nk ck) (X.getD k [])):=fun w' g=>by
    have h:=(KM.out _ g).vec k (by have:=HN.out;omega)
    rw[ek] at h
    exact h
   have HST:Hid (mix (fun t=>(combTo al X nk k).getD t 0 ^^^ M.mul (al.getD k 0) (at2 X k t)) (combTo al X nk k) nk=combTo al X nk (k+1)):=combTo_step al X nk k
   have HLen:Hid ((X.getD k []).length=nk):=hnk.symm
   have HAT:Hid (∀ t,at2 X k t=(X.getD k []).getD t 0):=fun t=>rfl
   clear hnk ek
   generalize al.getD k 0=a at *
   have z44:=zero44
   have PP:Hid (∀ w,Calls Tryz.prog 140 #[.int .u8 (a:Int)] w fun e w'=>e=.returned (.agg (prodTo a 256))/\w.grownBy w' none):=fun w=>products_any a w hsm
   have SZ:(prodTo a 256).size=256:=prodTo_size a 256
   have ST:∀ W:World,(storeCells ⟨W.heap.size,0,none⟩ (prodTo a 256).toList).run Tryz.prog (W.alloc (.cells (logTo 0) 188))=.ok () (W.alloc (.cells (prodTo a 256) 188)):=fun W=>by
    have:=run_storeCells_from (P:=Tryz.prog) W.heap.size 188 (prodTo a 256).toList 0 (logTo 0) (W.alloc (.cells (logTo 0) 188)) (heap_alloc_new W _) (by simp[prodTo_size,logTo_size]) (mem_one (prodTo_one a 256))
    simpa [World.setRow_alloc_new] using this
   go_wp2_with (go_at_call 140;refine (PP.out _).mono ?_;rintro e w2 ⟨rfl,g2⟩;have hcc:=KC.out _ (gb_alloc (grown_trans GK.out g2) (.cells (prodTo a 256) 188));have G2:Hid (wa.grownBy w2 none):=g2;clear g2)
   clear z44 SZ ST PP hcc hca
   have F2:Hid (w.grownBy (w2.alloc (.cells (prodTo a 256) 188)) none/\Own w.heap.size (w2.alloc (.cells (prodTo a 256) 188)) (.slice p nk nk) (combTo al X nk k) /\
    (w2.alloc (.cells (prodTo a 256) 188)).heap[w2.heap.size]?=some (.cells (prodTo a 256) 188 (0,0))/\Hi w2.heap.size (.slice p nk nk)/\w.heap.size<=w2.heap.size) :=
    ⟨gb_alloc (grown_trans GK.out G2.out) _,OK.out.keep (gb_alloc G2.out _),heap_alloc_new _ _,fun r e=>by have:=OK.out.hi r e;have:=G2.out.size;omega,Nat.le_trans GK.out.size G2.out.size⟩
   clear G2 GK OK
   generalize w2.alloc (.cells (prodTo a 256) 188)=wb at *
   generalize w2.heap.size=g8 at *
   generalize hC:combTo al X nk k=C at *
   have HC:Hid (C.length=nk):=by show _=_;rw[<- hC,combTo_len]
   clear hC w2
   generalize hXK:X.getD k []=XK at *
   have HAT':Hid (∀ t,at2 X k t=XK.getD t 0):=fun t=>by rw[HAT.out t]
   clear hXK HAT
   go_loopw [30] (fun ti wr=>∃ t:Nat,t<=nk/\ti=.int .i64 t/\Hid (Own w.heap.size wr (.slice p nk nk) (mix (fun t=>C.getD t 0 ^^^ M.mul a (at2 X k t)) C t))/\Hid (w.grownBy wr none)/\Hid (wr.heap[g8]?=some (.cells (prodTo a 256) 188 (0,0)))) (fun ti _=>nk - (intOf ti).toNat)
   case atStart=>exact⟨0,by omega,rfl,by rw[mix_zero];exact F2.out.2.1,F2.out.1,F2.out.2.2.1⟩
   case round =>
    obtain⟨t,ht,rfl,OT,GT,PT⟩:=hrel
    by_cases htl:t < nk
    ·have j1:(t:Int) < (nk:Int):=by omega
     have j3:(0:Int)<=(t:Int):=by omega
     obtain⟨bk,ok,rfl,hcx,hsx⟩:=(KV.out _ GT.out).spot (k:=t) (by have:=HLen.out;omega)
     obtain⟨g,rfl,hz,hcs,hf,h1,hset,hgr⟩:=OT.out.spot (k:=t) (by rw[mix_len];have:=HC.out;omega)
     rw[mix_get _ _ _ (by have:=HC.out;omega)] at hcs h1
     have hgne:g ≠ g8:=by have:=F2.out.2.2.2.1 g rfl;omega
     have hm:M.mul a (XK.getD t 0) < 256:=M.mul_lt _ hsm
     have hcp:wr.cell? ⟨g8,XK.getD t 0,none⟩=some (.int .u8 ((M.mul a (XK.getD t 0):Nat):Int)):=by rw[cell_of_row _ _ _ _ _ _ PT.out,prodTo_get _ _ _ hsx,if_pos hsx]
     have hx:=M.xor_lt h1 hm
     have HS:Hid _:=hset _ hx
     have HM:Hid ((mix (fun t=>C.getD t 0 ^^^ M.mul a (at2 X k t)) C t).set t (C.getD t 0 ^^^ M.mul a (XK.getD t 0))=mix (fun t=>C.getD t 0 ^^^ M.mul a (at2 X k t)) C (t+1)):=by
      show _=_
      rw[<- HAT'.out t]
      exact mix_set _ _ _
     have HG:Hid (w.grownBy (wr.setCell ⟨g,t,none⟩ (.int .u8 ((C.getD t 0 ^^^ M.mul a (XK.getD t 0):Nat):Int))) none):=grown_new GT.out (hgr _) (fun r e=>OT.out.lo r e)
     have HP:Hid ((wr.setCell ⟨g,t,none⟩ (.int .u8 ((C.getD t 0 ^^^ M.mul a (XK.getD t 0):Nat):Int))).heap[g8]?=some (.cells (prodTo a 256) 188 (0,0))):=by
      show _=_
      rw[heap_setCell_other _ _ _ _ (fun e=>hgne e.symm)]
      exact PT.out
     clear hset hgr hz hgne OT PT
     generalize mix (fun t=>C.getD t 0 ^^^ M.mul a (at2 X k t)) C t=LT at *
     generalize C.getD t 0=x at *
     generalize XK.getD t 0=z at *
     have AA:Hid (∀ w,Calls Tryz.prog 141 #[.int .u8 (x:Int),.int .u8 ((M.mul a z:Nat):Int)] w fun e w'=>e=.returned (.int .u8 ((x ^^^ M.mul a z:Nat):Int))/\w'=w):=fun w=>add_any _ _ w (by omega) (by omega) (by omega) (by omega)
     generalize M.mul a z=y at *
     generalize x ^^^ y=r at *
     have j4:(z:Int) < 256:=by omega
     have j5:(0:Int)<=(z:Int):=by omega
     go_wp2_with fail
     go_region_with (go_at_call 141;refine (AA.out _).mono ?_;rintro e w1 ⟨rfl,hw⟩;obtain rfl:=hw.symm;clear hw)
     all_goals
      go_wp2
      go_roundw
      case rel=>exact⟨t+1,by omega,by go_num,by rw[<- HM.out];exact HS.out.keep (grown_drewN _ 1),grown_trans HG.out (grown_drewN _ 1),HP.out⟩
      case measure=>simp[intOf];omega
    ·obtain rfl:t=nk:=by omega
     have OT':Hid (Own w.heap.size wr (.slice p t t) (combTo al X t (k+1))):=by rw[<- HST.out];exact OT
     clear OT
     go_wp2
     go_roundw
     case rel=>exact⟨k+1,by omega,by go_num,OT',GT⟩
     case measure=>simp[intOf];omega
  ·obtain rfl:k=A:=by omega
   go_wp2
   go_ret
   have h:=OK.out
   rw[HN.out.1] at h
   exact⟨p,n0,n0,rfl,h,GK.out⟩
theorem swap_get {α:Type} (us:List α) (d:α) {k i:Nat} (hk:k < us.length) (_:i < us.length):((us.set k (us.getD i d)).set i (us.getD k d)).getD k d=us.getD i d:=by
 by_cases e:i=k
 ·subst e
  rw[getD_set_self _ _ _ _ (by simpa using hk)]
 ·rw[getD_set_ne _ _ _ e,getD_set_self _ _ _ _ hk]
theorem OwnMat.swapped {B:Nat} {w:World} {g n cap:Nat} {us:List Value} {X:List (List Nat)} (h:OwnMat B w (.slice (some ⟨g,0,none⟩) n cap) us X) {k i:Nat} (hk:k < X.length) (hi:i < X.length) :
 OwnMat B ((w.setCell ⟨g,k,none⟩ (us.getD i undef)).setCell ⟨g,i,none⟩ (us.getD k undef)) (.slice (some ⟨g,0,none⟩) n cap) ((us.set k (us.getD i undef)).set i (us.getD k undef)) ((X.set k (X.getD i [])).set i (X.getD k [])) /\
  w.grownBy ((w.setCell ⟨g,k,none⟩ (us.getD i undef)).setCell ⟨g,i,none⟩ (us.getD k undef)) (some g):=by
 obtain⟨g1,e1,_,_,_,hput,_,hgr⟩:=h.place hk
 obtain rfl:g=g1:=(by injection e1 with e1;injection e1 with e1)
 have h1:=hput _ _ (h.vec i hi)
 have ok:Own B (w.setCell ⟨g,k,none⟩ (us.getD i undef)) (us.getD k undef) (X.getD k []):=(h.vec k hk).kept (hgr _) (apart_kinds h.row (h.vec k hk))
 obtain⟨g2,e2,_,_,_,hput2,_,hgr2⟩:=h1.place (k:=i) (by simpa using hi)
 obtain rfl:g=g2:=(by injection e2 with e2;injection e2 with e2)
 exact⟨hput2 _ _ ok,grown_trans (hgr _) (hgr2 _)⟩
set_option maxHeartbeats 3200000 in
theorem raise_yes {w0 w:World} {v:Value} {us:List Value} {X:List (List Nat)} {n k i:Nat} (om:OwnMat w0.heap.size w v us X) (sp:Sep us) (hs:Shape X n (2 * n)) (hn:n<=255) (p:Pivot n X k i) (G:w0.grownBy w none) :
 Calls Tryz.prog 166 #[v,.int .i64 (k:Int)] w fun e w'=>∃ us',e=.returned (.tuple #[])/\OwnMat w0.heap.size w' v us' (raised X k i)/\Sep us'/\w0.grownBy w' none:=by
 obtain⟨q,N,cap,rfl,hN⟩:=om.mat.row.opened
 have hsm:=om.same
 have hlen:=hs.len
 have hNn:N=n:=by omega
 subst hNn
 obtain⟨g,rfl,hb,q1,q2,q3,q4,q5⟩:=om.place (k:=k) (by have:=p.ki;have:=p.i_n;omega)
 clear q1 q2 q3 q4 q5
 have hki:=p.ki
 have hin:=p.i_n
 have PV:Hid (Pivot N X k i):=p
 have SH:Hid (Shape X N (2 * N)/\us.length=X.length/\w0.heap.size<=g):=⟨hs,hsm,hb⟩
 have SP:Hid (Sep us):=sp
 clear hN hsm hlen hs sp p hb
 go_enter Tryz.func166,Tryz.ntmps166
 go_wp2_with fail
 go_loopw [4] (fun ti wr=>∃ (t:Nat),k<=t/\t<=i/\ti=.int .i64 t/\Hid (OwnMat w0.heap.size wr (.slice (some ⟨g,0,none⟩) N cap) us X)/\Hid (w0.grownBy wr none)) (fun ti _=>N - (intOf ti).toNat)
 case atStart=>exact⟨k,by omega,hki,rfl,om,G⟩
 case round =>
  clear om G
  obtain⟨t,hkt,hti,rfl,OK,GK⟩:=hrel
  have i1:(t:Int) < (N:Int):=by omega
  have i2:(0:Int)<=(t:Int):=by omega
  have i3:(k:Int) < (N:Int):=by omega
  have i4:(0:Int)<=(k:Int):=by omega
  have htX:t < X.length:=by rw[SH.out.1.len];omega
  obtain⟨g1,e1,z1,hc,hf,z2,z3,z4⟩:=OK.out.place (k:=t) htX
  clear z1 z2 z3 z4
  obtain rfl:g=g1:=(by injection e1 with e1;injection e1 with e1)
  have ov:=OK.out.vec t htX
  obtain⟨pt,nt,ct,et,hnt⟩:=ov.vec.opened
  rw[et] at hc ov
  rw[SH.out.1.row t (by omega)] at hnt
  obtain⟨gt,rfl,z1,hcx,z2,hx256,z3,z4⟩:=ov.spot (k:=k) (by rw[SH.out.1.row t (by omega)];omega)
  clear z1 z2 z3 z4
  have i5:(k:Int) < (nt:Int):=by omega
  have HX:Hid ((X.getD t []).getD k 0=at2 X t k):=rfl
  clear e1 ov et hnt htX
  by_cases hlt:t < i
  ·have hz:(X.getD t []).getD k 0=0:=PV.out.first t hkt hlt
   rw[hz] at hcx
   have hcz:wr.cell? ⟨gt,k,none⟩=some (.int .u8 0):=hcx
   clear HX hx256 hz hcx
   go_wp2_with (go_at_call 142;refine (inv_zero _).mono ?_;rintro e w1 ⟨rfl,hw⟩;obtain rfl:=hw.symm;clear hw)
   go_roundw
   case rel=>exact⟨t+1,by omega,by omega,by go_num,OK.out,GK.out⟩
   case measure=>simp[intOf];omega
  ·obtain rfl:t=i:=by omega
   have hpos:0 < (X.getD t []).getD k 0:=Nat.pos_of_ne_zero PV.out.ne
   have IV:Hid (∀ w',Calls Tryz.prog 142 #[.int .u8 (((X.getD t []).getD k 0:Nat):Int)] w' fun e w''=>e=.returned (.tuple #[.int .u8 ((M.inv (at2 X t k):Nat):Int),.int .i64 0])/\w'.grownBy w'' none):=fun w'=>inv_any _ w' (by omega) (by omega)
   generalize (X.getD t []).getD k 0=x at *
   clear HX
   go_wp2_with (go_at_call 142;refine (IV.out _).mono ?_;rintro e w1 ⟨rfl,hg⟩;have OK1:Hid (OwnMat w0.heap.size w1 (.slice (some ⟨g,0,none⟩) N cap) us X):=OK.out.keep hg;have GK1:Hid (w0.grownBy w1 none):=grown_trans GK.out hg;clear hg hc hcx hf)
   clear OK GK IV hpos hx256
   have hkX:k < X.length:=by rw[SH.out.1.len];omega
   have htX:t < X.length:=by rw[SH.out.1.len];omega
   obtain⟨g1,e1,z1,hck,hfk,z2,z3,z4⟩:=OK1.out.place (k:=k) hkX
   obtain rfl:g=g1:=(by injection e1 with e1;injection e1 with e1)
   clear z1 z2 z3 z4 e1
   obtain⟨g1,e1,z1,hct,hft,z2,z3,z4⟩:=OK1.out.place (k:=t) htX
   obtain rfl:g=g1:=(by injection e1 with e1;injection e1 with e1)
   clear z1 z2 z3 z4 e1
   obtain⟨pk,nk,ck,ek,hnk⟩:=(OK1.out.vec k hkX).vec.opened
   obtain⟨pi,ni,ci,ei,hni⟩:=(OK1.out.vec t htX).vec.opened
   rw[ek] at hck
   rw[ei] at hct
   have ov:=OK1.out.vec t htX
   rw[ei] at ov
   obtain⟨gi,rfl,z1,z2,z3,z4,z5,z6⟩:=ov.spot (k:=0) (by rw[SH.out.1.row t (by omega)];omega)
   clear z1 z2 z3 z4 z5 z6 ov
   rw[SH.out.1.row t (by omega)] at hni
   have HNI:Hid (ni=2 * N):=hni
   have SW:Hid (OwnMat w0.heap.size ((w1.setCell ⟨g,k,none⟩ (.slice (some ⟨gi,0,none⟩) ni ci)).setCell ⟨g,t,none⟩ (.slice pk nk ck)).drew (.slice (some ⟨g,0,none⟩) N cap) ((us.set k (.slice (some ⟨gi,0,none⟩) ni ci)).set t (.slice pk nk ck)) ((X.set k (X.getD t [])).set t (X.getD k [])) /\
    w0.grownBy ((w1.setCell ⟨g,k,none⟩ (.slice (some ⟨gi,0,none⟩) ni ci)).setCell ⟨g,t,none⟩ (.slice pk nk ck)).drew none/\Sep ((us.set k (.slice (some ⟨gi,0,none⟩) ni ci)).set t (.slice pk nk ck))/\((us.set k (.slice (some ⟨gi,0,none⟩) ni ci)).set t (.slice pk nk ck)).getD k undef=.slice (some ⟨gi,0,none⟩) ni ci):=by
    have hl:=SH.out.2.1
    have h:=OK1.out.swapped hkX htX
    have h2:=SP.out.swap (a:=k) (b:=t) (by omega) (by omega)
    have h3:=swap_get us undef (k:=k) (i:=t) (by omega) (by omega)
    rw[ek,ei] at h h2 h3
    exact⟨h.1.keep (grown_drewN _ 1),grown_trans (grown_new GK1.out h.2 (fun j e=>by have:=Option.some.inj e;have:=SH.out.2.2;omega)) (grown_drewN _ 1),h2,h3⟩
   have XG:Hid (((X.set k (X.getD t [])).set t (X.getD k [])).getD k []=X.getD t []/\((X.set k (X.getD t [])).set t (X.getD k [])).length=N) :=
    ⟨swap_get X [] hkX htX,by simp[SH.out.1.len]⟩
   have XR:Hid (raised X k t=((X.set k (X.getD t [])).set t (X.getD k [])).set k ((List.range (X.getD t []).length).map fun j=>M.mul (M.inv (at2 X t k)) ((X.getD t []).getD j 0))):=rfl
   have XS:Hid ((X.getD t []).length=2 * N/\M.inv (at2 X t k) < 256/\∀ j,(X.getD t []).getD j 0 < 256):=⟨SH.out.1.row t (by omega),M.inv_lt _,fun j=>getD_small (OK1.out.vec t htX).small j⟩
   generalize M.inv (at2 X t k)=y at *
   generalize (X.set k (X.getD t [])).set t (X.getD k [])=X2 at *
   generalize X.getD t []=xs at *
   clear OK1 GK1 ek ei hnk hni hkX htX SP
   by_cases hne:t=k
   ·have hnk:((gi:Nat)=gi):=rfl
    obtain⟨rfl,rfl,rfl⟩:some ⟨gi,0,none⟩=pk/\ni=nk/\ci=ck:=by
     subst hne
     rw[hct] at hck
     simpa using hck
    subst hne
    clear hnk hck
    go_region_with fail
    all_goals
     generalize ((w1.setCell ⟨g,t,none⟩ (.slice (some ⟨gi,0,none⟩) ni ci)).setCell ⟨g,t,none⟩ (.slice (some ⟨gi,0,none⟩) ni ci)).drew=w2 at *
     generalize (us.set t (.slice (some ⟨gi,0,none⟩) ni ci)).set t (.slice (some ⟨gi,0,none⟩) ni ci)=us2 at *
     clear hft hct
     have hkX:t < X2.length:=by rw[XG.out.2];omega
     obtain⟨g1,e1,z1,hcc,hff,z2,z3,z4⟩:=SW.out.1.place (k:=t) hkX
     obtain rfl:g=g1:=(by injection e1 with e1;injection e1 with e1)
     rw[SW.out.2.2.2] at hcc
     clear z1 z2 z3 z4 e1 hkX
     go_wp2_with fail
     go_loopw [48] (fun ti wr=>∃ (s:Nat),s<=ni/\ti=.int .i64 s/\Hid (OwnMat w0.heap.size wr (.slice (some ⟨g,0,none⟩) N cap) us2 (X2.set t (mix (fun j=>M.mul y (xs.getD j 0)) xs s)))/\Hid (w0.grownBy wr none)) (fun ti _=>ni - (intOf ti).toNat)
     case atStart =>
      refine⟨0,by omega,rfl,?_,SW.out.2.1⟩
      have h:=SW.out.1
      have e:X2.set t (mix (fun j=>M.mul y (xs.getD j 0)) xs 0)=X2:=by
       rw[mix_zero,<- XG.out.1]
       apply List.ext_getElem
       ·simp
       ·intro j h1 h2
        by_cases e:t=j
        ·subst e;simp[List.getD,h2]
        ·simp[e]
      rw[<- e] at h
      exact h
     case round =>
      clear hcc hff
      obtain⟨s,hs,rfl,OK,GK⟩:=hrel
      have hni:=HNI.out
      by_cases hsl:s < ni
      ·have hkX:t < (X2.set t (mix (fun j=>M.mul y (xs.getD j 0)) xs s)).length:=by rw[List.length_set,XG.out.2];omega
       have hkX2:t < X2.length:=by rw[XG.out.2];omega
       obtain⟨g1,e1,hb,hcc,hff,z2,z3,z4⟩:=OK.out.place (k:=t) hkX
       obtain rfl:g=g1:=(by injection e1 with e1;injection e1 with e1)
       rw[SW.out.2.2.2] at hcc
       have ov:=OK.out.vec t hkX
       rw[getD_set_self _ _ _ _ hkX2,SW.out.2.2.2] at ov
       have hsx:s < xs.length:=by rw[XS.out.1];omega
       obtain⟨gi',e2,z5,hcx,hfx,h256,hset,hgrow⟩:=ov.spot (k:=s) (by rw[mix_len];exact hsx)
       obtain rfl:gi=gi':=(by injection e2 with e2;injection e2 with e2)
       rw[mix_get _ _ _ hsx] at hcx h256
       have hy:=XS.out.2.1
       have hm:M.mul y (xs.getD s 0) < 256:=M.mul_lt _ hy
       have hlo:=ov.lo gi rfl
       have R:Hid (OwnMat w0.heap.size (wr.setCell ⟨gi,s,none⟩ (.int .u8 ((M.mul y (xs.getD s 0):Nat):Int))) (.slice (some ⟨g,0,none⟩) N cap) us2 (X2.set t (mix (fun j=>M.mul y (xs.getD j 0)) xs (s+1)))/\w0.grownBy (wr.setCell ⟨gi,s,none⟩ (.int .u8 ((M.mul y (xs.getD s 0):Nat):Int))) none):=by
        have h1:=hset _ hm
        rw[mix_set (fun j=>M.mul y (xs.getD j 0)) xs s] at h1
        refine⟨?_,grown_new GK.out (hgrow _) (fun i e=>by have:=Option.some.inj e;omega)⟩
        have h2:=OK.out.rowSet SW.out.2.2.1 hkX (by rw[SW.out.2.2.2];exact h1) (by rw[SW.out.2.2.2];exact hgrow _)
        rw[List.set_set] at h2
        exact h2
       have MM:Hid (∀ w',Calls Tryz.prog 152 #[.int .u8 (y:Int),.int .u8 ((xs.getD s 0:Nat):Int)] w' fun e w''=>e=.returned (.int .u8 ((M.mul y (xs.getD s 0):Nat):Int))/\w''=w'):=fun w'=>mul_any _ _ w' (by omega) (by omega) (by omega) (by omega)
       generalize M.mul y (xs.getD s 0)=z at *
       generalize xs.getD s 0=x' at *
       have j1:(s:Int) < (ni:Int):=by omega
       have hni510:ni<=510:=by omega
       have j2:(0:Int)<=(s:Int):=by omega
       clear e1 e2 z2 z3 z4 z5 hset hgrow ov hkX hkX2 hsx hlo hb hff OK GK hni
       go_wp2_with fail
       go_region_with (go_at_call 152;refine (MM.out _).mono ?_;rintro e w3 ⟨rfl,hw⟩;obtain rfl:=hw.symm;clear hw)
       all_goals
        go_wp2
        go_roundw
        case rel=>exact⟨s+1,by omega,by go_num,R.out.1.keep (grown_drewN _ 1),grown_trans R.out.2 (grown_drewN _ 1)⟩
        case measure=>simp[intOf];omega
      ·have hsn:s=xs.length:=by rw[XS.out.1];omega
       have h:=OK.out
       rw[hsn,mix_all,<- XR.out] at h
       have HH:Hid (OwnMat w0.heap.size wr (.slice (some ⟨g,0,none⟩) N cap) us2 (raised X t t)):=h
       clear h hsn
       go_wp2
       first
        | go_end0
        | refine bodyPost_ret (results_none rfl _ _ _) rfl ?_
       exact⟨us2,rfl,HH.out,SW.out.2.2.1,GK.out⟩
   ·go_region_with fail
    all_goals
     generalize ((w1.setCell ⟨g,k,none⟩ (.slice (some ⟨gi,0,none⟩) ni ci)).setCell ⟨g,t,none⟩ (.slice pk nk ck)).drew=w2 at *
     generalize (us.set k (.slice (some ⟨gi,0,none⟩) ni ci)).set t (.slice pk nk ck)=us2 at *
     clear hft hct
     have hkX:k < X2.length:=by rw[XG.out.2];omega
     obtain⟨g1,e1,z1,hcc,hff,z2,z3,z4⟩:=SW.out.1.place (k:=k) hkX
     obtain rfl:g=g1:=(by injection e1 with e1;injection e1 with e1)
     rw[SW.out.2.2.2] at hcc
     clear z1 z2 z3 z4 e1 hkX
     go_wp2_with fail
     go_loopw [48] (fun ti wr=>∃ (s:Nat),s<=ni/\ti=.int .i64 s/\Hid (OwnMat w0.heap.size wr (.slice (some ⟨g,0,none⟩) N cap) us2 (X2.set k (mix (fun j=>M.mul y (xs.getD j 0)) xs s)))/\Hid (w0.grownBy wr none)) (fun ti _=>ni - (intOf ti).toNat)
     case atStart =>
      refine⟨0,by omega,rfl,?_,SW.out.2.1⟩
      have h:=SW.out.1
      have e:X2.set k (mix (fun j=>M.mul y (xs.getD j 0)) xs 0)=X2:=by
       rw[mix_zero,<- XG.out.1]
       apply List.ext_getElem
       ·simp
       ·intro j h1 h2
        by_cases e:k=j
        ·subst e;simp[List.getD,h2]
        ·simp[e]
      rw[<- e] at h
      exact h
     case round =>
      clear hcc hff
      obtain⟨s,hs,rfl,OK,GK⟩:=hrel
      have hni:=HNI.out
      by_cases hsl:s < ni
      ·have hkX:k < (X2.set k (mix (fun j=>M.mul y (xs.getD j 0)) xs s)).length:=by rw[List.length_set,XG.out.2];omega
       have hkX2:k < X2.length:=by rw[XG.out.2];omega
       obtain⟨g1,e1,hb,hcc,hff,z2,z3,z4⟩:=OK.out.place (k:=k) hkX
       obtain rfl:g=g1:=(by injection e1 with e1;injection e1 with e1)
       rw[SW.out.2.2.2] at hcc
       have ov:=OK.out.vec k hkX
       rw[getD_set_self _ _ _ _ hkX2,SW.out.2.2.2] at ov
       have hsx:s < xs.length:=by rw[XS.out.1];omega
       obtain⟨gi',e2,z5,hcx,hfx,h256,hset,hgrow⟩:=ov.spot (k:=s) (by rw[mix_len];exact hsx)
       obtain rfl:gi=gi':=(by injection e2 with e2;injection e2 with e2)
       rw[mix_get _ _ _ hsx] at hcx h256
       have hy:=XS.out.2.1
       have hm:M.mul y (xs.getD s 0) < 256:=M.mul_lt _ hy
       have hlo:=ov.lo gi rfl
       have R:Hid (OwnMat w0.heap.size (wr.setCell ⟨gi,s,none⟩ (.int .u8 ((M.mul y (xs.getD s 0):Nat):Int))) (.slice (some ⟨g,0,none⟩) N cap) us2 (X2.set k (mix (fun j=>M.mul y (xs.getD j 0)) xs (s+1)))/\w0.grownBy (wr.setCell ⟨gi,s,none⟩ (.int .u8 ((M.mul y (xs.getD s 0):Nat):Int))) none):=by
        have h1:=hset _ hm
        rw[mix_set (fun j=>M.mul y (xs.getD j 0)) xs s] at h1
        refine⟨?_,grown_new GK.out (hgrow _) (fun i e=>by have:=Option.some.inj e;omega)⟩
        have h2:=OK.out.rowSet SW.out.2.2.1 hkX (by rw[SW.out.2.2.2];exact h1) (by rw[SW.out.2.2.2];exact hgrow _)
        rw[List.set_set] at h2
        exact h2
       have MM:Hid (∀ w',Calls Tryz.prog 152 #[.int .u8 (y:Int),.int .u8 ((xs.getD s 0:Nat):Int)] w' fun e w''=>e=.returned (.int .u8 ((M.mul y (xs.getD s 0):Nat):Int))/\w''=w'):=fun w'=>mul_any _ _ w' (by omega) (by omega) (by omega) (by omega)
       generalize M.mul y (xs.getD s 0)=z at *
       generalize xs.getD s 0=x' at *
       have j1:(s:Int) < (ni:Int):=by omega
       have hni510:ni<=510:=by omega
       have j2:(0:Int)<=(s:Int):=by omega
       clear e1 e2 z2 z3 z4 z5 hset hgrow ov hkX hkX2 hsx hlo hb hff OK GK hni
       go_wp2_with fail
       go_region_with (go_at_call 152;refine (MM.out _).mono ?_;rintro e w3 ⟨rfl,hw⟩;obtain rfl:=hw.symm;clear hw)
       all_goals
        go_wp2
        go_roundw
        case rel=>exact⟨s+1,by omega,by go_num,R.out.1.keep (grown_drewN _ 1),grown_trans R.out.2 (grown_drewN _ 1)⟩
        case measure=>simp[intOf];omega
      ·have hsn:s=xs.length:=by rw[XS.out.1];omega
       have h:=OK.out
       rw[hsn,mix_all,<- XR.out] at h
       have HH:Hid (OwnMat w0.heap.size wr (.slice (some ⟨g,0,none⟩) N cap) us2 (raised X k t)):=h
       clear h hsn
       go_wp2
       first
        | go_end0
        | refine bodyPost_ret (results_none rfl _ _ _) rfl ?_
       exact⟨us2,rfl,HH.out,SW.out.2.2.1,GK.out⟩
set_option maxHeartbeats 3200000 in
theorem raise_no {w0 w:World} {v:Value} {us:List Value} {X:List (List Nat)} {n k:Nat} (om:OwnMat w0.heap.size w v us X) (hs:Shape X n (2 * n)) (hn:n<=255) (hk:k < n) (z:∀ j,k<=j->j < n->at2 X j k=0) (G:w0.grownBy w none) :
 Calls Tryz.prog 166 #[v,.int .i64 (k:Int)] w fun e w'=>e=.panicked [{ v:=.iface 214 (.agg #[]),recovered:=false }]/\w0.grownBy w' none:=by
 obtain⟨q,N,cap,rfl,hN⟩:=om.mat.row.opened
 have hsm:=om.same
 have hlen:=hs.len
 have hNn:N=n:=by omega
 subst hNn
 obtain⟨g,rfl,hb,q1,q2,q3,q4,q5⟩:=om.place (k:=k) (by omega)
 clear q1 q2 q3 q4 q5
 have ZZ:Hid (∀ j,k<=j->j < N->at2 X j k=0):=z
 have SH:Hid (Shape X N (2 * N)/\us.length=X.length/\w0.heap.size<=g):=⟨hs,hsm,hb⟩
 clear hN hsm hlen hs z hb
 go_enter Tryz.func166,Tryz.ntmps166
 go_wp2_with fail
 go_loopw [4] (fun ti wr=>∃ (t:Nat),k<=t/\t<=N/\ti=.int .i64 t/\Hid (OwnMat w0.heap.size wr (.slice (some ⟨g,0,none⟩) N cap) us X)/\Hid (w0.grownBy wr none)) (fun ti _=>N - (intOf ti).toNat)
 case atStart=>exact⟨k,by omega,by omega,rfl,om,G⟩
 case round =>
  clear om G
  obtain⟨t,hkt,hti,rfl,OK,GK⟩:=hrel
  have i3:(k:Int) < (N:Int):=by omega
  have i4:(0:Int)<=(k:Int):=by omega
  by_cases hlt:t < N
  ·have i1:(t:Int) < (N:Int):=by omega
   have i2:(0:Int)<=(t:Int):=by omega
   have htX:t < X.length:=by rw[SH.out.1.len];omega
   obtain⟨g1,e1,z1,hc,hf,z2,z3,z4⟩:=OK.out.place (k:=t) htX
   clear z1 z2 z3 z4
   obtain rfl:g=g1:=(by injection e1 with e1;injection e1 with e1)
   have ov:=OK.out.vec t htX
   obtain⟨pt,nt,ct,et,hnt⟩:=ov.vec.opened
   rw[et] at hc ov
   rw[SH.out.1.row t (by omega)] at hnt
   obtain⟨gt,rfl,z1,hcx,z2,hx256,z3,z4⟩:=ov.spot (k:=k) (by rw[SH.out.1.row t (by omega)];omega)
   clear z1 z2 z3 z4
   have i5:(k:Int) < (nt:Int):=by omega
   have hz:(X.getD t []).getD k 0=0:=ZZ.out t hkt hlt
   rw[hz] at hcx
   have hcz:wr.cell? ⟨gt,k,none⟩=some (.int .u8 0):=hcx
   clear e1 ov et hnt htX hx256 hz hcx
   go_wp2_with (go_at_call 142;refine (inv_zero _).mono ?_;rintro e w1 ⟨rfl,hw⟩;obtain rfl:=hw.symm;clear hw)
   go_roundw
   case rel=>exact⟨t+1,by omega,by omega,by go_num,OK.out,GK.out⟩
   case measure=>simp[intOf];omega
  ·have htn:N=t:=by omega
   subst htn
   go_wp2
   exact⟨rfl,rfl,GK.out⟩
def halfTo (X:List (List Nat)) (n k:Nat):List (List Nat):=(List.range n).map fun i=>if i < k then (X.getD i []).drop n else List.replicate n 0
theorem halfTo_len (X:List (List Nat)) (n k:Nat):(halfTo X n k).length=n:=by simp[halfTo]
theorem halfTo_zero (X:List (List Nat)) (n:Nat):halfTo X n 0=List.replicate n (List.replicate n 0):=by
 apply List.ext_getElem
 ·simp[halfTo]
 ·intro i h1 h2
  simp[halfTo]
theorem halfTo_all (X:List (List Nat)) (n:Nat):halfTo X n n=halfList X n:=List.map_congr_left fun i hi=>by simp[List.mem_range.1 hi]
theorem halfTo_get (X:List (List Nat)) (n k:Nat) (h:k < n):(halfTo X n k).getD k []=List.replicate n 0:=by simp[halfTo,List.getD,h]
theorem halfTo_set (X:List (List Nat)) (n k:Nat):(halfTo X n k).set k ((X.getD k []).drop n)=halfTo X n (k+1):=by
 apply List.ext_getElem
 ·simp[halfTo]
 ·intro i h1 h2
  by_cases e:k=i
  ·subst e;simp[halfTo]
  ·by_cases l:i < k
   ·simp[halfTo,e,l,show i < k+1 from by omega]
   ·simp[halfTo,e,l,show ¬ i < k+1 from by omega]
abbrev noInverseChain:List PanicEntry:=[{ v:=.iface 214 (.agg #[]),recovered:=false }]
def Solved (n:Nat) (X:List (List Nat)) (w:World) (e:Ending) (w':World):Prop :=
 w.grownBy w' none/\((∃ v us Y,e=.returned v/\OwnMat w.heap.size w' v us Y/\Sep us/\Shape Y n n/\MX.Inv n (at2 X) (at2 Y))\/(e=.panicked noInverseChain/\NoInv n (at2 X)))
set_option maxHeartbeats 6400000 in
theorem solve_any {w:World} {m:Value} {vs:List Value} {X:List (List Nat)} {n:Nat} (mr:Mat w m vs X) (hs:Shape X n n) (h1:1<=n) (h2:n<=255) :
 Calls Tryz.prog 160 #[m] w (Solved n X w):=by
 obtain⟨q,N,cap,rfl,hN⟩:=mr.row.opened
 have hsm:=mr.same
 have hlen:=hs.len
 have hNn:N=n:=by omega
 subst hNn
 have W0:Hid (Work N (at2 X) 0 (besList X N)):=Work.start hs mr.small
 have BE:Hid (∀ r,r=Value.slice q N cap->Calls Tryz.prog 165 #[r] w fun e w'=>∃ v us,e=.returned v/\OwnMat w.heap.size w' v us (besList X N)/\Sep us/\w.grownBy w' none):=fun r e=>e ▸ beside_any mr hs h1 h2
 clear hN hsm hlen hs mr
 go_enter Tryz.func160,Tryz.ntmps160
 go_wp2_with (go_at_call 165;refine (BE.out _ (by with_reducible rfl)).mono ?_;rintro e w1 ⟨v,us,rfl,om,sp,g1⟩;have OM:Hid (OwnMat w.heap.size w1 v us (besList X N)):=om;have SP:Hid (Sep us):=sp;have G1:Hid (w.grownBy w1 none):=g1;clear om sp g1)
 obtain⟨p,N2,cap2,rfl,hN2⟩:=OM.out.mat.row.opened
 have hN3:N2=N:=by have:=OM.out.same;have:=W0.out.shape.len;omega
 subst hN3
 obtain⟨g,rfl,hb,q1,q2,q3,q4,q5⟩:=OM.out.place (k:=0) (by have:=W0.out.shape.len;omega)
 clear q1 q2 q3 q4 q5 hN2 BE
 have HB:Hid (w.heap.size<=g):=hb
 clear hb
 go_loopw [16] (fun ti wr=>∃ (k:Nat) (us:List Value) (X':List (List Nat)),k<=N2/\ti=.int .i64 k/\Hid (OwnMat w.heap.size wr (.slice (some ⟨g,0,none⟩) N2 cap2) us X')/\Hid (Sep us)/\Hid (Work N2 (at2 X) k X')/\Hid (w.grownBy wr none)) (fun ti _=>N2 - (intOf ti).toNat)
 case atStart=>exact⟨0,us,besList X N2,by omega,rfl,OM.out,SP.out,W0.out,G1.out⟩
 case round =>
  clear OM SP W0 G1 us
  obtain⟨k,us,X1,hk,rfl,OK,SP,WK,GK⟩:=hrel
  by_cases hlt:k < N2
  ·have i1:(k:Int) < (N2:Int):=by omega
   have i3:(0:Int)<=(k:Int):=by omega
   rcases pivot_or N2 X1 k with ⟨i,pv⟩ | hz
   ·have RY:Hid (∀ r1 r2,r1=Value.slice (some ⟨g,0,none⟩) N2 cap2->r2=Value.int .i64 (k:Int)->Calls Tryz.prog 166 #[r1,r2] wr fun e w'=>∃ us',e=.returned (.tuple #[])/\OwnMat w.heap.size w' (.slice (some ⟨g,0,none⟩) N2 cap2) us' (raised X1 k i)/\Sep us'/\w.grownBy w' none):=fun r1 r2 e1 e2=>by
     subst e1 e2
     exact raise_yes OK.out SP.out WK.out.shape h2 pv GK.out
    have MI:Hid (Mid N2 (at2 X) k 0 (raised X1 k i)):=WK.out.raise hlt pv
    clear OK SP WK GK pv
    generalize raised X1 k i=X2 at *
    go_wp2_with (go_at_call 166;refine (RY.out _ _ (by with_reducible rfl) (by with_reducible rfl)).mono ?_;rintro e w2 ⟨us2,rfl,om,sp,g2⟩;have OK:Hid (OwnMat w.heap.size w2 (.slice (some ⟨g,0,none⟩) N2 cap2) us2 X2):=om;have SP:Hid (Sep us2):=sp;have GK:Hid (w.grownBy w2 none):=g2;clear om sp g2)
    clear RY
    go_loopw [24] (fun ti wr=>∃ (t:Nat) (X3:List (List Nat)),t<=N2/\ti=.int .i64 t/\Hid (OwnMat w.heap.size wr (.slice (some ⟨g,0,none⟩) N2 cap2) us2 X3)/\Hid (Mid N2 (at2 X) k t X3)/\Hid (w.grownBy wr none)) (fun ti _=>N2 - (intOf ti).toNat)
    case atStart=>exact⟨0,X2,by omega,rfl,OK.out,MI.out,GK.out⟩
    case round =>
     clear OK MI GK
     obtain⟨t,X3,ht,rfl,OK,MI,GK⟩:=hrel
     by_cases htl:t < N2
     ·have i4:(t:Int) < (N2:Int):=by omega
      have i5:(0:Int)<=(t:Int):=by omega
      have htX:t < X3.length:=by rw[MI.out.shape.len];exact htl
      have hkX:k < X3.length:=by rw[MI.out.shape.len];exact hlt
      obtain⟨g1,e1,z1,hct,z0,z2,z3,z4⟩:=OK.out.place (k:=t) htX
      obtain rfl:g=g1:=(by injection e1 with e1;injection e1 with e1)
      clear z0 z1 z2 z3 z4 e1
      obtain⟨g1,e1,z1,hck,z0,z2,z3,z4⟩:=OK.out.place (k:=k) hkX
      obtain rfl:g=g1:=(by injection e1 with e1;injection e1 with e1)
      clear z0 z1 z2 z3 z4 e1
      have ot:=OK.out.vec t htX
      obtain⟨pt,nt,ct,et,hnt⟩:=ot.vec.opened
      rw[et] at hct ot
      rw[MI.out.shape.row t htl] at hnt
      by_cases hne:t=k
      ·have hnn:((t:Int) != (k:Int))=false:=by simp[hne]
       have MI':Hid (Mid N2 (at2 X) k (t+1) X3):=by subst hne;exact MI.out.skip
       clear hne hck et hnt ot htX hkX
       go_wp2_with fail
       go_roundw
       case rel=>exact⟨t+1,X3,by omega,by go_num,OK.out,MI'.out,GK.out⟩
       case measure=>simp[intOf];omega
      ·have hnn:((t:Int) != (k:Int))=true:=by simp;omega
       have ok:=OK.out.vec k hkX
       obtain⟨pk,nk,ck,ek,hnk⟩:=ok.vec.opened
       rw[ek] at hck ok
       rw[MI.out.shape.row k hlt] at hnk
       obtain⟨gt,rfl,z1,hcx,z2,hx256,z3,z4⟩:=ot.spot (k:=k) (by rw[MI.out.shape.row t htl];omega)
       clear z1 z2 z3 z4
       obtain⟨gk,rfl,z1,z2,z3,z4,z5,z6⟩:=ok.spot (k:=0) (by rw[MI.out.shape.row k hlt];omega)
       clear z1 z2 z3 z4 z5 z6
       have ap:=SP.out k t (by have:=OK.out.same;omega) (by have:=OK.out.same;omega) (fun e=>hne e.symm)
       rw[ek,et] at ap
       have MI':Hid (Mid N2 (at2 X) k (t+1) (struck X3 t k)):=MI.out.strike htl hne
       have hlo:=ot.lo gt rfl
       have AD:Hid (∀ r1 r2 r3 w',r1=Value.slice (some ⟨gt,k,none⟩) (nt - k) (ct - k)->r2=Value.slice (some ⟨gk,k,none⟩) (nk - k) (ck - k)->r3=Value.int .u8 (((X3.getD t []).getD k 0:Nat):Int)->wr.grownBy w' none->Calls Tryz.prog 167 #[r1,r2,r3] w' fun e w''=>e=.returned (.tuple #[]) /\
        OwnMat w.heap.size w'' (.slice (some ⟨g,0,none⟩) N2 cap2) us2 (struck X3 t k)/\w.grownBy w'' none):=fun r1 r2 r3 w' e1 e2 e3 g'=>by
        subst e1 e2 e3
        have hv:=(ok.keep g').vec.tail (k:=k) (by omega)
        rw[Nat.zero_add] at hv
        have hr1:=MI.out.shape.row t htl
        have hr2:=MI.out.shape.row k hlt
        refine (addTimes_any (o:=k) (n:=nt - k) hx256 (ot.keep g') hv (by rw[List.length_drop];omega) (by rw[List.length_drop];omega) ap).mono ?_
        rintro e w'' ⟨rfl,ho,hg⟩
        refine⟨rfl,?_,grown_new (grown_trans GK.out g') hg (fun i e=>by have:=Option.some.inj e;omega)⟩
        refine (OK.out.keep g').rowSet SP.out htX ?_ ?_
        ·rw[et];exact ho
        ·rw[et];exact hg
       generalize struck X3 t k=X4 at *
       generalize (X3.getD t []).getD k 0=x at *
       have j1:(k:Int) < (nt:Int):=by omega
       have j2:(k:Int)<=(nt:Int):=by omega
       have j3:(k:Int)<=(nk:Int):=by omega
       have j6:(k:Int) < (nk:Int):=by omega
       have hct2:nt<=ct:=by
        obtain⟨p3,c3,e3,l3,_⟩:=ot.vec.form
        injection e3 with _ e4 e5
        omega
       have hck2:nk<=ck:=by
        obtain⟨p3,c3,e3,l3,_⟩:=ok.vec.form
        injection e3 with _ e4 e5
        omega
       have j4:(nt:Int)<=(ct:Int):=by omega
       have j5:(nk:Int)<=(ck:Int):=by omega
       clear OK GK MI ot ok et ek hnt hnk ap hlo htX hkX hne hct2 hck2
       go_wp2_with fail
       go_region_with (go_at_call 167;refine (AD.out _ _ _ _ (by first | with_reducible rfl | (simp;omega)) (by first | with_reducible rfl | (simp;omega)) (by with_reducible rfl) (by first | exact grown_drewN _ 1 | exact World.grownBy.refl _ _)).mono ?_;rintro e w3 ⟨rfl,ho,hg⟩;have HO:Hid (OwnMat w.heap.size w3 (.slice (some ⟨g,0,none⟩) N2 cap2) us2 X4):=ho;have HG:Hid (w.grownBy w3 none):=hg;clear ho hg)
       all_goals
        go_wp2
        go_roundw
        case rel=>exact⟨t+1,X4,by omega,by go_num,HO.out,MI'.out,HG.out⟩
        case measure=>simp[intOf];omega
     ·have htn:t=N2:=by omega
      subst htn
      go_wp2_with fail
      go_roundw
      case rel=>exact⟨k+1,us2,X3,by omega,by go_num,OK.out,SP.out,MI.out.work,GK.out⟩
      case measure=>simp[intOf];omega
   ·have RN:Hid (∀ r1 r2,r1=Value.slice (some ⟨g,0,none⟩) N2 cap2->r2=Value.int .i64 (k:Int)->Calls Tryz.prog 166 #[r1,r2] wr fun e w'=>e=.panicked noInverseChain/\w.grownBy w' none):=fun r1 r2 e1 e2=>by
     subst e1 e2
     exact raise_no OK.out WK.out.shape h2 hlt hz GK.out
    have NI:Hid (NoInv N2 (at2 X)):=WK.out.none hlt hz
    clear OK SP WK GK hz
    go_wp2_with (go_at_call 166;refine (RN.out _ _ (by with_reducible rfl) (by with_reducible rfl)).mono ?_;rintro e w2 ⟨rfl,g2⟩;have GK:Hid (w.grownBy w2 none):=g2;clear g2)
    exact⟨rfl,GK.out,.inr ⟨rfl,NI.out⟩⟩
  ·have hkn:N2=k:=by omega
   subst hkn
   obtain⟨wa,hwa⟩:∃ wa,wa=wr:=⟨wr,rfl⟩
   subst hwa
   have IV:Hid (MX.Inv N2 (at2 X) (at2 (halfList X1 N2))/\Shape (halfList X1 N2) N2 N2/\Shape X1 N2 (2 * N2)):=⟨WK.out.done,half_shape WK.out.shape,WK.out.shape⟩
   have BL:Hid (∀ w,Calls Tryz.prog 168 #[.int .i64 (N2:Int),.int .i64 (N2:Int)] w fun e w'=>∃ v us,e=.returned v/\OwnMat w.heap.size w' v us (List.replicate N2 (List.replicate N2 0))/\Sep us/\w.grownBy w' none):=fun w=>blank_any N2 N2 w (by omega) (by omega)
   clear WK SP
   go_wp2_with (go_at_call 168;refine (BL.out _).mono ?_;rintro e w2 ⟨v,ur,rfl,om,sp,g2⟩;have OM:Hid (OwnMat wa.heap.size w2 v ur (List.replicate N2 (List.replicate N2 0))):=om;have SR:Hid (Sep ur):=sp;have G2:Hid (wa.grownBy w2 none):=g2;clear om sp g2)
   have OK2:Hid (OwnMat w.heap.size w2 (.slice (some ⟨g,0,none⟩) N2 cap2) us X1):=OK.out.keep G2.out
   have GK2:Hid (w.grownBy w2 none/\w.heap.size<=wa.heap.size):=⟨grown_trans GK.out G2.out,GK.out.size⟩
   have LO:Hid (∀ j,j < us.length->Hi wa.heap.size (us.getD j undef)):=OK.out.hiRow
   clear OK GK BL
   obtain⟨pr,nr,cr,rfl,hnr⟩:=OM.out.mat.row.opened
   have hnr2:nr=N2:=by have:=OM.out.same;simp at this;omega
   subst hnr2
   obtain⟨gr,rfl,hbr,q1,q2,q3,q4,q5⟩:=OM.out.place (k:=0) (by simp;omega)
   have HBR:Hid (wa.heap.size<=gr):=hbr
   clear q1 q2 q3 q4 q5 hnr hbr
   go_loopw [53] (fun ti wr=>∃ (t:Nat),t<=nr/\ti=.int .i64 t/\Hid (OwnMat w.heap.size wr (.slice (some ⟨g,0,none⟩) nr cap2) us X1)/\Hid (OwnMat wa.heap.size wr (.slice (some ⟨gr,0,none⟩) nr cr) ur (halfTo X1 nr t))/\Hid (w.grownBy wr none)) (fun ti _=>nr - (intOf ti).toNat)
   case atStart=>exact⟨0,by omega,rfl,OK2.out,by have h:=OM.out;rw[<- halfTo_zero X1 nr] at h;exact h,GK2.out.1⟩
   case round =>
    clear OK2 OM
    obtain⟨t,ht,rfl,OK,OR,GK⟩:=hrel
    by_cases htl:t < nr
    ·have i4:(t:Int) < (nr:Int):=by omega
     have i5:(0:Int)<=(t:Int):=by omega
     have htX:t < X1.length:=by rw[IV.out.2.2.len];exact htl
     have htY:t < (halfTo X1 nr t).length:=by rw[halfTo_len];exact htl
     obtain⟨g1,e1,z1,hct,z0,z2,z3,z4⟩:=OK.out.place (k:=t) htX
     obtain rfl:g=g1:=(by injection e1 with e1;injection e1 with e1)
     clear z0 z1 z2 z3 z4 e1
     obtain⟨g1,e1,z1,hcr,z0,z2,z3,z4⟩:=OR.out.place (k:=t) htY
     obtain rfl:gr=g1:=(by injection e1 with e1;injection e1 with e1)
     clear z0 z1 z2 z3 z4 e1
     have ot:=OK.out.vec t htX
     obtain⟨pt,nt,ct,et,hnt⟩:=ot.vec.opened
     rw[et] at hct ot
     rw[IV.out.2.2.row t htl] at hnt
     obtain⟨gt,rfl,z1,z2,z3,z4,z5,z6⟩:=ot.spot (k:=0) (by rw[IV.out.2.2.row t htl];omega)
     clear z1 z2 z3 z4 z5 z6
     have od:=OR.out.vec t htY
     rw[halfTo_get _ _ _ htl] at od
     obtain⟨pd,nd,cd,ed,hnd⟩:=od.vec.opened
     rw[ed] at hcr od
     simp only[List.length_replicate] at hnd
     obtain⟨gd,rfl,z1,z2,z3,z4,z5,z6⟩:=od.spot (k:=0) (by simp;omega)
     clear z1 z2 z3 z4 z5 z6
     have hlo:=od.lo gd rfl
     have hdl:((X1.getD t []).drop nr).length=nr:=by rw[List.length_drop,IV.out.2.2.row t htl];omega
     have hv:=ot.vec.tail (k:=nr) (by omega)
     rw[Nat.zero_add] at hv
     have HV:Hid (∀ s,s=Value.slice (some ⟨gt,nr,none⟩) (nt - nr) (ct - nr)->Vec wr.drew s ((X1.getD t []).drop nr)):=fun s e=>by subst e;exact hv.keep (grown_drewN _ 1)
     have HD:Hid (Own wa.heap.size wr.drew (.slice (some ⟨gd,0,none⟩) nd cd) (List.replicate nr 0)):=od.keep (grown_drewN _ 1)
     have HDL:Hid (((X1.getD t []).drop nr).length=nr):=hdl
     have ST:Hid (∀ w3,Own wa.heap.size w3 (.slice (some ⟨gd,0,none⟩) nd cd) ((X1.getD t []).drop nr++(List.replicate nr 0).drop ((X1.getD t []).drop nr).length)->wr.drew.grownBy w3 (some gd) ->
      OwnMat w.heap.size w3 (.slice (some ⟨g,0,none⟩) nr cap2) us X1/\OwnMat wa.heap.size w3 (.slice (some ⟨gr,0,none⟩) nr cr) ur (halfTo X1 nr (t+1))/\w.grownBy w3 none/\w3.cell? ⟨gr,t,none⟩=some (.slice (some ⟨gd,0,none⟩) nd cd)):=fun w3 o3 g3=>by
      have e0:(List.replicate nr 0).drop ((X1.getD t []).drop nr).length=[]:=by rw[hdl,List.drop_replicate,Nat.sub_self];rfl
      rw[e0,List.append_nil] at o3
      have om3:=(OR.out.keep (grown_drewN _ 1)).rowSet SR.out htY (by rw[ed];exact o3) (by rw[ed];exact g3)
      rw[halfTo_set] at om3
      have hsz:=GK2.out.2
      have okd:=OK.out.keep (grown_drewN wr 1)
      refine⟨⟨okd.len,okd.row.kept g3 ?_,okd.same,fun j hj=>(okd.vec j hj).kept g3 ?_⟩,om3,grown_new (grown_trans GK.out (grown_drewN _ 1)) g3 (fun i e=>by have:=Option.some.inj e;omega),?_⟩
      ·exact Ap.symm (show Ap (.slice (some ⟨gd,0,none⟩) nd cd) (.slice (some ⟨g,0,none⟩) nr cap2) from apart_kinds okd.row (od.keep (grown_drewN _ 1)))
      ·exact apart_of (LO.out j (by have:=okd.same;omega)) (show Lo wa.heap.size (.slice (some ⟨gd,0,none⟩) nd cd) from od.lo)
      ·obtain⟨g1,e1,z1,hc3,z0,z2,z3,z4⟩:=om3.place (k:=t) (by rw[halfTo_len];exact htl)
       obtain rfl:gr=g1:=(by injection e1 with e1;injection e1 with e1)
       rw[ed] at hc3
       exact hc3
     have hct2:nt<=ct:=by
      obtain⟨p3,c3,e3,l3,_⟩:=ot.vec.form
      injection e3 with _ e4 e5
      omega
     have j1:(nr:Int) < (nt:Int):=by omega
     have j2:(nr:Int)<=(nt:Int):=by omega
     have j4:(nt:Int)<=(ct:Int):=by omega
     have j5:(0:Int)<=(nr:Int):=by omega
     have HC:Hid (wr.drew.cell? ⟨gr,t,none⟩=some (.slice (some ⟨gd,0,none⟩) nd cd)):=hcr
     clear OK OR GK ot od et ed hnt hnd hlo htX htY hct2 hdl hv
     go_wp2_with fail
     go_region_held3 (fun w'=>w'.cell? ⟨gr,t,none⟩=some (.slice (some ⟨gd,0,none⟩) nd cd)) (first | exact HC.out | exact HC3.out) (first | (refine step_copy_into (by rfl) _ _ (by rfl) _ _ (by rfl) (by rfl) HD.out (HV.out _ (by first | with_reducible rfl | (simp[Act.eval];done) | (simp[Act.eval];omega))) (by have:=HDL.out;rw[List.length_replicate];omega) (by have:=HDL.out;omega) ?_;intro w3 o3 g3;obtain⟨h5,h6,h7,h8⟩:=ST.out w3 o3 g3;have HC3:Hid (w3.cell? ⟨gr,t,none⟩=some (.slice (some ⟨gd,0,none⟩) nd cd)):=h8;have HO:Hid (OwnMat w.heap.size w3 (.slice (some ⟨g,0,none⟩) nr cap2) us X1):=h5;have HR:Hid (OwnMat wa.heap.size w3 (.slice (some ⟨gr,0,none⟩) nr cr) ur (halfTo X1 nr (t+1))):=h6;have HG:Hid (w.grownBy w3 none):=h7;clear o3 g3 h5 h6 h7 h8))
     all_goals
      go_wp2
      go_roundw
      case rel=>exact⟨t+1,by omega,by go_num,HO.out,HR.out,HG.out⟩
      case measure=>simp[intOf];omega
    ·have htn:t=nr:=by omega
     subst htn
     go_wp2
     go_ret
     refine⟨GK.out,.inl ⟨_,ur,halfList X1 t,rfl,?_,SR.out,IV.out.2.1,IV.out.1⟩⟩
     have h:=OR.out
     rw[halfTo_all] at h
     exact h.down GK2.out.2
theorem catch_idle (p q:Addr) (w:World) :
 CallsD Tryz.prog 164 #[.pointer (some p),.pointer (some q)] .returning w fun e u' w'=>e=.returned (.tuple #[])/\u'=.returning/\w'=w:=by
 refine callsD_of_wpS Tryz.func164 rfl fun c₀ cs hu=>?_
 apply wpS_seq
 apply wpS_region
 simp[wpOpsS,go_sem,recoverD,hu,Tryz.ntmps164,Exit.thenS]
 refine wpS_of_wp ?_
 change Code.wp _ _ _ { tmps:=#[.pointer (some p),.pointer (some q),.nilIface,undef,undef,.nilIface,undef,undef,undef,undef,undef,undef,undef,undef,undef,undef],defers:=[] } _
 go_wp2
 cases c₀
 simp_all [bodyPostS,results,Tryz.results164]
theorem alloc_cell {w:World} {a:Addr} {v:Value} (o:Obj) (h:w.cell? a=some v):(w.alloc o).cell? a=some v:=(World.grownBy_alloc w o none).cell h (by simp)
theorem alloc_frozen {w:World} {a:Addr} {v:Value} (o:Obj) (h:w.cell? a=some v) (f:w.frozen? a=false):(w.alloc o).frozen? a=false :=
 (World.frozen?_of_block ((World.grownBy_alloc w o none).block a.block (World.block_lt_of_cell? w a h) (by simp))).trans f
structure Ans (n:Nat) (X:List (List Nat)) (w w':World) (v:Value) (us:List Value) (Y:List (List Nat)):Prop where
 om:OwnMat w.heap.size w' v us Y
 sep:Sep us
 shape:Shape Y n n
 inv:MX.Inv n (at2 X) (at2 Y)
 grown:w.grownBy w' none
theorem solve_yes {w:World} {m:Value} {vs:List Value} {X:List (List Nat)} {n:Nat} (mr:Mat w m vs X) (hs:Shape X n n) (h1:1<=n) (h2:n<=255) (hi:¬ NoInv n (at2 X)) :
 Calls Tryz.prog 160 #[m] w fun e w'=>∃ p k c us Y,e=.returned (.slice p k c)/\Ans n X w w' (.slice p k c) us Y :=
 (solve_any mr hs h1 h2).mono fun e w' h=>by
   rcases h with ⟨g,⟨v,us,Y,rfl,om,sp,sh,iv⟩ | ⟨_,no⟩⟩
   ·obtain⟨p,k,c,rfl,_⟩:=om.mat.row.opened
    exact⟨p,k,c,us,Y,rfl,om,sp,sh,iv,g⟩
   ·exact absurd no hi
theorem inner_yes {w:World} {ga:Nat} {m:Value} {vs:List Value} {X:List (List Nat)} {n:Nat} (hc:w.cell? ⟨ga,0,none⟩=some m) (mr:Mat w m vs X) (hs:Shape X n n) (h1:1<=n) (h2:n<=255) (hi:¬ NoInv n (at2 X)) :
 Calls Tryz.prog 159 #[.pointer (some ⟨ga,0,none⟩)] w fun e w'=>∃ p k c us Y,e=.returned (.slice p k c)/\Ans n X w w' (.slice p k c) us Y:=by
 obtain⟨q,N,cap,rfl,hN⟩:=mr.row.opened
 have SO:Hid (∀ r,r=Value.slice q N cap->Calls Tryz.prog 160 #[r] w fun e w'=>∃ p k c us Y,e=.returned (.slice p k c)/\Ans n X w w' (.slice p k c) us Y):=fun r e=>e ▸ solve_yes mr hs h1 h2 hi
 clear hN mr hs hi
 go_enter Tryz.func159,Tryz.ntmps159
 go_wp2_with (go_at_call 160;refine (SO.out _ (by with_reducible rfl)).mono ?_;rintro e w1 ⟨p,k,c,us,Y,rfl,an⟩;have AN:Hid (Ans n X w w1 (.slice p k c) us Y):=an;clear an)
 go_ret
 exact⟨p,k,c,us,Y,rfl,AN.out⟩
theorem OwnMat.keptLow {B r:Nat} {w w':World} {v:Value} {us:List Value} {X:List (List Nat)} (h:OwnMat B w v us X) (hr:r < B) (g:w.grownBy w' (some r)):OwnMat B w' v us X:=by
 have ap:∀ u:Value,Lo B u->u.ownBlock=none\/u.ownBlock ≠ some r:=fun u hu=>by
  cases hk:u.ownBlock with
  | none=>exact .inl rfl
  | some k=>exact .inr fun e=>by have:=hu k hk;have:=Option.some.inj e;omega
 exact⟨h.len,h.row.kept g (ap _ h.lo),h.same,fun j hj=>(h.vec j hj).kept g (ap _ (h.vec j hj).lo)⟩
theorem cellOf_alloc (w:World) (x:Value) (t:TypeId):(w.alloc (.cells #[x] t)).cell? ⟨w.heap.size,0,none⟩=some x/\(w.alloc (.cells #[x] t)).frozen? ⟨w.heap.size,0,none⟩=false:=by
 have h:=heap_alloc_new w (.cells #[x] t)
 exact⟨by unfold World.cell?;rw[h];rfl,by unfold World.frozen?;rw[h];rfl⟩
theorem grown_frozen {w w':World} (g:w.grownBy w' none) {a:Addr} {v:Value} (h:w.cell? a=some v) (f:w.frozen? a=false):w'.frozen? a=false :=
 (World.frozen?_of_block (g.block a.block (World.block_lt_of_cell? w a h) (by simp))).trans f
theorem grown_set (w:World) (g k:Nat) (v:Value):w.grownBy (w.setCell ⟨g,k,none⟩ v) (some g):=⟨rfl,rfl,rfl,by simp,fun i hi hne=>Below.heap_setCell _ _ _ _ (by simpa using hne)⟩
abbrev att (w:World):World:=(w.alloc (.cells #[.slice none 0 0] 178)).alloc (.cells #[.int .i64 0] 47)
theorem att_facts {w w2:World} (g:(att w).grownBy w2 none):w2.cell? ⟨w.heap.size,0,none⟩=some (.slice none 0 0)/\w2.frozen? ⟨w.heap.size,0,none⟩=false/\w2.cell? ⟨w.heap.size+1,0,none⟩=some (.int .i64 0)/\w2.frozen? ⟨w.heap.size+1,0,none⟩=false:=by
 have c1:=cellOf_alloc w (.slice none 0 0) 178
 have c2:=cellOf_alloc (w.alloc (.cells #[.slice none 0 0] 178)) (.int .i64 0) 47
 rw[World.size_alloc] at c2
 have d1:=alloc_cell (.cells #[.int .i64 0] 47) c1.1
 have d2:=alloc_frozen (.cells #[.int .i64 0] 47) c1.1 c1.2
 exact⟨g.cell d1 (by simp),grown_frozen g d1 d2,g.cell c2.1 (by simp),grown_frozen g c2.1 c2.2⟩
set_option maxHeartbeats 1600000 in
theorem attempt_yes {w:World} {ga:Nat} {m:Value} {vs:List Value} {X:List (List Nat)} {n:Nat} (hc:w.cell? ⟨ga,0,none⟩=some m) (mr:Mat w m vs X) (hs:Shape X n n) (h1:1<=n) (h2:n<=255) (hi:¬ NoInv n (at2 X)) :
 Calls Tryz.prog 158 #[.func (.func 159) #[] #[.pointer (some ⟨ga,0,none⟩)]] w fun e w'=>∃ p k c us Y,e=.returned (.tuple #[.slice p k c,.int .i64 0])/\Ans n X w w' (.slice p k c) us Y:=by
 have hmf:∀ (fn:Fn) (first cap:Array Value) (w:World),(Instr.makeFunc fn first cap).run Tryz.prog w=.ok (.func fn first cap) w:=fun _ _ _ _=>rfl
 have IN:Hid (Calls Tryz.prog 159 #[.pointer (some ⟨ga,0,none⟩)] (att w) fun e w'=>∃ p k c us Y,e=.returned (.slice p k c)/\Ans n X (att w) w' (.slice p k c) us Y) :=
  inner_yes (alloc_cell _ (alloc_cell _ hc)) ((mr.keep (World.grownBy_alloc _ _ none)).keep (World.grownBy_alloc _ _ none)) hs h1 h2 hi
 clear hc mr hs hi
 go_enter_defers Tryz.func158,Tryz.ntmps158
 go_wp2_with (go_at_call 159;refine IN.out.mono ?_;rintro e w2 ⟨p,k,c,us,Y,rfl,an⟩;obtain⟨f1,f2,f3,f4⟩:=att_facts an.grown;have AN:Hid (Ans n X (att w) w2 (.slice p k c) us Y):=an;clear an)
 have R:Hid (Ans n X w ((w2.setCell ⟨w.heap.size,0,none⟩ (.slice p k c)).setCell ⟨w.heap.size+1,0,none⟩ (.int .i64 0)) (.slice p k c) us Y):=by
  obtain⟨om,sp,sh,iv,gr⟩:=AN.out
  have hsz:(att w).heap.size=w.heap.size+2:=by simp[att]
  have g0:w.grownBy (att w) none:=grown_trans (World.grownBy_alloc _ _ none) (World.grownBy_alloc _ _ none)
  refine⟨((om.keptLow (by omega) (grown_set _ _ _ _)).keptLow (by omega) (grown_set _ _ _ _)).down (by omega),sp,sh,iv,?_⟩
  exact grown_new (grown_new (grown_trans g0 gr) (grown_set _ _ _ _) (fun i e=>by have:=Option.some.inj e;omega)) (grown_set _ _ _ _) (fun i e=>by have:=Option.some.inj e;omega)
 have k1:((w2.setCell ⟨w.heap.size,0,none⟩ (.slice p k c)).setCell ⟨w.heap.size+1,0,none⟩ (.int .i64 0)).cell? ⟨w.heap.size,0,none⟩=some (.slice p k c):=by
  rw[World.cell?_setCell_other _ _ _ _ (by simp),World.cell?_setCell_same _ _ _ f1]
 have k2:((w2.setCell ⟨w.heap.size,0,none⟩ (.slice p k c)).setCell ⟨w.heap.size+1,0,none⟩ (.int .i64 0)).cell? ⟨w.heap.size+1,0,none⟩=some (.int .i64 0):=by
  rw[World.cell?_setCell_same _ _ _ (by rw[World.cell?_setCell_other _ _ _ _ (by simp)];exact f3)]
 clear AN IN f1 f2 f3 f4
 generalize (w2.setCell ⟨w.heap.size,0,none⟩ (.slice p k c)).setCell ⟨w.heap.size+1,0,none⟩ (.int .i64 0)=w3 at *
 refine leaves_cons (f:=164) (args:=#[.pointer (some ⟨w.heap.size,0,none⟩),.pointer (some ⟨w.heap.size+1,0,none⟩)]) (by simp) (by simp[go_sem]) ?_
 refine (catch_idle _ _ _).mono ?_
 rintro e u' w'' ⟨rfl,rfl,rfl⟩
 refine⟨.tuple #[.slice p k c,.int .i64 0],by simp[results,go_sem,k1,k2],p,k,c,us,Y,rfl,R.out⟩
abbrev boxed (w:World) (m:Value):World:=w.alloc (.cells #[m] 178)
set_option maxHeartbeats 1600000 in
theorem invert_ok {w:World} {m:Value} {vs:List Value} {X:List (List Nat)} (mr:Mat w m vs X) (hx:mayB X=true) (hsq:X.length=(X.getD 0 []).length) {R:Ending->World->Prop}
 (h:Calls Tryz.prog 158 #[.func (.func 159) #[] #[.pointer (some ⟨w.heap.size,0,none⟩)]] (boxed w m).drew fun e w'=>∃ a b,e=.returned (.tuple #[a,b])/\R e w') :
 Calls Tryz.prog 146 #[m] w fun e w'=>R e w':=by
 have hmf:∀ (fn:Fn) (first cap:Array Value) (w:World),(Instr.makeFunc fn first cap).run Tryz.prog w=.ok (.func fn first cap) w:=fun _ _ _ _=>rfl
 obtain⟨q,N,cap,rfl,hN⟩:=mr.row.opened
 have hb:=(cellOf_alloc w (.slice q N cap) 178).1
 have MA:∀ w',w.grownBy w' none->Calls Tryz.prog 157 #[.slice q N cap] w' fun e w''=>e=.returned (.bool (mayB X))/\w''=w':=fun w' g=>may_any (mr.keep g)
 have G1:Hid (w.grownBy (w.alloc (.cells #[.slice q N cap] 178)).drew none):=grown_trans (World.grownBy_alloc _ _ none) (grown_drewN _ 1)
 rw[hx] at MA
 have HA:Hid (∀ r w',r=Value.slice q N cap->w.grownBy w' none->Calls Tryz.prog 157 #[r] w' fun e w''=>e=.returned (.bool true)/\w''=w'):=fun r w' e g=>e ▸ MA w' g
 have sx:=may_spec hx
 have hsa:=mr.same
 obtain⟨b0,off,rfl,hc⟩:=mr.row.spot (k:=0) (by omega)
 obtain⟨p0,n0,c0,e0,hn0⟩:=(mr.vec 0 (by omega)).opened
 rw[e0] at hc
 have hc1:=alloc_cell (.cells #[.slice (some ⟨b0,off,none⟩) N cap] 178) (show w.cell? ⟨b0,off,none⟩=some (.slice p0 n0 c0) from hc)
 have hpos:(0:Int) < (N:Int):=by omega
 have hposN:0 < N:=by omega
 have hposZ:(0:Int)<=0:=by omega
 have hne:((N:Int) != (n0:Int))=false:=by simp;omega
 have AT:Hid (∀ r,r=Value.func (.func 159) #[] #[.pointer (some ⟨w.heap.size,0,none⟩)]->Calls Tryz.prog 158 #[r] (w.alloc (.cells #[.slice (some ⟨b0,off,none⟩) N cap] 178)).drew fun e w'=>∃ a b,e=.returned (.tuple #[a,b])/\R e w'):=fun r e=>e ▸ h
 clear MA hN h mr hc e0 hn0 hsa sx hsq
 go_enter Tryz.func146,Tryz.ntmps146
 go_wp2_with fail
 go_region_held3 (fun w'=>w'.cell? ⟨w.heap.size,0,none⟩=some (.slice (some ⟨b0,off,none⟩) N cap)/\w'.cell? ⟨b0,off,none⟩=some (.slice p0 n0 c0)) (exact⟨hb,hc1⟩) (first | (go_at_call 157;refine (HA.out _ _ (by with_reducible rfl) G1.out).mono ?_;rintro e w1 ⟨rfl,hw⟩;obtain rfl:=hw.symm;clear hw))
 all_goals
  go_wp2_with (go_at_call 158;refine (AT.out _ (by with_reducible rfl)).mono ?_;rintro e w1 ⟨ra,rb,rfl,hr⟩;have HR:Hid (R (.returned (.tuple #[ra,rb])) w1):=hr;clear hr)
  exact HR.out
theorem invert_yes {w:World} {m:Value} {vs:List Value} {X:List (List Nat)} (mr:Mat w m vs X) (hx:mayB X=true) (hsq:X.length=(X.getD 0 []).length) (hi:¬ NoInv X.length (at2 X)) :
 Calls Tryz.prog 146 #[m] w fun e w'=>∃ p k c us Y,e=.returned (.tuple #[.slice p k c,.int .i64 0])/\Ans X.length X w w' (.slice p k c) us Y:=by
 have sx:=may_spec hx
 have hs:Shape X X.length X.length:=by have:=sx.2.2.2.2;rw[<- hsq] at this;exact this
 have g1:w.grownBy (boxed w m).drew none:=grown_trans (World.grownBy_alloc _ _ none) (grown_drewN _ 1)
 refine invert_ok mr hx hsq (R:=fun e w'=>∃ p k c us Y,e=.returned (.tuple #[.slice p k c,.int .i64 0])/\Ans X.length X w w' (.slice p k c) us Y) ?_
 refine (attempt_yes (m:=m) (show (boxed w m).drew.cell? _=_ from (cellOf_alloc w m 178).1) (mr.keep g1) hs sx.1 sx.2.1 hi).mono ?_
 rintro e w' ⟨p,k,c,us,Y,rfl,an⟩
 exact⟨_,_,rfl,p,k,c,us,Y,rfl,⟨an.om.down g1.size,an.sep,an.shape,an.inv,grown_trans g1 an.grown⟩⟩
theorem gd_of (xs:List Nat) {j:Nat} (h:j < xs.length):xs.getD j 0=xs[j]:=by simp[List.getD,h]
theorem lit_row {w:World} (xs:List Nat) (hx:∀ x ∈ xs,x < 256) (hl:xs.length<=1000):Own w.heap.size (w.alloc (.cells (xs.map bv).toArray 5)) (.slice (some ⟨w.heap.size,0,none⟩) xs.length xs.length) xs :=
 own_lit (heap_new _ _ _ rfl) (Nat.le_refl _) rfl hx (by omega)
end Go.Proofs.YtaalagkbpeinkaaGreat
