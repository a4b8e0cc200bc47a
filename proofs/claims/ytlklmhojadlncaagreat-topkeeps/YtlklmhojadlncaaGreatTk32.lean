/- Packed: TMd9, TopW9. -/
import Derived.Test.YtlklmhojadlncaaGreatTk31
set_option linter.unusedSimpArgs false
set_option linter.unusedVariables false
set_option maxRecDepth 100000
namespace Go.Proofs.YtlklmhojadlncaaGreat
open Go.RowKit
def wtL:List Nat:=[1,1,2,2,3,1,1]
def dkL:List Nat:=[0,3,0,3,0,1,2]
def actL (i:Nat):ActR9:=⟨wtL.getD i 0,0,dkL.getD i 0,0,0,.slice none 0 0,[]⟩
def onL (i:Nat):List Bool:=[[true,true,true,true,true],[false,true,true,true,true],[false,true,true,false,true],[true,true,true,false,true],[true,true,true,true,true],[true,true,true,true,true],[true,false,true,true,true],[true,false,false,true,true]].getD i []
def zL (i:Nat):List Bool:=[[false,false,false,false,false],[true,false,false,false,false],[true,false,false,true,false],[true,false,false,true,false],[true,false,false,true,false],[false,false,false,false,false],[false,true,false,false,false],[false,true,true,false,false]].getD i []
def row42:Array Value:=#[.int .u8 1,.int .u8 0,.int .u8 0,.int .u8 0,.int .u8 0,.slice none 0 0,.int .u8 1,.int .u8 0,.int .u8 3,.int .u8 0,.int .u8 0,.slice none 0 0,.int .u8 2,.int .u8 0,.int .u8 0,.int .u8 0,.int .u8 0,.slice none 0 0,.int .u8 2,.int .u8 0,.int .u8 3,.int .u8 0,.int .u8 0,.slice none 0 0,.int .u8 3,.int .u8 0,.int .u8 0,.int .u8 0,.int .u8 0,.slice none 0 0,.int .u8 1,.int .u8 0,.int .u8 1,.int .u8 0,.int .u8 0,.slice none 0 0,.int .u8 1,.int .u8 0,.int .u8 2,.int .u8 0,.int .u8 0,.slice none 0 0]
theorem actL_range {w:World} {b:Nat} (hb:w.heap[b]?=some (.cells row42 28 (0,0))):∀ i,i < 7->w.rangeAt b (0+i * 6) (acells9 (actL i)):=fun i hi=>by
 match i,hi with
 | 0,_ =>
   intro j u hj
   have hj6:j < 6:=(List.getElem?_eq_some_iff.1 hj).1
   match j,hj6 with
   | 0,_=>exact (topCell (j:=0) hb rfl).trans hj
   | 1,_=>exact (topCell (j:=1) hb rfl).trans hj
   | 2,_=>exact (topCell (j:=2) hb rfl).trans hj
   | 3,_=>exact (topCell (j:=3) hb rfl).trans hj
   | 4,_=>exact (topCell (j:=4) hb rfl).trans hj
   | 5,_=>exact (topCell (j:=5) hb rfl).trans hj
 | 1,_ =>
   intro j u hj
   have hj6:j < 6:=(List.getElem?_eq_some_iff.1 hj).1
   match j,hj6 with
   | 0,_=>exact (topCell (j:=6) hb rfl).trans hj
   | 1,_=>exact (topCell (j:=7) hb rfl).trans hj
   | 2,_=>exact (topCell (j:=8) hb rfl).trans hj
   | 3,_=>exact (topCell (j:=9) hb rfl).trans hj
   | 4,_=>exact (topCell (j:=10) hb rfl).trans hj
   | 5,_=>exact (topCell (j:=11) hb rfl).trans hj
 | 2,_ =>
   intro j u hj
   have hj6:j < 6:=(List.getElem?_eq_some_iff.1 hj).1
   match j,hj6 with
   | 0,_=>exact (topCell (j:=12) hb rfl).trans hj
   | 1,_=>exact (topCell (j:=13) hb rfl).trans hj
   | 2,_=>exact (topCell (j:=14) hb rfl).trans hj
   | 3,_=>exact (topCell (j:=15) hb rfl).trans hj
   | 4,_=>exact (topCell (j:=16) hb rfl).trans hj
   | 5,_=>exact (topCell (j:=17) hb rfl).trans hj
 | 3,_ =>
   intro j u hj
   have hj6:j < 6:=(List.getElem?_eq_some_iff.1 hj).1
   match j,hj6 with
   | 0,_=>exact (topCell (j:=18) hb rfl).trans hj
   | 1,_=>exact (topCell (j:=19) hb rfl).trans hj
   | 2,_=>exact (topCell (j:=20) hb rfl).trans hj
   | 3,_=>exact (topCell (j:=21) hb rfl).trans hj
   | 4,_=>exact (topCell (j:=22) hb rfl).trans hj
   | 5,_=>exact (topCell (j:=23) hb rfl).trans hj
 | 4,_ =>
   intro j u hj
   have hj6:j < 6:=(List.getElem?_eq_some_iff.1 hj).1
   match j,hj6 with
   | 0,_=>exact (topCell (j:=24) hb rfl).trans hj
   | 1,_=>exact (topCell (j:=25) hb rfl).trans hj
   | 2,_=>exact (topCell (j:=26) hb rfl).trans hj
   | 3,_=>exact (topCell (j:=27) hb rfl).trans hj
   | 4,_=>exact (topCell (j:=28) hb rfl).trans hj
   | 5,_=>exact (topCell (j:=29) hb rfl).trans hj
 | 5,_ =>
   intro j u hj
   have hj6:j < 6:=(List.getElem?_eq_some_iff.1 hj).1
   match j,hj6 with
   | 0,_=>exact (topCell (j:=30) hb rfl).trans hj
   | 1,_=>exact (topCell (j:=31) hb rfl).trans hj
   | 2,_=>exact (topCell (j:=32) hb rfl).trans hj
   | 3,_=>exact (topCell (j:=33) hb rfl).trans hj
   | 4,_=>exact (topCell (j:=34) hb rfl).trans hj
   | 5,_=>exact (topCell (j:=35) hb rfl).trans hj
 | 6,_ =>
   intro j u hj
   have hj6:j < 6:=(List.getElem?_eq_some_iff.1 hj).1
   match j,hj6 with
   | 0,_=>exact (topCell (j:=36) hb rfl).trans hj
   | 1,_=>exact (topCell (j:=37) hb rfl).trans hj
   | 2,_=>exact (topCell (j:=38) hb rfl).trans hj
   | 3,_=>exact (topCell (j:=39) hb rfl).trans hj
   | 4,_=>exact (topCell (j:=40) hb rfl).trans hj
   | 5,_=>exact (topCell (j:=41) hb rfl).trans hj
theorem actL_ok (w:World) (i:Nat) (hi:i < 7):ActOk9 w (actL i):=by
 match i,hi with
 | 0,_=>exact⟨by decide,by decide,by decide,by decide,by decide,⟨by simp[actL],by simp[actL],none,0,rfl,Nat.le_refl _,by decide,fun h=>absurd rfl h⟩⟩
 | 1,_=>exact⟨by decide,by decide,by decide,by decide,by decide,⟨by simp[actL],by simp[actL],none,0,rfl,Nat.le_refl _,by decide,fun h=>absurd rfl h⟩⟩
 | 2,_=>exact⟨by decide,by decide,by decide,by decide,by decide,⟨by simp[actL],by simp[actL],none,0,rfl,Nat.le_refl _,by decide,fun h=>absurd rfl h⟩⟩
 | 3,_=>exact⟨by decide,by decide,by decide,by decide,by decide,⟨by simp[actL],by simp[actL],none,0,rfl,Nat.le_refl _,by decide,fun h=>absurd rfl h⟩⟩
 | 4,_=>exact⟨by decide,by decide,by decide,by decide,by decide,⟨by simp[actL],by simp[actL],none,0,rfl,Nat.le_refl _,by decide,fun h=>absurd rfl h⟩⟩
 | 5,_=>exact⟨by decide,by decide,by decide,by decide,by decide,⟨by simp[actL],by simp[actL],none,0,rfl,Nat.le_refl _,by decide,fun h=>absurd rfl h⟩⟩
 | 6,_=>exact⟨by decide,by decide,by decide,by decide,by decide,⟨by simp[actL],by simp[actL],none,0,rfl,Nat.le_refl _,by decide,fun h=>absurd rfl h⟩⟩
theorem actL_step {R R':AM.Raw} {Z Z':List Bool} (i:Nat) (hi:i < 7) (tp:TurnP ⟨3,5,3,0⟩ (actL i).what ((actL i).disk % 5) R Z R' Z') (ho:∀ d:Nat,d < 5->R.on (d:Int)=(onL i).getD d false) (hz:Z=zL i) :
 (∀ d:Nat,d < 5->R'.on (d:Int)=(onL (i+1)).getD d false)/\Z'=zL (i+1):=by
 match i,hi with
 | 0,_ =>
   subst hz
   obtain⟨a1,a2⟩:=tp.lose rfl (by decide)
   refine⟨fun e he=>?_,a2⟩
   rw[a1 e,ho e he]
   match e,he with
   | 0,_=>rfl
   | 1,_=>rfl
   | 2,_=>rfl
   | 3,_=>rfl
   | 4,_=>rfl
 | 1,_ =>
   subst hz
   obtain⟨a1,a2⟩:=tp.lose rfl (by decide)
   refine⟨fun e he=>?_,a2⟩
   rw[a1 e,ho e he]
   match e,he with
   | 0,_=>rfl
   | 1,_=>rfl
   | 2,_=>rfl
   | 3,_=>rfl
   | 4,_=>rfl
 | 2,_ =>
   subst hz
   obtain⟨a1,a2⟩:=tp.rep rfl
   refine⟨fun e he=>?_,a2⟩
   rw[a1 e,ho e he]
   match e,he with
   | 0,_=>rfl
   | 1,_=>rfl
   | 2,_=>rfl
   | 3,_=>rfl
   | 4,_=>rfl
 | 3,_ =>
   subst hz
   obtain⟨a1,a2⟩:=tp.rep rfl
   refine⟨fun e he=>?_,a2⟩
   rw[a1 e,ho e he]
   match e,he with
   | 0,_=>rfl
   | 1,_=>rfl
   | 2,_=>rfl
   | 3,_=>rfl
   | 4,_=>rfl
 | 4,_ =>
   subst hz
   obtain⟨a1,a2⟩:=tp.mend rfl
   refine⟨fun e he=>(a1 e).trans (ho e he),?_⟩
   rw[a2]
   have h5:∀ d:Nat,d < 5->(!R.on (d:Int))=false:=fun d hd=>by
    rw[ho d hd]
    match d,hd with
    | 0,_=>rfl
    | 1,_=>rfl
    | 2,_=>rfl
    | 3,_=>rfl
    | 4,_=>rfl
   show [!R.on ((0:Nat):Int),!R.on ((1:Nat):Int),!R.on ((2:Nat):Int),!R.on ((3:Nat):Int),!R.on ((4:Nat):Int)]=_
   rw[h5 0 (by omega),h5 1 (by omega),h5 2 (by omega),h5 3 (by omega),h5 4 (by omega)]
   rfl
 | 5,_ =>
   subst hz
   obtain⟨a1,a2⟩:=tp.lose rfl (by decide)
   refine⟨fun e he=>?_,a2⟩
   rw[a1 e,ho e he]
   match e,he with
   | 0,_=>rfl
   | 1,_=>rfl
   | 2,_=>rfl
   | 3,_=>rfl
   | 4,_=>rfl
 | 6,_ =>
   subst hz
   obtain⟨a1,a2⟩:=tp.lose rfl (by decide)
   refine⟨fun e he=>?_,a2⟩
   rw[a1 e,ho e he]
   match e,he with
   | 0,_=>rfl
   | 1,_=>rfl
   | 2,_=>rfl
   | 3,_=>rfl
   | 4,_=>rfl
def MdS (w:Fr9) (wr:World) (x bq bz s a i:Nat):Prop:=∃ R xss st nx,Now 3 w wr x bq bz s a ⟨3,5,3,0⟩ R xss st (zL i) nx/\(∀ d:Nat,d < 5->R.on (d:Int)=(onL i).getD d false)/\4<=nx/\nx<=4+i
set_option maxHeartbeats 12800000 in
theorem mended_yes (w:World):Calls Tryz.prog 5 #[] w fun e w'=>e=.returned (.bool true)/\w.grownBy w' none:=by
 have HM:Hid (Calls Tryz.prog 4 #[.int .i64 3,.int .i64 2] w fun e w'=>∃ x,e=.returned (ptr x)/\KMade w w' x 3 5):=kmade_yes w (k:=3) (m:=2) (by omega) (by omega) (by omega) (by omega)
 obtain⟨ZR,hZR⟩:∃ ZR:Array Value,ZR=#[.int .u8 0,.int .u8 0,.int .u8 0,.int .u8 0,.int .u8 0,.slice none 0 0]:=⟨_,rfl⟩
 have hz0:=run_zeroAct9
 have HZV:Hid (∀ w,(zeroValue 28).run Tryz.prog w=.ok (.agg ZR) w):=fun w=>by rw[hZR];exact run_zeroAct9 w
 have HZ:Hid (ZR.size=6):=by show _=_;rw[hZR];rfl
 clear hZR
 go_enter Tryz.func5,Tryz.ntmps5
 go_wp2_with (go_at_call 4;refine HM.out.mono ?_;rintro e w1 ⟨x,rfl,hm⟩;have KM1:Hid (KMade w w1 x 3 5):=hm;clear hm)
 clear hz0
 obtain⟨w2,hw2⟩:∃ w2,w2=w1.alloc (.cells #[.int .u8 1,.int .u8 0,.int .u8 0,.int .u8 0,.int .u8 0,.slice none 0 0,.int .u8 1,.int .u8 0,.int .u8 3,.int .u8 0,.int .u8 0,.slice none 0 0,.int .u8 2,.int .u8 0,.int .u8 0,.int .u8 0,.int .u8 0,.slice none 0 0,.int .u8 2,.int .u8 0,.int .u8 3,.int .u8 0,.int .u8 0,.slice none 0 0,.int .u8 3,.int .u8 0,.int .u8 0,.int .u8 0,.int .u8 0,.slice none 0 0,.int .u8 1,.int .u8 0,.int .u8 1,.int .u8 0,.int .u8 0,.slice none 0 0,.int .u8 1,.int .u8 0,.int .u8 2,.int .u8 0,.int .u8 0,.slice none 0 0] 28):=⟨_,rfl⟩
 rw[<- hw2]
 obtain⟨b0,hb0⟩:∃ b0,b0=w1.heap.size:=⟨_,rfl⟩
 rw[<- hb0]
 obtain⟨bq,bz,s,a,R,xss,st,hn,ho⟩:=KM1.out
 obtain⟨fr,hfr⟩:∃ fr:Fr9,fr=⟨w,fun i=>if i=w1.heap.size then some (.cells row42 28) else none⟩:=⟨_,rfl⟩
 have HFR:Hid (fr.w=w/\fr.H b0=some (.cells row42 28)):=by rw[hfr,hb0];exact⟨rfl,by simp⟩
 have HX0:Hid (MdS fr w2 x bq bz s a 0):=by
  rw[hw2,hfr]
  exact⟨R,xss,st,4,hn.beside _,fun d hd=>by
   rw[ho d hd]
   match d,hd with
   | 0,_=>rfl
   | 1,_=>rfl
   | 2,_=>rfl
   | 3,_=>rfl
   | 4,_=>rfl,by omega,by omega⟩
 have hzv:=HZV.out
 clear hn ho hfr hw2 hb0 KM1 HM
 go_loopw [16] (fun ti wr=>∃ i:Nat,i<=7/\ti=.int .i64 (i:Int)/\Hid (MdS fr wr x bq bz s a i)) (fun ti _=>7 - (intOf ti).toNat)
 case atStart=>exact⟨0,by omega,rfl,HX0⟩
 case round =>
  clear HX0
  obtain⟨i,hi,rfl,HX⟩:=hrel
  by_cases hlt:i < 7
  ·have i1:(i:Int) < 7:=by omega
   have i2:(0:Int)<=(i:Int):=by omega
   obtain⟨R5,xss5,st5,nx5,n5,o5,l5,u5⟩:=HX.out
   have hrg:=actL_range (n5.stays HFR.out.2) i hlt
   have hok:=actL_ok wr i hlt
   rw[Nat.zero_add] at hrg
   obtain⟨AR,hla⟩:=laid9 hrg hok
   have HLA:Hid (Laid9 wr b0 (i * 6) wr.heap.size AR (actL i)):=hla
   have HTU:Hid (∀ W,wr.grownBy W none->Calls Tryz.prog 6 #[ptr x,.agg AR] W fun e w'=>e=.returned (.bool true)/\MdS fr w' x bq bz s a (i+1)):=fun W gr=>by
    rw[hla.ar]
    have hv0:Vec fr.w (.slice none 0 0) []:=⟨by simp,by simp,none,0,rfl,Nat.le_refl _,by decide,fun h=>absurd rfl h⟩
    refine ((n5.keep gr).turn (wt:=(actL i).what) (S:=(actL i).slot) (d:=(actL i).disk) (fz:=(actL i).fuse) (X:=(actL i).x) hok.slot hok.disk hok.fuse hok.x hv0 (by omega) (by omega)).mono ?_
    rintro e w' ⟨rfl,R',xss',st',Z',nx',tp,y1,y2,hn'⟩
    obtain⟨q1,q2⟩:=actL_step i hlt tp o5 rfl
    subst q2
    exact⟨rfl,R',xss',st',nx',hn',q1,by omega,by omega⟩
   obtain⟨cA,hcA⟩:∃ cA,cA=actL i:=⟨_,rfl⟩
   rw[<- hcA] at HLA
   clear hrg hla hok n5 o5 l5 u5 HX hcA
   go_wp2_with (first
    | (refine wpList_load_act9 rfl _ rfl rfl HLA.out ?_)
    | (refine wpList_load_act9 rfl _ rfl rfl HLB.out ?_)
    | (refine wpList_store_act9 rfl _ _ rfl HLA.out HZ.out rfl rfl rfl ?_;intro w9 hh hg;have HLB:Hid (Laid9 w9 wr.heap.size 0 wr.heap.size AR cA):=laid_var HLA.out hh hg;have HG9:Hid (wr.grownBy w9 none):=hg;clear hh hg)
    | (go_at_call 6;refine (HTU.out _ HG9.out).mono ?_;rintro e w10 ⟨rfl,n6⟩;have N6:Hid (MdS fr w10 x bq bz s a (i+1)):=n6;clear n6)
    | fail)
   go_roundw
   case rel=>exact⟨i+1,by omega,by go_num,N6⟩
   case measure=>simp[intOf];omega
  ·have i1:¬ (i:Int) < 7:=by omega
   obtain rfl:i=7:=by omega
   obtain⟨R5,xss5,st5,nx5,n5,o5,l5,u5⟩:=HX.out
   have N5:Hid (Now 3 fr wr x bq bz s a ⟨3,5,3,0⟩ R5 xss5 st5 (zL 7) nx5):=n5
   have HSP:Hid (Calls Tryz.prog 10 #[ptr x] wr fun e w'=>e=.returned (.int .i64 2)/\w'=wr):=n5.spoilt
   have hon:R5.ons=3:=by
    rw[<- SP.ons_filter n5.kp.geo]
    have e:(List.range 5).filter (fun d:Nat=>R5.on (d:Int))=(List.range 5).filter (fun d:Nat=>(onL 7).getD d false):=List.filter_congr fun d hd=>o5 d (List.mem_range.1 hd)
    show ((List.range 5).filter (fun d:Nat=>R5.on (d:Int))).length=3
    rw[e]
    rfl
   have HON:Hid (Calls Tryz.prog 12 #[ptr a] wr fun e w'=>e=.returned (.int .i64 3)/\w'=wr):=n5.ons (n:=3) hon
   have c0:=n5.c0
   clear n5 o5 l5 u5 HX hon i1 hi
   have i1:¬ (7:Int) < 7:=by omega
   go_wp2_with (first
    | (go_at_call 10;refine HSP.out.mono ?_;rintro e w7 ⟨rfl,hw7⟩;obtain rfl:=hw7.symm;clear hw7)
    | (go_at_call 11;refine N5.out.array.mono ?_;rintro e w8 ⟨rfl,hw8⟩;obtain rfl:=hw8.symm;clear hw8)
    | (go_at_call 12;refine HON.out.mono ?_;rintro e w8 ⟨rfl,hw8⟩;obtain rfl:=hw8.symm;clear hw8)
    | (go_at_call 7;refine N5.out.whole.mono ?_;rintro e w11 ⟨rfl,n7⟩;have N7:Hid (Now 3 fr w11 x bq bz s a ⟨3,5,3,0⟩ R5 xss5 st5 (zL 7) nx5):=n7;clear n7))
   go_ret
   exact⟨rfl,by have h1:=N7.out.grown;rw[HFR.out.1] at h1;exact h1⟩
namespace topKeeps
set_option maxHeartbeats 12800000 in
theorem walkN {w:World} {K M:Nat} {v:Value} {l:List ActR9} (hK:K < 256) (hM:M < 256) (hA:Acts9 w v l) (hmd:∀ w,Calls Tryz.prog 5 #[] w fun e w'=>e=.returned (.bool true)/\w.grownBy w' none) :
 Calls Tryz.prog 3 #[.int .u8 (K:Int),.int .u8 (M:Int),v] w fun e w'=>e=.returned (.bool true)/\w.grownBy w' none:=by
 obtain⟨pv,N,cv,rfl,hNl⟩:=hA.opened
 have HA:Hid (Acts9 w (.slice pv N cv) l):=hA
 have HN:Hid (N=l.length):=hNl
 have HMD:Hid (∀ w,Calls Tryz.prog 5 #[] w fun e w'=>e=.returned (.bool true)/\w.grownBy w' none):=hmd
 have hN0:N < 9223372036854775807:=by have:=hA.len;omega
 obtain⟨k1,hk1⟩:∃ k1,k1=1+K % 5:=⟨_,rfl⟩
 obtain⟨m1,hm1⟩:∃ m1,m1=1+M % 4:=⟨_,rfl⟩
 have HK:Hid (1<=k1/\k1<=5/\1<=m1/\m1<=4):=⟨by omega,by omega,by omega,by omega⟩
 obtain⟨kk,hkk⟩:∃ kk,kk=K % 5:=⟨_,rfl⟩
 obtain⟨mm,hmm⟩:∃ mm,mm=M % 4:=⟨_,rfl⟩
 have hr1:(K:Int).tmod 5=(kk:Int):=by rw[hkk];exact trem K 5
 have hr2:(M:Int).tmod 4=(mm:Int):=by rw[hmm];exact trem M 4
 have hv1:IntKind.i64.wrap (kk:Int)=(kk:Int):=IntWalk.i64_in _ (by omega)
 have hv2:IntKind.i64.wrap (mm:Int)=(mm:Int):=IntWalk.i64_in _ (by omega)
 have hw1:IntKind.i64.wrap (1+(kk:Int))=(k1:Int):=by rw[show 1+(kk:Int)=(k1:Int) by omega];exact IntWalk.i64_in _ (by omega)
 have hw2:IntKind.i64.wrap (1+(mm:Int))=(m1:Int):=by rw[show 1+(mm:Int)=(m1:Int) by omega];exact IntWalk.i64_in _ (by omega)
 obtain⟨ZR,hZR⟩:∃ ZR:Array Value,ZR=#[.int .u8 0,.int .u8 0,.int .u8 0,.int .u8 0,.int .u8 0,.slice none 0 0]:=⟨_,rfl⟩
 have hzv:∀ w,(zeroValue 28).run Tryz.prog w=.ok (.agg ZR) w:=fun w=>by rw[hZR];exact run_zeroAct9 w
 have HZ:Hid (ZR.size=6):=by show _=_;rw[hZR];rfl
 clear hmd hK hM hA hNl hk1 hm1 hkk hmm hZR
 go_enter Tryz.func3,Tryz.ntmps3
 go_wp2_with (first
  | (go_at_call 4;refine (kmade_yes w HK.out.1 HK.out.2.1 HK.out.2.2.1 HK.out.2.2.2).mono ?_;rintro e w1 ⟨x,rfl,hm⟩;have KM1:Hid (KMade w w1 x k1 (k1+m1)):=hm;clear hm)
  | (go_at_call 5;refine (HMD.out w1).mono ?_;rintro e w2 ⟨rfl,g2⟩;have G2:Hid (w1.grownBy w2 none):=g2;clear g2))
 obtain⟨bq,bz,s,a,R,xss,st,hn,_⟩:=KM1.out
 have HX0:Hid (∃ R xss st Z nx,Now 3 (Fr9.of w) w2 x bq bz s a ⟨k1,k1+m1,3,0⟩ R xss st Z nx/\4<=nx/\nx<=4+0):=⟨R,xss,st,_,_,hn.keep G2.out,by omega,by omega⟩
 clear hn KM1 G2
 go_loopw [27] (fun ti wr=>∃ i:Nat,i<=N/\ti=.int .i64 (i:Int)/\i<=60/\Hid (∃ R xss st Z nx,Now 3 (Fr9.of w) wr x bq bz s a ⟨k1,k1+m1,3,0⟩ R xss st Z nx/\4<=nx/\nx<=4+i)) (fun ti _=>N - (intOf ti).toNat)
 case atStart=>exact⟨0,by omega,rfl,by omega,HX0⟩
 case round =>
  clear HX0
  obtain⟨i,hi,rfl,h60,HX⟩:=hrel
  by_cases hlt:i < N
  ·have i1:(i:Int) < (N:Int):=by omega
   have i2:(0:Int)<=(i:Int):=by omega
   have hil:i < l.length:=by rw[<- HN.out];exact hlt
   obtain⟨R5,xss5,st5,Z5,nx5,n5,l5,u5⟩:=HX.out
   have hokw:=HA.out.ok l[i] (List.getElem_mem hil)
   obtain⟨b,off,rfl,hrg,hok⟩:=(HA.out.keep n5.grown).at hil
   obtain⟨c,hce⟩:∃ c,c=l[i]:=⟨_,rfl⟩
   rw[<- hce] at hrg hok hokw
   obtain⟨AR,hla⟩:=laid9 hrg hok
   obtain⟨wt,S,d,fz,X,bval,bs⟩:=c
   have hvw:Vec w bval bs:=hokw.vec
   obtain⟨pb,nb,mb,rfl,hnb⟩:=hvw.opened
   have HLA:Hid (Laid9 wr b (off+i * 6) wr.heap.size AR ⟨wt,S,d,fz,X,.slice pb nb mb,bs⟩):=hla
   have HTU:Hid (∀ W,wr.grownBy W none->Calls Tryz.prog 6 #[ptr x,.agg AR] W fun e w'=>e=.returned (.bool true)/\∃ R' xss' st' Z' nx',4<=nx'/\nx'<=4+(i+1)/\Now 3 (Fr9.of w) w' x bq bz s a ⟨k1,k1+m1,3,0⟩ R' xss' st' Z' nx'):=fun W gr=>by
    rw[hla.ar]
    refine ((n5.keep gr).turn hokw.slot hokw.disk hokw.fuse hokw.x hvw (by omega) (by omega)).mono ?_
    rintro e w' ⟨rfl,R',xss',st',Z',nx',_,y1,y2,hn'⟩
    exact⟨rfl,R',xss',st',Z',nx',by omega,by omega,hn'⟩
   have HG5:Hid (w.grownBy wr none):=n5.grown
   have HLE:Hid (4<=nx5/\nx5<=4+i):=⟨l5,u5⟩
   clear hrg hla hce hok hokw hvw hnb n5 l5 u5 HX
   by_cases hi60:i=60
   ·subst hi60
    go_wp2_with (first | (refine wpList_load_act9 rfl _ rfl rfl HLA.out ?_) | (refine wpList_store_act9 rfl _ _ rfl HLA.out HZ.out rfl rfl rfl ?_;intro w9 hh hg;have HG9:Hid (wr.grownBy w9 none):=hg;clear hh hg) | fail)
    go_ret
    exact⟨rfl,grown_trans HG5.out HG9.out⟩
   ·have i6:¬ (i:Int)=60:=by omega
    have i7:((i:Int)==60)=false:=by simp;omega
    have h59:i < 60:=by omega
    go_wp2_with (first
     | (refine wpList_load_act9 rfl _ rfl rfl HLA.out ?_)
     | (refine wpList_load_act9 rfl _ rfl rfl HLB.out ?_)
     | (refine wpList_store_act9 rfl _ _ rfl HLA.out HZ.out rfl rfl rfl ?_;intro w9 hh hg;have HLB:Hid (Laid9 w9 wr.heap.size 0 wr.heap.size AR ⟨wt,S,d,fz,X,.slice pb nb mb,bs⟩):=laid_var HLA.out hh hg;have HG9:Hid (wr.grownBy w9 none):=hg;clear hh hg)
     | (go_at_call 6;refine (HTU.out _ HG9.out).mono ?_;rintro e w10 ⟨rfl,R6,xss6,st6,Z6,nx6,y1,y2,n6⟩;have N6:Hid (Now 3 (Fr9.of w) w10 x bq bz s a ⟨k1,k1+m1,3,0⟩ R6 xss6 st6 Z6 nx6/\4<=nx6/\nx6<=4+(i+1)):=⟨n6,y1,y2⟩;clear n6 y1 y2)
     | (go_at_call 7;refine N6.out.1.whole.mono ?_;rintro e w11 ⟨rfl,n7⟩;have N7:Hid (Now 3 (Fr9.of w) w11 x bq bz s a ⟨k1,k1+m1,3,0⟩ R6 xss6 st6 Z6 nx6):=n7;clear n7)
     | fail)
    go_roundw
    case rel=>exact⟨i+1,by omega,by go_num,by omega,R6,xss6,st6,Z6,nx6,N7.out,N6.out.2⟩
    case measure=>simp[intOf];omega
  ·have i1:¬ (i:Int) < (N:Int):=by omega
   go_wp2
   go_ret
   obtain⟨R5,xss5,st5,Z5,nx5,n5,_⟩:=HX.out
   exact⟨rfl,n5.grown⟩
theorem walk {w:World} {K M:Int} {v:Value} {l:List ActR9} (h0:0<=K) (h1:K < 256) (h2:0<=M) (h3:M < 256) (hA:Acts9 w v l) :
 Calls Tryz.prog 3 #[.int .u8 K,.int .u8 M,v] w fun e w'=>e=.returned (.bool true)/\w.grownBy w' none:=by
 obtain⟨K,rfl⟩:=Int.eq_ofNat_of_zero_le h0
 obtain⟨M,rfl⟩:=Int.eq_ofNat_of_zero_le h2
 exact walkN (by omega) (by omega) hA mended_yes
end topKeeps
end Go.Proofs.YtlklmhojadlncaaGreat
