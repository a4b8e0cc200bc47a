/- Packed: RRd8, Parts8, Write8, RWt8. -/
import Derived.Test.YtaalagkbpeinkaaGreatMp23
set_option linter.unusedSimpArgs false
set_option linter.unusedVariables false
set_option maxRecDepth 100000
namespace Go.Proofs.YtaalagkbpeinkaaGreat
open Go.RowKit
structure RdS (w0 w:World) (va vt:Value) (l:List Nat) (us:List Value) (X:List (List Nat)):Prop where
 ia:IOwn w0.heap.size w va (SP.ints l)
 mt:RMat 5 w0.heap.size w vt us X
 gr:w0.grownBy w none
section
variable {w0 w w':World} {va vt:Value} {l:List Nat} {us:List Value} {X:List (List Nat)}
theorem RdS.keep (h:RdS w0 w va vt l us X) (g:w.grownBy w' none):RdS w0 w' va vt l us X:=⟨h.ia.keep g,h.mt.keep g,grown_trans h.gr g⟩
theorem RdS.app1 (h:RdS w0 w va vt l us X) {v2:Value} {j:Nat} (o:IOwn w0.heap.size w' v2 (SP.ints l++[(j:Int)])) (g:w.grownBy w' va.ownBlock):RdS w0 w' v2 vt (l++[j]) us X :=
 ⟨by rw[SP.ints_app];exact o,h.mt.rowed h.ia.row (by decide) (by decide) g,grown_new h.gr g (fun i e=>h.ia.lo i e)⟩
theorem RdS.app2 (h:RdS w0 w va vt l us X) {v2 v:Value} {ys:List Nat} (hu:Arr 5 w0.heap.size w v ys) (hl:(us.length+1) * 24<=140737488351232) (hr:w'.ownsRow w0.heap.size 31 1 v2 (us.length+1) (us++[v])) (g:w.grownBy w' vt.ownBlock):RdS w0 w' va v2 l (us++[v]) (X++[ys]) :=
 ⟨h.ia.kept g (row_apart (by decide) h.ia.row h.mt.row),h.mt.more (by decide) hu hl hr g,grown_new h.gr g (fun i e=>h.mt.lo i e)⟩
end
section
variable {G G':Nat->Prop} {w w':World} {t r:Nat} {g:SP.Geo} {R R':AM.Raw}
def RdOut (w:World) (R:AM.Raw) (g:SP.Geo) (slot:Int) (m:Nat) (e:Ending) (w':World):Prop:=∃ v er out,e=.returned (.tuple #[v,.int .i64 ((er:Nat):Int)])/\SP.RdR R g slot m out er/\Own w.heap.size w' v out/\w.grownBy w' none
theorem rdOut_mk {w w':World} {R:AM.Raw} {g:SP.Geo} {slot:Int} {m:Nat} {v:Value} {er:Nat} {c:Int} {out:List Nat} (hc:c=(er:Int)) (h1:SP.RdR R g slot m out er) (h2:Own w.heap.size w' v out) (h3:w.grownBy w' none):RdOut w R g slot m (.returned (.tuple #[v,.int .i64 c])) w':=⟨v,er,out,by rw[hc],h1,h2,h3⟩
theorem rsread_err (h:RSI G w t r g R) {slot:Int} {m:Nat} (hy:SP.why R g slot ≠ 0) :
 Calls Tryz.prog 88 #[tptr t,.int .i64 slot,.int .u64 (m:Int)] w fun e w'=>e=.returned (.tuple #[.slice none 0 0,.int .i64 (SP.why R g slot:Int)])/\w'=w:=by
 obtain⟨y,hy1⟩:∃ y,y=SP.why R g slot:=⟨_,rfl⟩
 have HR:Hid (Calls Tryz.prog 84 #[tptr t,.int .i64 0,.int .i64 slot] w fun e w''=>e=.returned (.int .i64 (y:Int))/\w''=w):=rswhy_0 h (by rw[hy1])
 rw[<- hy1] at hy ⊢
 have hne:((y:Int) != 0)=true:=neb_yes (b:=0) hy
 clear h hy hy1
 go_enter Tryz.func88,Tryz.ntmps88
 go_wp2_with (go_at_call 84;refine HR.out.mono ?_;rintro e w9 ⟨rfl,hw9⟩;obtain rfl:=hw9.symm;clear hw9)
 go_ret2
 exact⟨rfl,rfl⟩
theorem rsread_arg (h:RSI G w t r g R) {slot:Int} (hy:SP.why R g slot=0) :
 Calls Tryz.prog 88 #[tptr t,.int .i64 slot,.int .u64 0] w fun e w'=>e=.returned (.tuple #[.slice none 0 0,.int .i64 1])/\w'=w:=by
 have HR:Hid (Calls Tryz.prog 84 #[tptr t,.int .i64 0,.int .i64 slot] w fun e w''=>e=.returned (.int .i64 0)/\w''=w):=rswhy_0 h (by rw[hy];rfl)
 clear h hy
 go_enter Tryz.func88,Tryz.ntmps88
 go_wp2_with (go_at_call 84;refine HR.out.mono ?_;rintro e w9 ⟨rfl,hw9⟩;obtain rfl:=hw9.symm;clear hw9)
 go_ret2
 exact⟨rfl,rfl⟩
set_option maxHeartbeats 6400000 in
theorem rsread_main (h:RSI G w t r g R) (hL:R.L.length<=1000000) {slot m:Nat} (hy:SP.why R g (slot:Int)=0) (hm:m ≠ 0) :
 Calls Tryz.prog 88 #[tptr t,.int .i64 (slot:Int),.int .u64 (m:Int)] w (RdOut w R g (slot:Int) m):=by
 have HR:Hid (Calls Tryz.prog 84 #[tptr t,.int .i64 0,.int .i64 (slot:Int)] w fun e w''=>e=.returned (.int .i64 0)/\w''=w):=rswhy_0 h (by rw[hy];rfl)
 obtain⟨q0,q1,q2⟩:=SP.why_zero hy
 have H:Hid (RSI G w t r g R):=h
 have HS:Hid (∀ w',w.grownBy w' none->w'.cell? ⟨t,1,none⟩=some (.int .i64 (g.k:Int))/\w'.cell? ⟨t,2,none⟩=some (.int .i64 (g.n:Int))):=fun w' g'=>⟨(h.keep g').at2,(h.keep g').at3⟩
 have HN:Hid (R.off=false/\slot < g.s/\R.L.length<=1000000):=⟨q0,by omega,hL⟩
 have HY:Hid (SP.why R g (slot:Int)=0/\m ≠ 0/\g.Ok R):=⟨hy,hm,h.ok⟩
 have HP:Hid (SP.Pick R g slot (SP.hits R g slot m g.n)):=SP.hits_pick R g slot m
 have hn255:g.n<=255:=h.ok.n255
 have hne:((m:Int)==0)=false:=eqb_no (b:=0) hm
 clear h hy hm q0 q1 q2 hL
 go_enter Tryz.func88,Tryz.ntmps88
 go_wp2_with (first | (go_at_call 84;refine HR.out.mono ?_;rintro e w9 ⟨rfl,hw9⟩;obtain rfl:=hw9.symm;clear hw9) | fail)
 clear HR hne
 go_loopw [9,10,11] (fun ta tt ti wr=>∃ j:Nat,j<=g.n/\ti=.int .i64 (j:Int)/\Hid (∃ us,RdS w wr ta tt (SP.hits R g slot m j) us (SP.told R g slot (SP.hits R g slot m j)))) (fun _ _ ti _=>g.n - (intOf ti).toNat)
 case atStart=>exact⟨0,by omega,rfl,[],⟨IOwn.nil _ _,RMat.nil _ _ _,World.grownBy.refl _ _⟩⟩
 case round =>
  obtain⟨j,hj,rfl,HX⟩:=hrel
  obtain⟨us,t0⟩:=HX.out
  have T:Hid (RdS w wr u9 u10 (SP.hits R g slot m j) us (SP.told R g slot (SP.hits R g slot m j))):=t0
  clear HX t0
  have c2:=(HS.out _ T.out.gr).2
  by_cases hlt:j < g.n
  ·have i3:(j:Int) < (g.n:Int):=by omega
   have TK:Hid (Calls Tryz.prog 120 #[tptr t,.int .i64 (j:Int),.int .i64 (slot:Int)] wr fun e w'=>∃ p n c,e=.returned (.tuple #[.int .u64 ((SP.numD R g slot j:Nat):Int),.slice p n c,.bool (SP.yesD R g slot j)])/\Own wr.heap.size w' (.slice p n c) (SP.datD R g slot j)/\wr.grownBy w' none):=by
    refine (rstake_any (H.out.keep T.out.gr) HN.out.2.2 HN.out.1 hlt HN.out.2.1).mono ?_
    rintro e w' ⟨u,rfl,o1,g1⟩
    obtain⟨p,n,c,rfl,_⟩:=o1.vec.opened
    exact⟨p,n,c,rfl,o1,g1⟩
   have HLL:Hid ((SP.hits R g slot m j).length<=j):=SP.hits_len_le R g slot m j
   have HT1:Hid (SP.has R g slot m j=true->SP.hits R g slot m (j+1)=SP.hits R g slot m j++[j]/\SP.told R g slot (SP.hits R g slot m (j+1))=SP.told R g slot (SP.hits R g slot m j)++[SP.datD R g slot j]):=fun hh=>by
    have e:SP.hits R g slot m (j+1)=SP.hits R g slot m j++[j]:=by rw[SP.hits_succ,hh];rfl
    exact⟨e,by rw[e,SP.told_app]⟩
   have HT0:Hid (SP.has R g slot m j=false->SP.hits R g slot m (j+1)=SP.hits R g slot m j):=fun hh=>by rw[SP.hits_succ,hh];simp
   have HHA:Hid (SP.has R g slot m j=(SP.yesD R g slot j&&(SP.numD R g slot j==m))):=rfl
   cases hyes:SP.yesD R g slot j
   ·rw[hyes] at TK HHA
    have HE:Hid (SP.hits R g slot m (j+1)=SP.hits R g slot m j):=HT0.out (by rw[HHA.out];rfl)
    clear HT0 HT1 HHA hyes
    go_wp2_with (first
     | (go_at_call 120;refine TK.out.mono ?_;rintro e w1 ⟨pu,nu,cu,rfl,ou,gu⟩;have T1:Hid (RdS w w1 u9 u10 (SP.hits R g slot m j) us (SP.told R g slot (SP.hits R g slot m j))):=T.out.keep gu;clear ou gu))
    go_roundw
    case rel=>exact⟨j+1,by omega,by go_num,us,by rw[HE.out];exact T1.out⟩
    case measure=>simp[intOf];omega
   ·rw[hyes] at TK HHA
    by_cases he:SP.numD R g slot j=m
    ·have i5:((SP.numD R g slot j:Nat):Int)=(m:Int):=by rw[he]
     have HE:Hid (SP.hits R g slot m (j+1)=SP.hits R g slot m j++[j]/\SP.told R g slot (SP.hits R g slot m (j+1))=SP.told R g slot (SP.hits R g slot m j)++[SP.datD R g slot j]):=HT1.out (by rw[HHA.out,he];simp)
     have HL:Hid (((SP.ints (SP.hits R g slot m j)).length+1) * 8<=140737488351232/\(us.length+1) * 24<=140737488351232):=⟨by rw[SP.ints_len];have:=HLL.out;omega,by rw[T.out.mt.same,SP.told_len];have:=HLL.out;omega⟩
     have i6:((m:Int)==(m:Int))=true:=eqb_yes rfl
     rw[he] at TK
     clear HT0 HT1 HHA hyes he i5 HLL
     generalize SP.told R g slot (SP.hits R g slot m j)=XJ at *
     generalize SP.hits R g slot m j=LJ at *
     generalize SP.datD R g slot j=DJ at *
     go_wp2_with (first
      | (go_at_call 120;refine TK.out.mono ?_;rintro e w1 ⟨pu,nu,cu,rfl,ou,gu⟩;have T1:Hid (RdS w w1 u9 u10 LJ us XJ):=T.out.keep gu;have U1:Hid (Own w.heap.size w1 (.slice pu nu cu) DJ):=ou.down T.out.gr.size;have TA:Hid (RdS w (w1.alloc (.cells #[.int .i64 (j:Int)] 3)) u9 u10 LJ us XJ):=T1.out.keep (World.grownBy_alloc w1 _ none);have UA:Hid (Own w.heap.size (w1.alloc (.cells #[.int .i64 (j:Int)] 3)) (.slice pu nu cu) DJ):=U1.out.keep (World.grownBy_alloc w1 _ none);clear ou gu c2)
      | (at_builtin;refine wpList_append_int rfl _ _ rfl _ ⟨w1.heap.size,0,none⟩ rfl rfl TA.out.ia (cell_new1 _ _ rfl) TA.out.gr.size HL.out.1 ?_;intro v2 w2 o2 g2 a2;have T2:Hid (RdS w w2 v2 u10 (LJ++[j]) us XJ):=TA.out.app1 o2 g2;have U2:Hid (Own w.heap.size w2 (.slice pu nu cu) DJ):=UA.out.kept g2 (row_apart (by decide) UA.out.row TA.out.ia.row);have TB:Hid (RdS w (w2.alloc (.cells #[.slice pu nu cu] 31)) v2 u10 (LJ++[j]) us XJ):=T2.out.keep (World.grownBy_alloc w2 _ none);have UB:Hid (Own w.heap.size (w2.alloc (.cells #[.slice pu nu cu] 31)) (.slice pu nu cu) DJ):=U2.out.keep (World.grownBy_alloc w2 _ none);clear o2 g2 a2)
      | (at_builtin;refine wpList_append_row rfl _ _ rfl _ ⟨w2.heap.size,0,none⟩ rfl rfl TB.out.mt.row (cell_new1 _ _ rfl) rfl TB.out.gr.size HL.out.2 ?_;intro v3 w3 r3 g3 a3;have T3:Hid (RdS w w3 v2 v3 (LJ++[j]) (us++[.slice pu nu cu]) (XJ++[DJ])):=TB.out.app2 UB.out.arr HL.out.2 r3 g3;clear r3 g3 a3))
     go_roundw
     case rel=>exact⟨j+1,by omega,by go_num,_,by rw[HE.out.2,HE.out.1];exact T3.out⟩
     case measure=>simp[intOf];omega
    ·have i5:(((SP.numD R g slot j:Nat):Int)==(m:Int))=false:=eqb_no he
     have HE:Hid (SP.hits R g slot m (j+1)=SP.hits R g slot m j):=HT0.out (by rw[HHA.out];simp[he])
     clear HT0 HT1 HHA hyes he
     generalize SP.numD R g slot j=Nj at *
     go_wp2_with (first
      | (go_at_call 120;refine TK.out.mono ?_;rintro e w1 ⟨pu,nu,cu,rfl,ou,gu⟩;have T1:Hid (RdS w w1 u9 u10 (SP.hits R g slot m j) us (SP.told R g slot (SP.hits R g slot m j))):=T.out.keep gu;clear ou gu))
     go_roundw
     case rel=>exact⟨j+1,by omega,by go_num,us,by rw[HE.out];exact T1.out⟩
     case measure=>simp[intOf];omega
  ·have i3:¬ (j:Int) < (g.n:Int):=by omega
   have hjn:j=g.n:=by omega
   subst hjn
   have c1:=(HS.out _ T.out.gr).1
   obtain⟨ap,an,ac,e9,ha⟩:=T.out.ia.ivec.opened
   obtain⟨tp,tn,tc,e10,ht⟩:=T.out.mt.mat.row.opened
   subst e9
   subst e10
   have HAN:Hid (an=(SP.hits R g slot m g.n).length):=by show _=_;rw[ha,SP.ints_len]
   clear ha ht
   by_cases hk:g.k<=(SP.hits R g slot m g.n).length
   ·have i5:¬ (an:Int) < (g.k:Int):=by have:=HAN.out;omega
    have GD:Hid (w.grownBy (wr.drewN 1) none):=grown_trans T.out.gr (grown_drewN wr 1)
    have DE:Hid (Calls Tryz.prog 121 #[.int .i64 (g.k:Int),.int .i64 (g.n:Int),.slice ap an ac,.slice tp tn tc] (wr.drewN 1) fun e w''=>∃ p n c us' D er,e=.returned (.tuple #[.slice p n c,.int .i64 er])/\Mat w'' (.slice p n c) us' D/\(∀ (i:Nat),i < D.length->(D.getD i []).length=448)/\D.length<=255/\SP.RdR R g (slot:Int) m D.flatten 0/\w.grownBy w'' none):=by
     have T6:=T.out.keep (grown_drewN wr 1)
     refine (refDecode_all (k:=(g.k:Int)) (n:=(g.n:Int)) T6.ia.ivec T6.mt.mat).mono ?_
     rintro e w2 ⟨p,n,c,us',D,er,rfl,om,hd,gg⟩
     obtain⟨_,hs⟩:=SP.DecR.yes hd (HP.out.ok HY.out.2.2) (by rw[SP.ints_len];omega)
     have hk1:=HY.out.2.2.k1
     have hL0:((SP.told R g slot (SP.hits R g slot m g.n)).getD 0 []).length=448:=HP.out.row (by omega)
     have sh:=hs.1
     rw[hL0,Int.toNat_natCast] at sh
     have hkn:=HY.out.2.2.kn
     refine⟨p,n,c,us',D,er,rfl,om.mat,fun i hi=>sh.row i (by rw[<- sh.len];exact hi),by rw[sh.len];omega,?_,grown_trans T6.gr gg⟩
     exact .inr (.inr (.inr ⟨HY.out.1,HY.out.2.1,by rw[Int.toNat_natCast];exact hk,rfl,D,er,by rw[Int.toNat_natCast];exact hd,rfl⟩))
    clear T HAN hk HP
    go_wp2_with fail
    clear c1 c2
    go_region_held3 (fun w'=>w'.cell? ⟨t,1,none⟩=some (.int .i64 (g.k:Int))/\w'.cell? ⟨t,2,none⟩=some (.int .i64 (g.n:Int))) (first | exact HS.out _ GD.out | exact HS.out _ G3.out)
     ((go_at_call 121;refine DE.out.mono ?_;rintro e w3 ⟨p3,n3,c3,us3,D,er,rfl,m3,h448,hD,hR,g3⟩;have M3:Hid (Mat w3 (.slice p3 n3 c3) us3 D):=m3;have HD:Hid ((∀ (i:Nat),i < D.length->(D.getD i []).length=448)/\D.length<=255/\SP.RdR R g (slot:Int) m D.flatten 0):=⟨h448,hD,hR⟩;have G3:Hid (w.grownBy w3 none):=g3;clear m3 g3 h448 hD hR))
    have HNN:Hid (n3=D.length/\us3.length=D.length/\n3<=255):=by
     have h1:=M3.out.same
     have h2:=(mat_n M3.out).1
     have h3:=HD.out.2.1
     exact⟨by omega,by omega,by omega⟩
    have hn3:n3<=255:=HNN.out.2.2
    clear DE GD
    go_wp2_with fail
    (try generalize decide ((an:Int) < (g.k:Int))=dd1 at *)
    (try generalize decide (an < g.k)=dd2 at *)
    go_loopw [17,18] (fun to ti wr=>∃ i:Nat,i<=n3/\ti=.int .i64 (i:Int)/\Hid (Own w3.heap.size wr to (D.take i).flatten)/\Hid (w3.grownBy wr none)) (fun _ ti _=>n3 - (intOf ti).toNat)
    case atStart=>exact⟨0,by omega,rfl,by show Own _ _ _ _;simpa using Own.nil _ _,World.grownBy.refl _ _⟩
    case round =>
     obtain⟨i,hi,rfl,OD,GI⟩:=hrel
     by_cases hlt2:i < n3
     ·have i6:(i:Int) < (n3:Int):=by omega
      have i7:(0:Int)<=(i:Int):=by omega
      obtain⟨b,off,rfl,hr⟩:=(M3.out.keep GI.out).row.spot (k:=i) (by have:=HNN.out;omega)
      obtain⟨pk,nk,ck,ek,hnk⟩:=((M3.out.keep GI.out).vec i (by have:=HNN.out;omega)).opened
      rw[ek] at hr
      have VX:Hid (Vec wr (.slice pk nk ck) (D.getD i [])):=by rw[<- ek];exact (M3.out.keep GI.out).vec i (by have:=HNN.out;omega)
      have HF:Hid ((D.take (i+1)).flatten=(D.take i).flatten++D.getD i []):=take_flat (by have:=HNN.out;omega)
      have HLE:Hid ((D.take i).flatten.length+(D.getD i []).length<=140737488351232):=by
       show _<=_
       rw[flat_len HD.out.1 i (by have:=HNN.out;omega),HD.out.1 i (by have:=HNN.out;omega)]
       omega
      clear ek hnk
      generalize (D.take i).flatten=PI at *
      generalize D.getD i []=EI at *
      have OI:Hid (Own w3.heap.size wr u17 PI):=OD.out
      clear OD
      go_wp2_with (at_builtin;refine wpList_append_vec rfl _ _ rfl _ _ rfl rfl OI.out VX.out GI.out.size HLE.out ?_;intro v4 w4 o4 g4;have O4:Hid (Own w3.heap.size w4 v4 (PI++EI)):=o4;have G4:Hid (w3.grownBy w4 none):=grown_new GI.out g4 (fun x e=>OI.out.lo x e);clear o4 g4)
      go_roundw
      case rel=>exact⟨i+1,by omega,by go_num,by rw[HF.out];exact O4.out,G4⟩
      case measure=>simp[intOf];omega
     ·have i6:¬ (i:Int) < (n3:Int):=by omega
      have HE:Hid ((D.take i).flatten=D.flatten):=by show _=_;rw[List.take_of_length_le (by have:=HNN.out;omega)]
      have OE:Hid (Own w.heap.size wr u17 D.flatten):=by
       have o:=OD.out
       rw[HE.out] at o
       exact o.down G3.out.size
      clear OD
      go_wp2
      go_ret2
      exact rdOut_mk (er:=0) rfl HD.out.2.2 OE.out (grown_trans G3.out GI.out)
   ·have i5:(an:Int) < (g.k:Int):=by have:=HAN.out;omega
    have HK:Hid ((SP.hits R g slot m g.n).length < g.k):=by show _ < _;omega
    have GT:Hid (w.grownBy wr none):=T.out.gr
    clear T HAN hk
    go_wp2
    go_ret2
    exact rdOut_mk (er:=20) (out:=[]) rfl (.inr (.inr (.inl ⟨HY.out.1,HY.out.2.1,by rw[Int.toNat_natCast];exact HK.out,rfl,rfl⟩))) (Own.nil _ _) GT.out
theorem rsread_all (h:RSI G w t r g R) (hL:R.L.length<=1000000) (slot:Int) (m:Nat) :
 Calls Tryz.prog 88 #[tptr t,.int .i64 slot,.int .u64 (m:Int)] w (RdOut w R g slot m):=by
 by_cases hy:SP.why R g slot=0
 ·by_cases hm:m=0
  ·subst hm
   refine (rsread_arg h hy).mono ?_
   rintro e w' ⟨rfl,rfl⟩
   exact⟨_,1,[],rfl,.inr (.inl ⟨hy,rfl,rfl,rfl⟩),Own.nil _ _,World.grownBy.refl _ _⟩
  ·obtain⟨_,q1,_⟩:=SP.why_zero hy
   obtain⟨n,rfl⟩:∃ n:Nat,slot=(n:Int):=⟨slot.toNat,by omega⟩
   exact rsread_main h hL hy hm
 ·refine (rsread_err h hy).mono ?_
  rintro e w' ⟨rfl,rfl⟩
  exact⟨_,_,[],rfl,.inl ⟨hy,rfl,rfl⟩,Own.nil _ _,World.grownBy.refl _ _⟩
end
theorem slice_lhh {b off n c lo hi:Nat} (h1:lo<=hi) (h2:hi<=c) (h3:lo < hi) (W:World):(Instr.slice 31 (.slice (some ⟨b,off,none⟩) n c) (some (.int .i64 (lo:Int))) (some (.int .i64 (hi:Int))) (some (.int .i64 (hi:Int)))).run Tryz.prog W=.ok (.slice (some ⟨b,off+lo,none⟩) (hi - lo) (hi - lo)) W:=by
 obtain⟨i0,hi0,hz0,hz1,hz2⟩:=info_parts Tryz.info5
 have e0:(Instr.sliceBound (.int .i64 (hi:Int)) c .slice3Acap).run Tryz.prog W=.ok hi W:=by
  have:=run_sliceBound (P:=Tryz.prog) W .i64 (hi:Int) c .slice3Acap (by omega) (by omega)
  simpa using this
 have e1:(Instr.sliceBound (.int .i64 (hi:Int)) hi .slice3B).run Tryz.prog W=.ok hi W:=by
  have:=run_sliceBound (P:=Tryz.prog) W .i64 (hi:Int) hi .slice3B (by omega) (by omega)
  simpa using this
 have e2:(Instr.sliceBound (.int .i64 (lo:Int)) hi .slice3C).run Tryz.prog W=.ok lo W:=by
  have:=run_sliceBound (P:=Tryz.prog) W .i64 (lo:Int) hi .slice3C (by omega) (by omega)
  simpa using this
 have h4:¬ hi=lo:=by omega
 simp[Instr.slice,run_underlying Tryz.underlying31,Instr.sliceBounds,e0,e1,e2,sizeOf,typeInfo,hi0,hz1,h4,add_off]
def cutsAt (b off j:Nat):List Value:=(List.range j).map fun i=>.slice (some ⟨b,off+448 * i,none⟩) 448 448
theorem cutsAt_len (b off j:Nat):(cutsAt b off j).length=j:=by simp[cutsAt]
theorem cutsAt_succ (b off j:Nat):cutsAt b off (j+1)=cutsAt b off j++[.slice (some ⟨b,off+448 * j,none⟩) 448 448]:=by simp[cutsAt,List.range_succ]
theorem Vec.part {w:World} {b off n c i:Nat} {xs:List Nat} (h:Vec w (.slice (some ⟨b,off,none⟩) n c) xs) (hi:448 * i+448<=xs.length):Vec w (.slice (some ⟨b,off+448 * i,none⟩) 448 448) ((xs.drop (448 * i)).take 448):=by
 have hl:((xs.drop (448 * i)).take 448).length=448:=by simp;omega
 refine⟨fun x hx=>h.small x (List.mem_of_mem_drop (List.mem_of_mem_take hx)),by omega,some ⟨b,off+448 * i,none⟩,448,by rw[hl],by omega,by decide,fun _=>⟨b,off+448 * i,rfl,fun j hj=>?_⟩⟩
 rw[hl] at hj
 obtain⟨p',cap',e,h3,h4,h5⟩:=h.form
 injection e with e1 e2 e3
 obtain⟨b',off',e',hc⟩:=h5 (fun e=>by subst e;simp at hi)
 rw[<- e1] at e'
 injection e' with e'
 injection e' with e3 e4
 subst e3
 subst e4
 rw[Nat.add_assoc,hc (448 * i+j) (by omega)]
 simp[List.getD,hj]
theorem cuts_mat {w:World} {B b off n c k:Nat} {v:Value} {xs:List Nat} (h:Vec w (.slice (some ⟨b,off,none⟩) n c) xs) (hl:xs.length=k * 448) (o:Out B w v (cutsAt b off k)):Mat w v (cutsAt b off k) (SP.parts xs k) :=
 ⟨o.cells,by rw[cutsAt_len,SP.parts_len],fun j hj=>by
   rw[SP.parts_len] at hj
   rw[SP.parts_get xs hj,show (cutsAt b off k).getD j undef=.slice (some ⟨b,off+448 * j,none⟩) 448 448 from by simp[cutsAt,List.getD,hj]]
   exact h.part (by have:(j+1) * 448<=k * 448:=Nat.mul_le_mul_right _ hj
                    omega)⟩
set_option maxHeartbeats 3200000 in
theorem sparts_yes {w:World} {v:Value} {xs:List Nat} {k:Nat} (hv:Vec w v xs) (hk:1<=k) (hk2:k<=255) (hl:xs.length=k * 448) :
 Calls Tryz.prog 59 #[v] w fun e w'=>∃ u us,e=.returned u/\Mat w' u us (SP.parts xs k)/\w.grownBy w' none:=by
 obtain⟨q,N,cap,rfl,hN⟩:=hv.opened
 obtain⟨b,off,rfl,_⟩:=hv.spot (k:=0) (by omega)
 have hcap:N<=cap:=by
  obtain⟨p',cap',e,h3,_⟩:=hv.form
  injection e with e1 e2 e3
  omega
 have HV:Hid (Vec w (.slice (some ⟨b,off,none⟩) N cap) xs):=hv
 have hq:(N:Int) / 448=(k:Int):=by omega
 obtain⟨w1,hmk,hrow,g1⟩:=run_make_rows0 w (n:=k) (by omega)
 have HR:Hid (w1.ownsRow w.heap.size 31 1 (.slice (some ⟨w.heap.size,0,none⟩) 0 k) 0 []):=hrow
 have HG:Hid (w.grownBy w1 none):=g1
 have HN:Hid (N=448 * k/\xs.length=k * 448/\N<=cap/\k<=255):=⟨by omega,hl,hcap,hk2⟩
 clear hv hN hcap hl hrow g1
 go_enter Tryz.func59,Tryz.ntmps59
 go_wp2_with fail
 clear hmk hq
 go_loopw [3,4] (fun tl ti wr=>∃ j:Nat,j<=k/\ti=.int .i64 ((448 * j:Nat):Int)/\Hid (Out w.heap.size wr tl (cutsAt b off j))/\Hid (w.grownBy wr none)) (fun _ ti _=>448 * k - (intOf ti).toNat)
 case atStart=>exact⟨0,by omega,rfl,⟨by simp[cutsAt],HR.out⟩,HG⟩
 case round =>
  clear HR HG
  obtain⟨j,hj,rfl,OK,GK⟩:=hrel
  obtain⟨t,ht⟩:∃ t,t=448 * j:=⟨_,rfl⟩
  rw[<- ht]
  have HT:Hid (t=448 * j):=ht
  by_cases hlt:j < k
  ·have i3:(t:Int) < (N:Int):=by have:=HN.out;omega
   have hn1:(j+1) * 448<=k * 448:=Nat.mul_le_mul_right _ hlt
   obtain⟨t1,ht1⟩:∃ t1,t1=t+448:=⟨_,rfl⟩
   have hw:IntKind.i64.wrap ((t:Int)+448)=(t1:Int):=by
    have e:(t:Int)+448=(t1:Int):=by omega
    rw[e]
    exact IntWalk.i64_in _ (by have:=HN.out;omega)
   have hsl:=fun W=>slice_lhh (b:=b) (off:=off) (n:=N) (c:=cap) (lo:=t) (hi:=t1) (by omega) (by have:=HN.out;omega) (by omega) W
   rw[show t1 - t=448 by omega] at hsl
   have HT1:Hid (t1=448 * (j+1)):=by show _=_;omega
   have HL:Hid ((((cutsAt b off j).length+1) * 24<=140737488351232)):=by show _<=_;rw[cutsAt_len];have:=HN.out;omega
   have HS:Hid (cutsAt b off (j+1)=cutsAt b off j++[.slice (some ⟨b,off+t,none⟩) 448 448]):=by rw[ht];exact cutsAt_succ b off j
   have HLN:Hid ((cutsAt b off j).length=j):=cutsAt_len b off j
   clear ht ht1 hn1
   generalize cutsAt b off j=CJ at *
   go_wp2_with (at_builtin;refine wpList_append_row rfl _ _ rfl _ ⟨wr.heap.size,0,none⟩ rfl rfl (OK.out.keep (World.grownBy_alloc wr _ none)).row (cell_new1 _ _ rfl) rfl (gb_alloc GK.out _).size HL.out ?_;intro v3 w3 r3 g3 at3;have M3:Hid (Out w.heap.size w3 v3 (CJ++[.slice (some ⟨b,off+t,none⟩) 448 448])):=⟨by have:=HL.out;simpa using this,by simpa using r3⟩;have G3:Hid (w.grownBy w3 none):=grown_new (gb_alloc GK.out _) g3 (fun i e=>OK.out.lo i e);clear r3 g3 at3)
   go_roundw
   case rel=>exact⟨j+1,by omega,by rw[HT1.out],by rw[HS.out];exact M3.out,G3⟩
   case measure =>
    have:=HT1.out
    have:=HT.out
    have:=HN.out
    simp[intOf]
    omega
  ·have i3:¬ (t:Int) < (N:Int):=by have:=HN.out;omega
   have hjk:j=k:=by omega
   subst hjk
   clear ht
   go_wp2
   go_ret
   first
    | exact⟨_,_,rfl,cuts_mat (HV.out.keep GK.out) HN.out.2.1 OK.out,GK.out⟩
    | exact⟨_,rfl,⟨_,cuts_mat (HV.out.keep GK.out) HN.out.2.1 OK.out⟩,GK.out⟩
theorem wrTo_len (R:AM.Raw) (g:SP.Geo) (slot m:Nat) (E:List (List Nat)):∀ d,(SP.wrTo R g slot m E d).2.L.length<=R.L.length+8 * d
 | 0=>by simp[SP.wrTo]
 | d+1=>by
   have:=wrTo_len R g slot m E d
   unfold SP.wrTo
   split
   ·have:=layTo_len (SP.wrTo R g slot m E d).2 g slot d (CM.secs m (E.getD d []) 8) 8
    unfold SP.lays
    omega
   ·omega
section
variable {F F':Nat->Prop} {w w':World} {s a:Nat} {g:SP.Geo} {R R':AM.Raw}
theorem sencode (hg:g.Ok R) {u:Value} {us:List Value} {xs:List Nat} (hl:xs.length=g.k * 448) (hm:Mat w u us (SP.parts xs g.k)) :
 Calls Tryz.prog 58 #[.int .i64 (g.k:Int),.int .i64 (g.n:Int),u] w fun e w'=>∃ p n c us',e=.returned (.tuple #[.slice p n c,.int .i64 0])/\OwnMat w.heap.size w' (.slice p n c) us' (SP.code g xs)/\w.grownBy w' none:=by
 have hf:=SP.parts_fits hg hl
 have e1:encL (g.k:Int) (g.n:Int) (SP.parts xs g.k)=SP.code g xs:=by
  unfold encL SP.code
  rw[if_pos hf,Int.toNat_natCast,Int.toNat_natCast,(SP.parts_shape hl).row 0 (by have:=hg.k1;omega)]
 have e2:encE (g.k:Int) (g.n:Int) (SP.parts xs g.k)=0:=if_pos hf
 have:=encode_all (g.k:Int) (g.n:Int) hm
 rw[e1,e2] at this
 refine this.mono ?_
 rintro e w' ⟨p,n,c,us',rfl,h1,_,h2⟩
 exact⟨p,n,c,us',rfl,h1,h2⟩
theorem swrite_err (h:SI F w s a g R) {slot:Int} {m:Nat} {v:Value} (hy:SP.why R g slot ≠ 0) :
 Calls Tryz.prog 13 #[ptr s,.int .i64 slot,.int .u64 (m:Int),v] w fun e w'=>e=.returned (.int .i64 (SP.why R g slot:Int))/\w'=w:=by
 obtain⟨y,hy1⟩:∃ y,y=SP.why R g slot:=⟨_,rfl⟩
 have HR:Hid (Calls Tryz.prog 57 #[ptr s,.int .i64 slot] w fun e w''=>e=.returned (.int .i64 (y:Int))/\w''=w):=by rw[hy1];exact sreach_yes h slot
 rw[<- hy1] at hy ⊢
 have hne:((y:Int) != 0)=true:=neb_yes (b:=0) hy
 clear h hy hy1
 go_enter Tryz.func13,Tryz.ntmps13
 go_wp2_with (go_at_call 57;refine HR.out.mono ?_;rintro e w9 ⟨rfl,hw9⟩;obtain rfl:=hw9.symm;clear hw9)
 go_ret
 exact⟨rfl,rfl⟩
theorem swrite_arg (h:SI F w s a g R) {slot:Int} {m:Nat} {v:Value} {xs:List Nat} (hv:Vec w v xs) (hy:SP.why R g slot=0) (ha:m=0\/xs.length ≠ g.k * 448) :
 Calls Tryz.prog 13 #[ptr s,.int .i64 slot,.int .u64 (m:Int),v] w fun e w'=>e=.returned (.int .i64 1)/\w'=w:=by
 obtain⟨q,N,cap,rfl,hN⟩:=hv.opened
 have HR:Hid (Calls Tryz.prog 57 #[ptr s,.int .i64 slot] w fun e w''=>e=.returned (.int .i64 0)/\w''=w):=sreach_at h (by rw[hy];rfl)
 have c1:=h.at2
 have hk:g.k<=255:=by have:=h.ok.kn;have:=h.ok.n255;omega
 have hw:IntKind.i64.wrap ((g.k:Int) * 448)=(g.k:Int) * 448:=IntWalk.i64_in _ (by omega)
 by_cases hm:m=0
 ·subst hm
  clear h hy ha hv hN
  go_enter Tryz.func13,Tryz.ntmps13
  go_wp2_with (go_at_call 57;refine HR.out.mono ?_;rintro e w9 ⟨rfl,hw9⟩;obtain rfl:=hw9.symm;clear hw9)
  go_ret
  exact⟨rfl,rfl⟩
 ·have i1:((m:Int)==0)=false:=eqb_no (b:=0) hm
  have i2:((N:Int) != (g.k:Int) * 448)=true:=by
   have:N ≠ g.k * 448:=by rcases ha with h' | h' <;> omega
   have:=neb_yes this
   rwa [Int.natCast_mul] at this
  clear h hy ha hv hN
  go_enter Tryz.func13,Tryz.ntmps13
  go_wp2_with (go_at_call 57;refine HR.out.mono ?_;rintro e w9 ⟨rfl,hw9⟩;obtain rfl:=hw9.symm;clear hw9)
  go_ret
  exact⟨rfl,rfl⟩
set_option maxHeartbeats 6400000 in
theorem swrite_few (h:SI F w s a g R) {slot:Int} {m:Nat} {v:Value} {xs:List Nat} (hv:Vec w v xs) (hy:SP.why R g slot=0) (hm:m ≠ 0) (hl:xs.length=g.k * 448) (ho:R.ons < g.k) :
 Calls Tryz.prog 13 #[ptr s,.int .i64 slot,.int .u64 (m:Int),v] w fun e w'=>e=.returned (.int .i64 20)/\w.grownBy w' none:=by
 obtain⟨q,N,cap,rfl,hN⟩:=hv.opened
 have HR:Hid (Calls Tryz.prog 57 #[ptr s,.int .i64 slot] w fun e w''=>e=.returned (.int .i64 0)/\w''=w):=sreach_at h (by rw[hy];rfl)
 have c1:=h.at2
 have HS:Hid (∀ w',w.grownBy w' none->w'.cell? ⟨s,0,none⟩=some (ptr a)/\w'.cell? ⟨s,1,none⟩=some (.int .i64 (g.k:Int))):=fun w' g'=>⟨(h.keep g').at1,(h.keep g').at2⟩
 obtain⟨O,hO⟩:∃ O,O=R.ons:=⟨_,rfl⟩
 have HO:Hid (Calls Tryz.prog 46 #[ptr a] (w.drewN 1) fun e w'=>e=.returned (.int .i64 (O:Int))/\w'=w.drewN 1):=by rw[hO];exact ons_yes (h.i.keep (grown_drewN w 1))
 have hk:g.k<=255:=by have:=h.ok.kn;have:=h.ok.n255;omega
 have hw:IntKind.i64.wrap ((g.k:Int) * 448)=(g.k:Int) * 448:=IntWalk.i64_in _ (by omega)
 have i1:((m:Int)==0)=false:=eqb_no (b:=0) hm
 have i2:((N:Int) != (g.k:Int) * 448)=false:=by
  have:N=g.k * 448:=by omega
  have:=neb_no this
  rwa [Int.natCast_mul] at this
 have i3:(O:Int) < (g.k:Int):=by omega
 clear h hy hv hN hm hl ho hO hk
 go_enter Tryz.func13,Tryz.ntmps13
 go_wp2_with (first | (go_at_call 57;refine HR.out.mono ?_;rintro e w9 ⟨rfl,hw9⟩;obtain rfl:=hw9.symm;clear hw9) | fail)
 go_region_held3 (fun w'=>w'.cell? ⟨s,0,none⟩=some (ptr a)/\w'.cell? ⟨s,1,none⟩=some (.int .i64 (g.k:Int))) (exact HS.out _ (grown_drewN w 1))
  ((go_at_call 46;refine HO.out.mono ?_;rintro e w9 ⟨rfl,hw9⟩;obtain rfl:=hw9.symm;clear hw9))
 go_wp2
 go_ret
 exact⟨rfl,grown_drewN w 1⟩
set_option maxHeartbeats 6400000 in
theorem swrite_main (h:SI F w s a g R) {slot m:Nat} {v:Value} {xs:List Nat} (hv:Aw F w v xs) (hL:R.L.length<=990000) (hy:SP.why R g (slot:Int)=0) (hm:m ≠ 0) (hl:xs.length=g.k * 448) (ho:¬ R.ons < g.k) :
 Calls Tryz.prog 13 #[ptr s,.int .i64 (slot:Int),.int .u64 (m:Int),v] w fun e w'=>e=.returned (.int .i64 ((SP.wrTo R g slot m (SP.code g xs) g.n).1:Int))/\∃ F',SI F' w' s a g (SP.wrTo R g slot m (SP.code g xs) g.n).2/\Step F w F' w':=by
 obtain⟨q,N,cap,rfl,hN⟩:=hv.vec.opened
 have HR:Hid (Calls Tryz.prog 57 #[ptr s,.int .i64 (slot:Int)] w fun e w''=>e=.returned (.int .i64 0)/\w''=w):=sreach_at h (by rw[hy];rfl)
 obtain⟨q0,q1,q2⟩:=SP.why_zero hy
 have c1:=h.at2
 have H:Hid (SI F w s a g R):=h
 have HS:Hid (∀ w',w.grownBy w' none->w'.cell? ⟨s,0,none⟩=some (ptr a)/\w'.cell? ⟨s,1,none⟩=some (.int .i64 (g.k:Int))/\w'.cell? ⟨s,2,none⟩=some (.int .i64 (g.n:Int))):=fun w' g'=>⟨(h.keep g').at1,(h.keep g').at2,(h.keep g').at3⟩
 obtain⟨O,hO⟩:∃ O,O=R.ons:=⟨_,rfl⟩
 have HO:Hid (Calls Tryz.prog 46 #[ptr a] (w.drewN 1) fun e w'=>e=.returned (.int .i64 (O:Int))/\w'=w.drewN 1):=by rw[hO];exact ons_yes (h.i.keep (grown_drewN w 1))
 have hk:g.k<=255:=by have:=h.ok.kn;have:=h.ok.n255;omega
 have hw:IntKind.i64.wrap ((g.k:Int) * 448)=(g.k:Int) * 448:=IntWalk.i64_in _ (by omega)
 have i1:((m:Int)==0)=false:=eqb_no (b:=0) hm
 have i2:((N:Int) != (g.k:Int) * 448)=false:=by
  have:N=g.k * 448:=by omega
  have:=neb_no this
  rwa [Int.natCast_mul] at this
 have i3:¬ (O:Int) < (g.k:Int):=by omega
 have PA:Hid (∀ w',w.grownBy w' none->Calls Tryz.prog 59 #[.slice q N cap] w' fun e w''=>∃ u us,e=.returned u/\Mat w'' u us (SP.parts xs g.k)/\w'.grownBy w'' none):=fun w' g1=>sparts_yes (hv.vec.keep g1) h.ok.k1 hk hl
 have EN:Hid (∀ w' u us,Mat w' u us (SP.parts xs g.k)->Calls Tryz.prog 58 #[.int .i64 (g.k:Int),.int .i64 (g.n:Int),u] w' fun e w''=>∃ p n c us',e=.returned (.tuple #[.slice p n c,.int .i64 0])/\OwnMat w'.heap.size w'' (.slice p n c) us' (SP.code g xs)/\w'.grownBy w'' none):=fun w' u us m1=>sencode h.ok hl m1
 have HN:Hid (slot < g.s/\R.L.length<=990000/\m ≠ 0/\g.n<=255):=⟨by omega,hL,hm,h.ok.n255⟩
 have hn255:g.n<=255:=h.ok.n255
 have HRow:Hid (∀ d,d < g.n->((SP.code g xs).getD d []).length=448):=fun d hd=>SP.code_row g xs hd
 have HCL:Hid ((SP.code g xs).length=g.n):=SP.code_len g xs
 have HK:Hid (∀ d,SP.Kept R (SP.wrTo R g slot m (SP.code g xs) d).2):=SP.wrTo_kept R g slot m (SP.code g xs)
 have HLL:Hid (∀ d,(SP.wrTo R g slot m (SP.code g xs) d).2.L.length<=R.L.length+8 * d):=wrTo_len R g slot m (SP.code g xs)
 have HX0:Hid (SP.wrTo R g slot m (SP.code g xs) 0=(0,R)):=rfl
 have HX1:Hid (∀ d:Nat,(SP.wrTo R g slot m (SP.code g xs) d).1=0->R.on (d:Int)=true->SP.wrTo R g slot m (SP.code g xs) (d+1)=SP.lays (SP.wrTo R g slot m (SP.code g xs) d).2 g slot d m ((SP.code g xs).getD d [])):=fun d h0 h1=>SP.wrTo_on h0 h1
 have HX2:Hid (∀ d:Nat,R.on (d:Int)=false->SP.wrTo R g slot m (SP.code g xs) (d+1)=SP.wrTo R g slot m (SP.code g xs) d):=fun d h1=>SP.wrTo_off h1
 have HX3:Hid (∀ d,d<=g.n->(SP.wrTo R g slot m (SP.code g xs) d).1 ≠ 0->SP.wrTo R g slot m (SP.code g xs) g.n=SP.wrTo R g slot m (SP.code g xs) d):=fun d hd h0=>SP.wrTo_stop h0 g.n hd
 clear h hy hv hN hm hl ho hO hk q0 q1 q2 hL
 generalize SP.wrTo R g slot m (SP.code g xs)=WT at *
 generalize SP.code g xs=E at *
 go_enter Tryz.func13,Tryz.ntmps13
 go_wp2_with (first | (go_at_call 57;refine HR.out.mono ?_;rintro e w9 ⟨rfl,hw9⟩;obtain rfl:=hw9.symm;clear hw9) | fail)
 go_region_held3 (fun w'=>w'.cell? ⟨s,0,none⟩=some (ptr a)/\w'.cell? ⟨s,1,none⟩=some (.int .i64 (g.k:Int))) (exact⟨(HS.out _ (grown_drewN w 1)).1,(HS.out _ (grown_drewN w 1)).2.1⟩)
  ((go_at_call 46;refine HO.out.mono ?_;rintro e w9 ⟨rfl,hw9⟩;obtain rfl:=hw9.symm;clear hw9))
 go_wp2_with fail
 clear c1 hw i1 i2 i3 HO HR
 go_region_held3 (fun w'=>w'.cell? ⟨s,1,none⟩=some (.int .i64 (g.k:Int))/\w'.cell? ⟨s,2,none⟩=some (.int .i64 (g.n:Int))) (first | exact⟨(HS.out _ (grown_trans (grown_drewN w 1) (grown_drewN _ 1))).2.1,(HS.out _ (grown_trans (grown_drewN w 1) (grown_drewN _ 1))).2.2⟩ | exact⟨(HS.out _ G2.out).2.1,(HS.out _ G2.out).2.2⟩ | exact⟨(HS.out _ G3.out).2.1,(HS.out _ G3.out).2.2⟩)
  ((first
    | (go_at_call 59;refine (PA.out _ (grown_trans (grown_drewN w 1) (grown_drewN _ 1))).mono ?_;rintro e w2 ⟨u,us,rfl,m2,g2⟩;have M2:Hid (Mat w2 u us (SP.parts xs g.k)):=m2;have G2:Hid (w.grownBy w2 none):=grown_trans (grown_trans (grown_drewN w 1) (grown_drewN _ 1)) g2;clear m2 g2)
    | (go_at_call 58;refine (EN.out _ _ _ M2.out).mono ?_;rintro e w3 ⟨p3,n3,c3,us3,rfl,m3,g3⟩;have M3:Hid (OwnMat w.heap.size w3 (.slice p3 n3 c3) us3 E):=m3.down G2.out.size;have G3:Hid (w.grownBy w3 none):=grown_trans G2.out g3;clear m3 g3)))
 have HN3:Hid (n3=g.n/\us3.length=g.n):=by
  have h1:=M3.out.same
  have h2:=HCL.out
  have h3:=(mat_n M3.out.mat).1
  exact⟨by omega,by omega⟩
 have hn3:n3=g.n:=HN3.out.1
 have S3:Hid (SI F w3 s a g R):=H.out.keep G3.out
 clear PA EN M2 G2
 subst hn3
 go_wp2_with fail
 go_loopw [66] (fun ti wr=>∃ k:Nat,k<=g.n/\ti=.int .i64 k/\Hid ((WT k).1=0)/\Hid (∃ F',SI F' wr s a g (WT k).2/\Step F w3 F' wr)) (fun ti _=>g.n - (intOf ti).toNat)
 case atStart=>exact⟨0,by omega,rfl,(by show _=_;rw[HX0.out]),⟨F,by rw[HX0.out];exact S3.out,Step.refl _ _⟩⟩
 case round =>
  clear S3
  obtain⟨k,hk,rfl,OK,HRR⟩:=hrel
  obtain⟨F1,i1,st1⟩:=HRR.out
  have I1:Hid (SI F1 wr s a g (WT k).2):=i1
  have T1:Hid (Step F w3 F1 wr):=st1
  clear HRR i1 st1
  by_cases hlt:k < g.n
  ·have i4:(k:Int) < (g.n:Int):=by omega
   have i5:(0:Int)<=(k:Int):=by omega
   obtain⟨b0,off,rfl,hr0⟩:=M3.out.mat.row.spot (k:=k) (by have:=HN3.out;omega)
   obtain⟨pk,nk,ck,ek,hnk⟩:=(M3.out.mat.vec k (by have:=HCL.out;omega)).opened
   have hbk:¬ F b0:=fun hf=>by
    have h1:=M3.out.out.lo b0 rfl
    have h2:=H.out.i.lt b0 hf
    omega
   have hr:=T1.out.upd.cell hr0 hbk
   have AV:Hid (Vec wr (.slice pk nk ck) (E.getD k [])):=by
    have hv:=M3.out.vec k (by have:=HCL.out;omega)
    rw[ek] at hv
    exact hv.vec.upd T1.out.upd (fun _ g' hg' hf=>by
     have h1:=hv.lo g' hg'
     have h2:=H.out.i.lt g' hf
     omega)
   rw[ek] at hr
   have c0:=I1.out.at1
   clear hr0 ek hnk hbk
   obtain⟨o,ho⟩:∃ o,o=R.on (k:Int):=⟨_,rfl⟩
   have ON:Hid (Calls Tryz.prog 51 #[ptr a,.int .i64 (k:Int)] wr fun e w'=>e=.returned (.bool o)/\w'=wr):=by
    rw[ho,<- (HK.out k).on];exact on_yes I1.out.i (k:Int)
   cases o
   ·have HX:Hid (WT (k+1)=WT k):=HX2.out k ho.symm
    clear ho
    go_wp2_with (go_at_call 51;refine ON.out.mono ?_;rintro e w9 ⟨rfl,hw9⟩;obtain rfl:=hw9.symm;clear hw9)
    go_roundw
    case rel=>exact⟨k+1,by omega,by go_num,(by show _=_;rw[HX.out];exact OK.out),⟨F1,by rw[HX.out];exact I1.out,T1.out⟩⟩
    case measure=>simp[intOf];omega
   ·have HX:=HX1.out k OK.out ho.symm
    obtain⟨c,hc⟩:∃ c,c=(WT (k+1)).1:=⟨_,rfl⟩
    have LA:Hid (Calls Tryz.prog 60 #[ptr s,.int .i64 (k:Int),.int .i64 (slot:Int),.int .u64 (m:Int),.slice pk nk ck] wr fun e w'=>e=.returned (.int .i64 (c:Int))/\∃ F',SI F' w' s a g (WT (k+1)).2/\Step F w3 F' w'):=by
     rw[hc,HX]
     refine (slay_any I1.out (d:=k) HN.out.1 AV.out HN.out.2.2.1 (HRow.out k hlt) (by have h1:=HLL.out k;have h2:=HN.out.2.1;omega)).mono ?_
     rintro e w9 ⟨rfl,F9,i9,s9⟩
     exact⟨rfl,F9,i9,T1.out.trans s9⟩
    have HCE:Hid (c=(WT (k+1)).1):=hc
    clear ho HX hc AV
    by_cases h0:c=0
    ·subst h0
     go_wp2_with (first
      | (go_at_call 51;refine ON.out.mono ?_;rintro e w9 ⟨rfl,hw9⟩;obtain rfl:=hw9.symm;clear hw9)
      | (go_at_call 60;refine LA.out.mono ?_;rintro e w4 ⟨rfl,F4,i4',st4⟩;have I4:Hid (SI F4 w4 s a g (WT (k+1)).2):=i4';have T4:Hid (Step F w3 F4 w4):=st4;clear i4' st4))
     go_roundw
     case rel=>exact⟨k+1,by omega,by go_num,HCE.out.symm,⟨F4,I4.out,T4.out⟩⟩
     case measure=>simp[intOf];omega
    ·have hne:((c:Int) != 0)=true:=neb_yes (b:=0) h0
     have HEQ:Hid (WT g.n=WT (k+1)):=HX3.out (k+1) (by omega) (by rw[<- HCE.out];exact h0)
     go_wp2_with (first
      | (go_at_call 51;refine ON.out.mono ?_;rintro e w9 ⟨rfl,hw9⟩;obtain rfl:=hw9.symm;clear hw9)
      | (go_at_call 60;refine LA.out.mono ?_;rintro e w4 ⟨rfl,F4,i4',st4⟩;have I4:Hid (SI F4 w4 s a g (WT (k+1)).2):=i4';have T4:Hid (Step F w3 F4 w4):=st4;clear i4' st4))
     go_ret
     rw[HEQ.out,<- HCE.out]
     exact⟨rfl,F4,I4.out,(Step.new G3.out).trans T4.out⟩
  ·have i4:¬ (k:Int) < (g.n:Int):=by omega
   have hkn:Hid (k=g.n):=by show _=_;omega
   go_wp2
   go_ret
   rw[<- hkn.out,OK.out]
   exact⟨rfl,F1,I1.out,(Step.new G3.out).trans T1.out⟩
theorem swrite_all (h:SI F w s a g R) (slot:Int) (m:Nat) {v:Value} {xs:List Nat} (hv:Aw F w v xs) (hL:R.L.length<=990000) :
 Calls Tryz.prog 13 #[ptr s,.int .i64 slot,.int .u64 (m:Int),v] w fun e w'=>e=.returned (.int .i64 ((SP.write R g slot m xs).1:Int))/\∃ F',SI F' w' s a g (SP.write R g slot m xs).2/\Step F w F' w':=by
 unfold SP.write
 by_cases hy:SP.why R g slot=0
 ·rw[if_neg (by omega)]
  by_cases ha:m=0\/xs.length ≠ g.k * 448
  ·rw[if_pos ha]
   refine (swrite_arg h hv.vec hy ha).mono ?_
   rintro e w' ⟨rfl,rfl⟩
   exact⟨rfl,F,h,Step.refl _ _⟩
  ·rw[if_neg ha]
   by_cases ho:R.ons < g.k
   ·rw[if_pos ho]
    refine (swrite_few h hv.vec hy (by omega) (by omega) ho).mono ?_
    rintro e w' ⟨rfl,g1⟩
    exact⟨rfl,F,h.keep g1,Step.new g1⟩
   ·rw[if_neg ho]
    obtain⟨_,q1,_⟩:=SP.why_zero hy
    obtain⟨n,rfl⟩:∃ n:Nat,slot=(n:Int):=⟨slot.toNat,by omega⟩
    rw[Int.toNat_natCast]
    exact swrite_main h hv hL hy (by omega) (by omega) ho
 ·rw[if_pos hy]
  refine (swrite_err h hy).mono ?_
  rintro e w' ⟨rfl,rfl⟩
  exact⟨rfl,F,h,Step.refl _ _⟩
end
def cutsR (b off c j:Nat):List Value:=(List.range j).map fun i=>.slice (some ⟨b,off+448 * i,none⟩) 448 (c - 448 * i)
theorem cutsR_len (b off c j:Nat):(cutsR b off c j).length=j:=by simp[cutsR]
theorem cutsR_succ (b off c j:Nat):cutsR b off c (j+1)=cutsR b off c j++[.slice (some ⟨b,off+448 * j,none⟩) 448 (c - 448 * j)]:=by simp[cutsR,List.range_succ]
theorem Vec.partR {w:World} {b off n c i:Nat} {xs:List Nat} (h:Vec w (.slice (some ⟨b,off,none⟩) n c) xs) (hi:448 * i+448<=xs.length):Vec w (.slice (some ⟨b,off+448 * i,none⟩) 448 (c - 448 * i)) ((xs.drop (448 * i)).take 448) :=
 (h.tail_a (n:=448 * i) (by omega)).cut (n:=448) (by rw[List.length_drop];omega)
theorem cutsR_mat {w:World} {B b off n c k:Nat} {v:Value} {xs:List Nat} (h:Vec w (.slice (some ⟨b,off,none⟩) n c) xs) (hl:xs.length=k * 448) (o:Out B w v (cutsR b off c k)):Mat w v (cutsR b off c k) (SP.parts xs k) :=
 ⟨o.cells,by rw[cutsR_len,SP.parts_len],fun j hj=>by
   rw[SP.parts_len] at hj
   rw[SP.parts_get xs hj,show (cutsR b off c k).getD j undef=.slice (some ⟨b,off+448 * j,none⟩) 448 (c - 448 * j) from by simp[cutsR,List.getD,hj]]
   exact h.partR (by have:(j+1) * 448<=k * 448:=Nat.mul_le_mul_right _ hj
                     omega)⟩
section
variable {G G':Nat->Prop} {w w':World} {t r:Nat} {g:SP.Geo} {R R':AM.Raw}
theorem RSI.ons (h:RSI G w t r g R):Calls Tryz.prog 47 #[rptr r] w fun e w'=>e=.returned (.int .i64 (R.ons:Int))/\w'=w:=by
 obtain⟨A,hj,hs⟩:=h.j
 have:=rons_yes hj
 rw[hs.ons] at this
 exact this
theorem rswrite_err (h:RSI G w t r g R) {slot:Int} {m:Nat} {v:Value} (hy:SP.why R g slot ≠ 0) :
 Calls Tryz.prog 31 #[tptr t,.int .i64 slot,.int .u64 (m:Int),v] w fun e w'=>e=.returned (.int .i64 (SP.why R g slot:Int))/\w'=w:=by
 obtain⟨y,hy1⟩:∃ y,y=SP.why R g slot:=⟨_,rfl⟩
 have HR:Hid (Calls Tryz.prog 84 #[tptr t,.int .i64 0,.int .i64 slot] w fun e w''=>e=.returned (.int .i64 (y:Int))/\w''=w):=by rw[hy1];exact rswhy_0 h rfl
 rw[<- hy1] at hy ⊢
 have hne:((y:Int) != 0)=true:=neb_yes (b:=0) hy
 clear h hy hy1
 go_enter Tryz.func31,Tryz.ntmps31
 go_wp2_with (go_at_call 84;refine HR.out.mono ?_;rintro e w9 ⟨rfl,hw9⟩;obtain rfl:=hw9.symm;clear hw9)
 go_ret
 exact⟨rfl,rfl⟩
theorem rswrite_arg (h:RSI G w t r g R) {slot:Int} {m:Nat} {v:Value} {xs:List Nat} (hv:Vec w v xs) (hy:SP.why R g slot=0) (ha:m=0\/xs.length ≠ g.k * 448) :
 Calls Tryz.prog 31 #[tptr t,.int .i64 slot,.int .u64 (m:Int),v] w fun e w'=>e=.returned (.int .i64 1)/\w'=w:=by
 obtain⟨q,N,cap,rfl,hN⟩:=hv.opened
 have HR:Hid (Calls Tryz.prog 84 #[tptr t,.int .i64 0,.int .i64 slot] w fun e w''=>e=.returned (.int .i64 0)/\w''=w):=rswhy_0 h (by rw[hy];rfl)
 have c1:=h.at2
 have hk:g.k<=255:=by have:=h.ok.kn;have:=h.ok.n255;omega
 have hw:IntKind.i64.wrap ((g.k:Int) * 448)=(g.k:Int) * 448:=IntWalk.i64_in _ (by omega)
 by_cases hm:m=0
 ·subst hm
  clear h hy ha hv hN
  go_enter Tryz.func31,Tryz.ntmps31
  go_wp2_with (go_at_call 84;refine HR.out.mono ?_;rintro e w9 ⟨rfl,hw9⟩;obtain rfl:=hw9.symm;clear hw9)
  go_ret
  exact⟨rfl,rfl⟩
 ·have i1:((m:Int)==0)=false:=eqb_no (b:=0) hm
  have i2:((N:Int) != (g.k:Int) * 448)=true:=by
   have:N ≠ g.k * 448:=by rcases ha with h' | h' <;> omega
   have:=neb_yes this
   rwa [Int.natCast_mul] at this
  clear h hy ha hv hN
  go_enter Tryz.func31,Tryz.ntmps31
  go_wp2_with (go_at_call 84;refine HR.out.mono ?_;rintro e w9 ⟨rfl,hw9⟩;obtain rfl:=hw9.symm;clear hw9)
  go_ret
  exact⟨rfl,rfl⟩
set_option maxHeartbeats 6400000 in
theorem rswrite_few (h:RSI G w t r g R) {slot:Int} {m:Nat} {v:Value} {xs:List Nat} (hv:Vec w v xs) (hy:SP.why R g slot=0) (hm:m ≠ 0) (hl:xs.length=g.k * 448) (ho:R.ons < g.k) :
 Calls Tryz.prog 31 #[tptr t,.int .i64 slot,.int .u64 (m:Int),v] w fun e w'=>e=.returned (.int .i64 20)/\w.grownBy w' none:=by
 obtain⟨q,N,cap,rfl,hN⟩:=hv.opened
 have HR:Hid (Calls Tryz.prog 84 #[tptr t,.int .i64 0,.int .i64 slot] w fun e w''=>e=.returned (.int .i64 0)/\w''=w):=rswhy_0 h (by rw[hy];rfl)
 have c1:=h.at2
 have HS:Hid (∀ w',w.grownBy w' none->w'.cell? ⟨t,0,none⟩=some (rptr r)/\w'.cell? ⟨t,1,none⟩=some (.int .i64 (g.k:Int))):=fun w' g'=>⟨(h.keep g').at1,(h.keep g').at2⟩
 obtain⟨O,hO⟩:∃ O,O=R.ons:=⟨_,rfl⟩
 have HO:Hid (Calls Tryz.prog 47 #[rptr r] (w.drewN 1) fun e w'=>e=.returned (.int .i64 (O:Int))/\w'=w.drewN 1):=by rw[hO];exact (h.keep (grown_drewN w 1)).ons
 have hk:g.k<=255:=by have:=h.ok.kn;have:=h.ok.n255;omega
 have hw:IntKind.i64.wrap ((g.k:Int) * 448)=(g.k:Int) * 448:=IntWalk.i64_in _ (by omega)
 have i1:((m:Int)==0)=false:=eqb_no (b:=0) hm
 have i2:((N:Int) != (g.k:Int) * 448)=false:=by
  have:N=g.k * 448:=by omega
  have:=neb_no this
  rwa [Int.natCast_mul] at this
 have i3:(O:Int) < (g.k:Int):=by omega
 clear h hy hv hN hm hl ho hO hk
 go_enter Tryz.func31,Tryz.ntmps31
 go_wp2_with (first | (go_at_call 84;refine HR.out.mono ?_;rintro e w9 ⟨rfl,hw9⟩;obtain rfl:=hw9.symm;clear hw9) | fail)
 go_region_held3 (fun w'=>w'.cell? ⟨t,0,none⟩=some (rptr r)/\w'.cell? ⟨t,1,none⟩=some (.int .i64 (g.k:Int))) (exact HS.out _ (grown_drewN w 1))
  ((go_at_call 47;refine HO.out.mono ?_;rintro e w9 ⟨rfl,hw9⟩;obtain rfl:=hw9.symm;clear hw9))
 go_wp2
 go_ret
 exact⟨rfl,grown_drewN w 1⟩
set_option maxHeartbeats 6400000 in
theorem rswrite_main (h:RSI G w t r g R) {slot m:Nat} {v:Value} {xs:List Nat} (hv:Vec w v xs) (hL:R.L.length<=990000) (hy:SP.why R g (slot:Int)=0) (hm:m ≠ 0) (hm2:m < 18446744073709551616) (hl:xs.length=g.k * 448) (ho:¬ R.ons < g.k) :
 Calls Tryz.prog 31 #[tptr t,.int .i64 (slot:Int),.int .u64 (m:Int),v] w fun e w'=>e=.returned (.int .i64 ((SP.wrTo R g slot m (SP.code g xs) g.n).1:Int))/\∃ G',RSI G' w' t r g (SP.wrTo R g slot m (SP.code g xs) g.n).2/\Step G w G' w':=by
 obtain⟨q,N,cap,rfl,hN⟩:=hv.opened
 have hk1:=h.ok.k1
 obtain⟨b,off,rfl,_⟩:=hv.spot (k:=0) (by omega)
 have hcap:N<=cap:=by
  obtain⟨p',cap',e,h3,_⟩:=hv.form
  injection e with e1 e2 e3
  omega
 have HR:Hid (Calls Tryz.prog 84 #[tptr t,.int .i64 0,.int .i64 (slot:Int)] w fun e w''=>e=.returned (.int .i64 0)/\w''=w):=rswhy_0 h (by rw[hy];rfl)
 obtain⟨q0,q1,q2⟩:=SP.why_zero hy
 have c1:=h.at2
 have H:Hid (RSI G w t r g R):=h
 have HS:Hid (∀ w',w.grownBy w' none->w'.cell? ⟨t,0,none⟩=some (rptr r)/\w'.cell? ⟨t,1,none⟩=some (.int .i64 (g.k:Int))/\w'.cell? ⟨t,2,none⟩=some (.int .i64 (g.n:Int))):=fun w' g'=>⟨(h.keep g').at1,(h.keep g').at2,(h.keep g').at3⟩
 obtain⟨O,hO⟩:∃ O,O=R.ons:=⟨_,rfl⟩
 have HO:Hid (Calls Tryz.prog 47 #[rptr r] (w.drewN 1) fun e w'=>e=.returned (.int .i64 (O:Int))/\w'=w.drewN 1):=by rw[hO];exact (h.keep (grown_drewN w 1)).ons
 have hk:g.k<=255:=by have:=h.ok.kn;have:=h.ok.n255;omega
 have hw:IntKind.i64.wrap ((g.k:Int) * 448)=(g.k:Int) * 448:=IntWalk.i64_in _ (by omega)
 have i1:((m:Int)==0)=false:=eqb_no (b:=0) hm
 have i2:((N:Int) != (g.k:Int) * 448)=false:=by
  have:N=g.k * 448:=by omega
  have:=neb_no this
  rwa [Int.natCast_mul] at this
 have i3:¬ (O:Int) < (g.k:Int):=by omega
 have HV:Hid (Vec w (.slice (some ⟨b,off,none⟩) N cap) xs):=hv
 have HNX:Hid (N=448 * g.k/\xs.length=g.k * 448/\N<=cap/\g.k<=255):=⟨by omega,hl,hcap,hk⟩
 have EN:Hid (∀ (w':World) (u:Value) (us:List Value),Mat w' u us (SP.parts xs g.k)->Calls Tryz.prog 85 #[.int .i64 (g.k:Int),.int .i64 (g.n:Int),u] w' fun e w''=>∃ p n c us',e=.returned (.tuple #[.slice p n c,.int .i64 0])/\OwnMat w'.heap.size w'' (.slice p n c) us' (SP.code g xs)/\w'.grownBy w'' none):=fun w' u us m1=>by
  refine (refEncode_yes m1 (SP.parts_shape hl) h.ok.k1 h.ok.kn h.ok.n255).mono ?_
  rintro e w2 ⟨p,n,c,us',rfl,o1,_,g1⟩
  exact⟨p,n,c,us',rfl,o1,g1⟩
 have HN:Hid (slot < g.s/\R.L.length<=990000/\m ≠ 0/\g.n<=255/\m < 18446744073709551616):=⟨by omega,hL,hm,h.ok.n255,hm2⟩
 have hn255:g.n<=255:=h.ok.n255
 have HRow:Hid (∀ (d:Nat),d < g.n->((SP.code g xs).getD d []).length=448):=fun d hd=>SP.code_row g xs hd
 have HCL:Hid ((SP.code g xs).length=g.n):=SP.code_len g xs
 have HK:Hid (∀ (d:Nat),SP.Kept R (SP.wrTo R g slot m (SP.code g xs) d).2):=SP.wrTo_kept R g slot m (SP.code g xs)
 have HLL:Hid (∀ (d:Nat),(SP.wrTo R g slot m (SP.code g xs) d).2.L.length<=R.L.length+8 * d):=wrTo_len R g slot m (SP.code g xs)
 have HX0:Hid (SP.wrTo R g slot m (SP.code g xs) 0=(0,R)):=rfl
 have HX1:Hid (∀ d:Nat,(SP.wrTo R g slot m (SP.code g xs) d).1=0->R.on (d:Int)=true->SP.wrTo R g slot m (SP.code g xs) (d+1)=SP.lays (SP.wrTo R g slot m (SP.code g xs) d).2 g slot d m ((SP.code g xs).getD d [])):=fun d h0 h1=>SP.wrTo_on h0 h1
 have HX2:Hid (∀ d:Nat,R.on (d:Int)=false->SP.wrTo R g slot m (SP.code g xs) (d+1)=SP.wrTo R g slot m (SP.code g xs) d):=fun d h1=>SP.wrTo_off h1
 have HX3:Hid (∀ (d:Nat),d<=g.n->(SP.wrTo R g slot m (SP.code g xs) d).1 ≠ 0->SP.wrTo R g slot m (SP.code g xs) g.n=SP.wrTo R g slot m (SP.code g xs) d):=fun d hd h0=>SP.wrTo_stop h0 g.n hd
 clear h hy hv hN hm hm2 hl ho hO q0 q1 q2 hL hcap
 generalize SP.wrTo R g slot m (SP.code g xs)=WT at *
 generalize SP.code g xs=E at *
 go_enter Tryz.func31,Tryz.ntmps31
 go_wp2_with (first | (go_at_call 84;refine HR.out.mono ?_;rintro e w9 ⟨rfl,hw9⟩;obtain rfl:=hw9.symm;clear hw9) | fail)
 go_region_held3 (fun w'=>w'.cell? ⟨t,0,none⟩=some (rptr r)/\w'.cell? ⟨t,1,none⟩=some (.int .i64 (g.k:Int))) (exact⟨(HS.out _ (grown_drewN w 1)).1,(HS.out _ (grown_drewN w 1)).2.1⟩)
  ((go_at_call 47;refine HO.out.mono ?_;rintro e w9 ⟨rfl,hw9⟩;obtain rfl:=hw9.symm;clear hw9))
 go_wp2_with fail
 clear c1 hw i1 i2 i3 HO HR
 (try generalize decide ((O:Int) < (g.k:Int))=dd1 at *)
 (try generalize decide (O < g.k)=dd2 at *)
 go_loopw [10,11] (fun tl ti wr=>∃ j:Nat,j<=g.k/\ti=.int .i64 (j:Int)/\Hid (Out w.heap.size wr tl (cutsR b off cap j))/\Hid (w.grownBy wr none)) (fun _ ti _=>g.k - (intOf ti).toNat)
 case atStart=>exact⟨0,by omega,rfl,⟨by simp[cutsR],World.ownsRow_nil _ _ _ _⟩,grown_drewN w 1⟩
 case round =>
  obtain⟨j,hj,rfl,OK,GK⟩:=hrel
  have c1:=(HS.out _ GK.out).2.1
  by_cases hlt:j < g.k
  ·have i3:(j:Int) < (g.k:Int):=by omega
   have hn1:(j+1) * 448<=g.k * 448:=Nat.mul_le_mul_right _ hlt
   obtain⟨x0,hx0⟩:∃ x0,x0=448 * j:=⟨_,rfl⟩
   obtain⟨x1,hx1⟩:∃ x1,x1=x0+448:=⟨_,rfl⟩
   have hw0:IntKind.i64.wrap (448 * (j:Int))=(x0:Int):=by
    rw[show 448 * (j:Int)=(x0:Int) by omega];exact IntWalk.i64_in _ (by omega)
   have hw1:IntKind.i64.wrap ((x0:Int)+448)=(x1:Int):=by
    rw[show (x0:Int)+448=(x1:Int) by omega];exact IntWalk.i64_in _ (by omega)
   have hsl:=fun W=>slice_lh (b:=b) (off:=off) (n:=N) (c:=cap) (lo:=x0) (hi:=x1) (by omega) (by have:=HNX.out;omega) (by have:=HNX.out;omega) W
   rw[show x1 - x0=448 by omega] at hsl
   have HL:Hid ((((cutsR b off cap j).length+1) * 24<=140737488351232)):=by show _<=_;rw[cutsR_len];omega
   have HSU:Hid (cutsR b off cap (j+1)=cutsR b off cap j++[.slice (some ⟨b,off+x0,none⟩) 448 (cap - x0)]):=by rw[hx0];exact cutsR_succ b off cap j
   clear hx0 hx1 hn1
   generalize cutsR b off cap j=CJ at *
   generalize cap - x0=cp at *
   go_wp2_with (at_builtin;refine wpList_append_row rfl _ _ rfl _ ⟨wr.heap.size,0,none⟩ rfl rfl (OK.out.keep (World.grownBy_alloc wr _ none)).row (cell_new1 _ _ rfl) rfl (gb_alloc GK.out _).size HL.out ?_;intro v3 w3 r3 g3 at3;have M3:Hid (Out w.heap.size w3 v3 (CJ++[.slice (some ⟨b,off+x0,none⟩) 448 cp])):=⟨by have:=HL.out;simpa using this,by simpa using r3⟩;have G3:Hid (w.grownBy w3 none):=grown_new (gb_alloc GK.out _) g3 (fun i e=>OK.out.lo i e);clear r3 g3 at3)
   go_roundw
   case rel=>exact⟨j+1,by omega,by go_num,by rw[HSU.out];exact M3.out,G3⟩
   case measure=>simp[intOf];omega
  ·have i3:¬ (j:Int) < (g.k:Int):=by omega
   have hjk:j=g.k:=by omega
   have M2:Hid (Mat wr u10 (cutsR b off cap g.k) (SP.parts xs g.k)):=by
    have o:=OK.out
    rw[hjk] at o
    exact cutsR_mat (HV.out.keep GK.out) HNX.out.2.1 o
   have G2:Hid (w.grownBy (wr.drewN 1) none):=grown_trans GK.out (grown_drewN wr 1)
   have EM:Hid (Calls Tryz.prog 85 #[.int .i64 (g.k:Int),.int .i64 (g.n:Int),u10] (wr.drewN 1) fun e w''=>∃ p n c us',e=.returned (.tuple #[.slice p n c,.int .i64 0])/\OwnMat w.heap.size w'' (.slice p n c) us' E/\w.grownBy w'' none):=by
    refine (EN.out _ _ _ (M2.out.keep (grown_drewN wr 1))).mono ?_
    rintro e w2 ⟨p,n,c,us',rfl,o1,g1⟩
    exact⟨p,n,c,us',rfl,o1.down G2.out.size,grown_trans G2.out g1⟩
   clear OK EN M2 hjk
   go_wp2_with fail
   clear c1
   go_region_held3 (fun w'=>w'.cell? ⟨t,1,none⟩=some (.int .i64 (g.k:Int))/\w'.cell? ⟨t,2,none⟩=some (.int .i64 (g.n:Int))) (first | exact⟨(HS.out _ G2.out).2.1,(HS.out _ G2.out).2.2⟩ | exact⟨(HS.out _ G3.out).2.1,(HS.out _ G3.out).2.2⟩)
    ((go_at_call 85;refine EM.out.mono ?_;rintro e w3 ⟨p3,n3,c3,us3,rfl,m3,g3⟩;have M3:Hid (OwnMat w.heap.size w3 (.slice p3 n3 c3) us3 E):=m3;have G3:Hid (w.grownBy w3 none):=g3;clear m3 g3))
   have HN3:Hid (n3=g.n/\us3.length=g.n):=by
    have h1:=M3.out.same
    have h2:=HCL.out
    have h3:=(mat_n M3.out.mat).1
    exact⟨by omega,by omega⟩
   have hn3:n3=g.n:=HN3.out.1
   have S3:Hid (RSI G w3 t r g R):=H.out.keep G3.out
   clear EM G2
   subst hn3
   go_wp2_with fail
   go_loopw [14] (fun ti wr=>∃ k:Nat,k<=g.n/\ti=.int .i64 k/\Hid ((WT k).1=0)/\Hid (∃ G',RSI G' wr t r g (WT k).2/\Step G w3 G' wr)) (fun ti _=>g.n - (intOf ti).toNat)
   case atStart=>exact⟨0,by omega,rfl,(by show _=_;rw[HX0.out]),⟨G,by rw[HX0.out];exact S3.out,Step.refl _ _⟩⟩
   case round =>
    clear S3
    obtain⟨k,hk',rfl,OK,HRR⟩:=hrel
    obtain⟨G1',i1,st1⟩:=HRR.out
    have I1:Hid (RSI G1' wr t r g (WT k).2):=i1
    have T1:Hid (Step G w3 G1' wr):=st1
    clear HRR i1 st1
    by_cases hlt:k < g.n
    ·have i4:(k:Int) < (g.n:Int):=by omega
     have i5:(0:Int)<=(k:Int):=by omega
     obtain⟨b0,off0,rfl,hr0⟩:=M3.out.mat.row.spot (k:=k) (by have:=HN3.out;omega)
     obtain⟨pk,nk,ck,ek,hnk⟩:=(M3.out.mat.vec k (by have:=HCL.out;omega)).opened
     have hbk:¬ G b0:=fun hf=>by
      have h1:=M3.out.out.lo b0 rfl
      have h2:=H.out.glt b0 hf
      omega
     have hr:=T1.out.upd.cell hr0 hbk
     have AV:Hid (Vec wr (.slice pk nk ck) (E.getD k [])):=by
      have hv:=M3.out.vec k (by have:=HCL.out;omega)
      rw[ek] at hv
      exact hv.vec.upd T1.out.upd (fun _ g' hg' hf=>by
       have h1:=hv.lo g' hg'
       have h2:=H.out.glt g' hf
       omega)
     rw[ek] at hr
     have c0:=I1.out.at1
     clear hr0 ek hnk hbk
     obtain⟨o,ho⟩:∃ o,o=R.on (k:Int):=⟨_,rfl⟩
     have ON:Hid (Calls Tryz.prog 52 #[rptr r,.int .i64 (k:Int)] wr fun e w'=>e=.returned (.bool o)/\w'=wr):=by
      rw[ho,<- (HK.out k).on];exact I1.out.on (k:Int)
     cases o
     ·have HX:Hid (WT (k+1)=WT k):=HX2.out k ho.symm
      clear ho
      go_wp2_with (go_at_call 52;refine ON.out.mono ?_;rintro e w9 ⟨rfl,hw9⟩;obtain rfl:=hw9.symm;clear hw9)
      go_roundw
      case rel=>exact⟨k+1,by omega,by go_num,(by show _=_;rw[HX.out];exact OK.out),⟨G1',by rw[HX.out];exact I1.out,T1.out⟩⟩
      case measure=>simp[intOf];omega
     ·have HX:=HX1.out k OK.out ho.symm
      obtain⟨c,hc⟩:∃ c,c=(WT (k+1)).1:=⟨_,rfl⟩
      have LA:Hid (Calls Tryz.prog 86 #[tptr t,.int .i64 (k:Int),.int .i64 (slot:Int),.int .u64 (m:Int),.slice pk nk ck] wr fun e w'=>e=.returned (.int .i64 (c:Int))/\∃ G',RSI G' w' t r g (WT (k+1)).2/\Step G w3 G' w'):=by
       rw[hc,HX]
       refine (rsput_any I1.out (d:=k) HN.out.1 AV.out HN.out.2.2.1 HN.out.2.2.2.2 (HRow.out k hlt) (by have h1:=HLL.out k;have h2:=HN.out.2.1;omega)).mono ?_
       rintro e w9 ⟨rfl,G9,i9,s9⟩
       exact⟨rfl,G9,i9,T1.out.trans s9⟩
      have HCE:Hid (c=(WT (k+1)).1):=hc
      clear ho HX hc AV
      by_cases h0:c=0
      ·subst h0
       go_wp2_with (first
        | (go_at_call 52;refine ON.out.mono ?_;rintro e w9 ⟨rfl,hw9⟩;obtain rfl:=hw9.symm;clear hw9)
        | (go_at_call 86;refine LA.out.mono ?_;rintro e w4 ⟨rfl,G4,i4',st4⟩;have I4:Hid (RSI G4 w4 t r g (WT (k+1)).2):=i4';have T4:Hid (Step G w3 G4 w4):=st4;clear i4' st4))
       go_roundw
       case rel=>exact⟨k+1,by omega,by go_num,HCE.out.symm,⟨G4,I4.out,T4.out⟩⟩
       case measure=>simp[intOf];omega
      ·have hne:((c:Int) != 0)=true:=neb_yes (b:=0) h0
       have HEQ:Hid (WT g.n=WT (k+1)):=HX3.out (k+1) (by omega) (by rw[<- HCE.out];exact h0)
       go_wp2_with (first
        | (go_at_call 52;refine ON.out.mono ?_;rintro e w9 ⟨rfl,hw9⟩;obtain rfl:=hw9.symm;clear hw9)
        | (go_at_call 86;refine LA.out.mono ?_;rintro e w4 ⟨rfl,G4,i4',st4⟩;have I4:Hid (RSI G4 w4 t r g (WT (k+1)).2):=i4';have T4:Hid (Step G w3 G4 w4):=st4;clear i4' st4))
       go_ret
       rw[HEQ.out,<- HCE.out]
       exact⟨rfl,G4,I4.out,(Step.new G3.out).trans T4.out⟩
    ·have i4:¬ (k:Int) < (g.n:Int):=by omega
     have hkn:Hid (k=g.n):=by show _=_;omega
     go_wp2
     go_ret
     rw[<- hkn.out,OK.out]
     exact⟨rfl,G1',I1.out,(Step.new G3.out).trans T1.out⟩
theorem rswrite_all (h:RSI G w t r g R) (slot:Int) (m:Nat) (hm2:m < 18446744073709551616) {v:Value} {xs:List Nat} (hv:Aw G w v xs) (hL:R.L.length<=990000) :
 Calls Tryz.prog 31 #[tptr t,.int .i64 slot,.int .u64 (m:Int),v] w fun e w'=>e=.returned (.int .i64 ((SP.write R g slot m xs).1:Int))/\∃ G',RSI G' w' t r g (SP.write R g slot m xs).2/\Step G w G' w':=by
 unfold SP.write
 by_cases hy:SP.why R g slot=0
 ·rw[if_neg (by omega)]
  by_cases ha:m=0\/xs.length ≠ g.k * 448
  ·rw[if_pos ha]
   refine (rswrite_arg h hv.vec hy ha).mono ?_
   rintro e w' ⟨rfl,rfl⟩
   exact⟨rfl,G,h,Step.refl _ _⟩
  ·rw[if_neg ha]
   by_cases ho:R.ons < g.k
   ·rw[if_pos ho]
    refine (rswrite_few h hv.vec hy (by omega) (by omega) ho).mono ?_
    rintro e w' ⟨rfl,g1⟩
    exact⟨rfl,G,h.keep g1,Step.new g1⟩
   ·rw[if_neg ho]
    obtain⟨_,q1,_⟩:=SP.why_zero hy
    obtain⟨n,rfl⟩:∃ n:Nat,slot=(n:Int):=⟨slot.toNat,by omega⟩
    rw[Int.toNat_natCast]
    exact rswrite_main h hv.vec hL hy (by omega) hm2 (by omega) ho
 ·rw[if_pos hy]
  refine (rswrite_err h hy).mono ?_
  rintro e w' ⟨rfl,rfl⟩
  exact⟨rfl,G,h,Step.refl _ _⟩
end
end Go.Proofs.YtaalagkbpeinkaaGreat
