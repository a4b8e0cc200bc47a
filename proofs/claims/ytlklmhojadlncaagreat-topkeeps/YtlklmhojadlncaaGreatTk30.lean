/- Packed: TT39, TT49, TT59, TNow9, PT9. -/
import Derived.Test.YtlklmhojadlncaaGreatTk29
set_option linter.unusedSimpArgs false
set_option linter.unusedVariables false
set_option maxRecDepth 100000
namespace Go.Proofs.YtlklmhojadlncaaGreat
open Go.RowKit
section
variable {F:Nat->Prop} {w0:Fr9} {w:World} {x bq bz s a nx:Nat} {g:SP.Geo} {R:AM.Raw} {D:List Value} {xss:List (List Nat)} {st:List Nat} {Z:List Bool}
def negTo (R:AM.Raw) (Z:List Bool) (i:Nat):List Bool:=(List.range i).map (fun d:Nat=>!R.on (d:Int))++Z.drop i
theorem negTo_zero (R:AM.Raw) (Z:List Bool):negTo R Z 0=Z:=by simp[negTo]
theorem negTo_all (R:AM.Raw) (Z:List Bool) {n:Nat} (h:Z.length=n):negTo R Z n=(List.range n).map (fun d:Nat=>!R.on (d:Int)):=by simp[negTo,<- h]
theorem negTo_succ (R:AM.Raw) (Z:List Bool) {i:Nat} (h:i < Z.length):(negTo R Z i).set i (!R.on (i:Int))=negTo R Z (i+1):=by
 unfold negTo
 rw[List.set_append_right _ _ (by simp)]
 simp only[List.length_map,List.length_range,Nat.sub_self]
 rw[List.drop_eq_getElem_cons h,List.set_cons_zero,List.range_succ,List.map_append]
 simp
set_option maxHeartbeats 12800000 in
theorem kturn3_yes (h:Top9 F w0 w x bq bz s a g R D xss st Z nx) {S d fz X:Nat} {vp:Option Addr} {vn vc:Nat} (hd:d < 256) (hp:SP.Kp 3 R g st xss Z) (h0:R.off=false) (hf:R.fuse=0) (hL:R.L=[]) :
 Calls Tryz.prog 6 #[ptr x,.agg #[.int .u8 3,.int .u8 (S:Int),.int .u8 (d:Int),.int .u8 (fz:Int),.int .u8 (X:Int),.slice vp vn vc]] w fun e w'=>e=.returned (.bool true)/\∃ R',SP.Kept R R'/\R'.off=false/\R'.fuse=0/\R'.L=[]/\SP.Kp 3 R' g st xss ((List.range g.n).map (fun d:Nat=>!R'.on (d:Int)))/\KM w0 w' x bq bz s a g R' xss st ((List.range g.n).map (fun d:Nat=>!R'.on (d:Int))) nx:=by
 obtain⟨T1,nf,hbt⟩:=h.turned #[.int .u8 3,.int .u8 (S:Int),.int .u8 (d:Int),.int .u8 (fz:Int),.int .u8 (X:Int),.slice vp vn vc]
 have HT:Hid (∀ W,(w.alloc (.cells #[.int .u8 3,.int .u8 (S:Int),.int .u8 (d:Int),.int .u8 (fz:Int),.int .u8 (X:Int),.slice vp vn vc] 28)).grownBy W none->Top9 F w0 W x bq bz s a g R D xss st Z nx):=T1
 have HNF:Hid (¬ F w.heap.size):=nf
 obtain⟨bt,hbe⟩:∃ bt,bt=w.heap.size:=⟨_,rfl⟩
 obtain⟨w1,hw1⟩:∃ w1,w1=w.alloc (.cells #[.int .u8 3,.int .u8 (S:Int),.int .u8 (d:Int),.int .u8 (fz:Int),.int .u8 (X:Int),.slice vp vn vc] 28):=⟨_,rfl⟩
 have HW1:Hid (w1=w.alloc (.cells #[.int .u8 3,.int .u8 (S:Int),.int .u8 (d:Int),.int .u8 (fz:Int),.int .u8 (X:Int),.slice vp vn vc] 28)/\bt=w.heap.size):=⟨hw1,hbe⟩
 rw[<- hw1] at HT hbt
 rw[<- hbe] at HNF hbt
 have HB:Hid (w1.heap[bt]?=some (.cells #[.int .u8 3,.int .u8 (S:Int),.int .u8 (d:Int),.int .u8 (fz:Int),.int .u8 (X:Int),.slice vp vn vc] 28 (0,0))):=hbt
 have HC:Hid (∀ W,w1.grownBy W none->W.cell? ⟨bt,0,none⟩=some (.int .u8 3)/\W.cell? ⟨bt,1,none⟩=some (.int .u8 (S:Int))/\W.cell? ⟨bt,2,none⟩=some (.int .u8 (d:Int))/\W.cell? ⟨bt,3,none⟩=some (.int .u8 (fz:Int))/\W.cell? ⟨bt,4,none⟩=some (.int .u8 (X:Int))/\W.cell? ⟨bt,5,none⟩=some (.slice vp vn vc)/\W.cell? ⟨x,0,none⟩=some (ptr s)/\W.cell? ⟨x,2,none⟩=some (.int .i64 (g.n:Int))):=fun W gr=>by
  have hb:W.heap[bt]?=some (.cells #[.int .u8 3,.int .u8 (S:Int),.int .u8 (d:Int),.int .u8 (fz:Int),.int .u8 (X:Int),.slice vp vn vc] 28 (0,0)):=(gr.block bt (heap_lt hbt) (by simp)).trans hbt
  exact⟨topCell (j:=0) hb rfl,topCell (j:=1) hb rfl,topCell (j:=2) hb rfl,topCell (j:=3) hb rfl,topCell (j:=4) hb rfl,topCell (j:=5) hb rfl,(HT.out W gr).c0,(HT.out W gr).c2⟩
 obtain⟨gn,hgn⟩:∃ gn,gn=g.n:=⟨_,rfl⟩
 have HGN:Hid (gn=g.n/\1<=g.n/\g.n<=9):=⟨hgn,by have:=h.i.ok.kn;omega,h.n⟩
 have hgn0:¬ (gn:Int)=0:=by have:=HGN.out;omega
 have hgn1:¬ gn=0:=by omega
 have hgn2:((gn:Int)==0)=false:=by simp[hgn1]
 have hgn3:decide ((gn:Int)=0)=false:=by simp[hgn1]
 have hgn4:(0:Int) < (gn:Int):=by omega
 have hd0:(0:Int)<=(d:Int):=by omega
 obtain⟨dd,hdd⟩:∃ dd,dd=d % gn:=⟨_,rfl⟩
 have hrem:(d:Int).tmod (gn:Int)=(dd:Int):=by rw[hdd];exact trem d gn
 have HDD:Hid (dd=d % g.n):=by show _=_;rw[hdd,hgn]
 have hwd:IntKind.i64.wrap (d:Int)=(d:Int):=IntWalk.i64_in _ (by omega)
 have HGD:Hid (w1.grownBy w1.drew none):=grown_drewN _ 1
 rw[<- hgn] at HC
 have HP:Hid (SP.Kp 3 R g st xss Z/\R.off=false/\R.fuse=0/\R.L=[]):=⟨hp,h0,hf,hL⟩
 have HAL:Hid (R.L.length+8 * g.n * g.s<=980000):=by
  have h1:=hp.says.s3
  have h2:=h.n
  show _<=_
  rw[hL,h1]
  simp only[List.length_nil]
  omega
 have HGD2:Hid (w1.grownBy w1.drew.drew none):=grown_trans (grown_drewN _ 1) (grown_drewN _ 1)
 have HZL:Hid (Z.length=g.n):=h.zl
 clear hd hp h0 hf hL
 clear h T1 nf hbe hw1 hbt hgn hdd
 go_enter Tryz.func6,Tryz.ntmps6
 go_wp2_with fail
 rw[<- HW1.out.1,<- HW1.out.2]
 go_region_held3 (fun w'=>w'.cell? ⟨bt,2,none⟩=some (.int .u8 (d:Int))/\w'.cell? ⟨x,0,none⟩=some (ptr s)/\w'.cell? ⟨x,2,none⟩=some (.int .i64 (gn:Int))) (exact⟨(HC.out _ HGD.out).2.2.1,(HC.out _ HGD.out).2.2.2.2.2.2.1,(HC.out _ HGD.out).2.2.2.2.2.2.2⟩)
  (first | (go_at_call 11;refine ((HT.out _ HGD.out).array).mono ?_;rintro e w2 ⟨rfl,hw⟩;obtain rfl:=hw.symm;clear hw))
 obtain⟨k0,k1,k2,k3,k4,k5,_,_⟩:=HC.out _ HGD.out
 go_wp2_with fail
 go_region_held3 (fun w'=>w'.cell? ⟨x,0,none⟩=some (ptr s)/\w'.cell? ⟨x,6,none⟩=some (.slice (some ⟨bq,0,none⟩) 3 3)) (first | exact⟨T4.out.c0,T4.out.c6⟩ | exact⟨(HT.out _ HGD2.out).c0,(HT.out _ HGD2.out).c6⟩)
  (first | (go_at_call 15;refine ((HT.out _ HGD2.out).all HAL.out).mono ?_;rintro e w4 ⟨n9,er,R1,rfl,ha,F4,t4,_⟩;obtain⟨e0,o1,f1,q1,p1⟩:=HP.out.1.mended HP.out.2.1 HP.out.2.2.1 HP.out.2.2.2 ha;subst e0;have T4:Hid (Top9 F4 w0 w4 x bq bz s a g R1 D xss st Z nx):=t4;have HR1:Hid (R1.off=false/\R1.fuse=0/\SP.Kept R R1/\SP.Kp 3 R1 g st xss ((List.range g.n).map (fun d:Nat=>!R1.on (d:Int)))):=⟨o1,f1,q1,p1⟩;clear t4 ha o1 f1 q1 p1))
 have HBA:Hid (R1.barrier=(0,{ R1 with L:=[] })):=SP.barrier_sure HR1.out.1 HR1.out.2.1
 obtain⟨R2,hR2⟩:∃ R2,R2=({ R1 with L:=[] }:AM.Raw):=⟨_,rfl⟩
 rw[<- hR2] at HBA
 have HR2:Hid (R2.off=false/\R2.fuse=0/\R2.L=[]/\SP.Kept R R2/\SP.Kp 3 R2 g st xss ((List.range g.n).map (fun d:Nat=>!R2.on (d:Int)))):=by
  rw[hR2]
  exact⟨HR1.out.1,HR1.out.2.1,rfl,⟨HR1.out.2.2.1.len,HR1.out.2.2.1.n,HR1.out.2.2.1.on⟩,HR1.out.2.2.2.barrier⟩
 have TB:Hid (Calls Tryz.prog 16 #[ptr a] w4.drew fun e w'=>e=.returned (.int .i64 ((0:Nat):Int))/\∃ F',Top9 F' w0 w' x bq bz s a g R2 D xss st Z nx):=(T4.out.keep (grown_drewN _ 1)).barrier HBA.out
 have TB0:Hid (Calls Tryz.prog 16 #[ptr a] w4 fun e w'=>e=.returned (.int .i64 ((0:Nat):Int))/\∃ F',Top9 F' w0 w' x bq bz s a g R2 D xss st Z nx):=T4.out.barrier HBA.out
 clear hR2 T4 HBA HR1
 go_wp2_with (go_at_call 16;refine TB0.out.mono ?_;rintro e w5 ⟨rfl,F5,t5⟩;have T5:Hid (Top9 F5 w0 w5 x bq bz s a g R2 D xss st Z nx):=t5;have c8:w5.cell? ⟨x,8,none⟩=some (.slice (some ⟨bz,0,none⟩) gn gn):=(by rw[HGN.out.1];exact t5.c8);clear t5)
 have HI0:Hid (∃ F',Top9 F' w0 w5 x bq bz s a g R2 D xss st (negTo R2 Z 0) nx):=⟨F5,by rw[negTo_zero];exact T5.out⟩
 clear TB TB0 HT HC HB HNF HGD HGD2 k0 k1 k2 k3 k4 k5
 go_loopw [114] (fun ti wr=>∃ i:Nat,i<=gn/\ti=.int .i64 i/\Hid (∃ F',Top9 F' w0 wr x bq bz s a g R2 D xss st (negTo R2 Z i) nx)) (fun ti _=>gn - (intOf ti).toNat)
 case atStart=>exact⟨0,by omega,rfl,HI0⟩
 case round =>
  clear HI0 c8 T5
  obtain⟨i,hi,rfl,HI⟩:=hrel
  by_cases hlt:i < gn
  ·have i3:(i:Int) < (gn:Int):=by omega
   have i4:(0:Int)<=(i:Int):=by omega
   have hgn9:gn<=9:=by have:=HGN.out;omega
   obtain⟨FI,tI⟩:=HI.out
   have TI:Hid (Top9 FI w0 wr x bq bz s a g R2 D xss st (negTo R2 Z i) nx):=tI
   have HC8:Hid (wr.drew.cell? ⟨x,8,none⟩=some (.slice (some ⟨bz,0,none⟩) gn gn)):=by rw[HGN.out.1];exact (tI.keep (grown_drewN _ 1)).c8
   obtain⟨b1,hb1⟩:∃ b1,R2.on (i:Int)=b1:=⟨_,rfl⟩
   have HB1:Hid (R2.on (i:Int)=b1):=hb1
   have fz1:wr.frozen? ⟨bz,i,none⟩=false:=topFrozen i tI.sta
   have cz1:=tI.cz (j:=i) (by rw[<- HGN.out.1];exact hlt)
   have HN1:Hid (∃ F',Top9 F' w0 (wr.setCell ⟨bz,i,none⟩ (.bool (!b1))).drew x bq bz s a g R2 D xss st (negTo R2 Z (i+1)) nx):=⟨FI,by
    have h1:=(tI.stale (j:=i) (b:=!b1)).keep (grown_drewN _ 1)
    rw[<- hb1,negTo_succ R2 Z (by rw[HZL.out,<- HGN.out.1];exact hlt),hb1] at h1
    exact h1⟩
   clear tI hb1 HI
   go_wp2_with fail
   refine region_late (S:=(fun w'=>w'.cell? ⟨x,8,none⟩=some (.slice (some ⟨bz,0,none⟩) gn gn))) (by simp only[List.pop_toArray,List.dropLast];exact rfl) (by rfl) (by kernel_rfl) (by kernel_rfl) ?_ (fun hHeld=>?_)
   ·exact HC8.out
   refine wpAnyH_take (i:=0) (v:=?_) rfl (by kernel_rfl) (by kernel_rfl) (by kernel_rfl) (fun _ _ _ h=>h) (Or.inl ⟨by rfl,?_⟩) (by assumption) ?_
   rotate_left
   ·intro w hSw;(try dsimp only at hSw);first | (go_simp;done) | (go_simp;with_reducible rfl)
   simp only[Act.put,lay9]
   refine wpAnyH_take (i:=1) (v:=?_) rfl (by kernel_rfl) (by kernel_rfl) (by kernel_rfl) (fun _ _ _ h=>h) (Or.inl ⟨by rfl,?_⟩) (by assumption) ?_
   rotate_left
   ·intro w hSw;(try dsimp only at hSw);first | (go_simp;done) | (go_simp;with_reducible rfl)
   simp only[Act.put,lay9]
   refine wpAnyH_take (i:=2) (v:=?_) rfl (by kernel_rfl) (by kernel_rfl) (by kernel_rfl) (fun _ _ _ h=>h) (Or.inl ⟨by rfl,?_⟩) (by assumption) ?_
   rotate_left
   ·intro w hSw;(try dsimp only at hSw);first | (go_simp;done) | (go_simp;with_reducible rfl)
   simp only[Act.put,lay9]
   refine wpAnyH_take (i:=3) (v:=?_) rfl (by kernel_rfl) (by kernel_rfl) (by kernel_rfl) (fun _ _ _ h=>h) (Or.inl ⟨by rfl,?_⟩) (by assumption) ?_
   rotate_left
   ·intro w hSw;(try dsimp only at hSw);first | (go_simp;done) | (go_simp;with_reducible rfl)
   simp only[Act.put,lay9]
   refine wpAnyH_take (i:=4) (v:=?_) rfl (by kernel_rfl) (by kernel_rfl) (by kernel_rfl) (fun _ _ _ h=>h) (Or.inl ⟨by rfl,?_⟩) (by assumption) ?_
   rotate_left
   ·intro w hSw;(try dsimp only at hSw);first | (go_simp;done) | (go_simp;with_reducible rfl)
   simp only[Act.put,lay9]
   refine wpAnyH_take (i:=5) (v:=?_) rfl (by kernel_rfl) (by kernel_rfl) (by kernel_rfl) (fun _ _ _ h=>h) (Or.inl ⟨by rfl,?_⟩) (by assumption) ?_
   rotate_left
   ·intro w hSw;(try dsimp only at hSw);first | (go_simp;done) | (go_simp;with_reducible rfl)
   simp only[Act.put,lay9]
   refine wpAnyH_take (i:=6) (v:=?_) rfl (by kernel_rfl) (by kernel_rfl) (by kernel_rfl) (fun _ _ _ h=>h) (Or.inl ⟨by rfl,?_⟩) (by assumption) ?_
   rotate_left
   ·intro w hSw;(try dsimp only at hSw);first | (go_simp;done) | (go_simp;with_reducible rfl)
   simp only[Act.put,lay9]
   refine wpAnyH_ready (rs:=[7]) (by kernel_rfl) (by simp) ?_
   refine AllReadyH.cons rfl (fun K hK=>?_) AllReadyH.nil
   go_simp
   refine ((TI.out.keep (grown_drewN _ 1)).on HB1.out).mono ?_
   rintro e w6 ⟨rfl,hw6⟩
   obtain rfl:=hw6.symm
   clear hw6
   refine hK.out _ _ (HC8.out) (fun hHeld=>?_)
   clear hK K
   (try simp only[Act.put,lay9])
   refine wpAnyH_take (i:=8) (v:=?_) rfl (by kernel_rfl) (by kernel_rfl) (by kernel_rfl) (fun _ _ _ h=>h) (Or.inl ⟨by rfl,?_⟩) (by assumption) ?_
   rotate_left
   ·intro w hSw;(try dsimp only at hSw);first | (go_simp;done) | (go_simp;with_reducible rfl)
   simp only[Act.put,lay9]
   refine wpAnyH_take (i:=9) (v:=?_) rfl (by kernel_rfl) (by kernel_rfl) (by kernel_rfl) (fun _ _ _ h=>h) (Or.inl ⟨by rfl,?_⟩) (by assumption) ?_
   rotate_left
   ·intro w hSw;(try dsimp only at hSw);first | (go_simp;done) | (go_simp;with_reducible rfl)
   simp only[Act.put,lay9]
   refine wpAnyH_done (by kernel_rfl) ?_ _
   refine lastQ_normal ?_
   go_wp2
   go_roundw
   case rel=>exact⟨i+1,by omega,by go_num,HN1.out⟩
   case measure=>simp[intOf];omega
  ·have i3:¬ (i:Int) < (gn:Int):=by omega
   have hin:Hid (i=g.n):=by show _=_;rw[<- HGN.out.1];omega
   go_wp2
   go_ret
   refine⟨rfl,R2,HR2.out.2.2.2.1,HR2.out.1,HR2.out.2.1,HR2.out.2.2.1,HR2.out.2.2.2.2,?_⟩
   obtain⟨FI,tI⟩:=HI.out
   rw[hin.out,negTo_all R2 Z HZL.out] at tI
   exact tI.km
end
section
variable {F:Nat->Prop} {w0:Fr9} {w:World} {x bq bz s a nx:Nat} {g:SP.Geo} {R:AM.Raw} {D:List Value} {xss:List (List Nat)} {st:List Nat} {Z:List Bool}
theorem SP.allP_len {rd:AM.Raw->Int->Nat->List Nat->Nat->Prop} {R:AM.Raw} {g:SP.Geo} {st:List Nat} {n e:Nat} {R':AM.Raw} (h:SP.allP rd R g st n e R'):R'.L.length<=R.L.length+8 * g.n * g.s:=by
 rcases h with ⟨_,_,_,rfl⟩ | ⟨_,_,_,_,rfl⟩ | ⟨_,_,h⟩
 ·omega
 ·omega
 ·exact allTo_len _ _ _ _ h
set_option maxHeartbeats 12800000 in
theorem kturn4_yes (h:Top9 F w0 w x bq bz s a g R D xss st Z nx) {S d fz X:Nat} {vp:Option Addr} {vn vc:Nat} (hd:d < 256) (hfz:fz < 256) {ps:List Nat} (hv:Vec w0.w (.slice vp vn vc) ps) (hp:SP.Kp 3 R g st xss Z) (h0:R.off=false) (hL:R.L=[]) :
 Calls Tryz.prog 6 #[ptr x,.agg #[.int .u8 4,.int .u8 (S:Int),.int .u8 (d:Int),.int .u8 (fz:Int),.int .u8 (X:Int),.slice vp vn vc]] w fun e w'=>e=.returned (.bool true)/\∃ R',SP.Kept R R'/\R'.off=false/\R'.fuse=0/\R'.L=[]/\SP.Kp 3 R' g st xss Z/\KM w0 w' x bq bz s a g R' xss st Z nx:=by
 obtain⟨T1,nf,hbt⟩:=h.turned #[.int .u8 4,.int .u8 (S:Int),.int .u8 (d:Int),.int .u8 (fz:Int),.int .u8 (X:Int),.slice vp vn vc]
 have HT:Hid (∀ W,(w.alloc (.cells #[.int .u8 4,.int .u8 (S:Int),.int .u8 (d:Int),.int .u8 (fz:Int),.int .u8 (X:Int),.slice vp vn vc] 28)).grownBy W none->Top9 F w0 W x bq bz s a g R D xss st Z nx):=T1
 have HNF:Hid (¬ F w.heap.size):=nf
 obtain⟨bt,hbe⟩:∃ bt,bt=w.heap.size:=⟨_,rfl⟩
 obtain⟨w1,hw1⟩:∃ w1,w1=w.alloc (.cells #[.int .u8 4,.int .u8 (S:Int),.int .u8 (d:Int),.int .u8 (fz:Int),.int .u8 (X:Int),.slice vp vn vc] 28):=⟨_,rfl⟩
 have HW1:Hid (w1=w.alloc (.cells #[.int .u8 4,.int .u8 (S:Int),.int .u8 (d:Int),.int .u8 (fz:Int),.int .u8 (X:Int),.slice vp vn vc] 28)/\bt=w.heap.size):=⟨hw1,hbe⟩
 rw[<- hw1] at HT hbt
 rw[<- hbe] at HNF hbt
 have HB:Hid (w1.heap[bt]?=some (.cells #[.int .u8 4,.int .u8 (S:Int),.int .u8 (d:Int),.int .u8 (fz:Int),.int .u8 (X:Int),.slice vp vn vc] 28 (0,0))):=hbt
 have HC:Hid (∀ W,w1.grownBy W none->W.cell? ⟨bt,0,none⟩=some (.int .u8 4)/\W.cell? ⟨bt,1,none⟩=some (.int .u8 (S:Int))/\W.cell? ⟨bt,2,none⟩=some (.int .u8 (d:Int))/\W.cell? ⟨bt,3,none⟩=some (.int .u8 (fz:Int))/\W.cell? ⟨bt,4,none⟩=some (.int .u8 (X:Int))/\W.cell? ⟨bt,5,none⟩=some (.slice vp vn vc)/\W.cell? ⟨x,0,none⟩=some (ptr s)/\W.cell? ⟨x,2,none⟩=some (.int .i64 (g.n:Int))):=fun W gr=>by
  have hb:W.heap[bt]?=some (.cells #[.int .u8 4,.int .u8 (S:Int),.int .u8 (d:Int),.int .u8 (fz:Int),.int .u8 (X:Int),.slice vp vn vc] 28 (0,0)):=(gr.block bt (heap_lt hbt) (by simp)).trans hbt
  exact⟨topCell (j:=0) hb rfl,topCell (j:=1) hb rfl,topCell (j:=2) hb rfl,topCell (j:=3) hb rfl,topCell (j:=4) hb rfl,topCell (j:=5) hb rfl,(HT.out W gr).c0,(HT.out W gr).c2⟩
 obtain⟨gn,hgn⟩:∃ gn,gn=g.n:=⟨_,rfl⟩
 have HGN:Hid (gn=g.n/\1<=g.n/\g.n<=9):=⟨hgn,by have:=h.i.ok.kn;omega,h.n⟩
 have hgn0:¬ (gn:Int)=0:=by have:=HGN.out;omega
 have hgn1:¬ gn=0:=by omega
 have hgn2:((gn:Int)==0)=false:=by simp[hgn1]
 have hgn3:decide ((gn:Int)=0)=false:=by simp[hgn1]
 have hgn4:(0:Int) < (gn:Int):=by omega
 have hd0:(0:Int)<=(d:Int):=by omega
 obtain⟨dd,hdd⟩:∃ dd,dd=d % gn:=⟨_,rfl⟩
 have hrem:(d:Int).tmod (gn:Int)=(dd:Int):=by rw[hdd];exact trem d gn
 have HDD:Hid (dd=d % g.n):=by show _=_;rw[hdd,hgn]
 have hwd:IntKind.i64.wrap (d:Int)=(d:Int):=IntWalk.i64_in _ (by omega)
 have HGD:Hid (w1.grownBy w1.drew none):=grown_drewN _ 1
 rw[<- hgn] at HC
 have HP:Hid (SP.Kp 3 R g st xss Z/\R.off=false/\R.L=[]/\Vec w0.w (.slice vp vn vc) ps/\fz < 256):=⟨hp,h0,hL,hv,hfz⟩
 have HAL:Hid ((R.fused (1+(fz:Int))).L.length+8 * g.n * g.s<=980000):=by
  have h1:=hp.says.s3
  have h2:=h.n
  show R.L.length+_<=_
  rw[hL,h1]
  simp only[List.length_nil]
  omega
 have hwf:IntKind.i64.wrap (fz:Int)=(fz:Int):=IntWalk.i64_in _ (by omega)
 have hwf1:IntKind.i64.wrap (1+(fz:Int))=1+(fz:Int):=IntWalk.i64_in _ (by omega)
 have HLT:Hid (bt < w1.heap.size):=heap_lt hbt
 clear hd hp h0 hL hv hfz
 clear h T1 nf hbe hw1 hbt hgn hdd
 go_enter Tryz.func6,Tryz.ntmps6
 go_wp2_with fail
 rw[<- HW1.out.1,<- HW1.out.2]
 go_region_held3 (fun w'=>w'.cell? ⟨bt,2,none⟩=some (.int .u8 (d:Int))/\w'.cell? ⟨x,0,none⟩=some (ptr s)/\w'.cell? ⟨x,2,none⟩=some (.int .i64 (gn:Int))) (exact⟨(HC.out _ HGD.out).2.2.1,(HC.out _ HGD.out).2.2.2.2.2.2.1,(HC.out _ HGD.out).2.2.2.2.2.2.2⟩)
  (first | (go_at_call 11;refine ((HT.out _ HGD.out).array).mono ?_;rintro e w2 ⟨rfl,hw⟩;obtain rfl:=hw.symm;clear hw))
 obtain⟨k0,k1,k2,k3,k4,k5,_,_⟩:=HC.out _ HGD.out
 go_wp2_with (go_at_call 18;refine ((HT.out _ HGD.out).fuse (n:=1+(fz:Int)) (by have:=HP.out.2.2.2.2;omega)).mono ?_;rintro e w3 ⟨rfl,F3,t3,s3⟩;have T3:Hid (Top9 F3 w0 w3 x bq bz s a g (R.fused (1+(fz:Int))) D xss st Z nx/\Step F w1.drew F3 w3):=⟨t3,s3⟩;clear t3 s3)
 clear k0 k1 k2 k3 k4 k5
 go_region_held3 (fun w'=>w'.cell? ⟨x,0,none⟩=some (ptr s)/\w'.cell? ⟨x,6,none⟩=some (.slice (some ⟨bq,0,none⟩) 3 3)) (first | exact⟨T4.out.1.c0,T4.out.1.c6⟩ | exact⟨(T3.out.1.keep (grown_drewN _ 1)).c0,(T3.out.1.keep (grown_drewN _ 1)).c6⟩)
  (first | (go_at_call 15;refine ((T3.out.1.keep (grown_drewN w3 1)).all HAL.out).mono ?_;rintro e w4 ⟨n9,er,R4,rfl,ha,F4,t4,s4⟩;have T4:Hid (Top9 F4 w0 w4 x bq bz s a g R4 D xss st Z nx/\Step F3 w3.drew F4 w4):=⟨t4,s4⟩;have HA4:Hid (SP.allP (fun R=>SP.RdP R g) (R.fused (1+(fz:Int))) g st n9 er R4):=ha;clear t4 s4 ha))
 have HCR:Hid (Calls Tryz.prog 19 #[ptr a,.slice vp vn vc] w4 fun e w'=>e=.returned (.tuple #[])/\∃ F',Top9 F' w0 w' x bq bz s a g (R4.crash ps) D xss st Z nx):=T4.out.1.crash (by have h1:=SP.allP_len HA4.out;have h2:=HAL.out;omega) HP.out.2.2.2.1
 obtain⟨e4,q4,p4⟩:=HP.out.1.torn HP.out.2.1 HP.out.2.2.1 (f:=1+(fz:Int)) (by have:=HP.out.2.2.2.2;omega) HA4.out ps
 have HR4:Hid (SP.Kept R (R4.crash ps)/\SP.Kp 3 (R4.crash ps) g st xss Z):=⟨q4,p4⟩
 have k5:w4.cell? ⟨bt,5,none⟩=some (.slice vp vn vc):=by
  have h1:w1.drew.heap[bt]?=w1.heap[bt]?:=rfl
  have l1:bt < w1.drew.heap.size:=HLT.out
  have h3:=T3.out.2.upd.block bt l1 HNF.out
  have l3:bt < w3.heap.size:=Nat.lt_of_lt_of_le l1 T3.out.2.upd.size
  have nf3:¬ F3 bt:=fun hf=>by
   rcases T3.out.2.sub bt hf with hq | hq
   ·exact HNF.out hq
   ·omega
  have h4:=T4.out.2.upd.block bt (show bt < w3.drew.heap.size from l3) nf3
  have h5:w3.drew.heap[bt]?=w3.heap[bt]?:=rfl
  exact topCell (j:=5) (h4.trans (h5.trans (h3.trans (h1.trans HB.out)))) rfl
 clear q4 p4 HA4 T4 T3 HT HC HB HNF
 rcases e4 with rfl | rfl
 ·go_wp2_with (go_at_call 19;refine HCR.out.mono ?_;rintro e w5 ⟨rfl,F5,t5⟩;have T5:Hid (Top9 F5 w0 w5 x bq bz s a g (R4.crash ps) D xss st Z nx):=t5;clear t5)
  go_ret
  exact⟨rfl,R4.crash ps,HR4.out.1,(SP.crash_kept R4 ps).2,rfl,rfl,HR4.out.2,T5.out.km⟩
 ·go_wp2_with (go_at_call 19;refine HCR.out.mono ?_;rintro e w5 ⟨rfl,F5,t5⟩;have T5:Hid (Top9 F5 w0 w5 x bq bz s a g (R4.crash ps) D xss st Z nx):=t5;clear t5)
  go_ret
  exact⟨rfl,R4.crash ps,HR4.out.1,(SP.crash_kept R4 ps).2,rfl,rfl,HR4.out.2,T5.out.km⟩
end
section
variable {F:Nat->Prop} {w0:Fr9} {w:World} {x bq bz s a nx:Nat} {g:SP.Geo} {R:AM.Raw} {D:List Value} {xss:List (List Nat)} {st:List Nat} {Z:List Bool}
set_option maxHeartbeats 6400000 in
theorem kturn5_yes (h:Top9 F w0 w x bq bz s a g R D xss st Z nx) {wt:Nat} {S d fz X:Nat} {vp:Option Addr} {vn vc:Nat} (hd:d < 256) (hwt:5<=wt) :
 Calls Tryz.prog 6 #[ptr x,.agg #[.int .u8 (wt:Int),.int .u8 (S:Int),.int .u8 (d:Int),.int .u8 (fz:Int),.int .u8 (X:Int),.slice vp vn vc]] w fun e w'=>e=.returned (.bool true)/\KM w0 w' x bq bz s a g R xss st Z nx:=by
 obtain⟨T1,nf,hbt⟩:=h.turned #[.int .u8 (wt:Int),.int .u8 (S:Int),.int .u8 (d:Int),.int .u8 (fz:Int),.int .u8 (X:Int),.slice vp vn vc]
 have HT:Hid (∀ W,(w.alloc (.cells #[.int .u8 (wt:Int),.int .u8 (S:Int),.int .u8 (d:Int),.int .u8 (fz:Int),.int .u8 (X:Int),.slice vp vn vc] 28)).grownBy W none->Top9 F w0 W x bq bz s a g R D xss st Z nx):=T1
 have HNF:Hid (¬ F w.heap.size):=nf
 obtain⟨bt,hbe⟩:∃ bt,bt=w.heap.size:=⟨_,rfl⟩
 obtain⟨w1,hw1⟩:∃ w1,w1=w.alloc (.cells #[.int .u8 (wt:Int),.int .u8 (S:Int),.int .u8 (d:Int),.int .u8 (fz:Int),.int .u8 (X:Int),.slice vp vn vc] 28):=⟨_,rfl⟩
 have HW1:Hid (w1=w.alloc (.cells #[.int .u8 (wt:Int),.int .u8 (S:Int),.int .u8 (d:Int),.int .u8 (fz:Int),.int .u8 (X:Int),.slice vp vn vc] 28)/\bt=w.heap.size):=⟨hw1,hbe⟩
 rw[<- hw1] at HT hbt
 rw[<- hbe] at HNF hbt
 have HB:Hid (w1.heap[bt]?=some (.cells #[.int .u8 (wt:Int),.int .u8 (S:Int),.int .u8 (d:Int),.int .u8 (fz:Int),.int .u8 (X:Int),.slice vp vn vc] 28 (0,0))):=hbt
 have HC:Hid (∀ W,w1.grownBy W none->W.cell? ⟨bt,0,none⟩=some (.int .u8 (wt:Int))/\W.cell? ⟨bt,1,none⟩=some (.int .u8 (S:Int))/\W.cell? ⟨bt,2,none⟩=some (.int .u8 (d:Int))/\W.cell? ⟨bt,3,none⟩=some (.int .u8 (fz:Int))/\W.cell? ⟨bt,4,none⟩=some (.int .u8 (X:Int))/\W.cell? ⟨bt,5,none⟩=some (.slice vp vn vc)/\W.cell? ⟨x,0,none⟩=some (ptr s)/\W.cell? ⟨x,2,none⟩=some (.int .i64 (g.n:Int))):=fun W gr=>by
  have hb:W.heap[bt]?=some (.cells #[.int .u8 (wt:Int),.int .u8 (S:Int),.int .u8 (d:Int),.int .u8 (fz:Int),.int .u8 (X:Int),.slice vp vn vc] 28 (0,0)):=(gr.block bt (heap_lt hbt) (by simp)).trans hbt
  exact⟨topCell (j:=0) hb rfl,topCell (j:=1) hb rfl,topCell (j:=2) hb rfl,topCell (j:=3) hb rfl,topCell (j:=4) hb rfl,topCell (j:=5) hb rfl,(HT.out W gr).c0,(HT.out W gr).c2⟩
 obtain⟨gn,hgn⟩:∃ gn,gn=g.n:=⟨_,rfl⟩
 have HGN:Hid (gn=g.n/\1<=g.n/\g.n<=9):=⟨hgn,by have:=h.i.ok.kn;omega,h.n⟩
 have hgn0:¬ (gn:Int)=0:=by have:=HGN.out;omega
 have hgn1:¬ gn=0:=by omega
 have hgn2:((gn:Int)==0)=false:=by simp[hgn1]
 have hgn3:decide ((gn:Int)=0)=false:=by simp[hgn1]
 have hgn4:(0:Int) < (gn:Int):=by omega
 have hd0:(0:Int)<=(d:Int):=by omega
 obtain⟨dd,hdd⟩:∃ dd,dd=d % gn:=⟨_,rfl⟩
 have hrem:(d:Int).tmod (gn:Int)=(dd:Int):=by rw[hdd];exact trem d gn
 have HDD:Hid (dd=d % g.n):=by show _=_;rw[hdd,hgn]
 have hwd:IntKind.i64.wrap (d:Int)=(d:Int):=IntWalk.i64_in _ (by omega)
 have HGD:Hid (w1.grownBy w1.drew none):=grown_drewN _ 1
 rw[<- hgn] at HC
 have j0:((wt:Int)==0)=false:=by simp;omega
 have j1:((wt:Int)==1)=false:=by simp;omega
 have j2:((wt:Int)==2)=false:=by simp;omega
 have j3:((wt:Int)==3)=false:=by simp;omega
 have j4:((wt:Int)==4)=false:=by simp;omega
 have n0:¬ (wt:Int)=0:=by omega
 have n1:¬ (wt:Int)=1:=by omega
 have n2:¬ (wt:Int)=2:=by omega
 have n3:¬ (wt:Int)=3:=by omega
 have n4:¬ (wt:Int)=4:=by omega
 clear hd hwt
 clear h T1 nf hbe hw1 hbt hgn hdd
 go_enter Tryz.func6,Tryz.ntmps6
 go_wp2_with fail
 rw[<- HW1.out.1,<- HW1.out.2]
 go_region_held3 (fun w'=>w'.cell? ⟨bt,2,none⟩=some (.int .u8 (d:Int))/\w'.cell? ⟨x,0,none⟩=some (ptr s)/\w'.cell? ⟨x,2,none⟩=some (.int .i64 (gn:Int))) (exact⟨(HC.out _ HGD.out).2.2.1,(HC.out _ HGD.out).2.2.2.2.2.2.1,(HC.out _ HGD.out).2.2.2.2.2.2.2⟩)
  (first | (go_at_call 11;refine ((HT.out _ HGD.out).array).mono ?_;rintro e w2 ⟨rfl,hw⟩;obtain rfl:=hw.symm;clear hw))
 obtain⟨k0,k1,k2,k3,k4,k5,_,_⟩:=HC.out _ HGD.out
 go_wp2
 go_ret
 exact⟨rfl,(HT.out _ HGD.out).km⟩
end
structure Now (t:Nat) (w0:Fr9) (w:World) (x bq bz s a:Nat) (g:SP.Geo) (R:AM.Raw) (xss:List (List Nat)) (st:List Nat) (Z:List Bool) (nx:Nat):Prop where
 km:KM w0 w x bq bz s a g R xss st Z nx
 kp:SP.Kp t R g st xss Z
 off:R.off=false
 fuse:R.fuse=0
 L:R.L=[]
section
variable {t:Nat} {w0:Fr9} {w:World} {x bq bz s a nx:Nat} {g:SP.Geo} {R:AM.Raw} {xss:List (List Nat)} {st:List Nat} {Z:List Bool}
theorem Now.keep (h:Now t w0 w x bq bz s a g R xss st Z nx) {w':World} (gr:w.grownBy w' none):Now t w0 w' x bq bz s a g R xss st Z nx:=by
 obtain⟨F,D,T⟩:=h.km
 exact⟨(T.keep gr).km,h.kp,h.off,h.fuse,h.L⟩
theorem Now.grown (h:Now t w0 w x bq bz s a g R xss st Z nx):w0.w.grownBy w none:=by
 obtain⟨F,D,T⟩:=h.km
 exact T.b.grown
theorem Now.beside (h:Now t w0 w x bq bz s a g R xss st Z nx) (o:Obj):Now t ⟨w0.w,fun i=>if i=w.heap.size then some o else w0.H i⟩ (w.alloc o) x bq bz s a g R xss st Z nx:=by
 obtain⟨F,D,T⟩:=h.km
 exact⟨(T.beside o).km,h.kp,h.off,h.fuse,h.L⟩
theorem Now.stays (h:Now t w0 w x bq bz s a g R xss st Z nx) {i:Nat} {o:Obj} (hi:w0.H i=some o):w.heap[i]?=some o:=by
 obtain⟨F,D,T⟩:=h.km
 exact (T.fr i o hi).1
theorem Now.plain (h:Now t w0 w x bq bz s a g R xss st Z nx) {slot b t':Nat} (hs:slot < 3) (ht3:t'<=3) (ht:∀ j,j < t'->j ≠ slot->j < t) (hn0:nx ≠ 0) (hn:nx < 9223372036854775808) :
 ∃ R1,SP.write R g (slot:Int) nx (datL g.k b)=(0,R1)/\R1.barrier=(0,{ R1 with L:=[] })/\SP.Kept R { R1 with L:=[] }/\SP.Kp t' { R1 with L:=[] } g (st.set slot nx) (xss.set slot (datL g.k b)) Z/\R1.off=false/\R1.fuse=0:=by
 obtain⟨R1,a1,a2,a3,a4,a5⟩:=h.kp.write h.off h.fuse h.L hs ht3 ht hn0 (by omega) (datL_len g.k b) (datL_small g.k b)
 exact⟨R1,a1,SP.barrier_sure a3 a4,⟨a2.len,a2.n,a2.on⟩,a5.barrier,a3,a4⟩
theorem Now.write (h:Now t w0 w x bq bz s a g R xss st Z nx) {slot b t':Nat} (hs:slot < 3) (hb:b < 256) (ht3:t'<=3) (ht:∀ j,j < t'->j ≠ slot->j < t) (hn0:nx ≠ 0) (hn:nx < 9223372036854775808) :
 Calls Tryz.prog 9 #[ptr x,.int .i64 (slot:Int),.int .u8 (b:Int)] w fun e w'=>e=.returned (.bool true)/\∃ R',SP.Kept R R'/\Now t' w0 w' x bq bz s a g R' (xss.set slot (datL g.k b)) (st.set slot nx) Z (nx+1):=by
 obtain⟨R1,b1,b2,b3,b4,b5,b6⟩:=h.plain (b:=b) hs ht3 ht hn0 hn
 obtain⟨F,D,T⟩:=h.km
 refine (kwrite_yes T hs hb h.kp.says.xl hn (by rw[h.L];simp) b1 b2).mono ?_
 rintro e w' ⟨rfl,hk⟩
 exact⟨rfl,_,b3,hk,b4,b5,b6,rfl⟩
theorem Now.whole (h:Now 3 w0 w x bq bz s a g R xss st Z nx):Calls Tryz.prog 7 #[ptr x] w fun e w'=>e=.returned (.bool true)/\Now 3 w0 w' x bq bz s a g R xss st Z nx:=by
 obtain⟨F,D,T⟩:=h.km
 refine (kwhole_yes T h.kp h.off).mono ?_
 rintro e w' ⟨rfl,gr⟩
 exact⟨rfl,h.keep gr⟩
theorem Now.spoilt (h:Now t w0 w x bq bz s a g R xss st Z nx):Calls Tryz.prog 10 #[ptr x] w fun e w'=>e=.returned (.int .i64 (Z.count true:Int))/\w'=w:=by
 obtain⟨F,D,T⟩:=h.km
 exact spoilt_yes T
theorem Now.array (h:Now t w0 w x bq bz s a g R xss st Z nx):Calls Tryz.prog 11 #[ptr s] w fun e w'=>e=.returned (ptr a)/\w'=w:=by
 obtain⟨F,D,T⟩:=h.km
 exact T.array
theorem Now.ons (h:Now t w0 w x bq bz s a g R xss st Z nx) {n:Nat} (hb:R.ons=n):Calls Tryz.prog 12 #[ptr a] w fun e w'=>e=.returned (.int .i64 (n:Int))/\w'=w:=by
 obtain⟨F,D,T⟩:=h.km
 exact T.ons hb
theorem Now.c0 (h:Now t w0 w x bq bz s a g R xss st Z nx):w.cell? ⟨x,0,none⟩=some (ptr s):=by
 obtain⟨F,D,T⟩:=h.km
 exact T.c0
structure TurnP (g:SP.Geo) (what dd:Nat) (R:AM.Raw) (Z:List Bool) (R':AM.Raw) (Z':List Bool):Prop where
 lose:what=1->(Z.count true < g.n - g.k\/Z.getD dd false=true)->(∀ e:Nat,R'.on (e:Int)=(R.on (e:Int)&&!(decide (e=dd))))/\Z'=Z.set dd true
 rep:what=2->(∀ e:Nat,R'.on (e:Int)=(R.on (e:Int) || decide (e=dd)))/\Z'=Z
 mend:what=3->(∀ e:Nat,R'.on (e:Int)=R.on (e:Int))/\Z'=(List.range g.n).map (fun d:Nat=>!R.on (d:Int))
theorem Now.turn (h:Now 3 w0 w x bq bz s a g R xss st Z nx) {wt S d fz X:Nat} {vp:Option Addr} {vn vc:Nat} {ps:List Nat} (hS:S < 256) (hd:d < 256) (hfz:fz < 256) (hX:X < 256) (hv:Vec w0.w (.slice vp vn vc) ps) (hn0:nx ≠ 0) (hn:nx < 9223372036854775808) :
 Calls Tryz.prog 6 #[ptr x,.agg #[.int .u8 (wt:Int),.int .u8 (S:Int),.int .u8 (d:Int),.int .u8 (fz:Int),.int .u8 (X:Int),.slice vp vn vc]] w fun e w'=>e=.returned (.bool true)/\∃ R' xss' st' Z' nx',TurnP g wt (d % g.n) R Z R' Z'/\nx<=nx'/\nx'<=nx+1/\Now 3 w0 w' x bq bz s a g R' xss' st' Z' nx':=by
 obtain⟨F,D,T⟩:=h.km
 have hgn:0 < g.n:=by have:=h.kp.geo.kn;omega
 have hdd:d % g.n < g.n:=Nat.mod_lt _ hgn
 have hz0:R.L.length=0:=by rw[h.L];rfl
 by_cases c0:wt=0
 ·subst c0
  obtain⟨R1,b1,b2,b3,b4,b5,b6⟩:=h.plain (slot:=S % 3) (b:=X) (t':=3) (Nat.mod_lt _ (by omega)) (Nat.le_refl _) (fun j hj _=>hj) hn0 hn
  refine (kturn0_yes T hd hX h.kp.says.xl hn (by omega) b1 b2).mono ?_
  rintro e w' ⟨rfl,hk⟩
  exact⟨rfl,_,_,_,Z,nx+1,⟨fun h=>(by cases h),fun h=>(by cases h),fun h=>(by cases h)⟩,by omega,by omega,hk,b4,b5,b6,rfl⟩
 by_cases c1:wt=1
 ·subst c1
  by_cases cc:Z.count true < g.n - g.k\/Z.getD (d % g.n) false=true
  ·obtain⟨a1,a2,a3,a4,a5,a6,a7,a8⟩:=SP.lose_at9 h.kp.geo hdd
   have hk1:=h.kp.lose hdd cc
   have hl:=a5 h.L
   refine (kturn1_yes T hd (by omega) (c:=(R.lose ((d % g.n:Nat):Int)).1) (R1:=(R.lose ((d % g.n:Nat):Int)).2) rfl a1 (by
    by_cases c3:Z.count true < g.n - g.k
    ·exact .inl c3
    ·exact .inr ⟨c3,cc.resolve_left c3⟩)).mono ?_
   rintro e w' ⟨rfl,hk⟩
   exact⟨rfl,_,_,_,_,nx,⟨fun _ _=>⟨a2,rfl⟩,fun h=>(by cases h),fun h=>(by cases h)⟩,Nat.le_refl _,by omega,hk,hk1,a3.trans h.off,a4.trans h.fuse,hl⟩
  ·refine (kturn1_no T hd (fun h=>cc (.inl h)) (by
    cases c3:Z.getD (d % g.n) false
    ·rfl
    ·exact absurd (.inr c3) cc)).mono ?_
   rintro e w' ⟨rfl,hk⟩
   exact⟨rfl,_,_,_,_,nx,⟨fun _ h=>absurd h cc,fun h=>(by cases h),fun h=>(by cases h)⟩,Nat.le_refl _,by omega,hk,h.kp,h.off,h.fuse,h.L⟩
 by_cases c2:wt=2
 ·subst c2
  obtain⟨a1,a2,a3,a4,a5,_⟩:=SP.replace_at9 h.kp.geo hdd
  refine (kturn2_yes T hd (c:=(R.replace ((d % g.n:Nat):Int)).1) (R1:=(R.replace ((d % g.n:Nat):Int)).2) rfl a1).mono ?_
  rintro e w' ⟨rfl,hk⟩
  exact⟨rfl,_,_,_,_,nx,⟨fun h=>(by cases h),fun _=>⟨a2,rfl⟩,fun h=>(by cases h)⟩,Nat.le_refl _,by omega,hk,h.kp.replace hdd,a3.trans h.off,a4.trans h.fuse,a5.trans h.L⟩
 by_cases c3:wt=3
 ·subst c3
  refine (kturn3_yes T hd h.kp h.off h.fuse h.L).mono ?_
  rintro e w' ⟨rfl,R',q1,q2,q3,q4,q5,hk⟩
  have e9:((List.range g.n).map (fun d:Nat=>!R'.on (d:Int)))=((List.range g.n).map (fun d:Nat=>!R.on (d:Int))):=List.map_congr_left fun d _=>by rw[q1.on]
  exact⟨rfl,R',_,_,_,nx,⟨fun h=>(by cases h),fun h=>(by cases h),fun _=>⟨fun e=>q1.on e,e9⟩⟩,Nat.le_refl _,by omega,hk,q5,q2,q3,q4⟩
 by_cases c4:wt=4
 ·subst c4
  refine (kturn4_yes T hd hfz hv h.kp h.off h.L).mono ?_
  rintro e w' ⟨rfl,R',q1,q2,q3,q4,q5,hk⟩
  exact⟨rfl,R',_,_,_,nx,⟨fun h=>(by cases h),fun h=>(by cases h),fun h=>(by cases h)⟩,Nat.le_refl _,by omega,hk,q5,q2,q3,q4⟩
 ·refine (kturn5_yes T hd (by omega)).mono ?_
  rintro e w' ⟨rfl,hk⟩
  exact⟨rfl,R,_,_,_,nx,⟨fun h=>absurd h c1,fun h=>absurd h c2,fun h=>absurd h c3⟩,Nat.le_refl _,by omega,hk,h.kp,h.off,h.fuse,h.L⟩
end
end Go.Proofs.YtlklmhojadlncaaGreat
namespace Go.Proofs.YtlklmhojadlncaaGreat
namespace SP
theorem on_all {N n:Nat} (h1:1<=N) (h2:N<=255) (h3:1<=n) (h4:n<=4096) {d:Nat} (hd:d < N):(AM.Raw.new N n).on (d:Int)=true:=by
 rw[(new_ok h1 h2 h3 h4).2]
 exact decide_eq_true hd
end SP
end Go.Proofs.YtlklmhojadlncaaGreat
namespace Go.Proofs.YtlklmhojadlncaaGreat
end Go.Proofs.YtlklmhojadlncaaGreat
