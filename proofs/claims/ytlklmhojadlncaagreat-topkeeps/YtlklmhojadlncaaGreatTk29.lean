/- Packed: TT09, TT19, TT1n9, TT29. -/
import Derived.Test.YtlklmhojadlncaaGreatTk28
set_option linter.unusedSimpArgs false
set_option linter.unusedVariables false
set_option maxRecDepth 100000
namespace Go.Proofs.YtlklmhojadlncaaGreat
open Go.RowKit
section
variable {F:Nat->Prop} {w0:Fr9} {w:World} {x bq bz s a nx:Nat} {g:SP.Geo} {R:AM.Raw} {D:List Value} {xss:List (List Nat)} {st:List Nat} {Z:List Bool}
set_option maxHeartbeats 6400000 in
theorem kturn0_yes (h:Top9 F w0 w x bq bz s a g R D xss st Z nx) {S d fz X:Nat} {vp:Option Addr} {vn vc:Nat} (hd:d < 256) (hX:X < 256) (hx:xss.length=3) (hn:nx < 9223372036854775808) (hL:R.L.length<=990000) {R1 R2:AM.Raw} (h1:SP.write R g ((S % 3:Nat):Int) nx (datL g.k X)=(0,R1)) (h2:R1.barrier=(0,R2)) :
 Calls Tryz.prog 6 #[ptr x,.agg #[.int .u8 0,.int .u8 (S:Int),.int .u8 (d:Int),.int .u8 (fz:Int),.int .u8 (X:Int),.slice vp vn vc]] w fun e w'=>e=.returned (.bool true)/\KM w0 w' x bq bz s a g R2 (xss.set (S % 3) (datL g.k X)) (st.set (S % 3) nx) Z (nx+1):=by
 obtain⟨T1,nf,hbt⟩:=h.turned #[.int .u8 0,.int .u8 (S:Int),.int .u8 (d:Int),.int .u8 (fz:Int),.int .u8 (X:Int),.slice vp vn vc]
 have HT:Hid (∀ W,(w.alloc (.cells #[.int .u8 0,.int .u8 (S:Int),.int .u8 (d:Int),.int .u8 (fz:Int),.int .u8 (X:Int),.slice vp vn vc] 28)).grownBy W none->Top9 F w0 W x bq bz s a g R D xss st Z nx):=T1
 have HNF:Hid (¬ F w.heap.size):=nf
 obtain⟨bt,hbe⟩:∃ bt,bt=w.heap.size:=⟨_,rfl⟩
 obtain⟨w1,hw1⟩:∃ w1,w1=w.alloc (.cells #[.int .u8 0,.int .u8 (S:Int),.int .u8 (d:Int),.int .u8 (fz:Int),.int .u8 (X:Int),.slice vp vn vc] 28):=⟨_,rfl⟩
 have HW1:Hid (w1=w.alloc (.cells #[.int .u8 0,.int .u8 (S:Int),.int .u8 (d:Int),.int .u8 (fz:Int),.int .u8 (X:Int),.slice vp vn vc] 28)/\bt=w.heap.size):=⟨hw1,hbe⟩
 rw[<- hw1] at HT hbt
 rw[<- hbe] at HNF hbt
 have HB:Hid (w1.heap[bt]?=some (.cells #[.int .u8 0,.int .u8 (S:Int),.int .u8 (d:Int),.int .u8 (fz:Int),.int .u8 (X:Int),.slice vp vn vc] 28 (0,0))):=hbt
 have HC:Hid (∀ W,w1.grownBy W none->W.cell? ⟨bt,0,none⟩=some (.int .u8 0)/\W.cell? ⟨bt,1,none⟩=some (.int .u8 (S:Int))/\W.cell? ⟨bt,2,none⟩=some (.int .u8 (d:Int))/\W.cell? ⟨bt,3,none⟩=some (.int .u8 (fz:Int))/\W.cell? ⟨bt,4,none⟩=some (.int .u8 (X:Int))/\W.cell? ⟨bt,5,none⟩=some (.slice vp vn vc)/\W.cell? ⟨x,0,none⟩=some (ptr s)/\W.cell? ⟨x,2,none⟩=some (.int .i64 (g.n:Int))):=fun W gr=>by
  have hb:W.heap[bt]?=some (.cells #[.int .u8 0,.int .u8 (S:Int),.int .u8 (d:Int),.int .u8 (fz:Int),.int .u8 (X:Int),.slice vp vn vc] 28 (0,0)):=(gr.block bt (heap_lt hbt) (by simp)).trans hbt
  exact⟨topCell (j:=0) hb rfl,topCell (j:=1) hb rfl,topCell (j:=2) hb rfl,topCell (j:=3) hb rfl,topCell (j:=4) hb rfl,topCell (j:=5) hb rfl,(HT.out W gr).c0,(HT.out W gr).c2⟩
 obtain⟨gn,hgn⟩:∃ gn,gn=g.n:=⟨_,rfl⟩
 have HGN:Hid (gn=g.n/\1<=g.n/\g.n<=9):=⟨hgn,by have:=h.i.ok.kn;omega,h.n⟩
 have hgn0:¬ (gn:Int)=0:=by have:=HGN.out;omega
 have hgn1:¬ gn=0:=by omega
 have hgn2:((gn:Int)==0)=false:=by simp[hgn1]
 have hgn3:decide ((gn:Int)=0)=false:=by simp[hgn1]
 have hgn4:(0:Int) < (gn:Int):=by omega
 have hd0:(0:Int)<=(d:Int):=by omega
 obtain⟨dd,hdd⟩:∃ dd,dd=d % gn:=⟨_,rfl⟩
 have hrem:(d:Int).tmod (gn:Int)=(dd:Int):=by rw[hdd];exact trem d gn
 have HDD:Hid (dd=d % g.n):=by show _=_;rw[hdd,hgn]
 have hwd:IntKind.i64.wrap (d:Int)=(d:Int):=IntWalk.i64_in _ (by omega)
 have HGD:Hid (w1.grownBy w1.drew none):=grown_drewN _ 1
 rw[<- hgn] at HC
 have HWR:Hid (∀ W,w1.grownBy W none->Calls Tryz.prog 9 #[ptr x,.int .i64 ((S % 3:Nat):Int),.int .u8 (X:Int)] W fun e w'=>e=.returned (.bool true)/\KM w0 w' x bq bz s a g R2 (xss.set (S % 3) (datL g.k X)) (st.set (S % 3) nx) Z (nx+1)):=fun W gr=>kwrite_yes (HT.out W gr) (Nat.mod_lt _ (by omega)) hX hx hn hL h1 h2
 obtain⟨ss,hss⟩:∃ ss,ss=S % 3:=⟨_,rfl⟩
 have hrem3:(S:Int).tmod 3=(ss:Int):=by rw[hss];exact trem S 3
 have hws:IntKind.i64.wrap (ss:Int)=(ss:Int):=IntWalk.i64_in _ (by omega)
 rw[<- hss] at HWR
 have HSS:Hid (ss=S % 3):=hss
 rw[<- hss]
 clear hss hd hX hx hn hL h1 h2
 clear h T1 nf hbe hw1 hbt hgn hdd
 go_enter Tryz.func6,Tryz.ntmps6
 go_wp2_with fail
 rw[<- HW1.out.1,<- HW1.out.2]
 go_region_held3 (fun w'=>w'.cell? ⟨bt,2,none⟩=some (.int .u8 (d:Int))/\w'.cell? ⟨x,0,none⟩=some (ptr s)/\w'.cell? ⟨x,2,none⟩=some (.int .i64 (gn:Int))) (exact⟨(HC.out _ HGD.out).2.2.1,(HC.out _ HGD.out).2.2.2.2.2.2.1,(HC.out _ HGD.out).2.2.2.2.2.2.2⟩)
  (first | (go_at_call 11;refine ((HT.out _ HGD.out).array).mono ?_;rintro e w2 ⟨rfl,hw⟩;obtain rfl:=hw.symm;clear hw))
 obtain⟨k0,k1,k2,k3,k4,k5,_,_⟩:=HC.out _ HGD.out
 go_wp2_with (go_at_call 9;refine (HWR.out _ HGD.out).mono ?_;rintro e w3 ⟨rfl,hk3⟩;have HK3:Hid (KM w0 w3 x bq bz s a g R2 (xss.set ss (datL g.k X)) (st.set ss nx) Z (nx+1)):=hk3;clear hk3)
 go_ret
 exact⟨rfl,HK3.out⟩
end
section
variable {F:Nat->Prop} {w0:Fr9} {w:World} {x bq bz s a nx:Nat} {g:SP.Geo} {R:AM.Raw} {D:List Value} {xss:List (List Nat)} {st:List Nat} {Z:List Bool}
set_option maxHeartbeats 12800000 in
theorem kturn1_yes (h:Top9 F w0 w x bq bz s a g R D xss st Z nx) {S d fz X:Nat} {vp:Option Addr} {vn vc:Nat} (hd:d < 256) (hL:R.L.length<=990000) {c:Nat} {R1:AM.Raw} (h1:R.lose ((d % g.n:Nat):Int)=(c,R1)) (hcc:c=0\/c=9) (hcnd:Z.count true < g.n - g.k\/(¬ Z.count true < g.n - g.k/\Z.getD (d % g.n) false=true)) :
 Calls Tryz.prog 6 #[ptr x,.agg #[.int .u8 1,.int .u8 (S:Int),.int .u8 (d:Int),.int .u8 (fz:Int),.int .u8 (X:Int),.slice vp vn vc]] w fun e w'=>e=.returned (.bool true)/\KM w0 w' x bq bz s a g R1 xss st (Z.set (d % g.n) true) nx:=by
 obtain⟨T1,nf,hbt⟩:=h.turned #[.int .u8 1,.int .u8 (S:Int),.int .u8 (d:Int),.int .u8 (fz:Int),.int .u8 (X:Int),.slice vp vn vc]
 have HT:Hid (∀ W,(w.alloc (.cells #[.int .u8 1,.int .u8 (S:Int),.int .u8 (d:Int),.int .u8 (fz:Int),.int .u8 (X:Int),.slice vp vn vc] 28)).grownBy W none->Top9 F w0 W x bq bz s a g R D xss st Z nx):=T1
 have HNF:Hid (¬ F w.heap.size):=nf
 obtain⟨bt,hbe⟩:∃ bt,bt=w.heap.size:=⟨_,rfl⟩
 obtain⟨w1,hw1⟩:∃ w1,w1=w.alloc (.cells #[.int .u8 1,.int .u8 (S:Int),.int .u8 (d:Int),.int .u8 (fz:Int),.int .u8 (X:Int),.slice vp vn vc] 28):=⟨_,rfl⟩
 have HW1:Hid (w1=w.alloc (.cells #[.int .u8 1,.int .u8 (S:Int),.int .u8 (d:Int),.int .u8 (fz:Int),.int .u8 (X:Int),.slice vp vn vc] 28)/\bt=w.heap.size):=⟨hw1,hbe⟩
 rw[<- hw1] at HT hbt
 rw[<- hbe] at HNF hbt
 have HB:Hid (w1.heap[bt]?=some (.cells #[.int .u8 1,.int .u8 (S:Int),.int .u8 (d:Int),.int .u8 (fz:Int),.int .u8 (X:Int),.slice vp vn vc] 28 (0,0))):=hbt
 have HC:Hid (∀ W,w1.grownBy W none->W.cell? ⟨bt,0,none⟩=some (.int .u8 1)/\W.cell? ⟨bt,1,none⟩=some (.int .u8 (S:Int))/\W.cell? ⟨bt,2,none⟩=some (.int .u8 (d:Int))/\W.cell? ⟨bt,3,none⟩=some (.int .u8 (fz:Int))/\W.cell? ⟨bt,4,none⟩=some (.int .u8 (X:Int))/\W.cell? ⟨bt,5,none⟩=some (.slice vp vn vc)/\W.cell? ⟨x,0,none⟩=some (ptr s)/\W.cell? ⟨x,2,none⟩=some (.int .i64 (g.n:Int))):=fun W gr=>by
  have hb:W.heap[bt]?=some (.cells #[.int .u8 1,.int .u8 (S:Int),.int .u8 (d:Int),.int .u8 (fz:Int),.int .u8 (X:Int),.slice vp vn vc] 28 (0,0)):=(gr.block bt (heap_lt hbt) (by simp)).trans hbt
  exact⟨topCell (j:=0) hb rfl,topCell (j:=1) hb rfl,topCell (j:=2) hb rfl,topCell (j:=3) hb rfl,topCell (j:=4) hb rfl,topCell (j:=5) hb rfl,(HT.out W gr).c0,(HT.out W gr).c2⟩
 obtain⟨gn,hgn⟩:∃ gn,gn=g.n:=⟨_,rfl⟩
 have HGN:Hid (gn=g.n/\1<=g.n/\g.n<=9):=⟨hgn,by have:=h.i.ok.kn;omega,h.n⟩
 have hgn0:¬ (gn:Int)=0:=by have:=HGN.out;omega
 have hgn1:¬ gn=0:=by omega
 have hgn2:((gn:Int)==0)=false:=by simp[hgn1]
 have hgn3:decide ((gn:Int)=0)=false:=by simp[hgn1]
 have hgn4:(0:Int) < (gn:Int):=by omega
 have hd0:(0:Int)<=(d:Int):=by omega
 obtain⟨dd,hdd⟩:∃ dd,dd=d % gn:=⟨_,rfl⟩
 have hrem:(d:Int).tmod (gn:Int)=(dd:Int):=by rw[hdd];exact trem d gn
 have HDD:Hid (dd=d % g.n):=by show _=_;rw[hdd,hgn]
 have hwd:IntKind.i64.wrap (d:Int)=(d:Int):=IntWalk.i64_in _ (by omega)
 have HGD:Hid (w1.grownBy w1.drew none):=grown_drewN _ 1
 rw[<- hgn] at HC
 obtain⟨C,hC⟩:∃ C,C=Z.count true:=⟨_,rfl⟩
 have HCC:Hid (C=Z.count true):=hC
 obtain⟨gk,hgk⟩:∃ gk,gk=g.k:=⟨_,rfl⟩
 obtain⟨b0,hb0⟩:∃ b0,b0=Z.getD dd false:=⟨_,rfl⟩
 have hddn:dd < gn:=by rw[hdd];exact Nat.mod_lt _ (by omega)
 have bkn:gk < gn/\gn<=255:=by rw[hgk,hgn];exact⟨h.i.ok.kn,h.i.ok.n255⟩
 have hdd1:(dd:Int) < (gn:Int):=by omega
 have hdd0:(0:Int)<=(dd:Int):=by omega
 have hws1:IntKind.i64.wrap ((gn:Int) - (gk:Int))=(gn:Int) - (gk:Int):=IntWalk.i64_in _ (by omega)
 have HQ:Hid (∀ W,w1.grownBy W none->W.cell? ⟨x,1,none⟩=some (.int .i64 (gk:Int))/\W.cell? ⟨x,2,none⟩=some (.int .i64 (gn:Int))/\W.cell? ⟨x,8,none⟩=some (.slice (some ⟨bz,0,none⟩) gn gn)/\W.cell? ⟨bz,dd,none⟩=some (.bool b0)):=fun W gr=>⟨by rw[hgk];exact (HT.out W gr).c1,by rw[hgn];exact (HT.out W gr).c2,by rw[hgn];exact (HT.out W gr).c8,by rw[hb0];exact (HT.out W gr).cz (by rw[<- hgn];exact hddn)⟩
 have HGD2:Hid (w1.grownBy w1.drew.drew none):=grown_trans (grown_drewN _ 1) (grown_drewN _ 1)
 have HLO:Hid (∀ W,w1.grownBy W none->Calls Tryz.prog 13 #[ptr a,.int .i64 (dd:Int)] W fun e w'=>e=.returned (.int .i64 (c:Int))/\∃ F',Top9 F' w0 w' x bq bz s a g R1 D xss st Z nx):=fun W gr=>by rw[HDD.out];exact (HT.out W gr).lose (Nat.le_trans hL (by omega)) h1
 have HFZ:Hid (∀ {F':Nat->Prop} {W:World},Top9 F' w0 W x bq bz s a g R1 D xss st Z nx->W.cell? ⟨x,8,none⟩=some (.slice (some ⟨bz,0,none⟩) gn gn)/\W.frozen? ⟨bz,dd,none⟩=false/\W.cell? ⟨bz,dd,none⟩=some (.bool b0)/\KM w0 (W.setCell ⟨bz,dd,none⟩ (.bool true)) x bq bz s a g R1 xss st (Z.set dd true) nx):=fun t=>⟨by rw[hgn];exact t.c8,topFrozen dd t.sta,by rw[hb0];exact t.cz (by rw[<- hgn];exact hddn),t.stale.km⟩
 rw[<- HDD.out]
 rw[<- HDD.out,<- hC,<- hgk,<- hgn,<- hb0] at hcnd
 clear hd hL h1 hC hgk hb0 hddn
 rcases hcnd with hcnd | ⟨hcnd,hbt0⟩
 rotate_left
 subst hbt0
 all_goals rcases hcc with hc0 | hc9
 all_goals (first | subst hc0 | subst hc9)
 all_goals (first | (have i5:(C:Int) < (gn:Int) - (gk:Int):=by omega) | (have i5:¬ (C:Int) < (gn:Int) - (gk:Int):=by omega))
 all_goals (first | (have i6:decide ((C:Int) < (gn:Int) - (gk:Int))=true:=decide_eq_true i5) | (have i6:decide ((C:Int) < (gn:Int) - (gk:Int))=false:=decide_eq_false i5))
 all_goals clear bkn hcnd
 all_goals clear h T1 nf hbe hw1 hbt hgn hdd
 all_goals skip
 ·go_enter Tryz.func6,Tryz.ntmps6
  go_wp2_with fail
  rw[<- HW1.out.1,<- HW1.out.2]
  go_region_held3 (fun w'=>w'.cell? ⟨bt,2,none⟩=some (.int .u8 (d:Int))/\w'.cell? ⟨x,0,none⟩=some (ptr s)/\w'.cell? ⟨x,2,none⟩=some (.int .i64 (gn:Int))) (exact⟨(HC.out _ HGD.out).2.2.1,(HC.out _ HGD.out).2.2.2.2.2.2.1,(HC.out _ HGD.out).2.2.2.2.2.2.2⟩)
   (first | (go_at_call 11;refine ((HT.out _ HGD.out).array).mono ?_;rintro e w2 ⟨rfl,hw⟩;obtain rfl:=hw.symm;clear hw))
  obtain⟨k0,k1,k2,k3,k4,k5,_,_⟩:=HC.out _ HGD.out
  go_wp2_with fail
  first | (go_region_held3 (fun w'=>w'.cell? ⟨x,1,none⟩=some (.int .i64 (gk:Int))/\w'.cell? ⟨x,2,none⟩=some (.int .i64 (gn:Int))/\w'.cell? ⟨x,8,none⟩=some (.slice (some ⟨bz,0,none⟩) gn gn)/\w'.cell? ⟨bz,dd,none⟩=some (.bool true)) (exact HQ.out _ HGD2.out)
   (first | (go_at_call 10;refine (spoilt_yes (HT.out _ HGD2.out)).mono ?_;rw[<- HCC.out];rintro e w7 ⟨rfl,hw7⟩;obtain rfl:=hw7.symm;clear hw7))) | fail
  go_wp2_with (go_at_call 13;refine (HLO.out _ HGD2.out).mono ?_;rintro e w8 ⟨rfl,F8,t8⟩;have T8:Hid (Top9 F8 w0 w8 x bq bz s a g R1 D xss st Z nx):=t8;obtain⟨z0,z1,z2,z3⟩:=HFZ.out t8;have HZ3:Hid (KM w0 (w8.setCell ⟨bz,dd,none⟩ (.bool true)) x bq bz s a g R1 xss st (Z.set dd true) nx):=z3;clear t8 z3)
  go_ret
  exact⟨rfl,HZ3.out⟩
 ·go_enter Tryz.func6,Tryz.ntmps6
  go_wp2_with fail
  rw[<- HW1.out.1,<- HW1.out.2]
  go_region_held3 (fun w'=>w'.cell? ⟨bt,2,none⟩=some (.int .u8 (d:Int))/\w'.cell? ⟨x,0,none⟩=some (ptr s)/\w'.cell? ⟨x,2,none⟩=some (.int .i64 (gn:Int))) (exact⟨(HC.out _ HGD.out).2.2.1,(HC.out _ HGD.out).2.2.2.2.2.2.1,(HC.out _ HGD.out).2.2.2.2.2.2.2⟩)
   (first | (go_at_call 11;refine ((HT.out _ HGD.out).array).mono ?_;rintro e w2 ⟨rfl,hw⟩;obtain rfl:=hw.symm;clear hw))
  obtain⟨k0,k1,k2,k3,k4,k5,_,_⟩:=HC.out _ HGD.out
  go_wp2_with fail
  first | (go_region_held3 (fun w'=>w'.cell? ⟨x,1,none⟩=some (.int .i64 (gk:Int))/\w'.cell? ⟨x,2,none⟩=some (.int .i64 (gn:Int))/\w'.cell? ⟨x,8,none⟩=some (.slice (some ⟨bz,0,none⟩) gn gn)/\w'.cell? ⟨bz,dd,none⟩=some (.bool true)) (exact HQ.out _ HGD2.out)
   (first | (go_at_call 10;refine (spoilt_yes (HT.out _ HGD2.out)).mono ?_;rw[<- HCC.out];rintro e w7 ⟨rfl,hw7⟩;obtain rfl:=hw7.symm;clear hw7))) | fail
  go_wp2_with (go_at_call 13;refine (HLO.out _ HGD2.out).mono ?_;rintro e w8 ⟨rfl,F8,t8⟩;have T8:Hid (Top9 F8 w0 w8 x bq bz s a g R1 D xss st Z nx):=t8;obtain⟨z0,z1,z2,z3⟩:=HFZ.out t8;have HZ3:Hid (KM w0 (w8.setCell ⟨bz,dd,none⟩ (.bool true)) x bq bz s a g R1 xss st (Z.set dd true) nx):=z3;clear t8 z3)
  go_ret
  exact⟨rfl,HZ3.out⟩
 ·go_enter Tryz.func6,Tryz.ntmps6
  go_wp2_with fail
  rw[<- HW1.out.1,<- HW1.out.2]
  go_region_held3 (fun w'=>w'.cell? ⟨bt,2,none⟩=some (.int .u8 (d:Int))/\w'.cell? ⟨x,0,none⟩=some (ptr s)/\w'.cell? ⟨x,2,none⟩=some (.int .i64 (gn:Int))) (exact⟨(HC.out _ HGD.out).2.2.1,(HC.out _ HGD.out).2.2.2.2.2.2.1,(HC.out _ HGD.out).2.2.2.2.2.2.2⟩)
   (first | (go_at_call 11;refine ((HT.out _ HGD.out).array).mono ?_;rintro e w2 ⟨rfl,hw⟩;obtain rfl:=hw.symm;clear hw))
  obtain⟨k0,k1,k2,k3,k4,k5,_,_⟩:=HC.out _ HGD.out
  go_wp2_with fail
  refine wp_region_held_drew (S:=fun w'=>w'.cell? ⟨x,1,none⟩=some (.int .i64 (gk:Int))/\w'.cell? ⟨x,2,none⟩=some (.int .i64 (gn:Int))) (by kernel_rfl) ?_ (fun hHeld=>?_)
  ·exact⟨(HQ.out _ HGD2.out).1,(HQ.out _ HGD2.out).2.1⟩
  refine wpAnyH_take (i:=0) (v:=?_) rfl (by kernel_rfl) (by kernel_rfl) (by kernel_rfl) (fun _ _ _ h=>h) (Or.inl ⟨by rfl,?_⟩) (by assumption) ?_
  rotate_left
  ·intro w hSw;(try dsimp only at hSw);first | (go_simp;done) | (go_simp;with_reducible rfl)
  simp only[Act.put,lay9]
  refine wpAnyH_take (i:=2) (v:=?_) rfl (by kernel_rfl) (by kernel_rfl) (by kernel_rfl) (fun _ _ _ h=>h) (Or.inl ⟨by rfl,?_⟩) (by assumption) ?_
  rotate_left
  ·intro w hSw;(try dsimp only at hSw);first | (go_simp;done) | (go_simp;with_reducible rfl)
  simp only[Act.put,lay9]
  refine wpAnyH_take (i:=3) (v:=?_) rfl (by kernel_rfl) (by kernel_rfl) (by kernel_rfl) (fun _ _ _ h=>h) (Or.inl ⟨by rfl,?_⟩) (by assumption) ?_
  rotate_left
  ·intro w hSw;(try dsimp only at hSw);first | (go_simp;done) | (go_simp;with_reducible rfl)
  simp only[Act.put,lay9]
  refine wpAnyH_take (i:=4) (v:=?_) rfl (by kernel_rfl) (by kernel_rfl) (by kernel_rfl) (fun _ _ _ h=>h) (Or.inl ⟨by rfl,?_⟩) (by assumption) ?_
  rotate_left
  ·intro w hSw;(try dsimp only at hSw);first | (go_simp;done) | (go_simp;with_reducible rfl)
  simp only[Act.put,lay9]
  refine wpAnyH_take (i:=5) (v:=?_) rfl (by kernel_rfl) (by kernel_rfl) (by kernel_rfl) (fun _ _ _ h=>h) (Or.inl ⟨by rfl,?_⟩) (by assumption) ?_
  rotate_left
  ·intro w hSw;(try dsimp only at hSw);first | (go_simp;done) | (go_simp;with_reducible rfl)
  simp only[Act.put,lay9]
  refine wpAnyH_take (i:=6) (v:=?_) rfl (by kernel_rfl) (by kernel_rfl) (by kernel_rfl) (fun _ _ _ h=>h) (Or.inl ⟨by rfl,?_⟩) (by assumption) ?_
  rotate_left
  ·intro w hSw;(try dsimp only at hSw);first | (go_simp;done) | (go_simp;with_reducible rfl)
  simp only[Act.put,lay9]
  refine wpAnyH_take (i:=7) (v:=?_) rfl (by kernel_rfl) (by kernel_rfl) (by kernel_rfl) (fun _ _ _ h=>h) (Or.inl ⟨by rfl,?_⟩) (by assumption) ?_
  rotate_left
  ·intro w hSw;(try dsimp only at hSw);first | (go_simp;done) | (go_simp;with_reducible rfl)
  simp only[Act.put,lay9]
  refine wpAnyH_take (i:=8) (v:=?_) rfl (by kernel_rfl) (by kernel_rfl) (by kernel_rfl) (fun _ _ _ h=>h) (Or.inl ⟨by rfl,?_⟩) (by assumption) ?_
  rotate_left
  ·intro w hSw;(try dsimp only at hSw);first | (go_simp;done) | (go_simp;with_reducible rfl)
  simp only[Act.put,lay9]
  refine wpAnyH_take (i:=9) (v:=?_) rfl (by kernel_rfl) (by kernel_rfl) (by kernel_rfl) (fun _ _ _ h=>h) (Or.inl ⟨by rfl,?_⟩) (by assumption) ?_
  rotate_left
  ·intro w hSw;(try dsimp only at hSw);first | (go_simp;done) | (go_simp;with_reducible rfl)
  simp only[Act.put,lay9]
  refine wpAnyH_take (i:=10) (v:=?_) rfl (by kernel_rfl) (by kernel_rfl) (by kernel_rfl) (fun _ _ _ h=>h) (Or.inl ⟨by rfl,?_⟩) (by assumption) ?_
  rotate_left
  ·intro w hSw;(try dsimp only at hSw);first | (go_simp;done) | (go_simp;with_reducible rfl)
  simp only[Act.put,lay9]
  refine wpAnyH_ready (rs:=[1]) (by kernel_rfl) (by simp) ?_
  refine AllReadyH.cons rfl (fun K hK=>?_) AllReadyH.nil
  go_simp
  refine (spoilt_yes (HT.out _ HGD2.out)).mono ?_
  rw[<- HCC.out]
  rintro e w7 ⟨rfl,hw7⟩
  obtain rfl:=hw7.symm
  clear hw7
  refine hK.out _ _ (⟨(HQ.out _ HGD2.out).1,(HQ.out _ HGD2.out).2.1⟩) (fun hHeld=>?_)
  clear hK K
  (try simp only[Act.put,lay9])
  refine wpAnyH_take (i:=11) (v:=?_) rfl (by kernel_rfl) (by kernel_rfl) (by kernel_rfl) (fun _ _ _ h=>h) (Or.inl ⟨by rfl,?_⟩) (by assumption) ?_
  rotate_left
  ·intro w hSw;(try dsimp only at hSw);first | (go_simp;done) | (go_simp;with_reducible rfl)
  simp only[Act.put,lay9]
  refine wpAnyH_take (i:=12) (v:=?_) rfl (by kernel_rfl) (by kernel_rfl) (by kernel_rfl) (fun _ _ _ h=>h) (Or.inl ⟨by rfl,?_⟩) (by assumption) ?_
  rotate_left
  ·intro w hSw;(try dsimp only at hSw);first | (go_simp;done) | (go_simp;with_reducible rfl)
  simp only[Act.put,lay9]
  refine wpAnyH_take (i:=13) (v:=undef) rfl (by kernel_rfl) (by kernel_rfl) (by kernel_rfl) (fun _ _ _ h=>h) (Or.inr ⟨by rfl,rfl⟩) (by assumption) ?_
  simp only[Act.put,lay9]
  refine wpAnyH_take (i:=14) (v:=undef) rfl (by kernel_rfl) (by kernel_rfl) (by kernel_rfl) (fun _ _ _ h=>h) (Or.inr ⟨by rfl,rfl⟩) (by assumption) ?_
  simp only[Act.put,lay9]
  refine wpAnyH_take (i:=15) (v:=undef) rfl (by kernel_rfl) (by kernel_rfl) (by kernel_rfl) (fun _ _ _ h=>h) (Or.inr ⟨by rfl,rfl⟩) (by assumption) ?_
  simp only[Act.put,lay9]
  refine wpAnyH_take (i:=16) (v:=undef) rfl (by kernel_rfl) (by kernel_rfl) (by kernel_rfl) (fun _ _ _ h=>h) (Or.inr ⟨by rfl,rfl⟩) (by assumption) ?_
  simp only[Act.put,lay9]
  refine wpAnyH_take (i:=17) (v:=undef) rfl (by kernel_rfl) (by kernel_rfl) (by kernel_rfl) (fun _ _ _ h=>h) (Or.inr ⟨by rfl,rfl⟩) (by assumption) ?_
  simp only[Act.put,lay9]
  refine wpAnyH_take (i:=18) (v:=undef) rfl (by kernel_rfl) (by kernel_rfl) (by kernel_rfl) (fun _ _ _ h=>h) (Or.inr ⟨by rfl,rfl⟩) (by assumption) ?_
  simp only[Act.put,lay9]
  refine wpAnyH_take (i:=19) (v:=undef) rfl (by kernel_rfl) (by kernel_rfl) (by kernel_rfl) (fun _ _ _ h=>h) (Or.inr ⟨by rfl,rfl⟩) (by assumption) ?_
  simp only[Act.put,lay9]
  refine wpAnyH_take (i:=20) (v:=?_) rfl (by kernel_rfl) (by kernel_rfl) (by kernel_rfl) (fun _ _ _ h=>h) (Or.inl ⟨by rfl,?_⟩) (by assumption) ?_
  rotate_left
  ·intro w hSw;(try dsimp only at hSw);first | (go_simp;done) | (go_simp;with_reducible rfl)
  simp only[Act.put,lay9]
  refine wpAnyH_done (by kernel_rfl) ?_ _
  go_wp2_with (go_at_call 13;refine (HLO.out _ HGD2.out).mono ?_;rintro e w8 ⟨rfl,F8,t8⟩;have T8:Hid (Top9 F8 w0 w8 x bq bz s a g R1 D xss st Z nx):=t8;obtain⟨z0,z1,z2,z3⟩:=HFZ.out t8;have HZ3:Hid (KM w0 (w8.setCell ⟨bz,dd,none⟩ (.bool true)) x bq bz s a g R1 xss st (Z.set dd true) nx):=z3;clear t8 z3)
  go_ret
  exact⟨rfl,HZ3.out⟩
 ·go_enter Tryz.func6,Tryz.ntmps6
  go_wp2_with fail
  rw[<- HW1.out.1,<- HW1.out.2]
  go_region_held3 (fun w'=>w'.cell? ⟨bt,2,none⟩=some (.int .u8 (d:Int))/\w'.cell? ⟨x,0,none⟩=some (ptr s)/\w'.cell? ⟨x,2,none⟩=some (.int .i64 (gn:Int))) (exact⟨(HC.out _ HGD.out).2.2.1,(HC.out _ HGD.out).2.2.2.2.2.2.1,(HC.out _ HGD.out).2.2.2.2.2.2.2⟩)
   (first | (go_at_call 11;refine ((HT.out _ HGD.out).array).mono ?_;rintro e w2 ⟨rfl,hw⟩;obtain rfl:=hw.symm;clear hw))
  obtain⟨k0,k1,k2,k3,k4,k5,_,_⟩:=HC.out _ HGD.out
  go_wp2_with fail
  refine wp_region_held_drew (S:=fun w'=>w'.cell? ⟨x,1,none⟩=some (.int .i64 (gk:Int))/\w'.cell? ⟨x,2,none⟩=some (.int .i64 (gn:Int))) (by kernel_rfl) ?_ (fun hHeld=>?_)
  ·exact⟨(HQ.out _ HGD2.out).1,(HQ.out _ HGD2.out).2.1⟩
  refine wpAnyH_take (i:=0) (v:=?_) rfl (by kernel_rfl) (by kernel_rfl) (by kernel_rfl) (fun _ _ _ h=>h) (Or.inl ⟨by rfl,?_⟩) (by assumption) ?_
  rotate_left
  ·intro w hSw;(try dsimp only at hSw);first | (go_simp;done) | (go_simp;with_reducible rfl)
  simp only[Act.put,lay9]
  refine wpAnyH_take (i:=2) (v:=?_) rfl (by kernel_rfl) (by kernel_rfl) (by kernel_rfl) (fun _ _ _ h=>h) (Or.inl ⟨by rfl,?_⟩) (by assumption) ?_
  rotate_left
  ·intro w hSw;(try dsimp only at hSw);first | (go_simp;done) | (go_simp;with_reducible rfl)
  simp only[Act.put,lay9]
  refine wpAnyH_take (i:=3) (v:=?_) rfl (by kernel_rfl) (by kernel_rfl) (by kernel_rfl) (fun _ _ _ h=>h) (Or.inl ⟨by rfl,?_⟩) (by assumption) ?_
  rotate_left
  ·intro w hSw;(try dsimp only at hSw);first | (go_simp;done) | (go_simp;with_reducible rfl)
  simp only[Act.put,lay9]
  refine wpAnyH_take (i:=4) (v:=?_) rfl (by kernel_rfl) (by kernel_rfl) (by kernel_rfl) (fun _ _ _ h=>h) (Or.inl ⟨by rfl,?_⟩) (by assumption) ?_
  rotate_left
  ·intro w hSw;(try dsimp only at hSw);first | (go_simp;done) | (go_simp;with_reducible rfl)
  simp only[Act.put,lay9]
  refine wpAnyH_take (i:=5) (v:=?_) rfl (by kernel_rfl) (by kernel_rfl) (by kernel_rfl) (fun _ _ _ h=>h) (Or.inl ⟨by rfl,?_⟩) (by assumption) ?_
  rotate_left
  ·intro w hSw;(try dsimp only at hSw);first | (go_simp;done) | (go_simp;with_reducible rfl)
  simp only[Act.put,lay9]
  refine wpAnyH_take (i:=6) (v:=?_) rfl (by kernel_rfl) (by kernel_rfl) (by kernel_rfl) (fun _ _ _ h=>h) (Or.inl ⟨by rfl,?_⟩) (by assumption) ?_
  rotate_left
  ·intro w hSw;(try dsimp only at hSw);first | (go_simp;done) | (go_simp;with_reducible rfl)
  simp only[Act.put,lay9]
  refine wpAnyH_take (i:=7) (v:=?_) rfl (by kernel_rfl) (by kernel_rfl) (by kernel_rfl) (fun _ _ _ h=>h) (Or.inl ⟨by rfl,?_⟩) (by assumption) ?_
  rotate_left
  ·intro w hSw;(try dsimp only at hSw);first | (go_simp;done) | (go_simp;with_reducible rfl)
  simp only[Act.put,lay9]
  refine wpAnyH_take (i:=8) (v:=?_) rfl (by kernel_rfl) (by kernel_rfl) (by kernel_rfl) (fun _ _ _ h=>h) (Or.inl ⟨by rfl,?_⟩) (by assumption) ?_
  rotate_left
  ·intro w hSw;(try dsimp only at hSw);first | (go_simp;done) | (go_simp;with_reducible rfl)
  simp only[Act.put,lay9]
  refine wpAnyH_take (i:=9) (v:=?_) rfl (by kernel_rfl) (by kernel_rfl) (by kernel_rfl) (fun _ _ _ h=>h) (Or.inl ⟨by rfl,?_⟩) (by assumption) ?_
  rotate_left
  ·intro w hSw;(try dsimp only at hSw);first | (go_simp;done) | (go_simp;with_reducible rfl)
  simp only[Act.put,lay9]
  refine wpAnyH_take (i:=10) (v:=?_) rfl (by kernel_rfl) (by kernel_rfl) (by kernel_rfl) (fun _ _ _ h=>h) (Or.inl ⟨by rfl,?_⟩) (by assumption) ?_
  rotate_left
  ·intro w hSw;(try dsimp only at hSw);first | (go_simp;done) | (go_simp;with_reducible rfl)
  simp only[Act.put,lay9]
  refine wpAnyH_ready (rs:=[1]) (by kernel_rfl) (by simp) ?_
  refine AllReadyH.cons rfl (fun K hK=>?_) AllReadyH.nil
  go_simp
  refine (spoilt_yes (HT.out _ HGD2.out)).mono ?_
  rw[<- HCC.out]
  rintro e w7 ⟨rfl,hw7⟩
  obtain rfl:=hw7.symm
  clear hw7
  refine hK.out _ _ (⟨(HQ.out _ HGD2.out).1,(HQ.out _ HGD2.out).2.1⟩) (fun hHeld=>?_)
  clear hK K
  (try simp only[Act.put,lay9])
  refine wpAnyH_take (i:=11) (v:=?_) rfl (by kernel_rfl) (by kernel_rfl) (by kernel_rfl) (fun _ _ _ h=>h) (Or.inl ⟨by rfl,?_⟩) (by assumption) ?_
  rotate_left
  ·intro w hSw;(try dsimp only at hSw);first | (go_simp;done) | (go_simp;with_reducible rfl)
  simp only[Act.put,lay9]
  refine wpAnyH_take (i:=12) (v:=?_) rfl (by kernel_rfl) (by kernel_rfl) (by kernel_rfl) (fun _ _ _ h=>h) (Or.inl ⟨by rfl,?_⟩) (by assumption) ?_
  rotate_left
  ·intro w hSw;(try dsimp only at hSw);first | (go_simp;done) | (go_simp;with_reducible rfl)
  simp only[Act.put,lay9]
  refine wpAnyH_take (i:=13) (v:=undef) rfl (by kernel_rfl) (by kernel_rfl) (by kernel_rfl) (fun _ _ _ h=>h) (Or.inr ⟨by rfl,rfl⟩) (by assumption) ?_
  simp only[Act.put,lay9]
  refine wpAnyH_take (i:=14) (v:=undef) rfl (by kernel_rfl) (by kernel_rfl) (by kernel_rfl) (fun _ _ _ h=>h) (Or.inr ⟨by rfl,rfl⟩) (by assumption) ?_
  simp only[Act.put,lay9]
  refine wpAnyH_take (i:=15) (v:=undef) rfl (by kernel_rfl) (by kernel_rfl) (by kernel_rfl) (fun _ _ _ h=>h) (Or.inr ⟨by rfl,rfl⟩) (by assumption) ?_
  simp only[Act.put,lay9]
  refine wpAnyH_take (i:=16) (v:=undef) rfl (by kernel_rfl) (by kernel_rfl) (by kernel_rfl) (fun _ _ _ h=>h) (Or.inr ⟨by rfl,rfl⟩) (by assumption) ?_
  simp only[Act.put,lay9]
  refine wpAnyH_take (i:=17) (v:=undef) rfl (by kernel_rfl) (by kernel_rfl) (by kernel_rfl) (fun _ _ _ h=>h) (Or.inr ⟨by rfl,rfl⟩) (by assumption) ?_
  simp only[Act.put,lay9]
  refine wpAnyH_take (i:=18) (v:=undef) rfl (by kernel_rfl) (by kernel_rfl) (by kernel_rfl) (fun _ _ _ h=>h) (Or.inr ⟨by rfl,rfl⟩) (by assumption) ?_
  simp only[Act.put,lay9]
  refine wpAnyH_take (i:=19) (v:=undef) rfl (by kernel_rfl) (by kernel_rfl) (by kernel_rfl) (fun _ _ _ h=>h) (Or.inr ⟨by rfl,rfl⟩) (by assumption) ?_
  simp only[Act.put,lay9]
  refine wpAnyH_take (i:=20) (v:=?_) rfl (by kernel_rfl) (by kernel_rfl) (by kernel_rfl) (fun _ _ _ h=>h) (Or.inl ⟨by rfl,?_⟩) (by assumption) ?_
  rotate_left
  ·intro w hSw;(try dsimp only at hSw);first | (go_simp;done) | (go_simp;with_reducible rfl)
  simp only[Act.put,lay9]
  refine wpAnyH_done (by kernel_rfl) ?_ _
  go_wp2_with (go_at_call 13;refine (HLO.out _ HGD2.out).mono ?_;rintro e w8 ⟨rfl,F8,t8⟩;have T8:Hid (Top9 F8 w0 w8 x bq bz s a g R1 D xss st Z nx):=t8;obtain⟨z0,z1,z2,z3⟩:=HFZ.out t8;have HZ3:Hid (KM w0 (w8.setCell ⟨bz,dd,none⟩ (.bool true)) x bq bz s a g R1 xss st (Z.set dd true) nx):=z3;clear t8 z3)
  go_ret
  exact⟨rfl,HZ3.out⟩
end
section
variable {F:Nat->Prop} {w0:Fr9} {w:World} {x bq bz s a nx:Nat} {g:SP.Geo} {R:AM.Raw} {D:List Value} {xss:List (List Nat)} {st:List Nat} {Z:List Bool}
set_option maxHeartbeats 6400000 in
theorem kturn1_no (h:Top9 F w0 w x bq bz s a g R D xss st Z nx) {S d fz X:Nat} {vp:Option Addr} {vn vc:Nat} (hd:d < 256) (hc:¬ Z.count true < g.n - g.k) (hz:Z.getD (d % g.n) false=false) :
 Calls Tryz.prog 6 #[ptr x,.agg #[.int .u8 1,.int .u8 (S:Int),.int .u8 (d:Int),.int .u8 (fz:Int),.int .u8 (X:Int),.slice vp vn vc]] w fun e w'=>e=.returned (.bool true)/\KM w0 w' x bq bz s a g R xss st Z nx:=by
 obtain⟨T1,nf,hbt⟩:=h.turned #[.int .u8 1,.int .u8 (S:Int),.int .u8 (d:Int),.int .u8 (fz:Int),.int .u8 (X:Int),.slice vp vn vc]
 have HT:Hid (∀ W,(w.alloc (.cells #[.int .u8 1,.int .u8 (S:Int),.int .u8 (d:Int),.int .u8 (fz:Int),.int .u8 (X:Int),.slice vp vn vc] 28)).grownBy W none->Top9 F w0 W x bq bz s a g R D xss st Z nx):=T1
 have HNF:Hid (¬ F w.heap.size):=nf
 obtain⟨bt,hbe⟩:∃ bt,bt=w.heap.size:=⟨_,rfl⟩
 obtain⟨w1,hw1⟩:∃ w1,w1=w.alloc (.cells #[.int .u8 1,.int .u8 (S:Int),.int .u8 (d:Int),.int .u8 (fz:Int),.int .u8 (X:Int),.slice vp vn vc] 28):=⟨_,rfl⟩
 have HW1:Hid (w1=w.alloc (.cells #[.int .u8 1,.int .u8 (S:Int),.int .u8 (d:Int),.int .u8 (fz:Int),.int .u8 (X:Int),.slice vp vn vc] 28)/\bt=w.heap.size):=⟨hw1,hbe⟩
 rw[<- hw1] at HT hbt
 rw[<- hbe] at HNF hbt
 have HB:Hid (w1.heap[bt]?=some (.cells #[.int .u8 1,.int .u8 (S:Int),.int .u8 (d:Int),.int .u8 (fz:Int),.int .u8 (X:Int),.slice vp vn vc] 28 (0,0))):=hbt
 have HC:Hid (∀ W,w1.grownBy W none->W.cell? ⟨bt,0,none⟩=some (.int .u8 1)/\W.cell? ⟨bt,1,none⟩=some (.int .u8 (S:Int))/\W.cell? ⟨bt,2,none⟩=some (.int .u8 (d:Int))/\W.cell? ⟨bt,3,none⟩=some (.int .u8 (fz:Int))/\W.cell? ⟨bt,4,none⟩=some (.int .u8 (X:Int))/\W.cell? ⟨bt,5,none⟩=some (.slice vp vn vc)/\W.cell? ⟨x,0,none⟩=some (ptr s)/\W.cell? ⟨x,2,none⟩=some (.int .i64 (g.n:Int))):=fun W gr=>by
  have hb:W.heap[bt]?=some (.cells #[.int .u8 1,.int .u8 (S:Int),.int .u8 (d:Int),.int .u8 (fz:Int),.int .u8 (X:Int),.slice vp vn vc] 28 (0,0)):=(gr.block bt (heap_lt hbt) (by simp)).trans hbt
  exact⟨topCell (j:=0) hb rfl,topCell (j:=1) hb rfl,topCell (j:=2) hb rfl,topCell (j:=3) hb rfl,topCell (j:=4) hb rfl,topCell (j:=5) hb rfl,(HT.out W gr).c0,(HT.out W gr).c2⟩
 obtain⟨gn,hgn⟩:∃ gn,gn=g.n:=⟨_,rfl⟩
 have HGN:Hid (gn=g.n/\1<=g.n/\g.n<=9):=⟨hgn,by have:=h.i.ok.kn;omega,h.n⟩
 have hgn0:¬ (gn:Int)=0:=by have:=HGN.out;omega
 have hgn1:¬ gn=0:=by omega
 have hgn2:((gn:Int)==0)=false:=by simp[hgn1]
 have hgn3:decide ((gn:Int)=0)=false:=by simp[hgn1]
 have hgn4:(0:Int) < (gn:Int):=by omega
 have hd0:(0:Int)<=(d:Int):=by omega
 obtain⟨dd,hdd⟩:∃ dd,dd=d % gn:=⟨_,rfl⟩
 have hrem:(d:Int).tmod (gn:Int)=(dd:Int):=by rw[hdd];exact trem d gn
 have HDD:Hid (dd=d % g.n):=by show _=_;rw[hdd,hgn]
 have hwd:IntKind.i64.wrap (d:Int)=(d:Int):=IntWalk.i64_in _ (by omega)
 have HGD:Hid (w1.grownBy w1.drew none):=grown_drewN _ 1
 rw[<- hgn] at HC
 obtain⟨C,hC⟩:∃ C,C=Z.count true:=⟨_,rfl⟩
 have HCC:Hid (C=Z.count true):=hC
 obtain⟨gk,hgk⟩:∃ gk,gk=g.k:=⟨_,rfl⟩
 obtain⟨b0,hb0⟩:∃ b0,b0=Z.getD dd false:=⟨_,rfl⟩
 have hddn:dd < gn:=by rw[hdd];exact Nat.mod_lt _ (by omega)
 have bkn:gk < gn/\gn<=255:=by rw[hgk,hgn];exact⟨h.i.ok.kn,h.i.ok.n255⟩
 have hdd1:(dd:Int) < (gn:Int):=by omega
 have hdd0:(0:Int)<=(dd:Int):=by omega
 have hws1:IntKind.i64.wrap ((gn:Int) - (gk:Int))=(gn:Int) - (gk:Int):=IntWalk.i64_in _ (by omega)
 have HQ:Hid (∀ W,w1.grownBy W none->W.cell? ⟨x,1,none⟩=some (.int .i64 (gk:Int))/\W.cell? ⟨x,2,none⟩=some (.int .i64 (gn:Int))/\W.cell? ⟨x,8,none⟩=some (.slice (some ⟨bz,0,none⟩) gn gn)/\W.cell? ⟨bz,dd,none⟩=some (.bool b0)):=fun W gr=>⟨by rw[hgk];exact (HT.out W gr).c1,by rw[hgn];exact (HT.out W gr).c2,by rw[hgn];exact (HT.out W gr).c8,by rw[hb0];exact (HT.out W gr).cz (by rw[<- hgn];exact hddn)⟩
 have HGD2:Hid (w1.grownBy w1.drew.drew none):=grown_trans (grown_drewN _ 1) (grown_drewN _ 1)
 rw[<- HDD.out,<- hb0] at hz
 subst hz
 rw[<- hC,<- hgk,<- hgn] at hc
 have i5:¬ (C:Int) < (gn:Int) - (gk:Int):=by omega
 have i6:decide ((C:Int) < (gn:Int) - (gk:Int))=false:=decide_eq_false i5
 clear hd hC hgk hb0 hddn bkn hc
 clear h T1 nf hbe hw1 hbt hgn hdd
 go_enter Tryz.func6,Tryz.ntmps6
 go_wp2_with fail
 rw[<- HW1.out.1,<- HW1.out.2]
 go_region_held3 (fun w'=>w'.cell? ⟨bt,2,none⟩=some (.int .u8 (d:Int))/\w'.cell? ⟨x,0,none⟩=some (ptr s)/\w'.cell? ⟨x,2,none⟩=some (.int .i64 (gn:Int))) (exact⟨(HC.out _ HGD.out).2.2.1,(HC.out _ HGD.out).2.2.2.2.2.2.1,(HC.out _ HGD.out).2.2.2.2.2.2.2⟩)
  (first | (go_at_call 11;refine ((HT.out _ HGD.out).array).mono ?_;rintro e w2 ⟨rfl,hw⟩;obtain rfl:=hw.symm;clear hw))
 obtain⟨k0,k1,k2,k3,k4,k5,_,_⟩:=HC.out _ HGD.out
 go_wp2_with fail
 first | (go_region_held3 (fun w'=>w'.cell? ⟨x,1,none⟩=some (.int .i64 (gk:Int))/\w'.cell? ⟨x,2,none⟩=some (.int .i64 (gn:Int))/\w'.cell? ⟨x,8,none⟩=some (.slice (some ⟨bz,0,none⟩) gn gn)/\w'.cell? ⟨bz,dd,none⟩=some (.bool false)) (exact HQ.out _ HGD2.out)
  (first | (go_at_call 10;refine (spoilt_yes (HT.out _ HGD2.out)).mono ?_;rw[<- HCC.out];rintro e w7 ⟨rfl,hw7⟩;obtain rfl:=hw7.symm;clear hw7))) | fail
 go_wp2
 go_ret
 exact⟨rfl,(HT.out _ HGD2.out).km⟩
end
section
variable {F:Nat->Prop} {w0:Fr9} {w:World} {x bq bz s a nx:Nat} {g:SP.Geo} {R:AM.Raw} {D:List Value} {xss:List (List Nat)} {st:List Nat} {Z:List Bool}
set_option maxHeartbeats 6400000 in
theorem kturn2_yes (h:Top9 F w0 w x bq bz s a g R D xss st Z nx) {S d fz X:Nat} {vp:Option Addr} {vn vc:Nat} (hd:d < 256) {c:Nat} {R1:AM.Raw} (h1:R.replace ((d % g.n:Nat):Int)=(c,R1)) (hcc:c=0\/c=1) :
 Calls Tryz.prog 6 #[ptr x,.agg #[.int .u8 2,.int .u8 (S:Int),.int .u8 (d:Int),.int .u8 (fz:Int),.int .u8 (X:Int),.slice vp vn vc]] w fun e w'=>e=.returned (.bool true)/\KM w0 w' x bq bz s a g R1 xss st Z nx:=by
 obtain⟨T1,nf,hbt⟩:=h.turned #[.int .u8 2,.int .u8 (S:Int),.int .u8 (d:Int),.int .u8 (fz:Int),.int .u8 (X:Int),.slice vp vn vc]
 have HT:Hid (∀ W,(w.alloc (.cells #[.int .u8 2,.int .u8 (S:Int),.int .u8 (d:Int),.int .u8 (fz:Int),.int .u8 (X:Int),.slice vp vn vc] 28)).grownBy W none->Top9 F w0 W x bq bz s a g R D xss st Z nx):=T1
 have HNF:Hid (¬ F w.heap.size):=nf
 obtain⟨bt,hbe⟩:∃ bt,bt=w.heap.size:=⟨_,rfl⟩
 obtain⟨w1,hw1⟩:∃ w1,w1=w.alloc (.cells #[.int .u8 2,.int .u8 (S:Int),.int .u8 (d:Int),.int .u8 (fz:Int),.int .u8 (X:Int),.slice vp vn vc] 28):=⟨_,rfl⟩
 have HW1:Hid (w1=w.alloc (.cells #[.int .u8 2,.int .u8 (S:Int),.int .u8 (d:Int),.int .u8 (fz:Int),.int .u8 (X:Int),.slice vp vn vc] 28)/\bt=w.heap.size):=⟨hw1,hbe⟩
 rw[<- hw1] at HT hbt
 rw[<- hbe] at HNF hbt
 have HB:Hid (w1.heap[bt]?=some (.cells #[.int .u8 2,.int .u8 (S:Int),.int .u8 (d:Int),.int .u8 (fz:Int),.int .u8 (X:Int),.slice vp vn vc] 28 (0,0))):=hbt
 have HC:Hid (∀ W,w1.grownBy W none->W.cell? ⟨bt,0,none⟩=some (.int .u8 2)/\W.cell? ⟨bt,1,none⟩=some (.int .u8 (S:Int))/\W.cell? ⟨bt,2,none⟩=some (.int .u8 (d:Int))/\W.cell? ⟨bt,3,none⟩=some (.int .u8 (fz:Int))/\W.cell? ⟨bt,4,none⟩=some (.int .u8 (X:Int))/\W.cell? ⟨bt,5,none⟩=some (.slice vp vn vc)/\W.cell? ⟨x,0,none⟩=some (ptr s)/\W.cell? ⟨x,2,none⟩=some (.int .i64 (g.n:Int))):=fun W gr=>by
  have hb:W.heap[bt]?=some (.cells #[.int .u8 2,.int .u8 (S:Int),.int .u8 (d:Int),.int .u8 (fz:Int),.int .u8 (X:Int),.slice vp vn vc] 28 (0,0)):=(gr.block bt (heap_lt hbt) (by simp)).trans hbt
  exact⟨topCell (j:=0) hb rfl,topCell (j:=1) hb rfl,topCell (j:=2) hb rfl,topCell (j:=3) hb rfl,topCell (j:=4) hb rfl,topCell (j:=5) hb rfl,(HT.out W gr).c0,(HT.out W gr).c2⟩
 obtain⟨gn,hgn⟩:∃ gn,gn=g.n:=⟨_,rfl⟩
 have HGN:Hid (gn=g.n/\1<=g.n/\g.n<=9):=⟨hgn,by have:=h.i.ok.kn;omega,h.n⟩
 have hgn0:¬ (gn:Int)=0:=by have:=HGN.out;omega
 have hgn1:¬ gn=0:=by omega
 have hgn2:((gn:Int)==0)=false:=by simp[hgn1]
 have hgn3:decide ((gn:Int)=0)=false:=by simp[hgn1]
 have hgn4:(0:Int) < (gn:Int):=by omega
 have hd0:(0:Int)<=(d:Int):=by omega
 obtain⟨dd,hdd⟩:∃ dd,dd=d % gn:=⟨_,rfl⟩
 have hrem:(d:Int).tmod (gn:Int)=(dd:Int):=by rw[hdd];exact trem d gn
 have HDD:Hid (dd=d % g.n):=by show _=_;rw[hdd,hgn]
 have hwd:IntKind.i64.wrap (d:Int)=(d:Int):=IntWalk.i64_in _ (by omega)
 have HGD:Hid (w1.grownBy w1.drew none):=grown_drewN _ 1
 rw[<- hgn] at HC
 have HRE:Hid (∀ W,w1.grownBy W none->Calls Tryz.prog 14 #[ptr a,.int .i64 (dd:Int)] W fun e w'=>e=.returned (.int .i64 (c:Int))/\∃ F',Top9 F' w0 w' x bq bz s a g R1 D xss st Z nx):=fun W gr=>by rw[HDD.out];exact (HT.out W gr).replace h1
 clear hd h1
 rcases hcc with rfl | rfl
 all_goals clear h T1 nf hbe hw1 hbt hgn hdd
 ·go_enter Tryz.func6,Tryz.ntmps6
  go_wp2_with fail
  rw[<- HW1.out.1,<- HW1.out.2]
  go_region_held3 (fun w'=>w'.cell? ⟨bt,2,none⟩=some (.int .u8 (d:Int))/\w'.cell? ⟨x,0,none⟩=some (ptr s)/\w'.cell? ⟨x,2,none⟩=some (.int .i64 (gn:Int))) (exact⟨(HC.out _ HGD.out).2.2.1,(HC.out _ HGD.out).2.2.2.2.2.2.1,(HC.out _ HGD.out).2.2.2.2.2.2.2⟩)
   (first | (go_at_call 11;refine ((HT.out _ HGD.out).array).mono ?_;rintro e w2 ⟨rfl,hw⟩;obtain rfl:=hw.symm;clear hw))
  obtain⟨k0,k1,k2,k3,k4,k5,_,_⟩:=HC.out _ HGD.out
  go_wp2_with (go_at_call 14;refine (HRE.out _ HGD.out).mono ?_;rintro e w8 ⟨rfl,F8,t8⟩;have T8:Hid (Top9 F8 w0 w8 x bq bz s a g R1 D xss st Z nx):=t8;clear t8)
  go_ret
  exact⟨rfl,T8.out.km⟩
 ·go_enter Tryz.func6,Tryz.ntmps6
  go_wp2_with fail
  rw[<- HW1.out.1,<- HW1.out.2]
  go_region_held3 (fun w'=>w'.cell? ⟨bt,2,none⟩=some (.int .u8 (d:Int))/\w'.cell? ⟨x,0,none⟩=some (ptr s)/\w'.cell? ⟨x,2,none⟩=some (.int .i64 (gn:Int))) (exact⟨(HC.out _ HGD.out).2.2.1,(HC.out _ HGD.out).2.2.2.2.2.2.1,(HC.out _ HGD.out).2.2.2.2.2.2.2⟩)
   (first | (go_at_call 11;refine ((HT.out _ HGD.out).array).mono ?_;rintro e w2 ⟨rfl,hw⟩;obtain rfl:=hw.symm;clear hw))
  obtain⟨k0,k1,k2,k3,k4,k5,_,_⟩:=HC.out _ HGD.out
  go_wp2_with (go_at_call 14;refine (HRE.out _ HGD.out).mono ?_;rintro e w8 ⟨rfl,F8,t8⟩;have T8:Hid (Top9 F8 w0 w8 x bq bz s a g R1 D xss st Z nx):=t8;clear t8)
  go_ret
  exact⟨rfl,T8.out.km⟩
end
end Go.Proofs.YtlklmhojadlncaaGreat
