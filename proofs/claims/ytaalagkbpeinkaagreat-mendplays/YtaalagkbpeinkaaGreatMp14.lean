/- Packed: Two6, Ply6, RNew8, Made8, Sec8, RPut7, Iter7. -/
import Derived.Test.YtaalagkbpeinkaaGreatMp13
import Derived.RangeFuncNested
import Derived.RangeFuncBound
import Derived.RangeFuncCalls
import Derived.RangeFuncLeaves
import Derived.RangeFuncBox
import Derived.Shelf.Abstract
import Derived.OwnWalkIn
import Derived.TacticsInMore
import Derived.LoopNIn
import Derived.LoopIn
set_option linter.unusedSimpArgs false
set_option linter.unusedVariables false
set_option maxRecDepth 100000
namespace Go.Proofs.YtaalagkbpeinkaaGreat
open Go.RowKit
structure Two_a (F G:Nat->Prop) (w0 w:World) (a r:Nat) (R:AM.Raw) (A:AM.RA):Prop where
 i:Is F w a R
 j:RIs G w r A
 ap:∀ k,F k->G k->False
 bi:Base w0 F w
 bj:Base w0 G w
section
variable {F G F' G':Nat->Prop} {w0 w w':World} {a r:Nat} {R R':AM.Raw} {A A':AM.RA}
theorem Two_a.stepA (h:Two_a F G w0 w a r R A) (hi:Is F' w' a R') (s:Step F w F' w'):Two_a F' G w0 w' a r R' A:=by
 obtain⟨h1,h2⟩:=h.j.other s h.ap
 exact⟨hi,h1,h2,h.bi.step s,(h.bi.step s).grown,h.bj.lo⟩
theorem Is.aside (h:Is F w a R) (s:Step G w G' w') (hs:∀ k,F k->G k->False):Is F w' a R/\∀ k,F k->G' k->False:=by
 obtain⟨h1,h2,h3⟩:=s.other h.lt (fun k hg hf=>hs k hf hg)
 exact⟨h.same h1 h2,fun k hf hg=>h3 k hg hf⟩
theorem Two_a.stepB (h:Two_a F G w0 w a r R A) (hj:RIs G' w' r A') (s:Step G w G' w'):Two_a F G' w0 w' a r R A':=by
 obtain⟨h1,h2⟩:=h.i.aside s h.ap
 exact⟨h1,hj,h2,⟨(h.bj.step s).grown,h.bi.lo⟩,h.bj.step s⟩
theorem Two_a.keep (h:Two_a F G w0 w a r R A) (g:w.grownBy w' none):Two_a F G w0 w' a r R A:=⟨h.i.keep g,h.j.keep g,h.ap,h.bi.keep g,h.bj.keep g⟩
theorem AM.Sim.fit {R:AM.Raw} {A:AM.RA} (h:AM.Sim R A):A.Fit:=fun l hl=>by
 rw[h.L] at hl
 obtain⟨x,hx,rfl⟩:=List.mem_map.1 hl
 have hw:=h.ok.L x hx
 obtain⟨xs,hxs⟩:=hw.on
 refine⟨?_,by rw[h.n];exact hw.k⟩
 rw[h.isSome]
 show (R.C.getD x.d none).isSome=true
 simp[List.getD,hxs]
theorem AM.Sim.llen {R:AM.Raw} {A:AM.RA} (h:AM.Sim R A):A.L.length=R.L.length:=by rw[h.L,List.length_map]
theorem AM.Sim.reads {R:AM.Raw} {A:AM.RA} (h:AM.Sim R A) (d k:Int):A.read d k=R.read d k:=h.read d k
set_option maxRecDepth 100000 in
set_option maxHeartbeats 3200000 in
theorem alike_yes (hI:Is F w a R) (hJ:RIs G w r A) (hS:AM.Sim R A) {v:Value} {ps:List Nat} (hv:Vec w v ps) (hL:R.L.length<=1000000):Calls Tryz.prog 10 #[ptr a,rptr r,v] w fun e w'=>e=.returned (.bool true)/\w.grownBy w' none:=by
 have HI:Hid (Is F w a R):=hI
 have HJ:Hid (RIs G w r A):=hJ
 have HSM:Hid (AM.Sim R A):=hS
 have HV:Hid (Vec w v ps):=hv
 have HL:Hid (R.L.length<=1000000):=hL
 have HA:Hid (A.L.length<=1000000):=by show _<=_;rw[hS.llen];exact hL
 have hn4:R.n<=4096:=hS.ok.n2
 have hN2:R.C.length<=255:=hS.ok.d2
 obtain⟨dp,dc,ds,lp,lc,fs,hrl⟩:=hJ
 obtain⟨z0,z1,z2,_,z4⟩:=hrl.topCells
 rw[hS.len] at z0
 rw[hS.n] at z1
 rw[hS.llen] at z2
 rw[hS.dark] at z4
 have gd:=grown_drewN w 1
 have q1:=disks_yes (hI.keep gd)
 have q2:=sectors_yes (hI.keep gd)
 have q3:=ons_yes (hI.keep gd)
 have q4:=rons_yes (HJ.out.keep gd)
 have q5:=off_yes (hI.keep gd)
 have q6:=flight_yes (hI.keep gd)
 rw[hS.ons] at q4
 clear hI hS hv hrl
 obtain⟨N,hN⟩:∃ N,N=R.C.length:=⟨_,rfl⟩
 obtain⟨n,hn⟩:∃ n,n=R.n:=⟨_,rfl⟩
 obtain⟨M,hM⟩:∃ M,M=R.L.length:=⟨_,rfl⟩
 obtain⟨O,hO⟩:∃ O,O=R.ons:=⟨_,rfl⟩
 obtain⟨K,hK⟩:∃ K,K=R.off:=⟨_,rfl⟩
 have HN:Hid (N=R.C.length/\n=R.n):=⟨hN,hn⟩
 rw[<- hN] at z0 q1 hN2
 rw[<- hn] at z1 q2 hn4
 rw[<- hM] at z2 q6 hL
 rw[<- hO] at q3 q4
 rw[<- hK] at z4 q5
 clear hN hn hM hO hK
 have Q1:Hid (Calls Tryz.prog 44 #[ptr a] (w.drewN 1) fun e w'=>e=.returned (.int .i64 (N:Int))/\w'=w.drewN 1):=q1
 have Q2:Hid (Calls Tryz.prog 45 #[ptr a] (w.drewN 1) fun e w'=>e=.returned (.int .i64 (n:Int))/\w'=w.drewN 1):=q2
 have Q3:Hid (Calls Tryz.prog 46 #[ptr a] (w.drewN 1) fun e w'=>e=.returned (.int .i64 (O:Int))/\w'=w.drewN 1):=q3
 have Q4:Hid (Calls Tryz.prog 47 #[rptr r] (w.drewN 1) fun e w'=>e=.returned (.int .i64 (O:Int))/\w'=w.drewN 1):=q4
 have Q5:Hid (Calls Tryz.prog 24 #[ptr a] (w.drewN 1) fun e w'=>e=.returned (.bool K)/\w'=w.drewN 1):=q5
 have Q6:Hid (Calls Tryz.prog 48 #[ptr a] (w.drewN 1) fun e w'=>e=.returned (.int .i64 (M:Int))/\w'=w.drewN 1):=q6
 have HS:Hid (w.cell? ⟨r,0,none⟩=some (.slice dp N dc)/\w.cell? ⟨r,1,none⟩=some (.int .i64 (n:Int))/\w.cell? ⟨r,2,none⟩=some (.slice lp M lc)/\w.cell? ⟨r,4,none⟩=some (.bool K)):=⟨z0,z1,z2,z4⟩
 clear q1 q2 q3 q4 q5 q6 z0 z1 z2 z4 gd hL
 go_enter Tryz.func10,Tryz.ntmps10
 go_wp2_with fail
 go_region_held3 (fun w'=>w'.cell? ⟨r,0,none⟩=some (.slice dp N dc)/\w'.cell? ⟨r,1,none⟩=some (.int .i64 (n:Int))/\w'.cell? ⟨r,2,none⟩=some (.slice lp M lc)/\w'.cell? ⟨r,4,none⟩=some (.bool K)) (exact HS.out)
  ((first
    | (go_at_call 44;refine Q1.out.mono ?_;rintro e w9 ⟨rfl,hw⟩;obtain rfl:=hw.symm;clear hw)
    | (go_at_call 45;refine Q2.out.mono ?_;rintro e w9 ⟨rfl,hw⟩;obtain rfl:=hw.symm;clear hw)
    | (go_at_call 46;refine Q3.out.mono ?_;rintro e w9 ⟨rfl,hw⟩;obtain rfl:=hw.symm;clear hw)
    | (go_at_call 47;refine Q4.out.mono ?_;rintro e w9 ⟨rfl,hw⟩;obtain rfl:=hw.symm;clear hw)
    | (go_at_call 24;refine Q5.out.mono ?_;rintro e w9 ⟨rfl,hw⟩;obtain rfl:=hw.symm;clear hw)
    | (go_at_call 48;refine Q6.out.mono ?_;rintro e w9 ⟨rfl,hw⟩;obtain rfl:=hw.symm;clear hw)))
 go_wp2_with fail
 refine (copy_yes (HI.out.keep (grown_drewN w 1)) HL.out).mono ?_
 rintro e w1 ⟨x,F1,rfl,h1,h2,h3⟩
 have B1:Hid (Base w F1 w1):=⟨grown_trans (grown_drewN w 1) h3,h2⟩
 have X1:Hid (Is F1 w1 x R):=h1
 clear h1 h2 h3
 go_wp2_with fail
 refine (rcopy_yes (HJ.out.keep B1.out.grown) HA.out).mono ?_
 rintro e w2 ⟨y,rfl,G2,h1,h2⟩
 have T2:Hid (Two_a F1 G2 w w2 x y R A):=⟨X1.out.keep h2.grown,h1,fun k hf hg=>by
  have e1:=X1.out.lt k hf
  have e2:=h2.lo k hg
  omega,B1.out.keep h2.grown,grown_trans B1.out.grown h2.grown,fun k hk=>Nat.le_trans B1.out.grown.size (h2.lo k hk)⟩
 clear h1 h2 B1 X1
 go_wp2_with fail
 refine (crash_at T2.out.i HL.out (T2.out.bi.aw HV.out) rfl).mono ?_
 rintro e w3 ⟨rfl,F3,h1,h2⟩
 have T3:Hid (Two_a F3 G2 w w3 x y (R.crash ps) A):=T2.out.stepA h1 h2
 clear h1 h2 T2
 go_wp2_with fail
 refine (rcrash_any T3.out.j HSM.out.fit HA.out (T3.out.bj.aw HV.out).vec (T3.out.bj.aw HV.out).off).mono ?_
 rintro e w4 ⟨rfl,G4,h1,h2⟩
 have T4:Hid (∃ F G,Two_a F G w w4 x y (R.crash ps) (A.crash ps)):=⟨F3,G4,T3.out.stepB h1 h2⟩
 have HSC:Hid (AM.Sim (R.crash ps) (A.crash ps)):=HSM.out.crash ps
 have c0:w4.cell? ⟨r,0,none⟩=some (.slice dp N dc):=by
  obtain⟨_,_,ht⟩:=T4.out
  exact ht.bi.grown.cell HS.out.1 (by simp)
 clear h1 h2 T3
 go_wp2_with fail
 go_loopw [73] (fun td wr=>∃ d:Nat,d<=N/\td=.int .i64 (d:Int)/\Hid (∃ F G,Two_a F G w wr x y (R.crash ps) (A.crash ps))) (fun td _=>N - (intOf td).toNat)
 case atStart=>exact⟨0,by omega,rfl,T4.out⟩
 case round =>
  clear T4 c0
  obtain⟨d,hd,rfl,HX⟩:=hrel
  by_cases hlt:d < N
  ·have i1:(d:Int) < (N:Int):=by omega
   have GW:Hid (w.grownBy wr none):=by obtain⟨_,_,ht⟩:=HX.out;exact ht.bi.grown
   have a1:=on_yes (HI.out.keep GW.out) (d:Int)
   have a2:=ron_yes (HJ.out.keep GW.out) (d:Int)
   rw[HSM.out.on] at a2
   obtain⟨k,hk⟩:∃ k,k=R.on (d:Int):=⟨_,rfl⟩
   rw[<- hk] at a1 a2
   have A1:Hid (Calls Tryz.prog 51 #[ptr a,.int .i64 (d:Int)] wr fun e w'=>e=.returned (.bool k)/\w'=wr):=a1
   have A2:Hid (Calls Tryz.prog 52 #[rptr r,.int .i64 (d:Int)] wr fun e w'=>e=.returned (.bool k)/\w'=wr):=a2
   have c1:wr.cell? ⟨r,1,none⟩=some (.int .i64 (n:Int)):=GW.out.cell HS.out.2.1 (by simp)
   clear a1 a2 hk GW
   go_wp2_with (first
    | (go_at_call 51;refine A1.out.mono ?_;rintro e w9 ⟨rfl,hw⟩;obtain rfl:=hw.symm;clear hw)
    | (go_at_call 52;refine A2.out.mono ?_;rintro e w9 ⟨rfl,hw⟩;obtain rfl:=hw.symm;clear hw)
    | fail)
   obtain⟨wa,hwa⟩:∃ wa,wa=wr:=⟨wr,rfl⟩
   subst hwa
   go_loopw [87] (fun tk wr=>∃ k:Nat,k<=n/\tk=.int .i64 (k:Int)/\Hid (∃ F G,Two_a F G w wr x y (R.crash ps) (A.crash ps))) (fun tk _=>n - (intOf tk).toNat)
   case atStart=>exact⟨0,by omega,rfl,HX.out⟩
   case round =>
    clear HX A1 A2 c1
    obtain⟨k,hk,rfl,HY⟩:=hrel
    by_cases hlt2:k < n
    ·have i2:(k:Int) < (n:Int):=by omega
     obtain⟨F5,G5,ht⟩:=HY.out
     have T5:Hid (Two_a F5 G5 w wr x y (R.crash ps) (A.crash ps)):=ht
     obtain⟨c,hc⟩:∃ c:Int,((R.crash ps).reach (d:Int) (k:Int):Int)=c:=⟨_,rfl⟩
     obtain⟨xs,hxs⟩:∃ xs,(R.crash ps).read (d:Int) (k:Int)=xs:=⟨_,rfl⟩
     have HC:Hid (((R.crash ps).reach (d:Int) (k:Int):Int)=c/\(R.crash ps).read (d:Int) (k:Int)=xs):=⟨hc,hxs⟩
     clear ht HY hc hxs
     go_wp2_with fail
     refine (read_at T5.out.i HC.out.1 HC.out.2).mono ?_
     rintro e w6 ⟨p6,n6,m6,rfl,hv6,g6⟩
     have V6:Hid (Vec w6 (.slice p6 n6 m6) xs):=hv6.vec
     have T6:Hid (Two_a F5 G5 w w6 x y (R.crash ps) (A.crash ps)):=T5.out.keep g6
     have R6:Hid (Calls Tryz.prog 54 #[rptr y,.int .i64 (d:Int),.int .i64 (k:Int)] w6 fun e w'=>∃ p n c',e=.returned (.tuple #[.slice p n c',.int .i64 c])/\Own w6.heap.size w' (.slice p n c') xs/\w6.grownBy w' none):=by
      have:=rread_any T6.out.j (by simp[AM.RA.crash]) (d:Int) (k:Int)
      rw[HSC.out.why,HSC.out.reads,HC.out.1,HC.out.2] at this
      exact this
     clear hv6 g6 T5
     go_wp2_with fail
     refine R6.out.mono ?_
     rintro e w7 ⟨p7,n7,m7,rfl,ho7,g7⟩
     have V7:Hid (Vec w7 (.slice p6 n6 m6) xs/\Vec w7 (.slice p7 n7 m7) xs):=⟨V6.out.keep g7,ho7.vec⟩
     have T7:Hid (∃ F G,Two_a F G w w7 x y (R.crash ps) (A.crash ps)):=⟨F5,G5,T6.out.keep g7⟩
     clear ho7 g7 V6 T6 R6
     go_wp2_with (first
      | (go_at_call 55;refine (equal_at V7.out.1 V7.out.2 rfl).mono ?_;rintro e w9 ⟨rfl,hw⟩;obtain rfl:=hw.symm;clear hw)
      | fail)
     go_roundw
     case rel=>exact⟨k+1,by omega,by go_num,T7⟩
     case measure=>simp[intOf];omega
    ·have i2:¬ (k:Int) < (n:Int):=by omega
     go_wp2
     go_roundw
     case rel=>exact⟨d+1,by omega,by go_num,HY⟩
     case measure=>simp[intOf];omega
  ·have i1:¬ (d:Int) < (N:Int):=by omega
   have GW:Hid (w.grownBy wr none):=by obtain⟨_,_,ht⟩:=HX.out;exact ht.bi.grown
   go_wp2
   go_ret
   exact⟨rfl,GW.out⟩
end
section
variable {F G F' G':Nat->Prop} {w0 w w':World} {a r:Nat} {R R':AM.Raw} {A A':AM.RA}
theorem rwrite_at (h:RIs G w r A) (hs:AM.Sim R A) (hL:R.L.length<=1000000) {d k:Int} {v:Value} {b:List Nat} (hv:Aw G w v b) {c:Int} (hc:((R.writes d k b).1:Int)=c) :
 Calls Tryz.prog 119 #[rptr r,.int .i64 d,.int .i64 k,v] w fun e w'=>e=.returned (.int .i64 c)/\∃ G',RIs G' w' r (A.writes d k b).2/\Step G w G' w':=by
 refine (rwrite_any h d k hv.vec hv.off (by rw[hs.llen];exact hL)).mono ?_
 rintro e w' ⟨rfl,G',h1,h2⟩
 exact⟨by rw[(hs.write d k hv.vec.small).1,hc],G',h1,h2⟩
theorem rread_at (h:RIs G w r A) (hs:AM.Sim R A) (hL:R.L.length<=1000000) {d k:Int} {c:Int} {xs:List Nat} (h1:(R.reach d k:Int)=c) (h2:R.read d k=xs) :
 Calls Tryz.prog 54 #[rptr r,.int .i64 d,.int .i64 k] w fun e w'=>∃ p n m,e=.returned (.tuple #[.slice p n m,.int .i64 c])/\Own w.heap.size w' (.slice p n m) xs/\w.grownBy w' none:=by
 have:=rread_any h (by rw[hs.llen];exact hL) d k
 rw[hs.why,hs.reads,h1,h2] at this
 exact this
theorem rbarrier_at (h:RIs G w r A) (hs:AM.Sim R A) (hL:R.L.length<=1000000) {c:Int} (hc:(R.barrier.1:Int)=c) :
 Calls Tryz.prog 41 #[rptr r] w fun e w'=>e=.returned (.int .i64 c)/\∃ G',RIs G' w' r A.barrier.2/\Step G w G' w':=by
 refine (rbarrier_any h hs.fit (by rw[hs.llen];exact hL)).mono ?_
 rintro e w' ⟨rfl,G',h1,h2⟩
 exact⟨by rw[hs.barrier.1,hc],G',h1,h2⟩
theorem rlose_at (h:RIs G w r A) (hs:AM.Sim R A) (hL:R.L.length<=1000000) {d:Int} {c:Int} (hc:((R.lose d).1:Int)=c) :
 Calls Tryz.prog 39 #[rptr r,.int .i64 d] w fun e w'=>e=.returned (.int .i64 c)/\∃ G',RIs G' w' r (A.lose d).2/\Step G w G' w':=by
 refine (rlose_any h d (by rw[hs.llen];exact hL)).mono ?_
 rintro e w' ⟨rfl,G',h1,h2⟩
 exact⟨by rw[(hs.lose d).1,hc],G',h1,h2⟩
theorem rreplace_at (h:RIs G w r A) (hs:AM.Sim R A) {d:Int} {c:Int} (hc:((R.replace d).1:Int)=c) :
 Calls Tryz.prog 40 #[rptr r,.int .i64 d] w fun e w'=>e=.returned (.int .i64 c)/\∃ G',RIs G' w' r (A.replace d).2/\Step G w G' w':=by
 refine (rreplace_any h d).mono ?_
 rintro e w' ⟨rfl,G',h1,h2⟩
 exact⟨by rw[(hs.replace d).1,hc],G',h1,h2⟩
theorem rnew_at {w:World} {N n:Nat} (h1:1<=N) (h2:N<=255) (h3:1<=n) (h4:n<=4096) {c d:Int} (hc:(N:Int)=c) (hd:(n:Int)=d) :
 Calls Tryz.prog 28 #[.int .i64 c,.int .i64 d] w fun e w'=>∃ r,e=.returned (.tuple #[rptr r,.int .i64 0])/\∃ G,RIs G w' r (AM.RA.new N n)/\Base w G w':=by
 subst hc
 subst hd
 exact rnew_yes h1 h2 h3 h4
end
structure RSI (G:Nat->Prop) (w:World) (t r:Nat) (g:SP.Geo) (R:AM.Raw):Prop where
 j:∃ A,RIs G w r A/\AM.Sim R A
 top:w.heap[t]?=some (.cells #[rptr r,.int .i64 (g.k:Int),.int .i64 (g.n:Int),.int .i64 (g.s:Int),.int .i64 (g.f:Int)] 41 (0,0))
 nf:¬ G t
 ok:g.Ok R
section
variable {G G':Nat->Prop} {w w':World} {t r:Nat} {g:SP.Geo} {R R':AM.Raw} {A:AM.RA}
theorem RSI.lt (h:RSI G w t r g R):t < w.heap.size:=(Array.getElem?_eq_some_iff.1 h.top).1
theorem RSI.glt (h:RSI G w t r g R):∀ i,G i->i < w.heap.size:=by obtain⟨A,h1,_⟩:=h.j;exact h1.lt
theorem RSI.step {A':AM.RA} (h:RSI G w t r g R) (hj:RIs G' w' r A') (hs:AM.Sim R' A') (st:Step G w G' w') (ok:g.Ok R'):RSI G' w' t r g R' :=
 ⟨⟨A',hj,hs⟩,by rw[st.upd.block t h.lt h.nf];exact h.top,fun hf=>by
   rcases st.sub t hf with h1 | h1
   ·exact h.nf h1
   ·have:=h.lt;omega,ok⟩
theorem RSI.keep (h:RSI G w t r g R) (gr:w.grownBy w' none):RSI G w' t r g R:=by
 obtain⟨A,h1,h2⟩:=h.j
 exact h.step (h1.keep gr) h2 (Step.new gr) h.ok
theorem RSI.at1 (h:RSI G w t r g R):w.cell? ⟨t,0,none⟩=some (rptr r):=topCell (j:=0) h.top rfl
theorem RSI.at2 (h:RSI G w t r g R):w.cell? ⟨t,1,none⟩=some (.int .i64 (g.k:Int)):=topCell (j:=1) h.top rfl
theorem RSI.at3 (h:RSI G w t r g R):w.cell? ⟨t,2,none⟩=some (.int .i64 (g.n:Int)):=topCell (j:=2) h.top rfl
theorem RSI.at4 (h:RSI G w t r g R):w.cell? ⟨t,3,none⟩=some (.int .i64 (g.s:Int)):=topCell (j:=3) h.top rfl
theorem RSI.at5 (h:RSI G w t r g R):w.cell? ⟨t,4,none⟩=some (.int .i64 (g.f:Int)):=topCell (j:=4) h.top rfl
set_option maxHeartbeats 6400000 in
theorem rsnew_any (h:RIs G w r A) (hs:AM.Sim R A) (hok:R.Ok) {K N S f:Int} (hf:f < 9223372036854775808) :
 Calls Tryz.prog 30 #[rptr r,.agg #[.int .i64 K,.int .i64 N,.int .i64 S],.int .i64 f] w fun e w'=>(SP.okNew R K N S f=true/\∃ t,e=.returned (.tuple #[.pointer (some ⟨t,0,none⟩),.int .i64 0])/\w'.heap[t]?=some (.cells #[rptr r,.int .i64 K,.int .i64 N,.int .i64 S,.int .i64 f] 41 (0,0))/\w.heap.size<=t/\w.grownBy w' none) \/
  (SP.okNew R K N S f=false/\e=.returned (.tuple #[.pointer none,.int .i64 1])/\w.grownBy w' none):=by
 obtain⟨b,hb⟩:∃ b,b=mayI K N:=⟨_,rfl⟩
 have MA:Hid (∀ w',Calls Tryz.prog 83 #[.int .i64 K,.int .i64 N] w' fun e w''=>e=.returned (.bool b)/\w''=w'):=fun w'=>by
  rw[hb];exact refMay4_any K N w'
 have GA:Hid (w.grownBy (w.alloc (.cells #[.int .i64 K,.int .i64 N,.int .i64 S] 39)) none):=World.grownBy_alloc w _ none
 have HOK:Hid (SP.okNew R K N S f=true ↔ b=true/\1<=S/\S<=128/\0<=f/\(R.C.length:Int)=N/\f<=(R.n:Int) - 8 * S):=by
  show _ ↔ _
  rw[SP.okNew_iff,hb,mayI_iff]
 have HNO:Hid (¬ (b=true/\1<=S/\S<=128/\0<=f/\(R.C.length:Int)=N/\f<=(R.n:Int) - 8 * S)->SP.okNew R K N S f=false):=fun hh=>by
  rw[Bool.eq_false_iff]
  exact fun hc=>hh (HOK.out.1 hc)
 have hn2:=hok.n2
 obtain⟨dp,dc,ds,lp,lc,fs,hrl⟩:=h.keep GA.out
 obtain⟨z0,z1,_,_,_⟩:=hrl.topCells
 rw[hs.len] at z0
 rw[hs.n] at z1
 obtain⟨L,hL⟩:∃ L,L=R.C.length:=⟨_,rfl⟩
 obtain⟨n,hn⟩:∃ n,n=R.n:=⟨_,rfl⟩
 rw[<- hL] at z0
 rw[<- hn] at z1 hn2
 have HLn:Hid (L=R.C.length/\n=R.n):=⟨hL,hn⟩
 clear h hs hok hb hrl hL hn
 cases b
 ·go_enter Tryz.func30,Tryz.ntmps30
  go_wp2_with (go_at_call 83;refine (MA.out _).mono ?_;rintro e w9 ⟨rfl,hw9⟩;obtain rfl:=hw9.symm;clear hw9)
  go_ret2
  exact .inr ⟨HNO.out (fun h=>by simp at h),rfl,GA.out⟩
 ·by_cases h1:S < 1
  ·go_enter Tryz.func30,Tryz.ntmps30
   go_wp2_with (go_at_call 83;refine (MA.out _).mono ?_;rintro e w9 ⟨rfl,hw9⟩;obtain rfl:=hw9.symm;clear hw9)
   go_ret2
   exact .inr ⟨HNO.out (fun h=>by omega),rfl,GA.out⟩
  ·by_cases h2:128 < S
   ·go_enter Tryz.func30,Tryz.ntmps30
    go_wp2_with (go_at_call 83;refine (MA.out _).mono ?_;rintro e w9 ⟨rfl,hw9⟩;obtain rfl:=hw9.symm;clear hw9)
    go_ret2
    exact .inr ⟨HNO.out (fun h=>by omega),rfl,GA.out⟩
   ·by_cases h3:f < 0
    ·go_enter Tryz.func30,Tryz.ntmps30
     go_wp2_with (go_at_call 83;refine (MA.out _).mono ?_;rintro e w9 ⟨rfl,hw9⟩;obtain rfl:=hw9.symm;clear hw9)
     go_ret2
     exact .inr ⟨HNO.out (fun h=>by omega),rfl,GA.out⟩
    ·have HF:Hid (0<=f/\f < 9223372036854775808/\1<=S/\S<=128):=⟨by omega,hf,by omega,by omega⟩
     have hw1:IntKind.i64.wrap (8 * S)=8 * S:=IntWalk.i64_in _ (by omega)
     have hw2:IntKind.i64.wrap ((n:Int) - f)=(n:Int) - f:=IntWalk.i64_in _ (by omega)
     by_cases h4:(L:Int)=N
     ·have i4:((L:Int) != N)=false:=by simp[h4]
      by_cases h5:(n:Int) < f
      ·have i5:decide ((n:Int) < f)=true:=decide_eq_true h5
       go_enter Tryz.func30,Tryz.ntmps30
       go_wp2_with (first | (go_at_call 83;refine (MA.out _).mono ?_;rintro e w9 ⟨rfl,hw9⟩;obtain rfl:=hw9.symm;clear hw9) | fail)
       go_quiet (fail)
       go_wp2
       go_ret2
       exact .inr ⟨HNO.out (fun h=>by have:=HLn.out;have:=HF.out;omega),rfl,by first | exact grown_trans GA.out (grown_drewN _ _) | exact GA.out⟩
      ·have i5:decide ((n:Int) < f)=false:=decide_eq_false h5
       by_cases h6:(n:Int) - f < 8 * S
       ·have i6:decide ((n:Int) - f < 8 * S)=true:=decide_eq_true h6
        go_enter Tryz.func30,Tryz.ntmps30
        go_wp2_with (first | (go_at_call 83;refine (MA.out _).mono ?_;rintro e w9 ⟨rfl,hw9⟩;obtain rfl:=hw9.symm;clear hw9) | fail)
        go_quiet (fail)
        go_wp2
        go_ret2
        exact .inr ⟨HNO.out (fun h=>by have:=HLn.out;have:=HF.out;omega),rfl,by first | exact grown_trans GA.out (grown_drewN _ _) | exact GA.out⟩
       ·have i6:decide ((n:Int) - f < 8 * S)=false:=decide_eq_false h6
        go_enter Tryz.func30,Tryz.ntmps30
        go_wp2_with (first | (go_at_call 83;refine (MA.out _).mono ?_;rintro e w9 ⟨rfl,hw9⟩;obtain rfl:=hw9.symm;clear hw9) | fail)
        go_quiet (fail)
        go_wp2
        go_ret2
        refine .inl ⟨HOK.out.2 ⟨by first | rfl | trivial,by omega,by omega,by omega,by have:=HLn.out;omega,by have:=HLn.out;omega⟩,_,rfl,?_,?_,?_⟩
        ·rw[show w.heap.size+1=((w.alloc (.cells #[.int .i64 K,.int .i64 N,.int .i64 S] 39)).drewN nq).heap.size from by simp]
         exact heap_alloc_new _ _
        ·simp
        ·exact gb_alloc (grown_trans GA.out (grown_drewN _ _)) _
     ·have i4:((L:Int) != N)=true:=by simp[h4]
      go_enter Tryz.func30,Tryz.ntmps30
      go_wp2_with (first | (go_at_call 83;refine (MA.out _).mono ?_;rintro e w9 ⟨rfl,hw9⟩;obtain rfl:=hw9.symm;clear hw9) | fail)
      go_quiet (fail)
      go_wp2
      go_ret2
      exact .inr ⟨HNO.out (fun h=>by have:=HLn.out;omega),rfl,by first | exact grown_trans GA.out (grown_drewN _ _) | exact GA.out⟩
theorem rsnew_yes (h:RIs G w r A) (hs:AM.Sim R A) (hg:g.Ok R) :
 Calls Tryz.prog 30 #[rptr r,geoV g,.int .i64 (g.f:Int)] w fun e w'=>∃ t,e=.returned (.tuple #[.pointer (some ⟨t,0,none⟩),.int .i64 0])/\RSI G w' t r g R/\w.heap.size<=t/\w.grownBy w' none:=by
 have hfn:(g.f:Int) < 9223372036854775808:=by have:=hg.room;have:=hs.ok.n2;omega
 refine (rsnew_any h hs hs.ok hfn).mono ?_
 rintro e w' (⟨_,t,rfl,h1,h2,h3⟩ | ⟨h1,_,_⟩)
 ·refine⟨t,rfl,⟨⟨A,h.keep h3,hs⟩,h1,fun hf=>?_,hg⟩,h2,h3⟩
  have:=h.lt t hf
  omega
 ·exfalso
  rw[Bool.eq_false_iff] at h1
  have:=hg.k1
  have:=hg.kn
  have:=hg.n255
  have:=hg.s1
  have:=hg.s2
  have:=hg.room
  have:=hg.len
  exact h1 (SP.okNew_iff.2 ⟨⟨by omega,by omega,by omega⟩,by omega,by omega,by omega,by omega,by omega⟩)
end
structure Duo (F G:Nat->Prop) (w0 w:World) (s a t r:Nat) (g:SP.Geo) (R:AM.Raw):Prop where
 i:SI F w s a g R
 j:RSI G w t r g R
 ap:∀ k,F k->G k->False
 bi:∀ k,F k->w0.heap.size<=k
 bj:∀ k,G k->w0.heap.size<=k
 ls:w0.heap.size<=s
 lt:w0.heap.size<=t
 nt:¬ F t
 ns:¬ G s
 gr:w0.grownBy w none
section
variable {F G F' G':Nat->Prop} {w0 w w':World} {s a t r:Nat} {g:SP.Geo} {R R':AM.Raw}
set_option maxHeartbeats 6400000 in
theorem made8_yes (w:World) {k more S f:Nat} (h1:1<=k) (h2:1<=more) (h3:k+more<=255) (h4:1<=S) (h5:S<=128) (h6:f+8 * S<=4096) :
 Calls Tryz.prog 7 #[.int .i64 (k:Int),.int .i64 (more:Int),.int .i64 (S:Int),.int .i64 (f:Int)] w fun e w'=>∃ s t,e=.returned (.tuple #[ptr s,.pointer (some ⟨t,0,none⟩)])/\∃ F G a r,Duo F G w w' s a t r ⟨k,k+more,S,f⟩ (AM.Raw.new (k+more) (f+8 * S)):=by
 obtain⟨N,hN⟩:∃ N,N=k+more:=⟨_,rfl⟩
 obtain⟨n,hn⟩:∃ n,n=f+8 * S:=⟨_,rfl⟩
 rw[<- hN,<- hn]
 have hw1:IntKind.i64.wrap ((k:Int)+(more:Int))=(N:Int):=by
  have e:(k:Int)+(more:Int)=(N:Int):=by omega
  rw[e];exact IntWalk.i64_in _ (by omega)
 have hw2:IntKind.i64.wrap (8 * (S:Int))=8 * (S:Int):=IntWalk.i64_in _ (by omega)
 have hw3:IntKind.i64.wrap ((f:Int)+8 * (S:Int))=(n:Int):=by
  have e:(f:Int)+8 * (S:Int)=(n:Int):=by omega
  rw[e];exact IntWalk.i64_in _ (by omega)
 have HG:Hid (∀ R:AM.Raw,R.C.length=N->R.n=n->SP.Geo.Ok ⟨k,N,S,f⟩ R):=fun R e1 e2=>⟨h1,by show k < N;omega,by show N<=255;omega,h4,h5,by show f+8 * S<=R.n;omega,e1⟩
 have HNN:Hid (1<=N/\N<=255/\1<=n/\n<=4096):=⟨by omega,by omega,by omega,by omega⟩
 have HB:Hid (∀ w',(w.alloc (.cells #[.int .i64 (k:Int),.int .i64 (N:Int),.int .i64 (S:Int)] 39)).grownBy w' none->w'.cell? ⟨w.heap.size,0,none⟩=some (.int .i64 (k:Int))/\w'.cell? ⟨w.heap.size,1,none⟩=some (.int .i64 (N:Int))/\w'.cell? ⟨w.heap.size,2,none⟩=some (.int .i64 (S:Int))):=fun w' g1=>by
  have h0:=heap_alloc_new w (.cells #[.int .i64 (k:Int),.int .i64 (N:Int),.int .i64 (S:Int)] 39)
  exact⟨g1.cell (cell_of_row _ _ 0 _ _ _ h0) (by simp),g1.cell (cell_of_row _ _ 1 _ _ _ h0) (by simp),g1.cell (cell_of_row _ _ 2 _ _ _ h0) (by simp)⟩
 have HR:Hid ((AM.Raw.new N n).C.length=N/\(AM.Raw.new N n).n=n/\AM.Sim (AM.Raw.new N n) (AM.RA.new N n)):=⟨by simp[AM.Raw.new],rfl,AM.sim_new (by omega) (by omega) (by omega) (by omega)⟩
 have GA:Hid (w.grownBy (w.alloc (.cells #[.int .i64 (k:Int),.int .i64 (N:Int),.int .i64 (S:Int)] 39)) none):=World.grownBy_alloc w _ none
 clear h1 h2 h3 h4 h5 h6 hN hn
 go_enter Tryz.func7,Tryz.ntmps7
 go_wp2_with (first
  | (go_at_call 27;refine (new_at HNN.out.1 HNN.out.2.1 HNN.out.2.2.1 HNN.out.2.2.2 rfl rfl).mono ?_;rintro e w1 ⟨a,rfl,F,i1,b1⟩;have I1:Hid (Is F w1 a (AM.Raw.new N n)):=i1;have B1:Hid (Base (w.alloc (.cells #[.int .i64 (k:Int),.int .i64 (N:Int),.int .i64 (S:Int)] 39)) F w1):=b1;obtain⟨b10,b11,b12⟩:=HB.out _ b1.grown;clear i1 b1)
  | fail)
 clear b10 b12
 go_wp2_with (first
  | (go_at_call 28;refine (rnew_at HNN.out.1 HNN.out.2.1 HNN.out.2.2.1 HNN.out.2.2.2 rfl rfl).mono ?_;rintro e w2 ⟨r,rfl,G,j2,b2⟩;have J2:Hid (RIs G w2 r (AM.RA.new N n)):=j2;have B2:Hid (Base w1 G w2):=b2;obtain⟨b20,b21,b22⟩:=HB.out _ (grown_trans B1.out.grown b2.grown);clear j2 b2)
  | fail)
 have I2:Hid (Is F w2 a (AM.Raw.new N n)):=I1.out.keep B2.out.grown
 have AP:Hid ((∀ i,F i->G i->False)/\(∀ i,F i->w.heap.size<=i)/\(∀ i,G i->w.heap.size<=i)/\(∀ i,F i->i < w1.heap.size)/\(∀ i,G i->i < w2.heap.size)):=by
  have s0:=GA.out.size
  have s1:=B1.out.grown.size
  have s2:=B2.out.grown.size
  refine⟨fun i hf hg=>?_,fun i hf=>?_,fun i hg=>?_,fun i hf=>I1.out.lt i hf,fun i hg=>J2.out.lt i hg⟩
  ·have:=I1.out.lt i hf;have:=B2.out.lo i hg;omega
  ·have:=B1.out.lo i hf;omega
  ·have:=B2.out.lo i hg;omega
 have G2:Hid (w.grownBy w2 none):=grown_trans GA.out (grown_trans B1.out.grown B2.out.grown)
 have SN:Hid (Calls Tryz.prog 29 #[ptr a,.agg #[.int .i64 (k:Int),.int .i64 (N:Int),.int .i64 (S:Int)],.int .i64 (f:Int)] w2 fun e w'=>∃ s,e=.returned (.tuple #[ptr s,.int .i64 0])/\SI F w' s a ⟨k,N,S,f⟩ (AM.Raw.new N n)/\w2.heap.size<=s/\w2.grownBy w' none):=snew_yes I2.out (HG.out _ HR.out.1 HR.out.2.1)
 have HB2:Hid (∀ w',w2.grownBy w' none->w'.cell? ⟨w.heap.size,0,none⟩=some (.int .i64 (k:Int))/\w'.cell? ⟨w.heap.size,1,none⟩=some (.int .i64 (N:Int))/\w'.cell? ⟨w.heap.size,2,none⟩=some (.int .i64 (S:Int))):=fun w' g1=>HB.out _ (grown_trans (grown_trans B1.out.grown B2.out.grown) g1)
 have SZ:Hid (w1.heap.size<=w2.heap.size):=B2.out.grown.size
 clear I1 B1 B2 b11 HB
 go_wp2_with (first
  | (go_at_call 29;refine SN.out.mono ?_;rintro e w3 ⟨s,rfl,i3,l3,g3⟩;have I3:Hid (SI F w3 s a ⟨k,N,S,f⟩ (AM.Raw.new N n)/\w2.heap.size<=s):=⟨i3,l3⟩;have G3:Hid (w2.grownBy w3 none):=g3;obtain⟨b30,b31,b32⟩:=HB2.out _ g3;clear i3 l3 g3)
  | fail)
 have RN:Hid (Calls Tryz.prog 30 #[rptr r,.agg #[.int .i64 (k:Int),.int .i64 (N:Int),.int .i64 (S:Int)],.int .i64 (f:Int)] w3 fun e w'=>∃ t,e=.returned (.tuple #[.pointer (some ⟨t,0,none⟩),.int .i64 0])/\RSI G w' t r ⟨k,N,S,f⟩ (AM.Raw.new N n)/\w3.heap.size<=t/\w3.grownBy w' none):=rsnew_yes (J2.out.keep G3.out) HR.out.2.2 (HG.out _ HR.out.1 HR.out.2.1)
 clear SN J2 I2 HB2
 go_wp2_with (go_at_call 30;refine RN.out.mono ?_;rintro e w4 ⟨t,rfl,j4,l4,g4⟩;have J4:Hid (RSI G w4 t r ⟨k,N,S,f⟩ (AM.Raw.new N n)/\w3.heap.size<=t):=⟨j4,l4⟩;have G4:Hid (w3.grownBy w4 none):=g4;clear j4 l4 g4)
 go_ret2
 have s0:=G2.out.size
 have s1:=SZ.out
 have s3:=G3.out.size
 have s4:=J4.out.2
 have s5:=I3.out.2
 exact⟨_,_,rfl,F,G,a,r,I3.out.1.keep G4.out,J4.out.1,AP.out.1,AP.out.2.1,AP.out.2.2.1,by omega,by omega,fun hf=>by have:=AP.out.2.2.2.1 _ hf;omega,fun hg=>by have:=AP.out.2.2.2.2 _ hg;omega,grown_trans G2.out (grown_trans G3.out G4.out)⟩
end
section
variable {F F':Nat->Prop} {w w':World} {s a:Nat} {g:SP.Geo} {R R':AM.Raw}
theorem sread_on (h:SI F w s a g R) (h0:R.off=false) {d slot i:Nat} (hd:d < g.n) (hs:slot < g.s) (hi:i < 8) (ho:R.on (d:Int)=true) :
 Calls Tryz.prog 53 #[ptr a,.int .i64 (d:Int),.int .i64 ((g.f+8 * slot+i:Nat):Int)] w fun e w'=>∃ p,e=.returned (.tuple #[.slice p 64 64,.int .i64 0])/\Own w.heap.size w' (.slice p 64 64) (AM.look R.C d (g.f+8 * slot+i))/\w.grownBy w' none:=by
 have hr:=SP.reach_on h.ok h0 hs hi hd
 rw[if_pos ho] at hr
 have:=read_yes h.i hr
 exact this
theorem sread_off (h:SI F w s a g R) (h0:R.off=false) {d slot i:Nat} (hd:d < g.n) (hs:slot < g.s) (hi:i < 8) (ho:R.on (d:Int)=false) :
 Calls Tryz.prog 53 #[ptr a,.int .i64 (d:Int),.int .i64 ((g.f+8 * slot+i:Nat):Int)] w fun e w'=>e=.returned (.tuple #[.slice none 0 0,.int .i64 9])/\w'=w:=by
 have hr:=SP.reach_on h.ok h0 hs hi hd
 rw[ho] at hr
 have:=read_no h.i (d:=(d:Int)) (k:=((g.f+8 * slot+i:Nat):Int)) (by rw[hr];decide)
 rw[hr] at this
 exact this
set_option maxHeartbeats 1600000 in
theorem ssectors_on (h:SI F w s a g R) (h0:R.off=false) {d slot:Nat} (hd:d < g.n) (hs:slot < g.s) (ho:R.on (d:Int)=true) :
 Calls Tryz.prog 109 #[ptr s,.int .i64 (d:Int),.int .i64 (slot:Int)] w fun e w'=>∃ v us,e=.returned v/\RMat 5 w.heap.size w' v us (SP.sectTo R g slot d 8)/\w.grownBy w' none:=by
 have H:Hid (SI F w s a g R):=h
 have HN:Hid (R.off=false/\d < g.n/\slot < g.s/\R.on (d:Int)=true/\g.f+8 * slot+8<=4096):=⟨h0,hd,hs,ho,by have:=h.ok.room;have:=h.i.ok.n2;omega⟩
 obtain⟨w1,hmk0,hrow,g1⟩:=run_make_rows0 w (n:=8) (by omega)
 have hmk:(Instr.makeSlice 95 (.int .i64 0) (.int .i64 8)).run Tryz.prog w=.ok (.slice (some ⟨w.heap.size,0,none⟩) 0 8) w1:=hmk0
 clear hmk0
 have HR:Hid (w1.ownsRow w.heap.size 31 1 (.slice (some ⟨w.heap.size,0,none⟩) 0 8) 0 []):=hrow
 have HG:Hid (w.grownBy w1 none):=g1
 clear h h0 hd hs ho hrow g1
 go_enter Tryz.func109,Tryz.ntmps109
 go_wp2_with fail
 clear hmk
 go_loopw [7,12] (fun tl ti wr=>∃ k:Nat,k<=8/\ti=.int .i64 k/\Hid (∃ us,RMat 5 w.heap.size wr tl us (SP.sectTo R g slot d k))/\Hid (w.grownBy wr none)) (fun _ ti _=>8 - (intOf ti).toNat)
 case atStart=>exact⟨0,by omega,rfl,⟨[],⟨by simp,HR.out,rfl,by simp[SP.sectTo]⟩⟩,HG⟩
 case round =>
  obtain⟨k,hk,rfl,OK,GK⟩:=hrel
  obtain⟨us,OM⟩:=OK.out
  have MK:Hid (RMat 5 w.heap.size wr u7 us (SP.sectTo R g slot d k)):=OM
  have HL:Hid ((us.length+1) * 24<=140737488351232):=by show _<=_;rw[OM.same,SP.sectTo_len];omega
  clear OM OK
  by_cases hlt:k < 8
  ·have i4:(k:Int) < 8:=by omega
   have GD:Hid (w.grownBy (wr.drewN 1) none):=grown_trans GK.out (grown_drewN wr 1)
   have HC:Hid (∀ w',wr.grownBy w' none->w'.cell? ⟨s,0,none⟩=some (ptr a)):=fun w' g'=>(H.out.keep (grown_trans GK.out g')).at1
   obtain⟨b,hb⟩:∃ b,b=g.f+8 * slot:=⟨_,rfl⟩
   obtain⟨q,hq⟩:∃ q,q=g.f+8 * slot+k:=⟨_,rfl⟩
   have HB:Hid (Calls Tryz.prog 102 #[ptr s,.int .i64 (slot:Int)] (wr.drewN 1) fun e w'=>e=.returned (.int .i64 (b:Int))/\w'=wr.drewN 1):=by
    rw[hb];exact sbegin_yes (H.out.keep GD.out) HN.out.2.2.1
   have RD:Hid (Calls Tryz.prog 53 #[ptr a,.int .i64 (d:Int),.int .i64 (q:Int)] (wr.drewN 1) fun e w'=>∃ p,e=.returned (.tuple #[.slice p 64 64,.int .i64 0])/\Own (wr.drewN 1).heap.size w' (.slice p 64 64) (AM.look R.C d q)/\(wr.drewN 1).grownBy w' none):=by
    rw[hq];exact sread_on (H.out.keep GD.out) HN.out.1 HN.out.2.1 HN.out.2.2.1 hlt HN.out.2.2.2.1
   have hw:IntKind.i64.wrap ((b:Int)+(k:Int))=(q:Int):=by
    have e:(b:Int)+(k:Int)=(q:Int):=by omega
    have:=HN.out.2.2.2.2
    rw[e]
    exact IntWalk.i64_in _ (by omega)
   have HS:Hid (SP.sectTo R g slot d (k+1)=SP.sectTo R g slot d k++[AM.look R.C d q]):=by rw[hq];exact SP.sectTo_succ R g slot d k
   clear hb hq
   generalize SP.sectTo R g slot d k=XK at *
   generalize AM.look R.C d q=SK at *
   go_wp2_with fail
   go_region_held3 (fun w'=>w'.cell? ⟨s,0,none⟩=some (ptr a)) (first | exact HC.out _ (grown_drewN _ 1) | exact HC.out _ (grown_trans (grown_drewN _ 1) G1.out))
    ((first
      | (go_at_call 102;refine HB.out.mono ?_;rintro e w9 ⟨rfl,hw9⟩;obtain rfl:=hw9.symm;clear hw9)
      | (go_at_call 53;refine RD.out.mono ?_;rintro e w2 ⟨p,rfl,op,g2⟩;have G1:Hid ((wr.drewN 1).grownBy w2 none):=g2;have OP:Hid (Arr 5 w.heap.size w2 (.slice p 64 64) SK):=op.arr.down GD.out.size;clear op g2)))
   have M1:Hid (RMat 5 w.heap.size w2 u7 us XK):=(MK.out.keep (grown_drewN wr 1)).keep G1.out
   have G2:Hid (w.grownBy w2 none):=grown_trans GD.out G1.out
   clear HB RD hw GD G1 MK
   go_wp2_with (at_builtin;refine wpList_append_row rfl _ _ rfl _ ⟨w2.heap.size,0,none⟩ rfl rfl (M1.out.keep (World.grownBy_alloc w2 _ none)).row (cell_new1 _ _ rfl) rfl (gb_alloc G2.out _).size HL.out ?_;intro v3 w3 r3 g3 at3;have M3:Hid (RMat 5 w.heap.size w3 v3 (us++[.slice p 64 64]) (XK++[SK])):=(M1.out.keep (World.grownBy_alloc w2 _ none)).more (by decide) (OP.out.keep (World.grownBy_alloc w2 _ none)) HL.out r3 g3;have G3:Hid (w.grownBy w3 none):=grown_new (gb_alloc G2.out _) g3 (fun i e=>M1.out.lo i e);clear r3 g3 at3)
   go_roundw
   case rel=>exact⟨k+1,by omega,by go_num,⟨_,by rw[HS.out];exact M3.out⟩,G3⟩
   case measure=>simp[intOf];omega
  ·obtain rfl:k=8:=by omega
   go_wp2
   go_ret
   exact⟨_,_,rfl,MK.out,GK.out⟩
set_option maxHeartbeats 1600000 in
theorem ssectors_off (h:SI F w s a g R) (h0:R.off=false) {d slot:Nat} (hd:d < g.n) (hs:slot < g.s) (ho:R.on (d:Int)=false) :
 Calls Tryz.prog 109 #[ptr s,.int .i64 (d:Int),.int .i64 (slot:Int)] w fun e w'=>e=.returned (.slice none 0 0)/\w.grownBy w' none:=by
 have H:Hid (SI F w s a g R):=h
 have HN:Hid (R.off=false/\d < g.n/\slot < g.s/\R.on (d:Int)=false/\g.f+8 * slot+8<=4096):=⟨h0,hd,hs,ho,by have:=h.ok.room;have:=h.i.ok.n2;omega⟩
 obtain⟨w1,hmk0,hrow,g1⟩:=run_make_rows0 w (n:=8) (by omega)
 have hmk:(Instr.makeSlice 95 (.int .i64 0) (.int .i64 8)).run Tryz.prog w=.ok (.slice (some ⟨w.heap.size,0,none⟩) 0 8) w1:=hmk0
 clear hmk0
 have HG:Hid (w.grownBy w1 none):=g1
 clear h h0 hd hs ho hrow g1
 go_enter Tryz.func109,Tryz.ntmps109
 go_wp2_with fail
 clear hmk
 go_loopw [7,12] (fun tl ti wr=>ti=.int .i64 0/\tl=.slice (some ⟨w.heap.size,0,none⟩) 0 8/\Hid (w.grownBy wr none)) (fun _ ti _=>8 - (intOf ti).toNat)
 case atStart=>exact⟨rfl,rfl,HG⟩
 case round =>
  obtain⟨rfl,rfl,GK⟩:=hrel
  have GD:Hid (w.grownBy (wr.drewN 1) none):=grown_trans GK.out (grown_drewN wr 1)
  have HC:Hid (∀ w',wr.grownBy w' none->w'.cell? ⟨s,0,none⟩=some (ptr a)):=fun w' g'=>(H.out.keep (grown_trans GK.out g')).at1
  obtain⟨b,hb⟩:∃ b,b=g.f+8 * slot:=⟨_,rfl⟩
  have HB:Hid (Calls Tryz.prog 102 #[ptr s,.int .i64 (slot:Int)] (wr.drewN 1) fun e w'=>e=.returned (.int .i64 (b:Int))/\w'=wr.drewN 1):=by
   rw[hb];exact sbegin_yes (H.out.keep GD.out) HN.out.2.2.1
  have RD:Hid (Calls Tryz.prog 53 #[ptr a,.int .i64 (d:Int),.int .i64 (b:Int)] (wr.drewN 1) fun e w'=>e=.returned (.tuple #[.slice none 0 0,.int .i64 9])/\w'=wr.drewN 1):=by
   rw[hb];exact sread_off (i:=0) (H.out.keep GD.out) HN.out.1 HN.out.2.1 HN.out.2.2.1 (by omega) HN.out.2.2.2.1
  have hw:IntKind.i64.wrap (b:Int)=(b:Int):=by
   have:=HN.out.2.2.2.2
   exact IntWalk.i64_in _ (by omega)
  clear hb
  go_wp2_with fail
  go_region_held3 (fun w'=>w'.cell? ⟨s,0,none⟩=some (ptr a)) (exact HC.out _ (grown_drewN _ 1))
   ((first
     | (go_at_call 102;refine HB.out.mono ?_;rintro e w9 ⟨rfl,hw9⟩;obtain rfl:=hw9.symm;clear hw9)
     | (go_at_call 53;refine RD.out.mono ?_;rintro e w2 ⟨rfl,hw2⟩;obtain rfl:=hw2.symm;clear hw2)))
  go_wp2
  go_ret
  exact⟨rfl,GD.out⟩
theorem ssectors_any (h:SI F w s a g R) (h0:R.off=false) {d slot:Nat} (hd:d < g.n) (hs:slot < g.s) :
 Calls Tryz.prog 109 #[ptr s,.int .i64 (d:Int),.int .i64 (slot:Int)] w fun e w'=>∃ v us,e=.returned v/\Mat w' v us (SP.sects R g slot d)/\w.grownBy w' none:=by
 cases ho:R.on (d:Int)
 ·rw[SP.sects_off ho]
  refine (ssectors_off h h0 hd hs ho).mono ?_
  rintro e w' ⟨rfl,g1⟩
  exact⟨_,_,rfl,Mat.nil _,g1⟩
 ·rw[SP.sects_on ho]
  refine (ssectors_on h h0 hd hs ho).mono ?_
  rintro e w' ⟨v,us,rfl,m,g1⟩
  exact⟨_,_,rfl,m.mat,g1⟩
end
theorem slice_lh {b off n c lo hi:Nat} (h1:lo<=hi) (h2:hi<=c) (h3:lo < c) (W:World):(Instr.slice 31 (.slice (some ⟨b,off,none⟩) n c) (some (.int .i64 (lo:Int))) (some (.int .i64 (hi:Int))) none).run Tryz.prog W=.ok (.slice (some ⟨b,off+lo,none⟩) (hi - lo) (c - lo)) W:=by
 obtain⟨i0,hi0,hz0,hz1,hz2⟩:=info_parts Tryz.info5
 have e1:(Instr.sliceBound (.int .i64 (hi:Int)) c .sliceAcap).run Tryz.prog W=.ok hi W:=by
  have:=run_sliceBound (P:=Tryz.prog) W .i64 (hi:Int) c .sliceAcap (by omega) (by omega)
  simpa using this
 have e2:(Instr.sliceBound (.int .i64 (lo:Int)) hi .sliceB).run Tryz.prog W=.ok lo W:=by
  have:=run_sliceBound (P:=Tryz.prog) W .i64 (lo:Int) hi .sliceB (by omega) (by omega)
  simpa using this
 have h4:¬ c=lo:=by omega
 simp[Instr.slice,run_underlying Tryz.underlying31,Instr.sliceBounds,e1,e2,sizeOf,typeInfo,hi0,hz1,h4,add_off]
set_option maxHeartbeats 1600000 in
theorem refPut7 {w:World} {n:Nat} {v:Value} {xs:List Nat} (hn:n < 18446744073709551616) (hv:Vec w v xs) :
 Calls Tryz.prog 118 #[.int .u64 (n:Int),v] w fun e w'=>∃ u us,e=.returned (.tuple #[u,.int .i64 (CM.putE n xs)])/\RMat 5 w.heap.size w' u us (CM.putS n xs)/\w.grownBy w' none:=by
 obtain⟨q,N,cap,rfl,hN⟩:=hv.opened
 have hNl:N<=140737488351232:=by rw[hN];exact hv.len
 by_cases h0:n=0
 ·have i0:((n:Int)==0)=true:=eqb_yes (b:=0) h0
  have hE:CM.putE n xs=1:=by simp[CM.putE,h0]
  have hS:CM.putS n xs=[]:=by simp[CM.putS,CM.fit,h0]
  rw[hE,hS]
  clear hv hN h0 hE hS
  go_enter Tryz.func118,Tryz.ntmps118
  go_wp2
  go_ret2
  exact⟨_,_,rfl,RMat.nil _ _ _,World.grownBy.refl _ _⟩
 ·have i0:((n:Int)==0)=false:=eqb_no (b:=0) h0
  obtain⟨m,hm⟩:∃ m,m=N / 56:=⟨_,rfl⟩
  have hq:(N:Int) / 56=(m:Int):=by omega
  by_cases h1:m=0
  ·have i1:((m:Int)==0)=true:=eqb_yes (b:=0) h1
   have hx:xs.length=0\/xs.length % 56 ≠ 0:=by omega
   have hE:CM.putE n xs=4:=by unfold CM.putE;rw[if_neg h0,if_pos hx]
   have hS:CM.putS n xs=[]:=by unfold CM.putS;rw[if_neg (fun h=>by have:=CM.fit_iff.1 h;omega)]
   rw[hE,hS]
   clear hv hN h0 hE hS h1 hm hx
   go_enter Tryz.func118,Tryz.ntmps118
   go_wp2
   go_ret2
   exact⟨_,_,rfl,RMat.nil _ _ _,World.grownBy.refl _ _⟩
  ·have i1:((m:Int)==0)=false:=eqb_no (b:=0) h1
   by_cases h2:56 * m=N
   ·have i2:(56 * (m:Int) != (N:Int))=false:=by have:=neb_no h2;rwa [Int.natCast_mul] at this
    have hx:¬ (xs.length=0\/xs.length % 56 ≠ 0):=by omega
    by_cases h3:64 < m
    ·have i3:(64:Int) < (m:Int):=by omega
     have hE:CM.putE n xs=3:=by unfold CM.putE;rw[if_neg h0,if_neg hx,if_pos (by omega)]
     have hS:CM.putS n xs=[]:=by unfold CM.putS;rw[if_neg (fun h=>by have:=CM.fit_iff.1 h;omega)]
     rw[hE,hS]
     clear hv hN h0 hE hS h1 hm hx h2 h3
     go_enter Tryz.func118,Tryz.ntmps118
     go_wp2
     go_ret2
     exact⟨_,_,rfl,RMat.nil _ _ _,World.grownBy.refl _ _⟩
    ·have i3:¬ (64:Int) < (m:Int):=by omega
     have hf:CM.fit n xs=true:=CM.fit_iff.2 ⟨h0,by omega,by omega,by omega⟩
     have hE:CM.putE n xs=0:=(CM.putE_fit n xs).2 hf
     have hS:CM.putS n xs=CM.secs n xs m:=by unfold CM.putS;rw[if_pos hf,<- hN,hm]
     rw[hE,hS]
     obtain⟨b,off,rfl,_⟩:=hv.spot (k:=0) (by omega)
     have hcap:N<=cap:=by
      obtain⟨p',cap',e,h3,_⟩:=hv.form
      injection e with e1 e2 e3
      omega
     have HV:Hid (Vec w (.slice (some ⟨b,off,none⟩) N cap) xs):=hv
     have HN:Hid (56 * m=N/\N=xs.length/\N<=cap):=⟨h2,hN,hcap⟩
     have hm64:m<=64:=by omega
     clear hv hN h0 hE hS h1 hm hx h2 h3 hf hcap
     go_enter Tryz.func118,Tryz.ntmps118
     go_wp2_with fail
     go_loopw [7,8] (fun tl ti wr=>∃ k:Nat,k<=m/\ti=.int .i64 k/\Hid (∃ us,RMat 5 w.heap.size wr tl us (CM.secs n xs k))/\Hid (w.grownBy wr none)) (fun _ ti _=>m - (intOf ti).toNat)
     case atStart=>exact⟨0,by omega,rfl,⟨_,RMat.nil _ _ _⟩,World.grownBy.refl _ _⟩
     case round =>
      obtain⟨k,hk,rfl,OK,GK⟩:=hrel
      by_cases hlt:k < m
      ·have i4:(k:Int) < (m:Int):=by omega
       have hsl:=fun W=>slice_lh (b:=b) (off:=off) (n:=N) (c:=cap) (lo:=56 * k) (hi:=56 * k+56) (by omega) (by have:=HN.out;omega) (by have:=HN.out;omega) W
       have e56:56 * k+56 - 56 * k=56:=by omega
       rw[e56] at hsl
       have VL:Hid (Vec wr (.slice (some ⟨b,off+56 * k,none⟩) 56 (cap - 56 * k)) (CM.ld xs k)):=by
        have h1:=((HV.out.keep GK.out).tail_a (n:=56 * k) (by have:=HN.out;omega)).cut (n:=56) (by rw[List.length_drop];have:=HN.out;omega)
        exact h1
       have RP:Hid (∃ p,True/\p=p):=⟨0,trivial,rfl⟩
       have RPc:=refPut_yes (n:=n) hn VL.out (by rw[CM.ld_len (by have:=HN.out;omega)];exact Nat.le_refl _)
       have RQ:Hid (Calls Tryz.prog 135 #[.int .u64 (n:Int),.slice (some ⟨b,off+56 * k,none⟩) 56 (cap - 56 * k)] wr fun e w'=>∃ p,e=.returned (.tuple #[.slice p 64 64,.int .i64 0])/\Own wr.heap.size w' (.slice p 64 64) (SM.sec n (CM.ld xs k))/\wr.grownBy w' none):=RPc
       clear VL RPc RP e56
       rw[show ((56 * k+56:Nat):Int)=56 * (k:Int)+56 by omega,show ((56 * k:Nat):Int)=56 * (k:Int) by omega] at hsl
       obtain⟨us,OM⟩:=OK.out
       have MK:Hid (RMat 5 w.heap.size wr u7 us (CM.secs n xs k)):=OM
       have HS:Hid (CM.secs n xs (k+1)=CM.secs n xs k++[SM.sec n (CM.ld xs k)]):=by show _=_;simp[CM.secs,List.range_succ]
       have HL:Hid ((us.length+1) * 24<=140737488351232):=by show _<=_;rw[OM.same,CM.secs_len];omega
       clear OM OK
       generalize CM.secs n xs k=XK at *
       generalize SM.sec n (CM.ld xs k)=SK at *
       go_wp2_with (first
        | (go_at_call 135;refine RQ.out.mono ?_;rintro e w1 ⟨p,rfl,op,g1⟩;have OP:Hid (Arr 5 w.heap.size w1 (.slice p 64 64) SK):=op.arr.down GK.out.size;have M1:Hid (RMat 5 w.heap.size w1 u7 us XK):=MK.out.keep g1;have G1:Hid (w.grownBy w1 none):=grown_trans GK.out g1;clear op g1)
        | (at_builtin;refine wpList_append_row rfl _ _ rfl _ ⟨w1.heap.size,0,none⟩ rfl rfl (M1.out.keep (World.grownBy_alloc w1 _ none)).row (cell_new1 _ _ rfl) rfl (gb_alloc G1.out _).size HL.out ?_;intro v2 w2 r2 g2 at2;have M2:Hid (RMat 5 w.heap.size w2 v2 (us++[.slice p 64 64]) (XK++[SK])):=(M1.out.keep (World.grownBy_alloc w1 _ none)).more (by decide) (OP.out.keep (World.grownBy_alloc w1 _ none)) HL.out r2 g2;have G2:Hid (w.grownBy w2 none):=grown_new (gb_alloc G1.out _) g2 (fun i e=>M1.out.lo i e);clear r2 g2 at2))
       go_roundw
       case rel=>exact⟨k+1,by omega,by go_num,⟨_,by rw[HS.out];exact M2.out⟩,G2⟩
       case measure=>simp[intOf];omega
      ·have hkm:k=m:=by omega
       subst hkm
       obtain⟨us,OM⟩:=OK.out
       have MK:Hid (RMat 5 w.heap.size wr u7 us (CM.secs n xs k)):=OM
       clear OM OK
       go_wp2
       go_ret2
       exact⟨_,_,rfl,MK.out,GK.out⟩
   ·have i2:(56 * (m:Int) != (N:Int))=true:=by have:=neb_yes h2;rwa [Int.natCast_mul] at this
    have hx:xs.length=0\/xs.length % 56 ≠ 0:=by omega
    have hE:CM.putE n xs=4:=by unfold CM.putE;rw[if_neg h0,if_pos hx]
    have hS:CM.putS n xs=[]:=by unfold CM.putS;rw[if_neg (fun h=>by have:=CM.fit_iff.1 h;omega)]
    rw[hE,hS]
    clear hv hN h0 hE hS h1 hm hx h2
    go_enter Tryz.func118,Tryz.ntmps118
    go_wp2
    go_ret2
    exact⟨_,_,rfl,RMat.nil _ _ _,World.grownBy.refl _ _⟩
end Go.Proofs.YtaalagkbpeinkaaGreat
namespace Go.Proofs.YtaalagkbpeinkaaGreat
open Go.RowKit Go.Shelf
attribute [local go_sem] Oper.semAt_some
def cl (m x:Nat):Nat:=min x (m - 1)
theorem cl_lt {m x:Nat} (h:0 < m):cl m x < m:=by unfold cl;omega
theorem cl_self {m x:Nat} (h:x < m):cl m x=x:=by unfold cl;omega
def encL_c (b off m x:Nat):Array Value:=#[.slice (some ⟨b,off+56 * cl m x,none⟩) 56 56]
def Kp7 (Bs Bn:Nat) (W W':World):Prop:=W'.heap[Bs]?=W.heap[Bs]?/\W'.heap[Bn]?=W.heap[Bn]?
theorem chunk_any (w:World) (p:Option Addr) (n c:Nat) :
 Calls Tryz.prog 105 #[.slice p n c,.int .i64 56] w fun e w'=>e=.returned (.func (.func 128) #[] #[.pointer (some ⟨w.heap.size,0,none⟩),.pointer (some ⟨w.heap.size+1,0,none⟩)])/\w'=(w.alloc (.cells #[.slice p n c] 31)).alloc (.cells #[.int .i64 56] 3):=by
 go_enter Tryz.func105,Tryz.ntmps105
 go_wp2
 go_ret
 exact⟨rfl,rfl⟩
theorem slice_lo7 {b off n c lo:Nat} (h3:lo < n) (hc:n<=c) (W:World):(Instr.slice 31 (.slice (some ⟨b,off,none⟩) n c) (some (.int .i64 (lo:Int))) none none).run Tryz.prog W=.ok (.slice (some ⟨b,off+lo,none⟩) (n - lo) (c - lo)) W:=by
 obtain⟨i0,hi0,hz0,hz1,hz2⟩:=info_parts Tryz.info5
 have e2:(Instr.sliceBound (.int .i64 (lo:Int)) n .sliceB).run Tryz.prog W=.ok lo W:=by
  have:=run_sliceBound (P:=Tryz.prog) W .i64 (lo:Int) n .sliceB (by omega) (by omega)
  simpa using this
 have h4:¬ c=lo:=by omega
 simp[Instr.slice,run_underlying Tryz.underlying31,Instr.sliceBounds,e2,sizeOf,typeInfo,hi0,hz1,h4,add_off]
theorem slice_lhm {b off n c lo hi:Nat} (h2:hi<=c) (h3:lo < hi) (W:World):(Instr.slice 31 (.slice (some ⟨b,off,none⟩) n c) (some (.int .i64 (lo:Int))) (some (.int .i64 (hi:Int))) (some (.int .i64 (hi:Int)))).run Tryz.prog W=.ok (.slice (some ⟨b,off+lo,none⟩) (hi - lo) (hi - lo)) W:=by
 obtain⟨i0,hi0,hz0,hz1,hz2⟩:=info_parts Tryz.info5
 have e0:(Instr.sliceBound (.int .i64 (hi:Int)) c .slice3Acap).run Tryz.prog W=.ok hi W:=by
  have:=run_sliceBound (P:=Tryz.prog) W .i64 (hi:Int) c .slice3Acap (by omega) (by omega)
  simpa using this
 have e1:(Instr.sliceBound (.int .i64 (hi:Int)) hi .slice3B).run Tryz.prog W=.ok hi W:=by
  have:=run_sliceBound (P:=Tryz.prog) W .i64 (hi:Int) hi .slice3B (by omega) (by omega)
  simpa using this
 have e2:(Instr.sliceBound (.int .i64 (lo:Int)) hi .slice3C).run Tryz.prog W=.ok lo W:=by
  have:=run_sliceBound (P:=Tryz.prog) W .i64 (lo:Int) hi .slice3C (by omega) (by omega)
  simpa using this
 have h4:¬ hi=lo:=by omega
 simp[Instr.slice,run_underlying Tryz.underlying31,Instr.sliceBounds,e0,e1,e2,sizeOf,typeInfo,hi0,hz1,h4,add_off]
set_option maxRecDepth 100000 in
set_option maxHeartbeats 2000000 in
theorem chunk1_in (n:Nat) (hn:1<=n) (l Bs Bn b off N cap m:Nat) (hN:N=56 * m) (hm:m<=64) (hcap:N<=cap) (J Jx:List Nat->World->Prop)
 (hY:∀ pre x W,J pre W->pre.length < m->YieldAt Fence.wide (n - 1) Tryz.prog l (encL_c b off m x) W fun e W' =>
   (e=.returned (.bool true)/\J (pre++[x]) W'/\Kp7 Bs Bn W W')\/(e=.returned (.bool false)/\Jx (pre++[x]) W'))
 (W:World) (hBs:Boxed W Bs 31 (.slice (some ⟨b,off,none⟩) N cap)) (hBn:Boxed W Bn 3 (.int .i64 56)) (hJd:∀ pre W,J pre W->J pre W.drew) (h0:J [] W) :
 CallsIn Fence.wide n Tryz.prog 128 #[.func (.yield l) #[] #[],.pointer (some ⟨Bs,0,none⟩),.pointer (some ⟨Bn,0,none⟩)] W fun e W'=>(∃ v,e=.returned v) /\
  ((∃ ys,ys=List.range m/\J ys W')\/(∃ pre,(∃ k,k<=m/\pre=List.range k)/\Jx pre W')):=by
 have HN:Hid (N=56 * m/\N<=cap):=⟨hN,hcap⟩
 have HY:Hid _:=hY
 clear hN hcap hY
 refine callsIn_of_wp Tryz.func128 rfl trivial ?_ rfl
 simp only[Tryz.ntmps128,List.size_toArray,List.length_cons,List.length_nil,Nat.reduceAdd,Nat.reduceSub,Array.replicate_succ,Array.replicate_zero,List.push_toArray,List.append_toArray,List.nil_append,List.cons_append]
 gi_wp2
 gi_loopw [4] (fun i wr=>∃ k:Nat,k<=m/\i=.int .i64 (56 * (k:Int))/\Hid (J (List.range k) wr)/\Hid (Boxed wr Bs 31 (.slice (some ⟨b,off,none⟩) N cap)/\Boxed wr Bn 3 (.int .i64 56)))
  (fun i _=>56 * m - (intOf i).toNat)
 case atStart=>exact⟨0,Nat.zero_le _,rfl,h0,hBs,hBn⟩
 case round =>
  clear hBs hBn h0
  obtain⟨k,hk,rfl,hJs,hB⟩:=hrel
  have c1:=hB.out.1.cell
  by_cases hlt:k < m
  ·have i1:56 * (k:Int) < (N:Int):=by have:=HN.out;omega
   have HY2:Hid (YieldAt Fence.wide (n - 1) Tryz.prog l (encL_c b off m k) wr.drew fun e W'=>(e=.returned (.bool true)/\J (List.range k++[k]) W'/\Kp7 Bs Bn wr.drew W')\/(e=.returned (.bool false)/\Jx (List.range k++[k]) W')):=HY.out _ _ _ (hJd _ _ hJs.out) (by simpa using hlt)
   have s1:=fun W=>slice_lo7 (b:=b) (off:=off) (n:=N) (c:=cap) (lo:=56 * k) (by have:=HN.out;omega) HN.out.2 W
   rw[show ((56 * k:Nat):Int)=56 * (k:Int) by omega] at s1
   obtain⟨R,hR⟩:∃ R,R=N - 56 * k:=⟨_,rfl⟩
   rw[<- hR] at s1
   have iR:¬ (R:Int) < 56:=by have:=HN.out;omega
   have HB:Hid (∀ w',wr.grownBy w' none->w'.cell? ⟨Bs,0,none⟩=some (.slice (some ⟨b,off,none⟩) N cap)/\w'.cell? ⟨Bn,0,none⟩=some (.int .i64 56)):=fun w' g=>⟨g.cell hB.out.1.cell (by simp),g.cell hB.out.2.cell (by simp)⟩
   clear hR hJs
   gi_wp2
   refine wpIn_wide.2 ?_
   go_region_held3 (fun w'=>w'.cell? ⟨Bs,0,none⟩=some (.slice (some ⟨b,off,none⟩) N cap)/\w'.cell? ⟨Bn,0,none⟩=some (.int .i64 56)) (first | exact HB.out _ (grown_drewN _ 1)) (fail)
   clear s1 i1
   have eL:encL_c b off m k=#[.slice (some ⟨b,off+56 * k,none⟩) 56 56]:=by simp[encL_c,cl_self hlt]
   rw[eL] at HY2
   obtain⟨fn,tmps,assign,body,hy,hR⟩:=HY2.out
   have s2:=fun W=>slice_lhm (b:=b) (off:=off) (n:=N) (c:=cap) (lo:=56 * k) (hi:=56 * k+56) (by have:=HN.out;omega) (by omega) W
   rw[show ((56 * k+56:Nat):Int)=56 * (k:Int)+56 by omega,show ((56 * k:Nat):Int)=56 * (k:Int) by omega,show 56 * k+56 - 56 * k=56 by omega] at s2
   have d1:wr.drew.cell? ⟨Bs,0,none⟩=some (.slice (some ⟨b,off,none⟩) N cap):=c1
   clear HY2 eL c1
   gi_wp2
   refine hR.mono ?_
   rintro e W3 (⟨rfl,hJ3,hk3⟩ | ⟨rfl,hJx3⟩)
   ·have HJ3:Hid (J (List.range k++[k]) W3):=hJ3
    have hB3:Hid (Boxed W3 Bs 31 (.slice (some ⟨b,off,none⟩) N cap)/\Boxed W3 Bn 3 (.int .i64 56)):=⟨hk3.1.trans hB.out.1,hk3.2.trans hB.out.2⟩
    have c3:=hB3.out.2.cell
    clear hJ3 hk3 hy hR s2 d1
    gi_wp2
    go_roundw
    case rel=>exact⟨k+1,by omega,by go_num,by rw[List.range_succ];exact HJ3,hB3⟩
    case measure=>simp[intOf];omega
   ·have HJ3:Hid (Jx (List.range k++[k]) W3):=hJx3
    clear hJx3 hy hR s2 d1
    gi_wp2
    refine bodyPost_ret (results_none rfl _ _ _) rfl ?_
    exact⟨⟨_,rfl⟩,.inr ⟨_,⟨k+1,by omega,(List.range_succ).symm⟩,HJ3.out⟩⟩
  ·obtain rfl:k=m:=by omega
   have i1:¬ 56 * (k:Int) < (N:Int):=by have:=HN.out;omega
   gi_wp2
   go_end0
   exact⟨⟨_,rfl⟩,.inl hJs.out⟩
end Go.Proofs.YtaalagkbpeinkaaGreat
