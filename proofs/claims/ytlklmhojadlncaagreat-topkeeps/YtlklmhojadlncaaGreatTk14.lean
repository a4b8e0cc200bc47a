/- Packed: Walk7, CTake7, CPut7, Lay8, Walk8, Ask. -/
import Derived.Test.YtlklmhojadlncaaGreatTk13
set_option maxRecDepth 100000
namespace Go.Proofs.YtlklmhojadlncaaGreat
open Go.RowKit
set_option maxHeartbeats 1600000 in
theorem walk_any {w0 w:World} {A D:Nat} {dv r:Value} {us:List Value} {X:List (List Nat)} (mr:Mat w0 r us X) (T:Tak w0 A D w 0 dv []) (hX:X.length<=64) :
 Calls Tryz.prog 77 #[r,.func (.func 78) #[] #[.pointer (some ⟨A,0,none⟩),.pointer (some ⟨D,0,none⟩)]] w fun e w' =>
  (CM.okTo X X.length/\e=.returned (.bool true)/\∃ dv',Tak w0 A D w' (stAt X X.length) dv' (CM.loads X X.length))\/(¬ CM.okTo X X.length/\e=.returned (.bool false)/\w0.grownBy w' none):=by
 obtain⟨q,N,cap,rfl,hN⟩:=mr.row.opened
 have hs:=mr.same
 have hNl:N<=64:=by omega
 have MR:Hid (Mat w0 (.slice q N cap) us X):=mr
 have HN:Hid (N=us.length/\N=X.length/\N<=64):=⟨hN,by omega,hNl⟩
 have T0:Hid (Tak w0 A D w 0 dv []):=T
 clear mr hN hs hX T
 go_enter Tryz.func77,Tryz.ntmps77
 go_wp2_with fail
 go_loopw [12] (fun ti wr=>∃ k:Nat,k<=N/\ti=.int .i64 k/\Hid (CM.okTo X k)/\Hid (∃ dv',Tak w0 A D wr (stAt X k) dv' (CM.loads X k))) (fun ti _=>N - (intOf ti).toNat)
 case atStart=>exact⟨0,by omega,rfl,fun j hj=>by omega,⟨dv,by rw[CM.loads_zero];exact T0.out⟩⟩
 case round =>
  clear T0
  obtain⟨k,hk,rfl,OK,TX⟩:=hrel
  obtain⟨d1,TK1⟩:=TX.out
  have TK:Hid (Tak w0 A D wr (stAt X k) d1 (CM.loads X k)):=TK1
  clear TX TK1
  by_cases hlt:k < N
  ·have i3:(k:Int) < (N:Int):=by omega
   have i4:(0:Int)<=(k:Int):=by omega
   obtain⟨b,off,rfl,hr⟩:=(MR.out.keep TK.out.gr).row.spot (k:=k) (by have:=HN.out;omega)
   obtain⟨pk,nk,ck,ek,hnk⟩:=((MR.out.keep TK.out.gr).vec k (by have:=HN.out;omega)).opened
   rw[ek] at hr
   have VX:Hid (Vec wr (.slice pk nk ck) (X.getD k [])):=by rw[<- ek];exact (MR.out.keep TK.out.gr).vec k (by have:=HN.out;omega)
   clear ek hnk
   by_cases h64:(X.getD k []).length=64
   ·have RT:Hid (Calls Tryz.prog 90 #[.slice pk nk ck] wr fun e w'=>∃ p,e=.returned (.tuple #[.int .u64 ((SM.val (X.getD k []) 8:Nat):Int),.slice p 56 56,.int .i64 0])/\Own wr.heap.size w' (.slice p 56 56) ((X.getD k []).drop 8)/\wr.grownBy w' none):=take_yes VX.out h64
    have HLL:Hid ((CM.loads X k).length+((X.getD k []).drop 8).length<=140737488351232):=by
     show _<=_
     rw[CM.loads_len (k:=k) (by have:=HN.out;omega) (fun j hj=>(OK.out j hj).1),List.length_drop,h64];omega
    by_cases hgo:SM.val (X.getD k []) 8 ≠ 0/\(k=0\/SM.val (X.getD k []) 8=SM.val (X.getD 0 []) 8)
    ·have OK':Hid (CM.okTo X (k+1)):=okTo_more OK.out h64 hgo.1 hgo.2
     have SN:Hid (stAt X (k+1)=SM.val (X.getD k []) 8):=stAt_next hgo.2
     have HL:Hid (CM.loads X (k+1)=CM.loads X k++(X.getD k []).drop 8):=CM.loads_succ X (k:=k) (by have:=HN.out;omega)
     have HZ:Hid (SM.val (X.getD k []) 8 ≠ 0/\(stAt X k=0\/stAt X k=SM.val (X.getD k []) 8)):=⟨hgo.1,by
      unfold stAt
      by_cases e:k=0
      ·exact .inl (by rw[if_pos e])
      ·rcases hgo.2 with h | h
       ·exact absurd h e
       ·rw[if_neg e];exact .inr h.symm⟩
     clear h64 hgo OK VX
     generalize SM.val (X.getD k []) 8=V at *
     generalize stAt X k=S at *
     generalize (X.getD k []).drop 8=L at *
     generalize CM.loads X k=P at *
     go_wp2_with (first
      | (go_at_call 90;refine RT.out.mono ?_;rintro e w1 ⟨p,rfl,ou,g1⟩;have OU:Hid (Own wr.heap.size w1 (.slice p 56 56) L):=ou;have T1:Hid (Tak w0 A D w1 S d1 P):=TK.out.keep g1;clear ou g1)
      | (go_at_call 78;refine (tk_yes T1.out OU.out HLL.out HZ.out.1 HZ.out.2).mono ?_;rintro e w2 ⟨rfl,d2,t2⟩;have T2:Hid (Tak w0 A D w2 V d2 (P++L)):=t2;clear t2))
     go_roundw
     case rel=>exact⟨k+1,by omega,by go_num,OK',⟨d2,by rw[SN.out,HL.out];exact T2.out⟩⟩
     case measure=>simp[intOf];omega
    ·have HNO:Hid (¬ CM.okTo X X.length):=fun h=>by
      have h1:=h k (by have:=HN.out;omega)
      exact hgo ⟨h1.2.2,.inr h1.2.1⟩
     have HZ:Hid (SM.val (X.getD k []) 8=0\/(stAt X k ≠ 0/\stAt X k ≠ SM.val (X.getD k []) 8)):=by
      show _\/_
      by_cases e:SM.val (X.getD k []) 8=0
      ·exact .inl e
      ·refine .inr ?_
       have hk0:¬ k=0:=fun h=>hgo ⟨e,.inl h⟩
       have h2:¬ SM.val (X.getD k []) 8=SM.val (X.getD 0 []) 8:=fun h=>hgo ⟨e,.inr h⟩
       unfold stAt
       rw[if_neg hk0]
       exact⟨(OK.out 0 (by omega)).2.2,fun h=>h2 h.symm⟩
     clear h64 hgo OK VX
     generalize SM.val (X.getD k []) 8=V at *
     generalize stAt X k=S at *
     generalize (X.getD k []).drop 8=L at *
     generalize CM.loads X k=P at *
     go_wp2_with (first
      | (go_at_call 90;refine RT.out.mono ?_;rintro e w1 ⟨p,rfl,ou,g1⟩;have OU:Hid (Own wr.heap.size w1 (.slice p 56 56) L):=ou;have T1:Hid (Tak w0 A D w1 S d1 P):=TK.out.keep g1;clear ou g1)
      | (go_at_call 78;refine (tk_no T1.out OU.out HLL.out HZ.out).mono ?_;rintro e w2 ⟨rfl,g2⟩;have G2:Hid (w0.grownBy w2 none):=g2;clear g2))
     go_ret
     exact .inr ⟨HNO.out,rfl,G2.out⟩
   ·have HNO:Hid (¬ CM.okTo X X.length):=fun h=>h64 (h k (by have:=HN.out;omega)).1
    have hE:(takeE (X.getD k []) != 0)=true:=by
     unfold takeE
     rw[if_neg h64]
     split <;> decide
    have RT:Hid (Calls Tryz.prog 90 #[.slice pk nk ck] wr fun e w'=>∃ p k2,e=.returned (.tuple #[.int .u64 ((takeN (X.getD k []):Nat):Int),.slice p k2 k2,.int .i64 (takeE (X.getD k []))])/\wr.grownBy w' none):=(take_all VX.out).mono fun e w' ⟨p,k2,h1,_,h2⟩=>⟨p,k2,h1,h2⟩
    clear h64 VX
    generalize takeE (X.getD k [])=E at *
    generalize takeN (X.getD k [])=V at *
    go_wp2_with (go_at_call 90;refine RT.out.mono ?_;rintro e w1 ⟨p,k2,rfl,g1⟩;have G1:Hid (w0.grownBy w1 none):=grown_trans TK.out.gr g1;clear g1)
    go_ret
    exact .inr ⟨HNO.out,rfl,G1.out⟩
  ·have hkN:k=X.length:=by have:=HN.out;omega
   subst hkN
   go_wp2
   go_ret
   exact .inl ⟨OK.out,rfl,_,TK.out⟩
theorem tak_start {w w1:World} {v:Value} (o:Own (w.alloc (.cells #[.int .u64 0] 36)).heap.size w1 v []) (g:(w.alloc (.cells #[.int .u64 0] 36)).grownBy w1 none) :
 Tak w w.heap.size w1.heap.size (w1.alloc (.cells #[v] 26)) 0 v []:=by
 have h1:Boxed (w.alloc (.cells #[.int .u64 0] 36)) w.heap.size 36 (.int .u64 ((0:Nat):Int)):=Boxed.new w _ _
 have h2:=g.size
 simp at h2
 exact⟨(h1.kept g (by simp)).alloc _,Boxed.new w1 _ _,(o.down (by simp)).keep (World.grownBy_alloc _ _ none),Nat.le_refl _,by omega,gb_alloc (grown_trans (World.grownBy_alloc w _ none) g) _⟩
theorem yes_of {X:List (List Nat)} (h1:1<=X.length) (h2:X.length<=64) (h:CM.okTo X X.length):CM.yes X=true/\CM.tN X=stAt X X.length/\CM.tL X=CM.loads X X.length:=by
 have hy:=CM.yes_iff.2 ⟨h1,h2,h⟩
 exact⟨hy,by unfold CM.tN stAt;rw[if_pos hy,if_neg (by omega)],by unfold CM.tL;rw[if_pos hy]⟩
theorem no_of {X:List (List Nat)} (h:¬ CM.okTo X X.length):CM.yes X=false:=by
 cases e:CM.yes X with
 | false=>rfl
 | true=>exact absurd (CM.yes_iff.1 e).2.2 h
set_option maxHeartbeats 1600000 in
theorem cTake_any {w:World} {r:Value} {us:List Value} {X:List (List Nat)} (mr:Mat w r us X) :
 Calls Tryz.prog 60 #[r] w fun e w'=>∃ u,e=.returned (.tuple #[.int .u64 ((CM.tN X:Nat):Int),u,.bool (CM.yes X)])/\Own w.heap.size w' u (CM.tL X)/\w.grownBy w' none:=by
 obtain⟨q,N,cap,rfl,hN⟩:=mr.row.opened
 have hs:=mr.same
 have hNl:N<=140737488351232:=by have:=mr.row.len;omega
 by_cases h0:N < 1
 ·have i1:(N:Int) < 1:=by omega
  have hy:CM.yes X=false:=by unfold CM.yes;rw[show decide (1<=X.length)=false from decide_eq_false (by omega)];rfl
  rw[hy,tN_no hy,tL_no hy]
  clear h0 hN hs mr hy
  go_enter Tryz.func60,Tryz.ntmps60
  go_wp2
  go_ret3
  exact⟨_,rfl,Own.nil _ _,World.grownBy.refl _ _⟩
 ·by_cases h1:64 < N
  ·have i1:¬ (N:Int) < 1:=by omega
   have i2:(64:Int) < (N:Int):=by omega
   have hy:CM.yes X=false:=by unfold CM.yes;rw[show decide (X.length<=64)=false from decide_eq_false (by omega)];simp
   rw[hy,tN_no hy,tL_no hy]
   clear h0 h1 hN hs mr hy
   go_enter Tryz.func60,Tryz.ntmps60
   go_wp2
   go_ret3
   exact⟨_,rfl,Own.nil _ _,World.grownBy.refl _ _⟩
  ·have i1:¬ (N:Int) < 1:=by omega
   have i2:¬ (64:Int) < (N:Int):=by omega
   have MR:Hid (Mat w (.slice q N cap) us X):=mr
   have HN:Hid (N=us.length/\N=X.length/\1<=N/\N<=64):=⟨hN,by omega,by omega,by omega⟩
   clear hN hs mr h0 h1
   by_cases hok:CM.okTo X X.length
   ·have HY:Hid (CM.yes X=true/\CM.tN X=stAt X X.length/\CM.tL X=CM.loads X X.length):=yes_of (by have:=HN.out;omega) (by have:=HN.out;omega) hok
    rw[HY.out.1,HY.out.2.1,HY.out.2.2]
    have HW:Hid (∀ w2 A D v,Tak w A D w2 0 v []->Calls Tryz.prog 77 #[.slice q N cap,.func (.func 78) #[] #[.pointer (some ⟨A,0,none⟩),.pointer (some ⟨D,0,none⟩)]] w2 fun e w'=>e=.returned (.bool true)/\∃ dv',Tak w A D w' (stAt X X.length) dv' (CM.loads X X.length)):=fun w2 A D v T=>(walk_any MR.out T (by have:=HN.out;omega)).mono fun e w' h=>by
     rcases h with ⟨_,h1,h2⟩ | ⟨h1,_⟩
     ·exact⟨h1,h2⟩
     ·exact absurd hok h1
    clear HY hok
    generalize stAt X X.length=S at *
    generalize CM.loads X X.length=L at *
    go_enter Tryz.func60,Tryz.ntmps60
    go_wp2_with (first
     | (at_make;refine wpList_make_room rfl _ _ rfl (N * 56) rfl rfl (by omega) ?_;intro w1 o1 g1;have O1:Hid (Own (w.alloc (.cells #[.int .u64 0] 36)).heap.size w1 (.slice (some ⟨(w.alloc (.cells #[.int .u64 0] 36)).heap.size,0,none⟩) 0 (N * 56)) []):=o1;have G1:Hid ((w.alloc (.cells #[.int .u64 0] 36)).grownBy w1 none):=g1;clear o1 g1)
     | (go_at_call 77;have T1:=tak_start O1.out G1.out;rw[World.size_alloc] at T1;refine (HW.out _ _ _ _ T1).mono ?_;clear T1;rintro e w3 ⟨rfl,d3,t3⟩;have T3:Hid (Tak w w.heap.size w1.heap.size w3 S d3 L):=t3;clear t3))
    have HC:Hid (∀ w',w3.grownBy w' none->w'.cell? ⟨w.heap.size,0,none⟩=some (.int .u64 (S:Int))/\w'.cell? ⟨w1.heap.size,0,none⟩=some d3):=fun w' g=>⟨g.cell T3.out.ca.cell (by simp),g.cell T3.out.cd.cell (by simp)⟩
    go_region_held3 (fun w'=>w'.cell? ⟨w.heap.size,0,none⟩=some (.int .u64 (S:Int))/\w'.cell? ⟨w1.heap.size,0,none⟩=some d3) (first | exact HC.out _ (grown_drewN _ 1)) (fail)
    go_wp2
    go_ret3
    exact⟨_,rfl,T3.out.own.keep (grown_drewN _ 1),gb_drew T3.out.gr⟩
   ·have HY:Hid (CM.yes X=false):=no_of hok
    rw[HY.out,tN_no HY.out,tL_no HY.out]
    have HW:Hid (∀ w2 A D v,Tak w A D w2 0 v []->Calls Tryz.prog 77 #[.slice q N cap,.func (.func 78) #[] #[.pointer (some ⟨A,0,none⟩),.pointer (some ⟨D,0,none⟩)]] w2 fun e w'=>e=.returned (.bool false)/\w.grownBy w' none):=fun w2 A D v T=>(walk_any MR.out T (by have:=HN.out;omega)).mono fun e w' h=>by
     rcases h with ⟨h1,_⟩ | ⟨_,h1⟩
     ·exact absurd h1 hok
     ·exact h1
    clear HY hok
    go_enter Tryz.func60,Tryz.ntmps60
    go_wp2_with (first
     | (at_make;refine wpList_make_room rfl _ _ rfl (N * 56) rfl rfl (by omega) ?_;intro w1 o1 g1;have O1:Hid (Own (w.alloc (.cells #[.int .u64 0] 36)).heap.size w1 (.slice (some ⟨(w.alloc (.cells #[.int .u64 0] 36)).heap.size,0,none⟩) 0 (N * 56)) []):=o1;have G1:Hid ((w.alloc (.cells #[.int .u64 0] 36)).grownBy w1 none):=g1;clear o1 g1)
     | (go_at_call 77;have T1:=tak_start O1.out G1.out;rw[World.size_alloc] at T1;refine (HW.out _ _ _ _ T1).mono ?_;clear T1;rintro e w3 ⟨rfl,t3⟩;have T3:Hid (w.grownBy w3 none):=t3;clear t3))
    go_ret3
    exact⟨_,rfl,Own.nil _ _,T3.out⟩
theorem whole_any {w:World} {r:Value} {us:List Value} {X:List (List Nat)} (n:Nat) (mr:Mat w r us X) :
 Calls Tryz.prog 85 #[r,.int .u64 (n:Int)] w fun e w'=>e=.returned (.bool (CM.yes X&&decide (CM.tN X=n)))/\w.grownBy w' none:=by
 have HT:Hid (∀ s,s=r->Calls Tryz.prog 60 #[s] w fun e w'=>∃ u,e=.returned (.tuple #[.int .u64 ((CM.tN X:Nat):Int),u,.bool (CM.yes X)])/\w.grownBy w' none):=fun s e=>by subst e;exact (cTake_any mr).mono fun e w' ⟨u,h1,_,h2⟩=>⟨u,h1,h2⟩
 have HC:Hid (decide (CM.tN X=n)=(((CM.tN X:Nat):Int)==(n:Int))):=by
  show _=_
  by_cases e:CM.tN X=n
  ·rw[decide_eq_true e,eqb_yes e]
  ·rw[decide_eq_false e,eqb_no e]
 rw[HC.out]
 clear mr HC
 generalize CM.tN X=T at *
 generalize CM.yes X=Y at *
 cases Y
 ·go_enter Tryz.func85,Tryz.ntmps85
  go_wp2_with (go_at_call 60;refine (HT.out _ rfl).mono ?_;rintro e w1 ⟨u,rfl,g1⟩)
  go_ret
  exact⟨rfl,g1⟩
 ·go_enter Tryz.func85,Tryz.ntmps85
  go_wp2_with (go_at_call 60;refine (HT.out _ rfl).mono ?_;rintro e w1 ⟨u,rfl,g1⟩)
  go_ret
  exact⟨by simp,g1⟩
set_option maxHeartbeats 1600000 in
theorem cPut_any {w:World} {n:Nat} {v:Value} {xs:List Nat} (hv:Vec w v xs) :
 Calls Tryz.prog 71 #[.int .u64 (n:Int),v] w fun e w'=>∃ u us,e=.returned (.tuple #[u,.int .i64 (CM.putE n xs)])/\RMat 78 w.heap.size w' u us (CM.putS n xs)/\w.grownBy w' none:=by
 obtain⟨q,N,cap,rfl,hN⟩:=hv.opened
 have hNl:N<=140737488351232:=by rw[hN];exact hv.len
 by_cases h0:n=0
 ·have i0:((n:Int)==0)=true:=eqb_yes (b:=0) h0
  have hE:CM.putE n xs=1:=by simp[CM.putE,h0]
  have hS:CM.putS n xs=[]:=by simp[CM.putS,CM.fit,h0]
  rw[hE,hS]
  clear hv hN h0 hE hS
  go_enter Tryz.func71,Tryz.ntmps71
  go_wp2
  go_ret2
  exact⟨_,_,rfl,RMat.nil _ _ _,World.grownBy.refl _ _⟩
 ·have i0:((n:Int)==0)=false:=eqb_no (b:=0) h0
  by_cases h1:N=0
  ·have i1:((N:Int)==0)=true:=eqb_yes (b:=0) h1
   have hx:xs.length=0\/xs.length % 56 ≠ 0:=by omega
   have hE:CM.putE n xs=4:=by unfold CM.putE;rw[if_neg h0,if_pos hx]
   have hS:CM.putS n xs=[]:=by unfold CM.putS;rw[if_neg (fun h=>by have:=CM.fit_iff.1 h;omega)]
   rw[hE,hS]
   clear hv hN h0 hE hS h1 hx
   go_enter Tryz.func71,Tryz.ntmps71
   go_wp2
   go_ret2
   exact⟨_,_,rfl,RMat.nil _ _ _,World.grownBy.refl _ _⟩
  ·have i1:((N:Int)==0)=false:=eqb_no (b:=0) h1
   obtain⟨r,hr⟩:∃ r,r=N % 56:=⟨_,rfl⟩
   have hq:(N:Int) % 56=(r:Int):=by omega
   by_cases h2:r=0
   ·have i2:((r:Int) != 0)=false:=neb_no (b:=0) h2
    have hx:¬ (xs.length=0\/xs.length % 56 ≠ 0):=by omega
    by_cases h3:3584 < N
    ·have i3:(3584:Int) < (N:Int):=by omega
     have hE:CM.putE n xs=3:=by unfold CM.putE;rw[if_neg h0,if_neg hx,if_pos (by omega)]
     have hS:CM.putS n xs=[]:=by unfold CM.putS;rw[if_neg (fun h=>by have:=CM.fit_iff.1 h;omega)]
     rw[hE,hS]
     clear hv hN h0 hE hS h1 hx h2 h3 hr
     go_enter Tryz.func71,Tryz.ntmps71
     go_wp2
     go_ret2
     exact⟨_,_,rfl,RMat.nil _ _ _,World.grownBy.refl _ _⟩
    ·have i3:¬ (3584:Int) < (N:Int):=by omega
     have hf:CM.fit n xs=true:=CM.fit_iff.2 ⟨h0,by omega,by omega,by omega⟩
     have hE:CM.putE n xs=0:=(CM.putE_fit n xs).2 hf
     have hS:CM.putS n xs=CM.secs n xs (N / 56):=by unfold CM.putS;rw[if_pos hf,<- hN]
     rw[hE,hS]
     obtain⟨b,off,rfl,_⟩:=hv.spot (k:=0) (by omega)
     have hcap:N<=cap:=by
      obtain⟨p',cap',e,h3,_⟩:=hv.form
      injection e with e1 e2 e3
      omega
     have HC:Hid (Calls Tryz.prog 87 #[.int .u64 (n:Int),.slice (some ⟨b,off,none⟩) N cap] w fun e w'=>∃ u us,e=.returned u/\RMat 78 w.heap.size w' u us (CM.secs n xs (N / 56))/\w.grownBy w' none) :=
      cut_any hv (by omega) (by omega) (by omega) (by omega) hcap
     clear hv hN h0 hE hS h1 hx h2 h3 hr hf hcap
     generalize CM.secs n xs (N / 56)=S at *
     go_enter Tryz.func71,Tryz.ntmps71
     go_wp2_with (go_at_call 87;refine HC.out.mono ?_;rintro e w1 ⟨u,us,rfl,m1,g1⟩;have M1:Hid (RMat 78 w.heap.size w1 u us S):=m1;have G1:Hid (w.grownBy w1 none):=g1;clear m1 g1)
     go_ret2
     exact⟨_,_,rfl,M1.out,G1.out⟩
   ·have i2:((r:Int) != 0)=true:=neb_yes (b:=0) h2
    have hx:xs.length=0\/xs.length % 56 ≠ 0:=by omega
    have hE:CM.putE n xs=4:=by unfold CM.putE;rw[if_neg h0,if_pos hx]
    have hS:CM.putS n xs=[]:=by unfold CM.putS;rw[if_neg (fun h=>by have:=CM.fit_iff.1 h;omega)]
    rw[hE,hS]
    clear hv hN h0 hE hS h1 hx h2 hr
    go_enter Tryz.func71,Tryz.ntmps71
    go_wp2
    go_ret2
    exact⟨_,_,rfl,RMat.nil _ _ _,World.grownBy.refl _ _⟩
set_option linter.unusedSimpArgs false
set_option linter.unusedVariables false
theorem Upd.cell {F:Nat->Prop} {w w':World} {b j:Nat} {v:Value} (u:Upd F w w') (hc:w.cell? ⟨b,j,none⟩=some v) (hn:¬ F b):w'.cell? ⟨b,j,none⟩=some v:=by
 have hlt:=World.block_lt_of_cell? w _ hc
 rw[World.cell?_of_block (w:=w) (u.block b hlt hn)]
 exact hc
theorem writes_len8 (R:AM.Raw) (d k:Int) (b:List Nat):(R.writes d k b).2.L.length<=R.L.length+1:=by
 have hb:R.burnt.L=R.L:=by unfold AM.Raw.burnt;split <;> rfl
 unfold AM.Raw.writes
 split
 ·simp
 ·split
  ·simp
  ·split
   ·simp[hb]
   ·simp[AM.Raw.fly,hb]
theorem layTo_len (R:AM.Raw) (g:SP.Geo) (slot d:Nat) (S:List (List Nat)):∀ j,(SP.layTo R g slot d S j).2.L.length<=R.L.length+j
 | 0=>by simp[SP.layTo]
 | j+1=>by
   have:=layTo_len R g slot d S j
   unfold SP.layTo
   split
   ·have:=writes_len8 (SP.layTo R g slot d S j).2 (d:Int) ((g.f+8 * slot+j:Nat):Int) (S.getD j [])
    omega
   ·omega
section
variable {F F':Nat->Prop} {w w':World} {s a:Nat} {g:SP.Geo} {R R':AM.Raw}
set_option maxHeartbeats 3200000 in
theorem slay_any (h:SI F w s a g R) {d slot m:Nat} {v:Value} {part:List Nat} (hs:slot < g.s) (hv:Vec w v part) (hm:m ≠ 0) (hp:part.length=448) (hL:R.L.length<=999000) :
 Calls Tryz.prog 55 #[ptr s,.int .i64 (d:Int),.int .i64 (slot:Int),.int .u64 (m:Int),v] w fun e w'=>e=.returned (.int .i64 ((SP.lays R g slot d m part).1:Int))/\∃ F',SI F' w' s a g (SP.lays R g slot d m part).2/\Step F w F' w':=by
 have H:Hid (SI F w s a g R):=h
 have hf:CM.fit m part=true:=CM.fit_iff.2 ⟨hm,by omega,by omega,by omega⟩
 have hE:CM.putE m part=0:=(CM.putE_fit m part).2 hf
 have hS:CM.putS m part=CM.secs m part 8:=by unfold CM.putS;rw[if_pos hf,hp]
 have RP:Hid (Calls Tryz.prog 71 #[.int .u64 (m:Int),v] w fun e w'=>∃ u us,e=.returned (.tuple #[u,.int .i64 0])/\RMat 78 w.heap.size w' u us (CM.secs m part 8)/\w.grownBy w' none):=by
  have:=cPut_any (n:=m) hv
  rw[hE,hS] at this
  exact this
 have HN:Hid (slot < g.s/\R.L.length<=999000/\g.f+8 * slot+8<=4096):=⟨hs,hL,by have:=h.ok.room;have:=h.i.ok.n2;omega⟩
 have HK:Hid (∀ j,SP.Kept R (SP.layTo R g slot d (CM.secs m part 8) j).2):=SP.layTo_kept R g slot d (CM.secs m part 8)
 have HLL:Hid (∀ j,(SP.layTo R g slot d (CM.secs m part 8) j).2.L.length<=R.L.length+j):=layTo_len R g slot d (CM.secs m part 8)
 unfold SP.lays
 have HX:Hid (∀ j,j < 8->(SP.layTo R g slot d (CM.secs m part 8) j).1=0->SP.layTo R g slot d (CM.secs m part 8) (j+1)=(SP.layTo R g slot d (CM.secs m part 8) j).2.writes (d:Int) ((g.f+8 * slot+j:Nat):Int) ((CM.secs m part 8).getD j [])):=fun j _ h0=>SP.layTo_succ h0
 have HY:Hid (∀ j,j<=8->(SP.layTo R g slot d (CM.secs m part 8) j).1 ≠ 0->SP.layTo R g slot d (CM.secs m part 8) 8=SP.layTo R g slot d (CM.secs m part 8) j):=fun j hj h0=>SP.layTo_stop h0 8 hj
 have HX0:Hid (SP.layTo R g slot d (CM.secs m part 8) 0=(0,R)):=rfl
 have HSL:Hid ((CM.secs m part 8).length=8):=CM.secs_len _ _ _
 clear h hf hE hS hv hm hp hL hs
 generalize SP.layTo R g slot d (CM.secs m part 8)=LT at *
 generalize CM.secs m part 8=S at *
 go_enter Tryz.func55,Tryz.ntmps55
 go_wp2_with (go_at_call 71;refine RP.out.mono ?_;rintro e w1 ⟨u,us,rfl,m1,g1⟩;have hs8:=m1.same;obtain⟨q,N,cap,rfl,hN⟩:=m1.mat.row.opened;have M1:Hid (RMat 78 w.heap.size w1 (.slice q N cap) us S):=m1;have G1:Hid (w.grownBy w1 none):=g1;have HNN:Hid (N=8/\us.length=8):=⟨by have:=HSL.out;omega,by have:=HSL.out;omega⟩;have hN8:N=8:=HNN.out.1;clear m1 g1 hs8 hN)
 subst hN8
 have S1:Hid (SI F w1 s a g R):=H.out.keep G1.out
 clear RP
 go_loopw [27] (fun ti wr=>∃ k:Nat,k<=8/\ti=.int .i64 k/\Hid ((LT k).1=0)/\Hid (∃ F',SI F' wr s a g (LT k).2/\Step F w1 F' wr)) (fun ti _=>8 - (intOf ti).toNat)
 case atStart=>exact⟨0,by omega,rfl,(by show _=_;rw[HX0.out]),⟨F,by rw[HX0.out];exact S1.out,Step.refl _ _⟩⟩
 case round =>
  clear S1
  obtain⟨k,hk,rfl,OK,HR⟩:=hrel
  obtain⟨F1,i1,st1⟩:=HR.out
  have I1:Hid (SI F1 wr s a g (LT k).2):=i1
  have T1:Hid (Step F w1 F1 wr):=st1
  clear HR i1 st1
  by_cases hlt:k < 8
  ·have i4:(k:Int) < 8:=by omega
   have i5:(0:Int)<=(k:Int):=by omega
   obtain⟨b0,off,rfl,hr0⟩:=M1.out.mat.row.spot (k:=k) (by have:=HNN.out;omega)
   obtain⟨pk,nk,ck,ek,hnk⟩:=(M1.out.mat.vec k (by have:=HSL.out;omega)).opened
   have hbk:¬ F b0:=fun hf=>by
    have h1:=M1.out.lo b0 rfl
    have h2:=H.out.i.lt b0 hf
    omega
   have hr:=T1.out.upd.cell hr0 hbk
   have AV:Hid (Aw F1 wr (.slice pk nk ck) (S.getD k [])):=by
    have hv:=M1.out.vec k (by have:=HSL.out;omega)
    rw[ek] at hv
    have a0:Aw F w1 (.slice pk nk ck) (S.getD k []):=⟨hv.vec,fun _ g' hg' hf=>by
     have h1:=hv.lo g' hg'
     have h2:=H.out.i.lt g' hf
     omega⟩
    exact a0.step T1.out
   rw[ek] at hr
   clear hr0 ek hnk hbk
   have GW:Hid (wr.grownBy (wr.drewN 1) none):=grown_drewN wr 1
   obtain⟨b,hb⟩:∃ b,b=g.f+8 * slot:=⟨_,rfl⟩
   obtain⟨z,hz⟩:∃ z,z=g.f+8 * slot+k:=⟨_,rfl⟩
   have HB:Hid (Calls Tryz.prog 73 #[ptr s,.int .i64 (slot:Int)] (wr.drewN 1) fun e w'=>e=.returned (.int .i64 (b:Int))/\w'=wr.drewN 1):=by
    rw[hb];exact sbegin_yes (I1.out.keep GW.out) HN.out.1
   have hw:IntKind.i64.wrap ((b:Int)+(k:Int))=(z:Int):=by
    have e:(b:Int)+(k:Int)=(z:Int):=by omega
    have:=HN.out.2.2
    rw[e]
    exact IntWalk.i64_in _ (by omega)
   obtain⟨c,hc⟩:∃ c,c=(LT (k+1)).1:=⟨_,rfl⟩
   have WR:Hid (Calls Tryz.prog 72 #[ptr a,.int .i64 (d:Int),.int .i64 (z:Int),.slice pk nk ck] (wr.drewN 1) fun e w'=>e=.returned (.int .i64 (c:Int))/\∃ F',SI F' w' s a g (LT (k+1)).2/\Step F w1 F' w'):=by
    have h1:=write_at (d:=(d:Int)) (k:=(z:Int)) (I1.out.keep GW.out).i (AV.out.keep GW.out) (by have h1:=HLL.out k;have h2:=HN.out.2.1;omega) rfl rfl
    have hx:=HX.out k hlt OK.out
    rw[hz]
    rw[hz,<- hx,<- hc] at h1
    refine h1.mono ?_
    rintro e w9 ⟨rfl,F9,i9,s9⟩
    exact⟨rfl,F9,(I1.out.keep GW.out).step i9 s9 (H.out.ok.kept (HK.out (k+1))),(T1.out.trans (Step.new GW.out)).trans s9⟩
   have HCE:Hid (c=(LT (k+1)).1):=hc
   have HC:Hid (wr.cell? ⟨s,0,none⟩=some (ptr a)):=I1.out.at1
   have HC1:Hid ((wr.drewN 1).cell? ⟨s,0,none⟩=some (ptr a)):=(I1.out.keep GW.out).at1
   clear hb hz hc AV GW
   by_cases h0:c=0
   ·subst h0
    go_wp2_with fail
    go_region_held3 (fun w'=>w'.cell? ⟨s,0,none⟩=some (ptr a)) (first | exact HC1.out | exact I2.out.at1)
     ((first
       | (go_at_call 73;refine HB.out.mono ?_;rintro e w9 ⟨rfl,hw9⟩;obtain rfl:=hw9.symm;clear hw9)
       | (go_at_call 72;refine WR.out.mono ?_;rintro e w2 ⟨rfl,F2,i2,st2⟩;have I2:Hid (SI F2 w2 s a g (LT (k+1)).2):=i2;have T2:Hid (Step F w1 F2 w2):=st2;clear i2 st2)))
    go_wp2
    go_roundw
    case rel=>exact⟨k+1,by omega,by go_num,HCE.out.symm,⟨F2,I2.out,T2.out⟩⟩
    case measure=>simp[intOf];omega
   ·have hne:((c:Int) != 0)=true:=neb_yes (b:=0) h0
    have HEQ:Hid (LT 8=LT (k+1)):=HY.out (k+1) (by omega) (by rw[<- HCE.out];exact h0)
    go_wp2_with fail
    go_region_held3 (fun w'=>w'.cell? ⟨s,0,none⟩=some (ptr a)) (first | exact HC1.out | exact I2.out.at1)
     ((first
       | (go_at_call 73;refine HB.out.mono ?_;rintro e w9 ⟨rfl,hw9⟩;obtain rfl:=hw9.symm;clear hw9)
       | (go_at_call 72;refine WR.out.mono ?_;rintro e w2 ⟨rfl,F2,i2,st2⟩;have I2:Hid (SI F2 w2 s a g (LT (k+1)).2):=i2;have T2:Hid (Step F w1 F2 w2):=st2;clear i2 st2)))
    go_wp2
    go_ret
    rw[HEQ.out,<- HCE.out]
    exact⟨rfl,F2,I2.out,(Step.new G1.out).trans T2.out⟩
  ·obtain rfl:k=8:=by omega
   go_wp2
   go_ret
   rw[OK.out]
   exact⟨rfl,F1,I1.out,(Step.new G1.out).trans T1.out⟩
end
section
variable {F F':Nat->Prop} {w w':World} {s a:Nat} {g:SP.Geo} {R R':AM.Raw}
theorem schunk_any {B:Nat} (h:SI F w s a g R) (h0:R.off=false) {d slot:Nat} (hd:d < g.n) (hs:slot < g.s) {v:Value} {us:List Value} (hm:Mat w v us (SP.sects R g slot d)) (hB:B<=w.heap.size) :
 Calls Tryz.prog 60 #[v] w fun e w'=>∃ u,e=.returned (.tuple #[.int .u64 ((SP.numD R g slot d:Nat):Int),u,.bool (SP.yesD R g slot d)])/\Own B w' u (SP.datD R g slot d)/\w.grownBy w' none:=by
 refine (cTake_any hm).mono ?_
 rintro e w' ⟨u,rfl,h1,h2⟩
 exact⟨u,rfl,h1.down hB,h2⟩
set_option maxHeartbeats 3200000 in
theorem swalk_any {w0:World} {B:Nat} (h0:R.off=false) {slot:Nat} (hs:slot < g.s) {f:Nat} {cap:Array Value} (hf:∀ args w,(callFunc f args).run Tryz.prog w=.ok (.enter f args) w)
 (I:Nat->World->Prop) (J:World->Prop) (c:Nat->Bool)
 (hI:∀ j w',I j w'->SI F w' s a g R) (hB:∀ j w',I j w'->B<=w'.heap.size)
 (hK:∀ j w1 w2,I j w1->w1.grownBy w2 none->I j w2)
 (hskip:∀ j w',j < g.n->SP.yesD R g slot j=false->I j w'->I (j+1) w')
 (hstep:∀ j w' v,j < g.n->SP.yesD R g slot j=true->I j w'->Own B w' v (SP.datD R g slot j)->Calls Tryz.prog f (#[.int .i64 (j:Int),.int .u64 ((SP.numD R g slot j:Nat):Int),v]++cap) w' fun e w''=>e=.returned (.bool (c j))/\(if c j=true then I (j+1) w'' else J w''))
 (hi:I 0 w0) :
 Calls Tryz.prog 43 #[ptr s,.int .i64 (slot:Int),.func (.func f) #[] cap] w0 fun e w'=>e=.returned (.tuple #[])/\(I g.n w'\/J w'):=by
 have HN:Hid (R.off=false/\slot < g.s):=⟨h0,hs⟩
 have HI:Hid (∀ j w',I j w'->SI F w' s a g R):=hI
 have HB:Hid (∀ j w',I j w'->B<=w'.heap.size):=hB
 have HK:Hid (∀ j w1 w2,I j w1->w1.grownBy w2 none->I j w2):=hK
 have HS:Hid (∀ j w',j < g.n->SP.yesD R g slot j=false->I j w'->I (j+1) w'):=hskip
 have HT:Hid (∀ j w' v,j < g.n->SP.yesD R g slot j=true->I j w'->Own B w' v (SP.datD R g slot j)->Calls Tryz.prog f (#[.int .i64 (j:Int),.int .u64 ((SP.numD R g slot j:Nat):Int),v]++cap) w' fun e w''=>e=.returned (.bool (c j))/\(if c j=true then I (j+1) w'' else J w'')):=hstep
 have H0:Hid (I 0 w0):=hi
 have c2:=(HI.out 0 w0 H0.out).at3
 have hn255:g.n<=255:=(HI.out 0 w0 H0.out).ok.n255
 clear h0 hs hI hB hK hskip hstep hi
 go_enter Tryz.func43,Tryz.ntmps43
 go_wp2_with fail
 clear c2
 go_loopw [15] (fun ti wr=>∃ k:Nat,k<=g.n/\ti=.int .i64 k/\Hid (I k wr)) (fun ti _=>g.n - (intOf ti).toNat)
 case atStart=>exact⟨0,by omega,rfl,H0⟩
 case round =>
  clear H0
  obtain⟨k,hk,rfl,IK⟩:=hrel
  by_cases hlt:k < g.n
  ·have i4:(k:Int) < (g.n:Int):=by omega
   have SE:=ssectors_any (HI.out k wr IK.out) HN.out.1 hlt HN.out.2
   have TK:Hid (∀ w1 v us,wr.grownBy w1 none->Mat w1 v us (SP.sects R g slot k)->Calls Tryz.prog 60 #[v] w1 fun e w'=>∃ u,e=.returned (.tuple #[.int .u64 ((SP.numD R g slot k:Nat):Int),u,.bool (SP.yesD R g slot k)])/\Own B w' u (SP.datD R g slot k)/\w1.grownBy w' none) :=
    fun w1 v us g1 m1=>schunk_any ((HI.out k wr IK.out).keep g1) HN.out.1 hlt HN.out.2 m1 (Nat.le_trans (HB.out k wr IK.out) g1.size)
   have SEC:Hid (Calls Tryz.prog 61 #[ptr s,.int .i64 (k:Int),.int .i64 (slot:Int)] wr fun e w'=>∃ v us,e=.returned v/\Mat w' v us (SP.sects R g slot k)/\wr.grownBy w' none):=SE
   clear SE
   have ST:Hid (SP.yesD R g slot k=true->∀ w' v,I k w'->Own B w' v (SP.datD R g slot k)->Calls Tryz.prog f (#[.int .i64 (k:Int),.int .u64 ((SP.numD R g slot k:Nat):Int),v]++cap) w' fun e w''=>e=.returned (.bool (c k))/\(if c k=true then I (k+1) w'' else J w'')):=fun hy w' v=>HT.out k w' v hlt hy
   have SK:Hid (SP.yesD R g slot k=false->∀ w',I k w'->I (k+1) w'):=fun hy w'=>HS.out k w' hlt hy
   generalize SP.sects R g slot k=X at *
   generalize SP.numD R g slot k=Nm at *
   generalize SP.datD R g slot k=Dt at *
   generalize SP.yesD R g slot k=Ys at *
   cases Ys
   ·go_wp2_with (first
     | (go_at_call 61;refine SEC.out.mono ?_;rintro e w1 ⟨v,us,rfl,m1,g1⟩;obtain⟨q,N,cp,rfl,hN⟩:=m1.row.opened;have M1:Hid (Mat w1 (.slice q N cp) us X):=m1;have G1:Hid (wr.grownBy w1 none):=g1;clear m1 g1 hN)
     | (go_at_call 60;refine (TK.out _ _ _ G1.out M1.out).mono ?_;rintro e w2 ⟨u,rfl,o2,g2⟩;obtain⟨p2,n2,c2,rfl,hn2⟩:=o2.vec.opened;have G2:Hid (wr.grownBy w2 none):=grown_trans G1.out g2;clear o2 g2 hn2))
    go_roundw
    case rel=>exact⟨k+1,by omega,by go_num,SK.out (by first | rfl | trivial) _ (HK.out _ _ _ IK.out G2.out)⟩
    case measure=>simp[intOf];omega
   ·go_wp2_with (first
     | (go_at_call 61;refine SEC.out.mono ?_;rintro e w1 ⟨v,us,rfl,m1,g1⟩;obtain⟨q,N,cp,rfl,hN⟩:=m1.row.opened;have M1:Hid (Mat w1 (.slice q N cp) us X):=m1;have G1:Hid (wr.grownBy w1 none):=g1;clear m1 g1 hN)
     | (go_at_call 60;refine (TK.out _ _ _ G1.out M1.out).mono ?_;rintro e w2 ⟨u,rfl,o2,g2⟩;obtain⟨p2,n2,c2,rfl,hn2⟩:=o2.vec.opened;have O2:Hid (Own B w2 (.slice p2 n2 c2) Dt):=o2;have G2:Hid (wr.grownBy w2 none):=grown_trans G1.out g2;clear o2 g2 hn2)
     | fail)
    refine (ST.out (by first | rfl | trivial) _ _ (HK.out _ _ _ IK.out G2.out) O2.out).mono ?_
    rintro e w3 ⟨rfl,h3⟩
    have H3:Hid (if c k=true then I (k+1) w3 else J w3):=h3
    clear h3
    obtain⟨b,hb⟩:∃ b,b=c k:=⟨_,rfl⟩
    rw[<- hb] at H3 ⊢
    clear hb
    cases b
    ·go_wp2
     refine bodyPost_ret (results_none rfl _ _ _) rfl ?_
     exact⟨rfl,.inr (by have:=H3.out;simpa using this)⟩
    ·go_wp2
     go_roundw
     case rel=>exact⟨k+1,by omega,by go_num,(by show I (k+1) w3;have:=H3.out;simpa using this)⟩
     case measure=>simp[intOf];omega
  ·have i4:¬ (k:Int) < (g.n:Int):=by omega
   have hkn:Hid (k=g.n):=by show _=_;omega
   go_wp2
   go_end0
   exact⟨rfl,.inl (by have:=IK.out;rwa [hkn.out] at this)⟩
end
def mayI (k n:Int):Bool:=decide (1<=k)&&(decide (k < n)&&decide (n<=255))
theorem mayI_iff {k n:Int}:mayI k n=true ↔ 1<=k/\k < n/\n<=255:=by unfold mayI;simp
theorem mayI_not {k n:Int} (h:¬ (1<=k/\k < n/\n<=255)):mayI k n=false:=by
 rw[Bool.eq_false_iff]
 exact fun e=>h (mayI_iff.1 e)
theorem codeMay_any (k n:Int) (w:World):Calls Tryz.prog 50 #[.int .i64 k,.int .i64 n] w fun e w'=>e=.returned (.bool (mayI k n))/\w'=w:=by
 by_cases h1:1<=k
 ·by_cases h2:k < n
  ·by_cases h3:n<=255
   ·have HE:Hid (mayI k n=true):=mayI_iff.2 ⟨by omega,h2,by omega⟩
    go_enter Tryz.func50,Tryz.ntmps50
    go_wp2
    go_ret
    exact⟨by rw[HE.out];first | rfl | (rw[decide_eq_true h3]),rfl⟩
   ·have HE:Hid (mayI k n=false):=mayI_not (by omega)
    go_enter Tryz.func50,Tryz.ntmps50
    go_wp2
    go_ret
    exact⟨by rw[HE.out];first | rfl | (rw[decide_eq_false h3]),rfl⟩
  ·have HE:Hid (mayI k n=false):=mayI_not (by omega)
   go_enter Tryz.func50,Tryz.ntmps50
   go_wp2
   go_ret
   exact⟨by rw[HE.out];rfl,rfl⟩
 ·have HE:Hid (mayI k n=false):=mayI_not (by omega)
  go_enter Tryz.func50,Tryz.ntmps50
  go_wp2
  go_ret
  exact⟨by rw[HE.out];rfl,rfl⟩
theorem refMay4_any (k n:Int) (w:World):Calls Tryz.prog 52 #[.int .i64 k,.int .i64 n] w fun e w'=>e=.returned (.bool (mayI k n))/\w'=w:=by
 by_cases h1:0 < k
 ·by_cases h2:k < n
  ·by_cases h3:n < 256
   ·have HE:Hid (mayI k n=true):=mayI_iff.2 ⟨by omega,h2,by omega⟩
    go_enter Tryz.func52,Tryz.ntmps52
    go_wp2
    go_ret
    exact⟨by rw[HE.out];first | rfl | (rw[decide_eq_true h3]),rfl⟩
   ·have HE:Hid (mayI k n=false):=mayI_not (by omega)
    go_enter Tryz.func52,Tryz.ntmps52
    go_wp2
    go_ret
    exact⟨by rw[HE.out];first | rfl | (rw[decide_eq_false h3]),rfl⟩
  ·have HE:Hid (mayI k n=false):=mayI_not (by omega)
   go_enter Tryz.func52,Tryz.ntmps52
   go_wp2
   go_ret
   exact⟨by rw[HE.out];rfl,rfl⟩
 ·have HE:Hid (mayI k n=false):=mayI_not (by omega)
  go_enter Tryz.func52,Tryz.ntmps52
  go_wp2
  go_ret
  exact⟨by rw[HE.out];rfl,rfl⟩
def evenB (X:List (List Nat)):Bool:=(List.range X.length).all fun j=>(X.getD j []).length==(X.getD 0 []).length
theorem evenB_iff {X:List (List Nat)}:evenB X=true ↔ ∀ j,j < X.length->(X.getD j []).length=(X.getD 0 []).length:=by
 unfold evenB
 simp only[List.all_eq_true,List.mem_range,beq_iff_eq]
theorem evenB_not {X:List (List Nat)} {j:Nat} (hj:j < X.length) (h:(X.getD j []).length ≠ (X.getD 0 []).length):evenB X=false:=by
 rw[Bool.eq_false_iff]
 exact fun e=>h (evenB_iff.1 e j hj)
theorem even_shape {X:List (List Nat)} (h:evenB X=true):Shape X X.length (X.getD 0 []).length:=⟨rfl,evenB_iff.1 h⟩
set_option maxHeartbeats 1600000 in
theorem asLong_any {w:World} {r:Value} {vs:List Value} {X:List (List Nat)} (mr:Mat w r vs X) :
 Calls Tryz.prog 62 #[r] w fun e w'=>e=.returned (.bool (evenB X))/\w'=w:=by
 obtain⟨q,N,cap,rfl,hN⟩:=mr.row.opened
 have hs:=mr.same
 have hNl:N<=140737488351232:=by have:=mr.row.len;omega
 by_cases h0:N=0
 ·subst h0
  have HE:Hid (evenB X=true):=evenB_iff.2 fun j hj=>by omega
  clear hN hs mr
  go_enter Tryz.func62,Tryz.ntmps62
  go_wp2_with fail
  go_loop [7] (fun ti=>ti=.int .i64 0) (fun _=>0)
  case atStart=>exact rfl
  case round =>
   obtain rfl:=hrel
   go_wp2
   go_ret
   exact⟨by rw[HE.out];rfl,rfl⟩
 ·obtain⟨b,off,rfl,hc⟩:=mr.row.spot (k:=0) (by omega)
  obtain⟨p0,n0,c0,e0,hn0⟩:=(mr.vec 0 (by omega)).opened
  rw[e0,Nat.add_zero] at hc
  have HN:Hid (N=X.length/\n0=(X.getD 0 []).length):=⟨by omega,hn0⟩
  have MR:Hid (Mat w (.slice (some ⟨b,off,none⟩) N cap) vs X):=mr
  have hN0:(0:Int) < (N:Int):=by omega
  clear e0 hn0 hN hs mr
  go_enter Tryz.func62,Tryz.ntmps62
  go_wp2_with fail
  go_loop [7] (fun ti=>∃ k:Nat,k<=N/\ti=.int .i64 k/\Hid (∀ j,j < k->(X.getD j []).length=n0)) (fun ti=>N - (intOf ti).toNat)
  case atStart=>exact⟨0,by omega,rfl,fun j hj=>by omega⟩
  case round =>
   obtain⟨k,hk,rfl,HA⟩:=hrel
   by_cases hlt:k < N
   ·obtain⟨b1,o1,e1,hr⟩:=MR.out.row.spot (k:=k) (by have:=HN.out;have:=MR.out.same;omega)
    obtain⟨rfl,rfl⟩:b=b1/\off=o1:=by
     injection e1 with e1
     injection e1 with e2 e3
     exact⟨e2,e3⟩
    obtain⟨pk,nk,ck,ek,hnk⟩:=(MR.out.vec k (by have:=HN.out;omega)).opened
    rw[ek] at hr
    clear e1 ek
    have i2:(k:Int) < (N:Int):=by omega
    have i3:(0:Int)<=(k:Int):=by omega
    by_cases he:nk=n0
    ·have hne:((nk:Int) != (n0:Int))=false:=by simp[he]
     have HA':Hid (∀ j,j < k+1->(X.getD j []).length=n0):=fun j hj=>by
      by_cases e:j=k
      ·subst e;omega
      ·exact HA.out j (by omega)
     clear he hnk
     go_wp2
     go_round
     case rel=>exact⟨k+1,by omega,by go_num,HA'⟩
     case measure=>simp[intOf];omega
    ·have hne:((nk:Int) != (n0:Int))=true:=by simp;omega
     have HM:Hid (evenB X=false):=evenB_not (j:=k) (by have:=HN.out;omega) (by have:=HN.out;omega)
     clear he hnk
     go_wp2
     go_ret
     exact⟨by rw[HM.out];rfl,rfl⟩
   ·have HM:Hid (evenB X=true):=evenB_iff.2 fun j hj=>by rw[HA.out j (by have:=HN.out;omega)];exact HN.out.2
    go_wp2
    go_ret
    exact⟨by rw[HM.out];rfl,rfl⟩
def fitsB (k n:Int) (X:List (List Nat)):Bool:=mayI k n&&(decide ((X.length:Int)=k)&&evenB X)
theorem fitsB_iff {k n:Int} {X:List (List Nat)}:fitsB k n X=true ↔ (1<=k/\k < n/\n<=255)/\(X.length:Int)=k/\evenB X=true:=by
 unfold fitsB
 rw[Bool.and_eq_true,Bool.and_eq_true,mayI_iff,decide_eq_true_iff]
theorem fits_any {k n:Int} {w:World} {r:Value} {vs:List Value} {X:List (List Nat)} (mr:Mat w r vs X) :
 Calls Tryz.prog 69 #[.int .i64 k,.int .i64 n,r] w fun e w'=>e=.returned (.bool (fitsB k n X))/\w'=w:=by
 obtain⟨q,N,cap,rfl,hN⟩:=mr.row.opened
 have hs:=mr.same
 have hNl:N<=140737488351232:=by have:=mr.row.len;omega
 have HN:Hid (N=X.length):=by show _=_;omega
 have HF:Hid (fitsB k n X=(mayI k n&&(decide ((N:Int)=k)&&evenB X))):=by show _=_;unfold fitsB;rw[HN.out]
 have MM:Hid (∀ w,Calls Tryz.prog 50 #[.int .i64 k,.int .i64 n] w fun e w'=>e=.returned (.bool (mayI k n))/\w'=w):=fun w=>codeMay_any k n w
 have AA:Hid (Calls Tryz.prog 62 #[.slice q N cap] w fun e w'=>e=.returned (.bool (evenB X))/\w'=w):=asLong_any mr
 clear hN hs mr
 generalize evenB X=be at *
 generalize mayI k n=bm at *
 by_cases hk:(N:Int)=k
 all_goals
  cases bm
  all_goals
   go_enter Tryz.func69,Tryz.ntmps69
   go_wp2_with (first
    | (go_at_call 50;refine (MM.out _).mono ?_;rintro e w1 ⟨rfl,hw⟩;obtain rfl:=hw.symm;clear hw)
    | (go_at_call 62;refine AA.out.mono ?_;rintro e w1 ⟨rfl,hw⟩;obtain rfl:=hw.symm;clear hw))
   go_ret
   exact⟨by rw[HF.out];first | rfl | (rw[decide_eq_true hk];rfl) | (rw[decide_eq_false hk];rfl) | (rw[decide_eq_true hk];simp),rfl⟩
end Go.Proofs.YtlklmhojadlncaaGreat
