/- Packed: Con8, Read8, EncB4, Copy6, RRep6, Copy7, RRef6, SimM. -/
import Derived.Lib.AppendZeros
import Derived.Test.YtlklmhojadlncaaGreatTk20
set_option linter.unusedSimpArgs false
set_option linter.unusedVariables false
set_option maxRecDepth 100000
namespace Go.Proofs.YtlklmhojadlncaaGreat
open Go.RowKit
theorem Tryz.underI:Tryz.prog.underlying 3=some (.int .i64):=by kernel_rfl
theorem run_zeros (w:World) {n:Nat} (h0:0 < n) (hn:n<=1000000) (ty:TypeId):∃ w' C,(Builtin.append_ #[26,3] ty #[.slice none 0 0,.int .i64 (n:Int)]).run Tryz.prog w=.ok (.slice (some ⟨w.heap.size,0,none⟩) n C) w'/\Own w.heap.size w' (.slice (some ⟨w.heap.size,0,none⟩) 0 C) []/\w.grownBy w' none/\n<=C:=by
 obtain⟨i0,hi,hz0,hz1,hz2⟩:=info_parts Tryz.info5
 have hr:=Lib.run_append_nil_zeros (P:=Tryz.prog) w 26 3 ty 5 i0 (.int .u8 0) .i64 .i64 Tryz.underlying26 Tryz.underI hi hz0 n h0 (by rw[hz1];decide) (by omega) (by rw[hz2];omega)
 have h1:=grownCap_ge w n 0 5
 have h2:=grownCap_le_maxLen w n 0 5 (by unfold maxLen;omega)
 refine⟨_,_,hr,⟨by simp,by simp,⟨by simp,.inr ⟨w.heap.size,_,_,rfl,Nat.le_refl _,heap_alloc_new w.drew _,Nat.zero_le _,h2,?_,by simp⟩⟩⟩,gb_alloc (gb_drew (World.grownBy.refl _ _)) _,h1⟩
 simp[Builtin.zeroCells,Value.cells]
 omega
set_option maxHeartbeats 1600000 in
theorem grow_none (w:World) {n:Nat} (h0:0 < n) (hn:n<=1000000):Calls Tryz.prog 66 #[.slice none 0 0,.int .i64 (n:Int)] w fun e w'=>∃ v,e=.returned v/\Own w.heap.size w' v []/\w.grownBy w' none:=by
 have i1:¬ (n:Int) < 0:=by omega
 have i2:(0:Int) < (n:Int):=by omega
 have i3:IntKind.i64.wrap (n:Int)=(n:Int):=IntWalk.i64_in _ (by omega)
 have HR:Hid (∀ ty,∃ w' C,(Builtin.append_ #[26,3] ty #[.slice none 0 0,.int .i64 (n:Int)]).run Tryz.prog w=.ok (.slice (some ⟨w.heap.size,0,none⟩) n C) w'/\Own w.heap.size w' (.slice (some ⟨w.heap.size,0,none⟩) 0 C) []/\w.grownBy w' none/\n<=C):=fun ty=>run_zeros w h0 hn ty
 clear h0 hn
 go_enter Tryz.func66,Tryz.ntmps66
 go_wp2_with (at_builtin;obtain⟨w1,C,hr,ho,hg,hC⟩:=HR.out _;refine Lib.wpList_append_run _ rfl _ _ _ _ rfl _ _ rfl rfl _ _ hr ?_;have O1:Hid (Own w.heap.size w1 (.slice (some ⟨w.heap.size,0,none⟩) 0 C) []):=ho;have G1:Hid (w.grownBy w1 none):=hg;have hC0:¬ C=0:=(by omega);clear hr ho hg hC)
 go_ret
 exact⟨_,rfl,O1.out,G1.out⟩
theorem take_flat {X:List (List Nat)} {j:Nat} (h:j < X.length):(X.take (j+1)).flatten=(X.take j).flatten++X.getD j []:=by
 rw[List.take_succ_eq_append_getElem h,List.flatten_append]
 simp[List.getD,h]
theorem flat_len {X:List (List Nat)} (h:∀ j,j < X.length->(X.getD j []).length=448):∀ j,j<=X.length->((X.take j).flatten).length=448 * j
 | 0,_=>by simp
 | j+1,hj=>by
   rw[take_flat (by omega),List.length_append,flat_len h j (by omega),h j (by omega)]
   omega
set_option maxHeartbeats 3200000 in
theorem concat_yes {w:World} {r:Value} {us:List Value} {X:List (List Nat)} (mr:Mat w r us X) (h1:1<=X.length) (h2:X.length<=255) (hl:∀ j,j < X.length->(X.getD j []).length=448) :
 Calls Tryz.prog 46 #[r] w fun e w'=>∃ v,e=.returned v/\Own w.heap.size w' v X.flatten/\w.grownBy w' none:=by
 obtain⟨q,N,cap,rfl,hN⟩:=mr.row.opened
 have hs:=mr.same
 have hNl:N<=255:=by omega
 have MR:Hid (Mat w (.slice q N cap) us X):=mr
 have HN:Hid (N=us.length/\N=X.length/\1<=N/\N<=255/\∀ j,j < X.length->(X.getD j []).length=448):=⟨hN,by omega,by omega,by omega,hl⟩
 clear mr hN hs h1 h2 hl
 go_enter Tryz.func46,Tryz.ntmps46
 go_wp2_with fail
 go_loopw [3,11] (fun ts ti wr=>∃ j:Nat,j<=N/\ts=.int .i64 ((448 * j:Nat):Int)/\ti=.int .i64 j/\Hid (w.grownBy wr none)) (fun _ ti _=>N - (intOf ti).toNat)
 case atStart=>exact⟨0,by omega,rfl,rfl,World.grownBy.refl _ _⟩
 case round =>
  obtain⟨j,hj,rfl,rfl,GK⟩:=hrel
  by_cases hlt:j < N
  ·have i3:(j:Int) < (N:Int):=by omega
   have i4:(0:Int)<=(j:Int):=by omega
   obtain⟨b,off,rfl,hr⟩:=(MR.out.keep GK.out).row.spot (k:=j) (by have:=HN.out;omega)
   obtain⟨pk,nk,ck,ek,hnk⟩:=((MR.out.keep GK.out).vec j (by have:=HN.out;omega)).opened
   have hn448:nk=448:=by rw[hnk];exact HN.out.2.2.2.2 j (by have:=HN.out;omega)
   subst hn448
   rw[ek] at hr
   have hw:IntKind.i64.wrap (((448 * j:Nat):Int)+448)=((448 * (j+1):Nat):Int):=by
    have e:((448 * j:Nat):Int)+448=((448 * (j+1):Nat):Int):=by omega
    rw[e]
    exact IntWalk.i64_in _ (by omega)
   obtain⟨t,ht⟩:∃ t,t=448 * (j+1):=⟨_,rfl⟩
   rw[<- ht] at hw
   have i5:¬ (t:Int) < 0:=by omega
   have HT:Hid (t=448 * (j+1)):=ht
   obtain⟨t0,ht0⟩:∃ t0,t0=448 * j:=⟨_,rfl⟩
   rw[<- ht0] at hw ⊢
   clear ek hnk ht ht0
   go_wp2
   go_roundw
   case rel=>exact⟨j+1,by omega,by rw[HT.out],by go_num,GK⟩
   case measure=>simp[intOf];omega
  ·have i3:¬ (j:Int) < (N:Int):=by omega
   have hjN:j=N:=by omega
   obtain⟨t,ht⟩:∃ t,t=448 * j:=⟨_,rfl⟩
   rw[<- ht]
   have GR:Hid (Calls Tryz.prog 66 #[.slice none 0 0,.int .i64 (t:Int)] wr fun e w'=>∃ v,e=.returned v/\Own wr.heap.size w' v []/\wr.grownBy w' none):=grow_none wr (by have:=HN.out;omega) (by have:=HN.out;omega)
   clear ht hjN
   go_wp2_with (first
    | (go_at_call 66;refine GR.out.mono ?_;rintro e w1 ⟨v,rfl,o1,g1⟩;have O1:Hid (Own w.heap.size w1 v []):=o1.down GK.out.size;have G1:Hid (w.grownBy w1 none):=grown_trans GK.out g1;clear o1 g1)
    | fail)
   clear GR GK
   go_loopw [6,27] (fun tv ti wr=>∃ j:Nat,j<=N/\ti=.int .i64 j/\Hid (Own w.heap.size wr tv (X.take j).flatten)/\Hid (w.grownBy wr none)) (fun _ ti _=>N - (intOf ti).toNat)
   case atStart=>exact⟨0,by omega,rfl,O1,G1⟩
   case round =>
    clear O1 G1
    obtain⟨k,hk,rfl,OK,GK⟩:=hrel
    by_cases hlt2:k < N
    ·have i6:(k:Int) < (N:Int):=by omega
     have i7:(0:Int)<=(k:Int):=by omega
     obtain⟨b,off,rfl,hr⟩:=(MR.out.keep GK.out).row.spot (k:=k) (by have:=HN.out;omega)
     obtain⟨pk,nk,ck,ek,hnk⟩:=((MR.out.keep GK.out).vec k (by have:=HN.out;omega)).opened
     have VX:Hid (Vec wr (.slice pk nk ck) (X.getD k [])):=by rw[<- ek];exact (MR.out.keep GK.out).vec k (by have:=HN.out;omega)
     rw[ek] at hr
     have HL:Hid ((X.take k).flatten.length+(X.getD k []).length<=140737488351232):=by
      show _<=_
      rw[flat_len HN.out.2.2.2.2 k (by have:=HN.out;omega),HN.out.2.2.2.2 k (by have:=HN.out;omega)]
      have:=HN.out
      omega
     have HF:Hid ((X.take (k+1)).flatten=(X.take k).flatten++X.getD k []):=take_flat (by have:=HN.out;omega)
     obtain⟨dp,dn,dc,rfl,hd0⟩:=OK.out.vec.opened
     clear ek hnk hd0
     generalize (X.take k).flatten=FX at *
     generalize X.getD k []=XK at *
     go_wp2_with (at_builtin;refine wpList_append_vec rfl _ _ rfl _ _ rfl rfl OK.out VX.out GK.out.size HL.out ?_;intro v2 w2 o2 g2;have O2:Hid (Own w.heap.size w2 v2 (FX++XK)):=o2;have G2:Hid (w.grownBy w2 none):=grown_new GK.out g2 (fun i e=>OK.out.lo i e);clear o2 g2)
     go_roundw
     case rel=>exact⟨k+1,by omega,by go_num,by rw[HF.out];exact O2,G2⟩
     case measure=>simp[intOf];omega
    ·have i6:¬ (k:Int) < (N:Int):=by omega
     have HX:Hid ((X.take k).flatten=X.flatten):=by
      show _=_
      rw[List.take_of_length_le (by have:=HN.out;omega)]
     go_wp2
     go_ret
     exact⟨_,rfl,by rw[<- HX.out];exact OK.out,GK.out⟩
theorem enters_rd:∀ args w,(callFunc 44 args).run Tryz.prog w=.ok (.enter 44 args) w:=by
 intro args w
 simp[go_sem,callFunc,Tryz.func44,Tryz.f44]
section
variable {F F':Nat->Prop} {w w':World} {s a:Nat} {g:SP.Geo} {R R':AM.Raw}
theorem rd_walk {B0 A D Sb m slot:Nat} {w4:World} (h:SI F w s a g R) (h0:R.off=false) (hs:slot < g.s) (T:RdI w B0 A D Sb s m w4 (.slice none 0 0) (.slice none 0 0) [] (.slice none 0 0) (.slice none 0 0) [] []) :
 Calls Tryz.prog 43 #[ptr s,.int .i64 (slot:Int),.func (.func 44) #[] #[.pointer (some ⟨B0,0,none⟩),.pointer (some ⟨A,0,none⟩),.pointer (some ⟨D,0,none⟩),.pointer (some ⟨Sb,0,none⟩)]] w4 fun e w' =>
  e=.returned (.tuple #[])/\∃ va vt us,RdI w B0 A D Sb s m w' va va (SP.found R g slot m) vt vt us (SP.told R g slot (SP.found R g slot m)):=by
 have hk1:=h.ok.k1
 refine (swalk_any (g:=g) (R:=R) (F:=F) (a:=a) (B:=w.heap.size) h0 hs enters_rd
  (fun j w'=>(SP.hits R g slot m j).length < g.k/\j<=g.n/\∃ va vt us,RdI w B0 A D Sb s m w' va va (SP.hits R g slot m j) vt vt us (SP.told R g slot (SP.hits R g slot m j)))
  (fun w'=>∃ va vt us,RdI w B0 A D Sb s m w' va va (SP.found R g slot m) vt vt us (SP.told R g slot (SP.found R g slot m)))
  (fun j=>decide ((SP.hits R g slot m (j+1)).length < g.k)) ?_ ?_ ?_ ?_ ?_ ?_).mono ?_
 ·rintro j w1 ⟨_,_,_,_,_,T1⟩
  exact h.keep T1.gr
 ·rintro j w1 ⟨_,_,_,_,_,T1⟩
  exact T1.gr.size
 ·rintro j w1 w2 ⟨h1,h2,va,vt,us,T1⟩ g1
  exact⟨h1,h2,va,vt,us,T1.keep g1⟩
 ·rintro j w1 hj hy ⟨h1,h2,va,vt,us,T1⟩
  have e:SP.hits R g slot m (j+1)=SP.hits R g slot m j:=by rw[SP.hits_succ];simp[SP.has,hy]
  rw[e]
  exact⟨h1,by omega,va,vt,us,T1⟩
 ·rintro j w1 v hj hy ⟨h1,h2,va,vt,us,T1⟩ hv
  obtain⟨pv,nv,cv,rfl,_⟩:=hv.vec.opened
  have HK:∀ w',w.grownBy w' none->w'.cell? ⟨s,1,none⟩=some (.int .i64 (g.k:Int)):=fun w' g'=>(h.keep g').at2
  by_cases hm:SP.numD R g slot j=m
  ·have e:SP.hits R g slot m (j+1)=SP.hits R g slot m j++[j]:=by rw[SP.hits_succ];simp[SP.has,hy,hm]
   obtain⟨vp,vn,vc,rfl,_⟩:=T1.mt.mat.row.opened
   have hsame:=T1.mt.same
   rw[SP.told_len] at hsame
   have hle:=SP.hits_len_le R g slot m j
   have hn255:=h.ok.n255
   rw[hm]
   refine (rd_yes T1 (j:=j) (k:=g.k) hv (by omega) (by omega) HK).mono ?_
   rintro e2 w2 ⟨rfl,va',vt',us',T2⟩
   refine⟨by rw[e],?_⟩
   rw[<- e,<- SP.told_app,<- e] at T2
   by_cases hc:(SP.hits R g slot m (j+1)).length < g.k
   ·rw[if_pos (decide_eq_true hc)]
    exact⟨hc,by omega,va',vt',us',T2⟩
   ·rw[if_neg (by simpa using hc)]
    have hfe:SP.hits R g slot m (j+1)=SP.found R g slot m:=SP.hits_take (by omega) (by
     have:(SP.hits R g slot m (j+1)).length=(SP.hits R g slot m j).length+1:=by rw[e];simp
     omega)
    rw[hfe] at T2
    exact⟨va',vt',us',T2⟩
  ·have e:SP.hits R g slot m (j+1)=SP.hits R g slot m j:=by rw[SP.hits_succ];simp[SP.has,hm]
   refine (rd_no T1 (j:=j) (k:=g.k) hm HK).mono ?_
   rintro e2 w2 ⟨rfl,T2⟩
   refine⟨by rw[e],?_⟩
   rw[if_pos (by rw[e];exact decide_eq_true h1)]
   rw[e]
   exact⟨h1,by omega,va,vt,us,T2⟩
 ·exact⟨by rw[SP.hits_zero];simp;omega,by omega,_,_,_,T⟩
 ·rintro e w' ⟨rfl,h1⟩
  refine⟨rfl,?_⟩
  rcases h1 with ⟨h1,_,va,vt,us,T1⟩ | h1
  ·have hfe:SP.hits R g slot m g.n=SP.found R g slot m:=(List.take_of_length_le (by omega)).symm
   rw[hfe] at T1
   exact⟨va,vt,us,T1⟩
  ·exact h1
theorem sread_err (h:SI F w s a g R) {slot:Int} {m:Nat} (hy:SP.why R g slot ≠ 0) :
 Calls Tryz.prog 20 #[ptr s,.int .i64 slot,.int .u64 (m:Int)] w fun e w'=>e=.returned (.tuple #[.slice none 0 0,.int .i64 (SP.why R g slot:Int)])/\w.grownBy w' none:=by
 obtain⟨y,hy1⟩:∃ y,y=SP.why R g slot:=⟨_,rfl⟩
 have HR:Hid (∀ w',w.grownBy w' none->Calls Tryz.prog 42 #[ptr s,.int .i64 slot] w' fun e w''=>e=.returned (.int .i64 (y:Int))/\w''=w'):=fun w' g1=>by rw[hy1];exact sreach_yes (h.keep g1) slot
 rw[<- hy1] at hy ⊢
 have hne:((y:Int) != 0)=true:=neb_yes (b:=0) hy
 have HG:Hid (∀ A B T T',w.grownBy ((w.alloc (.cells A T)).alloc (.cells B T')) none):=fun A B T T'=>gb_alloc (World.grownBy_alloc w _ none) _
 clear h hy hy1
 go_enter Tryz.func20,Tryz.ntmps20
 go_wp2_with (go_at_call 42;refine (HR.out _ (HG.out _ _ _ _)).mono ?_;rintro e w9 ⟨rfl,hw9⟩;obtain rfl:=hw9.symm;clear hw9)
 go_ret2
 exact⟨rfl,HG.out _ _ _ _⟩
theorem sread_arg (h:SI F w s a g R) {slot:Int} (hy:SP.why R g slot=0) :
 Calls Tryz.prog 20 #[ptr s,.int .i64 slot,.int .u64 0] w fun e w'=>e=.returned (.tuple #[.slice none 0 0,.int .i64 1])/\w.grownBy w' none:=by
 have HR:Hid (∀ w',w.grownBy w' none->Calls Tryz.prog 42 #[ptr s,.int .i64 slot] w' fun e w''=>e=.returned (.int .i64 0)/\w''=w'):=fun w' g1=>sreach_at (h.keep g1) (by rw[hy];rfl)
 have HG:Hid (∀ A B T T',w.grownBy ((w.alloc (.cells A T)).alloc (.cells B T')) none):=fun A B T T'=>gb_alloc (World.grownBy_alloc w _ none) _
 clear h hy
 go_enter Tryz.func20,Tryz.ntmps20
 go_wp2_with (go_at_call 42;refine (HR.out _ (HG.out _ _ _ _)).mono ?_;rintro e w9 ⟨rfl,hw9⟩;obtain rfl:=hw9.symm;clear hw9)
 go_ret2
 exact⟨rfl,HG.out _ _ _ _⟩
theorem rdi_start (w:World) (s m:Nat):RdI w (w.heap.size+1) (w.heap.size+1+1) (w.heap.size+1+1+1) w.heap.size s m ((((w.alloc (.cells #[ptr s] 31)).alloc (.cells #[.int .u64 (m:Int)] 36)).alloc (.cells #[.slice none 0 0] 87)).alloc (.cells #[.slice none 0 0] 88)) (.slice none 0 0) (.slice none 0 0) [] (.slice none 0 0) (.slice none 0 0) [] []:=by
 have b1:=Boxed.new w 31 (ptr s)
 have b2:=Boxed.new (w.alloc (.cells #[ptr s] 31)) 36 (.int .u64 (m:Int))
 have b3:=Boxed.new ((w.alloc (.cells #[ptr s] 31)).alloc (.cells #[.int .u64 (m:Int)] 36)) 87 (.slice none 0 0)
 have b4:=Boxed.new (((w.alloc (.cells #[ptr s] 31)).alloc (.cells #[.int .u64 (m:Int)] 36)).alloc (.cells #[.slice none 0 0] 87)) 88 (.slice none 0 0)
 rw[World.size_alloc] at b2
 rw[World.size_alloc,World.size_alloc] at b3
 rw[World.size_alloc,World.size_alloc,World.size_alloc] at b4
 exact⟨(b2.alloc _).alloc _,b3.alloc _,b4,((b1.alloc _).alloc _).alloc _,IOwn.nil _ _,RMat.nil _ _ _,by omega,by omega,gb_alloc (gb_alloc (gb_alloc (World.grownBy_alloc w _ none) _) _) _⟩
set_option maxHeartbeats 6400000 in
theorem sread_main (h:SI F w s a g R) {slot m:Nat} (hy:SP.why R g (slot:Int)=0) (hm:m ≠ 0) :
 Calls Tryz.prog 20 #[ptr s,.int .i64 (slot:Int),.int .u64 (m:Int)] w fun e w'=>∃ v er out,e=.returned (.tuple #[v,.int .i64 ((er:Nat):Int)])/\SP.RdP R g (slot:Int) m out er/\(er=0->out.length=g.k * 448)/\Own w.heap.size w' v out/\w.grownBy w' none:=by
 have HR:Hid (∀ w',w.grownBy w' none->Calls Tryz.prog 42 #[ptr s,.int .i64 (slot:Int)] w' fun e w''=>e=.returned (.int .i64 0)/\w''=w'):=fun w' g1=>sreach_at (h.keep g1) (by rw[hy];rfl)
 obtain⟨q0,q1,q2⟩:=SP.why_zero hy
 have HW:Hid (∀ B0 A D Sb w4,RdI w B0 A D Sb s m w4 (.slice none 0 0) (.slice none 0 0) [] (.slice none 0 0) (.slice none 0 0) [] []->Calls Tryz.prog 43 #[ptr s,.int .i64 (slot:Int),.func (.func 44) #[] #[.pointer (some ⟨B0,0,none⟩),.pointer (some ⟨A,0,none⟩),.pointer (some ⟨D,0,none⟩),.pointer (some ⟨Sb,0,none⟩)]] w4 fun e w' =>
  e=.returned (.tuple #[])/\∃ va vt us,RdI w B0 A D Sb s m w' va va (SP.found R g slot m) vt vt us (SP.told R g slot (SP.found R g slot m))):=fun B0 A D Sb w4 T=>rd_walk h q0 (by omega) T
 have HG:Hid (∀ A B T T',w.grownBy ((w.alloc (.cells A T)).alloc (.cells B T')) none):=fun A B T T'=>gb_alloc (World.grownBy_alloc w _ none) _
 have HS:Hid (∀ w',w.grownBy w' none->w'.cell? ⟨s,1,none⟩=some (.int .i64 (g.k:Int))/\w'.cell? ⟨s,2,none⟩=some (.int .i64 (g.n:Int))):=fun w' g'=>⟨(h.keep g').at2,(h.keep g').at3⟩
 have T0:Hid (RdI w _ _ _ _ s m _ _ _ _ _ _ _ _):=rdi_start w s m
 have hne:((m:Int)==0)=false:=eqb_no (b:=0) hm
 have HY:Hid (SP.why R g (slot:Int)=0/\m ≠ 0/\g.Ok R):=⟨hy,hm,h.ok⟩
 have HP:Hid (SP.Pick R g slot (SP.found R g slot m)):=SP.found_pick R g slot m
 have HFL:Hid (g.k<=(SP.hits R g slot m g.n).length->(SP.found R g slot m).length=g.k):=SP.found_len
 have HFS:Hid (¬ g.k<=(SP.hits R g slot m g.n).length->(SP.found R g slot m).length < g.k):=fun hh=>by simp[SP.found];omega
 clear h hy hm q0 q1 q2
 go_enter Tryz.func20,Tryz.ntmps20
 go_wp2_with (first
  | (go_at_call 42;refine (HR.out _ (HG.out _ _ _ _)).mono ?_;rintro e w9 ⟨rfl,hw9⟩;obtain rfl:=hw9.symm;clear hw9)
  | (go_at_call 43;refine (HW.out _ _ _ _ _ T0.out).mono ?_;rintro e w5 ⟨rfl,va,vt,us,t5⟩;obtain⟨ap,an,ac,rfl,ha⟩:=t5.ia.ivec.opened;obtain⟨tp,tn,tc,rfl,ht⟩:=t5.mt.mat.row.opened;have T5:Hid (RdI w _ _ _ _ s m w5 (.slice ap an ac) (.slice ap an ac) (SP.found R g slot m) (.slice tp tn tc) (.slice tp tn tc) us (SP.told R g slot (SP.found R g slot m))):=t5;have HAN:Hid (an=(SP.found R g slot m).length):=(by show _=_;rw[ha,SP.ints_len]);clear t5 ha ht))
 have HC5:Hid (∀ w',w5.grownBy w' none->w'.cell? ⟨w.heap.size+1+1,0,none⟩=some (.slice ap an ac)/\w'.cell? ⟨w.heap.size+1+1+1,0,none⟩=some (.slice tp tn tc)/\w'.cell? ⟨w.heap.size,0,none⟩=some (ptr s)/\w'.cell? ⟨s,1,none⟩=some (.int .i64 (g.k:Int))/\w'.cell? ⟨s,2,none⟩=some (.int .i64 (g.n:Int))):=fun w' g'=>⟨(T5.out.keep g').ba.cell,(T5.out.keep g').bd.cell,(T5.out.keep g').bs.cell,HS.out w' (T5.out.keep g').gr⟩
 clear T0 HW HR HG HS
 go_region_held3 (fun w'=>w'.cell? ⟨w.heap.size+1+1,0,none⟩=some (.slice ap an ac)/\w'.cell? ⟨w.heap.size,0,none⟩=some (ptr s)/\w'.cell? ⟨s,1,none⟩=some (.int .i64 (g.k:Int))) (exact⟨(HC5.out _ (grown_drewN w5 1)).1,(HC5.out _ (grown_drewN w5 1)).2.2.1,(HC5.out _ (grown_drewN w5 1)).2.2.2.1⟩) (fail)
 by_cases hk:g.k<=(SP.hits R g slot m g.n).length
 ·have hfl:=HFL.out hk
  have i1:¬ (an:Int) < (g.k:Int):=by have:=HAN.out;omega
  have DEC:Hid (∀ w',w.grownBy w' none->w5.grownBy w' none->Calls Tryz.prog 45 #[.int .i64 (g.k:Int),.int .i64 (g.n:Int),.slice ap an ac,.slice tp tn tc] w' fun e w''=>∃ p m' c us' D,e=.returned (.tuple #[.slice p m' c,.int .i64 0])/\OwnMat w'.heap.size w'' (.slice p m' c) us' D/\Shape D g.k 448/\SP.RdP R g (slot:Int) m D.flatten 0/\w'.grownBy w'' none):=fun w' _ g1=>by
   have T6:=T5.out.keep g1
   have hok:=HP.out.ok HY.out.2.2
   have hL:((SP.told R g slot (SP.found R g slot m)).getD 0 []).length=448:=HP.out.row (by have:=HY.out.2.2.k1;omega)
   refine (decode_yes (k:=g.k) (n:=g.n) T6.ia.ivec T6.mt.mat hok (by rw[SP.ints_len];omega)).mono ?_
   rintro e w2 ⟨p,m',c,us',D,rfl,om,_,sh,tl,gg⟩
   rw[hL] at sh
   refine⟨p,m',c,us',D,rfl,om,sh,?_,gg⟩
   unfold SP.RdP
   rw[Int.toNat_natCast]
   refine .inr (.inr (.inr ⟨HY.out.1,HY.out.2.1,hk,rfl,D,0,.inr (.inr ⟨hok,by rw[SP.ints_len];omega,rfl,?_⟩),rfl⟩))
   rw[Int.toNat_natCast]
   exact tl
  have HKK:Hid (1<=g.k/\g.k<=255):=⟨HY.out.2.2.k1,by have:=HY.out.2.2.kn;have:=HY.out.2.2.n255;omega⟩
  clear HP HFL HFS hfl hk
  go_wp2_with fail
  go_region_held3 (fun w'=>w'.cell? ⟨w.heap.size+1+1,0,none⟩=some (.slice ap an ac)/\w'.cell? ⟨w.heap.size+1+1+1,0,none⟩=some (.slice tp tn tc)/\w'.cell? ⟨w.heap.size,0,none⟩=some (ptr s)/\w'.cell? ⟨s,1,none⟩=some (.int .i64 (g.k:Int))/\w'.cell? ⟨s,2,none⟩=some (.int .i64 (g.n:Int))) (first | exact HC5.out _ (grown_trans (grown_drewN w5 1) (grown_drewN _ 1)) | exact HC5.out _ (grown_trans (grown_trans (grown_drewN w5 1) (grown_drewN _ 1)) G7.out))
   ((go_at_call 45;refine (DEC.out _ (grown_trans T5.out.gr (grown_trans (grown_drewN w5 1) (grown_drewN _ 1))) (grown_trans (grown_drewN w5 1) (grown_drewN _ 1))).mono ?_;rintro e w7 ⟨p7,m7,c7,us7,D7,rfl,om7,sh7,rp7,g7⟩;have M7:Hid (Mat w7 (.slice p7 m7 c7) us7 D7):=om7.mat;have S7:Hid (Shape D7 g.k 448/\SP.RdP R g (slot:Int) m D7.flatten 0):=⟨sh7,rp7⟩;have G7:Hid (((w5.drewN 1).drewN 1).grownBy w7 none):=g7;clear om7 sh7 rp7 g7))
  have GW:Hid (w.grownBy w7 none):=grown_trans (grown_trans T5.out.gr (grown_trans (grown_drewN w5 1) (grown_drewN _ 1))) G7.out
  have CC:Hid (Calls Tryz.prog 46 #[.slice p7 m7 c7] w7 fun e w'=>∃ v,e=.returned v/\Own w7.heap.size w' v D7.flatten/\w7.grownBy w' none):=by
   have hl:=S7.out.1.len
   have hr:=S7.out.1.row
   have:=HKK.out
   exact concat_yes M7.out (by omega) (by omega) (fun j hj=>hr j (by omega))
  clear DEC HC5 T5
  go_wp2_with (go_at_call 46;refine CC.out.mono ?_;rintro e w8 ⟨v8,rfl,o8,g8⟩;have O8:Hid (Own w.heap.size w8 v8 D7.flatten):=o8.down GW.out.size;have G8:Hid (w.grownBy w8 none):=grown_trans GW.out g8;clear o8 g8)
  go_ret2
  exact⟨_,0,_,rfl,S7.out.2,fun _=>(by
   have h1:=flat_len (X:=D7) (fun j hj=>S7.out.1.row j (by have:=S7.out.1.len;omega)) g.k (by have:=S7.out.1.len;omega)
   rw[List.take_of_length_le (by have:=S7.out.1.len;omega)] at h1
   omega),O8.out,G8.out⟩
 ·have hfs:=HFS.out hk
  have i1:(an:Int) < (g.k:Int):=by have:=HAN.out;omega
  have HK:Hid (¬ g.k<=(SP.hits R g slot m g.n).length):=hk
  clear hfs hk HP HFL HFS
  go_wp2_with fail
  go_ret2
  refine⟨_,20,[],rfl,?_,fun h=>absurd h (by decide),Own.nil _ _,grown_trans T5.out.gr (grown_drewN w5 1)⟩
  unfold SP.RdP
  rw[Int.toNat_natCast]
  exact .inr (.inr (.inl ⟨HY.out.1,HY.out.2.1,by have:=HK.out;omega,rfl,rfl⟩))
theorem sread_len (h:SI F w s a g R) (slot:Int) (m:Nat) :
 Calls Tryz.prog 20 #[ptr s,.int .i64 slot,.int .u64 (m:Int)] w fun e w'=>∃ v er out,e=.returned (.tuple #[v,.int .i64 ((er:Nat):Int)])/\SP.RdP R g slot m out er/\(er=0->out.length=g.k * 448)/\Own w.heap.size w' v out/\w.grownBy w' none:=by
 by_cases hy:SP.why R g slot=0
 ·by_cases hm:m=0
  ·subst hm
   refine (sread_arg h hy).mono ?_
   rintro e w' ⟨rfl,g1⟩
   exact⟨_,1,[],rfl,.inr (.inl ⟨hy,rfl,rfl,rfl⟩),fun h=>absurd h (by decide),Own.nil _ _,g1⟩
  ·obtain⟨_,q1,_⟩:=SP.why_zero hy
   obtain⟨n,rfl⟩:∃ n:Nat,slot=(n:Int):=⟨slot.toNat,by omega⟩
   exact sread_main h hy hm
 ·refine (sread_err h hy).mono ?_
  rintro e w' ⟨rfl,g1⟩
  exact⟨_,_,[],rfl,.inl ⟨hy,rfl,rfl⟩,fun h=>absurd h hy,Own.nil _ _,g1⟩
theorem sread_all (h:SI F w s a g R) (slot:Int) (m:Nat) :
 Calls Tryz.prog 20 #[ptr s,.int .i64 slot,.int .u64 (m:Int)] w fun e w'=>∃ v er out,e=.returned (.tuple #[v,.int .i64 ((er:Nat):Int)])/\SP.RdP R g slot m out er/\Own w.heap.size w' v out/\w.grownBy w' none:=by
 refine (sread_len h slot m).mono ?_
 rintro e w' ⟨v,er,out,rfl,h1,_,h2,h3⟩
 exact⟨v,er,out,rfl,h1,h2,h3⟩
end
def encL (k n:Int) (X:List (List Nat)):List (List Nat):=if fitsB k n X then codeList X k.toNat n.toNat (X.getD 0 []).length else []
def encE (k n:Int) (X:List (List Nat)):Int:=if fitsB k n X then 0 else 1
def oneB (k n i:Int) (X:List (List Nat)):Bool:=fitsB k n X&&(decide (0<=i)&&decide (i < n))
def oneL (k n i:Int) (X:List (List Nat)):List Nat:=if oneB k n i X then codeRow X k.toNat (X.getD 0 []).length i.toNat else []
def oneE (k n i:Int) (X:List (List Nat)):Int:=if oneB k n i X then 0 else 1
theorem fits_parts {k n:Int} {X:List (List Nat)} (h:fitsB k n X=true):k=(k.toNat:Int)/\n=(n.toNat:Int)/\1<=k.toNat/\k.toNat < n.toNat/\n.toNat<=255/\Shape X k.toNat (X.getD 0 []).length:=by
 obtain⟨h1,h2,h3⟩:=fitsB_iff.1 h
 refine⟨by omega,by omega,by omega,by omega,by omega,?_⟩
 have:=even_shape h3
 rwa [show X.length=k.toNat by omega] at this
theorem Sep.none:Sep []:=fun i j hi _ _=>absurd hi (by simp)
theorem made_none {w w':World} (g:w.grownBy w' none) (er:Int):Made w [] er (.returned (.tuple #[.slice none 0 0,.int .i64 er])) w' :=
 ⟨none,0,0,[],rfl,OwnMat.nil _ _,Sep.none,g⟩
theorem encode_all {w:World} {r:Value} {vs:List Value} {X:List (List Nat)} (k n:Int) (mr:Mat w r vs X) :
 Calls Tryz.prog 53 #[.int .i64 k,.int .i64 n,r] w (Made w (encL k n X) (encE k n X)):=by
 unfold encL encE
 by_cases hf:fitsB k n X=true
 ·obtain⟨e1,e2,h1,h2,h3,hs⟩:=fits_parts hf
  rw[if_pos hf,if_pos hf]
  have:=encode_yes mr hs h1 h2 h3
  rwa [<- e1,<- e2] at this
 ·rw[if_neg hf,if_neg hf]
  refine (encode_no mr (by simpa using hf)).mono ?_
  rintro e w' ⟨rfl,rfl⟩
  exact made_none (World.grownBy.refl _ _) 1
theorem one_all {w:World} {r:Value} {vs:List Value} {X:List (List Nat)} (k n i:Int) (mr:Mat w r vs X) :
 Calls Tryz.prog 75 #[.int .i64 k,.int .i64 n,.int .i64 i,r] w fun e w'=>∃ p m c,e=.returned (.tuple #[.slice p m c,.int .i64 (oneE k n i X)])/\Own w.heap.size w' (.slice p m c) (oneL k n i X)/\w.grownBy w' none:=by
 unfold oneL oneE
 by_cases hb:oneB k n i X=true
 ·rw[if_pos hb,if_pos hb]
  unfold oneB at hb
  rw[Bool.and_eq_true,Bool.and_eq_true,decide_eq_true_iff,decide_eq_true_iff] at hb
  obtain⟨e1,e2,h1,h2,h3,hs⟩:=fits_parts hb.1
  have e3:i=(i.toNat:Int):=by omega
  have:=one_yes (i:=i.toNat) mr hs h1 h2 h3 (by omega)
  rwa [<- e1,<- e2,<- e3] at this
 ·rw[if_neg hb,if_neg hb]
  refine (one_no mr ?_).mono ?_
  ·unfold oneB at hb
   rw[Bool.and_eq_true,Bool.and_eq_true,decide_eq_true_iff,decide_eq_true_iff] at hb
   by_cases hf:fitsB k n X=true
   ·right
    by_cases h0:0<=i
    ·right
     refine Classical.byContradiction fun hc=>hb ⟨hf,h0,by omega⟩
    ·left;omega
   ·left;simpa using hf
  ·rintro e w' ⟨rfl,rfl⟩
   exact⟨none,0,0,rfl,Own.nil _ _,World.grownBy.refl _ _⟩
theorem run_append_rows {w:World} {B:Nat} {t ty e:TypeId} {z:Value} {size bytes:Nat} (hu:Tryz.prog.underlying t=some (.slice e)) (hinfo:(Tryz.prog.info? e).map (fun i=>(i.zero,i.size,i.bytes))=some (some z,size,bytes)) (hzs:z.cells.size=size) (hsz:0 < size)
 {v:Value} {n:Nat} {xs:List Value} (hown:w.ownsRow B e size v n xs) {a:Addr} {m c:Nat} {news:List Value} (hl:news.length=m * size) (hnews:∀ j u,news[j]?=some u->w.cell? (a.add j)=some u) (h1:∀ u ∈ news,u.oneCell'=true)
 (h63:n+m<=maxLen) (hbytes:(n+m) * bytes<=140737488355328) (hB:B<=w.heap.size) :
 ∃ v' w',(Builtin.append_ #[t,t] ty #[v,.slice (some a) m c]).run Tryz.prog w=.ok v' w'/\w'.ownsRow B e size v' (n+m) (xs++news)/\w.grownBy w' v.ownBlock:=by
 obtain⟨i,hi,hz0,hz1,hz2⟩:=info_parts hinfo
 obtain⟨v',w',hr,h2,h3,_⟩:=run_append_own (P:=Tryz.prog) w B t ty e i z size bytes hu hi hz0 hz1 hz2 hzs hsz v n xs hown a m c news hl hnews h1 h63 hbytes hB
 exact⟨v',w',hr,h2,h3⟩
theorem rows_slice {w:World} {B e size n:Nat} {v:Value} {xs:List Value} (h:w.ownsRow B e size v n xs):∃ p c,v=.slice p n c:=by
 rcases h.2 with ⟨rfl,hn⟩ | ⟨g,cap,cur,rfl,_⟩
 ·subst hn;exact⟨_,_,rfl⟩
 ·exact⟨_,_,rfl⟩
namespace AM
structure Fl where
 d:Nat
 k:Nat
 b:List Nat
structure RA where
 D:List (Option (List (List Nat)))
 n:Nat
 L:List Fl
 left:Nat
 dark:Bool
end AM
def drow (ds:List Value) (D:List (Option (List (List Nat)))):List Value:=(ds.zip D).flatMap (fun x=>[x.1,.bool x.2.isNone])
def frow (fs:List Value) (L:List AM.Fl):List Value:=(fs.zip L).flatMap (fun x=>[.int .i64 (x.2.d:Int),.int .i64 (x.2.k:Int),x.1])
structure RL (G:Nat->Prop) (w:World) (r:Nat) (dp:Option Addr) (dc:Nat) (ds:List Value) (lp:Option Addr) (lc:Nat) (fs:List Value) (A:AM.RA):Prop where
 lt:∀ i,G i->i < w.heap.size
 top:w.heap[r]?=some (.cells #[.slice dp A.D.length dc,.int .i64 (A.n:Int),.slice lp A.L.length lc,.int .i64 (A.left:Int),.bool A.dark] 99 (0,0))
 dsk:w.ownsRow 0 101 2 (.slice dp A.D.length dc) A.D.length (drow ds A.D)
 dlen:ds.length=A.D.length
 sec:∀ (i:Nat) (v:Value),ds[i]?=some v->(A.D[i]?=some none/\v=.slice none 0 0)\/∃ (ss:List (List Nat)) (vs:List Value),A.D[i]?=some (some ss)/\w.ownsRow 0 26 1 v A.n vs/\ss.length=A.n/\∀ (k:Nat) (u:Value) (b:List Nat),vs[k]?=some u->ss[k]?=some b->Own 0 w u b/\∀ g,u.ownBlock=some g->G g
 fly:w.ownsRow 0 192 3 (.slice lp A.L.length lc) A.L.length (frow fs A.L)
 flen:fs.length=A.L.length
 fv:∀ (i:Nat) (u:Value) (x:AM.Fl),fs[i]?=some u->A.L[i]?=some x->Own 0 w u x.b/\∀ g,u.ownBlock=some g->G g
 Gr:G r
 Gd:∀ g,(Value.slice dp A.D.length dc).ownBlock=some g->G g
 Gs:∀ (i:Nat) (v:Value),ds[i]?=some v->∀ g,v.ownBlock=some g->G g
 Gl:∀ g,(Value.slice lp A.L.length lc).ownBlock=some g->G g
 ap:∀ (i j:Nat) (u v:Value),ds[i]?=some u->ds[j]?=some v->∀ g,u.ownBlock=some g->v.ownBlock=some g->i=j
 left:A.left < 9223372036854775808
 n2:A.n<=4096
 d2:A.D.length<=255
def RIs (G:Nat->Prop) (w:World) (r:Nat) (A:AM.RA):Prop:=∃ dp dc ds lp lc fs,RL G w r dp dc ds lp lc fs A
section
variable {G:Nat->Prop} {w:World} {r:Nat} {dp:Option Addr} {dc:Nat} {ds:List Value} {lp:Option Addr} {lc:Nat} {fs:List Value} {A:AM.RA}
theorem RL.is (h:RL G w r dp dc ds lp lc fs A):RIs G w r A:=⟨dp,dc,ds,lp,lc,fs,h⟩
theorem Own.same0 {w w':World} {u:Value} {b:List Nat} (h:Own 0 w u b) (hb:∀ g,u.ownBlock=some g->w'.heap[g]?=w.heap[g]?):Own 0 w' u b:=⟨h.small,h.len,ownsRow_same h.row hb⟩
theorem RL.sec_same (h:RL G w r dp dc ds lp lc fs A) {w':World} (hS:∀ g c,G g->w.heap[g]?=some (.cells c 26 (0,0))->w'.heap[g]?=w.heap[g]?) (hB:∀ g c,G g->w.heap[g]?=some (.cells c 5 (0,0))->w'.heap[g]?=w.heap[g]?) :
 ∀ (i:Nat) (v:Value),ds[i]?=some v->(A.D[i]?=some none/\v=.slice none 0 0)\/∃ (ss:List (List Nat)) (vs:List Value),A.D[i]?=some (some ss)/\w'.ownsRow 0 26 1 v A.n vs/\ss.length=A.n/\∀ (k:Nat) (u:Value) (b:List Nat),vs[k]?=some u->ss[k]?=some b->Own 0 w' u b/\∀ g,u.ownBlock=some g->G g:=fun i v hv=>by
 rcases h.sec i v hv with h1 | ⟨ss,vs,h1,h2,h3,h4⟩
 ·exact .inl h1
 ·refine .inr ⟨ss,vs,h1,ownsRow_same h2 (fun g hg=>?_),h3,fun k u b hu hb=>⟨(h4 k u b hu hb).1.same0 (fun g hg=>?_),(h4 k u b hu hb).2⟩⟩
  ·obtain⟨c,hc⟩:=rowBlock h2 hg
   exact hS g c (h.Gs i v hv g hg) hc
  ·obtain⟨c,hc⟩:=rowBlock (h4 k u b hu hb).1.row hg
   exact hB g c ((h4 k u b hu hb).2 g hg) hc
theorem RL.fv_same (h:RL G w r dp dc ds lp lc fs A) {w':World} (hB:∀ g c,G g->w.heap[g]?=some (.cells c 5 (0,0))->w'.heap[g]?=w.heap[g]?) :
 ∀ (i:Nat) (u:Value) (x:AM.Fl),fs[i]?=some u->A.L[i]?=some x->Own 0 w' u x.b/\∀ g,u.ownBlock=some g->G g:=fun i u x hu hx=>⟨(h.fv i u x hu hx).1.same0 (fun g hg=>by
 obtain⟨c,hc⟩:=rowBlock (h.fv i u x hu hx).1.row hg
 exact hB g c ((h.fv i u x hu hx).2 g hg) hc),(h.fv i u x hu hx).2⟩
theorem RL.same (h:RL G w r dp dc ds lp lc fs A) {w':World} (hb:∀ i,G i->w'.heap[i]?=w.heap[i]?) (hl:∀ i,G i->i < w'.heap.size):RL G w' r dp dc ds lp lc fs A :=
 ⟨hl,by rw[hb r h.Gr];exact h.top,ownsRow_same h.dsk (fun g hg=>hb g (h.Gd g hg)),h.dlen,h.sec_same (fun g c hg _=>hb g hg) (fun g c hg _=>hb g hg),ownsRow_same h.fly (fun g hg=>hb g (h.Gl g hg)),h.flen,h.fv_same (fun g c hg _=>hb g hg),h.Gr,h.Gd,h.Gs,h.Gl,h.ap,h.left,h.n2,h.d2⟩
theorem RIs.lt (h:RIs G w r A):∀ i,G i->i < w.heap.size:=by obtain⟨_,_,_,_,_,_,h⟩:=h;exact h.lt
theorem RIs.same (h:RIs G w r A) {w':World} (hb:∀ i,G i->w'.heap[i]?=w.heap[i]?) (hl:∀ i,G i->i < w'.heap.size):RIs G w' r A:=by
 obtain⟨dp,dc,ds,lp,lc,fs,h⟩:=h
 exact (h.same hb hl).is
theorem RIs.keep (h:RIs G w r A) {w':World} (g:w.grownBy w' none):RIs G w' r A:=h.same (fun i hi=>g.block i (h.lt i hi) (by simp)) (fun i hi=>Nat.lt_of_lt_of_le (h.lt i hi) g.size)
theorem RL.keep (h:RL G w r dp dc ds lp lc fs A) {w':World} (g:w.grownBy w' none):RL G w' r dp dc ds lp lc fs A:=h.same (fun i hi=>g.block i (h.lt i hi) (by simp)) (fun i hi=>Nat.lt_of_lt_of_le (h.lt i hi) g.size)
theorem RL.topCells (h:RL G w r dp dc ds lp lc fs A):w.cell? ⟨r,0,none⟩=some (.slice dp A.D.length dc)/\w.cell? ⟨r,1,none⟩=some (.int .i64 (A.n:Int))/\w.cell? ⟨r,2,none⟩=some (.slice lp A.L.length lc)/\w.cell? ⟨r,3,none⟩=some (.int .i64 (A.left:Int))/\w.cell? ⟨r,4,none⟩=some (.bool A.dark) :=
 ⟨topCell (j:=0) h.top rfl,topCell (j:=1) h.top rfl,topCell (j:=2) h.top rfl,topCell (j:=3) h.top rfl,topCell (j:=4) h.top rfl⟩
end
section
variable {w0 w:World} {a2 dg2:Nat} {dv:List Value} {k:Nat} {R:AM.Raw} {fp:Option Addr} {fc:Nat}
theorem rows_blk {w:World} {B e size n:Nat} {v:Value} {xs:List Value} (h:w.ownsRow B e size v n xs) {g:Nat} (hg:v.ownBlock=some g):B<=g/\g < w.heap.size/\∃ c,w.heap[g]?=some (.cells c e (0,0)):=by
 rcases h.2 with ⟨rfl,_⟩ | ⟨g',cap,cur,rfl,h1,h2,_⟩
 ·cases hg
 ·obtain rfl:g'=g:=Option.some.inj hg
  exact⟨h1,(Array.getElem?_eq_some_iff.1 h2).1,cur,h2⟩
end
abbrev rptr (a:Nat):Value:=.pointer (some ⟨a,0,none⟩)
section
variable {G:Nat->Prop} {w:World} {r:Nat} {dp:Option Addr} {dc:Nat} {ds:List Value} {lp:Option Addr} {lc:Nat} {fs:List Value} {A:AM.RA}
end
end Go.Proofs.YtlklmhojadlncaaGreat
namespace Go.Proofs.YtlklmhojadlncaaGreat
namespace AM
def secs (n:Nat) (xs:List Nat):List (List Nat):=(List.range n).map (sec xs)
def secsD (n:Nat) (C:List Disk):List (Option (List (List Nat))):=C.map (Option.map (secs n))
theorem secs_len (n:Nat) (xs:List Nat):(secs n xs).length=n:=by simp[secs]
theorem secs_get {n k:Nat} (h:k < n) (xs:List Nat):(secs n xs)[k]?=some (sec xs k):=by simp[secs,h]
theorem secsD_len (n:Nat) (C:List Disk):(secsD n C).length=C.length:=by simp[secsD]
namespace RA
def new (d n:Nat):RA:=⟨List.replicate d (some (List.replicate n (zs 64))),n,[],0,false⟩
end RA
def flOf (l:Wr):Fl:=⟨l.d,l.k,l.now⟩
def redo (C:List Disk) (L:List Wr):List Disk:=L.foldl (fun D l=>lay D l.d l.k l.now) C
structure Sim (R:Raw) (A:RA):Prop where
 ok:R.Ok
 n:A.n=R.n
 left:A.left=R.fuse
 dark:A.dark=R.off
 L:A.L=R.L.map flOf
 D:A.D=secsD R.n (undoTo R.C R.L 0)
 redo:redo (undoTo R.C R.L 0) R.L=R.C
theorem Sim.len {R:Raw} {A:RA} (h:Sim R A):A.D.length=R.C.length:=by rw[h.D,secsD_len,undoTo_len]
theorem undo_on (C:List Disk) (L:List Wr) (j e:Nat):((undoTo C L j).getD e none).isSome=(C.getD e none).isSome:=by
 unfold undoTo
 generalize L.drop j=Z
 induction Z with
 | nil=>rfl
 | cons l r ih=>simp only[List.foldr];rw[lay_on,ih]
theorem burnt_C (R:Raw):R.burnt.C=R.C/\R.burnt.n=R.n/\R.burnt.L=R.L:=by unfold Raw.burnt;split <;> exact⟨rfl,rfl,rfl⟩
theorem undo_fly {C:List Disk} {L:List Wr} {d k:Nat} {b xs:List Nat} (hx:C[d]?=some (some xs)) (hl:k * 64+64<=xs.length) (hb:b.length=64):undoTo (lay C d k b) (L++[⟨d,k,look C d k,b⟩]) 0=undoTo C L 0:=by
 unfold undoTo
 simp only[List.drop_zero,List.foldr_append,List.foldr_cons,List.foldr_nil]
 congr 1
 have e:look C d k=sec xs k:=look_at k hx
 rw[e]
 apply List.ext_getElem?
 intro j
 by_cases c:j=d
 ·subst c
  rw[lay_at _ _ (lay_at k b hx),put_put_sec hb hl,hx]
 ·rw[lay_ne _ _ c,lay_ne _ _ c]
theorem secs_zs (n:Nat):secs n (zs (n * 64))=List.replicate n (zs 64):=by
 apply List.ext_getElem?
 intro j
 by_cases hj:j < n
 ·rw[secs_get hj,sec_zs hj,List.getElem?_replicate,if_pos hj]
 ·rw[List.getElem?_eq_none (by rw[secs_len];omega),List.getElem?_eq_none (by simp;omega)]
theorem sim_new {d n:Nat} (h1:1<=d) (h2:d<=255) (h3:1<=n) (h4:n<=4096):Sim (Raw.new d n) (RA.new d n):=by
 refine⟨Raw.Ok.new h1 h2 h3 h4,rfl,rfl,rfl,rfl,?_,rfl⟩
 show List.replicate d (some (List.replicate n (zs 64)))=secsD n (List.replicate d (some (zs (n * 64))))
 simp[secsD,secs_zs]
end AM
end Go.Proofs.YtlklmhojadlncaaGreat
