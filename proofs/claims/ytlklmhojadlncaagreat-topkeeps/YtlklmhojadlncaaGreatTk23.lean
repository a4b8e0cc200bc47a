/- Packed: MEach9, MAsk9, Iter9, Parts8, Cut9. -/
import Derived.Test.YtlklmhojadlncaaGreatTk22
set_option linter.unusedSimpArgs false
set_option linter.unusedVariables false
set_option maxRecDepth 100000
namespace Go.Proofs.YtlklmhojadlncaaGreat
open Go.RowKit
theorem SP.has_at {R:AM.Raw} {g:SP.Geo} {slot m d:Nat} (h0:R.off=false) (hs:slot < g.s) (hd:d < g.n) (hm:m ≠ 0):SP.hasE R g (d:Int) (slot:Int) m=0/\SP.hasV R g (d:Int) (slot:Int) m=SP.has R g slot m d:=by
 have hy:SP.whyD R g (d:Int) (slot:Int)=0:=by
  unfold SP.whyD
  rw[SP.why_at h0 hs,if_neg (by decide),if_pos ⟨by omega,by omega⟩]
 have e:SP.hasE R g (d:Int) (slot:Int) m=0:=by
  unfold SP.hasE
  rw[if_neg (by omega),if_neg hm]
 refine⟨e,?_⟩
 unfold SP.hasV SP.has
 rw[e,Int.toNat_natCast,Int.toNat_natCast]
 by_cases c:SP.numD R g slot d=m <;> simp[c]
theorem SP.has_first {R:AM.Raw} {g:SP.Geo} {slot:Int} {m:Nat} (hg:1<=g.n):SP.hasE R g ((0:Nat):Int) slot m=SP.askE R g slot m:=by
 have hy:SP.whyD R g ((0:Nat):Int) slot=SP.why R g slot:=by
  unfold SP.whyD
  by_cases c:SP.why R g slot=0
  ·rw[if_neg (by omega),if_pos ⟨by omega,by omega⟩,c]
  ·rw[if_pos c]
 unfold SP.hasE SP.askE
 rw[hy]
theorem geo_k (g:SP.Geo) (W:World):(Instr.field 57 (geoV g) 0).run Tryz.prog W=.ok (.int .i64 (g.k:Int)) W:=by
 simp[Instr.field,run_underlying Tryz.underlying57,geoV,asAgg,part]
theorem geo_n (g:SP.Geo) (W:World):(Instr.field 57 (geoV g) 1).run Tryz.prog W=.ok (.int .i64 (g.n:Int)) W:=by
 simp[Instr.field,run_underlying Tryz.underlying57,geoV,asAgg,part]
theorem geo_s (g:SP.Geo) (W:World):(Instr.field 57 (geoV g) 2).run Tryz.prog W=.ok (.int .i64 (g.s:Int)) W:=by
 simp[Instr.field,run_underlying Tryz.underlying57,geoV,asAgg,part]
section
variable {F F':Nat->Prop} {w w':World} {s a:Nat} {g:SP.Geo} {R R':AM.Raw}
set_option maxHeartbeats 3200000 in
theorem meach_err (h:SI F w s a g R) {slot:Int} {m:Nat} (he:SP.askE R g slot m ≠ 0) (f:Nat) (cap:Array Value) :
 Calls Tryz.prog 47 #[ptr s,.int .i64 slot,.int .u64 (m:Int),.func (.func f) #[] cap] w fun e w'=>e=.returned (.int .i64 (SP.askE R g slot m:Int))/\w.grownBy w' none:=by
 have hn:1<=g.n:=by have:=h.ok.kn;omega
 have H:Hid (SI F w s a g R):=h
 obtain⟨c,hc⟩:∃ c,c=SP.askE R g slot m:=⟨_,rfl⟩
 have HA:Hid (∀ w',w.grownBy w' none->Calls Tryz.prog 67 #[ptr s,.int .i64 0,.int .i64 slot,.int .u64 (m:Int)] w' fun e w''=>(∃ b,e=.returned (.tuple #[.bool b,.int .i64 (c:Int)]))/\w'.grownBy w'' none):=fun w' g1=>by
  refine (shas_all (h.keep g1) ((0:Nat):Int) slot m).mono ?_
  rintro e w'' ⟨rfl,g2⟩
  exact⟨⟨_,by rw[SP.has_first hn,hc]⟩,g2⟩
 rw[<- hc] at he ⊢
 have hne:((c:Int) != 0)=true:=neb_yes (b:=0) he
 have i0:(0:Int) < (g.n:Int):=by omega
 have hgf:=geo_n g
 clear h hc he hn
 go_enter Tryz.func47,Tryz.ntmps47
 go_wp2_with (first
  | (go_at_call 11;refine (sarray_yes H.out).mono ?_;rintro e w9 ⟨rfl,hw9⟩;obtain rfl:=hw9.symm;clear hw9)
  | (go_at_call 34;refine (sgeo_yes H.out).mono ?_;rintro e w1 ⟨rfl,g1⟩;have G1:Hid (w.grownBy w1 none):=g1;clear g1)
  | fail)
 go_loopw [19] (fun ti wr=>ti=.int .i64 0/\Hid (w.grownBy wr none)) (fun _ _=>0)
 case atStart=>exact⟨rfl,G1⟩
 case round =>
  clear G1
  obtain⟨rfl,GK⟩:=hrel
  go_wp2_with (go_at_call 67;refine (HA.out _ GK.out).mono ?_;rintro e w2 ⟨⟨b,rfl⟩,g2⟩;have G2:Hid (w.grownBy w2 none):=grown_trans GK.out g2;clear g2)
  go_ret
  exact⟨rfl,G2.out⟩
set_option maxHeartbeats 6400000 in
theorem meach_any {w0:World} {slot m:Nat} (hs:slot < g.s) (hm:m ≠ 0) {f:Nat} {cap:Array Value} (hf:∀ args w,(callFunc f args).run Tryz.prog w=.ok (.enter f args) w)
 (S:Nat->AM.Raw) (I:Nat->World->Prop) (J:Nat->World->Prop) (er:Nat->Nat)
 (hI:∀ j w',I j w'->(S j).off=false/\∃ F,SI F w' s a g (S j))
 (hK:∀ j w1 w2,I j w1->w1.grownBy w2 none->I j w2)
 (hskip:∀ j w',j < g.n->(S j).on (j:Int)=false->I j w'->I (j+1) w')
 (hstep:∀ j w',j < g.n->(S j).on (j:Int)=true->I j w'->Calls Tryz.prog f (#[.int .i64 (j:Int),.bool (SP.has (S j) g slot m j)]++cap) w' fun e w''=>e=.returned (.int .i64 ((er j:Nat):Int))/\(if er j=0 then I (j+1) w'' else J j w''))
 (hi:I 0 w0) :
 Calls Tryz.prog 47 #[ptr s,.int .i64 (slot:Int),.int .u64 (m:Int),.func (.func f) #[] cap] w0 fun e w'=>(e=.returned (.int .i64 0)/\I g.n w')\/(∃ j,j < g.n/\er j ≠ 0/\e=.returned (.int .i64 ((er j:Nat):Int))/\J j w'):=by
 have HN:Hid (slot < g.s/\m ≠ 0):=⟨hs,hm⟩
 have HI:Hid (∀ j w',I j w'->(S j).off=false/\∃ F,SI F w' s a g (S j)):=hI
 have HK:Hid (∀ j w1 w2,I j w1->w1.grownBy w2 none->I j w2):=hK
 have HS:Hid (∀ j w',j < g.n->(S j).on (j:Int)=false->I j w'->I (j+1) w'):=hskip
 have HT:Hid (∀ j w',j < g.n->(S j).on (j:Int)=true->I j w'->Calls Tryz.prog f (#[.int .i64 (j:Int),.bool (SP.has (S j) g slot m j)]++cap) w' fun e w''=>e=.returned (.int .i64 ((er j:Nat):Int))/\(if er j=0 then I (j+1) w'' else J j w'')):=hstep
 have H0:Hid (I 0 w0):=hi
 obtain⟨_,F0,i0⟩:=HI.out 0 w0 H0.out
 have hn255:g.n<=255:=i0.ok.n255
 have H:Hid (SI F0 w0 s a g (S 0)):=i0
 have hgf:=geo_n g
 clear hs hm hI hK hskip hstep hi i0
 go_enter Tryz.func47,Tryz.ntmps47
 go_wp2_with (first
  | (go_at_call 11;refine (sarray_yes H.out).mono ?_;rintro e w9 ⟨rfl,hw9⟩;obtain rfl:=hw9.symm;clear hw9)
  | (go_at_call 34;refine (sgeo_yes H.out).mono ?_;rintro e w1 ⟨rfl,g1⟩;have I1:Hid (I 0 w1):=HK.out _ _ _ H0.out g1;clear g1)
  | fail)
 clear H H0
 go_loopw [19] (fun ti wr=>∃ k:Nat,k<=g.n/\ti=.int .i64 k/\Hid (I k wr)) (fun ti _=>g.n - (intOf ti).toNat)
 case atStart=>exact⟨0,by omega,rfl,I1⟩
 case round =>
  clear I1
  obtain⟨k,hk,rfl,IK⟩:=hrel
  by_cases hlt:k < g.n
  ·have i4:(k:Int) < (g.n:Int):=by omega
   obtain⟨hoff,F1,i1⟩:=HI.out k wr IK.out
   obtain⟨o,ho⟩:∃ o,o=(S k).on (k:Int):=⟨_,rfl⟩
   obtain⟨b,hb⟩:∃ b,b=SP.has (S k) g slot m k:=⟨_,rfl⟩
   have SA:Hid (∀ w',wr.grownBy w' none->Calls Tryz.prog 11 #[ptr s] w' fun e w''=>e=.returned (ptr a)/\w''=w'):=fun w' g1=>sarray_yes (i1.keep g1)
   have SO:Hid (∀ w',wr.grownBy w' none->Calls Tryz.prog 17 #[ptr a,.int .i64 (k:Int)] w' fun e w''=>e=.returned (.bool o)/\w''=w'):=fun w' g1=>by rw[ho];exact on_yes (i1.keep g1).i (k:Int)
   have SH:Hid (Calls Tryz.prog 67 #[ptr s,.int .i64 (k:Int),.int .i64 (slot:Int),.int .u64 (m:Int)] wr fun e w''=>e=.returned (.tuple #[.bool b,.int .i64 0])/\wr.grownBy w'' none):=by
    have h1:=shas_all i1 (k:Int) (slot:Int) m
    obtain⟨e1,e2⟩:=SP.has_at (d:=k) hoff HN.out.1 hlt HN.out.2
    rw[e1,e2,<- hb] at h1
    exact h1
   have ST:Hid ((S k).on (k:Int)=true->∀ w',I k w'->Calls Tryz.prog f (#[.int .i64 (k:Int),.bool b]++cap) w' fun e w''=>e=.returned (.int .i64 ((er k:Nat):Int))/\(if er k=0 then I (k+1) w'' else J k w'')):=fun hy w' hw=>by rw[hb];exact HT.out k w' hlt hy hw
   have SK:Hid ((S k).on (k:Int)=false->∀ w',I k w'->I (k+1) w'):=fun hy w'=>HS.out k w' hlt hy
   rw[<- ho] at ST SK
   clear i1 ho hb hoff
   cases o
   ·go_wp2_with (first
     | (go_at_call 67;refine SH.out.mono ?_;rintro e w2 ⟨rfl,g2⟩;have G2:Hid (wr.grownBy w2 none):=g2;clear g2)
     | (go_at_call 11;refine (SA.out _ G2.out).mono ?_;rintro e w9 ⟨rfl,hw9⟩;obtain rfl:=hw9.symm;clear hw9)
     | (go_at_call 17;refine (SO.out _ G2.out).mono ?_;rintro e w9 ⟨rfl,hw9⟩;obtain rfl:=hw9.symm;clear hw9))
    go_roundw
    case rel=>exact⟨k+1,by omega,by go_num,SK.out (by first | rfl | trivial) _ (HK.out _ _ _ IK.out G2.out)⟩
    case measure=>simp[intOf];omega
   ·go_wp2_with (first
     | (go_at_call 67;refine SH.out.mono ?_;rintro e w2 ⟨rfl,g2⟩;have G2:Hid (wr.grownBy w2 none):=g2;clear g2)
     | (go_at_call 11;refine (SA.out _ G2.out).mono ?_;rintro e w9 ⟨rfl,hw9⟩;obtain rfl:=hw9.symm;clear hw9)
     | (go_at_call 17;refine (SO.out _ G2.out).mono ?_;rintro e w9 ⟨rfl,hw9⟩;obtain rfl:=hw9.symm;clear hw9)
     | fail)
    refine (ST.out (by first | rfl | trivial) _ (HK.out _ _ _ IK.out G2.out)).mono ?_
    rintro e w3 ⟨rfl,h3⟩
    have H3:Hid (if er k=0 then I (k+1) w3 else J k w3):=h3
    clear h3 ST SK SA SO SH
    obtain⟨c,hc⟩:∃ c,c=er k:=⟨_,rfl⟩
    rw[<- hc] at H3 ⊢
    have HC:Hid (c=er k):=hc
    clear hc
    by_cases h0:c=0
    ·subst h0
     go_wp2
     go_roundw
     case rel=>exact⟨k+1,by omega,by go_num,(by show I (k+1) w3;have:=H3.out;simpa using this)⟩
     case measure=>simp[intOf];omega
    ·have hne:((c:Int) != 0)=true:=neb_yes (b:=0) h0
     have HJ:Hid (J k w3):=by have:=H3.out;rwa [if_neg h0] at this
     have HC0:Hid (er k ≠ 0):=by rw[<- HC.out];exact h0
     clear h0 H3
     go_wp2
     go_ret
     exact .inr ⟨k,hlt,HC0.out,by rw[HC.out];rfl,HJ.out⟩
  ·have i4:¬ (k:Int) < (g.n:Int):=by omega
   have hkn:Hid (k=g.n):=by show _=_;omega
   go_wp2
   go_ret
   exact .inl ⟨rfl,by have:=IK.out;rwa [hkn.out] at this⟩
end
theorem enters_ma:∀ args w,(callFunc 48 args).run Tryz.prog w=.ok (.enter 48 args) w:=by
 intro args w
 simp[go_sem,callFunc,Tryz.func48,Tryz.f48]
section
variable {F F':Nat->Prop} {w w':World} {s a:Nat} {g:SP.Geo} {R R':AM.Raw}
structure MaI (w0:World) (A:Nat) (w:World) (n:Int):Prop where
 ba:Boxed w A 3 (.int .i64 n)
 lA:w0.heap.size<=A
 gr:w0.grownBy w none
theorem ma_each (h:SI F w s a g R) {slot m:Nat} (h0:R.off=false) (hs:slot < g.s) (hm:m ≠ 0) {A:Nat} {w4:World} (T:MaI w A w4 (-(g.k:Int))) :
 Calls Tryz.prog 47 #[ptr s,.int .i64 (slot:Int),.int .u64 (m:Int),.func (.func 48) #[] #[.pointer (some ⟨A,0,none⟩)]] w4 fun e w'=>e=.returned (.int .i64 0)/\MaI w A w' (((SP.hits R g slot m g.n).length:Int) - (g.k:Int)):=by
 have hn:=h.ok.n255
 have hkn:=h.ok.kn
 refine (meach_any (g:=g) (a:=a) hs hm enters_ma (fun _=>R) (fun j w'=>j<=g.n/\MaI w A w' (((SP.hits R g slot m j).length:Int) - (g.k:Int))) (fun _ _=>False) (fun _=>0) ?_ ?_ ?_ ?_ ?_).mono ?_
 ·rintro j w' ⟨_,t⟩
  exact⟨h0,F,h.keep t.gr⟩
 ·rintro j w1 w2 ⟨hj,t⟩ g1
  exact⟨hj,t.ba.kept g1 (by simp),t.lA,grown_trans t.gr g1⟩
 ·rintro j w' hj ho ⟨_,t⟩
  refine⟨by omega,?_⟩
  rw[SP.hits_succ,SP.hits_off ho]
  simpa using t
 ·rintro j w' hj ho ⟨_,t⟩
  have e:=SP.hits_succ R g slot m j
  cases hb:SP.has R g slot m j
  ·rw[hb] at e
   refine (marg_no j).mono ?_
   rintro e2 w2 ⟨rfl,rfl⟩
   refine⟨rfl,?_⟩
   rw[if_pos rfl]
   exact⟨by omega,by rw[e];simpa using t⟩
  ·rw[hb] at e
   have hl:=SP.hits_len_le R g slot m j
   refine (marg_yes t.ba j (by omega) (by omega)).mono ?_
   rintro e2 w2 ⟨rfl,b2,g2⟩
   refine⟨rfl,?_⟩
   rw[if_pos rfl]
   refine⟨by omega,?_,t.lA,grown_new t.gr g2 (fun i e=>by have:=Option.some.inj e;have:=t.lA;omega)⟩
   rw[e]
   have e3:((((SP.hits R g slot m j)++(if true=true then [j] else [])).length:Nat):Int) - (g.k:Int)=((SP.hits R g slot m j).length:Int) - (g.k:Int)+1:=by simp;omega
   rw[e3]
   exact b2
 ·exact⟨by omega,by simpa [SP.hits_zero] using T⟩
 ·rintro e w' (⟨rfl,_,t⟩ | ⟨_,_,hc,_⟩)
  ·exact⟨rfl,t⟩
  ·exact absurd rfl hc
theorem mmarg_all (h:SI F w s a g R) (slot:Int) (m:Nat) :
 Calls Tryz.prog 21 #[ptr s,.int .i64 slot,.int .u64 (m:Int)] w fun e w'=>e=.returned (.tuple #[.int .i64 (SP.marg R g slot m),.int .i64 ((SP.askE R g slot m:Nat):Int)])/\w.grownBy w' none:=by
 have H:Hid (SI F w s a g R):=h
 have hk:g.k<=255:=by have:=h.ok.kn;have:=h.ok.n255;omega
 have hw:IntKind.i64.wrap (-(g.k:Int))=-(g.k:Int):=IntWalk.i64_in _ (by omega)
 have hgf:=geo_k g
 have TM:Hid (∀ w1,w.grownBy w1 none->MaI w w1.heap.size (w1.alloc (.cells #[.int .i64 (-(g.k:Int))] 3)) (-(g.k:Int))):=fun w1 g1=>⟨Boxed.new w1 _ _,g1.size,gb_alloc g1 _⟩
 unfold SP.marg
 by_cases he:SP.askE R g slot m=0
 ·rw[if_pos he,he]
  obtain⟨y,hm⟩:=SP.askE_zero he
  obtain⟨h0,q1,q2⟩:=SP.why_zero y
  obtain⟨sl,rfl⟩:∃ n:Nat,slot=(n:Int):=⟨slot.toNat,by omega⟩
  rw[Int.toNat_natCast]
  have EA:Hid (∀ A w4,MaI w A w4 (-(g.k:Int))->Calls Tryz.prog 47 #[ptr s,.int .i64 (sl:Int),.int .u64 (m:Int),.func (.func 48) #[] #[.pointer (some ⟨A,0,none⟩)]] w4 fun e w'=>e=.returned (.int .i64 0)/\MaI w A w' (((SP.hits R g sl m g.n).length:Int) - (g.k:Int))):=fun A w4 T=>ma_each h h0 (by omega) hm T
  clear h he y hm h0 q1 q2 hk
  go_enter Tryz.func21,Tryz.ntmps21
  go_wp2_with (first
   | (go_at_call 34;refine (sgeo_yes H.out).mono ?_;rintro e w1 ⟨rfl,g1⟩;have G1:Hid (w.grownBy w1 none):=g1;clear g1)
   | (go_at_call 47;refine (EA.out _ _ (TM.out _ G1.out)).mono ?_;rintro e w5 ⟨rfl,t5⟩;have c5:=t5.ba.cell;have T5:Hid (w.grownBy w5 none):=t5.gr;clear t5))
  go_ret2
  exact⟨rfl,T5.out⟩
 ·rw[if_neg he]
  obtain⟨c,hc⟩:∃ c,c=SP.askE R g slot m:=⟨_,rfl⟩
  have EA:Hid (∀ (f:Nat) (cap:Array Value) w4,w.grownBy w4 none->Calls Tryz.prog 47 #[ptr s,.int .i64 slot,.int .u64 (m:Int),.func (.func f) #[] cap] w4 fun e w'=>e=.returned (.int .i64 (c:Int))/\w4.grownBy w' none):=fun f cap w4 g4=>by
   rw[hc]
   exact meach_err (h.keep g4) he f cap
  rw[<- hc] at he ⊢
  have hne:((c:Int) != 0)=true:=neb_yes (b:=0) he
  clear h hc he hk
  go_enter Tryz.func21,Tryz.ntmps21
  go_wp2_with (first
   | (go_at_call 34;refine (sgeo_yes H.out).mono ?_;rintro e w1 ⟨rfl,g1⟩;have G1:Hid (w.grownBy w1 none):=g1;clear g1)
   | (go_at_call 47;refine (EA.out _ _ _ (TM.out _ G1.out).gr).mono ?_;rintro e w5 ⟨rfl,g5⟩;have G5:Hid (w.grownBy w5 none):=grown_trans (TM.out _ G1.out).gr g5;clear g5))
  go_ret2
  exact⟨rfl,G5.out⟩
end
end Go.Proofs.YtlklmhojadlncaaGreat
namespace Go.Proofs.YtlklmhojadlncaaGreat
open Go.RowKit Go.Shelf
attribute [local go_sem] Oper.semAt_some
def encP_c (b off m x:Nat):Array Value:=#[.slice (some ⟨b,off+448 * cl m x,none⟩) 448 448]
theorem chunk9_any (w:World) (p:Option Addr) (n c:Nat) :
 Calls Tryz.prog 74 #[.slice p n c,.int .i64 448] w fun e w'=>e=.returned (.func (.func 89) #[] #[.pointer (some ⟨w.heap.size,0,none⟩),.pointer (some ⟨w.heap.size+1,0,none⟩)])/\w'=(w.alloc (.cells #[.slice p n c] 26)).alloc (.cells #[.int .i64 448] 3):=by
 go_enter Tryz.func74,Tryz.ntmps74
 go_wp2
 go_ret
 exact⟨rfl,rfl⟩
set_option maxRecDepth 100000 in
set_option maxHeartbeats 2000000 in
theorem chunk19_in (n:Nat) (hn:1<=n) (l Bs Bn b off N cap m:Nat) (hN:N=448 * m) (hm:m<=255) (hcap:N<=cap) (J Jx:List Nat->World->Prop)
 (hY:∀ pre x W,J pre W->pre.length < m->YieldAt Fence.wide (n - 1) Tryz.prog l (encP_c b off m x) W fun e W' =>
   (e=.returned (.bool true)/\J (pre++[x]) W'/\Kp7 Bs Bn W W')\/(e=.returned (.bool false)/\Jx (pre++[x]) W'))
 (W:World) (hBs:Boxed W Bs 26 (.slice (some ⟨b,off,none⟩) N cap)) (hBn:Boxed W Bn 3 (.int .i64 448)) (hJd:∀ pre W,J pre W->J pre W.drew) (h0:J [] W) :
 CallsIn Fence.wide n Tryz.prog 89 #[.func (.yield l) #[] #[],.pointer (some ⟨Bs,0,none⟩),.pointer (some ⟨Bn,0,none⟩)] W fun e W'=>(∃ v,e=.returned v) /\
  ((∃ ys,ys=List.range m/\J ys W')\/(∃ pre,(∃ k,k<=m/\pre=List.range k)/\Jx pre W')):=by
 have HN:Hid (N=448 * m/\N<=cap):=⟨hN,hcap⟩
 have HY:Hid _:=hY
 clear hN hcap hY
 refine callsIn_of_wp Tryz.func89 rfl trivial ?_ rfl
 simp only[Tryz.ntmps89,List.size_toArray,List.length_cons,List.length_nil,Nat.reduceAdd,Nat.reduceSub,Array.replicate_succ,Array.replicate_zero,List.push_toArray,List.append_toArray,List.nil_append,List.cons_append]
 gi_wp2
 gi_loopw [4] (fun i wr=>∃ k:Nat,k<=m/\i=.int .i64 (448 * (k:Int))/\Hid (J (List.range k) wr)/\Hid (Boxed wr Bs 26 (.slice (some ⟨b,off,none⟩) N cap)/\Boxed wr Bn 3 (.int .i64 448)))
  (fun i _=>448 * m - (intOf i).toNat)
 case atStart=>exact⟨0,Nat.zero_le _,rfl,h0,hBs,hBn⟩
 case round =>
  clear hBs hBn h0
  obtain⟨k,hk,rfl,hJs,hB⟩:=hrel
  have c1:=hB.out.1.cell
  by_cases hlt:k < m
  ·have i1:448 * (k:Int) < (N:Int):=by have:=HN.out;omega
   have HY2:Hid (YieldAt Fence.wide (n - 1) Tryz.prog l (encP_c b off m k) wr.drew fun e W'=>(e=.returned (.bool true)/\J (List.range k++[k]) W'/\Kp7 Bs Bn wr.drew W')\/(e=.returned (.bool false)/\Jx (List.range k++[k]) W')):=HY.out _ _ _ (hJd _ _ hJs.out) (by simpa using hlt)
   have s1:=fun W=>slice_lo7 (b:=b) (off:=off) (n:=N) (c:=cap) (lo:=448 * k) (by have:=HN.out;omega) HN.out.2 W
   rw[show ((448 * k:Nat):Int)=448 * (k:Int) by omega] at s1
   obtain⟨R,hR⟩:∃ R,R=N - 448 * k:=⟨_,rfl⟩
   rw[<- hR] at s1
   have iR:¬ (R:Int) < 448:=by have:=HN.out;omega
   have HB:Hid (∀ w',wr.grownBy w' none->w'.cell? ⟨Bs,0,none⟩=some (.slice (some ⟨b,off,none⟩) N cap)/\w'.cell? ⟨Bn,0,none⟩=some (.int .i64 448)):=fun w' g=>⟨g.cell hB.out.1.cell (by simp),g.cell hB.out.2.cell (by simp)⟩
   clear hR hJs
   gi_wp2
   refine wpIn_wide.2 ?_
   go_region_held3 (fun w'=>w'.cell? ⟨Bs,0,none⟩=some (.slice (some ⟨b,off,none⟩) N cap)/\w'.cell? ⟨Bn,0,none⟩=some (.int .i64 448)) (first | exact HB.out _ (grown_drewN _ 1)) (fail)
   clear s1 i1
   have eL:encP_c b off m k=#[.slice (some ⟨b,off+448 * k,none⟩) 448 448]:=by simp[encP_c,cl_self hlt]
   rw[eL] at HY2
   obtain⟨fn,tmps,assign,body,hy,hR⟩:=HY2.out
   have s2:=fun W=>slice_lhm (b:=b) (off:=off) (n:=N) (c:=cap) (lo:=448 * k) (hi:=448 * k+448) (by have:=HN.out;omega) (by omega) W
   rw[show ((448 * k+448:Nat):Int)=448 * (k:Int)+448 by omega,show ((448 * k:Nat):Int)=448 * (k:Int) by omega,show 448 * k+448 - 448 * k=448 by omega] at s2
   have d1:wr.drew.cell? ⟨Bs,0,none⟩=some (.slice (some ⟨b,off,none⟩) N cap):=c1
   clear HY2 eL c1
   gi_wp2
   refine hR.mono ?_
   rintro e W3 (⟨rfl,hJ3,hk3⟩ | ⟨rfl,hJx3⟩)
   ·have HJ3:Hid (J (List.range k++[k]) W3):=hJ3
    have hB3:Hid (Boxed W3 Bs 26 (.slice (some ⟨b,off,none⟩) N cap)/\Boxed W3 Bn 3 (.int .i64 448)):=⟨hk3.1.trans hB.out.1,hk3.2.trans hB.out.2⟩
    have c3:=hB3.out.2.cell
    clear hJ3 hk3 hy hR s2 d1
    gi_wp2
    go_roundw
    case rel=>exact⟨k+1,by omega,by go_num,by rw[List.range_succ];exact HJ3,hB3⟩
    case measure=>simp[intOf];omega
   ·have HJ3:Hid (Jx (List.range k++[k]) W3):=hJx3
    clear hJx3 hy hR s2 d1
    gi_wp2
    refine bodyPost_ret (results_none rfl _ _ _) rfl ?_
    exact⟨⟨_,rfl⟩,.inr ⟨_,⟨k+1,by omega,(List.range_succ).symm⟩,HJ3.out⟩⟩
  ·obtain rfl:k=m:=by omega
   have i1:¬ 448 * (k:Int) < (N:Int):=by have:=HN.out;omega
   gi_wp2
   go_end0
   exact⟨⟨_,rfl⟩,.inl hJs.out⟩
end Go.Proofs.YtlklmhojadlncaaGreat
namespace Go.Proofs.YtlklmhojadlncaaGreat
open Go.RowKit
theorem slice_lhh {b off n c lo hi:Nat} (h1:lo<=hi) (h2:hi<=c) (h3:lo < hi) (W:World):(Instr.slice 26 (.slice (some ⟨b,off,none⟩) n c) (some (.int .i64 (lo:Int))) (some (.int .i64 (hi:Int))) (some (.int .i64 (hi:Int)))).run Tryz.prog W=.ok (.slice (some ⟨b,off+lo,none⟩) (hi - lo) (hi - lo)) W:=by
 obtain⟨i0,hi0,hz0,hz1,hz2⟩:=info_parts Tryz.info5
 have e0:(Instr.sliceBound (.int .i64 (hi:Int)) c .slice3Acap).run Tryz.prog W=.ok hi W:=by
  have:=run_sliceBound (P:=Tryz.prog) W .i64 (hi:Int) c .slice3Acap (by omega) (by omega)
  simpa using this
 have e1:(Instr.sliceBound (.int .i64 (hi:Int)) hi .slice3B).run Tryz.prog W=.ok hi W:=by
  have:=run_sliceBound (P:=Tryz.prog) W .i64 (hi:Int) hi .slice3B (by omega) (by omega)
  simpa using this
 have e2:(Instr.sliceBound (.int .i64 (lo:Int)) hi .slice3C).run Tryz.prog W=.ok lo W:=by
  have:=run_sliceBound (P:=Tryz.prog) W .i64 (lo:Int) hi .slice3C (by omega) (by omega)
  simpa using this
 have h4:¬ hi=lo:=by omega
 simp[Instr.slice,run_underlying Tryz.underlying26,Instr.sliceBounds,e0,e1,e2,sizeOf,typeInfo,hi0,hz1,h4,add_off]
def cutsAt (b off j:Nat):List Value:=(List.range j).map fun i=>.slice (some ⟨b,off+448 * i,none⟩) 448 448
theorem cutsAt_len (b off j:Nat):(cutsAt b off j).length=j:=by simp[cutsAt]
theorem cutsAt_succ (b off j:Nat):cutsAt b off (j+1)=cutsAt b off j++[.slice (some ⟨b,off+448 * j,none⟩) 448 448]:=by simp[cutsAt,List.range_succ]
theorem Vec.part {w:World} {b off n c i:Nat} {xs:List Nat} (h:Vec w (.slice (some ⟨b,off,none⟩) n c) xs) (hi:448 * i+448<=xs.length):Vec w (.slice (some ⟨b,off+448 * i,none⟩) 448 448) ((xs.drop (448 * i)).take 448):=by
 have hl:((xs.drop (448 * i)).take 448).length=448:=by simp;omega
 refine⟨fun x hx=>h.small x (List.mem_of_mem_drop (List.mem_of_mem_take hx)),by omega,some ⟨b,off+448 * i,none⟩,448,by rw[hl],by omega,by decide,fun _=>⟨b,off+448 * i,rfl,fun j hj=>?_⟩⟩
 rw[hl] at hj
 obtain⟨p',cap',e,h3,h4,h5⟩:=h.form
 injection e with e1 e2 e3
 obtain⟨b',off',e',hc⟩:=h5 (fun e=>by subst e;simp at hi)
 rw[<- e1] at e'
 injection e' with e'
 injection e' with e3 e4
 subst e3
 subst e4
 rw[Nat.add_assoc,hc (448 * i+j) (by omega)]
 simp[List.getD,hj]
theorem cuts_mat {w:World} {B b off n c k:Nat} {v:Value} {xs:List Nat} (h:Vec w (.slice (some ⟨b,off,none⟩) n c) xs) (hl:xs.length=k * 448) (o:Out B w v (cutsAt b off k)):Mat w v (cutsAt b off k) (SP.parts xs k) :=
 ⟨o.cells,by rw[cutsAt_len,SP.parts_len],fun j hj=>by
   rw[SP.parts_len] at hj
   rw[SP.parts_get xs hj,show (cutsAt b off k).getD j undef=.slice (some ⟨b,off+448 * j,none⟩) 448 448 from by simp[cutsAt,List.getD,hj]]
   exact h.part (by have:(j+1) * 448<=k * 448:=Nat.mul_le_mul_right _ hj
                    omega)⟩
set_option maxHeartbeats 3200000 in
theorem sparts_yes {w:World} {v:Value} {xs:List Nat} {k:Nat} (hv:Vec w v xs) (hk:1<=k) (hk2:k<=255) (hl:xs.length=k * 448) :
 Calls Tryz.prog 54 #[v] w fun e w'=>∃ u us,e=.returned u/\Mat w' u us (SP.parts xs k)/\w.grownBy w' none:=by
 obtain⟨q,N,cap,rfl,hN⟩:=hv.opened
 obtain⟨b,off,rfl,_⟩:=hv.spot (k:=0) (by omega)
 have hcap:N<=cap:=by
  obtain⟨p',cap',e,h3,_⟩:=hv.form
  injection e with e1 e2 e3
  omega
 have HV:Hid (Vec w (.slice (some ⟨b,off,none⟩) N cap) xs):=hv
 have hq:(N:Int) / 448=(k:Int):=by omega
 obtain⟨w1,hmk,hrow,g1⟩:=run_make_rows0 w (n:=k) (by omega)
 have HR:Hid (w1.ownsRow w.heap.size 26 1 (.slice (some ⟨w.heap.size,0,none⟩) 0 k) 0 []):=hrow
 have HG:Hid (w.grownBy w1 none):=g1
 have HN:Hid (N=448 * k/\xs.length=k * 448/\N<=cap/\k<=255):=⟨by omega,hl,hcap,hk2⟩
 clear hv hN hcap hl hrow g1
 go_enter Tryz.func54,Tryz.ntmps54
 go_wp2_with fail
 clear hmk hq
 go_loopw [3,4] (fun tl ti wr=>∃ j:Nat,j<=k/\ti=.int .i64 ((448 * j:Nat):Int)/\Hid (Out w.heap.size wr tl (cutsAt b off j))/\Hid (w.grownBy wr none)) (fun _ ti _=>448 * k - (intOf ti).toNat)
 case atStart=>exact⟨0,by omega,rfl,⟨by simp[cutsAt],HR.out⟩,HG⟩
 case round =>
  clear HR HG
  obtain⟨j,hj,rfl,OK,GK⟩:=hrel
  obtain⟨t,ht⟩:∃ t,t=448 * j:=⟨_,rfl⟩
  rw[<- ht]
  have HT:Hid (t=448 * j):=ht
  by_cases hlt:j < k
  ·have i3:(t:Int) < (N:Int):=by have:=HN.out;omega
   have hn1:(j+1) * 448<=k * 448:=Nat.mul_le_mul_right _ hlt
   obtain⟨t1,ht1⟩:∃ t1,t1=t+448:=⟨_,rfl⟩
   have hw:IntKind.i64.wrap ((t:Int)+448)=(t1:Int):=by
    have e:(t:Int)+448=(t1:Int):=by omega
    rw[e]
    exact IntWalk.i64_in _ (by have:=HN.out;omega)
   have hsl:=fun W=>slice_lhh (b:=b) (off:=off) (n:=N) (c:=cap) (lo:=t) (hi:=t1) (by omega) (by have:=HN.out;omega) (by omega) W
   rw[show t1 - t=448 by omega] at hsl
   have HT1:Hid (t1=448 * (j+1)):=by show _=_;omega
   have HL:Hid ((((cutsAt b off j).length+1) * 24<=140737488351232)):=by show _<=_;rw[cutsAt_len];have:=HN.out;omega
   have HS:Hid (cutsAt b off (j+1)=cutsAt b off j++[.slice (some ⟨b,off+t,none⟩) 448 448]):=by rw[ht];exact cutsAt_succ b off j
   have HLN:Hid ((cutsAt b off j).length=j):=cutsAt_len b off j
   clear ht ht1 hn1
   generalize cutsAt b off j=CJ at *
   go_wp2_with (at_builtin;refine wpList_append_row rfl _ _ rfl _ ⟨wr.heap.size,0,none⟩ rfl rfl (OK.out.keep (World.grownBy_alloc wr _ none)).row (cell_new1 _ _ rfl) rfl (gb_alloc GK.out _).size HL.out ?_;intro v3 w3 r3 g3 at3;have M3:Hid (Out w.heap.size w3 v3 (CJ++[.slice (some ⟨b,off+t,none⟩) 448 448])):=⟨by have:=HL.out;simpa using this,by simpa using r3⟩;have G3:Hid (w.grownBy w3 none):=grown_new (gb_alloc GK.out _) g3 (fun i e=>OK.out.lo i e);clear r3 g3 at3)
   go_roundw
   case rel=>exact⟨j+1,by omega,by rw[HT1.out],by rw[HS.out];exact M3.out,G3⟩
   case measure =>
    have:=HT1.out
    have:=HT.out
    have:=HN.out
    simp[intOf]
    omega
  ·have i3:¬ (t:Int) < (N:Int):=by have:=HN.out;omega
   have hjk:j=k:=by omega
   subst hjk
   clear ht
   go_wp2
   go_ret
   first
    | exact⟨_,_,rfl,cuts_mat (HV.out.keep GK.out) HN.out.2.1 OK.out,GK.out⟩
    | exact⟨_,rfl,⟨_,cuts_mat (HV.out.keep GK.out) HN.out.2.1 OK.out⟩,GK.out⟩
end Go.Proofs.YtlklmhojadlncaaGreat
namespace Go.Proofs.YtlklmhojadlncaaGreat
open Go.RowKit Go.Shelf
attribute [local go_sem] Oper.semAt_some
theorem chunk9_stops (n:Nat) (hn:1<=n) (Bs Bn b off N cap m:Nat) (hN:N=448 * m) (hm:m<=255) (hcap:N<=cap) (w:World) (hBs:Boxed w Bs 26 (.slice (some ⟨b,off,none⟩) N cap)) (hBn:Boxed w Bn 3 (.int .i64 448)) :
 SeqStopsK Fence.wide n Tryz.prog 89 #[.pointer (some ⟨Bs,0,none⟩),.pointer (some ⟨Bn,0,none⟩)] (fun x:Nat=>encP_c b off m x) (Kp7 Bs Bn) (fun ys=>ys=List.range m) (fun pre=>∃ k,k<=m/\pre=List.range k) m w:=fun l J Jx W hW hJ _ hY h0 =>
 chunk19_in n hn l Bs Bn b off N cap m hN hm hcap J Jx hY W ((hW.block Bs hBs.lt).trans hBs) ((hW.block Bn hBn.lt).trans hBn) (fun pre W h=>hJ pre W _ none h (grown_drewN W 1) (by simp)) h0
def cutsOf (b off m:Nat) (pre:List Nat):List Value:=pre.map fun i=>.slice (some ⟨b,off+448 * cl m i,none⟩) 448 448
theorem cutsOf_all (b off m:Nat):cutsOf b off m (List.range m)=cutsAt b off m:=by
 unfold cutsOf cutsAt
 refine List.map_congr_left fun i hi=>?_
 rw[cl_self (List.mem_range.1 hi)]
structure CutP (w:World) (m M b off N cap:Nat) (pre:List Nat) (W:World) (dv:Value):Prop where
 made:Boxed W M 88 dv
 row:W.ownsRow w.heap.size 26 1 dv pre.length (cutsOf b off m pre)
 bs:Boxed W (M+1) 26 (.slice (some ⟨b,off,none⟩) N cap)
 bn:Boxed W (M+2) 3 (.int .i64 448)
 ne:dv.ownBlock ≠ some (M+1)
 lM:w.heap.size<=M
 gr:w.grownBy W none
theorem CutP.kept {w:World} {m M b off N cap:Nat} {pre:List Nat} {W W':World} {dv:Value} {row:Option Nat} (h:CutP w m M b off N cap pre W dv) (g:W.grownBy W' row)
 (hr:∀ r,row=some r->w.heap.size<=r/\∃ o:Obj,W.heap[r]?=some o/\o.isCells=false):CutP w m M b off N cap pre W' dv:=by
 have bx:∀ {B:Nat} {t:TypeId} {v:Value},Boxed W B t v->Boxed W' B t v:=fun hb=>hb.kept g fun e=>by
  obtain⟨_,o,ho,hc⟩:=hr _ e.symm
  rw[show W.heap[_]?=_ from hb] at ho
  cases ho;cases hc
 refine⟨bx h.made,h.row.kept g ?_,bx h.bs,bx h.bn,h.ne,h.lM,grown_new h.gr g (fun r e=>(hr r e).1)⟩
 rcases h.row.2 with ⟨e,_⟩ | ⟨b',cp,cur,e,_,hg,_⟩
 ·subst e;exact .inl rfl
 ·subst e
  refine .inr fun e=>?_
  obtain⟨_,o,ho,hc⟩:=hr b' (by simpa [Value.ownBlock] using e.symm)
  rw[hg] at ho
  cases ho;cases hc
theorem CutP.own (w:World) (m M b off N cap B:Nat) (hB:w.heap.size<=B):OwnFrom B (fun (pre:List Nat) W=>∃ dv,CutP w m M b off N cap pre W dv) :=
 fun _ _ _ _ ⟨dv,h⟩ g hr=>⟨dv,h.kept g fun r e=>⟨Nat.le_trans hB (hr r e).1,(hr r e).2⟩⟩
theorem CutP.more {w:World} {m M b off N cap:Nat} {pre:List Nat} {W w5:World} {dv v':Value} {x:Nat} (C:CutP w m M b off N cap pre W dv)
 (r5:w5.ownsRow w.heap.size 26 1 v' (pre.length+1) (cutsOf b off m pre++[.slice (some ⟨b,off+448 * cl m x,none⟩) 448 448])) (g5:W.grownBy w5 dv.ownBlock) (at5:v'.ownBlock=dv.ownBlock\/v'.ownBlock=some W.heap.size) :
 Boxed w5 M 88 dv/\CutP w m M b off N cap (pre++[x]) (w5.setCell ⟨M,0,none⟩ v') v'/\KeepsOthers W (w5.setCell ⟨M,0,none⟩ v'):=by
 have b1:Boxed w5 M 88 dv:=C.made.kept g5 (C.made.not_row (by decide) C.row)
 have gs:=grownBy_setCell' w5 M v'
 have lm:=C.bs.lt
 have ln:=C.lM
 refine⟨b1,⟨b1.set _,?_,((C.bs.kept g5 (fun e=>C.ne e.symm)).kept gs (by simp)),((C.bn.kept g5 (C.bn.not_row (by decide) C.row)).kept gs (by simp)),?_,C.lM,?_⟩,?_⟩
 ·have e:cutsOf b off m (pre++[x])=cutsOf b off m pre++[.slice (some ⟨b,off+448 * cl m x,none⟩) 448 448]:=by simp[cutsOf]
  rw[e,List.length_append]
  refine r5.kept gs (.inr ?_)
  obtain⟨g',cap',rfl⟩:=ownsRow_succ r5
  intro e2
  obtain rfl:g'=M:=by simpa [Value.ownBlock] using e2
  exact b1.not_row (by decide) r5 (by simp[Value.ownBlock])
 ·rcases at5 with e | e
  ·rw[e];exact C.ne
  ·rw[e];intro e2;have:=Option.some.inj e2;omega
 ·exact grown_new (grown_new C.gr g5 (fun i e=>(C.row.lt i e).1)) gs (fun i e=>by have:=Option.some.inj e;omega)
 ·refine (KeepsOthers.of_grownBy g5 fun j o' ej hj=>?_).trans (KeepsOthers.setCell _ _ _)
  rcases C.row.2 with ⟨rfl,_⟩ | ⟨g,cp,cur,rfl,_,hgb,_⟩
  ·simp[Value.ownBlock] at ej
  ·obtain rfl:g=j:=by simpa [Value.ownBlock] using ej
   rw[hgb] at hj;cases hj;rfl
set_option maxRecDepth 100000 in
set_option maxHeartbeats 2000000 in
theorem mcut_any {w:World} {m b off N cap:Nat} {xs:List Nat} (hv:Vec w (.slice (some ⟨b,off,none⟩) N cap) xs) (hN:N=448 * m) (hx:xs.length=m * 448) (hm0:0 < m) (hm:m<=255) (hcap:N<=cap) :
 Calls Tryz.prog 57 #[.slice (some ⟨b,off,none⟩) N cap] w fun e w'=>∃ u,e=.returned u/\Out w.heap.size w' u (cutsAt b off m)/\w.grownBy w' none:=by
 have HN:Hid (N=448 * m/\xs.length=m * 448/\0 < m/\m<=255/\N<=cap):=⟨hN,hx,hm0,hm,hcap⟩
 have hq:(N:Int) / 448=(m:Int):=by omega
 obtain⟨w1,hmk,hrow,g1⟩:=run_make_rows0 w (n:=m) (by omega)
 have HR:Hid (w1.ownsRow w.heap.size 26 1 (.slice (some ⟨w.heap.size,0,none⟩) 0 m) 0 []):=hrow
 have HG:Hid (w.grownBy w1 none):=g1
 clear hv hN hx hm0 hcap hrow g1
 refine (callsIn_wide (n:=5)).1 ?_
 refine callsIn_of_wp_marks Tryz.func57 rfl trivial ?_ rfl
 simp only[Tryz.ntmps57,List.size_toArray,List.length_cons,List.length_nil,Nat.reduceAdd,Nat.reduceSub,Array.replicate_succ,Array.replicate_zero,List.push_toArray,List.append_toArray,List.nil_append,List.cons_append]
 gi_wp2_with (refine⟨trivial,?_⟩;gi_at_call 74;refine (callsIn_wide.2 (chunk9_any _ _ _ _)).mono ?_;rintro e w2 ⟨rfl,rfl⟩)
 have I0:CutP w m w1.heap.size b off N cap [] (((w1.alloc (.cells #[.slice (some ⟨w.heap.size,0,none⟩) 0 m] 88)).alloc (.cells #[.slice (some ⟨b,off,none⟩) N cap] 26)).alloc (.cells #[.int .i64 448] 3)) (.slice (some ⟨w.heap.size,0,none⟩) 0 m):=by
  have hR:=HR.out
  have hlt:=hR.lt w.heap.size rfl
  have hsz:=HG.out.size
  have ga:=World.grownBy_alloc w1 (.cells #[.slice (some ⟨w.heap.size,0,none⟩) 0 m] 88) none
  have gb:=gb_alloc ga (.cells #[.slice (some ⟨b,off,none⟩) N cap] 26)
  have gc:=gb_alloc gb (.cells #[.int .i64 448] 3)
  refine⟨((Boxed.new w1 _ _).alloc _).alloc _,?_,?_,?_,?_,hsz,grown_trans HG.out gc⟩
  ·exact hR.kept gc (.inr (by simp[Value.ownBlock]))
  ·have h1:=Boxed.new (w1.alloc (.cells #[.slice (some ⟨w.heap.size,0,none⟩) 0 m] 88)) 26 (.slice (some ⟨b,off,none⟩) N cap)
   rw[World.size_alloc] at h1
   exact h1.alloc _
  ·have h1:=Boxed.new ((w1.alloc (.cells #[.slice (some ⟨w.heap.size,0,none⟩) 0 m] 88)).alloc (.cells #[.slice (some ⟨b,off,none⟩) N cap] 26)) 3 (.int .i64 448)
   rw[World.size_alloc,World.size_alloc] at h1
   exact h1
  ·simp only[Value.ownBlock];intro e;have:=Option.some.inj e;omega
 have HI0:Hid (CutP w m w1.heap.size b off N cap [] (((w1.alloc (.cells #[.slice (some ⟨w.heap.size,0,none⟩) 0 m] 88)).alloc (.cells #[.slice (some ⟨b,off,none⟩) N cap] 26)).alloc (.cells #[.int .i64 448] 3)) (.slice (some ⟨w.heap.size,0,none⟩) 0 m)):=I0
 clear I0 hmk HR HG
 generalize w1.heap.size=M at *
 generalize ((w1.alloc (.cells #[.slice (some ⟨w.heap.size,0,none⟩) 0 m] 88)).alloc (.cells #[.slice (some ⟨b,off,none⟩) N cap] 26)).alloc (.cells #[.int .i64 448] 3)=W0 at *
 have hWs:w.heap.size<=W0.heap.size:=HI0.out.gr.size
 refine wpIn_rangeFunc_ownG rfl (by decide) (gf:=89) (lb:=#[.pointer (some ⟨M+1,0,none⟩),.pointer (some ⟨M+2,0,none⟩)]) rfl trivial (enters_of Tryz.func89 (by kernel_rfl) rfl)
  (chunk9_stops 4 (by decide) (M+1) (M+2) b off N cap m HN.out.1 HN.out.2.2.2.1 HN.out.2.2.2.2 W0 HI0.out.bs HI0.out.bn)
  (fun h k=>⟨k.1.trans h.1,k.2.trans h.2⟩) (fun W l o o' hl h _ _=>⟨World.putObj_heap_other (by have:=HI0.out.bs.lt;omega),World.putObj_heap_other (by have:=HI0.out.bn.lt;omega)⟩) (Below.refl _ _) (fun _=>rfl)
  (fun pre W=>∃ dv,CutP w m M b off N cap pre W dv) (fun _ _ _=>False)
  (CutP.own w m M b off N cap _ hWs) (fun _ _ _ _ _ hs _ _=>hs) ⟨_,HI0.out⟩
  (fun x=>{ tmps:=#[.slice (some ⟨b,off,none⟩) N cap,undef,.slice none 0 0,.pointer (some ⟨M,0,none⟩),.slice (some ⟨b,off+448 * cl m x,none⟩) 448 448,
    .slice (some ⟨b,off,none⟩) N cap,.int .i64 (N:Int),.int .i64 (m:Int),.slice (some ⟨w.heap.size,0,none⟩) 0 m,.slice (some ⟨b,off,none⟩) N cap,
    .func (.func 89) #[] #[.pointer (some ⟨M+1,0,none⟩),.pointer (some ⟨M+1+1,0,none⟩)],.slice (some ⟨b,off+448 * cl m x,none⟩) 448 448,undef,undef,undef,undef,undef],defers:=[] }) ?assign ?body ?done ?stop
 case assign =>
  intro l x W K hK
  dsimp only[encP_c]
  gi_wp2
  exact hK
 case body =>
  rintro l pre x W ⟨dv,C⟩ hlen
  have cM:=C.made.cell
  have HC:Hid (CutP w m M b off N cap pre W dv):=C
  have CA:Hid (CutP w m M b off N cap pre (W.alloc (.cells #[.slice (some ⟨b,off+448 * cl m x,none⟩) 448 448] 26)) dv):=C.kept (World.grownBy_alloc W _ none) (by simp)
  have LL:Hid ((pre.length+1) * 24<=140737488351232/\w.heap.size<=W.heap.size/\(cutsOf b off m pre).length=pre.length):=⟨by omega,C.gr.size,by simp[cutsOf]⟩
  have cl5:(cutsOf b off m pre).length=pre.length:=LL.out.2.2
  clear C
  obtain⟨i0,hi,hz0,hz1,hz2⟩:=info_parts Tryz.info22
  gi_wp2_with (gi_at_builtin;refine wpListIn_append_own_at _ rfl _ _ 88 rfl w.heap.size 26 i0 (.slice none 0 0) 1 24 Tryz.underlying88 hi hz0 hz1 hz2 rfl (by decide) dv pre.length (cutsOf b off m pre) rfl CA.out.row ⟨W.heap.size,0,none⟩ 1 1 [.slice (some ⟨b,off+448 * cl m x,none⟩) 448 448] rfl rfl (cell_one_new _ _ _) (by simp[Value.oneCell']) (by have:=LL.out.1;unfold maxLen;omega) (by have:=LL.out.1;omega) (by have:=LL.out.2.1;simp;omega) ?_;intro v' w5 r5 g5 hz5 at5;obtain⟨g',cap',rfl⟩:=ownsRow_succ r5;clear hz5;obtain⟨k1,k2,k3⟩:=CutP.more (x:=x) CA.out r5 g5 at5;have K2:Hid (CutP w m M b off N cap (pre++[x]) (w5.setCell ⟨M,0,none⟩ (.slice (some ⟨g',0,none⟩) (pre.length+1) cap')) (.slice (some ⟨g',0,none⟩) (pre.length+1) cap')):=k2;have K3:Hid (KeepsOthers W (w5.setCell ⟨M,0,none⟩ (.slice (some ⟨g',0,none⟩) (pre.length+1) cap'))):=(KeepsOthers.alloc _ _).trans k3;have c5:=k1.cell;have f5:=k1.frozen;clear r5 g5 at5 k1 k2 k3)
  exact⟨K3.out.from _,⟨K2.out.bs.trans HC.out.bs.symm,K2.out.bn.trans HC.out.bn.symm⟩,_,K2.out⟩
 case done =>
  rintro D ys W hD rfl ⟨dv,C⟩ hK
  have cM:=C.made.cell
  have HC:Hid (CutP w m M b off N cap (List.range m) W dv):=C
  have HD:Hid (w.heap.size<=D):=Nat.le_trans hWs hD
  have HK:Hid (W.heap[D]?=some (.deferred (some []))):=hK
  clear C
  gi_wp2
  refine⟨by simp,.inl ⟨_,_,rfl,run_takeDeferred HK.out,?_⟩⟩
  have gp:=grownBy_putObj' W D (.deferred none)
  refine⟨_,results_tmp rfl _ _ _,_,rfl,?_,grown_new HC.out.gr gp (fun i e=>by have:=Option.some.inj e;have:=HD.out;omega)⟩
  rw[<- cutsOf_all]
  have h1:=(HC.out.kept gp (fun r e=>by have:=Option.some.inj e;subst this;exact⟨HD.out,_,HK.out,rfl⟩)).row
  have hl:(cutsOf b off m (List.range m)).length=(List.range m).length:=by simp[cutsOf]
  exact⟨by rw[hl];simp;omega,by rw[hl];exact h1⟩
 case stop =>
  rintro D c pre W _ _ h _
  exact h.elim
end Go.Proofs.YtlklmhojadlncaaGreat
