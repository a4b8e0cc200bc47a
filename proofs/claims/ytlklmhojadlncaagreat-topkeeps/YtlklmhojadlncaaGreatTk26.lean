/- Packed: New8, Ply6, RNew8, Made8, Data8, Write8, Awk8, Run9. -/
import Derived.Test.YtlklmhojadlncaaGreatTk25
set_option linter.unusedSimpArgs false
set_option linter.unusedVariables false
set_option maxRecDepth 100000
namespace Go.Proofs.YtlklmhojadlncaaGreat
open Go.RowKit
def SP.okNew (R:AM.Raw) (K N S f:Int):Bool:=mayI K N&&(decide (1<=S)&&(decide (S<=128)&&(decide (0<=f)&&(decide ((R.C.length:Int)=N)&&decide (f<=(R.n:Int) - 8 * S)))))
theorem SP.okNew_iff {R:AM.Raw} {K N S f:Int}:SP.okNew R K N S f=true ↔ (1<=K/\K < N/\N<=255)/\1<=S/\S<=128/\0<=f/\(R.C.length:Int)=N/\f<=(R.n:Int) - 8 * S:=by
 unfold SP.okNew
 simp only[Bool.and_eq_true,decide_eq_true_eq,mayI_iff]
section
variable {F F':Nat->Prop} {w w':World} {s a:Nat} {g:SP.Geo} {R R':AM.Raw}
set_option maxHeartbeats 6400000 in
theorem sfits_any (h:Is F w a R) {K N S f:Int} (hS:1<=S) (hS2:S<=128) :
 Calls Tryz.prog 51 #[ptr a,.agg #[.int .i64 K,.int .i64 N,.int .i64 S],.int .i64 f] w fun e w'=>e=.returned (.bool (decide ((R.C.length:Int)=N)&&decide (f<=(R.n:Int) - 8 * S)))/\w.grownBy w' none:=by
 have hn2:=h.ok.n2
 obtain⟨L,hL⟩:∃ L,L=R.C.length:=⟨_,rfl⟩
 obtain⟨n,hn⟩:∃ n,n=R.n:=⟨_,rfl⟩
 have GA:Hid (w.grownBy (w.alloc (.cells #[.int .i64 K,.int .i64 N,.int .i64 S] 57)) none):=World.grownBy_alloc w _ none
 have Q1:Hid (∀ w1,w.grownBy w1 none->Calls Tryz.prog 29 #[ptr a] w1 fun e w'=>e=.returned (.int .i64 (L:Int))/\w'=w1):=fun w1 g1=>by rw[hL];exact disks_yes (h.keep g1)
 have Q2:Hid (∀ w1,w.grownBy w1 none->Calls Tryz.prog 68 #[ptr a] w1 fun e w'=>e=.returned (.int .i64 (n:Int))/\w'=w1):=fun w1 g1=>by rw[hn];exact sectors_yes (h.keep g1)
 rw[<- hL,<- hn]
 have hw1:IntKind.i64.wrap (8 * S)=8 * S:=IntWalk.i64_in _ (by omega)
 have hw2:IntKind.i64.wrap ((n:Int) - 8 * S)=(n:Int) - 8 * S:=IntWalk.i64_in _ (by omega)
 clear h hn2 hL hn hS hS2
 by_cases h1:(L:Int)=N
 ·have i1:((L:Int)==N)=true:=by simp[h1]
  rw[decide_eq_true h1,Bool.true_and]
  clear h1
  go_enter Tryz.func51,Tryz.ntmps51
  go_wp2_with fail
  go_quiet ((first
   | (go_at_call 29;exact Calls.quiet_of_same (Q1.out _ (grown_trans GA.out (grown_drewN _ _))))
   | (go_at_call 68;exact Calls.quiet_of_same (Q2.out _ (grown_trans GA.out (grown_drewN _ _))))))
  go_wp2
  go_ret
  exact⟨rfl,by first | exact grown_trans GA.out (grown_drewN _ _) | exact GA.out | exact gb_drew GA.out⟩
 ·have i1:((L:Int)==N)=false:=by simp[h1]
  rw[decide_eq_false h1,Bool.false_and]
  clear h1
  go_enter Tryz.func51,Tryz.ntmps51
  go_wp2_with fail
  go_quiet ((first
   | (go_at_call 29;exact Calls.quiet_of_same (Q1.out _ (grown_trans GA.out (grown_drewN _ _))))
   | (go_at_call 68;exact Calls.quiet_of_same (Q2.out _ (grown_trans GA.out (grown_drewN _ _))))))
  go_wp2
  go_ret
  exact⟨rfl,by first | exact grown_trans GA.out (grown_drewN _ _) | exact GA.out | exact gb_drew GA.out⟩
set_option maxHeartbeats 6400000 in
theorem snew_yes (h:Is F w a R) (hg:g.Ok R) :
 Calls Tryz.prog 24 #[ptr a,geoV g,.int .i64 (g.f:Int)] w fun e w'=>∃ s,e=.returned (.tuple #[ptr s,.int .i64 0])/\SI F w' s a g R/\w.heap.size<=s/\w.grownBy w' none:=by
 have hk:mayI (g.k:Int) (g.n:Int)=true:=mayI_iff.2 ⟨by have:=hg.k1;omega,by have:=hg.kn;omega,by have:=hg.n255;omega⟩
 have i1:¬ (g.s:Int) < 1:=by have:=hg.s1;omega
 have i2:¬ (128:Int) < (g.s:Int):=by have:=hg.s2;omega
 have i3:¬ (g.f:Int) < 0:=by omega
 have FI:Hid (∀ w',w.grownBy w' none->Calls Tryz.prog 51 #[ptr a,geoV g,.int .i64 (g.f:Int)] w' fun e w''=>e=.returned (.bool true)/\w'.grownBy w'' none):=fun w' g1=>by
  refine (sfits_any (h.keep g1) (K:=(g.k:Int)) (N:=(g.n:Int)) (S:=(g.s:Int)) (f:=(g.f:Int)) (by have:=hg.s1;omega) (by have:=hg.s2;omega)).mono ?_
  rintro e w'' ⟨rfl,g2⟩
  refine⟨?_,g2⟩
  rw[decide_eq_true (show (R.C.length:Int)=(g.n:Int) by have:=hg.len;omega),decide_eq_true (show (g.f:Int)<=(R.n:Int) - 8 * (g.s:Int) by have:=hg.room;omega)]
  rfl
 have MA:Hid (∀ w',Calls Tryz.prog 50 #[.int .i64 (g.k:Int),.int .i64 (g.n:Int)] w' fun e w''=>e=.returned (.bool true)/\w''=w'):=fun w'=>by
  have:=codeMay_any (g.k:Int) (g.n:Int) w'
  rwa [hk] at this
 have H:Hid (Is F w a R/\g.Ok R):=⟨h,hg⟩
 have GA:Hid (w.grownBy (w.alloc (.cells #[.int .i64 (g.k:Int),.int .i64 (g.n:Int),.int .i64 (g.s:Int)] 57)) none):=World.grownBy_alloc w _ none
 have GC:Hid (∀ w',(w.alloc (.cells #[.int .i64 (g.k:Int),.int .i64 (g.n:Int),.int .i64 (g.s:Int)] 57)).grownBy w' none->w'.cell? ⟨w.heap.size,0,none⟩=some (.int .i64 (g.k:Int))/\w'.cell? ⟨w.heap.size,1,none⟩=some (.int .i64 (g.n:Int))/\w'.cell? ⟨w.heap.size,2,none⟩=some (.int .i64 (g.s:Int))):=fun w' g1=>by
  have h0:=heap_alloc_new w (.cells #[.int .i64 (g.k:Int),.int .i64 (g.n:Int),.int .i64 (g.s:Int)] 57)
  exact⟨g1.cell (cell_of_row _ _ 0 _ _ _ h0) (by simp),g1.cell (cell_of_row _ _ 1 _ _ _ h0) (by simp),g1.cell (cell_of_row _ _ 2 _ _ _ h0) (by simp)⟩
 clear h hg hk
 go_enter Tryz.func24,Tryz.ntmps24
 go_wp2_with (first
  | (go_at_call 50;refine (MA.out _).mono ?_;rintro e w9 ⟨rfl,hw9⟩;obtain rfl:=hw9.symm;clear hw9)
  | (go_at_call 51;refine (FI.out _ GA.out).mono ?_;rintro e w2 ⟨rfl,g2⟩;have G2:Hid (w.grownBy w2 none):=grown_trans GA.out g2;obtain⟨hb1,hb2,hb3⟩:=GC.out w2 g2;clear g2))
 go_ret2
 have g3:=gb_alloc G2.out (.cells #[ptr a,.int .i64 (g.k:Int),.int .i64 (g.n:Int),.int .i64 (g.s:Int),.int .i64 (g.f:Int)] 70)
 exact⟨_,rfl,⟨H.out.1.keep g3,heap_alloc_new w2 _,fun hf=>(by have h1:=H.out.1.lt _ hf;have h2:=G2.out.size;omega),H.out.2⟩,G2.out.size,g3⟩
end
section
variable {F G F' G':Nat->Prop} {w0 w w':World} {a r:Nat} {R R':AM.Raw} {A A':AM.RA}
theorem rnew_at {w:World} {N n:Nat} (h1:1<=N) (h2:N<=255) (h3:1<=n) (h4:n<=4096) {c d:Int} (hc:(N:Int)=c) (hd:(n:Int)=d) :
 Calls Tryz.prog 23 #[.int .i64 c,.int .i64 d] w fun e w'=>∃ r,e=.returned (.tuple #[rptr r,.int .i64 0])/\∃ G,RIs G w' r (AM.RA.new N n)/\Base w G w':=by
 subst hc
 subst hd
 exact rnew_yes h1 h2 h3 h4
end
structure RSI (G:Nat->Prop) (w:World) (t r:Nat) (g:SP.Geo) (R:AM.Raw):Prop where
 j:∃ A,RIs G w r A/\AM.Sim R A
 top:w.heap[t]?=some (.cells #[rptr r,.int .i64 (g.k:Int),.int .i64 (g.n:Int),.int .i64 (g.s:Int),.int .i64 (g.f:Int)] 106 (0,0))
 nf:¬ G t
 ok:g.Ok R
section
variable {G G':Nat->Prop} {w w':World} {t r:Nat} {g:SP.Geo} {R R':AM.Raw} {A:AM.RA}
set_option maxHeartbeats 6400000 in
theorem rsnew_any (h:RIs G w r A) (hs:AM.Sim R A) (hok:R.Ok) {K N S f:Int} (hf:f < 9223372036854775808) :
 Calls Tryz.prog 25 #[rptr r,.agg #[.int .i64 K,.int .i64 N,.int .i64 S],.int .i64 f] w fun e w'=>(SP.okNew R K N S f=true/\∃ t,e=.returned (.tuple #[.pointer (some ⟨t,0,none⟩),.int .i64 0])/\w'.heap[t]?=some (.cells #[rptr r,.int .i64 K,.int .i64 N,.int .i64 S,.int .i64 f] 106 (0,0))/\w.heap.size<=t/\w.grownBy w' none) \/
  (SP.okNew R K N S f=false/\e=.returned (.tuple #[.pointer none,.int .i64 1])/\w.grownBy w' none):=by
 obtain⟨b,hb⟩:∃ b,b=mayI K N:=⟨_,rfl⟩
 have MA:Hid (∀ w',Calls Tryz.prog 52 #[.int .i64 K,.int .i64 N] w' fun e w''=>e=.returned (.bool b)/\w''=w'):=fun w'=>by
  rw[hb];exact refMay4_any K N w'
 have GA:Hid (w.grownBy (w.alloc (.cells #[.int .i64 K,.int .i64 N,.int .i64 S] 57)) none):=World.grownBy_alloc w _ none
 have HOK:Hid (SP.okNew R K N S f=true ↔ b=true/\1<=S/\S<=128/\0<=f/\(R.C.length:Int)=N/\f<=(R.n:Int) - 8 * S):=by
  show _ ↔ _
  rw[SP.okNew_iff,hb,mayI_iff]
 have HNO:Hid (¬ (b=true/\1<=S/\S<=128/\0<=f/\(R.C.length:Int)=N/\f<=(R.n:Int) - 8 * S)->SP.okNew R K N S f=false):=fun hh=>by
  rw[Bool.eq_false_iff]
  exact fun hc=>hh (HOK.out.1 hc)
 have hn2:=hok.n2
 obtain⟨dp,dc,ds,lp,lc,fs,hrl⟩:=h.keep GA.out
 obtain⟨z0,z1,_,_,_⟩:=hrl.topCells
 rw[hs.len] at z0
 rw[hs.n] at z1
 obtain⟨L,hL⟩:∃ L,L=R.C.length:=⟨_,rfl⟩
 obtain⟨n,hn⟩:∃ n,n=R.n:=⟨_,rfl⟩
 rw[<- hL] at z0
 rw[<- hn] at z1 hn2
 have HLn:Hid (L=R.C.length/\n=R.n):=⟨hL,hn⟩
 clear h hs hok hb hrl hL hn
 cases b
 ·go_enter Tryz.func25,Tryz.ntmps25
  go_wp2_with (go_at_call 52;refine (MA.out _).mono ?_;rintro e w9 ⟨rfl,hw9⟩;obtain rfl:=hw9.symm;clear hw9)
  go_ret2
  exact .inr ⟨HNO.out (fun h=>by simp at h),rfl,GA.out⟩
 ·by_cases h1:S < 1
  ·go_enter Tryz.func25,Tryz.ntmps25
   go_wp2_with (go_at_call 52;refine (MA.out _).mono ?_;rintro e w9 ⟨rfl,hw9⟩;obtain rfl:=hw9.symm;clear hw9)
   go_ret2
   exact .inr ⟨HNO.out (fun h=>by omega),rfl,GA.out⟩
  ·by_cases h2:128 < S
   ·go_enter Tryz.func25,Tryz.ntmps25
    go_wp2_with (go_at_call 52;refine (MA.out _).mono ?_;rintro e w9 ⟨rfl,hw9⟩;obtain rfl:=hw9.symm;clear hw9)
    go_ret2
    exact .inr ⟨HNO.out (fun h=>by omega),rfl,GA.out⟩
   ·by_cases h3:f < 0
    ·go_enter Tryz.func25,Tryz.ntmps25
     go_wp2_with (go_at_call 52;refine (MA.out _).mono ?_;rintro e w9 ⟨rfl,hw9⟩;obtain rfl:=hw9.symm;clear hw9)
     go_ret2
     exact .inr ⟨HNO.out (fun h=>by omega),rfl,GA.out⟩
    ·have HF:Hid (0<=f/\f < 9223372036854775808/\1<=S/\S<=128):=⟨by omega,hf,by omega,by omega⟩
     have hw1:IntKind.i64.wrap (8 * S)=8 * S:=IntWalk.i64_in _ (by omega)
     have hw2:IntKind.i64.wrap ((n:Int) - f)=(n:Int) - f:=IntWalk.i64_in _ (by omega)
     by_cases h4:(L:Int)=N
     ·have i4:((L:Int) != N)=false:=by simp[h4]
      by_cases h5:(n:Int) < f
      ·have i5:decide ((n:Int) < f)=true:=decide_eq_true h5
       go_enter Tryz.func25,Tryz.ntmps25
       go_wp2_with (first | (go_at_call 52;refine (MA.out _).mono ?_;rintro e w9 ⟨rfl,hw9⟩;obtain rfl:=hw9.symm;clear hw9) | fail)
       go_quiet (fail)
       go_wp2
       go_ret2
       exact .inr ⟨HNO.out (fun h=>by have:=HLn.out;have:=HF.out;omega),rfl,by first | exact grown_trans GA.out (grown_drewN _ _) | exact GA.out⟩
      ·have i5:decide ((n:Int) < f)=false:=decide_eq_false h5
       by_cases h6:(n:Int) - f < 8 * S
       ·have i6:decide ((n:Int) - f < 8 * S)=true:=decide_eq_true h6
        go_enter Tryz.func25,Tryz.ntmps25
        go_wp2_with (first | (go_at_call 52;refine (MA.out _).mono ?_;rintro e w9 ⟨rfl,hw9⟩;obtain rfl:=hw9.symm;clear hw9) | fail)
        go_quiet (fail)
        go_wp2
        go_ret2
        exact .inr ⟨HNO.out (fun h=>by have:=HLn.out;have:=HF.out;omega),rfl,by first | exact grown_trans GA.out (grown_drewN _ _) | exact GA.out⟩
       ·have i6:decide ((n:Int) - f < 8 * S)=false:=decide_eq_false h6
        go_enter Tryz.func25,Tryz.ntmps25
        go_wp2_with (first | (go_at_call 52;refine (MA.out _).mono ?_;rintro e w9 ⟨rfl,hw9⟩;obtain rfl:=hw9.symm;clear hw9) | fail)
        go_quiet (fail)
        go_wp2
        go_ret2
        refine .inl ⟨HOK.out.2 ⟨by first | rfl | trivial,by omega,by omega,by omega,by have:=HLn.out;omega,by have:=HLn.out;omega⟩,_,rfl,?_,?_,?_⟩
        ·rw[show w.heap.size+1=((w.alloc (.cells #[.int .i64 K,.int .i64 N,.int .i64 S] 57)).drewN nq).heap.size from by simp]
         exact heap_alloc_new _ _
        ·simp
        ·exact gb_alloc (grown_trans GA.out (grown_drewN _ _)) _
     ·have i4:((L:Int) != N)=true:=by simp[h4]
      go_enter Tryz.func25,Tryz.ntmps25
      go_wp2_with (first | (go_at_call 52;refine (MA.out _).mono ?_;rintro e w9 ⟨rfl,hw9⟩;obtain rfl:=hw9.symm;clear hw9) | fail)
      go_quiet (fail)
      go_wp2
      go_ret2
      exact .inr ⟨HNO.out (fun h=>by have:=HLn.out;omega),rfl,by first | exact grown_trans GA.out (grown_drewN _ _) | exact GA.out⟩
theorem rsnew_yes (h:RIs G w r A) (hs:AM.Sim R A) (hg:g.Ok R) :
 Calls Tryz.prog 25 #[rptr r,geoV g,.int .i64 (g.f:Int)] w fun e w'=>∃ t,e=.returned (.tuple #[.pointer (some ⟨t,0,none⟩),.int .i64 0])/\RSI G w' t r g R/\w.heap.size<=t/\w.grownBy w' none:=by
 have hfn:(g.f:Int) < 9223372036854775808:=by have:=hg.room;have:=hs.ok.n2;omega
 refine (rsnew_any h hs hs.ok hfn).mono ?_
 rintro e w' (⟨_,t,rfl,h1,h2,h3⟩ | ⟨h1,_,_⟩)
 ·refine⟨t,rfl,⟨⟨A,h.keep h3,hs⟩,h1,fun hf=>?_,hg⟩,h2,h3⟩
  have:=h.lt t hf
  omega
 ·exfalso
  rw[Bool.eq_false_iff] at h1
  have:=hg.k1
  have:=hg.kn
  have:=hg.n255
  have:=hg.s1
  have:=hg.s2
  have:=hg.room
  have:=hg.len
  exact h1 (SP.okNew_iff.2 ⟨⟨by omega,by omega,by omega⟩,by omega,by omega,by omega,by omega,by omega⟩)
end
structure Duo (F G:Nat->Prop) (w0 w:World) (s a t r:Nat) (g:SP.Geo) (R:AM.Raw):Prop where
 i:SI F w s a g R
 j:RSI G w t r g R
 ap:∀ k,F k->G k->False
 bi:∀ k,F k->w0.heap.size<=k
 bj:∀ k,G k->w0.heap.size<=k
 ls:w0.heap.size<=s
 lt:w0.heap.size<=t
 nt:¬ F t
 ns:¬ G s
 gr:w0.grownBy w none
section
variable {F G F' G':Nat->Prop} {w0 w w':World} {s a t r:Nat} {g:SP.Geo} {R R':AM.Raw}
set_option maxHeartbeats 6400000 in
theorem made8_yes (w:World) {k more S f:Nat} (h1:1<=k) (h2:1<=more) (h3:k+more<=255) (h4:1<=S) (h5:S<=128) (h6:f+8 * S<=4096) :
 Calls Tryz.prog 8 #[.int .i64 (k:Int),.int .i64 (more:Int),.int .i64 (S:Int),.int .i64 (f:Int)] w fun e w'=>∃ s t,e=.returned (.tuple #[ptr s,.pointer (some ⟨t,0,none⟩)])/\∃ F G a r,Duo F G w w' s a t r ⟨k,k+more,S,f⟩ (AM.Raw.new (k+more) (f+8 * S)):=by
 obtain⟨N,hN⟩:∃ N,N=k+more:=⟨_,rfl⟩
 obtain⟨n,hn⟩:∃ n,n=f+8 * S:=⟨_,rfl⟩
 rw[<- hN,<- hn]
 have hw1:IntKind.i64.wrap ((k:Int)+(more:Int))=(N:Int):=by
  have e:(k:Int)+(more:Int)=(N:Int):=by omega
  rw[e];exact IntWalk.i64_in _ (by omega)
 have hw2:IntKind.i64.wrap (8 * (S:Int))=8 * (S:Int):=IntWalk.i64_in _ (by omega)
 have hw3:IntKind.i64.wrap ((f:Int)+8 * (S:Int))=(n:Int):=by
  have e:(f:Int)+8 * (S:Int)=(n:Int):=by omega
  rw[e];exact IntWalk.i64_in _ (by omega)
 have HG:Hid (∀ R:AM.Raw,R.C.length=N->R.n=n->SP.Geo.Ok ⟨k,N,S,f⟩ R):=fun R e1 e2=>⟨h1,by show k < N;omega,by show N<=255;omega,h4,h5,by show f+8 * S<=R.n;omega,e1⟩
 have HNN:Hid (1<=N/\N<=255/\1<=n/\n<=4096):=⟨by omega,by omega,by omega,by omega⟩
 have HB:Hid (∀ w',(w.alloc (.cells #[.int .i64 (k:Int),.int .i64 (N:Int),.int .i64 (S:Int)] 57)).grownBy w' none->w'.cell? ⟨w.heap.size,0,none⟩=some (.int .i64 (k:Int))/\w'.cell? ⟨w.heap.size,1,none⟩=some (.int .i64 (N:Int))/\w'.cell? ⟨w.heap.size,2,none⟩=some (.int .i64 (S:Int))):=fun w' g1=>by
  have h0:=heap_alloc_new w (.cells #[.int .i64 (k:Int),.int .i64 (N:Int),.int .i64 (S:Int)] 57)
  exact⟨g1.cell (cell_of_row _ _ 0 _ _ _ h0) (by simp),g1.cell (cell_of_row _ _ 1 _ _ _ h0) (by simp),g1.cell (cell_of_row _ _ 2 _ _ _ h0) (by simp)⟩
 have HR:Hid ((AM.Raw.new N n).C.length=N/\(AM.Raw.new N n).n=n/\AM.Sim (AM.Raw.new N n) (AM.RA.new N n)):=⟨by simp[AM.Raw.new],rfl,AM.sim_new (by omega) (by omega) (by omega) (by omega)⟩
 have GA:Hid (w.grownBy (w.alloc (.cells #[.int .i64 (k:Int),.int .i64 (N:Int),.int .i64 (S:Int)] 57)) none):=World.grownBy_alloc w _ none
 clear h1 h2 h3 h4 h5 h6 hN hn
 go_enter Tryz.func8,Tryz.ntmps8
 go_wp2_with (first
  | (go_at_call 22;refine (new_at HNN.out.1 HNN.out.2.1 HNN.out.2.2.1 HNN.out.2.2.2 rfl rfl).mono ?_;rintro e w1 ⟨a,rfl,F,i1,b1⟩;have I1:Hid (Is F w1 a (AM.Raw.new N n)):=i1;have B1:Hid (Base (w.alloc (.cells #[.int .i64 (k:Int),.int .i64 (N:Int),.int .i64 (S:Int)] 57)) F w1):=b1;obtain⟨b10,b11,b12⟩:=HB.out _ b1.grown;clear i1 b1)
  | fail)
 clear b10 b12
 go_wp2_with (first
  | (go_at_call 23;refine (rnew_at HNN.out.1 HNN.out.2.1 HNN.out.2.2.1 HNN.out.2.2.2 rfl rfl).mono ?_;rintro e w2 ⟨r,rfl,G,j2,b2⟩;have J2:Hid (RIs G w2 r (AM.RA.new N n)):=j2;have B2:Hid (Base w1 G w2):=b2;obtain⟨b20,b21,b22⟩:=HB.out _ (grown_trans B1.out.grown b2.grown);clear j2 b2)
  | fail)
 have I2:Hid (Is F w2 a (AM.Raw.new N n)):=I1.out.keep B2.out.grown
 have AP:Hid ((∀ i,F i->G i->False)/\(∀ i,F i->w.heap.size<=i)/\(∀ i,G i->w.heap.size<=i)/\(∀ i,F i->i < w1.heap.size)/\(∀ i,G i->i < w2.heap.size)):=by
  have s0:=GA.out.size
  have s1:=B1.out.grown.size
  have s2:=B2.out.grown.size
  refine⟨fun i hf hg=>?_,fun i hf=>?_,fun i hg=>?_,fun i hf=>I1.out.lt i hf,fun i hg=>J2.out.lt i hg⟩
  ·have:=I1.out.lt i hf;have:=B2.out.lo i hg;omega
  ·have:=B1.out.lo i hf;omega
  ·have:=B2.out.lo i hg;omega
 have G2:Hid (w.grownBy w2 none):=grown_trans GA.out (grown_trans B1.out.grown B2.out.grown)
 have SN:Hid (Calls Tryz.prog 24 #[ptr a,.agg #[.int .i64 (k:Int),.int .i64 (N:Int),.int .i64 (S:Int)],.int .i64 (f:Int)] w2 fun e w'=>∃ s,e=.returned (.tuple #[ptr s,.int .i64 0])/\SI F w' s a ⟨k,N,S,f⟩ (AM.Raw.new N n)/\w2.heap.size<=s/\w2.grownBy w' none):=snew_yes I2.out (HG.out _ HR.out.1 HR.out.2.1)
 have HB2:Hid (∀ w',w2.grownBy w' none->w'.cell? ⟨w.heap.size,0,none⟩=some (.int .i64 (k:Int))/\w'.cell? ⟨w.heap.size,1,none⟩=some (.int .i64 (N:Int))/\w'.cell? ⟨w.heap.size,2,none⟩=some (.int .i64 (S:Int))):=fun w' g1=>HB.out _ (grown_trans (grown_trans B1.out.grown B2.out.grown) g1)
 have SZ:Hid (w1.heap.size<=w2.heap.size):=B2.out.grown.size
 clear I1 B1 B2 b11 HB
 go_wp2_with (first
  | (go_at_call 24;refine SN.out.mono ?_;rintro e w3 ⟨s,rfl,i3,l3,g3⟩;have I3:Hid (SI F w3 s a ⟨k,N,S,f⟩ (AM.Raw.new N n)/\w2.heap.size<=s):=⟨i3,l3⟩;have G3:Hid (w2.grownBy w3 none):=g3;obtain⟨b30,b31,b32⟩:=HB2.out _ g3;clear i3 l3 g3)
  | fail)
 have RN:Hid (Calls Tryz.prog 25 #[rptr r,.agg #[.int .i64 (k:Int),.int .i64 (N:Int),.int .i64 (S:Int)],.int .i64 (f:Int)] w3 fun e w'=>∃ t,e=.returned (.tuple #[.pointer (some ⟨t,0,none⟩),.int .i64 0])/\RSI G w' t r ⟨k,N,S,f⟩ (AM.Raw.new N n)/\w3.heap.size<=t/\w3.grownBy w' none):=rsnew_yes (J2.out.keep G3.out) HR.out.2.2 (HG.out _ HR.out.1 HR.out.2.1)
 clear SN J2 I2 HB2
 go_wp2_with (go_at_call 25;refine RN.out.mono ?_;rintro e w4 ⟨t,rfl,j4,l4,g4⟩;have J4:Hid (RSI G w4 t r ⟨k,N,S,f⟩ (AM.Raw.new N n)/\w3.heap.size<=t):=⟨j4,l4⟩;have G4:Hid (w3.grownBy w4 none):=g4;clear j4 l4 g4)
 go_ret2
 have s0:=G2.out.size
 have s1:=SZ.out
 have s3:=G3.out.size
 have s4:=J4.out.2
 have s5:=I3.out.2
 exact⟨_,_,rfl,F,G,a,r,I3.out.1.keep G4.out,J4.out.1,AP.out.1,AP.out.2.1,AP.out.2.2.1,by omega,by omega,fun hf=>by have:=AP.out.2.2.2.1 _ hf;omega,fun hg=>by have:=AP.out.2.2.2.2 _ hg;omega,grown_trans G2.out (grown_trans G3.out G4.out)⟩
end
def dat8 (x i:Nat):Nat:=(x+i % 251+i / 448) % 256
def datL (k x:Nat):List Nat:=(List.range (k * 448)).map (dat8 x)
theorem datL_len (k x:Nat):(datL k x).length=k * 448:=by simp[datL]
theorem datL_small (k x:Nat):∀ y ∈ datL k x,y < 256:=fun y hy=>by
 unfold datL at hy
 obtain⟨i,_,rfl⟩:=List.mem_map.1 hy
 unfold dat8
 omega
def datTo (k x j:Nat):List Nat:=(List.range (k * 448)).map fun i=>if i < j then dat8 x i else 0
theorem datTo_zero (k x:Nat):datTo k x 0=List.replicate (k * 448) 0:=by
 apply List.ext_getElem
 ·simp[datTo]
 ·intro i h1 h2
  simp[datTo]
theorem datTo_all (k x:Nat):datTo k x (k * 448)=datL k x:=by
 unfold datTo datL
 apply List.map_congr_left
 intro i hi
 rw[if_pos (List.mem_range.1 hi)]
theorem datTo_succ (k x:Nat) {j:Nat} (h:j < k * 448):(datTo k x j).set j (dat8 x j)=datTo k x (j+1):=by
 apply List.ext_getElem
 ·simp[datTo]
 ·intro i h1 h2
  simp only[datTo,List.getElem_set,List.getElem_map,List.getElem_range]
  by_cases c:j=i
  ·subst c;simp
  ·rw[if_neg c]
   by_cases c2:i < j
   ·rw[if_pos c2,if_pos (by omega)]
   ·rw[if_neg c2,if_neg (by omega)]
set_option maxHeartbeats 3200000 in
theorem data_yes (w:World) {k x:Nat} (hk:1<=k) (hk2:k<=255) (hx:x < 256) :
 Calls Tryz.prog 26 #[.int .i64 (k:Int),.int .u8 (x:Int)] w fun e w'=>∃ p n c,e=.returned (.slice p n c)/\Own w.heap.size w' (.slice p n c) (datL k x)/\w.grownBy w' none:=by
 obtain⟨n,hn⟩:∃ n,n=k * 448:=⟨_,rfl⟩
 have hw:IntKind.i64.wrap ((k:Int) * 448)=(n:Int):=by
  have e:(k:Int) * 448=(n:Int):=by omega
  rw[e]
  exact IntWalk.i64_in _ (by omega)
 have hnl:n<=200000:=by omega
 have HN:Hid (n=k * 448/\k<=255):=⟨hn,hk2⟩
 clear hn hk hk2
 go_enter Tryz.func26,Tryz.ntmps26
 go_wp2_with (at_make;refine wpList_make_vec rfl _ _ rfl n rfl rfl (by omega) ?_;intro w1 p o1 g1;have O1:Hid (Own w.heap.size w1 (.slice p n n) (List.replicate n 0)):=o1;have G1:Hid (w.grownBy w1 none):=g1;clear o1 g1)
 clear hw
 go_loopw [12] (fun ti wr=>∃ j:Nat,j<=n/\ti=.int .i64 j/\Hid (Own w.heap.size wr (.slice p n n) (datTo k x j))/\Hid (w.grownBy wr none)) (fun ti _=>n - (intOf ti).toNat)
 case atStart=>exact⟨0,by omega,rfl,by rw[datTo_zero,<- HN.out.1];exact O1.out,G1⟩
 case round =>
  clear O1 G1
  obtain⟨j,hj,rfl,OK,GK⟩:=hrel
  by_cases hlt:j < n
  ·have i3:(j:Int) < (n:Int):=by omega
   have i4:(0:Int)<=(j:Int):=by omega
   have hlo:=OK.out.lo
   obtain⟨b,hpb,_,hr,hf,hb,hset,hgr⟩:=OK.out.spot (k:=j) (by have:=HN.out;simp[datTo];omega)
   subst hpb
   have HLO:Hid (w.heap.size<=b):=hlo b rfl
   have HS:Hid (∀ z:Nat,z < 256->Own w.heap.size (wr.setCell ⟨b,j,none⟩ (.int .u8 (z:Int))) (.slice (some ⟨b,0,none⟩) n n) ((datTo k x j).set j z)):=hset
   have HG:Hid (∀ u,wr.grownBy (wr.setCell ⟨b,j,none⟩ u) (some b)):=hgr
   clear hlo hset hgr hb OK
   go_wp2
   have HV:((x:Int)+(j:Int) % 251+(j:Int) / 448) % 256=((dat8 x j:Nat):Int):=by unfold dat8;omega
   rw[HV]
   go_roundw
   case rel=>exact⟨j+1,by omega,by go_num,(by
    have h1:=HS.out (dat8 x j) (by unfold dat8;omega)
    rw[datTo_succ k x (by have:=HN.out;omega)] at h1
    exact h1),grown_new GK.out (HG.out _) (fun i e=>by have:=Option.some.inj e;have:=HLO.out;omega)⟩
   case measure=>simp[intOf];omega
  ·have i3:¬ (j:Int) < (n:Int):=by omega
   have hjn:Hid (j=k * 448):=by show _=_;have:=HN.out;omega
   go_wp2
   go_ret
   exact⟨_,_,_,rfl,by rw[<- datTo_all,<- hjn.out];exact OK.out,GK.out⟩
theorem wrTo_len (R:AM.Raw) (g:SP.Geo) (slot m:Nat) (E:List (List Nat)):∀ d,(SP.wrTo R g slot m E d).2.L.length<=R.L.length+8 * d
 | 0=>by simp[SP.wrTo]
 | d+1=>by
   have:=wrTo_len R g slot m E d
   unfold SP.wrTo
   split
   ·have:=layTo_len (SP.wrTo R g slot m E d).2 g slot d (CM.secs m (E.getD d []) 8) 8
    unfold SP.lays
    omega
   ·omega
section
variable {F F':Nat->Prop} {w w':World} {s a:Nat} {g:SP.Geo} {R R':AM.Raw}
theorem sencode (hg:g.Ok R) {u:Value} {us:List Value} {xs:List Nat} (hl:xs.length=g.k * 448) (hm:Mat w u us (SP.parts xs g.k)) :
 Calls Tryz.prog 53 #[.int .i64 (g.k:Int),.int .i64 (g.n:Int),u] w fun e w'=>∃ p n c us',e=.returned (.tuple #[.slice p n c,.int .i64 0])/\OwnMat w.heap.size w' (.slice p n c) us' (SP.code g xs)/\w.grownBy w' none:=by
 have hf:=SP.parts_fits hg hl
 have e1:encL (g.k:Int) (g.n:Int) (SP.parts xs g.k)=SP.code g xs:=by
  unfold encL SP.code
  rw[if_pos hf,Int.toNat_natCast,Int.toNat_natCast,(SP.parts_shape hl).row 0 (by have:=hg.k1;omega)]
 have e2:encE (g.k:Int) (g.n:Int) (SP.parts xs g.k)=0:=if_pos hf
 have:=encode_all (g.k:Int) (g.n:Int) hm
 rw[e1,e2] at this
 refine this.mono ?_
 rintro e w' ⟨p,n,c,us',rfl,h1,_,h2⟩
 exact⟨p,n,c,us',rfl,h1,h2⟩
theorem swrite_err (h:SI F w s a g R) {slot:Int} {m:Nat} {v:Value} (hy:SP.why R g slot ≠ 0) :
 Calls Tryz.prog 27 #[ptr s,.int .i64 slot,.int .u64 (m:Int),v] w fun e w'=>e=.returned (.int .i64 (SP.why R g slot:Int))/\w'=w:=by
 obtain⟨y,hy1⟩:∃ y,y=SP.why R g slot:=⟨_,rfl⟩
 have HR:Hid (Calls Tryz.prog 42 #[ptr s,.int .i64 slot] w fun e w''=>e=.returned (.int .i64 (y:Int))/\w''=w):=by rw[hy1];exact sreach_yes h slot
 rw[<- hy1] at hy ⊢
 have hne:((y:Int) != 0)=true:=neb_yes (b:=0) hy
 clear h hy hy1
 go_enter Tryz.func27,Tryz.ntmps27
 go_wp2_with (go_at_call 42;refine HR.out.mono ?_;rintro e w9 ⟨rfl,hw9⟩;obtain rfl:=hw9.symm;clear hw9)
 go_ret
 exact⟨rfl,rfl⟩
theorem swrite_arg (h:SI F w s a g R) {slot:Int} {m:Nat} {v:Value} {xs:List Nat} (hv:Vec w v xs) (hy:SP.why R g slot=0) (ha:m=0\/xs.length ≠ g.k * 448) :
 Calls Tryz.prog 27 #[ptr s,.int .i64 slot,.int .u64 (m:Int),v] w fun e w'=>e=.returned (.int .i64 1)/\w'=w:=by
 obtain⟨q,N,cap,rfl,hN⟩:=hv.opened
 have HR:Hid (Calls Tryz.prog 42 #[ptr s,.int .i64 slot] w fun e w''=>e=.returned (.int .i64 0)/\w''=w):=sreach_at h (by rw[hy];rfl)
 have c1:=h.at2
 have hk:g.k<=255:=by have:=h.ok.kn;have:=h.ok.n255;omega
 have hw:IntKind.i64.wrap ((g.k:Int) * 448)=(g.k:Int) * 448:=IntWalk.i64_in _ (by omega)
 by_cases hm:m=0
 ·subst hm
  clear h hy ha hv hN
  go_enter Tryz.func27,Tryz.ntmps27
  go_wp2_with (go_at_call 42;refine HR.out.mono ?_;rintro e w9 ⟨rfl,hw9⟩;obtain rfl:=hw9.symm;clear hw9)
  go_ret
  exact⟨rfl,rfl⟩
 ·have i1:((m:Int)==0)=false:=eqb_no (b:=0) hm
  have i2:((N:Int) != (g.k:Int) * 448)=true:=by
   have:N ≠ g.k * 448:=by rcases ha with h' | h' <;> omega
   have:=neb_yes this
   rwa [Int.natCast_mul] at this
  clear h hy ha hv hN
  go_enter Tryz.func27,Tryz.ntmps27
  go_wp2_with (go_at_call 42;refine HR.out.mono ?_;rintro e w9 ⟨rfl,hw9⟩;obtain rfl:=hw9.symm;clear hw9)
  go_ret
  exact⟨rfl,rfl⟩
set_option maxHeartbeats 6400000 in
theorem swrite_few (h:SI F w s a g R) {slot:Int} {m:Nat} {v:Value} {xs:List Nat} (hv:Vec w v xs) (hy:SP.why R g slot=0) (hm:m ≠ 0) (hl:xs.length=g.k * 448) (ho:R.ons < g.k) :
 Calls Tryz.prog 27 #[ptr s,.int .i64 slot,.int .u64 (m:Int),v] w fun e w'=>e=.returned (.int .i64 20)/\w.grownBy w' none:=by
 obtain⟨q,N,cap,rfl,hN⟩:=hv.opened
 have HR:Hid (Calls Tryz.prog 42 #[ptr s,.int .i64 slot] w fun e w''=>e=.returned (.int .i64 0)/\w''=w):=sreach_at h (by rw[hy];rfl)
 have c1:=h.at2
 have HS:Hid (∀ w',w.grownBy w' none->w'.cell? ⟨s,0,none⟩=some (ptr a)/\w'.cell? ⟨s,1,none⟩=some (.int .i64 (g.k:Int))):=fun w' g'=>⟨(h.keep g').at1,(h.keep g').at2⟩
 obtain⟨O,hO⟩:∃ O,O=R.ons:=⟨_,rfl⟩
 have HO:Hid (Calls Tryz.prog 12 #[ptr a] (w.drewN 1) fun e w'=>e=.returned (.int .i64 (O:Int))/\w'=w.drewN 1):=by rw[hO];exact ons_yes (h.i.keep (grown_drewN w 1))
 have hk:g.k<=255:=by have:=h.ok.kn;have:=h.ok.n255;omega
 have hw:IntKind.i64.wrap ((g.k:Int) * 448)=(g.k:Int) * 448:=IntWalk.i64_in _ (by omega)
 have i1:((m:Int)==0)=false:=eqb_no (b:=0) hm
 have i2:((N:Int) != (g.k:Int) * 448)=false:=by
  have:N=g.k * 448:=by omega
  have:=neb_no this
  rwa [Int.natCast_mul] at this
 have i3:(O:Int) < (g.k:Int):=by omega
 clear h hy hv hN hm hl ho hO hk
 go_enter Tryz.func27,Tryz.ntmps27
 go_wp2_with (first | (go_at_call 42;refine HR.out.mono ?_;rintro e w9 ⟨rfl,hw9⟩;obtain rfl:=hw9.symm;clear hw9) | fail)
 go_region_held3 (fun w'=>w'.cell? ⟨s,0,none⟩=some (ptr a)/\w'.cell? ⟨s,1,none⟩=some (.int .i64 (g.k:Int))) (exact HS.out _ (grown_drewN w 1))
  ((go_at_call 12;refine HO.out.mono ?_;rintro e w9 ⟨rfl,hw9⟩;obtain rfl:=hw9.symm;clear hw9))
 go_wp2
 go_ret
 exact⟨rfl,grown_drewN w 1⟩
set_option maxHeartbeats 6400000 in
theorem swrite_main (h:SI F w s a g R) {slot m:Nat} {v:Value} {xs:List Nat} (hv:Aw F w v xs) (hL:R.L.length<=990000) (hy:SP.why R g (slot:Int)=0) (hm:m ≠ 0) (hl:xs.length=g.k * 448) (ho:¬ R.ons < g.k) :
 Calls Tryz.prog 27 #[ptr s,.int .i64 (slot:Int),.int .u64 (m:Int),v] w fun e w'=>e=.returned (.int .i64 ((SP.wrTo R g slot m (SP.code g xs) g.n).1:Int))/\∃ F',SI F' w' s a g (SP.wrTo R g slot m (SP.code g xs) g.n).2/\Step F w F' w':=by
 obtain⟨q,N,cap,rfl,hN⟩:=hv.vec.opened
 have HR:Hid (Calls Tryz.prog 42 #[ptr s,.int .i64 (slot:Int)] w fun e w''=>e=.returned (.int .i64 0)/\w''=w):=sreach_at h (by rw[hy];rfl)
 obtain⟨q0,q1,q2⟩:=SP.why_zero hy
 have c1:=h.at2
 have H:Hid (SI F w s a g R):=h
 have HS:Hid (∀ w',w.grownBy w' none->w'.cell? ⟨s,0,none⟩=some (ptr a)/\w'.cell? ⟨s,1,none⟩=some (.int .i64 (g.k:Int))/\w'.cell? ⟨s,2,none⟩=some (.int .i64 (g.n:Int))):=fun w' g'=>⟨(h.keep g').at1,(h.keep g').at2,(h.keep g').at3⟩
 obtain⟨O,hO⟩:∃ O,O=R.ons:=⟨_,rfl⟩
 have HO:Hid (Calls Tryz.prog 12 #[ptr a] (w.drewN 1) fun e w'=>e=.returned (.int .i64 (O:Int))/\w'=w.drewN 1):=by rw[hO];exact ons_yes (h.i.keep (grown_drewN w 1))
 have hk:g.k<=255:=by have:=h.ok.kn;have:=h.ok.n255;omega
 have hw:IntKind.i64.wrap ((g.k:Int) * 448)=(g.k:Int) * 448:=IntWalk.i64_in _ (by omega)
 have i1:((m:Int)==0)=false:=eqb_no (b:=0) hm
 have i2:((N:Int) != (g.k:Int) * 448)=false:=by
  have:N=g.k * 448:=by omega
  have:=neb_no this
  rwa [Int.natCast_mul] at this
 have i3:¬ (O:Int) < (g.k:Int):=by omega
 have PA:Hid (∀ w',w.grownBy w' none->Calls Tryz.prog 54 #[.slice q N cap] w' fun e w''=>∃ u us,e=.returned u/\Mat w'' u us (SP.parts xs g.k)/\w'.grownBy w'' none):=fun w' g1=>sparts_yes (hv.vec.keep g1) h.ok.k1 hk hl
 have EN:Hid (∀ w' u us,Mat w' u us (SP.parts xs g.k)->Calls Tryz.prog 53 #[.int .i64 (g.k:Int),.int .i64 (g.n:Int),u] w' fun e w''=>∃ p n c us',e=.returned (.tuple #[.slice p n c,.int .i64 0])/\OwnMat w'.heap.size w'' (.slice p n c) us' (SP.code g xs)/\w'.grownBy w'' none):=fun w' u us m1=>sencode h.ok hl m1
 have HN:Hid (slot < g.s/\R.L.length<=990000/\m ≠ 0/\g.n<=255):=⟨by omega,hL,hm,h.ok.n255⟩
 have hn255:g.n<=255:=h.ok.n255
 have HRow:Hid (∀ d,d < g.n->((SP.code g xs).getD d []).length=448):=fun d hd=>SP.code_row g xs hd
 have HCL:Hid ((SP.code g xs).length=g.n):=SP.code_len g xs
 have HK:Hid (∀ d,SP.Kept R (SP.wrTo R g slot m (SP.code g xs) d).2):=SP.wrTo_kept R g slot m (SP.code g xs)
 have HLL:Hid (∀ d,(SP.wrTo R g slot m (SP.code g xs) d).2.L.length<=R.L.length+8 * d):=wrTo_len R g slot m (SP.code g xs)
 have HX0:Hid (SP.wrTo R g slot m (SP.code g xs) 0=(0,R)):=rfl
 have HX1:Hid (∀ d:Nat,(SP.wrTo R g slot m (SP.code g xs) d).1=0->R.on (d:Int)=true->SP.wrTo R g slot m (SP.code g xs) (d+1)=SP.lays (SP.wrTo R g slot m (SP.code g xs) d).2 g slot d m ((SP.code g xs).getD d [])):=fun d h0 h1=>SP.wrTo_on h0 h1
 have HX2:Hid (∀ d:Nat,R.on (d:Int)=false->SP.wrTo R g slot m (SP.code g xs) (d+1)=SP.wrTo R g slot m (SP.code g xs) d):=fun d h1=>SP.wrTo_off h1
 have HX3:Hid (∀ d,d<=g.n->(SP.wrTo R g slot m (SP.code g xs) d).1 ≠ 0->SP.wrTo R g slot m (SP.code g xs) g.n=SP.wrTo R g slot m (SP.code g xs) d):=fun d hd h0=>SP.wrTo_stop h0 g.n hd
 clear h hy hv hN hm hl ho hO hk q0 q1 q2 hL
 generalize SP.wrTo R g slot m (SP.code g xs)=WT at *
 generalize SP.code g xs=E at *
 go_enter Tryz.func27,Tryz.ntmps27
 go_wp2_with (first | (go_at_call 42;refine HR.out.mono ?_;rintro e w9 ⟨rfl,hw9⟩;obtain rfl:=hw9.symm;clear hw9) | fail)
 go_region_held3 (fun w'=>w'.cell? ⟨s,0,none⟩=some (ptr a)/\w'.cell? ⟨s,1,none⟩=some (.int .i64 (g.k:Int))) (exact⟨(HS.out _ (grown_drewN w 1)).1,(HS.out _ (grown_drewN w 1)).2.1⟩)
  ((go_at_call 12;refine HO.out.mono ?_;rintro e w9 ⟨rfl,hw9⟩;obtain rfl:=hw9.symm;clear hw9))
 go_wp2_with fail
 clear c1 hw i1 i2 i3 HO HR
 go_region_held3 (fun w'=>w'.cell? ⟨s,1,none⟩=some (.int .i64 (g.k:Int))/\w'.cell? ⟨s,2,none⟩=some (.int .i64 (g.n:Int))) (first | exact⟨(HS.out _ (grown_trans (grown_drewN w 1) (grown_drewN _ 1))).2.1,(HS.out _ (grown_trans (grown_drewN w 1) (grown_drewN _ 1))).2.2⟩ | exact⟨(HS.out _ G2.out).2.1,(HS.out _ G2.out).2.2⟩ | exact⟨(HS.out _ G3.out).2.1,(HS.out _ G3.out).2.2⟩)
  ((first
    | (go_at_call 54;refine (PA.out _ (grown_trans (grown_drewN w 1) (grown_drewN _ 1))).mono ?_;rintro e w2 ⟨u,us,rfl,m2,g2⟩;have M2:Hid (Mat w2 u us (SP.parts xs g.k)):=m2;have G2:Hid (w.grownBy w2 none):=grown_trans (grown_trans (grown_drewN w 1) (grown_drewN _ 1)) g2;clear m2 g2)
    | (go_at_call 53;refine (EN.out _ _ _ M2.out).mono ?_;rintro e w3 ⟨p3,n3,c3,us3,rfl,m3,g3⟩;have M3:Hid (OwnMat w.heap.size w3 (.slice p3 n3 c3) us3 E):=m3.down G2.out.size;have G3:Hid (w.grownBy w3 none):=grown_trans G2.out g3;clear m3 g3)))
 have HN3:Hid (n3=g.n/\us3.length=g.n):=by
  have h1:=M3.out.same
  have h2:=HCL.out
  have h3:=(mat_n M3.out.mat).1
  exact⟨by omega,by omega⟩
 have hn3:n3=g.n:=HN3.out.1
 have S3:Hid (SI F w3 s a g R):=H.out.keep G3.out
 clear PA EN M2 G2
 subst hn3
 go_wp2_with fail
 go_loopw [66] (fun ti wr=>∃ k:Nat,k<=g.n/\ti=.int .i64 k/\Hid ((WT k).1=0)/\Hid (∃ F',SI F' wr s a g (WT k).2/\Step F w3 F' wr)) (fun ti _=>g.n - (intOf ti).toNat)
 case atStart=>exact⟨0,by omega,rfl,(by show _=_;rw[HX0.out]),⟨F,by rw[HX0.out];exact S3.out,Step.refl _ _⟩⟩
 case round =>
  clear S3
  obtain⟨k,hk,rfl,OK,HRR⟩:=hrel
  obtain⟨F1,i1,st1⟩:=HRR.out
  have I1:Hid (SI F1 wr s a g (WT k).2):=i1
  have T1:Hid (Step F w3 F1 wr):=st1
  clear HRR i1 st1
  by_cases hlt:k < g.n
  ·have i4:(k:Int) < (g.n:Int):=by omega
   have i5:(0:Int)<=(k:Int):=by omega
   obtain⟨b0,off,rfl,hr0⟩:=M3.out.mat.row.spot (k:=k) (by have:=HN3.out;omega)
   obtain⟨pk,nk,ck,ek,hnk⟩:=(M3.out.mat.vec k (by have:=HCL.out;omega)).opened
   have hbk:¬ F b0:=fun hf=>by
    have h1:=M3.out.out.lo b0 rfl
    have h2:=H.out.i.lt b0 hf
    omega
   have hr:=T1.out.upd.cell hr0 hbk
   have AV:Hid (Vec wr (.slice pk nk ck) (E.getD k [])):=by
    have hv:=M3.out.vec k (by have:=HCL.out;omega)
    rw[ek] at hv
    exact hv.vec.upd T1.out.upd (fun _ g' hg' hf=>by
     have h1:=hv.lo g' hg'
     have h2:=H.out.i.lt g' hf
     omega)
   rw[ek] at hr
   have c0:=I1.out.at1
   clear hr0 ek hnk hbk
   obtain⟨o,ho⟩:∃ o,o=R.on (k:Int):=⟨_,rfl⟩
   have ON:Hid (Calls Tryz.prog 17 #[ptr a,.int .i64 (k:Int)] wr fun e w'=>e=.returned (.bool o)/\w'=wr):=by
    rw[ho,<- (HK.out k).on];exact on_yes I1.out.i (k:Int)
   cases o
   ·have HX:Hid (WT (k+1)=WT k):=HX2.out k ho.symm
    clear ho
    go_wp2_with (go_at_call 17;refine ON.out.mono ?_;rintro e w9 ⟨rfl,hw9⟩;obtain rfl:=hw9.symm;clear hw9)
    go_roundw
    case rel=>exact⟨k+1,by omega,by go_num,(by show _=_;rw[HX.out];exact OK.out),⟨F1,by rw[HX.out];exact I1.out,T1.out⟩⟩
    case measure=>simp[intOf];omega
   ·have HX:=HX1.out k OK.out ho.symm
    obtain⟨c,hc⟩:∃ c,c=(WT (k+1)).1:=⟨_,rfl⟩
    have LA:Hid (Calls Tryz.prog 55 #[ptr s,.int .i64 (k:Int),.int .i64 (slot:Int),.int .u64 (m:Int),.slice pk nk ck] wr fun e w'=>e=.returned (.int .i64 (c:Int))/\∃ F',SI F' w' s a g (WT (k+1)).2/\Step F w3 F' w'):=by
     rw[hc,HX]
     refine (slay_any I1.out (d:=k) HN.out.1 AV.out HN.out.2.2.1 (HRow.out k hlt) (by have h1:=HLL.out k;have h2:=HN.out.2.1;omega)).mono ?_
     rintro e w9 ⟨rfl,F9,i9,s9⟩
     exact⟨rfl,F9,i9,T1.out.trans s9⟩
    have HCE:Hid (c=(WT (k+1)).1):=hc
    clear ho HX hc AV
    by_cases h0:c=0
    ·subst h0
     go_wp2_with (first
      | (go_at_call 17;refine ON.out.mono ?_;rintro e w9 ⟨rfl,hw9⟩;obtain rfl:=hw9.symm;clear hw9)
      | (go_at_call 55;refine LA.out.mono ?_;rintro e w4 ⟨rfl,F4,i4',st4⟩;have I4:Hid (SI F4 w4 s a g (WT (k+1)).2):=i4';have T4:Hid (Step F w3 F4 w4):=st4;clear i4' st4))
     go_roundw
     case rel=>exact⟨k+1,by omega,by go_num,HCE.out.symm,⟨F4,I4.out,T4.out⟩⟩
     case measure=>simp[intOf];omega
    ·have hne:((c:Int) != 0)=true:=neb_yes (b:=0) h0
     have HEQ:Hid (WT g.n=WT (k+1)):=HX3.out (k+1) (by omega) (by rw[<- HCE.out];exact h0)
     go_wp2_with (first
      | (go_at_call 17;refine ON.out.mono ?_;rintro e w9 ⟨rfl,hw9⟩;obtain rfl:=hw9.symm;clear hw9)
      | (go_at_call 55;refine LA.out.mono ?_;rintro e w4 ⟨rfl,F4,i4',st4⟩;have I4:Hid (SI F4 w4 s a g (WT (k+1)).2):=i4';have T4:Hid (Step F w3 F4 w4):=st4;clear i4' st4))
     go_ret
     rw[HEQ.out,<- HCE.out]
     exact⟨rfl,F4,I4.out,(Step.new G3.out).trans T4.out⟩
  ·have i4:¬ (k:Int) < (g.n:Int):=by omega
   have hkn:Hid (k=g.n):=by show _=_;omega
   go_wp2
   go_ret
   rw[<- hkn.out,OK.out]
   exact⟨rfl,F1,I1.out,(Step.new G3.out).trans T1.out⟩
theorem swrite_all (h:SI F w s a g R) (slot:Int) (m:Nat) {v:Value} {xs:List Nat} (hv:Aw F w v xs) (hL:R.L.length<=990000) :
 Calls Tryz.prog 27 #[ptr s,.int .i64 slot,.int .u64 (m:Int),v] w fun e w'=>e=.returned (.int .i64 ((SP.write R g slot m xs).1:Int))/\∃ F',SI F' w' s a g (SP.write R g slot m xs).2/\Step F w F' w':=by
 unfold SP.write
 by_cases hy:SP.why R g slot=0
 ·rw[if_neg (by omega)]
  by_cases ha:m=0\/xs.length ≠ g.k * 448
  ·rw[if_pos ha]
   refine (swrite_arg h hv.vec hy ha).mono ?_
   rintro e w' ⟨rfl,rfl⟩
   exact⟨rfl,F,h,Step.refl _ _⟩
  ·rw[if_neg ha]
   by_cases ho:R.ons < g.k
   ·rw[if_pos ho]
    refine (swrite_few h hv.vec hy (by omega) (by omega) ho).mono ?_
    rintro e w' ⟨rfl,g1⟩
    exact⟨rfl,F,h.keep g1,Step.new g1⟩
   ·rw[if_neg ho]
    obtain⟨_,q1,_⟩:=SP.why_zero hy
    obtain⟨n,rfl⟩:∃ n:Nat,slot=(n:Int):=⟨slot.toNat,by omega⟩
    rw[Int.toNat_natCast]
    exact swrite_main h hv hL hy (by omega) (by omega) ho
 ·rw[if_pos hy]
  refine (swrite_err h hy).mono ?_
  rintro e w' ⟨rfl,rfl⟩
  exact⟨rfl,F,h,Step.refl _ _⟩
end
def gA:SP.Geo:=⟨2,3,1,3⟩
section
variable {w0 w w':World} {s a:Nat} {g:SP.Geo} {R R':AM.Raw} {vs:List (Value × List Nat)} {ns:List (Value × List Int)}
theorem si_lose {F:Nat->Prop} (h:SI F w s a g R) (hL:R.L.length<=1000000) (d:Int):Calls Tryz.prog 13 #[ptr a,.int .i64 d] w fun e w'=>e=.returned (.int .i64 ((R.lose d).1:Int))/\∃ F',SI F' w' s a g (R.lose d).2/\Step F w F' w':=by
 refine (lose_at h.i hL rfl rfl).mono ?_
 rintro e w' ⟨rfl,F',i,st⟩
 exact⟨rfl,F',h.step i st (SP.lose_geo h.ok d),st⟩
theorem replace_kept9 (h:g.Ok R) (d:Int):g.Ok (R.replace d).2:=by
 have hn:(R.replace d).2.n=R.n/\(R.replace d).2.C.length=R.C.length:=by
  unfold AM.Raw.replace
  split
  ·exact⟨rfl,rfl⟩
  ·split
   ·exact⟨rfl,rfl⟩
   ·exact⟨rfl,by simp[AM.Raw.blank]⟩
 exact⟨h.k1,h.kn,h.n255,h.s1,h.s2,by rw[hn.1];exact h.room,by rw[hn.2];exact h.len⟩
end
end Go.Proofs.YtlklmhojadlncaaGreat
