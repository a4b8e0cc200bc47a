/- Packed: Dec4, RefDec4, PD8, PutHas8, IntA4. -/
import Derived.Test.YtlklmhojadlncaaGreatTk18
import Derived.ArgAppend
set_option linter.unusedVariables false
set_option maxRecDepth 100000
namespace Go.Proofs.YtlklmhojadlncaaGreat
open Go.RowKit
def decOK (k n:Int) (ls:List Int) (X:List (List Nat)):Prop:=mayI k n=true/\ls.length=X.length/\evenB X=true/\goodAt n.toNat ls ls.length
def Tells (ls:List Int) (k L:Nat) (X D:List (List Nat)):Prop :=
 ∀ D',Shape D' k L->(∀ i j,at2 D' i j < 256)->(∀ i t,i < k->t < L->codeAt D' k (ls.getD i 0).toNat t=at2 X i t)->D'=D
def posOf (ls:List Int) (x:Nat):Nat:=wh ls ls.length x - 1
def toldOf (ls:List Int) (X:List (List Nat)) (F:Nat->Nat) (k:Nat):List (List Nat):=(List.range k).map fun j=>X.getD (posOf ls (F j)) []
theorem toldOf_get {ls:List Int} {X:List (List Nat)} {F:Nat->Nat} {k j:Nat} (h:j < k):(toldOf ls X F k).getD j []=X.getD (posOf ls (F j)) []:=by simp[toldOf,List.getD,h]
theorem lk_pos {ls:List Int} {k x:Nat} (h:lk (wh ls ls.length) k x=true):posOf ls x < k/\posOf ls x < ls.length/\ls.getD (posOf ls x) 0=(x:Int)/\wh ls ls.length x=posOf ls x+1:=by
 unfold lk at h
 rw[Bool.and_eq_true,decide_eq_true_iff,decide_eq_true_iff] at h
 have:=wh_pos (ls:=ls) (j:=ls.length) (x:=x) (by omega)
 unfold posOf
 exact⟨by omega,this.1,this.2,by omega⟩
theorem tells_of {ls:List Int} {X D:List (List Nat)} {F:Nat->Nat} {k L:Nat} (hF:∀ i,i < k->lk (wh ls ls.length) k (F i)=true) (h:Told F k L (toldOf ls X F k) D):Tells ls k L X D:=by
 intro D' hD sm hc
 refine h D' hD sm fun i t hi ht=>?_
 have hp:=lk_pos (hF i hi)
 have:=hc (posOf ls (F i)) t hp.1 ht
 rw[hp.2.2.1] at this
 show codeAt D' k (F i) t=((toldOf ls X F k).getD i []).getD t 0
 rw[toldOf_get hi]
 exact this
set_option maxHeartbeats 1600000 in
set_option maxRecDepth 100000 in
theorem decode_arg {w:World} {va vc:Value} {k n:Int} {ls:List Int} {vs:List Value} {X:List (List Nat)} (hl:IVec w va ls) (mr:Mat w vc vs X) (h:¬ decOK k n ls X) :
 Calls Tryz.prog 45 #[.int .i64 k,.int .i64 n,va,vc] w fun e w'=>e=.returned (.tuple #[.slice none 0 0,.int .i64 1])/\w.grownBy w' none:=by
 obtain⟨q,A,cap,rfl,hA⟩:=hl.opened
 obtain⟨qc,N,cc,rfl,hN⟩:=mr.row.opened
 have hs:=mr.same
 have MM:Hid (∀ w,Calls Tryz.prog 50 #[.int .i64 k,.int .i64 n] w fun e w'=>e=.returned (.bool (mayI k n))/\w'=w):=fun w=>codeMay_any k n w
 have AA:Hid (Calls Tryz.prog 62 #[.slice qc N cc] w fun e w'=>e=.returned (.bool (evenB X))/\w'=w):=asLong_any mr
 have hAl:A<=140737488351232:=by rw[hA];exact hl.len
 have hNl:N<=140737488351232:=by have:=mr.row.len;omega
 have HW:Hid (w.grownBy w none):=World.grownBy.refl _ _
 by_cases c1:mayI k n=true
 ·by_cases c2:A=N
  ·by_cases c3:evenB X=true
   ·have hm:=mayI_iff.1 c1
    obtain⟨n',rfl⟩:=Int.eq_ofNat_of_zero_le (show 0<=n by omega)
    have LL:Hid (∀ w',w'=w->Calls Tryz.prog 63 #[.int .i64 (n':Int),.slice q A cap] w' fun e w'=>e=.returned (.tuple #[.agg (placesOf (fun _=>0)),.bool false])/\w.grownBy w' none):=fun w' e=>by
     subst e
     exact locate_no hl (by omega) (fun hg=>h ⟨c1,by omega,c3,hg⟩)
    rw[c1] at MM
    rw[c3] at AA
    subst c2
    have zL:=zeroL
    have ST:∀ W:World,(storeCells ⟨W.heap.size,0,none⟩ (placesOf fun _=>0).toList).run Tryz.prog (W.alloc (.cells (placesOf fun _=>0) 117))=.ok () (W.alloc (.cells (placesOf fun _=>0) 117)):=fun W=>by
     have:=storeL (f':=fun _=>0) (heap_alloc_new W (.cells (placesOf fun _=>0) 117))
     rwa [World.setRow_alloc_new] at this
    have pL:=placesOf_size (fun _=>0)
    clear h hs hA hN hl mr c1 c3 hm
    go_enter Tryz.func45,Tryz.ntmps45
    go_wp2_with (first
     | (go_at_call 50;refine (MM.out _).mono ?_;rintro e w1 ⟨rfl,hw⟩;obtain rfl:=hw.symm;clear hw)
     | (go_at_call 62;refine AA.out.mono ?_;rintro e w1 ⟨rfl,hw⟩;obtain rfl:=hw.symm;clear hw)
     | (go_at_call 63;refine (LL.out _ rfl).mono ?_;rintro e w1 ⟨rfl,g1⟩;have G1:Hid (w.grownBy (w1.alloc (.cells (placesOf fun _=>0) 117)) none):=gb_alloc g1 _;clear g1))
    go_ret2
    exact⟨rfl,G1.out⟩
   ·rw[c1] at MM
    rw[show evenB X=false from by simpa using c3] at AA
    subst c2
    clear h hs hA hN hl mr c1 c3
    go_enter Tryz.func45,Tryz.ntmps45
    go_wp2_with (first
     | (go_at_call 50;refine (MM.out _).mono ?_;rintro e w1 ⟨rfl,hw⟩;obtain rfl:=hw.symm;clear hw)
     | (go_at_call 62;refine AA.out.mono ?_;rintro e w1 ⟨rfl,hw⟩;obtain rfl:=hw.symm;clear hw))
    go_ret2
    exact⟨rfl,HW.out⟩
  ·rw[c1] at MM
   have hne:((A:Int) != (N:Int))=true:=by simp;omega
   clear h hs hA hN hl mr c1 c2
   go_enter Tryz.func45,Tryz.ntmps45
   go_wp2_with (go_at_call 50;refine (MM.out _).mono ?_;rintro e w1 ⟨rfl,hw⟩;obtain rfl:=hw.symm;clear hw)
   go_ret2
   exact⟨rfl,HW.out⟩
 ·rw[show mayI k n=false from by simpa using c1] at MM
  clear h hs hA hN hl mr c1
  go_enter Tryz.func45,Tryz.ntmps45
  go_wp2_with (go_at_call 50;refine (MM.out _).mono ?_;rintro e w1 ⟨rfl,hw⟩;obtain rfl:=hw.symm;clear hw)
  go_ret2
  exact⟨rfl,HW.out⟩
set_option maxHeartbeats 3200000 in
set_option maxRecDepth 100000 in
theorem decode_short {w:World} {va vc:Value} {k n:Nat} {ls:List Int} {vs:List Value} {X:List (List Nat)} (hl:IVec w va ls) (mr:Mat w vc vs X) (h:decOK k n ls X) (hsh:ls.length < k) :
 Calls Tryz.prog 45 #[.int .i64 (k:Int),.int .i64 (n:Int),va,vc] w fun e w'=>e=.returned (.tuple #[.slice none 0 0,.int .i64 4])/\w.grownBy w' none:=by
 obtain⟨c1,c2,c3,hg⟩:=h
 obtain⟨q,A,cap,rfl,hA⟩:=hl.opened
 obtain⟨qc,N,cc,rfl,hN⟩:=mr.row.opened
 have hs:=mr.same
 obtain rfl:A=N:=by omega
 have hm:=mayI_iff.1 c1
 have MM:Hid (∀ w,Calls Tryz.prog 50 #[.int .i64 (k:Int),.int .i64 (n:Int)] w fun e w'=>e=.returned (.bool true)/\w'=w):=fun w=>by
  have h:=codeMay_any (k:Int) (n:Int) w
  rw[c1] at h
  exact h
 have AA:Hid (Calls Tryz.prog 62 #[.slice qc A cc] w fun e w'=>e=.returned (.bool true)/\w'=w):=by
  have h:=asLong_any mr
  rw[c3] at h
  exact h
 have LL:Hid (∀ w',w'=w->Calls Tryz.prog 63 #[.int .i64 (n:Int),.slice q A cap] w' fun e w'=>e=.returned (.tuple #[.agg (placesOf (wh ls ls.length)),.bool true])/\w.grownBy w' none):=fun w' e=>by
  subst e
  exact locate_yes hl (by omega) hg
 have hAl:A<=140737488351232:=by rw[hA];exact hl.len
 have hlt:(A:Int) < (k:Int):=by omega
 have zL:=zeroL
 have ST:∀ W:World,(storeCells ⟨W.heap.size,0,none⟩ (placesOf (wh ls ls.length)).toList).run Tryz.prog (W.alloc (.cells (placesOf fun _=>0) 117))=.ok () (W.alloc (.cells (placesOf (wh ls ls.length)) 117)):=fun W=>by
  have:=storeL (f':=wh ls ls.length) (heap_alloc_new W (.cells (placesOf fun _=>0) 117))
  rwa [World.setRow_alloc_new] at this
 have pL:=placesOf_size (wh ls ls.length)
 clear hs hA hN hl mr c1 c2 c3 hm hg hsh
 generalize placesOf (wh ls ls.length)=AR at *
 go_enter Tryz.func45,Tryz.ntmps45
 go_wp2_with (first
  | (go_at_call 50;refine (MM.out _).mono ?_;rintro e w1 ⟨rfl,hw⟩;obtain rfl:=hw.symm;clear hw)
  | (go_at_call 62;refine AA.out.mono ?_;rintro e w1 ⟨rfl,hw⟩;obtain rfl:=hw.symm;clear hw)
  | (go_at_call 63;refine (LL.out _ rfl).mono ?_;rintro e w1 ⟨rfl,g1⟩;have G1:Hid (w.grownBy (w1.alloc (.cells AR 117)) none):=gb_alloc g1 _;clear g1))
 go_ret2
 exact⟨rfl,G1.out⟩
set_option maxHeartbeats 3200000 in
set_option maxRecDepth 100000 in
theorem decode_yes {w:World} {va vc:Value} {k n:Nat} {ls:List Int} {vs:List Value} {X:List (List Nat)} (hl:IVec w va ls) (mr:Mat w vc vs X) (h:decOK k n ls X) (hsh:k<=ls.length) :
 Calls Tryz.prog 45 #[.int .i64 (k:Int),.int .i64 (n:Int),va,vc] w fun e w'=>∃ p m c us D,e=.returned (.tuple #[.slice p m c,.int .i64 0])/\OwnMat w.heap.size w' (.slice p m c) us D/\Sep us/\Shape D k (X.getD 0 []).length/\Tells ls k (X.getD 0 []).length X D/\w.grownBy w' none:=by
 obtain⟨c1,c2,c3,hg⟩:=h
 obtain⟨q,A,cap,rfl,hA⟩:=hl.opened
 obtain⟨qc,N,cc,rfl,hN⟩:=mr.row.opened
 have hs:=mr.same
 obtain rfl:A=N:=by omega
 have hm:=mayI_iff.1 c1
 have hk1:1<=k:=by omega
 have hk2:k < 255:=by omega
 have MM:Hid (∀ w,Calls Tryz.prog 50 #[.int .i64 (k:Int),.int .i64 (n:Int)] w fun e w'=>e=.returned (.bool true)/\w'=w):=fun w=>by
  have h:=codeMay_any (k:Int) (n:Int) w
  rw[c1] at h
  exact h
 have AA:Hid (Calls Tryz.prog 62 #[.slice qc A cc] w fun e w'=>e=.returned (.bool true)/\w'=w):=by
  have h:=asLong_any mr
  rw[c3] at h
  exact h
 have LL:Hid (∀ w',w'=w->Calls Tryz.prog 63 #[.int .i64 (n:Int),.slice q A cap] w' fun e w'=>e=.returned (.tuple #[.agg (placesOf (wh ls ls.length)),.bool true])/\w.grownBy w' none):=fun w' e=>by
  subst e
  exact locate_yes hl (by omega) hg
 have UP:Hid (∀ w,Calls Tryz.prog 64 #[.int .i64 (k:Int),.agg (placesOf (wh ls ls.length))] w fun e w'=>∃ p n c F,e=.returned (.slice p n c)/\IOwn w.heap.size w' (.slice p n c) (intsOf F k k)/\Lined (lk (wh ls ls.length) k) k F k/\w.grownBy w' none):=fun w=>lineUp_any hk1 hk2 (wh_count (n:=n) (by omega) (by simpa using hg) hsh)
 have HPG:Hid (∀ x,x < 255->(placesOf (wh ls ls.length))[x]?=some (.int .i64 ((wh ls ls.length x:Nat):Int))):=fun x hx=>placesOf_get _ _ hx
 have HI:Hid ((Tryz.prog.info? 117).map (·.size)=some (placesOf (wh ls ls.length)).size):=infoL _
 have hAl:A<=140737488351232:=by rw[hA];exact hl.len
 have hlt:¬ (A:Int) < (k:Int):=by omega
 have zL:=zeroL
 have ST:∀ W:World,(storeCells ⟨W.heap.size,0,none⟩ (placesOf (wh ls ls.length)).toList).run Tryz.prog (W.alloc (.cells (placesOf fun _=>0) 117))=.ok () (W.alloc (.cells (placesOf (wh ls ls.length)) 117)):=fun W=>by
  have:=storeL (f':=wh ls ls.length) (heap_alloc_new W (.cells (placesOf fun _=>0) 117))
  rwa [World.setRow_alloc_new] at this
 have pL:=placesOf_size (wh ls ls.length)
 have KX:Hid (∀ w',w.grownBy w' none->Mat w' (.slice qc A cc) vs X):=fun w' g=>mr.keep g
 have SX:Hid (Shape X A (X.getD 0 []).length/\A=ls.length):=⟨by have h:=even_shape c3;rw[show A=X.length from by omega];exact h,hA⟩
 have hkA:k<=A:=by omega
 clear hs hA hN hl mr c1 c2 c3 hm hg hsh
 generalize (X.getD 0 []).length=L at *
 generalize placesOf (wh ls ls.length)=AR at *
 go_enter Tryz.func45,Tryz.ntmps45
 go_wp2_with (first
  | (go_at_call 50;refine (MM.out _).mono ?_;rintro e w1 ⟨rfl,hw⟩;obtain rfl:=hw.symm;clear hw)
  | (go_at_call 62;refine AA.out.mono ?_;rintro e w1 ⟨rfl,hw⟩;obtain rfl:=hw.symm;clear hw)
  | (go_at_call 63;refine (LL.out _ rfl).mono ?_;rintro e w1 ⟨rfl,g1⟩;have G1:Hid (w.grownBy (w1.alloc (.cells AR 117)) none):=gb_alloc g1 _;clear g1))
 clear ST zL pL
 have HB:Hid ((w1.alloc (.cells AR 117)).heap[w1.heap.size]?=some (.cells AR 117 (0,0))):=heap_alloc_new w1 _
 generalize w1.alloc (.cells AR 117)=w2 at *
 generalize w1.heap.size=g10 at *
 clear w1
 refine wp_load_row 117 (.tmp 10) rfl g10 rfl 117 AR (0,0) _ HB.out Tryz.underlying117 rfl HI.out ?_
 go_wp2_with fail
 refine (UP.out _).mono ?_
 rintro e w3 ⟨pl,nl,cl,F,rfl,io,ln,g3⟩
 obtain rfl:nl=k:=by
  obtain⟨_,_,_,e,hn⟩:=io.ivec.opened
  injection e with _ e2 _
  rw[intsOf_len] at hn
  omega
 have LN:Hid (Lined (lk (wh ls ls.length) nl) nl F nl):=ln
 have KL:Hid (∀ w',w3.grownBy w' none->IVec w' (.slice pl nl cl) (intsOf F nl nl)):=fun w' g=>io.ivec.keep g
 have KB:Hid (∀ w',w3.grownBy w' none->w'.heap[g10]?=some (.cells AR 117 (0,0))):=fun w' g=>heap_grown (grown_trans g3 g) HB.out
 have G3:Hid (w.grownBy w3 none):=grown_trans G1.out g3
 clear ln io g3 UP LL AA MM HB G1
 go_wp2_with (at_make;refine wpList_make_out rfl _ _ rfl nl rfl rfl (by omega) ?_;intro w4 p ou g4;have OU:Hid (Out w3.heap.size w4 (.slice p nl nl) (List.replicate nl (.slice none 0 0))):=ou;have G4:Hid (w3.grownBy w4 none):=g4;clear ou g4)
 go_loopw [51] (fun ti wr=>∃ (j:Nat) (us:List Value),j<=nl/\ti=.int .i64 j/\Hid (Out w3.heap.size wr (.slice p nl nl) us/\us.length=nl)/\Hid (∀ i,i < j->us.getD i undef=vs.getD (posOf ls (F i)) undef)/\Hid (w3.grownBy wr none)) (fun ti _=>nl - (intOf ti).toNat)
 case atStart=>exact⟨0,_,by omega,rfl,⟨OU.out,by simp⟩,fun i hi=>by omega,G4⟩
 case round =>
  clear OU G4
  obtain⟨j,us,hj,rfl,OK,UK,GK⟩:=hrel
  by_cases hjl:j < nl
  ·have i1:(j:Int) < (nl:Int):=by omega
   have i3:(0:Int)<=(j:Int):=by omega
   obtain⟨bl,ol,rfl,hcl⟩:=(KL.out _ GK.out).spot (k:=j) (by rw[intsOf_len];exact hjl)
   rw[intsOf_get hjl] at hcl
   have hF:=LN.out.lt j hjl
   have hP:=lk_pos (LN.out.yes j hjl)
   have hcp:wr.cell? ⟨g10,F j,none⟩=some (.int .i64 ((posOf ls (F j):Int)+1)):=by
    rw[cell_of_row _ _ _ _ _ _ (KB.out _ GK.out),HPG.out _ hF,hP.2.2.2]
    simp
   have MX:=KX.out _ (grown_trans G3.out GK.out)
   have hPA:posOf ls (F j) < A:=by have:=SX.out.2;omega
   have hvl:vs.length=A:=by rw[MX.same];exact SX.out.1.len
   obtain⟨bc,oc,rfl,hcc⟩:=MX.row.spot (k:=posOf ls (F j)) (by omega)
   obtain⟨pv,nv,cv,ev,hnv⟩:=(MX.vec (posOf ls (F j)) (by rw[SX.out.1.len];exact hPA)).opened
   rw[ev] at hcc
   obtain⟨g,rfl,hbg,hcg,hfg,hput,hgr⟩:=OK.out.1.place (k:=j) (by rw[OK.out.2];exact hjl)
   have R:Hid ((Out w3.heap.size (wr.setCell ⟨g,j,none⟩ (.slice pv nv cv)) (.slice (some ⟨g,0,none⟩) nl nl) (us.set j (.slice pv nv cv))/\(us.set j (.slice pv nv cv)).length=nl)/\(∀ i,i < j+1->(us.set j (.slice pv nv cv)).getD i undef=vs.getD (posOf ls (F i)) undef)/\w3.grownBy (wr.setCell ⟨g,j,none⟩ (.slice pv nv cv)) none):=by
    refine⟨⟨hput _,by rw[List.length_set];exact OK.out.2⟩,fun i hi=>?_,grown_new GK.out (hgr _) (fun r e=>by have:=Option.some.inj e;omega)⟩
    by_cases c:j=i
    ·subst c
     rw[getD_set_self _ _ _ _ (by rw[OK.out.2];exact hjl)]
     exact ev.symm
    ·rw[getD_set_ne _ _ _ c]
     exact UK.out i (by omega)
   have k1:((posOf ls (F j):Nat):Int) < (A:Int):=by omega
   have k2:(0:Int)<=((posOf ls (F j):Nat):Int):=by omega
   have k3:((F j:Nat):Int) < 255:=by omega
   have k4:(0:Int)<=((F j:Nat):Int):=by omega
   clear MX hput hgr hbg hP hnv ev hvl hF OK UK
   generalize posOf ls (F j)=P at *
   generalize us.getD j undef=uj at *
   generalize F j=fj at *
   go_wp2
   go_roundw
   case rel=>exact⟨j+1,us.set j (.slice pv nv cv),by omega,by go_num,R.out.1,R.out.2.1,R.out.2.2⟩
   case measure=>simp[intOf];omega
  ·obtain rfl:j=nl:=by omega
   have GW:Hid (w.grownBy wr none):=grown_trans G3.out GK.out
   have MT:Hid (Mat wr (.slice p j j) us (toldOf ls X F j)):=by
    refine⟨OK.out.1.cells,by rw[OK.out.2];simp[toldOf],fun i hi=>?_⟩
    have hi':i < j:=by simpa [toldOf] using hi
    rw[UK.out i hi',toldOf_get hi']
    have hP:=lk_pos (LN.out.yes i hi')
    exact (KX.out _ GW.out).vec _ (by rw[SX.out.1.len];have:=SX.out.2;omega)
   have ST:Hid (Shape (toldOf ls X F j) j L):=⟨by simp[toldOf],fun i hi=>by
    rw[toldOf_get hi]
    have hP:=lk_pos (LN.out.yes i hi)
    exact SX.out.1.row _ (by have:=SX.out.2;omega)⟩
   have SS:Hid (Calls Tryz.prog 65 #[.slice pl j cl,.slice p j j] wr fun e w'=>∃ p n c us D,e=.returned (.tuple #[.slice p n c,.int .i64 0])/\OwnMat wr.heap.size w' (.slice p n c) us D/\Sep us/\Shape D j L/\Told F j L (toldOf ls X F j) D/\wr.grownBy w' none):=solve4_any (KL.out _ GK.out) MT.out ST.out hk1 hk2 LN.out.lt LN.out.own LN.out.inj
   clear OK UK MT ST
   go_wp2_with (go_at_call 65;refine SS.out.mono ?_;rintro e w5 ⟨p5,n5,c5,u5',D,rfl,om,sp,sh,td,g5⟩;have R5:Hid (OwnMat wr.heap.size w5 (.slice p5 n5 c5) u5' D/\Sep u5'/\Shape D j L/\Told F j L (toldOf ls X F j) D/\wr.grownBy w5 none):=⟨om,sp,sh,td,g5⟩;clear om sp sh td g5)
   go_ret2
   exact⟨p5,n5,c5,u5',D,rfl,R5.out.1.down GW.out.size,R5.out.2.1,R5.out.2.2.1,tells_of LN.out.yes R5.out.2.2.2.1,grown_trans GW.out R5.out.2.2.2.2⟩
def Has (ls:List Int) (k L:Nat) (X D:List (List Nat)):Prop:=Shape D k L/\(∀ i j,at2 D i j < 256)/\∀ i t,i < k->t < L->codeAt D k (ls.getD i 0).toNat t=at2 X i t
def DecR (k n:Int) (ls:List Int) (X P:List (List Nat)) (er:Int):Prop :=
 (¬ decOK k n ls X/\P=[]/\er=1)\/(decOK k n ls X/\(ls.length:Int) < k/\P=[]/\er=4)\/(decOK k n ls X/\k<=ls.length/\er=0/\Has ls k.toNat (X.getD 0 []).length X P)
def DecP (k n:Int) (ls:List Int) (X P:List (List Nat)) (er:Int):Prop :=
 (¬ decOK k n ls X/\P=[]/\er=1)\/(decOK k n ls X/\(ls.length:Int) < k/\P=[]/\er=4)\/(decOK k n ls X/\k<=ls.length/\er=0/\Tells ls k.toNat (X.getD 0 []).length X P)
end Go.Proofs.YtlklmhojadlncaaGreat
set_option linter.unusedSimpArgs false
namespace Go.Proofs.YtlklmhojadlncaaGreat
namespace SP
def ints (l:List Nat):List Int:=l.map Int.ofNat
theorem ints_len (l:List Nat):(ints l).length=l.length:=by simp[ints]
theorem ints_get (l:List Nat) {i:Nat} (h:i < l.length):(ints l).getD i 0=((l.getD i 0:Nat):Int):=by simp[ints,List.getD,h]
theorem ints_app (l:List Nat) (x:Nat):ints (l++[x])=ints l++[(x:Int)]:=by simp[ints]
theorem told_app (R:AM.Raw) (g:Geo) (slot:Nat) (l:List Nat) (x:Nat):told R g slot (l++[x])=told R g slot l++[datD R g slot x]:=by simp[told]
theorem told_len (R:AM.Raw) (g:Geo) (slot:Nat) (l:List Nat):(told R g slot l).length=l.length:=by simp[told]
theorem told_get (R:AM.Raw) (g:Geo) (slot:Nat) (l:List Nat) {i:Nat} (h:i < l.length):(told R g slot l).getD i []=datD R g slot (l.getD i 0):=by simp[told,List.getD,h]
structure Pick (R:AM.Raw) (g:Geo) (slot:Nat) (l:List Nat):Prop where
 pair:l.Pairwise (· < ·)
 mem:∀ x ∈ l,x < g.n/\yesD R g slot x=true
theorem hits_pick (R:AM.Raw) (g:Geo) (slot m:Nat):Pick R g slot (hits R g slot m g.n):=⟨hits_pair R g slot m g.n,fun x hx=>by
 obtain⟨h1,h2⟩:=hits_mem hx
 unfold has at h2
 simp only[Bool.and_eq_true] at h2
 exact⟨h1,h2.1⟩⟩
theorem found_pick (R:AM.Raw) (g:Geo) (slot m:Nat):Pick R g slot (found R g slot m) :=
 ⟨(hits_pick R g slot m).pair.sublist (List.take_sublist _ _),fun x hx=>(hits_pick R g slot m).mem x (List.mem_of_mem_take hx)⟩
theorem Pick.row {R:AM.Raw} {g:Geo} {slot:Nat} {l:List Nat} (h:Pick R g slot l) {j:Nat} (hj:j < l.length):((told R g slot l).getD j []).length=448:=by
 rw[told_get R g slot l hj]
 have e:l.getD j 0=l[j]:=by simp[List.getD,hj]
 rw[e]
 exact dat_len (h.mem _ (List.getElem_mem hj)).2
theorem Pick.ok {R:AM.Raw} {g:Geo} {slot:Nat} {l:List Nat} (h:Pick R g slot l) (hg:g.Ok R):decOK (g.k:Int) (g.n:Int) (ints l) (told R g slot l):=by
 refine⟨mayI_iff.2 ⟨by have:=hg.k1;omega,by have:=hg.kn;omega,by have:=hg.n255;omega⟩,by rw[ints_len,told_len],evenB_iff.2 fun j hj=>?_,fun i hi=>?_⟩
 ·rw[told_len] at hj
  rw[h.row hj,h.row (by omega)]
 ·rw[ints_len] at hi
  have e:l.getD i 0=l[i]:=by simp[List.getD,hi]
  have h1:=(h.mem _ (List.getElem_mem hi)).1
  rw[ints_get l hi,e]
  refine⟨by omega,by simp;exact h1,fun i' hi'=>?_⟩
  rw[ints_get l (by omega),show l.getD i' 0=l[i'] from by simp[List.getD,show i' < l.length from by omega]]
  have:=List.pairwise_iff_getElem.1 h.pair i' i (by omega) hi hi'
  omega
theorem found_len {R:AM.Raw} {g:Geo} {slot m:Nat} (h:g.k<=(hits R g slot m g.n).length):(found R g slot m).length=g.k:=by simp[found];omega
theorem found_get {R:AM.Raw} {g:Geo} {slot m i:Nat} (h:i < g.k):(found R g slot m).getD i 0=(hits R g slot m g.n).getD i 0:=by simp[found,List.getD,List.getElem?_take,h]
theorem DecP.yes {k n:Int} {ls:List Int} {X P:List (List Nat)} {a:Int} (h:DecP k n ls X P a) (ok:decOK k n ls X) (hk:k<=ls.length):a=0/\Tells ls k.toNat (X.getD 0 []).length X P:=by
 rcases h with ⟨h1,_,_⟩ | ⟨_,h2,_,_⟩ | ⟨_,_,h3,h4⟩
 ·exact absurd ok h1
 ·omega
 ·exact⟨h3,h4⟩
theorem DecR.yes {k n:Int} {ls:List Int} {X P:List (List Nat)} {a:Int} (h:DecR k n ls X P a) (ok:decOK k n ls X) (hk:k<=ls.length):a=0/\Has ls k.toNat (X.getD 0 []).length X P:=by
 rcases h with ⟨h1,_,_⟩ | ⟨_,h2,_,_⟩ | ⟨_,_,h3,h4⟩
 ·exact absurd ok h1
 ·omega
 ·exact⟨h3,h4⟩
theorem dec_both {R:AM.Raw} {g:Geo} {slot m:Nat} (hg:g.Ok R) (hk:g.k<=(hits R g slot m g.n).length) {P Q:List (List Nat)} {a b:Int}
 (h:DecP g.k g.n (ints (found R g slot m)) (told R g slot (found R g slot m)) P a) (h':DecR g.k g.n (ints (hits R g slot m g.n)) (told R g slot (hits R g slot m g.n)) Q b):a=0/\b=0/\Q=P:=by
 have hl:=found_len hk
 have k1:=hg.k1
 obtain⟨rfl,ht⟩:=DecP.yes h ((found_pick R g slot m).ok hg) (by rw[ints_len,hl];omega)
 obtain⟨rfl,hs⟩:=DecR.yes h' ((hits_pick R g slot m).ok hg) (by rw[ints_len];omega)
 refine⟨rfl,rfl,?_⟩
 have L1:((told R g slot (found R g slot m)).getD 0 []).length=448:=(found_pick R g slot m).row (by omega)
 have L2:((told R g slot (hits R g slot m g.n)).getD 0 []).length=448:=(hits_pick R g slot m).row (by omega)
 rw[L1] at ht
 rw[L2] at hs
 simp only[Int.toNat_natCast] at ht hs
 refine ht Q hs.1 hs.2.1 fun i t hi ht'=>?_
 have:=hs.2.2 i t hi ht'
 rw[ints_get _ (by omega)] at this
 rw[ints_get _ (by omega),found_get hi,this]
 unfold at2
 rw[told_get _ _ _ _ (by omega),told_get _ _ _ _ (by omega),found_get hi]
theorem at2_codeRow {D:List (List Nat)} {k L i t:Nat} (h:t < L):(codeRow D k L i).getD t 0=codeAt D k i t:=by simp[codeRow,List.getD,h]
theorem dec_is {R:AM.Raw} {g:Geo} {slot m:Nat} (hg:g.Ok R) (hk:g.k<=(hits R g slot m g.n).length) {P D0:List (List Nat)} {a:Int}
 (h:DecP g.k g.n (ints (found R g slot m)) (told R g slot (found R g slot m)) P a) (hD:Shape D0 g.k 448) (hs:∀ i j,at2 D0 i j < 256)
 (hc:∀ d,d < g.n->has R g slot m d=true->datD R g slot d=codeRow D0 g.k 448 d):a=0/\P=D0:=by
 have hl:=found_len hk
 have k1:=hg.k1
 obtain⟨rfl,ht⟩:=DecP.yes h ((found_pick R g slot m).ok hg) (by rw[ints_len,hl];omega)
 refine⟨rfl,?_⟩
 have L1:((told R g slot (found R g slot m)).getD 0 []).length=448:=(found_pick R g slot m).row (by omega)
 rw[L1] at ht
 simp only[Int.toNat_natCast] at ht
 refine (ht D0 hD hs fun i t hi ht'=>?_).symm
 rw[ints_get _ (by omega)]
 unfold at2
 rw[told_get _ _ _ _ (by omega)]
 have hil:i < (found R g slot m).length:=by omega
 have e:(found R g slot m).getD i 0=(found R g slot m)[i]:=by simp[List.getD,hil]
 have hm:(found R g slot m)[i] ∈ hits R g slot m g.n:=by
  have h1:(found R g slot m)[i] ∈ found R g slot m:=List.getElem_mem hil
  unfold found at h1
  exact List.mem_of_mem_take h1
 obtain⟨h1,h2⟩:=hits_mem hm
 rw[e,hc _ h1 h2,at2_codeRow ht']
 rfl
def RdP (R:AM.Raw) (g:Geo) (slot:Int) (m:Nat) (out:List Nat) (e:Nat):Prop :=
 (why R g slot ≠ 0/\out=[]/\e=why R g slot)\/(why R g slot=0/\m=0/\out=[]/\e=1)\/(why R g slot=0/\m ≠ 0/\(hits R g slot.toNat m g.n).length < g.k/\out=[]/\e=20) \/
 (why R g slot=0/\m ≠ 0/\g.k<=(hits R g slot.toNat m g.n).length/\e=0/\∃ P a,DecP g.k g.n (ints (found R g slot.toNat m)) (told R g slot.toNat (found R g slot.toNat m)) P a/\out=P.flatten)
def parts (xs:List Nat) (k:Nat):List (List Nat):=(List.range k).map fun j=>(xs.drop (448 * j)).take 448
theorem parts_len (xs:List Nat) (k:Nat):(parts xs k).length=k:=by simp[parts]
theorem parts_get (xs:List Nat) {k j:Nat} (h:j < k):(parts xs k).getD j []=(xs.drop (448 * j)).take 448:=by simp[parts,List.getD,h]
theorem parts_succ (xs:List Nat) (k:Nat):parts xs (k+1)=parts xs k++[(xs.drop (448 * k)).take 448]:=by simp[parts,List.range_succ]
theorem parts_shape {xs:List Nat} {k:Nat} (h:xs.length=k * 448):Shape (parts xs k) k 448:=⟨parts_len xs k,fun j hj=>by rw[parts_get xs hj];simp;omega⟩
theorem parts_small {xs:List Nat} (h:∀ x ∈ xs,x < 256) (k:Nat):∀ i j,at2 (parts xs k) i j < 256:=fun i j=>by
 unfold at2
 by_cases hi:i < k
 ·rw[parts_get xs hi]
  refine SM.getD_lt (fun x hx=>h x (List.mem_of_mem_drop (List.mem_of_mem_take hx))) j
 ·simp[parts,List.getD,hi]
theorem parts_flat (xs:List Nat):∀ k,(parts xs k).flatten=xs.take (448 * k)
 | 0=>by simp[parts]
 | k+1=>by
   rw[parts_succ,List.flatten_append,parts_flat xs k]
   simp only[List.flatten_cons,List.flatten_nil,List.append_nil]
   rw[Nat.mul_add,Nat.mul_one,List.take_add]
theorem parts_all {xs:List Nat} {k:Nat} (h:xs.length=k * 448):(parts xs k).flatten=xs:=by
 rw[parts_flat]
 exact List.take_of_length_le (by omega)
theorem parts_fits {R:AM.Raw} {g:Geo} (hg:g.Ok R) {xs:List Nat} (h:xs.length=g.k * 448):fitsB (g.k:Int) (g.n:Int) (parts xs g.k)=true:=by
 have h1:=hg.k1
 have h2:=hg.kn
 have h3:=hg.n255
 have sh:=parts_shape h
 refine fitsB_iff.2 ⟨⟨by omega,by omega,by omega⟩,by rw[parts_len],evenB_iff.2 fun j hj=>?_⟩
 rw[parts_len] at hj
 rw[sh.row j hj,sh.row 0 (by omega)]
def code (g:Geo) (xs:List Nat):List (List Nat):=codeList (parts xs g.k) g.k g.n 448
theorem code_get (g:Geo) (xs:List Nat) {d:Nat} (h:d < g.n):(code g xs).getD d []=codeRow (parts xs g.k) g.k 448 d:=by simp[code,codeList,List.getD,h]
theorem code_len (g:Geo) (xs:List Nat):(code g xs).length=g.n:=by simp[code,codeList]
theorem code_row (g:Geo) (xs:List Nat) {d:Nat} (h:d < g.n):((code g xs).getD d []).length=448:=by rw[code_get g xs h];simp[codeRow]
def write (R:AM.Raw) (g:Geo) (slot:Int) (m:Nat) (xs:List Nat):Nat × AM.Raw :=
 if why R g slot ≠ 0 then (why R g slot,R) else if m=0\/xs.length ≠ g.k * 448 then (1,R) else if R.ons < g.k then (20,R) else wrTo R g slot.toNat m (code g xs) g.n
def put (R:AM.Raw) (g:Geo) (d slot:Int) (m:Nat) (part:List Nat):Nat × AM.Raw :=
 if whyD R g d slot ≠ 0 then (whyD R g d slot,R) else if m=0\/part.length ≠ 448 then (1,R) else lays R g slot.toNat d.toNat m part
theorem write_kept (R:AM.Raw) (g:Geo) (slot:Int) (m:Nat) (xs:List Nat):Kept R (write R g slot m xs).2:=by
 unfold write
 split
 ·exact Kept.refl R
 ·split
  ·exact Kept.refl R
  ·split
   ·exact Kept.refl R
   ·exact wrTo_kept _ _ _ _ _ _
end SP
open Go.RowKit
def SP.hasE (R:AM.Raw) (g:SP.Geo) (d slot:Int) (m:Nat):Nat:=if SP.whyD R g d slot ≠ 0 then SP.whyD R g d slot else if m=0 then 1 else 0
def SP.hasV (R:AM.Raw) (g:SP.Geo) (d slot:Int) (m:Nat):Bool:=decide (SP.hasE R g d slot m=0)&&(SP.yesD R g slot.toNat d.toNat&&decide (SP.numD R g slot.toNat d.toNat=m))
section
variable {F F':Nat->Prop} {w w':World} {s a:Nat} {g:SP.Geo} {R R':AM.Raw}
theorem sreachD_at (h:SI F w s a g R) {d slot c:Int} (hc:(SP.whyD R g d slot:Int)=c):Calls Tryz.prog 84 #[ptr s,.int .i64 d,.int .i64 slot] w fun e w'=>e=.returned (.int .i64 c)/\w'=w:=by
 subst hc;exact sreachD_yes h d slot
theorem shas_all (h:SI F w s a g R) (d slot:Int) (m:Nat) :
 Calls Tryz.prog 67 #[ptr s,.int .i64 d,.int .i64 slot,.int .u64 (m:Int)] w fun e w'=>e=.returned (.tuple #[.bool (SP.hasV R g d slot m),.int .i64 (SP.hasE R g d slot m:Int)])/\w.grownBy w' none:=by
 by_cases hy:SP.whyD R g d slot=0
 ·by_cases hm:m=0
  ·have e1:SP.hasE R g d slot m=1:=by unfold SP.hasE;rw[if_neg (by omega),if_pos hm]
   have e2:SP.hasV R g d slot m=false:=by unfold SP.hasV;rw[e1];rfl
   rw[e1,e2]
   subst hm
   have HR:Hid (Calls Tryz.prog 84 #[ptr s,.int .i64 d,.int .i64 slot] w fun e w''=>e=.returned (.int .i64 0)/\w''=w):=sreachD_at h (by rw[hy];rfl)
   clear h hy e1 e2
   go_enter Tryz.func67,Tryz.ntmps67
   go_wp2_with (go_at_call 84;refine HR.out.mono ?_;rintro e w9 ⟨rfl,hw9⟩;obtain rfl:=hw9.symm;clear hw9)
   go_ret2
   exact⟨rfl,World.grownBy.refl _ _⟩
  ·have e1:SP.hasE R g d slot m=0:=by unfold SP.hasE;rw[if_neg (by omega),if_neg hm]
   obtain⟨y1,y2,y3⟩:=SP.whyD_zero hy
   obtain⟨y4,y5,y6⟩:=SP.why_zero y1
   have e2:SP.hasV R g d slot m=(CM.yes (SP.sects R g slot.toNat d.toNat)&&decide (CM.tN (SP.sects R g slot.toNat d.toNat)=m)):=by unfold SP.hasV SP.yesD SP.numD;rw[e1];simp
   obtain⟨d',rfl⟩:∃ n:Nat,d=(n:Int):=⟨d.toNat,by omega⟩
   obtain⟨sl,rfl⟩:∃ n:Nat,slot=(n:Int):=⟨slot.toNat,by omega⟩
   rw[Int.toNat_natCast,Int.toNat_natCast] at e2
   have HR:Hid (Calls Tryz.prog 84 #[ptr s,.int .i64 (d':Int),.int .i64 (sl:Int)] w fun e w''=>e=.returned (.int .i64 0)/\w''=w):=sreachD_at h (by rw[hy];rfl)
   have SEC:Hid (Calls Tryz.prog 61 #[ptr s,.int .i64 (d':Int),.int .i64 (sl:Int)] w fun e w'=>∃ v us,e=.returned v/\Mat w' v us (SP.sects R g sl d')/\w.grownBy w' none):=ssectors_any h y4 (by omega) (by omega)
   have hne:((m:Int)==0)=false:=eqb_no (b:=0) hm
   rw[e1,e2]
   clear h hy e1 e2 y1 y2 y3 y4 y5 y6 hm
   generalize SP.sects R g sl d'=X at *
   go_enter Tryz.func67,Tryz.ntmps67
   go_wp2_with (first
    | (go_at_call 84;refine HR.out.mono ?_;rintro e w9 ⟨rfl,hw9⟩;obtain rfl:=hw9.symm;clear hw9)
    | (go_at_call 61;refine SEC.out.mono ?_;rintro e w1 ⟨v,us,rfl,m1,g1⟩;have M1:Hid (Mat w1 v us X):=m1;have G1:Hid (w.grownBy w1 none):=g1;clear m1 g1)
    | (go_at_call 85;refine (whole_any m M1.out).mono ?_;rintro e w2 ⟨rfl,g2⟩;have G2:Hid (w.grownBy w2 none):=grown_trans G1.out g2;clear g2))
   go_ret2
   exact⟨rfl,G2.out⟩
 ·have e1:SP.hasE R g d slot m=SP.whyD R g d slot:=by unfold SP.hasE;rw[if_pos hy]
  have e2:SP.hasV R g d slot m=false:=by unfold SP.hasV;rw[e1,decide_eq_false hy];rfl
  rw[e1,e2]
  obtain⟨y,hy1⟩:∃ y,y=SP.whyD R g d slot:=⟨_,rfl⟩
  have HR:Hid (Calls Tryz.prog 84 #[ptr s,.int .i64 d,.int .i64 slot] w fun e w''=>e=.returned (.int .i64 (y:Int))/\w''=w):=sreachD_at h (by rw[hy1])
  rw[<- hy1] at hy ⊢
  have hne:((y:Int) != 0)=true:=neb_yes (b:=0) hy
  clear h hy hy1 e1 e2
  go_enter Tryz.func67,Tryz.ntmps67
  go_wp2_with (go_at_call 84;refine HR.out.mono ?_;rintro e w9 ⟨rfl,hw9⟩;obtain rfl:=hw9.symm;clear hw9)
  go_ret2
  exact⟨rfl,World.grownBy.refl _ _⟩
theorem lays_off {slot d m:Nat} {part:List Nat} (hg:g.Ok R) (h0:R.off=false) (hs:slot < g.s) (hd:d < g.n) (ho:R.on (d:Int)=false):SP.lays R g slot d m part=(9,R):=by
 have hr:=SP.reach_on hg h0 (i:=0) hs (by omega) hd
 rw[ho] at hr
 have e1:SP.layTo R g slot d (CM.secs m part 8) 1=(9,R):=by
  rw[SP.layTo_succ rfl]
  show AM.Raw.writes R _ _ _=_
  unfold AM.Raw.writes
  rw[if_pos (by rw[hr];decide),hr]
  rfl
 unfold SP.lays
 rw[SP.layTo_stop (j:=1) (by rw[e1];show (9:Nat) ≠ 0;omega) 8 (by omega),e1]
set_option maxHeartbeats 1600000 in
theorem sput_all (h:SI F w s a g R) (d slot:Int) (m:Nat) {v:Value} {xs:List Nat} (hv:Vec w v xs) (hL:R.L.length<=990000) :
 Calls Tryz.prog 76 #[ptr s,.int .i64 d,.int .i64 slot,.int .u64 (m:Int),v] w fun e w'=>e=.returned (.int .i64 ((SP.put R g d slot m xs).1:Int))/\∃ F',SI F' w' s a g (SP.put R g d slot m xs).2/\Step F w F' w':=by
 obtain⟨q,N,cap,rfl,hN⟩:=hv.opened
 unfold SP.put
 by_cases hy:SP.whyD R g d slot=0
 ·have HR:Hid (Calls Tryz.prog 84 #[ptr s,.int .i64 d,.int .i64 slot] w fun e w''=>e=.returned (.int .i64 0)/\w''=w):=sreachD_at h (by rw[hy];rfl)
  rw[if_neg (by omega)]
  by_cases ha:m=0\/xs.length ≠ 448
  ·rw[if_pos ha]
   have H:Hid (SI F w s a g R):=h
   by_cases hm:m=0
   ·subst hm
    clear h hy ha hv hN
    go_enter Tryz.func76,Tryz.ntmps76
    go_wp2_with (go_at_call 84;refine HR.out.mono ?_;rintro e w9 ⟨rfl,hw9⟩;obtain rfl:=hw9.symm;clear hw9)
    go_ret
    exact⟨rfl,F,H.out,Step.refl _ _⟩
   ·have i1:((m:Int)==0)=false:=eqb_no (b:=0) hm
    have i2:((N:Int) != 448)=true:=neb_yes (b:=448) (by rcases ha with h' | h' <;> omega)
    clear h hy ha hv hN
    go_enter Tryz.func76,Tryz.ntmps76
    go_wp2_with (go_at_call 84;refine HR.out.mono ?_;rintro e w9 ⟨rfl,hw9⟩;obtain rfl:=hw9.symm;clear hw9)
    go_ret
    exact⟨rfl,F,H.out,Step.refl _ _⟩
  ·rw[if_neg ha]
   have i1:((m:Int)==0)=false:=eqb_no (b:=0) (by omega)
   have i2:((N:Int) != 448)=false:=neb_no (b:=448) (by omega)
   obtain⟨y1,y2,y3⟩:=SP.whyD_zero hy
   obtain⟨y4,y5,y6⟩:=SP.why_zero y1
   obtain⟨d',rfl⟩:∃ n:Nat,d=(n:Int):=⟨d.toNat,by omega⟩
   obtain⟨sl,rfl⟩:∃ n:Nat,slot=(n:Int):=⟨slot.toNat,by omega⟩
   rw[Int.toNat_natCast,Int.toNat_natCast]
   have c0:=h.at1
   obtain⟨o,ho⟩:∃ o,o=R.on (d':Int):=⟨_,rfl⟩
   have ON:Hid (Calls Tryz.prog 17 #[ptr a,.int .i64 (d':Int)] w fun e w'=>e=.returned (.bool o)/\w'=w):=by rw[ho];exact on_yes h.i (d':Int)
   cases o
   ·rw[lays_off h.ok y4 (by omega) (by omega) ho.symm]
    have H:Hid (SI F w s a g R):=h
    clear h hy ha hv hN y1 y2 y3 y4 y5 y6 ho
    go_enter Tryz.func76,Tryz.ntmps76
    go_wp2_with (first
     | (go_at_call 84;refine HR.out.mono ?_;rintro e w9 ⟨rfl,hw9⟩;obtain rfl:=hw9.symm;clear hw9)
     | (go_at_call 17;refine ON.out.mono ?_;rintro e w9 ⟨rfl,hw9⟩;obtain rfl:=hw9.symm;clear hw9))
    go_ret
    exact⟨rfl,F,H.out,Step.refl _ _⟩
   ·obtain⟨c,hc⟩:∃ c,c=(SP.lays R g sl d' m xs).1:=⟨_,rfl⟩
    have LA:Hid (Calls Tryz.prog 55 #[ptr s,.int .i64 (d':Int),.int .i64 (sl:Int),.int .u64 (m:Int),.slice q N cap] w fun e w'=>e=.returned (.int .i64 (c:Int))/\∃ F',SI F' w' s a g (SP.lays R g sl d' m xs).2/\Step F w F' w'):=by
     rw[hc]
     exact slay_any h (by omega) hv (by omega) (by omega) (by omega)
    rw[<- hc]
    clear h hy ha hv hN y1 y2 y3 y4 y5 y6 ho hc
    go_enter Tryz.func76,Tryz.ntmps76
    go_wp2_with (first
     | (go_at_call 84;refine HR.out.mono ?_;rintro e w9 ⟨rfl,hw9⟩;obtain rfl:=hw9.symm;clear hw9)
     | (go_at_call 17;refine ON.out.mono ?_;rintro e w9 ⟨rfl,hw9⟩;obtain rfl:=hw9.symm;clear hw9)
     | (go_at_call 55;refine LA.out.mono ?_;rintro e w4 ⟨rfl,F4,i4',st4⟩;have I4:Hid (SI F4 w4 s a g (SP.lays R g sl d' m xs).2):=i4';have T4:Hid (Step F w F4 w4):=st4;clear i4' st4))
    go_ret
    exact⟨rfl,F4,I4.out,T4.out⟩
 ·rw[if_pos hy]
  obtain⟨y,hy1⟩:∃ y,y=SP.whyD R g d slot:=⟨_,rfl⟩
  have HR:Hid (Calls Tryz.prog 84 #[ptr s,.int .i64 d,.int .i64 slot] w fun e w''=>e=.returned (.int .i64 (y:Int))/\w''=w):=sreachD_at h (by rw[hy1])
  have H:Hid (SI F w s a g R):=h
  rw[<- hy1] at hy ⊢
  have hne:((y:Int) != 0)=true:=neb_yes (b:=0) hy
  clear h hy hy1 hv hN
  go_enter Tryz.func76,Tryz.ntmps76
  go_wp2_with (go_at_call 84;refine HR.out.mono ?_;rintro e w9 ⟨rfl,hw9⟩;obtain rfl:=hw9.symm;clear hw9)
  go_ret
  exact⟨rfl,F,H.out,Step.refl _ _⟩
end
theorem row_apart {B B':Nat} {w:World} {e e':TypeId} {v u:Value} {n m:Nat} {xs ys:List Value} (ne:e ≠ e') (hv:w.ownsRow B e 1 v n xs) (hu:w.ownsRow B' e' 1 u m ys):Ap v u:=by
 unfold Ap
 rcases hv.2 with ⟨rfl,_⟩ | ⟨g,cap,cur,rfl,_,hg,_⟩
 ·exact .inl rfl
 ·rcases hu.2 with ⟨rfl,_⟩ | ⟨g',cap',cur',rfl,_,hg',_⟩
  ·exact .inr (by simp[Value.ownBlock])
  ·refine .inr fun h=>?_
   have e1:g=g':=by simpa [Value.ownBlock] using h
   subst e1
   rw[hg] at hg'
   injection hg' with h1
   injection h1 with _ h2 _
   exact ne h2
theorem IOwn.kept {B:Nat} {w w':World} {v:Value} {ls:List Int} {row:Option Nat} (h:IOwn B w v ls) (g:w.grownBy w' row) (ne:v.ownBlock=none\/v.ownBlock ≠ row):IOwn B w' v ls:=⟨h.len,h.row.kept g ne⟩
theorem IOwn.nil (B:Nat) (w:World):IOwn B w (.slice none 0 0) []:=⟨by simp,World.ownsRow_nil w B 3 1⟩
theorem IVec.none {w:World} (p:Option Addr) (c:Nat) (hc:c<=maxLen):IVec w (.slice p 0 c) []:=⟨by simp,p,c,rfl,by simp,hc,fun h=>absurd rfl h⟩
theorem run_append_int {B:Nat} {w:World} {dv:Value} {ls:List Int} (hd:IOwn B w dv ls) (ad:Addr) {x:Int} (hu:w.cell? ad=some (.int .i64 x)) (hB:B<=w.heap.size) (hl:(ls.length+1) * 8<=140737488351232) (ty:TypeId) :
 ∃ v' w',(Builtin.append_ #[87,87] ty #[dv,.slice (some ad) 1 1]).run Tryz.prog w=.ok v' w'/\IOwn B w' v' (ls++[x])/\w.grownBy w' dv.ownBlock/\(v'.ownBlock=dv.ownBlock\/v'.ownBlock=some w.heap.size):=by
 obtain⟨i0,hi,hz0,hz1,hz2⟩:=info_parts Tryz.infoI
 obtain⟨v',w',r1,r2,r3,_,r5⟩:=run_append_own_at (P:=Tryz.prog) w B 87 ty 3 i0 (.int .i64 0) 1 8 Tryz.underlying87 hi hz0 hz1 hz2 rfl (by decide) dv ls.length _ hd.row ad 1 1 [.int .i64 x] (by simp)
  (fun j v hj=>by
    match j,hj with
    | 0,hj=>simp at hj;subst hj;simpa [Addr.add] using hu)
  (fun v hv=>by simp at hv;subst hv;rfl) (by unfold maxLen;omega) (by omega) hB
 exact⟨v',w',r1,⟨by simpa using hl,by simpa using r2⟩,r3,r5⟩
theorem step_append_int {ops:Array Oper} {o:Oper} {a:Act} {w:World} {K:Act->World->Prop} {Q:Exit->Act->World->Prop} {E:Prop} (hgd:o.guard=none) (d s:Operand)
 (ho:o.op=.call { callee:=.builtin .append,args:=#[d,s],argTypes:=#[87,87] }) (dv:Value) (ad:Addr) (hed:a.eval d=dv) (hes:a.eval s=.slice (some ad) 1 1)
 {B:Nat} {ls:List Int} {x:Int} (hd:IOwn B w dv ls) (hu:w.cell? ad=some (.int .i64 x)) (hB:B<=w.heap.size) (hl:(ls.length+1) * 8<=140737488351232)
 (h:∀ v' w',IOwn B w' v' (ls++[x])->w.grownBy w' dv.ownBlock->(v'.ownBlock=dv.ownBlock\/v'.ownBlock=some w.heap.size)->K (a.put o.dst v') w') :
 if Region.wanted o (yielded ops a.tmps)=true then Oper.wp Tryz.prog o a w K Q else E:=by
 have hw:Region.wanted o (yielded ops a.tmps)=true:=by simp[Region.wanted,hgd]
 rw[if_pos hw]
 obtain⟨v',w',hrun,r1,r2,r3⟩:=run_append_int hd ad hu hB hl o.type
 unfold Oper.wp
 simp[execOp,ho,resolve,invoke,builtin,hed,hes,hrun,Result.andThen]
 exact h _ _ r1 r2 r3
end Go.Proofs.YtlklmhojadlncaaGreat
