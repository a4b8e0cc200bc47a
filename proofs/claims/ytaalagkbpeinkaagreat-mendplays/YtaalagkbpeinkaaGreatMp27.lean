/- Packed: RAll9, Acts9, Var9, PlS9, Data8, StA9, StB9. -/
import Derived.Test.YtaalagkbpeinkaaGreatMp26
import Derived.Lib.SmallJoins
import Derived.Deep.Slices
set_option linter.unusedSimpArgs false
set_option linter.unusedVariables false
set_option maxRecDepth 100000
namespace Go.Proofs.YtaalagkbpeinkaaGreat
open Go.RowKit
def RalOut (G:Nat->Prop) (w:World) (t r:Nat) (g:SP.Geo) (R:AM.Raw) (st:List Nat) (e:Ending) (w':World):Prop:=∃ n er R',e=.returned (.tuple #[.int .i64 ((n:Nat):Int),.int .i64 ((er:Nat):Int)])/\SP.allP (fun R=>SP.RdR R g) R g st n er R'/\∃ G',RSI G' w' t r g R'/\Step G w G' w'
theorem ralOut_mk {G G':Nat->Prop} {w w':World} {t r:Nat} {g:SP.Geo} {R R':AM.Raw} {st:List Nat} {x c:Int} {n er:Nat} (h:SP.allP (fun R=>SP.RdR R g) R g st n er R') (hx:x=(n:Int)) (hc:c=(er:Int)) (i:RSI G' w' t r g R') (s:Step G w G' w'):RalOut G w t r g R st (.returned (.tuple #[.int .i64 x,.int .i64 c])) w':=⟨n,er,R',by rw[hx,hc],h,G',i,s⟩
section
variable {G G':Nat->Prop} {w w':World} {t r:Nat} {g:SP.Geo} {R R':AM.Raw}
theorem rall_off (h:RSI G w t r g R) (h0:R.off=true) (v:Value) (st:List Nat):Calls Tryz.prog 38 #[tptr t,v] w (RalOut G w t r g R st):=by
 have c0:=h.at1
 have cd:=h.dark
 rw[h0] at cd
 have H:Hid (RSI G w t r g R/\R.off=true):=⟨h,h0⟩
 clear h h0
 go_enter Tryz.func38,Tryz.ntmps38
 go_wp2
 go_ret2
 exact ralOut_mk (n:=0) (er:=8) (.inl ⟨H.out.2,rfl,rfl,rfl⟩) rfl rfl H.out.1 (Step.refl _ _)
theorem rall_arg (h:RSI G w t r g R) (h0:R.off=false) {p:Option Addr} {N cap:Nat} {st:List Nat} (hN:N=st.length) (hs:st.length ≠ g.s):Calls Tryz.prog 38 #[tptr t,.slice p N cap] w (RalOut G w t r g R st):=by
 have c0:=h.at1
 have c3:=h.at4
 have cd:=h.dark
 rw[h0] at cd
 have hne:((N:Int) != (g.s:Int))=true:=neb_yes (by omega)
 have H:Hid (RSI G w t r g R/\R.off=false/\st.length ≠ g.s):=⟨h,h0,hs⟩
 clear h h0 hN hs
 go_enter Tryz.func38,Tryz.ntmps38
 go_wp2
 go_ret2
 exact ralOut_mk (n:=0) (er:=1) (.inr (.inl ⟨H.out.2.1,H.out.2.2,rfl,rfl,rfl⟩)) rfl rfl H.out.1 (Step.refl _ _)
set_option maxHeartbeats 6400000 in
theorem rall_main (h:RSI G w t r g R) (h0:R.off=false) {v:Value} {st:List Nat} (hv:Cells w v (us9 st)) (hF:∀ b,v.ownBlock=some b->¬ G b) (hN:st.length=g.s) (hb:∀ i,st.getD i 0 < 18446744073709551616) (hL:R.L.length+8 * g.n * g.s<=980000) :
 Calls Tryz.prog 38 #[tptr t,v] w (RalOut G w t r g R st):=by
 obtain⟨p,N,cap,rfl,hNN⟩:=hv.opened
 rw[us9_len] at hNN
 have c0:=h.at1
 have c3:=h.at4
 have cd:=h.dark
 rw[h0] at cd
 have H:Hid (RSI G w t r g R):=h
 have hne:((N:Int) != (g.s:Int))=false:=neb_no (by omega)
 have HV:Hid (Cells w (.slice p N cap) (us9 st)/\∀ b,(Value.slice p N cap).ownBlock=some b->¬ G b):=⟨hv,hF⟩
 have HN:Hid (N=st.length/\N=g.s/\R.L.length+8 * g.n * g.s<=980000/\g.s<=128/\g.n<=255/\R.off=false/\(∀ i,st.getD i 0 < 18446744073709551616)):=⟨hNN,by omega,hL,h.ok.s2,h.ok.n255,h0,hb⟩
 have hNb:N<=128:=by have:=h.ok.s2;omega
 clear h h0 hv hF hN hL hNN hb
 go_enter Tryz.func38,Tryz.ntmps38
 go_wp2_with fail
 clear c0 c3 cd hne
 go_loopw [6,7] (fun ts ti wr=>∃ k n0:Nat,k<=N/\ti=.int .i64 (k:Int)/\ts=.int .i64 (n0:Int)/\Hid (∃ R0,SP.allTo (fun R=>SP.RdR R g) R g st k n0 0 R0/\∃ G',RSI G' wr t r g R0/\Step G w G' wr)) (fun _ ti _=>N - (intOf ti).toNat)
 case atStart=>exact⟨0,0,by omega,rfl,rfl,R,⟨rfl,rfl,rfl⟩,G,H.out,Step.refl _ _⟩
 case round =>
  obtain⟨k,n0,hk,rfl,rfl,HX⟩:=hrel
  obtain⟨R0,ha,G0,i0,st0⟩:=HX.out
  have AT:Hid (SP.allTo (fun R=>SP.RdR R g) R g st k n0 0 R0):=ha
  have I0:Hid (RSI G0 wr t r g R0):=i0
  have T0:Hid (Step G w G0 wr):=st0
  have hn0:=allTo_le _ _ _ _ ha
  clear HX ha i0 st0
  by_cases hlt:k < N
  ·have i4:(k:Int) < (N:Int):=by omega
   have i5:(0:Int)<=(k:Int):=by omega
   have hkl:k < st.length:=by have:=HN.out.1;omega
   obtain⟨b,off,rfl,hc0⟩:=HV.out.1.spot (k:=k) (by rw[us9_len];exact hkl)
   rw[us9_get hkl] at hc0
   have hc:=T0.out.upd.cell hc0 (HV.out.2 b rfl)
   obtain⟨x,hx⟩:∃ x,x=st.getD k 0:=⟨_,rfl⟩
   have HXX:Hid (x=st.getD k 0):=hx
   rw[<- hx] at hc
   have hmul:g.n * k<=255 * 128:=Nat.mul_le_mul HN.out.2.2.2.2.1 (by omega)
   clear hc0 hx
   by_cases hx0:x=0
   ·subst hx0
    have HA:Hid (SP.allTo (fun R=>SP.RdR R g) R g st (k+1) n0 0 R0):=⟨n0,0,R0,AT.out,.inr (.inl ⟨rfl,HXX.out.symm,rfl,rfl,rfl⟩)⟩
    clear hn0 hmul AT
    go_wp2
    go_roundw
    case rel=>exact⟨k+1,n0,by omega,by go_num,rfl,R0,HA.out,G0,I0.out,T0.out⟩
    case measure=>simp[intOf];omega
   ·have hne:((x:Int) != 0)=true:=neb_yes (b:=0) hx0
    have hne':((x:Int)==0)=false:=eqb_no (b:=0) hx0
    have SL:Hid (Calls Tryz.prog 35 #[tptr t,.int .i64 (k:Int),.int .u64 (x:Int)] wr fun e w'=>∃ out er,SP.RdR R0 g (k:Int) x out er/\e=.returned (.tuple #[.int .i64 ((SP.slotN R0 g (k:Int) x out er:Nat):Int),.int .i64 (((SP.slotM R0 g (k:Int) x out er).1:Nat):Int)])/\∃ G',RSI G' w' t r g (SP.slotM R0 g (k:Int) x out er).2/\Step G w G' w'):=by
     have hlen:=allTo_len _ _ _ _ AT.out
     have h2:8 * g.n * k<=8 * g.n * g.s:=Nat.mul_le_mul_left _ (by have:=HN.out.2.1;omega)
     refine (rslot_all I0.out (by have:=HN.out.2.2.1;omega) (k:Int) x (by rw[HXX.out];exact HN.out.2.2.2.2.2.2 k)).mono ?_
     rintro e w' ⟨out,er,hr,rfl,F',i',st'⟩
     exact⟨out,er,hr,rfl,F',i',T0.out.trans st'⟩
    have HX0:Hid (x ≠ 0):=hx0
    have HB:Hid (n0<=g.n * k/\g.n * k<=255 * 128):=⟨hn0,hmul⟩
    clear hn0 hmul hx0
    go_wp2_with fail
    refine SL.out.mono ?_
    rintro e w5 ⟨out,er,hr,rfl,hp⟩
    have HR:Hid (SP.RdR R0 g (k:Int) x out er):=hr
    have HP:Hid (∃ G',RSI G' w5 t r g (SP.slotM R0 g (k:Int) x out er).2/\Step G w G' w5):=hp
    obtain⟨c,hcc⟩:∃ c,c=(SP.slotM R0 g (k:Int) x out er).1:=⟨_,rfl⟩
    obtain⟨n5,hn5⟩:∃ n5,n5=SP.slotN R0 g (k:Int) x out er:=⟨_,rfl⟩
    rw[<- hcc,<- hn5]
    have HC:Hid (c=(SP.slotM R0 g (k:Int) x out er).1/\n5=SP.slotN R0 g (k:Int) x out er):=⟨hcc,hn5⟩
    clear hr hp hcc hn5 SL
    have hn5:n5<=255:=by
     have:=SP.slotN_le R0 g (k:Int) x out er
     have:=HN.out.2.2.2.2.1
     have:=HC.out.2
     omega
    by_cases hc0:c=0
    ·subst hc0
     have HA:Hid (SP.allTo (fun R=>SP.RdR R g) R g st (k+1) (n0+n5) 0 (SP.slotM R0 g (k:Int) x out er).2):=by
      refine⟨n0,0,R0,AT.out,.inr (.inr ⟨rfl,by rw[<- HXX.out];exact HX0.out,out,er,?_,?_,?_,?_⟩)⟩
      ·rw[<- HXX.out];exact HR.out
      ·rw[<- HXX.out]
      ·rw[<- HXX.out];exact HC.out.1
      ·rw[<- HXX.out,if_pos rfl,HC.out.2]
     have hw:IntKind.i64.wrap ((n0:Int)+(n5:Int))=((n0+n5:Nat):Int):=by
      have e:(n0:Int)+(n5:Int)=((n0+n5:Nat):Int):=by omega
      rw[e]
      exact IntWalk.i64_in _ (by have:=HB.out;omega)
     clear HC HR
     go_wp2
     go_roundw
     case rel=>exact⟨k+1,n0+n5,by omega,by go_num,rfl,_,HA.out,HP.out⟩
     case measure=>simp[intOf];omega
    ·have hce:((c:Int) != 0)=true:=neb_yes (b:=0) hc0
     have HA:Hid (SP.allTo (fun R=>SP.RdR R g) R g st g.s 0 c (SP.slotM R0 g (k:Int) x out er).2):=by
      refine SP.allTo_stop (j:=k+1) ?_ hc0 g.s (by have:=HN.out.2.1;omega)
      refine⟨n0,0,R0,AT.out,.inr (.inr ⟨rfl,by rw[<- HXX.out];exact HX0.out,out,er,?_,?_,?_,?_⟩)⟩
      ·rw[<- HXX.out];exact HR.out
      ·rw[<- HXX.out]
      ·rw[<- HXX.out];exact HC.out.1
      ·rw[if_neg hc0]
     clear HC HR hc0
     go_wp2
     go_ret2
     obtain⟨G9,i9,s9⟩:=HP.out
     exact ralOut_mk (n:=0) (er:=c) (.inr (.inr ⟨HN.out.2.2.2.2.2.1,by have:=HN.out;omega,HA.out⟩)) rfl rfl i9 s9
  ·have i4:¬ (k:Int) < (N:Int):=by omega
   have hkn:Hid (k=g.s):=by show _=_;have:=HN.out.2.1;omega
   clear hn0
   go_wp2
   go_ret2
   exact ralOut_mk (n:=n0) (er:=0) (.inr (.inr ⟨HN.out.2.2.2.2.2.1,by have:=HN.out;omega,by rw[<- hkn.out];exact AT.out⟩)) rfl rfl I0.out T0.out
theorem rall_all (h:RSI G w t r g R) {v:Value} {st:List Nat} (hv:Cells w v (us9 st)) (hF:∀ b,v.ownBlock=some b->¬ G b) (hb:∀ i,st.getD i 0 < 18446744073709551616) (hL:R.L.length+8 * g.n * g.s<=980000) :
 Calls Tryz.prog 38 #[tptr t,v] w (RalOut G w t r g R st):=by
 cases h0:R.off
 ·by_cases hN:st.length=g.s
  ·exact rall_main h h0 hv hF hN hb hL
  ·obtain⟨p,N,cap,rfl,hNN⟩:=hv.opened
   rw[us9_len] at hNN
   exact rall_arg h h0 hNN hN
 ·exact rall_off h h0 v st
end
theorem UOwn.cells9 {B:Nat} {w:World} {v:Value} {st:List Nat} (h:UOwn B w v st):Cells w v (us9 st):=by
 have hl:=h.len
 refine⟨by rw[us9_len];omega,?_⟩
 rcases h.row.2 with ⟨rfl,hn⟩ | ⟨g,cap,cur,rfl,hb,hg,hc,hm,hs,ht⟩
 ·have:st=[]:=List.eq_nil_of_length_eq_zero hn
  subst this
  exact⟨none,0,rfl,Nat.le_refl _,by decide,fun h=>absurd rfl h⟩
 ·refine⟨some ⟨g,0,none⟩,cap,by rw[us9_len],by rw[us9_len];exact hc,hm,fun _=>⟨g,0,rfl,fun j hj=>?_⟩⟩
  rw[us9_len] at hj
  have:=h.row.cells (g:=g) rfl j (.int .u64 ((st.getD j 0:Nat):Int)) (by simp[List.getD,hj])
  rw[add_at] at this
  rw[this,us9_get hj]
theorem made_u64 {w w':World} {n:Nat} (hn:n<=1000) (e:w'=w.alloc (.cells (madeCells #[.int .u64 0] n) 30)):UOwn w.heap.size w' (.slice (some ⟨w.heap.size,0,none⟩) n n) (List.replicate n 0):=by
 subst e
 refine⟨by simpa using hn,by simp,.inr ⟨w.heap.size,n,_,by simp,Nat.le_refl _,heap_alloc_new w _,by simp,by unfold maxLen;omega,?_,?_⟩⟩
 ·simp[madeCells]
 ·rw[List.map_replicate,Nat.mul_one,List.length_replicate];exact made_list _ n
theorem wpList_make_u64 {w:World} {ops:Array Oper} {rest:List Oper} {o:Oper} {a:Act} {Q:Exit->Act->World->Prop} (hgd:o.guard=none) (l c:Operand)
 (ho:o.op=Op.makeSlice 64 l c) (n:Nat) (hel:a.eval l=.int .i64 (n:Int)) (hec:a.eval c=.int .i64 (n:Int)) (hn:n<=1000)
 (h:∀ w1 p,UOwn w.heap.size w1 (.slice p n n) (List.replicate n 0)->w.grownBy w1 none->wpList Tryz.prog ops Q rest (a.put o.dst (.slice p n n)) w1):wpList Tryz.prog ops Q (o :: rest) a w:=by
 obtain⟨i0,hi,hz0,hz1,hz2⟩:=info_parts Tryz.infoU8
 refine wpList_make_row _ hgd l c 64 ho 30 i0 (.int .u64 0) Tryz.underlying64 hi hz0 hz1 rfl _ _ n hel hec (by rw[hz2];omega) (by omega) ?_
 exact h _ _ (made_u64 hn rfl) (World.grownBy_alloc _ _ none)
def stTo (n m j:Nat):List Nat:=(List.range n).map fun i=>if i < j then m else 0
theorem stTo_zero (n m:Nat):stTo n m 0=List.replicate n 0:=by
 apply List.ext_getElem
 ·simp[stTo]
 ·intro i h1 h2;simp[stTo]
theorem stTo_all (n m:Nat):stTo n m n=List.replicate n m:=by
 apply List.ext_getElem
 ·simp[stTo]
 ·intro i h1 h2
  simp[stTo] at h1 ⊢
  omega
theorem stTo_succ (n m:Nat) {j:Nat} (h:j < n):(stTo n m j).set j m=stTo n m (j+1):=by
 apply List.ext_getElem
 ·simp[stTo]
 ·intro i h1 h2
  simp only[stTo,List.getElem_set,List.getElem_map,List.getElem_range]
  by_cases c:j=i
  ·subst c;simp
  ·rw[if_neg c]
   by_cases c2:i < j
   ·rw[if_pos c2,if_pos (by omega)]
   ·rw[if_neg c2,if_neg (by omega)]
set_option maxHeartbeats 1600000 in
theorem stamps_yes (w:World) {n m:Nat} (hn:n<=9):Calls Tryz.prog 36 #[.int .i64 (n:Int),.int .u64 (m:Int)] w fun e w'=>∃ p c,e=.returned (.slice p n c)/\UOwn w.heap.size w' (.slice p n c) (List.replicate n m)/\w.grownBy w' none:=by
 go_enter Tryz.func36,Tryz.ntmps36
 go_wp2_with (at_make;refine wpList_make_u64 rfl _ _ rfl n rfl rfl (by omega) ?_;intro w1 p o1 g1;have O1:Hid (UOwn w.heap.size w1 (.slice p n n) (List.replicate n 0)):=o1;have G1:Hid (w.grownBy w1 none):=g1;clear o1 g1)
 go_loopw [6] (fun ti wr=>∃ j:Nat,j<=n/\ti=.int .i64 j/\Hid (UOwn w.heap.size wr (.slice p n n) (stTo n m j))/\Hid (w.grownBy wr none)) (fun ti _=>n - (intOf ti).toNat)
 case atStart=>exact⟨0,by omega,rfl,by rw[stTo_zero];exact O1.out,G1⟩
 case round =>
  clear O1 G1
  obtain⟨j,hj,rfl,OK,GK⟩:=hrel
  by_cases hlt:j < n
  ·have i3:(j:Int) < (n:Int):=by omega
   have i4:(0:Int)<=(j:Int):=by omega
   obtain⟨b,rfl,hb,hr,hf,hset,hgr⟩:=OK.out.place (k:=j) (by simp[stTo];omega)
   have HLO:Hid (w.heap.size<=b):=hb
   have HS:Hid (∀ z:Nat,UOwn w.heap.size (wr.setCell ⟨b,j,none⟩ (.int .u64 (z:Int))) (.slice (some ⟨b,0,none⟩) n n) ((stTo n m j).set j z)):=hset
   have HG:Hid (∀ u,wr.grownBy (wr.setCell ⟨b,j,none⟩ u) (some b)):=hgr
   clear hset hgr hb OK
   go_wp2
   go_roundw
   case rel=>exact⟨j+1,by omega,by go_num,(by have h1:=HS.out m;rw[stTo_succ n m hlt] at h1;exact h1),grown_new GK.out (HG.out _) (fun i e=>by have:=Option.some.inj e;have:=HLO.out;omega)⟩
   case measure=>simp[intOf];omega
  ·have i3:¬ (j:Int) < (n:Int):=by omega
   have hjn:Hid (j=n):=by show _=_;omega
   go_wp2
   go_ret
   exact⟨_,_,rfl,by rw[<- stTo_all];have h9:=OK.out;rwa [hjn.out] at h9,GK.out⟩
def SP.standL (R:AM.Raw) (g:SP.Geo) (j:Nat):List Nat:=(List.range j).map fun i=>SP.wholeV R g ((i:Nat):Int)
theorem SP.standL_succ (R:AM.Raw) (g:SP.Geo) (j:Nat):SP.standL R g (j+1)=SP.standL R g j++[SP.wholeV R g ((j:Nat):Int)]:=by simp[SP.standL,List.range_succ]
theorem SP.standL_lt {R:AM.Raw} {g:SP.Geo} (ok:R.Ok) (hg:g.Ok R) (j:Nat):∀ i,(SP.standL R g j).getD i 0 < 18446744073709551616:=fun i=>by
 by_cases hi:i < j
 ·have e:(SP.standL R g j).getD i 0=SP.wholeV R g ((i:Nat):Int):=by simp[SP.standL,List.getD,hi]
  rw[e]
  unfold SP.wholeV
  split
  ·rename_i hy
   obtain⟨_,q1,q2⟩:=SP.why_zero hy
   rw[Int.toNat_natCast]
   have:SP.whole R g i<=18446744073709551615:=by
    unfold SP.whole SP.often
    refine SP.top_le fun x hx=>?_
    have h1:=(List.mem_filter.1 hx).1
    unfold SP.stampTo at h1
    obtain⟨d,_,rfl⟩:=List.mem_map.1 h1
    have:=SP.num_lt ok hg (slot:=i) (d:=d) (by omega)
    have h9:(256:Nat) ^ 8=18446744073709551616:=by decide
    omega
   omega
  ·omega
 ·have e:(SP.standL R g j).getD i 0=0:=by simp[SP.standL,List.getD,hi]
  rw[e]
  omega
set_option maxHeartbeats 1600000 in
theorem standing_yes {G:Nat->Prop} {w:World} {t r:Nat} {g:SP.Geo} {R:AM.Raw} (h:RSI G w t r g R) (hL:R.L.length<=1000000):Calls Tryz.prog 37 #[tptr t] w fun e w'=>∃ p n c,e=.returned (.slice p n c)/\UOwn w.heap.size w' (.slice p n c) (SP.standL R g g.s)/\w.grownBy w' none:=by
 have H:Hid (RSI G w t r g R):=h
 have HN:Hid (R.L.length<=1000000/\g.s<=128):=⟨hL,h.ok.s2⟩
 have hs:g.s<=128:=h.ok.s2
 have HS:Hid (∀ w',w.grownBy w' none->w'.cell? ⟨t,3,none⟩=some (.int .i64 (g.s:Int))):=fun w' g'=>(h.keep g').at4
 clear h hL
 go_enter Tryz.func37,Tryz.ntmps37
 go_wp2_with fail
 go_loopw [3,4] (fun tl ti wr=>∃ j:Nat,j<=g.s/\ti=.int .i64 (j:Int)/\Hid (UOwn w.heap.size wr tl (SP.standL R g j))/\Hid (w.grownBy wr none)) (fun _ ti _=>g.s - (intOf ti).toNat)
 case atStart=>exact⟨0,by omega,rfl,UOwn.nil _ _,World.grownBy.refl _ _⟩
 case round =>
  obtain⟨j,hj,rfl,OK,GK⟩:=hrel
  have c2:=HS.out _ GK.out
  obtain⟨ap,an,ac,e8,ha⟩:=OK.out.opened
  subst e8
  clear ha
  by_cases hlt:j < g.s
  ·have i3:(j:Int) < (g.s:Int):=by omega
   have HH:Hid (Calls Tryz.prog 90 #[tptr t,.int .i64 (j:Int)] wr fun e w'=>e=.returned (.tuple #[.int .u64 ((SP.wholeV R g ((j:Nat):Int):Nat):Int),.int .i64 (SP.why R g ((j:Nat):Int):Int)])/\wr.grownBy w' none):=rswhole_all (H.out.keep GK.out) HN.out.1 (j:Int)
   have HE:Hid (SP.standL R g (j+1)=SP.standL R g j++[SP.wholeV R g ((j:Nat):Int)]):=SP.standL_succ R g j
   have HL:Hid ((SP.standL R g j).length+1<=1000):=by show _<=_;simp[SP.standL];omega
   generalize SP.wholeV R g ((j:Nat):Int)=x at *
   generalize SP.why R g ((j:Nat):Int)=y at *
   go_wp2_with (first
    | (go_at_call 90;refine HH.out.mono ?_;rintro e w1 ⟨rfl,g1⟩;have OA:Hid (UOwn w.heap.size (w1.alloc (.cells #[.int .u64 (x:Int)] 30)) (.slice ap an ac) (SP.standL R g j)):=OK.out.keep (gb_alloc g1 _);have GA:Hid (w.grownBy (w1.alloc (.cells #[.int .u64 (x:Int)] 30)) none):=grown_trans GK.out (gb_alloc g1 _);clear g1)
    | (at_builtin;refine wpList_append_u64 rfl _ _ rfl _ ⟨w1.heap.size,0,none⟩ rfl rfl OA.out (cell_new1 _ _ rfl) GA.out.size HL.out ?_;intro v2 w2 o2 g2;have O2:Hid (UOwn w.heap.size w2 v2 (SP.standL R g j++[x])):=o2;have G2:Hid (w.grownBy w2 none):=grown_new GA.out g2 (fun i e=>OA.out.lo i e);clear o2 g2))
   go_roundw
   case rel=>exact⟨j+1,by omega,by go_num,by rw[HE.out];exact O2.out,G2⟩
   case measure=>simp[intOf];omega
  ·have i3:¬ (j:Int) < (g.s:Int):=by omega
   have hjn:Hid (j=g.s):=by show _=_;omega
   go_wp2
   go_ret
   exact⟨_,_,_,rfl,by rw[<- hjn.out];exact OK.out,GK.out⟩
end Go.Proofs.YtaalagkbpeinkaaGreat
namespace Go.Proofs.YtaalagkbpeinkaaGreat
open Go.ChangeShapes Go.WideShapes Go.ChangeAt Go.RowKit
structure ActR9 where
 what:Int
 disk:Int
 at_:Int
 mark:Nat
 x:Nat
 bval:Value
 b:List Nat
def acells9 (c:ActR9):List Value:=[.int .i64 c.what,.int .i64 c.disk,.int .i64 c.at_,.int .u64 (c.mark:Int),.int .u8 (c.x:Int),c.bval]
def I649 (n:Int):Prop:=-9223372036854775808<=n/\n<=9223372036854775807
theorem i64_wf9 {n:Int} (h:(Lit.int .i64 n).wf=true):I649 n:=by
 have:-9223372036854775808<=n/\n<=9223372036854775807:=by simpa [Lit.wf,IntKind.min,IntKind.max,IntKind.signed,IntKind.bits] using h
 exact this
structure ActOk9 (w:World) (c:ActR9):Prop where
 what:I649 c.what
 disk:I649 c.disk
 at_:I649 c.at_
 mark:c.mark < 18446744073709551616
 x:c.x < 256
 vec:Vec w c.bval c.b
structure Acts9 (w:World) (v:Value) (l:List ActR9):Prop where
 len:l.length<=140737488351232
 form:∃ p cap,v=.slice p l.length cap/\(l ≠ []->∃ b off,p=some ⟨b,off,none⟩/\∀ (i:Nat) (c:ActR9),l[i]?=some c->w.rangeAt b (off+i * 6) (acells9 c))
 ok:∀ c ∈ l,ActOk9 w c
theorem Acts9.opened {w:World} {v:Value} {l:List ActR9} (h:Acts9 w v l):∃ p n cap,v=.slice p n cap/\n=l.length:=by
 obtain⟨p,cap,e,_⟩:=h.form
 exact⟨p,_,cap,e,rfl⟩
theorem Acts9.at {w:World} {p:Option Addr} {n cap:Nat} {l:List ActR9} (h:Acts9 w (.slice p n cap) l) {i:Nat} (hi:i < l.length):∃ b off,p=some ⟨b,off,none⟩/\w.rangeAt b (off+i * 6) (acells9 l[i])/\ActOk9 w l[i]:=by
 obtain⟨p',cap',e,h2⟩:=h.form
 injection e with e1 _ _
 subst e1
 obtain⟨b,off,e,h3⟩:=h2 (fun e=>by subst e;simp at hi)
 exact⟨b,off,e,h3 i _ (List.getElem?_eq_getElem hi),h.ok _ (List.getElem_mem hi)⟩
theorem Tryz.cellsAct9:Tryz.prog.cellsOf 33=6:=by kernel_rfl
theorem Tryz.cellsInt9:Tryz.prog.cellsOf 3=1:=by kernel_rfl
theorem u64_wf9 {n:Int} (h:(Lit.int .u64 n).wf=true):0<=n/\n < 18446744073709551616:=by
 have:0<=n/\n<=18446744073709551615:=by simpa [Lit.wf,IntKind.min,IntKind.max,IntKind.signed,IntKind.bits] using h
 omega
theorem Tryz.cellsU9:Tryz.prog.cellsOf 30=1:=by kernel_rfl
theorem Tryz.bytesAct9:24<=Tryz.prog.bytesOf 33:=by decide +kernel
section
variable {H:Type} {enc:TypeId × Value->H}
theorem weights_all9 {P:Program} {t:TypeId}:∀ {l:List (DataW H)} {d:DataW H},d ∈ l->∀ n ∈ d.weights P t,n ∈ DataW.weightsAll P t l:=by
 intro l
 induction l with
 | nil=>intro d h;cases h
 | cons x r ih =>
   intro d h n hn
   simp only[DataW.weightsAll,List.mem_append]
   rcases List.mem_cons.1 h with rfl | h
   ·exact .inl hn
   ·exact .inr (ih h n hn)
theorem vec_trodP {W:World} {v:Value} {y:DataW H × List MemPlace} {fuel:Nat} (hf:DataW.trod enc Tryz.prog W 0 (fun _=>true) true fuel 31 [v]=some y)
 (hz:∀ elems spare,y.1=.slice elems spare->(elems.length+spare.length) * Tryz.prog.bytesOf 5<=reachBytes):∃ xs,Vec W v xs:=by
 rcases open_ints Tryz.underlying31 Tryz.underlying5 Tryz.cells5 hf with ⟨hcs,_⟩ | ⟨x,l,c,zs,hcs,_,hl,hm,hzz,hx,hcell,hwz⟩
 ·simp at hcs
  subst hcs
  exact⟨[],by simp,by simp,none,0,rfl,Nat.le_refl _,by decide,fun h=>absurd rfl h⟩
 ·simp at hcs
  subst hcs
  simp only[if_true] at hzz
  have hb:=hz _ _ (by rw[hx])
  rw[Tryz.bytes5] at hb
  simp only[lits,List.length_map,List.length_take,List.length_drop,reachBytes] at hb
  refine⟨_,vec_of (zs:=zs) hl hm (by omega) (by omega) hwz (by simp) (fun a ha c hc=>?_)⟩
  cases ha
  exact hcell c (by omega)
theorem act_trod9 {W:World} {cs:List Value} {y:DataW H × List MemPlace} {fuel:Nat} (hf:DataW.trod enc Tryz.prog W 0 (fun _=>true) true fuel 33 cs=some y)
 (hz:∀ n ∈ y.1.weights Tryz.prog 33,n<=reachBytes):∃ c:ActR9,cs=acells9 c/\ActOk9 W c:=by
 obtain⟨q,n,_,hx,hl,hlen,hff⟩:=DataW.trod_struct Tryz.underlying33 hf
 have h8:=hl.trans Tryz.cellsAct9
 match cs,h8 with
 | [c0,c1,c2,c3,c4,c5],_ =>
 match q,hlen with
 | [y0,y1,y2,y3,y4,y5],_ =>
 have t0:=hff 0 _ rfl
 have t1:=hff 1 _ rfl
 have t2:=hff 2 _ rfl
 have t3:=hff 3 _ rfl
 have t4:=hff 4 _ rfl
 have t5:=hff 5 _ rfl
 simp[Tryz.cellsInt9] at t0 t1 t2
 simp[Tryz.cellsU9] at t3
 simp[Tryz.cells5] at t4
 simp[Tryz.cells22] at t5
 subst hx
 simp[DataW.weights,Tryz.underlying33,DataW.weightsEach] at hz
 obtain⟨A,e0,_,w0⟩:=DataW.trod_int Tryz.underlying3 t0
 obtain⟨B,e1,_,w1⟩:=DataW.trod_int Tryz.underlying3 t1
 obtain⟨C,e2,_,w2⟩:=DataW.trod_int Tryz.underlying3 t2
 obtain⟨M,e3,_,w3⟩:=DataW.trod_int Tryz.underlying30 t3
 obtain⟨X,e4,_,w4⟩:=DataW.trod_int Tryz.underlying5 t4
 simp at e0 e1 e2 e3 e4
 subst e0 e1 e2 e3 e4
 have b3:=u64_wf9 w3
 have b4:=byte_wf w4
 obtain⟨M,rfl⟩:=Int.eq_ofNat_of_zero_le b3.1
 obtain⟨X,rfl⟩:=Int.eq_ofNat_of_zero_le b4.1
 have key:∀ {y:DataW H × List MemPlace},(∀ n ∈ y.1.weights Tryz.prog 31,n<=reachBytes)->∀ elems spare,y.1=.slice elems spare->(elems.length+spare.length) * Tryz.prog.bytesOf 5<=reachBytes:=fun hw elems spare e=>hw _ (by rw[e];simp[DataW.weights,Tryz.underlying31])
 obtain⟨xs,vx⟩:=vec_trodP t5 (key fun n hn=>hz n (by simp[hn]))
 exact⟨⟨A,B,C,M,X,c5,xs⟩,rfl,i64_wf9 w0,i64_wf9 w1,i64_wf9 w2,by show M < 18446744073709551616;omega,by show X < 256;omega,vx⟩
theorem acts_trod9 {W:World} {v:Value} {y:DataW H × List MemPlace} {fuel:Nat} (hf:DataW.trod enc Tryz.prog W 0 (fun _=>true) true fuel 22 [v]=some y)
 (hz:∀ n ∈ y.1.weights Tryz.prog 22,n<=reachBytes):∃ l,Acts9 W v l:=by
 rcases Deep.open_slice Tryz.underlying22 hf with ⟨hcs,_⟩ | ⟨x,len,cap,m,n,D,Pl,hcs,_,hl,hm,hmm,hx,hrow⟩
 ·simp at hcs
  subst hcs
  exact⟨[],by simp,⟨none,0,rfl,fun h=>absurd rfl h⟩,by simp⟩
 ·simp at hcs
  subst hcs
  simp only[if_true] at hmm
  subst hmm
  have hx1:=congrArg Prod.fst hx
  simp only at hx1
  rw[hx1] at hz
  simp only[DataW.weights,Tryz.underlying22,List.mem_cons,List.mem_append] at hz
  have hout:=hz _ (.inl rfl)
  have h24:=Tryz.bytesAct9
  simp only[List.length_map,List.length_range,reachBytes] at hout
  have hlen:len * 24<=140737488355328:=by
   have h1:len * 24<=(len+(m - len)) * Tryz.prog.bytesOf 33:=Nat.mul_le_mul (by omega) h24
   omega
  rw[Tryz.cellsAct9] at hrow
  have hex:∀ i,i < len->∃ c:ActR9,W.cells? 0 (x.add (i * 6)) 6=some (acells9 c)/\ActOk9 W c:=fun i hi=>by
   obtain⟨cs',h1,h2⟩:=hrow i (by omega)
   obtain⟨c,e,hc⟩:=act_trod9 h2 (fun n hn=>hz n (.inr (.inl (weights_all9 (d:=D i) (List.mem_map.2 ⟨i,List.mem_range.2 hi,rfl⟩) n hn))))
   exact⟨c,by rw[h1,e],hc⟩
  have hin:Inhabited ActR9:=⟨⟨0,0,0,0,0,.slice none 0 0,[]⟩⟩
  obtain⟨C,hC⟩:=Deep.choose_lt (α:=ActR9) (p:=fun i c=>W.cells? 0 (x.add (i * 6)) 6=some (acells9 c)/\ActOk9 W c) hex
  refine⟨(List.range len).map C,by simp;omega,⟨some x,m,by simp,fun hne=>?_⟩,fun c hc=>?_⟩
  ·have hpos:0 < len:=by
    rcases Nat.eq_zero_or_pos len with h | h
    ·subst h;simp at hne
    ·exact h
   obtain⟨b,off,spot⟩:=x
   obtain⟨_,_,hc0⟩:=World.cells?_some (hC 0 hpos).1
   have h0:=(hc0 0 (by decide)).trans (show (acells9 (C 0))[0]?=some (.int .i64 (C 0).what) from rfl)
   have hspot:spot=none:=by simpa [Addr.add] using World.cell?_spot h0
   subst hspot
   refine⟨b,off,rfl,fun i c hc j u hj=>?_⟩
   obtain⟨hi,hci⟩:=List.getElem?_eq_some_iff.1 hc
   simp only[List.length_map,List.length_range] at hi
   simp only[List.getElem_map,List.getElem_range] at hci
   subst hci
   have hj6:j < 6:=(List.getElem?_eq_some_iff.1 hj).1
   obtain⟨_,_,hcell⟩:=World.cells?_some (hC i hi).1
   have:=hcell j hj6
   rw[add_off,add_off,hj] at this
   exact this
  ·obtain⟨i,hi,rfl⟩:=List.mem_map.1 hc
   exact (hC i (List.mem_range.1 hi)).2
theorem acts_arg9 {W:World} {v:Value} {d:DataW H} {p:List MemPlace} {base:Nat} (hv:Value.okWide Tryz.prog W .any base 22 v) (h:DataW.Trod enc Tryz.prog W 0 (fun _=>true) true 22 v d p)
 (hz:∀ n ∈ d.weights Tryz.prog 22,n<=reachBytes):∃ l,Acts9 W v l:=by
 obtain⟨a0,len0,cap0,rfl⟩:=okWide_slice Tryz.underlying22 hv
 obtain⟨fuel,hf⟩:=h
 exact acts_trod9 (y:=(d,p)) hf hz
end
end Go.Proofs.YtaalagkbpeinkaaGreat
namespace Go.Proofs.YtaalagkbpeinkaaGreat
open Go.RowKit
structure Var9 (w:World) (bk:Nat) (c:ActR9):Prop where
 heap:w.heap[bk]?=some (.cells (acells9 c).toArray 33 (0,0))
theorem Var9.cell {w:World} {bk:Nat} {c:ActR9} (h:Var9 w bk c):w.cell? ⟨bk,0,none⟩=some (.int .i64 c.what)/\w.cell? ⟨bk,1,none⟩=some (.int .i64 c.disk)/\w.cell? ⟨bk,2,none⟩=some (.int .i64 c.at_)/\w.cell? ⟨bk,3,none⟩=some (.int .u64 (c.mark:Int))/\w.cell? ⟨bk,4,none⟩=some (.int .u8 (c.x:Int))/\w.cell? ⟨bk,5,none⟩=some c.bval :=
 ⟨topCell h.heap rfl,topCell h.heap rfl,topCell h.heap rfl,topCell h.heap rfl,topCell h.heap rfl,topCell h.heap rfl⟩
theorem Var9.step {F F':Nat->Prop} {w w':World} {bk:Nat} {c:ActR9} (h:Var9 w bk c) (s:Step F w F' w') (hF:¬ F bk):Var9 w' bk c/\¬ F' bk:=by
 have hlt:bk < w.heap.size:=(Array.getElem?_eq_some_iff.1 h.heap).1
 refine⟨⟨by rw[s.upd.block bk hlt hF];exact h.heap⟩,fun hf=>?_⟩
 rcases s.sub bk hf with h1 | h1
 ·exact hF h1
 ·omega
theorem Var9.keep {w w':World} {bk:Nat} {c:ActR9} (h:Var9 w bk c) (g:w.grownBy w' none):Var9 w' bk c :=
 ⟨by rw[g.block bk (Array.getElem?_eq_some_iff.1 h.heap).1 (by simp)];exact h.heap⟩
namespace SP
theorem replace_kept {R:AM.Raw} {g:Geo} (h:g.Ok R) (d:Int):g.Ok (R.replace d).2:=by
 have hn:(R.replace d).2.n=R.n/\(R.replace d).2.C.length=R.C.length:=by
  unfold AM.Raw.replace
  split
  ·exact⟨rfl,rfl⟩
  ·split
   ·exact⟨rfl,rfl⟩
   ·exact⟨rfl,by simp[AM.Raw.blank]⟩
 exact⟨h.k1,h.kn,h.n255,h.s1,h.s2,by rw[hn.1];exact h.room,by rw[hn.2];exact h.len⟩
theorem fused_geo {R:AM.Raw} {g:Geo} (h:g.Ok R) (n:Int):g.Ok (R.fused n):=⟨h.k1,h.kn,h.n255,h.s1,h.s2,h.room,h.len⟩
end SP
structure Pair (F G:Nat->Prop) (w0 w:World) (s a t r:Nat) (g:SP.Geo) (R Q:AM.Raw):Prop where
 i:SI F w s a g R
 j:RSI G w t r g Q
 ap:∀ k,F k->G k->False
 bi:Base w0 F w
 bj:Base w0 G w
 nt:¬ F t
 ns:¬ G s
section
variable {F G F' G':Nat->Prop} {w0 w w':World} {s a t r:Nat} {g:SP.Geo} {R R' Q Q':AM.Raw}
theorem Duo.pair (h:Duo F G w0 w s a t r g R):Pair F G w0 w s a t r g R R:=⟨h.i,h.j,h.ap,⟨h.gr,h.bi⟩,⟨h.gr,h.bj⟩,h.nt,h.ns⟩
theorem Pair.keep (h:Pair F G w0 w s a t r g R Q) (gr:w.grownBy w' none):Pair F G w0 w' s a t r g R Q :=
 ⟨h.i.keep gr,h.j.keep gr,h.ap,h.bi.keep gr,h.bj.keep gr,h.nt,h.ns⟩
theorem Pair.stepA (h:Pair F G w0 w s a t r g R Q) (hi:SI F' w' s a g R') (st:Step F w F' w'):Pair F' G w0 w' s a t r g R' Q:=by
 obtain⟨A,hj,hs⟩:=h.j.j
 obtain⟨h1,h2⟩:=hj.other st h.ap
 refine⟨hi,⟨⟨A,h1,hs⟩,by rw[st.upd.block t h.j.lt h.nt];exact h.j.top,h.j.nf,h.j.ok⟩,h2,h.bi.step st,⟨(h.bi.step st).grown,h.bj.lo⟩,fun hf=>?_,h.ns⟩
 rcases st.sub t hf with h3 | h3
 ·exact h.nt h3
 ·have:=h.j.lt;omega
theorem Pair.stepB (h:Pair F G w0 w s a t r g R Q) (hj:RSI G' w' t r g Q') (st:Step G w G' w'):Pair F G' w0 w' s a t r g R Q':=by
 obtain⟨h1,h2⟩:=h.i.i.aside st h.ap
 refine⟨⟨h1,by rw[st.upd.block s h.i.lt h.ns];exact h.i.top,h.i.nf,h.i.ok⟩,hj,h2,⟨(h.bj.step st).grown,h.bi.lo⟩,h.bj.step st,h.nt,fun hf=>?_⟩
 rcases st.sub s hf with h3 | h3
 ·exact h.ns h3
 ·have:=h.i.lt;omega
structure Aw2 (F G:Nat->Prop) (w:World) (v:Value) (xs:List Nat):Prop where
 a:Aw F w v xs
 b:Aw G w v xs
theorem Pair.own (h:Pair F G w0 w s a t r g R Q) {v:Value} {xs:List Nat} (o:Own w.heap.size w' v xs):Aw2 F G w' v xs:=⟨o.aw h.i.i.lt,o.aw h.j.glt⟩
def PlyS (w0 w:World) (s a t r:Nat) (g:SP.Geo) (n:Nat):Prop:=∃ F G R,Pair F G w0 w s a t r g R R/\R.L.length<=n
theorem PlyS.grown {n:Nat} (h:PlyS w0 w s a t r g n):w0.grownBy w none:=by obtain⟨_,_,_,h,_⟩:=h;exact h.bi.grown
theorem PlyS.keep {n:Nat} (h:PlyS w0 w s a t r g n) (gr:w.grownBy w' none):PlyS w0 w' s a t r g n:=by
 obtain⟨F,G,R,h1,h2⟩:=h
 exact⟨F,G,R,h1.keep gr,h2⟩
theorem PlyS.top {n:Nat} (h:PlyS w0 w s a t r g n):w.cell? ⟨t,0,none⟩=some (rptr r):=by obtain⟨_,_,_,h,_⟩:=h;exact h.j.at1
theorem plyS_alike {n:Nat} (h:PlyS w0 w s a t r g n) (hn:n<=1000000) {v:Value} {ps:List Nat} (hv:Vec w0 v ps):Calls Tryz.prog 10 #[ptr a,rptr r,v] w fun e w'=>e=.returned (.bool true)/\w.grownBy w' none:=by
 obtain⟨F,G,R,h1,h2⟩:=h
 obtain⟨A,hj,hs⟩:=h1.j.j
 exact alike_yes h1.i.i hj hs (hv.keep h1.bi.grown) (Nat.le_trans h2 hn)
theorem SI.lose (h:SI F w s a g R) (hL:R.L.length<=1000000) (d:Int):Calls Tryz.prog 16 #[ptr a,.int .i64 d] w fun e w'=>e=.returned (.int .i64 ((R.lose d).1:Int))/\∃ F',SI F' w' s a g (R.lose d).2/\Step F w F' w':=by
 refine (lose_at h.i hL rfl rfl).mono ?_
 rintro e w' ⟨rfl,F',i,st⟩
 exact⟨rfl,F',h.step i st (SP.lose_geo h.ok d),st⟩
theorem RSI.lose (h:RSI G w t r g R) (hL:R.L.length<=1000000) (d:Int):Calls Tryz.prog 39 #[rptr r,.int .i64 d] w fun e w'=>e=.returned (.int .i64 ((R.lose d).1:Int))/\∃ G',RSI G' w' t r g (R.lose d).2/\Step G w G' w':=by
 obtain⟨A,hj,hs⟩:=h.j
 refine (rlose_at hj hs hL rfl).mono ?_
 rintro e w' ⟨rfl,G',i,st⟩
 exact⟨rfl,G',h.step i (hs.lose d).2 st (SP.lose_geo h.ok d),st⟩
theorem SI.replace (h:SI F w s a g R) (d:Int):Calls Tryz.prog 17 #[ptr a,.int .i64 d] w fun e w'=>e=.returned (.int .i64 ((R.replace d).1:Int))/\∃ F',SI F' w' s a g (R.replace d).2/\Step F w F' w':=by
 refine (replace_at h.i rfl rfl).mono ?_
 rintro e w' ⟨rfl,F',i,st⟩
 exact⟨rfl,F',h.step i st (SP.replace_kept h.ok d),st⟩
theorem RSI.replace (h:RSI G w t r g R) (d:Int):Calls Tryz.prog 40 #[rptr r,.int .i64 d] w fun e w'=>e=.returned (.int .i64 ((R.replace d).1:Int))/\∃ G',RSI G' w' t r g (R.replace d).2/\Step G w G' w':=by
 obtain⟨A,hj,hs⟩:=h.j
 refine (rreplace_at hj hs rfl).mono ?_
 rintro e w' ⟨rfl,G',i,st⟩
 exact⟨rfl,G',h.step i (hs.replace d).2 st (SP.replace_kept h.ok d),st⟩
theorem SI.barrier (h:SI F w s a g R):Calls Tryz.prog 14 #[ptr a] w fun e w'=>e=.returned (.int .i64 (R.barrier.1:Int))/\∃ F',SI F' w' s a g R.barrier.2/\Step F w F' w':=by
 refine (barrier_at h.i rfl rfl).mono ?_
 rintro e w' ⟨rfl,F',i,st⟩
 exact⟨rfl,F',h.step i st (h.ok.kept (SP.barrier_kept R).1),st⟩
theorem RSI.barrier (h:RSI G w t r g R) (hL:R.L.length<=1000000):Calls Tryz.prog 41 #[rptr r] w fun e w'=>e=.returned (.int .i64 (R.barrier.1:Int))/\∃ G',RSI G' w' t r g R.barrier.2/\Step G w G' w':=by
 obtain⟨A,hj,hs⟩:=h.j
 refine (rbarrier_at hj hs hL rfl).mono ?_
 rintro e w' ⟨rfl,G',i,st⟩
 exact⟨rfl,G',h.step i hs.barrier.2 st (h.ok.kept (SP.barrier_kept R).1),st⟩
theorem SI.crash (h:SI F w s a g R) (hL:R.L.length<=1000000) {v:Value} {ps:List Nat} (hv:Aw F w v ps):Calls Tryz.prog 25 #[ptr a,v] w fun e w'=>e=.returned (.tuple #[])/\∃ F',SI F' w' s a g (R.crash ps)/\Step F w F' w':=by
 refine (crash_at h.i hL hv rfl).mono ?_
 rintro e w' ⟨rfl,F',i,st⟩
 exact⟨rfl,F',h.step i st (h.ok.kept (SP.crash_kept R ps).1),st⟩
theorem RSI.crash (h:RSI G w t r g R) (hL:R.L.length<=1000000) {v:Value} {ps:List Nat} (hv:Aw G w v ps):Calls Tryz.prog 42 #[rptr r,v] w fun e w'=>e=.returned (.tuple #[])/\∃ G',RSI G' w' t r g (R.crash ps)/\Step G w G' w':=by
 obtain⟨A,hj,hs⟩:=h.j
 refine (rcrash_any hj hs.fit (by rw[hs.llen];exact hL) hv.vec hv.off).mono ?_
 rintro e w' ⟨rfl,G',i,st⟩
 exact⟨rfl,G',h.step i (hs.crash ps) st (h.ok.kept (SP.crash_kept R ps).1),st⟩
theorem SI.fuse (h:SI F w s a g R) {n:Int} (hn:n < 9223372036854775808):Calls Tryz.prog 23 #[ptr a,.int .i64 n] w fun e w'=>e=.returned (.tuple #[])/\∃ F',SI F' w' s a g (R.fused n)/\Step F w F' w':=by
 refine (fuse_at h.i hn rfl).mono ?_
 rintro e w' ⟨rfl,F',i,st⟩
 exact⟨rfl,F',h.step i st (SP.fused_geo h.ok n),st⟩
theorem RSI.fuse (h:RSI G w t r g R) {n:Int} (hn:n < 9223372036854775808):Calls Tryz.prog 43 #[rptr r,.int .i64 n] w fun e w'=>e=.returned (.tuple #[])/\∃ G',RSI G' w' t r g (R.fused n)/\Step G w G' w':=by
 obtain⟨A,hj,hs⟩:=h.j
 refine (rfuse_yes hj hn).mono ?_
 rintro e w' ⟨rfl,i,st⟩
 exact⟨rfl,G,h.step i (hs.fuse hn) st (SP.fused_geo h.ok n),st⟩
end
def dat8 (x i:Nat):Nat:=(x+i % 251+i / 448) % 256
def datL (k x:Nat):List Nat:=(List.range (k * 448)).map (dat8 x)
theorem datL_len (k x:Nat):(datL k x).length=k * 448:=by simp[datL]
theorem datL_small (k x:Nat):∀ y ∈ datL k x,y < 256:=fun y hy=>by
 unfold datL at hy
 obtain⟨i,_,rfl⟩:=List.mem_map.1 hy
 unfold dat8
 omega
def datTo (k x j:Nat):List Nat:=(List.range (k * 448)).map fun i=>if i < j then dat8 x i else 0
theorem datTo_zero (k x:Nat):datTo k x 0=List.replicate (k * 448) 0:=by
 apply List.ext_getElem
 ·simp[datTo]
 ·intro i h1 h2
  simp[datTo]
theorem datTo_all (k x:Nat):datTo k x (k * 448)=datL k x:=by
 unfold datTo datL
 apply List.map_congr_left
 intro i hi
 rw[if_pos (List.mem_range.1 hi)]
theorem datTo_succ (k x:Nat) {j:Nat} (h:j < k * 448):(datTo k x j).set j (dat8 x j)=datTo k x (j+1):=by
 apply List.ext_getElem
 ·simp[datTo]
 ·intro i h1 h2
  simp only[datTo,List.getElem_set,List.getElem_map,List.getElem_range]
  by_cases c:j=i
  ·subst c;simp
  ·rw[if_neg c]
   by_cases c2:i < j
   ·rw[if_pos c2,if_pos (by omega)]
   ·rw[if_neg c2,if_neg (by omega)]
set_option maxHeartbeats 3200000 in
theorem data_yes (w:World) {k x:Nat} (hk:1<=k) (hk2:k<=255) (hx:x < 256) :
 Calls Tryz.prog 12 #[.int .i64 (k:Int),.int .u8 (x:Int)] w fun e w'=>∃ p n c,e=.returned (.slice p n c)/\Own w.heap.size w' (.slice p n c) (datL k x)/\w.grownBy w' none:=by
 obtain⟨n,hn⟩:∃ n,n=k * 448:=⟨_,rfl⟩
 have hw:IntKind.i64.wrap ((k:Int) * 448)=(n:Int):=by
  have e:(k:Int) * 448=(n:Int):=by omega
  rw[e]
  exact IntWalk.i64_in _ (by omega)
 have hnl:n<=200000:=by omega
 have HN:Hid (n=k * 448/\k<=255):=⟨hn,hk2⟩
 clear hn hk hk2
 go_enter Tryz.func12,Tryz.ntmps12
 go_wp2_with (at_make;refine wpList_make_vec rfl _ _ rfl n rfl rfl (by omega) ?_;intro w1 p o1 g1;have O1:Hid (Own w.heap.size w1 (.slice p n n) (List.replicate n 0)):=o1;have G1:Hid (w.grownBy w1 none):=g1;clear o1 g1)
 clear hw
 go_loopw [12] (fun ti wr=>∃ j:Nat,j<=n/\ti=.int .i64 j/\Hid (Own w.heap.size wr (.slice p n n) (datTo k x j))/\Hid (w.grownBy wr none)) (fun ti _=>n - (intOf ti).toNat)
 case atStart=>exact⟨0,by omega,rfl,by rw[datTo_zero,<- HN.out.1];exact O1.out,G1⟩
 case round =>
  clear O1 G1
  obtain⟨j,hj,rfl,OK,GK⟩:=hrel
  by_cases hlt:j < n
  ·have i3:(j:Int) < (n:Int):=by omega
   have i4:(0:Int)<=(j:Int):=by omega
   have hlo:=OK.out.lo
   obtain⟨b,hpb,_,hr,hf,hb,hset,hgr⟩:=OK.out.spot (k:=j) (by have:=HN.out;simp[datTo];omega)
   subst hpb
   have HLO:Hid (w.heap.size<=b):=hlo b rfl
   have HS:Hid (∀ z:Nat,z < 256->Own w.heap.size (wr.setCell ⟨b,j,none⟩ (.int .u8 (z:Int))) (.slice (some ⟨b,0,none⟩) n n) ((datTo k x j).set j z)):=hset
   have HG:Hid (∀ u,wr.grownBy (wr.setCell ⟨b,j,none⟩ u) (some b)):=hgr
   clear hlo hset hgr hb OK
   go_wp2
   have HV:((x:Int)+(j:Int) % 251+(j:Int) / 448) % 256=((dat8 x j:Nat):Int):=by unfold dat8;omega
   rw[HV]
   go_roundw
   case rel=>exact⟨j+1,by omega,by go_num,(by
    have h1:=HS.out (dat8 x j) (by unfold dat8;omega)
    rw[datTo_succ k x (by have:=HN.out;omega)] at h1
    exact h1),grown_new GK.out (HG.out _) (fun i e=>by have:=Option.some.inj e;have:=HLO.out;omega)⟩
   case measure=>simp[intOf];omega
  ·have i3:¬ (j:Int) < (n:Int):=by omega
   have hjn:Hid (j=k * 448):=by show _=_;have:=HN.out;omega
   go_wp2
   go_ret
   exact⟨_,_,_,rfl,by rw[<- datTo_all,<- hjn.out];exact OK.out,GK.out⟩
set_option maxHeartbeats 6400000 in
theorem stp0 {w0 w:World} {s a t r:Nat} {g:SP.Geo} {N:Nat} (HX:PlyS w0 w s a t r g N) (hN:N<=900000) (hgn:g.n<=8) (hgs:g.s<=4) {D K:Int} {M X:Nat} {pb:Option Addr} {nb mb:Nat} {bs:List Nat} (hK:K < 9223372036854775808) (hM:M < 18446744073709551616) (hX:X < 256) (hv:Vec w0 (.slice pb nb mb) bs) :
 Calls Tryz.prog 9 #[ptr s,tptr t,.agg #[.int .i64 (0),.int .i64 D,.int .i64 K,.int .u64 (M:Int),.int .u8 (X:Int),.slice pb nb mb]] w fun e w'=>e=.returned (.bool true)/\PlyS w0 w' s a t r g (N+300):=by
 obtain⟨F,G,R,hp,hl⟩:=HX
 have HL:Hid (R.L.length<=N/\N<=900000/\g.n<=8/\g.s<=4/\M < 18446744073709551616/\X < 256/\K < 9223372036854775808):=⟨hl,hN,hgn,hgs,hM,hX,hK⟩
 have HVB:Hid (Vec w0 (.slice pb nb mb) bs):=hv
 have HG:Hid (1<=g.k/\g.k<=255/\g.Ok R):=⟨hp.i.ok.k1,by have:=hp.i.ok.kn;have:=hp.i.ok.n255;omega,hp.i.ok⟩
 have V0:Hid (Var9 (w.alloc (.cells #[.int .i64 (0),.int .i64 D,.int .i64 K,.int .u64 (M:Int),.int .u8 (X:Int),.slice pb nb mb] 33)) w.heap.size ⟨0,D,K,M,X,.slice pb nb mb,bs⟩):=⟨heap_alloc_new w _⟩
 have T0:Hid (Pair F G w0 (w.alloc (.cells #[.int .i64 (0),.int .i64 D,.int .i64 K,.int .u64 (M:Int),.int .u8 (X:Int),.slice pb nb mb] 33)) s a t r g R R):=hp.keep (World.grownBy_alloc w _ none)
 have NB:Hid (¬ F w.heap.size/\¬ G w.heap.size):=⟨fun hf=>by have:=hp.i.i.lt _ hf;omega,fun hf=>by have:=hp.j.glt _ hf;omega⟩
 obtain⟨d0,d1,d2,d3,d4,d5⟩:=V0.out.cell
 clear hp hl hN hgn hgs hM hX hK hv
 go_enter Tryz.func9,Tryz.ntmps9
 go_wp2_with fail
 obtain⟨bk,hbk⟩:∃ bk,bk=w.heap.size:=⟨_,rfl⟩
 rw[<- hbk] at V0 NB d0 d1 d2 d3 d4 d5
 (try rw[<- hbk])
 clear hbk
 generalize w.alloc (.cells #[.int .i64 (0),.int .i64 D,.int .i64 K,.int .u64 (M:Int),.int .u8 (X:Int),.slice pb nb mb] 33)=wb at *
 clear d0 d1 d2 d3 d4 d5
 have SC:Hid (∀ w' F' G' R' Q',Var9 w' bk ⟨0,D,K,M,X,.slice pb nb mb,bs⟩->Pair F' G' w0 w' s a t r g R' Q'->(w'.cell? ⟨bk,2,none⟩=some (.int .i64 K)/\w'.cell? ⟨bk,3,none⟩=some (.int .u64 (M:Int))/\w'.cell? ⟨bk,4,none⟩=some (.int .u8 (X:Int))/\w'.cell? ⟨t,1,none⟩=some (.int .i64 (g.k:Int)))):=fun w' F' G' R' Q' v p=>⟨v.cell.2.2.1,v.cell.2.2.2.1,v.cell.2.2.2.2.1,p.j.at2⟩
 go_region_held3 (fun w'=>w'.cell? ⟨bk,2,none⟩=some (.int .i64 K)/\w'.cell? ⟨bk,3,none⟩=some (.int .u64 (M:Int))/\w'.cell? ⟨bk,4,none⟩=some (.int .u8 (X:Int))/\w'.cell? ⟨t,1,none⟩=some (.int .i64 (g.k:Int))) (first | exact SC.out _ _ _ _ _ (V0.out.keep (grown_drewN wb 1)) (T0.out.keep (grown_drewN wb 1)) | exact SC.out _ _ _ _ _ V1.out T1.out | exact SC.out _ _ _ _ _ V2.out T2.out | exact SC.out _ _ _ _ _ V3.out T3.out | exact SC.out _ _ _ _ _ V4.out T4.out)
  ((first
    | (go_at_call 12;refine (data_yes (wb.drewN 1) (k:=g.k) (x:=X) HG.out.1 HG.out.2.1 HL.out.2.2.2.2.2.1).mono ?_;rintro e x1 ⟨p1,n1,c1,rfl,o1,g1⟩;have T1:Hid (Pair F G w0 x1 s a t r g R R):=(T0.out.keep (grown_drewN wb 1)).keep g1;have A1:Hid (Aw2 F G x1 (.slice p1 n1 c1) (datL g.k X)):=(T0.out.keep (grown_drewN wb 1)).own o1;have V1:Hid (Var9 x1 bk ⟨0,D,K,M,X,.slice pb nb mb,bs⟩):=(V0.out.keep (grown_drewN wb 1)).keep g1;clear o1 g1)
    | (go_at_call 13;refine (swrite_all T1.out.i K M A1.out.a (by have:=HL.out;omega)).mono ?_;rintro e x2 ⟨rfl,F2,i2,st2⟩;have T2:Hid (Pair F2 G w0 x2 s a t r g (SP.write R g K M (datL g.k X)).2 R):=T1.out.stepA i2 st2;have V2:Hid (Var9 x2 bk ⟨0,D,K,M,X,.slice pb nb mb,bs⟩):=(V1.out.step st2 NB.out.1).1;clear i2 st2)
    | (go_at_call 12;refine (data_yes x2 (k:=g.k) (x:=X) HG.out.1 HG.out.2.1 HL.out.2.2.2.2.2.1).mono ?_;rintro e x3 ⟨p3,n3,c3,rfl,o3,g3⟩;have T3:Hid (Pair F2 G w0 x3 s a t r g (SP.write R g K M (datL g.k X)).2 R):=T2.out.keep g3;have A3:Hid (Aw2 F2 G x3 (.slice p3 n3 c3) (datL g.k X)):=T2.out.own o3;have V3:Hid (Var9 x3 bk ⟨0,D,K,M,X,.slice pb nb mb,bs⟩):=V2.out.keep g3;clear o3 g3)
    | (go_at_call 31;refine (rswrite_all T3.out.j K M HL.out.2.2.2.2.1 A3.out.b (by have:=HL.out;omega)).mono ?_;rintro e x4 ⟨rfl,G4,j4,st4⟩;have T4:Hid (Pair F2 G4 w0 x4 s a t r g (SP.write R g K M (datL g.k X)).2 (SP.write R g K M (datL g.k X)).2):=T3.out.stepB j4 st4;have V4:Hid (Var9 x4 bk ⟨0,D,K,M,X,.slice pb nb mb,bs⟩):=(V3.out.step st4 NB.out.2).1;clear j4 st4)))
 go_wp2
 go_ret
 exact⟨rfl,F2,G4,_,T4.out,by have h1:=HL.out;have h2:=SP.write_len (R:=R) (g:=g) K M (datL g.k X) writes_len8;omega⟩
set_option maxHeartbeats 6400000 in
theorem stp1 {w0 w:World} {s a t r:Nat} {g:SP.Geo} {N:Nat} (HX:PlyS w0 w s a t r g N) (hN:N<=900000) (hgn:g.n<=8) (hgs:g.s<=4) {D K:Int} {M X:Nat} {pb:Option Addr} {nb mb:Nat} {bs:List Nat} (hK:K < 9223372036854775808) (hM:M < 18446744073709551616) (hX:X < 256) (hv:Vec w0 (.slice pb nb mb) bs) :
 Calls Tryz.prog 9 #[ptr s,tptr t,.agg #[.int .i64 (1),.int .i64 D,.int .i64 K,.int .u64 (M:Int),.int .u8 (X:Int),.slice pb nb mb]] w fun e w'=>e=.returned (.bool true)/\PlyS w0 w' s a t r g (N+300):=by
 obtain⟨F,G,R,hp,hl⟩:=HX
 have HL:Hid (R.L.length<=N/\N<=900000/\g.n<=8/\g.s<=4/\M < 18446744073709551616/\X < 256/\K < 9223372036854775808):=⟨hl,hN,hgn,hgs,hM,hX,hK⟩
 have HVB:Hid (Vec w0 (.slice pb nb mb) bs):=hv
 have HG:Hid (1<=g.k/\g.k<=255/\g.Ok R):=⟨hp.i.ok.k1,by have:=hp.i.ok.kn;have:=hp.i.ok.n255;omega,hp.i.ok⟩
 have V0:Hid (Var9 (w.alloc (.cells #[.int .i64 (1),.int .i64 D,.int .i64 K,.int .u64 (M:Int),.int .u8 (X:Int),.slice pb nb mb] 33)) w.heap.size ⟨1,D,K,M,X,.slice pb nb mb,bs⟩):=⟨heap_alloc_new w _⟩
 have T0:Hid (Pair F G w0 (w.alloc (.cells #[.int .i64 (1),.int .i64 D,.int .i64 K,.int .u64 (M:Int),.int .u8 (X:Int),.slice pb nb mb] 33)) s a t r g R R):=hp.keep (World.grownBy_alloc w _ none)
 have NB:Hid (¬ F w.heap.size/\¬ G w.heap.size):=⟨fun hf=>by have:=hp.i.i.lt _ hf;omega,fun hf=>by have:=hp.j.glt _ hf;omega⟩
 obtain⟨d0,d1,d2,d3,d4,d5⟩:=V0.out.cell
 clear hp hl hN hgn hgs hM hX hK hv
 go_enter Tryz.func9,Tryz.ntmps9
 go_wp2_with fail
 obtain⟨bk,hbk⟩:∃ bk,bk=w.heap.size:=⟨_,rfl⟩
 rw[<- hbk] at V0 NB d0 d1 d2 d3 d4 d5
 (try rw[<- hbk])
 clear hbk
 generalize w.alloc (.cells #[.int .i64 (1),.int .i64 D,.int .i64 K,.int .u64 (M:Int),.int .u8 (X:Int),.slice pb nb mb] 33)=wb at *
 refine (mmiss_all T0.out.i K M).mono ?_
 rintro e x1 ⟨v1,rfl,o1,gx⟩
 obtain⟨p1,n1,c1,rfl,hq⟩:=o1.ivec.opened
 clear hq
 have I1:Hid (IVec x1 (.slice p1 n1 c1) (SP.ints (SP.missL R g K M))):=o1.ivec
 clear o1
 have Tn:Hid (Pair F G w0 x1 s a t r g R R):=T0.out.keep gx
 have Vn:Hid (Var9 x1 bk ⟨1,D,K,M,X,.slice pb nb mb,bs⟩):=V0.out.keep gx
 clear T0 V0 d0 d1 d2 d3 d4 d5
 have T0:=Tn
 have V0:=Vn
 clear Tn Vn
 obtain⟨d0,d1,d2,d3,d4,d5⟩:=V0.out.cell
 clear gx
 go_wp2_with fail
 refine (rmiss_all T0.out.j (by have:=HL.out;omega) K M).mono ?_
 rintro e x2 ⟨v2,rfl,o2,gx⟩
 obtain⟨p2,n2,c2,rfl,hq⟩:=o2.ivec.opened
 clear hq
 have I2:Hid (IVec x2 (.slice p1 n1 c1) (SP.ints (SP.missL R g K M))/\IVec x2 (.slice p2 n2 c2) (SP.ints (SP.missL R g K M))):=⟨I1.out.keep gx,o2.ivec⟩
 clear o2 I1
 have Tn:Hid (Pair F G w0 x2 s a t r g R R):=T0.out.keep gx
 have Vn:Hid (Var9 x2 bk ⟨1,D,K,M,X,.slice pb nb mb,bs⟩):=V0.out.keep gx
 clear T0 V0 d0 d1 d2 d3 d4 d5
 have T0:=Tn
 have V0:=Vn
 clear Tn Vn
 obtain⟨d0,d1,d2,d3,d4,d5⟩:=V0.out.cell
 clear gx
 go_wp2_with fail
 refine (mmarg_all T0.out.i K M).mono ?_
 rintro e x3 ⟨rfl,gx⟩
 have I3:Hid (IVec x3 (.slice p1 n1 c1) (SP.ints (SP.missL R g K M))/\IVec x3 (.slice p2 n2 c2) (SP.ints (SP.missL R g K M))):=⟨I2.out.1.keep gx,I2.out.2.keep gx⟩
 clear I2
 have Tn:Hid (Pair F G w0 x3 s a t r g R R):=T0.out.keep gx
 have Vn:Hid (Var9 x3 bk ⟨1,D,K,M,X,.slice pb nb mb,bs⟩):=V0.out.keep gx
 clear T0 V0 d0 d1 d2 d3 d4 d5
 have T0:=Tn
 have V0:=Vn
 clear Tn Vn
 obtain⟨d0,d1,d2,d3,d4,d5⟩:=V0.out.cell
 clear gx
 go_wp2_with fail
 refine (rmarg_all T0.out.j (by have:=HL.out;omega) K M).mono ?_
 rintro e x4 ⟨rfl,gx⟩
 have I4:Hid (IVec x4 (.slice p1 n1 c1) (SP.ints (SP.missL R g K M))/\IVec x4 (.slice p2 n2 c2) (SP.ints (SP.missL R g K M))):=⟨I3.out.1.keep gx,I3.out.2.keep gx⟩
 clear I3
 have Tn:Hid (Pair F G w0 x4 s a t r g R R):=T0.out.keep gx
 have Vn:Hid (Var9 x4 bk ⟨1,D,K,M,X,.slice pb nb mb,bs⟩):=V0.out.keep gx
 clear T0 V0 d0 d1 d2 d3 d4 d5
 have T0:=Tn
 have V0:=Vn
 clear Tn Vn
 obtain⟨d0,d1,d2,d3,d4,d5⟩:=V0.out.cell
 clear gx
 have HLM:Hid ((SP.ints (SP.missL R g K M)).length<=1000):=by
  show _<=_
  rw[SP.ints_len]
  unfold SP.missL
  split
  ·have:=SP.wants_len_le R g K.toNat M g.n;have:=HL.out;omega
  ·simp
 go_wp2_with fail
 refine (same_yes I4.out.1 I4.out.2 HLM.out).mono ?_
 rintro e x5 ⟨rfl,gx⟩
 have T5:Hid (Pair F G w0 x5 s a t r g R R):=T0.out.keep gx
 clear gx T0 V0 d0 d1 d2 d3 d4 d5 I4
 go_wp2
 go_ret
 exact⟨rfl,F,G,R,T5.out,by have:=HL.out;omega⟩
set_option maxHeartbeats 6400000 in
theorem stp2 {w0 w:World} {s a t r:Nat} {g:SP.Geo} {N:Nat} (HX:PlyS w0 w s a t r g N) (hN:N<=900000) (hgn:g.n<=8) (hgs:g.s<=4) {D K:Int} {M X:Nat} {pb:Option Addr} {nb mb:Nat} {bs:List Nat} (hK:K < 9223372036854775808) (hM:M < 18446744073709551616) (hX:X < 256) (hv:Vec w0 (.slice pb nb mb) bs) :
 Calls Tryz.prog 9 #[ptr s,tptr t,.agg #[.int .i64 (2),.int .i64 D,.int .i64 K,.int .u64 (M:Int),.int .u8 (X:Int),.slice pb nb mb]] w fun e w'=>e=.returned (.bool true)/\PlyS w0 w' s a t r g (N+300):=by
 obtain⟨F,G,R,hp,hl⟩:=HX
 have HL:Hid (R.L.length<=N/\N<=900000/\g.n<=8/\g.s<=4/\M < 18446744073709551616/\X < 256/\K < 9223372036854775808):=⟨hl,hN,hgn,hgs,hM,hX,hK⟩
 have HVB:Hid (Vec w0 (.slice pb nb mb) bs):=hv
 have HG:Hid (1<=g.k/\g.k<=255/\g.Ok R):=⟨hp.i.ok.k1,by have:=hp.i.ok.kn;have:=hp.i.ok.n255;omega,hp.i.ok⟩
 have V0:Hid (Var9 (w.alloc (.cells #[.int .i64 (2),.int .i64 D,.int .i64 K,.int .u64 (M:Int),.int .u8 (X:Int),.slice pb nb mb] 33)) w.heap.size ⟨2,D,K,M,X,.slice pb nb mb,bs⟩):=⟨heap_alloc_new w _⟩
 have T0:Hid (Pair F G w0 (w.alloc (.cells #[.int .i64 (2),.int .i64 D,.int .i64 K,.int .u64 (M:Int),.int .u8 (X:Int),.slice pb nb mb] 33)) s a t r g R R):=hp.keep (World.grownBy_alloc w _ none)
 have NB:Hid (¬ F w.heap.size/\¬ G w.heap.size):=⟨fun hf=>by have:=hp.i.i.lt _ hf;omega,fun hf=>by have:=hp.j.glt _ hf;omega⟩
 obtain⟨d0,d1,d2,d3,d4,d5⟩:=V0.out.cell
 clear hp hl hN hgn hgs hM hX hK hv
 go_enter Tryz.func9,Tryz.ntmps9
 go_wp2_with fail
 obtain⟨bk,hbk⟩:∃ bk,bk=w.heap.size:=⟨_,rfl⟩
 rw[<- hbk] at V0 NB d0 d1 d2 d3 d4 d5
 (try rw[<- hbk])
 clear hbk
 generalize w.alloc (.cells #[.int .i64 (2),.int .i64 D,.int .i64 K,.int .u64 (M:Int),.int .u8 (X:Int),.slice pb nb mb] 33)=wb at *
 refine (mslot_all T0.out.i K M (by have:=HL.out;omega)).mono ?_
 rintro e x1 ⟨out,er,hr,rfl,F1,i1,st1⟩
 have HR:Hid (SP.RdP R g K M out er):=hr
 have T1:Hid (Pair F1 G w0 x1 s a t r g (SP.slotM R g K M out er).2 R):=T0.out.stepA i1 st1
 have V1:Hid (Var9 x1 bk ⟨2,D,K,M,X,.slice pb nb mb,bs⟩):=(V0.out.step st1 NB.out.1).1
 clear hr i1 st1 T0 V0 d0 d1 d2 d3 d4 d5
 obtain⟨d0,d1,d2,d3,d4,d5⟩:=V1.out.cell
 go_wp2_with fail
 refine (rslot_all T1.out.j (by have:=HL.out;omega) K M HL.out.2.2.2.2.1).mono ?_
 rintro e x2 ⟨out',er',hr',rfl,G2,j2,st2⟩
 obtain⟨rfl,rfl⟩:=SP.Rd.one HG.out.2.2 HR.out hr'
 have T2:Hid (Pair F1 G2 w0 x2 s a t r g (SP.slotM R g K M out' er').2 (SP.slotM R g K M out' er').2):=T1.out.stepB j2 st2
 clear hr' j2 st2 T1 V1 d0 d1 d2 d3 d4 d5 HR
 have HLN:Hid ((SP.slotM R g K M out' er').2.L.length<=N+300):=by
  have h1:=HL.out
  have h2:=slotM_len R g K M out' er'
  show _<=_
  omega
 generalize SP.slotM R g K M out' er'=SM at *
 generalize SP.slotN R g K M out' er'=SN at *
 go_wp2
 go_ret
 exact⟨rfl,F1,G2,_,T2.out,HLN.out⟩
theorem Cells.upd9 {F:Nat->Prop} {w w':World} {v:Value} {vs:List Value} (h:Cells w v vs) (u:Upd F w w') (hv:∀ b,v.ownBlock=some b->¬ F b):Cells w' v vs :=
 ⟨h.len,by
   obtain⟨p,cap,e,h1,h2,h3⟩:=h.form
   refine⟨p,cap,e,h1,h2,fun hne=>?_⟩
   obtain⟨b,off,e2,h4⟩:=h3 hne
   exact⟨b,off,e2,fun j hj=>u.cell (h4 j hj) (hv b (by rw[e,e2];rfl))⟩⟩
theorem min_run9 (K:Int) (ts:Array TypeId) (t:TypeId) (W:World):(Builtin.min_ ts t #[.int .i64 K,.int .i64 9]).run Tryz.prog W=.ok (.int .i64 (min K 9)) W:=by
 simp only[Builtin.min_,List.foldlM]
 by_cases h:K < 9
 ·have e:min K 9=K:=by omega
  simp[Builtin.min2,h,e]
  omega
 ·have e:min K 9=9:=by omega
  simp[Builtin.min2,h,e]
  omega
theorem max_run9 (K:Int) (ts:Array TypeId) (t:TypeId) (W:World):(Builtin.max_ ts t #[.int .i64 0,.int .i64 K]).run Tryz.prog W=.ok (.int .i64 (max 0 K)) W:=by
 simp only[Builtin.max_,List.foldlM]
 by_cases h:0 < K
 ·have e:max 0 K=K:=by omega
  simp[Builtin.max2,h,e]
 ·have e:max 0 K=0:=by omega
  simp[Builtin.max2,h,e]
set_option maxHeartbeats 6400000 in
theorem stp3 {w0 w:World} {s a t r:Nat} {g:SP.Geo} {N:Nat} (HX:PlyS w0 w s a t r g N) (hN:N<=900000) (hgn:g.n<=8) (hgs:g.s<=4) {D K:Int} {M X:Nat} {pb:Option Addr} {nb mb:Nat} {bs:List Nat} (hK:K < 9223372036854775808) (hM:M < 18446744073709551616) (hX:X < 256) (hv:Vec w0 (.slice pb nb mb) bs) :
 Calls Tryz.prog 9 #[ptr s,tptr t,.agg #[.int .i64 (3),.int .i64 D,.int .i64 K,.int .u64 (M:Int),.int .u8 (X:Int),.slice pb nb mb]] w fun e w'=>e=.returned (.bool true)/\PlyS w0 w' s a t r g (N+300):=by
 obtain⟨F,G,R,hp,hl⟩:=HX
 have HL:Hid (R.L.length<=N/\N<=900000/\g.n<=8/\g.s<=4/\M < 18446744073709551616/\X < 256/\K < 9223372036854775808):=⟨hl,hN,hgn,hgs,hM,hX,hK⟩
 have HVB:Hid (Vec w0 (.slice pb nb mb) bs):=hv
 have HG:Hid (1<=g.k/\g.k<=255/\g.Ok R):=⟨hp.i.ok.k1,by have:=hp.i.ok.kn;have:=hp.i.ok.n255;omega,hp.i.ok⟩
 have V0:Hid (Var9 (w.alloc (.cells #[.int .i64 (3),.int .i64 D,.int .i64 K,.int .u64 (M:Int),.int .u8 (X:Int),.slice pb nb mb] 33)) w.heap.size ⟨3,D,K,M,X,.slice pb nb mb,bs⟩):=⟨heap_alloc_new w _⟩
 have T0:Hid (Pair F G w0 (w.alloc (.cells #[.int .i64 (3),.int .i64 D,.int .i64 K,.int .u64 (M:Int),.int .u8 (X:Int),.slice pb nb mb] 33)) s a t r g R R):=hp.keep (World.grownBy_alloc w _ none)
 have NB:Hid (¬ F w.heap.size/\¬ G w.heap.size):=⟨fun hf=>by have:=hp.i.i.lt _ hf;omega,fun hf=>by have:=hp.j.glt _ hf;omega⟩
 obtain⟨d0,d1,d2,d3,d4,d5⟩:=V0.out.cell
 obtain⟨nK,hnK⟩:∃ nK:Nat,max 0 (min K 9)=(nK:Int):=⟨(max 0 (min K 9)).toNat,by omega⟩
 have HNK:Hid (nK<=9):=by show _<=_;omega
 have hmi:=min_run9 K
 have hma:=max_run9 (min K 9)
 rw[hnK] at hma
 clear hnK
 clear hp hl hN hgn hgs hM hX hK hv
 go_enter Tryz.func9,Tryz.ntmps9
 go_wp2_with fail
 obtain⟨bk,hbk⟩:∃ bk,bk=w.heap.size:=⟨_,rfl⟩
 rw[<- hbk] at V0 NB d0 d1 d2 d3 d4 d5
 (try rw[<- hbk])
 clear hbk
 clear hmi hma
 generalize w.alloc (.cells #[.int .i64 (3),.int .i64 D,.int .i64 K,.int .u64 (M:Int),.int .u8 (X:Int),.slice pb nb mb] 33)=wb at *
 clear d0 d1 d4 d5
 refine (stamps_yes wb (n:=nK) (m:=M) HNK.out).mono ?_
 rintro e x1 ⟨pl,cl,rfl,ou,gx⟩
 obtain⟨nl,hnl⟩:∃ nl,nl=nK:=⟨_,rfl⟩
 rw[<- hnl] at ou ⊢
 have T1:Hid (Pair F G w0 x1 s a t r g R R):=T0.out.keep gx
 have V1:Hid (Var9 x1 bk ⟨3,D,K,M,X,.slice pb nb mb,bs⟩):=V0.out.keep gx
 obtain⟨ST,hST⟩:∃ ST,ST=List.replicate nK M:=⟨_,rfl⟩
 rw[hnl,<- hST,<- hnl] at ou
 have hst:∀ i,ST.getD i 0 < 18446744073709551616:=fun i=>by
  rw[hST]
  by_cases hi:i < nK
  ·have:=HL.out.2.2.2.2.1
   simp[List.getD,hi]
   omega
  ·simp[List.getD,hi]
 have C1:Hid (Cells x1 (.slice pl nl cl) (us9 ST)/\(∀ b,(Value.slice pl nl cl).ownBlock=some b->¬ F b)/\(∀ b,(Value.slice pl nl cl).ownBlock=some b->¬ G b)):=⟨ou.cells9,fun b hb hf=>by have h1:=(ou.row.lt b hb).1;have h2:=T0.out.i.i.lt b hf;omega,fun b hb hf=>by have h1:=(ou.row.lt b hb).1;have h2:=T0.out.j.glt b hf;omega⟩
 have LV:Hid (∀ i,ST.getD i 0 < 18446744073709551616):=hst
 clear hst
 clear ou gx hnl hST T0 V0 d2 d3
 have d0:=V1.out.cell.1
 go_wp2_with fail
 clear d0 V1
 have HLA:Hid (R.L.length+8 * g.n * g.s<=980000/\8 * g.n * g.s<=256):=by
  have h1:=HL.out
  have h2:8 * g.n * g.s<=8 * 8 * 4:=Nat.mul_le_mul (Nat.mul_le_mul_left 8 h1.2.2.1) h1.2.2.2.1
  exact⟨by omega,by omega⟩
 refine (mall_all T1.out.i C1.out.1 C1.out.2.1 HLA.out.1).mono ?_
 rintro e y1 ⟨n1,e1,R1,rfl,ha1,F1,i1,st1⟩
 have HA1:Hid (SP.allP (fun R=>SP.RdP R g) R g ST n1 e1 R1):=ha1
 have T2:Hid (Pair F1 G w0 y1 s a t r g R1 R):=T1.out.stepA i1 st1
 have C2:Hid (Cells y1 (.slice pl nl cl) (us9 ST)/\∀ b,(Value.slice pl nl cl).ownBlock=some b->¬ G b):=⟨C1.out.1.upd9 st1.upd C1.out.2.1,C1.out.2.2⟩
 clear ha1 i1 st1 T1 C1
 go_wp2_with fail
 refine (rall_all T2.out.j C2.out.1 C2.out.2 LV.out HLA.out.1).mono ?_
 rintro e y2 ⟨n2,e2,R2,rfl,ha2,G2,j2,st2⟩
 obtain⟨rfl,rfl,rfl⟩:=SP.all_one HG.out.2.2 HA1.out ha2
 have T3:Hid (Pair F1 G2 w0 y2 s a t r g R2 R2):=T2.out.stepB j2 st2
 have HLN:Hid (R2.L.length<=N+300):=by
  have h1:=HL.out
  have h3:=HLA.out.2
  show _<=_
  rcases ha2 with ⟨_,_,_,h⟩ | ⟨_,_,_,_,h⟩ | ⟨_,_,h⟩
  ·rw[h];omega
  ·rw[h];omega
  ·have h4:=allTo_len _ _ _ _ h
   omega
 clear ha2 j2 st2 T2 C2
 go_wp2
 go_ret
 exact⟨rfl,F1,G2,R2,T3.out,HLN.out⟩
set_option maxHeartbeats 6400000 in
theorem stp9 {w0 w:World} {s a t r:Nat} {g:SP.Geo} {N:Nat} (HX:PlyS w0 w s a t r g N) (hN:N<=900000) (hgn:g.n<=8) (hgs:g.s<=4) {D K:Int} {M X:Nat} {pb:Option Addr} {nb mb:Nat} {bs:List Nat} (hK:K < 9223372036854775808) (hM:M < 18446744073709551616) (hX:X < 256) (hv:Vec w0 (.slice pb nb mb) bs) :
 Calls Tryz.prog 9 #[ptr s,tptr t,.agg #[.int .i64 (9),.int .i64 D,.int .i64 K,.int .u64 (M:Int),.int .u8 (X:Int),.slice pb nb mb]] w fun e w'=>e=.returned (.bool true)/\PlyS w0 w' s a t r g (N+300):=by
 obtain⟨F,G,R,hp,hl⟩:=HX
 have HL:Hid (R.L.length<=N/\N<=900000/\g.n<=8/\g.s<=4/\M < 18446744073709551616/\X < 256/\K < 9223372036854775808):=⟨hl,hN,hgn,hgs,hM,hX,hK⟩
 have HVB:Hid (Vec w0 (.slice pb nb mb) bs):=hv
 have HG:Hid (1<=g.k/\g.k<=255/\g.Ok R):=⟨hp.i.ok.k1,by have:=hp.i.ok.kn;have:=hp.i.ok.n255;omega,hp.i.ok⟩
 have V0:Hid (Var9 (w.alloc (.cells #[.int .i64 (9),.int .i64 D,.int .i64 K,.int .u64 (M:Int),.int .u8 (X:Int),.slice pb nb mb] 33)) w.heap.size ⟨9,D,K,M,X,.slice pb nb mb,bs⟩):=⟨heap_alloc_new w _⟩
 have T0:Hid (Pair F G w0 (w.alloc (.cells #[.int .i64 (9),.int .i64 D,.int .i64 K,.int .u64 (M:Int),.int .u8 (X:Int),.slice pb nb mb] 33)) s a t r g R R):=hp.keep (World.grownBy_alloc w _ none)
 have NB:Hid (¬ F w.heap.size/\¬ G w.heap.size):=⟨fun hf=>by have:=hp.i.i.lt _ hf;omega,fun hf=>by have:=hp.j.glt _ hf;omega⟩
 obtain⟨d0,d1,d2,d3,d4,d5⟩:=V0.out.cell
 obtain⟨nK,hnK⟩:∃ nK:Nat,max 0 (min K 9)=(nK:Int):=⟨(max 0 (min K 9)).toNat,by omega⟩
 have HNK:Hid (nK<=9):=by show _<=_;omega
 have hmi:=min_run9 K
 have hma:=max_run9 (min K 9)
 rw[hnK] at hma
 clear hnK
 clear hp hl hN hgn hgs hM hX hK hv
 go_enter Tryz.func9,Tryz.ntmps9
 go_wp2_with fail
 obtain⟨bk,hbk⟩:∃ bk,bk=w.heap.size:=⟨_,rfl⟩
 rw[<- hbk] at V0 NB d0 d1 d2 d3 d4 d5
 (try rw[<- hbk])
 clear hbk
 clear hmi hma
 generalize w.alloc (.cells #[.int .i64 (9),.int .i64 D,.int .i64 K,.int .u64 (M:Int),.int .u8 (X:Int),.slice pb nb mb] 33)=wb at *
 clear d0 d1 d4 d5
 refine (stamps_yes wb (n:=nK) (m:=M) HNK.out).mono ?_
 rintro e x0 ⟨pz,cz,rfl,oz,gx⟩
 have T1:Hid (Pair F G w0 x0 s a t r g R R):=T0.out.keep gx
 have V1:Hid (Var9 x0 bk ⟨9,D,K,M,X,.slice pb nb mb,bs⟩):=V0.out.keep gx
 have d0:=V1.out.cell.1
 clear oz gx T0 V0 d2 d3
 go_wp2_with fail
 clear d0
 refine (standing_yes T1.out.j (by have:=HL.out;omega)).mono ?_
 rintro e x1 ⟨pl,nl,cl,rfl,ou,gx⟩
 have T2:Hid (Pair F G w0 x1 s a t r g R R):=T1.out.keep gx
 obtain⟨ST,hST⟩:∃ ST,ST=SP.standL R g g.s:=⟨_,rfl⟩
 rw[<- hST] at ou
 have hst:∀ i,ST.getD i 0 < 18446744073709551616:=by rw[hST];exact SP.standL_lt T1.out.i.i.ok HG.out.2.2 g.s
 have C1:Hid (Cells x1 (.slice pl nl cl) (us9 ST)/\(∀ b,(Value.slice pl nl cl).ownBlock=some b->¬ F b)/\(∀ b,(Value.slice pl nl cl).ownBlock=some b->¬ G b)):=⟨ou.cells9,fun b hb hf=>by have h1:=(ou.row.lt b hb).1;have h2:=T1.out.i.i.lt b hf;omega,fun b hb hf=>by have h1:=(ou.row.lt b hb).1;have h2:=T1.out.j.glt b hf;omega⟩
 have LV:Hid (∀ i,ST.getD i 0 < 18446744073709551616):=hst
 clear hst
 clear ou gx hST T1 V1
 have T1:=T2
 clear T2
 go_wp2_with fail
 have HLA:Hid (R.L.length+8 * g.n * g.s<=980000/\8 * g.n * g.s<=256):=by
  have h1:=HL.out
  have h2:8 * g.n * g.s<=8 * 8 * 4:=Nat.mul_le_mul (Nat.mul_le_mul_left 8 h1.2.2.1) h1.2.2.2.1
  exact⟨by omega,by omega⟩
 refine (mall_all T1.out.i C1.out.1 C1.out.2.1 HLA.out.1).mono ?_
 rintro e y1 ⟨n1,e1,R1,rfl,ha1,F1,i1,st1⟩
 have HA1:Hid (SP.allP (fun R=>SP.RdP R g) R g ST n1 e1 R1):=ha1
 have T2:Hid (Pair F1 G w0 y1 s a t r g R1 R):=T1.out.stepA i1 st1
 have C2:Hid (Cells y1 (.slice pl nl cl) (us9 ST)/\∀ b,(Value.slice pl nl cl).ownBlock=some b->¬ G b):=⟨C1.out.1.upd9 st1.upd C1.out.2.1,C1.out.2.2⟩
 clear ha1 i1 st1 T1 C1
 go_wp2_with fail
 refine (rall_all T2.out.j C2.out.1 C2.out.2 LV.out HLA.out.1).mono ?_
 rintro e y2 ⟨n2,e2,R2,rfl,ha2,G2,j2,st2⟩
 obtain⟨rfl,rfl,rfl⟩:=SP.all_one HG.out.2.2 HA1.out ha2
 have T3:Hid (Pair F1 G2 w0 y2 s a t r g R2 R2):=T2.out.stepB j2 st2
 have HLN:Hid (R2.L.length<=N+300):=by
  have h1:=HL.out
  have h3:=HLA.out.2
  show _<=_
  rcases ha2 with ⟨_,_,_,h⟩ | ⟨_,_,_,_,h⟩ | ⟨_,_,h⟩
  ·rw[h];omega
  ·rw[h];omega
  ·have h4:=allTo_len _ _ _ _ h
   omega
 clear ha2 j2 st2 T2 C2
 go_wp2
 go_ret
 exact⟨rfl,F1,G2,R2,T3.out,HLN.out⟩
end Go.Proofs.YtaalagkbpeinkaaGreat
