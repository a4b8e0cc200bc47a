/- Packed: PR9, Iter9, Cut9, MSlot9. -/
import Derived.Test.YtaalagkbpeinkaaGreatMp24
set_option linter.unusedSimpArgs false
set_option linter.unusedVariables false
set_option maxRecDepth 100000
namespace Go.Proofs.YtaalagkbpeinkaaGreat
namespace SP
def mendS (g:Geo) (slot m:Nat) (E:List (List Nat)) (c:Nat × AM.Raw) (x:Nat):Nat × AM.Raw:=if c.1=0 then lays c.2 g slot x m (E.getD x []) else c
theorem mendTo_fold (R:AM.Raw) (g:Geo) (slot m:Nat) (E:List (List Nat)):∀ d,mendTo R g slot m E d=(wants R g slot m d).foldl (mendS g slot m E) (0,R)
 | 0=>rfl
 | d+1=>by
   rw[wants_succ,List.foldl_append,<- mendTo_fold R g slot m E d]
   cases hw:want R g slot m d
   ·rw[mendTo_no hw];rfl
   ·by_cases h:(mendTo R g slot m E d).1=0
    ·rw[mendTo_yes h hw];simp[mendS,h]
    ·rw[mendTo_stop h (d+1) (by omega)];simp[mendS,h]
def mendL (R:AM.Raw) (g:Geo) (slot m:Nat) (E:List (List Nat)) (i:Nat):Nat × AM.Raw:=((wants R g slot m g.n).take i).foldl (mendS g slot m E) (0,R)
theorem mendL_zero (R:AM.Raw) (g:Geo) (slot m:Nat) (E:List (List Nat)):mendL R g slot m E 0=(0,R):=by simp[mendL]
theorem mendL_all (R:AM.Raw) (g:Geo) (slot m:Nat) (E:List (List Nat)) {i:Nat} (h:(wants R g slot m g.n).length<=i):mendL R g slot m E i=mendTo R g slot m E g.n:=by
 unfold mendL
 rw[List.take_of_length_le h,mendTo_fold]
theorem mendL_succ {R:AM.Raw} {g:Geo} {slot m:Nat} {E:List (List Nat)} {i:Nat} (hi:i < (wants R g slot m g.n).length) (h:(mendL R g slot m E i).1=0):mendL R g slot m E (i+1)=lays (mendL R g slot m E i).2 g slot ((wants R g slot m g.n).getD i 0) m (E.getD ((wants R g slot m g.n).getD i 0) []):=by
 have e:(wants R g slot m g.n).getD i 0=(wants R g slot m g.n)[i]:=by simp[List.getD,hi]
 rw[e]
 unfold mendL at h ⊢
 rw[List.take_succ_eq_append_getElem hi,List.foldl_append]
 simp only[List.foldl_cons,List.foldl_nil]
 exact if_pos h
theorem foldl_stop {g:Geo} {slot m:Nat} {E:List (List Nat)} (l:List Nat):∀ c:Nat × AM.Raw,c.1 ≠ 0->l.foldl (mendS g slot m E) c=c:=by
 induction l with
 | nil=>intro c _;rfl
 | cons x l ih =>
   intro c h
   simp only[List.foldl_cons]
   have e:mendS g slot m E c x=c:=by unfold mendS;rw[if_neg h]
   rw[e]
   exact ih c h
theorem mendL_stop {R:AM.Raw} {g:Geo} {slot m:Nat} {E:List (List Nat)} {i:Nat} (h:(mendL R g slot m E i).1 ≠ 0):mendTo R g slot m E g.n=mendL R g slot m E i:=by
 rw[mendTo_fold]
 unfold mendL at h ⊢
 conv=>lhs;rw[<- List.take_append_drop i (wants R g slot m g.n)]
 rw[List.foldl_append,foldl_stop _ _ h]
theorem mendL_kept (R:AM.Raw) (g:Geo) (slot m:Nat) (E:List (List Nat)) (i:Nat):Kept R (mendL R g slot m E i).2:=by
 unfold mendL
 generalize (wants R g slot m g.n).take i=l
 have:∀ (l:List Nat) (c:Nat × AM.Raw),Kept R c.2->Kept R (l.foldl (mendS g slot m E) c).2:=by
  intro l
  induction l with
  | nil=>intro c h;exact h
  | cons x l ih =>
    intro c h
    simp only[List.foldl_cons]
    refine ih _ ?_
    unfold mendS
    split
    ·exact h.trans (layTo_kept _ _ _ _ _ _)
    ·exact h
 exact this l _ (Kept.refl R)
theorem mendL_pow {R:AM.Raw} {g:Geo} {slot m:Nat} {E:List (List Nat)} (h0:R.off=false):∀ i,i<=(wants R g slot m g.n).length->(mendL R g slot m E i).1=0->(mendL R g slot m E i).2.off=false
 | 0,_,_=>by rw[mendL_zero];exact h0
 | i+1,hi,h=>by
   by_cases c:(mendL R g slot m E i).1=0
   ·have ih:=mendL_pow h0 i (by omega) c
    rw[mendL_succ (by omega) c] at h ⊢
    unfold lays at h ⊢
    exact layTo_pow ih 8 h
   ·have e:mendL R g slot m E (i+1)=mendL R g slot m E i:=by
     have h2:(mendL R g slot m E (i+1))=mendTo R g slot m E g.n:=by
      rw[mendL_stop c]
      unfold mendL at c ⊢
      rw[List.take_succ_eq_append_getElem (by omega),List.foldl_append,foldl_stop _ _ c]
     rw[h2,mendL_stop c]
    rw[e] at h
    exact absurd h c
theorem dec_len {R:AM.Raw} {g:Geo} {slot:Int} {m:Nat} {out:List Nat} (hg:g.Ok R) (h:RdR R g slot m out 0):out.length=g.k * 448/\why R g slot=0/\m ≠ 0:=by
 rcases h with ⟨h1,_,h2⟩ | ⟨_,_,_,h2⟩ | ⟨_,_,_,_,h2⟩ | ⟨h1,h2,h3,_,P,a,hP,rfl⟩
 ·exact absurd h2.symm h1
 ·omega
 ·omega
 ·refine⟨?_,h1,h2⟩
  have hk1:=hg.k1
  obtain⟨_,hs⟩:=DecR.yes hP ((hits_pick R g slot.toNat m).ok hg) (by rw[ints_len];omega)
  have hL0:((told R g slot.toNat (hits R g slot.toNat m g.n)).getD 0 []).length=448:=(hits_pick R g slot.toNat m).row (by omega)
  have sh:=hs.1
  rw[hL0,Int.toNat_natCast] at sh
  have hlen:=sh.len
  have hrow:=sh.row
  have key:∀ (X:List (List Nat)) (n:Nat),X.length=n->(∀ j,j < n->(X.getD j []).length=448)->X.flatten.length=n * 448:=by
   intro X
   induction X with
   | nil=>intro n h1 _;simp at h1;subst h1;rfl
   | cons x X ih =>
     intro n h1 h2
     obtain⟨n,rfl⟩:∃ n',n=n'+1:=⟨n - 1,by simp at h1;omega⟩
     have e0:x.length=448:=by have:=h2 0 (by omega);simpa using this
     have e1:=ih n (by simpa using h1) (fun j hj=>by have:=h2 (j+1) (by omega);simpa using this)
     simp only[List.flatten_cons,List.length_append]
     omega
  exact key P g.k hlen hrow
end SP
open Go.RowKit Go.Shelf
attribute [local go_sem] Oper.semAt_some
def encP_c (b off m x:Nat):Array Value:=#[.slice (some ⟨b,off+448 * cl m x,none⟩) 448 448]
theorem chunk9_any (w:World) (p:Option Addr) (n c:Nat) :
 Calls Tryz.prog 105 #[.slice p n c,.int .i64 448] w fun e w'=>e=.returned (.func (.func 128) #[] #[.pointer (some ⟨w.heap.size,0,none⟩),.pointer (some ⟨w.heap.size+1,0,none⟩)])/\w'=(w.alloc (.cells #[.slice p n c] 31)).alloc (.cells #[.int .i64 448] 3):=by
 go_enter Tryz.func105,Tryz.ntmps105
 go_wp2
 go_ret
 exact⟨rfl,rfl⟩
set_option maxRecDepth 100000 in
set_option maxHeartbeats 2000000 in
theorem chunk19_in (n:Nat) (hn:1<=n) (l Bs Bn b off N cap m:Nat) (hN:N=448 * m) (hm:m<=255) (hcap:N<=cap) (J Jx:List Nat->World->Prop)
 (hY:∀ pre x W,J pre W->pre.length < m->YieldAt Fence.wide (n - 1) Tryz.prog l (encP_c b off m x) W fun e W' =>
   (e=.returned (.bool true)/\J (pre++[x]) W'/\Kp7 Bs Bn W W')\/(e=.returned (.bool false)/\Jx (pre++[x]) W'))
 (W:World) (hBs:Boxed W Bs 31 (.slice (some ⟨b,off,none⟩) N cap)) (hBn:Boxed W Bn 3 (.int .i64 448)) (hJd:∀ pre W,J pre W->J pre W.drew) (h0:J [] W) :
 CallsIn Fence.wide n Tryz.prog 128 #[.func (.yield l) #[] #[],.pointer (some ⟨Bs,0,none⟩),.pointer (some ⟨Bn,0,none⟩)] W fun e W'=>(∃ v,e=.returned v) /\
  ((∃ ys,ys=List.range m/\J ys W')\/(∃ pre,(∃ k,k<=m/\pre=List.range k)/\Jx pre W')):=by
 have HN:Hid (N=448 * m/\N<=cap):=⟨hN,hcap⟩
 have HY:Hid _:=hY
 clear hN hcap hY
 refine callsIn_of_wp Tryz.func128 rfl trivial ?_ rfl
 simp only[Tryz.ntmps128,List.size_toArray,List.length_cons,List.length_nil,Nat.reduceAdd,Nat.reduceSub,Array.replicate_succ,Array.replicate_zero,List.push_toArray,List.append_toArray,List.nil_append,List.cons_append]
 gi_wp2
 gi_loopw [4] (fun i wr=>∃ k:Nat,k<=m/\i=.int .i64 (448 * (k:Int))/\Hid (J (List.range k) wr)/\Hid (Boxed wr Bs 31 (.slice (some ⟨b,off,none⟩) N cap)/\Boxed wr Bn 3 (.int .i64 448)))
  (fun i _=>448 * m - (intOf i).toNat)
 case atStart=>exact⟨0,Nat.zero_le _,rfl,h0,hBs,hBn⟩
 case round =>
  clear hBs hBn h0
  obtain⟨k,hk,rfl,hJs,hB⟩:=hrel
  have c1:=hB.out.1.cell
  by_cases hlt:k < m
  ·have i1:448 * (k:Int) < (N:Int):=by have:=HN.out;omega
   have HY2:Hid (YieldAt Fence.wide (n - 1) Tryz.prog l (encP_c b off m k) wr.drew fun e W'=>(e=.returned (.bool true)/\J (List.range k++[k]) W'/\Kp7 Bs Bn wr.drew W')\/(e=.returned (.bool false)/\Jx (List.range k++[k]) W')):=HY.out _ _ _ (hJd _ _ hJs.out) (by simpa using hlt)
   have s1:=fun W=>slice_lo7 (b:=b) (off:=off) (n:=N) (c:=cap) (lo:=448 * k) (by have:=HN.out;omega) HN.out.2 W
   rw[show ((448 * k:Nat):Int)=448 * (k:Int) by omega] at s1
   obtain⟨R,hR⟩:∃ R,R=N - 448 * k:=⟨_,rfl⟩
   rw[<- hR] at s1
   have iR:¬ (R:Int) < 448:=by have:=HN.out;omega
   have HB:Hid (∀ w',wr.grownBy w' none->w'.cell? ⟨Bs,0,none⟩=some (.slice (some ⟨b,off,none⟩) N cap)/\w'.cell? ⟨Bn,0,none⟩=some (.int .i64 448)):=fun w' g=>⟨g.cell hB.out.1.cell (by simp),g.cell hB.out.2.cell (by simp)⟩
   clear hR hJs
   gi_wp2
   refine wpIn_wide.2 ?_
   go_region_held3 (fun w'=>w'.cell? ⟨Bs,0,none⟩=some (.slice (some ⟨b,off,none⟩) N cap)/\w'.cell? ⟨Bn,0,none⟩=some (.int .i64 448)) (first | exact HB.out _ (grown_drewN _ 1)) (fail)
   clear s1 i1
   have eL:encP_c b off m k=#[.slice (some ⟨b,off+448 * k,none⟩) 448 448]:=by simp[encP_c,cl_self hlt]
   rw[eL] at HY2
   obtain⟨fn,tmps,assign,body,hy,hR⟩:=HY2.out
   have s2:=fun W=>slice_lhm (b:=b) (off:=off) (n:=N) (c:=cap) (lo:=448 * k) (hi:=448 * k+448) (by have:=HN.out;omega) (by omega) W
   rw[show ((448 * k+448:Nat):Int)=448 * (k:Int)+448 by omega,show ((448 * k:Nat):Int)=448 * (k:Int) by omega,show 448 * k+448 - 448 * k=448 by omega] at s2
   have d1:wr.drew.cell? ⟨Bs,0,none⟩=some (.slice (some ⟨b,off,none⟩) N cap):=c1
   clear HY2 eL c1
   gi_wp2
   refine hR.mono ?_
   rintro e W3 (⟨rfl,hJ3,hk3⟩ | ⟨rfl,hJx3⟩)
   ·have HJ3:Hid (J (List.range k++[k]) W3):=hJ3
    have hB3:Hid (Boxed W3 Bs 31 (.slice (some ⟨b,off,none⟩) N cap)/\Boxed W3 Bn 3 (.int .i64 448)):=⟨hk3.1.trans hB.out.1,hk3.2.trans hB.out.2⟩
    have c3:=hB3.out.2.cell
    clear hJ3 hk3 hy hR s2 d1
    gi_wp2
    go_roundw
    case rel=>exact⟨k+1,by omega,by go_num,by rw[List.range_succ];exact HJ3,hB3⟩
    case measure=>simp[intOf];omega
   ·have HJ3:Hid (Jx (List.range k++[k]) W3):=hJx3
    clear hJx3 hy hR s2 d1
    gi_wp2
    refine bodyPost_ret (results_none rfl _ _ _) rfl ?_
    exact⟨⟨_,rfl⟩,.inr ⟨_,⟨k+1,by omega,(List.range_succ).symm⟩,HJ3.out⟩⟩
  ·obtain rfl:k=m:=by omega
   have i1:¬ 448 * (k:Int) < (N:Int):=by have:=HN.out;omega
   gi_wp2
   go_end0
   exact⟨⟨_,rfl⟩,.inl hJs.out⟩
attribute [local go_sem] Oper.semAt_some
theorem chunk9_stops (n:Nat) (hn:1<=n) (Bs Bn b off N cap m:Nat) (hN:N=448 * m) (hm:m<=255) (hcap:N<=cap) (w:World) (hBs:Boxed w Bs 31 (.slice (some ⟨b,off,none⟩) N cap)) (hBn:Boxed w Bn 3 (.int .i64 448)) :
 SeqStopsK Fence.wide n Tryz.prog 128 #[.pointer (some ⟨Bs,0,none⟩),.pointer (some ⟨Bn,0,none⟩)] (fun x:Nat=>encP_c b off m x) (Kp7 Bs Bn) (fun ys=>ys=List.range m) (fun pre=>∃ k,k<=m/\pre=List.range k) m w:=fun l J Jx W hW hJ _ hY h0 =>
 chunk19_in n hn l Bs Bn b off N cap m hN hm hcap J Jx hY W ((hW.block Bs hBs.lt).trans hBs) ((hW.block Bn hBn.lt).trans hBn) (fun pre W h=>hJ pre W _ none h (grown_drewN W 1) (by simp)) h0
def cutsOf (b off m:Nat) (pre:List Nat):List Value:=pre.map fun i=>.slice (some ⟨b,off+448 * cl m i,none⟩) 448 448
theorem cutsOf_all (b off m:Nat):cutsOf b off m (List.range m)=cutsAt b off m:=by
 unfold cutsOf cutsAt
 refine List.map_congr_left fun i hi=>?_
 rw[cl_self (List.mem_range.1 hi)]
structure CutP (w:World) (m M b off N cap:Nat) (pre:List Nat) (W:World) (dv:Value):Prop where
 made:Boxed W M 95 dv
 row:W.ownsRow w.heap.size 31 1 dv pre.length (cutsOf b off m pre)
 bs:Boxed W (M+1) 31 (.slice (some ⟨b,off,none⟩) N cap)
 bn:Boxed W (M+2) 3 (.int .i64 448)
 ne:dv.ownBlock ≠ some (M+1)
 lM:w.heap.size<=M
 gr:w.grownBy W none
theorem CutP.kept {w:World} {m M b off N cap:Nat} {pre:List Nat} {W W':World} {dv:Value} {row:Option Nat} (h:CutP w m M b off N cap pre W dv) (g:W.grownBy W' row)
 (hr:∀ r,row=some r->w.heap.size<=r/\∃ o:Obj,W.heap[r]?=some o/\o.isCells=false):CutP w m M b off N cap pre W' dv:=by
 have bx:∀ {B:Nat} {t:TypeId} {v:Value},Boxed W B t v->Boxed W' B t v:=fun hb=>hb.kept g fun e=>by
  obtain⟨_,o,ho,hc⟩:=hr _ e.symm
  rw[show W.heap[_]?=_ from hb] at ho
  cases ho;cases hc
 refine⟨bx h.made,h.row.kept g ?_,bx h.bs,bx h.bn,h.ne,h.lM,grown_new h.gr g (fun r e=>(hr r e).1)⟩
 rcases h.row.2 with ⟨e,_⟩ | ⟨b',cp,cur,e,_,hg,_⟩
 ·subst e;exact .inl rfl
 ·subst e
  refine .inr fun e=>?_
  obtain⟨_,o,ho,hc⟩:=hr b' (by simpa [Value.ownBlock] using e.symm)
  rw[hg] at ho
  cases ho;cases hc
theorem CutP.own (w:World) (m M b off N cap B:Nat) (hB:w.heap.size<=B):OwnFrom B (fun (pre:List Nat) W=>∃ dv,CutP w m M b off N cap pre W dv) :=
 fun _ _ _ _ ⟨dv,h⟩ g hr=>⟨dv,h.kept g fun r e=>⟨Nat.le_trans hB (hr r e).1,(hr r e).2⟩⟩
theorem CutP.more {w:World} {m M b off N cap:Nat} {pre:List Nat} {W w5:World} {dv v':Value} {x:Nat} (C:CutP w m M b off N cap pre W dv)
 (r5:w5.ownsRow w.heap.size 31 1 v' (pre.length+1) (cutsOf b off m pre++[.slice (some ⟨b,off+448 * cl m x,none⟩) 448 448])) (g5:W.grownBy w5 dv.ownBlock) (at5:v'.ownBlock=dv.ownBlock\/v'.ownBlock=some W.heap.size) :
 Boxed w5 M 95 dv/\CutP w m M b off N cap (pre++[x]) (w5.setCell ⟨M,0,none⟩ v') v'/\KeepsOthers W (w5.setCell ⟨M,0,none⟩ v'):=by
 have b1:Boxed w5 M 95 dv:=C.made.kept g5 (C.made.not_row (by decide) C.row)
 have gs:=grownBy_setCell' w5 M v'
 have lm:=C.bs.lt
 have ln:=C.lM
 refine⟨b1,⟨b1.set _,?_,((C.bs.kept g5 (fun e=>C.ne e.symm)).kept gs (by simp)),((C.bn.kept g5 (C.bn.not_row (by decide) C.row)).kept gs (by simp)),?_,C.lM,?_⟩,?_⟩
 ·have e:cutsOf b off m (pre++[x])=cutsOf b off m pre++[.slice (some ⟨b,off+448 * cl m x,none⟩) 448 448]:=by simp[cutsOf]
  rw[e,List.length_append]
  refine r5.kept gs (.inr ?_)
  obtain⟨g',cap',rfl⟩:=ownsRow_succ r5
  intro e2
  obtain rfl:g'=M:=by simpa [Value.ownBlock] using e2
  exact b1.not_row (by decide) r5 (by simp[Value.ownBlock])
 ·rcases at5 with e | e
  ·rw[e];exact C.ne
  ·rw[e];intro e2;have:=Option.some.inj e2;omega
 ·exact grown_new (grown_new C.gr g5 (fun i e=>(C.row.lt i e).1)) gs (fun i e=>by have:=Option.some.inj e;omega)
 ·refine (KeepsOthers.of_grownBy g5 fun j o' ej hj=>?_).trans (KeepsOthers.setCell _ _ _)
  rcases C.row.2 with ⟨rfl,_⟩ | ⟨g,cp,cur,rfl,_,hgb,_⟩
  ·simp[Value.ownBlock] at ej
  ·obtain rfl:g=j:=by simpa [Value.ownBlock] using ej
   rw[hgb] at hj;cases hj;rfl
set_option maxRecDepth 100000 in
set_option maxHeartbeats 2000000 in
theorem mcut_any {w:World} {m b off N cap:Nat} {xs:List Nat} (hv:Vec w (.slice (some ⟨b,off,none⟩) N cap) xs) (hN:N=448 * m) (hx:xs.length=m * 448) (hm0:0 < m) (hm:m<=255) (hcap:N<=cap) :
 Calls Tryz.prog 70 #[.slice (some ⟨b,off,none⟩) N cap] w fun e w'=>∃ u,e=.returned u/\Out w.heap.size w' u (cutsAt b off m)/\w.grownBy w' none:=by
 have HN:Hid (N=448 * m/\xs.length=m * 448/\0 < m/\m<=255/\N<=cap):=⟨hN,hx,hm0,hm,hcap⟩
 have hq:(N:Int) / 448=(m:Int):=by omega
 obtain⟨w1,hmk,hrow,g1⟩:=run_make_rows0 w (n:=m) (by omega)
 have HR:Hid (w1.ownsRow w.heap.size 31 1 (.slice (some ⟨w.heap.size,0,none⟩) 0 m) 0 []):=hrow
 have HG:Hid (w.grownBy w1 none):=g1
 clear hv hN hx hm0 hcap hrow g1
 refine (callsIn_wide (n:=5)).1 ?_
 refine callsIn_of_wp_marks Tryz.func70 rfl trivial ?_ rfl
 simp only[Tryz.ntmps70,List.size_toArray,List.length_cons,List.length_nil,Nat.reduceAdd,Nat.reduceSub,Array.replicate_succ,Array.replicate_zero,List.push_toArray,List.append_toArray,List.nil_append,List.cons_append]
 gi_wp2_with (refine⟨trivial,?_⟩;gi_at_call 105;refine (callsIn_wide.2 (chunk9_any _ _ _ _)).mono ?_;rintro e w2 ⟨rfl,rfl⟩)
 have I0:CutP w m w1.heap.size b off N cap [] (((w1.alloc (.cells #[.slice (some ⟨w.heap.size,0,none⟩) 0 m] 95)).alloc (.cells #[.slice (some ⟨b,off,none⟩) N cap] 31)).alloc (.cells #[.int .i64 448] 3)) (.slice (some ⟨w.heap.size,0,none⟩) 0 m):=by
  have hR:=HR.out
  have hlt:=hR.lt w.heap.size rfl
  have hsz:=HG.out.size
  have ga:=World.grownBy_alloc w1 (.cells #[.slice (some ⟨w.heap.size,0,none⟩) 0 m] 95) none
  have gb:=gb_alloc ga (.cells #[.slice (some ⟨b,off,none⟩) N cap] 31)
  have gc:=gb_alloc gb (.cells #[.int .i64 448] 3)
  refine⟨((Boxed.new w1 _ _).alloc _).alloc _,?_,?_,?_,?_,hsz,grown_trans HG.out gc⟩
  ·exact hR.kept gc (.inr (by simp[Value.ownBlock]))
  ·have h1:=Boxed.new (w1.alloc (.cells #[.slice (some ⟨w.heap.size,0,none⟩) 0 m] 95)) 31 (.slice (some ⟨b,off,none⟩) N cap)
   rw[World.size_alloc] at h1
   exact h1.alloc _
  ·have h1:=Boxed.new ((w1.alloc (.cells #[.slice (some ⟨w.heap.size,0,none⟩) 0 m] 95)).alloc (.cells #[.slice (some ⟨b,off,none⟩) N cap] 31)) 3 (.int .i64 448)
   rw[World.size_alloc,World.size_alloc] at h1
   exact h1
  ·simp only[Value.ownBlock];intro e;have:=Option.some.inj e;omega
 have HI0:Hid (CutP w m w1.heap.size b off N cap [] (((w1.alloc (.cells #[.slice (some ⟨w.heap.size,0,none⟩) 0 m] 95)).alloc (.cells #[.slice (some ⟨b,off,none⟩) N cap] 31)).alloc (.cells #[.int .i64 448] 3)) (.slice (some ⟨w.heap.size,0,none⟩) 0 m)):=I0
 clear I0 hmk HR HG
 generalize w1.heap.size=M at *
 generalize ((w1.alloc (.cells #[.slice (some ⟨w.heap.size,0,none⟩) 0 m] 95)).alloc (.cells #[.slice (some ⟨b,off,none⟩) N cap] 31)).alloc (.cells #[.int .i64 448] 3)=W0 at *
 have hWs:w.heap.size<=W0.heap.size:=HI0.out.gr.size
 refine wpIn_rangeFunc_ownG rfl (by decide) (gf:=128) (lb:=#[.pointer (some ⟨M+1,0,none⟩),.pointer (some ⟨M+2,0,none⟩)]) rfl trivial (enters_of Tryz.func128 (by kernel_rfl) rfl)
  (chunk9_stops 4 (by decide) (M+1) (M+2) b off N cap m HN.out.1 HN.out.2.2.2.1 HN.out.2.2.2.2 W0 HI0.out.bs HI0.out.bn)
  (fun h k=>⟨k.1.trans h.1,k.2.trans h.2⟩) (fun W l o o' hl h _ _=>⟨World.putObj_heap_other (by have:=HI0.out.bs.lt;omega),World.putObj_heap_other (by have:=HI0.out.bn.lt;omega)⟩) (Below.refl _ _) (fun _=>rfl)
  (fun pre W=>∃ dv,CutP w m M b off N cap pre W dv) (fun _ _ _=>False)
  (CutP.own w m M b off N cap _ hWs) (fun _ _ _ _ _ hs _ _=>hs) ⟨_,HI0.out⟩
  (fun x=>{ tmps:=#[.slice (some ⟨b,off,none⟩) N cap,undef,.slice none 0 0,.pointer (some ⟨M,0,none⟩),.slice (some ⟨b,off+448 * cl m x,none⟩) 448 448,
    .slice (some ⟨b,off,none⟩) N cap,.int .i64 (N:Int),.int .i64 (m:Int),.slice (some ⟨w.heap.size,0,none⟩) 0 m,.slice (some ⟨b,off,none⟩) N cap,
    .func (.func 128) #[] #[.pointer (some ⟨M+1,0,none⟩),.pointer (some ⟨M+1+1,0,none⟩)],.slice (some ⟨b,off+448 * cl m x,none⟩) 448 448,undef,undef,undef,undef,undef],defers:=[] }) ?assign ?body ?done ?stop
 case assign =>
  intro l x W K hK
  dsimp only[encP_c]
  gi_wp2
  exact hK
 case body =>
  rintro l pre x W ⟨dv,C⟩ hlen
  have cM:=C.made.cell
  have HC:Hid (CutP w m M b off N cap pre W dv):=C
  have CA:Hid (CutP w m M b off N cap pre (W.alloc (.cells #[.slice (some ⟨b,off+448 * cl m x,none⟩) 448 448] 31)) dv):=C.kept (World.grownBy_alloc W _ none) (by simp)
  have LL:Hid ((pre.length+1) * 24<=140737488351232/\w.heap.size<=W.heap.size/\(cutsOf b off m pre).length=pre.length):=⟨by omega,C.gr.size,by simp[cutsOf]⟩
  have cl5:(cutsOf b off m pre).length=pre.length:=LL.out.2.2
  clear C
  obtain⟨i0,hi,hz0,hz1,hz2⟩:=info_parts Tryz.info22
  gi_wp2_with (gi_at_builtin;refine wpListIn_append_own_at _ rfl _ _ 95 rfl w.heap.size 31 i0 (.slice none 0 0) 1 24 Tryz.underlying95 hi hz0 hz1 hz2 rfl (by decide) dv pre.length (cutsOf b off m pre) rfl CA.out.row ⟨W.heap.size,0,none⟩ 1 1 [.slice (some ⟨b,off+448 * cl m x,none⟩) 448 448] rfl rfl (cell_one_new _ _ _) (by simp[Value.oneCell']) (by have:=LL.out.1;unfold maxLen;omega) (by have:=LL.out.1;omega) (by have:=LL.out.2.1;simp;omega) ?_;intro v' w5 r5 g5 hz5 at5;obtain⟨g',cap',rfl⟩:=ownsRow_succ r5;clear hz5;obtain⟨k1,k2,k3⟩:=CutP.more (x:=x) CA.out r5 g5 at5;have K2:Hid (CutP w m M b off N cap (pre++[x]) (w5.setCell ⟨M,0,none⟩ (.slice (some ⟨g',0,none⟩) (pre.length+1) cap')) (.slice (some ⟨g',0,none⟩) (pre.length+1) cap')):=k2;have K3:Hid (KeepsOthers W (w5.setCell ⟨M,0,none⟩ (.slice (some ⟨g',0,none⟩) (pre.length+1) cap'))):=(KeepsOthers.alloc _ _).trans k3;have c5:=k1.cell;have f5:=k1.frozen;clear r5 g5 at5 k1 k2 k3)
  exact⟨K3.out.from _,⟨K2.out.bs.trans HC.out.bs.symm,K2.out.bn.trans HC.out.bn.symm⟩,_,K2.out⟩
 case done =>
  rintro D ys W hD rfl ⟨dv,C⟩ hK
  have cM:=C.made.cell
  have HC:Hid (CutP w m M b off N cap (List.range m) W dv):=C
  have HD:Hid (w.heap.size<=D):=Nat.le_trans hWs hD
  have HK:Hid (W.heap[D]?=some (.deferred (some []))):=hK
  clear C
  gi_wp2
  refine⟨by simp,.inl ⟨_,_,rfl,run_takeDeferred HK.out,?_⟩⟩
  have gp:=grownBy_putObj' W D (.deferred none)
  refine⟨_,results_tmp rfl _ _ _,_,rfl,?_,grown_new HC.out.gr gp (fun i e=>by have:=Option.some.inj e;have:=HD.out;omega)⟩
  rw[<- cutsOf_all]
  have h1:=(HC.out.kept gp (fun r e=>by have:=Option.some.inj e;subst this;exact⟨HD.out,_,HK.out,rfl⟩)).row
  have hl:(cutsOf b off m (List.range m)).length=(List.range m).length:=by simp[cutsOf]
  exact⟨by rw[hl];simp;omega,by rw[hl];exact h1⟩
 case stop =>
  rintro D c pre W _ _ h _
  exact h.elim
end Go.Proofs.YtaalagkbpeinkaaGreat
namespace Go.Proofs.YtaalagkbpeinkaaGreat
open Go.RowKit
theorem enters_sl:∀ args w,(callFunc 71 args).run Tryz.prog w=.ok (.enter 71 args) w:=by
 intro args w
 simp[go_sem,callFunc,Tryz.func71,Tryz.f71]
theorem Mat.upd {F:Nat->Prop} {w w':World} {v:Value} {us:List Value} {X:List (List Nat)} (h:Mat w v us X) (u:Upd F w w') (hv:∀ b,v.ownBlock=some b->¬ F b) (hu:∀ j,j < X.length->∀ b,(us.getD j undef).ownBlock=some b->¬ F b):Mat w' v us X :=
 ⟨⟨h.row.len,by
   obtain⟨p,cap,e,h1,h2,h3⟩:=h.row.form
   refine⟨p,cap,e,h1,h2,fun hne=>?_⟩
   obtain⟨b,off,e2,h4⟩:=h3 hne
   exact⟨b,off,e2,fun j hj=>u.cell (h4 j hj) (hv b (by rw[e,e2];rfl))⟩⟩,h.same,fun j hj=>(h.vec j hj).upd u (fun _ b hb=>hu j hj b hb)⟩
theorem Step.fresh9 {F F':Nat->Prop} {w W w2:World} {bk:Nat} (h:Step F w F' W) (g:W.grownBy w2 (some bk)) (hb:w.heap.size<=bk):Step F w F' w2 :=
 ⟨⟨g.os.trans h.upd.os,g.tape.trans h.upd.tape,g.output.trans h.upd.output,Nat.le_trans h.upd.size g.size,fun i hi hn=>(g.block i (Nat.lt_of_lt_of_le hi h.upd.size) (fun e=>by have:=Option.some.inj e;omega)).trans (h.upd.block i hi hn)⟩,h.sub⟩
theorem SI.beside {F:Nat->Prop} {w w':World} {s a b:Nat} {g:SP.Geo} {R:AM.Raw} (h:SI F w s a g R) (gr:w.grownBy w' (some b)) (hb:¬ F b) (hne:s ≠ b):SI F w' s a g R:=by
 obtain⟨h1,_⟩:=h.i.aside (G:=fun i=>i=b) (Step.of gr (fun i e=>(Option.some.inj e).symm)) (fun k hk hg=>hb (hg ▸ hk))
 exact⟨h1,by rw[gr.block s h.lt (fun e=>hne (Option.some.inj e))];exact h.top,h.nf,h.ok⟩
structure SlS (w0:World) (W P Q T D s:Nat) (dv:Value) (us:List Value):Prop where
 oP:w0.heap.size<=P/\P < D
 oQ:w0.heap.size<=Q/\Q < D
 oT:w0.heap.size<=T/\T < D
 oD:w0.heap.size<=D/\D < W
 ov:∀ b,dv.ownBlock=some b->w0.heap.size<=b/\b < D
 ou:∀ j,j < us.length->∀ b,(us.getD j undef).ownBlock=some b->w0.heap.size<=b/\b < D
 os:s < w0.heap.size
structure SlI (F0:Nat->Prop) (w0:World) (W P Q T D slot m:Nat) (dv:Value) (us:List Value) (xs:List Nat) (s a:Nat) (g:SP.Geo) (F:Nat->Prop) (w:World) (R:AM.Raw) (n:Nat):Prop where
 i:SI F w s a g R
 bw:Boxed w W 3 (.int .i64 (n:Int))
 bs:Boxed w P 23 (ptr s)
 bl:Boxed w Q 3 (.int .i64 (slot:Int))
 bm:Boxed w T 30 (.int .u64 (m:Int))
 bd:Boxed w D 95 dv
 mt:Mat w dv us (SP.parts xs g.k)
 fr:∀ b,w0.heap.size<=b->b<=W->¬ F b
 st:Step F0 w0 F w
section
variable {F0 F F':Nat->Prop} {w0 w w':World} {W P Q T D slot m s a n:Nat} {dv:Value} {us:List Value} {xs:List Nat} {g:SP.Geo} {R R':AM.Raw}
theorem boxed_upd {B:Nat} {t:TypeId} {v:Value} (h:Boxed w B t v) (u:Upd F w w') (hn:¬ F B):Boxed w' B t v:=(u.block B h.lt hn).trans h
theorem SlI.step (h:SlI F0 w0 W P Q T D slot m dv us xs s a g F w R n) (S:SlS w0 W P Q T D s dv us) (i':SI F' w' s a g R') (st:Step F w F' w'):SlI F0 w0 W P Q T D slot m dv us xs s a g F' w' R' n:=by
 have o1:=S.oP
 have o2:=S.oQ
 have o3:=S.oT
 have o4:=S.oD
 refine⟨i',boxed_upd h.bw st.upd (h.fr _ (by omega) (by omega)),boxed_upd h.bs st.upd (h.fr _ (by omega) (by omega)),boxed_upd h.bl st.upd (h.fr _ (by omega) (by omega)),boxed_upd h.bm st.upd (h.fr _ (by omega) (by omega)),boxed_upd h.bd st.upd (h.fr _ (by omega) (by omega)),h.mt.upd st.upd (fun b hb=>h.fr b (S.ov b hb).1 (by have:=(S.ov b hb).2;omega)) (fun j hj b hb=>?_),fun b h1 h2 hf=>?_,h.st.trans st⟩
 ·have hb2:=S.ou j (by rw[h.mt.same];exact hj) b hb
  exact h.fr b hb2.1 (by omega)
 ·rcases st.sub b hf with h3 | h3
  ·exact h.fr b h1 h2 h3
  ·have:=h.bw.lt;omega
theorem SlI.keep (h:SlI F0 w0 W P Q T D slot m dv us xs s a g F w R n) (S:SlS w0 W P Q T D s dv us) (g1:w.grownBy w' none):SlI F0 w0 W P Q T D slot m dv us xs s a g F w' R n:=h.step S (h.i.keep g1) (Step.new g1)
theorem SlI.count (h:SlI F0 w0 W P Q T D slot m dv us xs s a g F w R n) (S:SlS w0 W P Q T D s dv us):SlI F0 w0 W P Q T D slot m dv us xs s a g F (w.setCell ⟨W,0,none⟩ (.int .i64 ((n+1:Nat):Int))) R (n+1):=by
 have o1:=S.oP
 have o2:=S.oQ
 have o3:=S.oT
 have o4:=S.oD
 have gs:=grownBy_setCell' w W (.int .i64 ((n+1:Nat):Int))
 have nW:=h.fr W (by omega) (by omega)
 refine⟨h.i.beside gs nW (by have:=S.os;omega),h.bw.set _,h.bs.kept gs (fun e=>by have:=Option.some.inj e;omega),h.bl.kept gs (fun e=>by have:=Option.some.inj e;omega),h.bm.kept gs (fun e=>by have:=Option.some.inj e;omega),h.bd.kept gs (fun e=>by have:=Option.some.inj e;omega),h.mt.upd (F:=fun i=>i=W) (Upd.of gs (fun i e=>(Option.some.inj e).symm)) (fun b hb e=>by have:=(S.ov b hb).2;omega) (fun j hj b hb e=>?_),h.fr,h.st.fresh9 gs (by omega)⟩
 have hb2:=S.ou j (by rw[h.mt.same];exact hj) b hb
 omega
theorem sl_yes (j:Nat):Calls Tryz.prog 71 #[.int .i64 (j:Int),.bool true,.pointer (some ⟨W,0,none⟩),.pointer (some ⟨P,0,none⟩),.pointer (some ⟨Q,0,none⟩),.pointer (some ⟨T,0,none⟩),.pointer (some ⟨D,0,none⟩)] w fun e w'=>e=.returned (.int .i64 0)/\w'=w:=by
 go_enter Tryz.func71,Tryz.ntmps71
 go_wp2
 go_ret
 exact⟨rfl,rfl⟩
set_option maxHeartbeats 1600000 in
theorem sl_no (h:SlI F0 w0 W P Q T D slot m dv us xs s a g F w R n) (S:SlS w0 W P Q T D s dv us) (h0:R.off=false) {j:Nat} (hl:xs.length=g.k * 448) (hd:j < g.n) (hs:slot < g.s) (hm:m ≠ 0) (hL:R.L.length<=990000) (hn:n<=1000) :
 Calls Tryz.prog 71 #[.int .i64 (j:Int),.bool false,.pointer (some ⟨W,0,none⟩),.pointer (some ⟨P,0,none⟩),.pointer (some ⟨Q,0,none⟩),.pointer (some ⟨T,0,none⟩),.pointer (some ⟨D,0,none⟩)] w fun e w'=>e=.returned (.int .i64 ((SP.lays R g slot j m ((SP.code g xs).getD j [])).1:Int))/\∃ F',SlI F0 w0 W P Q T D slot m dv us xs s a g F' w' (SP.lays R g slot j m ((SP.code g xs).getD j [])).2 (n+1):=by
 have C1:=h.count S
 have kw:=h.bw.cell
 have kf:=h.bw.frozen
 obtain⟨q,N,cap,rfl,hN⟩:=h.mt.row.opened
 have d1:=C1.bs.cell
 have d2:=C1.bl.cell
 have d3:=C1.bm.cell
 have d4:=C1.bd.cell
 have hw:IntKind.i64.wrap ((n:Int)+1)=((n+1:Nat):Int):=by
  have e:(n:Int)+1=((n+1:Nat):Int):=by omega
  rw[e]
  exact IntWalk.i64_in _ (by omega)
 have LA:Hid (Calls Tryz.prog 72 #[ptr s,.int .i64 (j:Int),.int .i64 (slot:Int),.int .u64 (m:Int),.slice q N cap] (w.setCell ⟨W,0,none⟩ (.int .i64 ((n+1:Nat):Int))) fun e w'=>e=.returned (.int .i64 ((SP.lays R g slot j m ((SP.code g xs).getD j [])).1:Int))/\∃ F',SlI F0 w0 W P Q T D slot m (.slice q N cap) us xs s a g F' w' (SP.lays R g slot j m ((SP.code g xs).getD j [])).2 (n+1)):=by
  refine (mlay_yes C1.i h0 C1.mt hl hd hs hm hL).mono ?_
  rintro e w' ⟨rfl,F',i',st⟩
  exact⟨rfl,F',C1.step S i' st⟩
 clear h hN C1 h0 hl hd hs hm hL hn S
 obtain⟨c,hc⟩:∃ c,c=((SP.lays R g slot j m ((SP.code g xs).getD j [])).1:Int):=⟨_,rfl⟩
 rw[<- hc] at LA ⊢
 clear hc
 obtain⟨n1,hn1⟩:∃ n1,n1=n+1:=⟨_,rfl⟩
 rw[<- hn1] at hw d1 d2 d3 d4 LA ⊢
 clear hn1
 go_enter Tryz.func71,Tryz.ntmps71
 go_wp2_with (go_at_call 72;refine LA.out.mono ?_;rintro e w3 ⟨rfl,hp⟩;have HP:Hid (∃ F',SlI F0 w0 W P Q T D slot m (.slice q N cap) us xs s a g F' w3 (SP.lays R g slot j m ((SP.code g xs).getD j [])).2 n1):=hp;clear hp)
 go_ret
 exact⟨rfl,HP.out⟩
theorem mendTo_len (R:AM.Raw) (g:SP.Geo) (slot m:Nat) (E:List (List Nat)):∀ d,(SP.mendTo R g slot m E d).2.L.length<=R.L.length+8 * d
 | 0=>by simp[SP.mendTo]
 | d+1=>by
   have:=mendTo_len R g slot m E d
   unfold SP.mendTo
   split
   ·have:=layTo_len (SP.mendTo R g slot m E d).2 g slot d (CM.secs m (E.getD d []) 8) 8
    unfold SP.lays
    omega
   ·omega
theorem slotM_len (R:AM.Raw) (g:SP.Geo) (slot:Int) (m:Nat) (out:List Nat) (e:Nat):(SP.slotM R g slot m out e).2.L.length<=R.L.length+8 * g.n:=by
 unfold SP.slotM
 split
 ·exact mendTo_len _ _ _ _ _ _
 ·simp
theorem sl_each (h:SlI F0 w0 W P Q T D slot m dv us xs s a g F w R 0) (S:SlS w0 W P Q T D s dv us) (h0:R.off=false) (hl:xs.length=g.k * 448) (hs:slot < g.s) (hm:m ≠ 0) (hL:R.L.length<=980000) :
 Calls Tryz.prog 66 #[ptr s,.int .i64 (slot:Int),.int .u64 (m:Int),.func (.func 71) #[] #[.pointer (some ⟨W,0,none⟩),.pointer (some ⟨P,0,none⟩),.pointer (some ⟨Q,0,none⟩),.pointer (some ⟨T,0,none⟩),.pointer (some ⟨D,0,none⟩)]] w fun e w' =>
  e=.returned (.int .i64 (((SP.mendTo R g slot m (SP.code g xs) g.n).1:Nat):Int))/\∃ F' n',SlI F0 w0 W P Q T D slot m dv us xs s a g F' w' (SP.mendTo R g slot m (SP.code g xs) g.n).2 n'/\((SP.mendTo R g slot m (SP.code g xs) g.n).1=0->n'=(SP.wants R g slot m g.n).length):=by
 have hn:=h.i.ok.n255
 have ok:=h.i.i.ok
 refine (meach_any (g:=g) (a:=a) hs hm enters_sl (fun j=>(SP.mendTo R g slot m (SP.code g xs) j).2)
  (fun j w'=>j<=g.n/\(SP.mendTo R g slot m (SP.code g xs) j).1=0/\∃ F',SlI F0 w0 W P Q T D slot m dv us xs s a g F' w' (SP.mendTo R g slot m (SP.code g xs) j).2 (SP.wants R g slot m j).length)
  (fun j w'=>∃ F' n',SlI F0 w0 W P Q T D slot m dv us xs s a g F' w' (SP.mendTo R g slot m (SP.code g xs) (j+1)).2 n') (fun j=>(SP.mendTo R g slot m (SP.code g xs) (j+1)).1) ?_ ?_ ?_ ?_ ?_).mono ?_
 ·rintro j w' ⟨_,h1,F',t⟩
  exact⟨SP.mendTo_pow h0 j h1,F',t.i⟩
 ·rintro j w1 w2 ⟨hj,h1,F',t⟩ g1
  exact⟨hj,h1,F',t.keep S g1⟩
 ·rintro j w' hj ho ⟨_,h1,F',t⟩
  have ho':R.on (j:Int)=false:=by rw[<- (SP.mendTo_kept R g slot m (SP.code g xs) j).on];exact ho
  have e1:=SP.mendTo_no (E:=SP.code g xs) (SP.want_off (g:=g) (slot:=slot) (m:=m) ho')
  have e2:=SP.wants_succ R g slot m j
  rw[SP.want_off ho'] at e2
  simp only[Bool.false_eq_true,if_false,List.append_nil] at e2
  exact⟨by omega,by rw[e1];exact h1,F',by rw[e1,e2];exact t⟩
 ·rintro j w' hj ho ⟨_,h1,F',t⟩
  have ho':R.on (j:Int)=true:=by rw[<- (SP.mendTo_kept R g slot m (SP.code g xs) j).on];exact ho
  have eh:=SP.mendTo_has ok (g:=g) (slot:=slot) (m:=m) (E:=SP.code g xs) SP.code_small9 h1 (Nat.le_refl j)
  have ew:=SP.want_on (g:=g) (slot:=slot) (m:=m) ho'
  have e2:=SP.wants_succ R g slot m j
  rw[eh]
  cases hb:SP.has R g slot m j
  ·rw[hb] at ew
   have ew':SP.want R g slot m j=true:=ew
   rw[ew'] at e2
   have e1:=SP.mendTo_yes (E:=SP.code g xs) h1 ew'
   have hl1:=SP.wants_len_le R g slot m j
   have hl2:=mendTo_len R g slot m (SP.code g xs) j
   refine (sl_no t S (SP.mendTo_pow h0 j h1) (j:=j) hl hj hs hm (by omega) (by omega)).mono ?_
   rintro e3 w3 ⟨rfl,F3,t3⟩
   rw[<- e1] at t3 ⊢
   refine⟨rfl,?_⟩
   split
   ·rename_i c
    refine⟨by omega,c,F3,?_⟩
    rw[e2]
    simpa using t3
   ·exact⟨F3,_,t3⟩
  ·rw[hb] at ew
   have ew':SP.want R g slot m j=false:=ew
   rw[ew'] at e2
   simp only[Bool.false_eq_true,if_false,List.append_nil] at e2
   have e1:=SP.mendTo_no (E:=SP.code g xs) ew'
   refine (sl_yes j).mono ?_
   rintro e3 w3 ⟨rfl,rfl⟩
   rw[e1,h1]
   refine⟨rfl,?_⟩
   rw[if_pos rfl]
   exact⟨by omega,rfl,F',by rw[e2];exact t⟩
 ·exact⟨by omega,rfl,F,h⟩
 ·rintro e w' (⟨rfl,_,h1,F',t⟩ | ⟨j,hj,hc,rfl,F',n',t⟩)
  ·rw[h1]
   exact⟨rfl,F',_,t,fun _=>rfl⟩
  ·have e1:=SP.mendTo_stop hc g.n (by omega)
   rw[e1]
   exact⟨rfl,F',n',t,fun h=>absurd h hc⟩
end
section
variable {F F':Nat->Prop} {w w':World} {s a:Nat} {g:SP.Geo} {R R':AM.Raw}
theorem rdp_ok {slot:Int} {m:Nat} {out:List Nat} (h:SP.RdP R g slot m out 0):SP.why R g slot=0/\m ≠ 0:=by
 rcases h with ⟨h1,_,h2⟩ | ⟨_,_,_,h2⟩ | ⟨_,_,_,_,h2⟩ | ⟨h1,h2,_⟩
 ·exact absurd h2.symm h1
 ·omega
 ·omega
 ·exact⟨h1,h2⟩
set_option maxHeartbeats 1600000 in
theorem mslot_all (h:SI F w s a g R) (slot:Int) (m:Nat) (hL:R.L.length<=980000) :
 Calls Tryz.prog 21 #[ptr s,.int .i64 slot,.int .u64 (m:Int)] w fun e w'=>∃ out er,SP.RdP R g slot m out er/\e=.returned (.tuple #[.int .i64 ((SP.slotN R g slot m out er:Nat):Int),.int .i64 (((SP.slotM R g slot m out er).1:Nat):Int)])/\∃ F',SI F' w' s a g (SP.slotM R g slot m out er).2/\Step F w F' w':=by
 have G3:Hid (w.grownBy (((w.alloc (.cells #[ptr s] 23)).alloc (.cells #[.int .i64 slot] 3)).alloc (.cells #[.int .u64 (m:Int)] 30)) none):=gb_alloc (gb_alloc (World.grownBy_alloc w _ none) _) _
 have b1:Boxed (((w.alloc (.cells #[ptr s] 23)).alloc (.cells #[.int .i64 slot] 3)).alloc (.cells #[.int .u64 (m:Int)] 30)) w.heap.size 23 (ptr s):=((Boxed.new w _ _).alloc _).alloc _
 have b2:Boxed (((w.alloc (.cells #[ptr s] 23)).alloc (.cells #[.int .i64 slot] 3)).alloc (.cells #[.int .u64 (m:Int)] 30)) (w.heap.size+1) 3 (.int .i64 slot):=by
  have:=(Boxed.new (w.alloc (.cells #[ptr s] 23)) 3 (.int .i64 slot)).alloc (.cells #[.int .u64 (m:Int)] 30)
  rwa [World.size_alloc] at this
 have b3:Boxed (((w.alloc (.cells #[ptr s] 23)).alloc (.cells #[.int .i64 slot] 3)).alloc (.cells #[.int .u64 (m:Int)] 30)) (w.heap.size+1+1) 30 (.int .u64 (m:Int)):=by
  have:=Boxed.new ((w.alloc (.cells #[ptr s] 23)).alloc (.cells #[.int .i64 slot] 3)) 30 (.int .u64 (m:Int))
  rwa [World.size_alloc,World.size_alloc] at this
 have BX:Hid (∀ w',(((w.alloc (.cells #[ptr s] 23)).alloc (.cells #[.int .i64 slot] 3)).alloc (.cells #[.int .u64 (m:Int)] 30)).grownBy w' none->Boxed w' w.heap.size 23 (ptr s)/\Boxed w' (w.heap.size+1) 3 (.int .i64 slot)/\Boxed w' (w.heap.size+1+1) 30 (.int .u64 (m:Int))):=fun w' g'=>⟨b1.kept g' (by simp),b2.kept g' (by simp),b3.kept g' (by simp)⟩
 have H:Hid (SI F w s a g R):=h
 have HL:Hid (R.L.length<=980000):=hL
 have RD:Hid (Calls Tryz.prog 22 #[ptr s,.int .i64 slot,.int .u64 (m:Int)] (((w.alloc (.cells #[ptr s] 23)).alloc (.cells #[.int .i64 slot] 3)).alloc (.cells #[.int .u64 (m:Int)] 30)) fun e w'=>∃ p n c er out,e=.returned (.tuple #[.slice p n c,.int .i64 ((er:Nat):Int)])/\SP.RdP R g slot m out er/\(er=0->out.length=g.k * 448)/\Own w.heap.size w' (.slice p n c) out/\(((w.alloc (.cells #[ptr s] 23)).alloc (.cells #[.int .i64 slot] 3)).alloc (.cells #[.int .u64 (m:Int)] 30)).grownBy w' none):=by
  refine (sread_len (h.keep G3.out) slot m).mono ?_
  rintro e w' ⟨v,er,out,rfl,h1,h2,h3,h4⟩
  obtain⟨p,n,c,rfl,_⟩:=h3.vec.opened
  exact⟨p,n,c,er,out,rfl,h1,h2,h3.down G3.out.size,h4⟩
 clear h hL b1 b2 b3
 go_enter Tryz.func21,Tryz.ntmps21
 go_wp2_with fail
 refine RD.out.mono ?_
 rintro e w1 ⟨p,n,c,er,out,rfl,hr,hlen,ho,g1⟩
 have HR1:Hid (SP.RdP R g slot m out er/\(er=0->out.length=g.k * 448)):=⟨hr,hlen⟩
 have O1:Hid (Own w.heap.size w1 (.slice p n c) out):=ho
 have G1:Hid ((((w.alloc (.cells #[ptr s] 23)).alloc (.cells #[.int .i64 slot] 3)).alloc (.cells #[.int .u64 (m:Int)] 30)).grownBy w1 none):=g1
 clear hr hlen ho g1
 have GW:Hid (w.grownBy w1 none):=grown_trans G3.out G1.out
 have BX1:Hid (∀ w',w1.grownBy w' none->Boxed w' w.heap.size 23 (ptr s)/\Boxed w' (w.heap.size+1) 3 (.int .i64 slot)/\Boxed w' (w.heap.size+1+1) 30 (.int .u64 (m:Int))):=fun w' g'=>BX.out w' (grown_trans G1.out g')
 clear RD BX G3 G1
 by_cases h0:er=0
 ·subst h0
  obtain⟨y,hm⟩:=rdp_ok HR1.out.1
  obtain⟨q0,q1,q2⟩:=SP.why_zero y
  obtain⟨sl,rfl⟩:∃ n:Nat,slot=(n:Int):=⟨slot.toNat,by omega⟩
  have hl:=HR1.out.2 rfl
  have hk1:=H.out.ok.k1
  have hk255:g.k<=255:=by have:=H.out.ok.kn;have:=H.out.ok.n255;omega
  have hnc:n=448 * g.k/\n<=c:=by
   obtain⟨p',cap',e,h3,_⟩:=O1.out.vec.form
   injection e with e1 e2 e3
   exact⟨by rw[e2,hl];omega,by omega⟩
  obtain⟨b,rfl,z1,z2,z3,z4,z5,z6⟩:=O1.out.spot (k:=0) (by rw[hl];omega)
  clear z1 z2 z3 z4 z5 z6
  have CU:Hid (Calls Tryz.prog 70 #[.slice (some ⟨b,0,none⟩) n c] w1 fun e w'=>∃ q N cap,e=.returned (.slice q N cap)/\Out w1.heap.size w' (.slice q N cap) (cutsAt b 0 g.k)/\Mat w' (.slice q N cap) (cutsAt b 0 g.k) (SP.parts out g.k)/\w1.grownBy w' none):=by
   refine (mcut_any O1.out.vec hnc.1 hl (by omega) hk255 hnc.2).mono ?_
   rintro e w' ⟨u,rfl,ou,gu⟩
   have mm:=cuts_mat (O1.out.vec.keep gu) hl ou
   obtain⟨q,N,cap,rfl,_⟩:=mm.row.opened
   exact⟨q,N,cap,rfl,ou,mm,gu⟩
  have HB:Hid (w.heap.size<=b/\b < w1.heap.size):=O1.out.row.lt b rfl
  have HY:Hid (SP.RdP R g (sl:Int) m out 0/\out.length=g.k * 448/\R.off=false/\sl < g.s/\m ≠ 0):=⟨HR1.out.1,hl,q0,by omega,hm⟩
  clear HR1 O1 y hm q0 q1 q2 hl hk1 hk255 hnc
  have e1:SP.slotM R g (sl:Int) m out 0=SP.mendTo R g sl m (SP.code g out) g.n:=by unfold SP.slotM;rw[if_pos rfl,Int.toNat_natCast]
  have HE:Hid (SP.slotN R g (sl:Int) m out 0=if (SP.mendTo R g sl m (SP.code g out) g.n).1=0 then (SP.wants R g sl m g.n).length else 0):=by show _=_;unfold SP.slotN;rw[e1,Int.toNat_natCast]
  have HE1:Hid (SP.slotM R g (sl:Int) m out 0=SP.mendTo R g sl m (SP.code g out) g.n):=e1
  clear e1
  go_wp2_with (first
   | (go_at_call 70;refine CU.out.mono ?_;rintro e w2 ⟨q,N,cap,rfl,o2,m2,g2⟩;have O2:Hid (Out w1.heap.size w2 (.slice q N cap) (cutsAt b 0 g.k)):=o2;have M2:Hid (Mat w2 (.slice q N cap) (cutsAt b 0 g.k) (SP.parts out g.k)):=m2;have G2:Hid (w1.grownBy w2 none):=g2;have GX:Hid (w1.grownBy ((w2.alloc (.cells #[.slice q N cap] 95)).alloc (.cells #[.int .i64 0] 3)) none):=gb_alloc (gb_alloc g2 _) _;have cb:=(BX1.out _ GX.out).1.cell;have cl:=(BX1.out _ GX.out).2.1.cell;have cm:=(BX1.out _ GX.out).2.2.cell;clear o2 m2 g2)
   | fail)
  have S2:SlS w (w2.heap.size+1) w.heap.size (w.heap.size+1) (w.heap.size+1+1) w2.heap.size s (.slice q N cap) (cutsAt b 0 g.k):=by
   have z1:=(BX1.out w2 G2.out).2.2.lt
   have z2:=G2.out.size
   have z3:=GW.out.size
   refine⟨⟨by omega,by omega⟩,⟨by omega,by omega⟩,⟨by omega,by omega⟩,⟨by omega,by omega⟩,fun x hx=>?_,fun j hj x hx=>?_,H.out.lt⟩
   ·have h1:=O2.out.row.lt x hx
    omega
   ·have h1:=HB.out
    have hj2:j < g.k:=by rwa [cutsAt_len] at hj
    rw[show (cutsAt b 0 g.k).getD j undef=.slice (some ⟨b,0+448 * j,none⟩) 448 448 from by simp[cutsAt,List.getD,hj2]] at hx
    have h2:b=x:=by simpa [Value.ownBlock] using hx
    omega
  have T2:SlI F w (w2.heap.size+1) w.heap.size (w.heap.size+1) (w.heap.size+1+1) w2.heap.size sl m (.slice q N cap) (cutsAt b 0 g.k) out s a g F ((w2.alloc (.cells #[.slice q N cap] 95)).alloc (.cells #[.int .i64 0] 3)) R 0:=by
   have bb:=BX1.out _ GX.out
   refine⟨H.out.keep (grown_trans GW.out GX.out),?_,bb.1,bb.2.1,bb.2.2,(Boxed.new w2 _ _).alloc _,M2.out.keep (gb_alloc (World.grownBy_alloc w2 _ none) _),fun x h1 _ hf=>by have:=H.out.i.lt x hf;omega,Step.new (grown_trans GW.out GX.out)⟩
   have:=Boxed.new (w2.alloc (.cells #[.slice q N cap] 95)) 3 (.int .i64 0)
   rwa [World.size_alloc] at this
  have EA:Hid (Calls Tryz.prog 66 #[ptr s,.int .i64 (sl:Int),.int .u64 (m:Int),.func (.func 71) #[] #[.pointer (some ⟨w2.heap.size+1,0,none⟩),.pointer (some ⟨w.heap.size,0,none⟩),.pointer (some ⟨w.heap.size+1,0,none⟩),.pointer (some ⟨w.heap.size+1+1,0,none⟩),.pointer (some ⟨w2.heap.size,0,none⟩)]] ((w2.alloc (.cells #[.slice q N cap] 95)).alloc (.cells #[.int .i64 0] 3)) fun e w' =>
   e=.returned (.int .i64 (((SP.mendTo R g sl m (SP.code g out) g.n).1:Nat):Int))/\∃ F' n',SlI F w (w2.heap.size+1) w.heap.size (w.heap.size+1) (w.heap.size+1+1) w2.heap.size sl m (.slice q N cap) (cutsAt b 0 g.k) out s a g F' w' (SP.mendTo R g sl m (SP.code g out) g.n).2 n'/\((SP.mendTo R g sl m (SP.code g out) g.n).1=0->n'=(SP.wants R g sl m g.n).length)):=sl_each T2 S2 HY.out.2.2.1 HY.out.2.1 HY.out.2.2.2.1 HY.out.2.2.2.2 HL.out
  have HYR:Hid (SP.RdP R g (sl:Int) m out 0):=HY.out.1
  clear S2 T2 CU HB HY O2 M2 BX1 GX GW G2 H HL cb cl cm
  generalize SP.mendTo R g sl m (SP.code g out) g.n=MT at *
  generalize (SP.wants R g sl m g.n).length=WL at *
  obtain⟨c1,R1⟩:=MT
  dsimp only at EA HE
  refine EA.out.mono ?_
  rintro e w5 ⟨rfl,F5,n5,t5,hn5⟩
  have c5:=t5.bw.cell
  have HS5:Hid (SI F5 w5 s a g R1/\Step F w F5 w5):=⟨t5.i,t5.st⟩
  clear t5 EA
  by_cases hc:c1=0
  ·subst hc
   obtain rfl:=hn5 rfl
   clear hn5
   go_wp2
   go_ret2
   exact⟨out,0,HYR.out,by rw[HE.out,HE1.out];first | rfl | (rw[if_pos rfl];rfl),F5,by rw[HE1.out];exact HS5.out.1,HS5.out.2⟩
  ·have hne:((c1:Int) != 0)=true:=neb_yes (b:=0) hc
   have HC:Hid (¬ c1=0):=hc
   clear hn5 c5 hc
   go_wp2
   go_ret2
   exact⟨out,0,HYR.out,by rw[HE.out,HE1.out];first | (rw[if_neg HC.out];rfl) | rfl,F5,by rw[HE1.out];exact HS5.out.1,HS5.out.2⟩
 ·have hne:((er:Int) != 0)=true:=neb_yes (b:=0) h0
  have e1:SP.slotM R g slot m out er=(er,R):=by unfold SP.slotM;rw[if_neg h0]
  have e2:SP.slotN R g slot m out er=0:=by unfold SP.slotN;rw[e1,if_neg h0]
  have HE:Hid (SP.slotM R g slot m out er=(er,R)/\SP.slotN R g slot m out er=0):=⟨e1,e2⟩
  clear h0 e1 e2 BX1 O1
  go_wp2
  go_ret2
  exact⟨out,er,HR1.out.1,by rw[HE.out.1,HE.out.2];rfl,F,by rw[HE.out.1];exact H.out.keep GW.out,Step.new GW.out⟩
end
end Go.Proofs.YtaalagkbpeinkaaGreat
