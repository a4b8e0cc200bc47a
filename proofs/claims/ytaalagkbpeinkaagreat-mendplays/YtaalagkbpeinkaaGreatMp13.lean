/- Packed: RCopy6, RCr6, Awake6. -/
import Derived.Test.YtaalagkbpeinkaaGreatMp12
set_option linter.unusedSimpArgs false
set_option linter.unusedVariables false
set_option maxRecDepth 100000
namespace Go.Proofs.YtaalagkbpeinkaaGreat
open Go.RowKit
structure Mk (w0 w:World) (b3 k:Nat) (v:Value) (vs:List Value) (bs:List (List Nat)) (gone:Bool):Prop where
 grown:w0.grownBy w none
 lo3:w0.heap.size<=b3
 top:w.heap[b3]?=some (.cells #[v,.bool gone] 124 (0,0))
 row:w.ownsRow w0.heap.size 31 1 v k vs
 len:bs.length=k
 own:∀ (i:Nat) (u:Value) (b:List Nat),vs[i]?=some u->bs[i]?=some b->Own w0.heap.size w u b
section
variable {w0 w:World} {b3 k:Nat} {v:Value} {vs:List Value} {bs:List (List Nat)} {gone:Bool}
theorem Mk.next (h:Mk w0 w b3 k v vs bs gone) {w1:World} (g1:w.grownBy w1 none) {u:Value} {b:List Nat} (hu:Own w0.heap.size w1 u b) {v':Value} {w5:World} (hr:w5.ownsRow w0.heap.size 31 1 v' (k+1) (vs++[u])) (g5:w1.grownBy w5 v.ownBlock) :
 Mk w0 (w5.setCell ⟨b3,0,none⟩ v') b3 (k+1) v' (vs++[u]) (bs++[b]) gone/\w5.cell? ⟨b3,0,none⟩=some v/\w5.frozen? ⟨b3,0,none⟩=false:=by
 have l3:b3 < w.heap.size:=(Array.getElem?_eq_some_iff.1 h.top).1
 have hty:∀ (i:Nat) (c:Array Value) (t:TypeId),w.heap[i]?=some (.cells c t (0,0))->t ≠ 31->w5.heap[i]?=w.heap[i]?:=fun i c t hi ht=>by
  have hlt:=(Array.getElem?_eq_some_iff.1 hi).1
  rw[g5.block i (Nat.lt_of_lt_of_le hlt g1.size) (fun e=>by
   obtain⟨_,_,c',hc'⟩:=rows_blk h.row e.symm
   exact ne_ty hi hc' ht rfl),g1.block i hlt (by simp)]
 have t5:=(hty b3 _ _ h.top (by decide)).trans h.top
 have g05:w0.grownBy w5 none:=grown_new (grown_trans h.grown g1) g5 (fun i e=>(rows_blk h.row e).1)
 have hs:∀ i,i ≠ b3->(w5.setCell ⟨b3,0,none⟩ v').heap[i]?=w5.heap[i]?:=fun i hi=>Below.heap_setCell _ _ _ _ hi
 refine⟨⟨gb_setCell g05 h.lo3 _,h.lo3,by rw[heap_setCell_same _ _ _ _ _ _ t5];rfl,ownsRow_same hr (fun g hg=>?_),by simp[h.len],fun i x y hx hy=>?_⟩,topCell (j:=0) t5 rfl,topFrozen 0 t5⟩
 ·obtain⟨_,_,c,hc⟩:=rows_blk hr hg
  exact hs g (ne_ty hc t5 (by decide))
 ·have hvl:vs.length=k:=by have:=h.row.1;omega
  by_cases c:i < k
  ·rw[List.getElem?_append_left (by omega)] at hx
   rw[List.getElem?_append_left (by rw[h.len];exact c)] at hy
   have q:=h.own i x y hx hy
   refine q.sameB (fun g hg=>?_)
   obtain⟨_,_,c,hc⟩:=rows_blk q.row hg
   have e:=hty g _ _ hc (by decide)
   rw[hs g (ne_ty (e.trans hc) t5 (by decide)),e]
  ·have hi:i=k:=by
    have:=(List.getElem?_eq_some_iff.1 hx).1
    simp at this
    omega
   subst hi
   rw[<- hvl,List.getElem?_append_right (Nat.le_refl _),Nat.sub_self] at hx
   rw[<- h.len,List.getElem?_append_right (Nat.le_refl _),Nat.sub_self] at hy
   obtain rfl:=Option.some.inj hx
   obtain rfl:=Option.some.inj hy
   refine hu.sameB (fun g hg=>?_)
   obtain⟨_,hlt,c,hc⟩:=rows_blk hu.row hg
   have e:w5.heap[g]?=w1.heap[g]?:=g5.block g hlt (fun e=>by
    obtain⟨_,_,c',hc'⟩:=rows_blk h.row e.symm
    have hc2:=(g1.block g (by obtain⟨_,l,_⟩:=rows_blk h.row e.symm;exact l) (by simp)).trans hc'
    exact ne_ty hc hc2 (by decide) rfl)
   rw[hs g (ne_ty (e.trans hc) t5 (by decide)),e]
end
def cpTo (A:AM.RA) (i:Nat):AM.RA:=⟨A.D.take i,A.n,[],A.left,A.dark⟩
def cfTo (A:AM.RA) (j:Nat):AM.RA:=⟨A.D,A.n,A.L.take j,A.left,A.dark⟩
theorem cpTo_len {A:AM.RA} {i:Nat} (h:i<=A.D.length):(cpTo A i).D.length=i:=by simp[cpTo];omega
theorem cfTo_len {A:AM.RA} {j:Nat} (h:j<=A.L.length):(cfTo A j).L.length=j:=by simp[cfTo];omega
theorem cpTo_step {A:AM.RA} {i:Nat} (h:i < A.D.length):({ cpTo A i with D:=(cpTo A i).D++[A.D[i]] }:AM.RA)=cpTo A (i+1):=by
 simp only[cpTo]
 rw[<- List.take_succ_eq_append_getElem h]
theorem cfTo_step {A:AM.RA} {j:Nat} (h:j < A.L.length):(cfTo A j).fly A.L[j].d A.L[j].k A.L[j].b=cfTo A (j+1):=by
 simp only[cfTo,AM.RA.fly]
 rw[List.take_succ_eq_append_getElem h]
theorem cpTo_all (A:AM.RA):cpTo A A.D.length=cfTo A 0:=by simp[cpTo,cfTo]
theorem cfTo_all (A:AM.RA):cfTo A A.L.length=A:=by simp[cfTo]
section
variable {G:Nat->Prop} {w:World} {r:Nat} {A:AM.RA}
theorem RL.dcell {dp:Option Addr} {dc:Nat} {ds:List Value} {lp:Option Addr} {lc:Nat} {fs:List Value} (h:RL G w r dp dc ds lp lc fs A) {i:Nat} (hi:i < A.D.length):∃ (dg:Nat) (ps:Option Addr) (cs:Nat),dp=some ⟨dg,0,none⟩/\w.cell? ⟨dg,i * 2,none⟩=some (.slice ps ((A.D[i]'hi).getD []).length cs)/\w.cell? ⟨dg,i * 2+1,none⟩=some (.bool (A.D[i]'hi).isNone)/\((A.D[i]'hi).getD []).length<=4096/\(∀ ss,A.D[i]'hi=some ss->ss.length=A.n) /\
 ∀ k (hk:k < ((A.D[i]'hi).getD []).length),∃ (sg:Nat) (pu:Option Addr) (nu mu:Nat),ps=some ⟨sg,0,none⟩/\w.cell? ⟨sg,k,none⟩=some (.slice pu nu mu)/\Vec w (.slice pu nu mu) (((A.D[i]'hi).getD [])[k]'hk):=by
 obtain⟨dg,v,e,hv,e0,e1,_⟩:=h.disk hi
 have hDi:A.D[i]?=some (A.D[i]'hi):=List.getElem?_eq_getElem hi
 rcases h.sec i v hv with ⟨h1,rfl⟩ | ⟨ss,vs,h1,h2,h3,h4⟩
 ·have hn:A.D[i]'hi=none:=by rw[hDi] at h1;exact Option.some.inj h1
  refine⟨dg,none,0,e,by rw[hn];exact e0,e1,by rw[hn];simp,fun ss hs=>(by rw[hn] at hs;cases hs),fun k hk=>?_⟩
  exfalso
  rw[hn] at hk
  simp at hk
 ·have hn:A.D[i]'hi=some ss:=by rw[hDi] at h1;exact Option.some.inj h1
  obtain⟨p,c,rfl⟩:=rows_slice h2
  have hg:(A.D[i]'hi).getD []=ss:=by rw[hn];rfl
  refine⟨dg,p,c,e,by rw[hg,h3];exact e0,e1,by rw[hg,h3];exact h.n2,fun s hs=>(by rw[hn] at hs;obtain rfl:=Option.some.inj hs;exact h3),fun k hk=>?_⟩
  have hkn:k < A.n:=by rw[hg,h3] at hk;exact hk
  obtain⟨g,rfl,cur,hgc,hc⟩:=rows_at h2 (by omega)
  have hvl:vs.length=A.n:=by have:=h2.1;omega
  have hu:vs[k]?=some (vs[k]'(by omega)):=List.getElem?_eq_getElem (by omega)
  have hb:ss[k]?=some (((A.D[i]'hi).getD [])[k]'hk):=by
   have:k < ss.length:=by omega
   rw[List.getElem?_eq_getElem this]
   congr 1
   simp only[hg]
  have ho:=(h4 k _ _ hu hb).1
  obtain⟨pu,nu,mu,e2,_⟩:=ho.vec.opened
  rw[e2] at hu ho
  exact⟨g,pu,nu,mu,rfl,hc k _ hu,ho.vec⟩
set_option maxRecDepth 100000 in
set_option maxHeartbeats 3200000 in
theorem rcopy_yes (h:RIs G w r A) (hL:A.L.length<=1000000):Calls Tryz.prog 50 #[rptr r] w fun e w'=>∃ r2,e=.returned (rptr r2)/\∃ G2,RIs G2 w' r2 A/\Base w G2 w':=by
 obtain⟨dp,dc,ds,lp,lc,fs,h⟩:=h
 obtain⟨z0,z1,z2,z3,z4⟩:=h.topCells
 have hN2:=h.d2
 obtain⟨N,hN⟩:∃ N,N=A.D.length:=⟨_,rfl⟩
 obtain⟨M,hM⟩:∃ M,M=A.L.length:=⟨_,rfl⟩
 have HNM:Hid (N=A.D.length/\M=A.L.length):=⟨hN,hM⟩
 rw[<- hN] at z0 hN2
 rw[<- hM] at z2 hL
 have HL:Hid (RL G w r dp dc ds lp lc fs A):=h
 have HC0:Hid (∀ W,w.grownBy W none->W.cell? ⟨r,0,none⟩=some (.slice dp N dc)):=fun W g=>g.cell z0 (by simp)
 have HC2:Hid (∀ W,w.grownBy W none->W.cell? ⟨r,2,none⟩=some (.slice lp M lc)):=fun W g=>g.cell z2 (by simp)
 have HS:Hid (∀ W,w.grownBy W none->W.cell? ⟨r,1,none⟩=some (.int .i64 (A.n:Int))/\W.cell? ⟨r,3,none⟩=some (.int .i64 (A.left:Int))/\W.cell? ⟨r,4,none⟩=some (.bool A.dark)):=fun W g=>⟨g.cell z1 (by simp),g.cell z3 (by simp),g.cell z4 (by simp)⟩
 have G0:Hid (w.grownBy ((w.alloc (.cells #[.slice none 0 0,.int .i64 (A.n:Int),.slice none 0 0,.int .i64 (A.left:Int),.bool A.dark] 86)).drew) none):=gb_drew (gb_alloc (World.grownBy.refl _ _) _)
 have H0:Hid (∃ G,RIs G ((w.alloc (.cells #[.slice none 0 0,.int .i64 (A.n:Int),.slice none 0 0,.int .i64 (A.left:Int),.bool A.dark] 86)).drew) w.heap.size (cpTo A 0)/\Base w G ((w.alloc (.cells #[.slice none 0 0,.int .i64 (A.n:Int),.slice none 0 0,.int .i64 (A.left:Int),.bool A.dark] 86)).drew)) :=
  ⟨fun i=>i=w.heap.size,⟨none,0,[],none,0,[],fun i hi=>(by subst hi;simp),heap_alloc_new w _,World.ownsRow_nil _ _ _ _,rfl,fun i v hv=>(by simp at hv),World.ownsRow_nil _ _ _ _,rfl,fun i u x hu=>(by simp at hu),rfl,fun g hg=>(by cases hg),fun i v hv=>(by simp at hv),fun g hg=>(by cases hg),fun i j u v hu=>(by simp at hu),h.left,h.n2,(by simp[cpTo])⟩,G0.out,fun i hi=>by omega⟩
 clear h z0 z1 z2 z3 z4 hN hM
 go_enter Tryz.func50,Tryz.ntmps50
 go_wp2_with fail
 go_region_held3 (fun w'=>w'.cell? ⟨r,1,none⟩=some (.int .i64 (A.n:Int))/\w'.cell? ⟨r,3,none⟩=some (.int .i64 (A.left:Int))/\w'.cell? ⟨r,4,none⟩=some (.bool A.dark)) (first | exact HS.out _ (grown_drewN _ 1) | exact HS.out _ G0.out) (fail)
 go_wp2_with fail
 clear HS
 generalize (w.alloc (.cells #[.slice none 0 0,.int .i64 (A.n:Int),.slice none 0 0,.int .i64 (A.left:Int),.bool A.dark] 86)).drew=W0 at *
 obtain⟨r2,hr2⟩:∃ r2,r2=w.heap.size:=⟨_,rfl⟩
 rw[<- hr2] at H0 ⊢
 clear hr2 G0
 go_loopw [4] (fun ti wr=>∃ i:Nat,i<=N/\ti=.int .i64 (i:Int)/\Hid (∃ G,RIs G wr r2 (cpTo A i)/\Base w G wr)) (fun ti _=>N - (intOf ti).toNat)
 case atStart=>exact⟨0,by omega,rfl,H0.out⟩
 case round =>
  clear H0
  obtain⟨i,hi,rfl,HX⟩:=hrel
  by_cases hlt:i < N
  ·have i1:(i:Int) < (N:Int):=by omega
   have hil:i < A.D.length:=by rw[<- HNM.out.1];exact hlt
   obtain⟨G2,⟨dp2,dc2,ds2,lp2,lc2,fs2,hrl⟩,hb⟩:=HX.out
   have HB:Hid (Base w G2 wr):=hb
   have HRL:Hid (RL G2 wr r2 dp2 dc2 ds2 lp2 lc2 fs2 (cpTo A i)):=hrl
   obtain⟨dg,ps,cs,rfl,x0,x1,hK4,hKn,hsec⟩:=(HL.out.keep hb.grown).dcell hil
   obtain⟨ss,hss⟩:∃ ss,ss=(A.D[i]'hil).getD []:=⟨_,rfl⟩
   obtain⟨gone,hgone⟩:∃ gone,gone=(A.D[i]'hil).isNone:=⟨_,rfl⟩
   obtain⟨K,hK⟩:∃ K,K=ss.length:=⟨_,rfl⟩
   have HO:Hid (ss=(A.D[i]'hil).getD []/\gone=(A.D[i]'hil).isNone/\K=ss.length/\K<=4096/\∀ s,A.D[i]'hil=some s->s.length=A.n):=⟨hss,hgone,hK,by rw[hK,hss];exact hK4,hKn⟩
   have d0:wr.cell? ⟨dg,i * 2,none⟩=some (.slice ps K cs):=by rw[hK,hss];exact x0
   have d1:wr.cell? ⟨dg,i * 2+1,none⟩=some (.bool gone):=by rw[hgone];exact x1
   have HSEC:Hid (∀ k (hk:k < ss.length),∃ (sg:Nat) (pu:Option Addr) (nu mu:Nat),ps=some ⟨sg,0,none⟩/\wr.cell? ⟨sg,k,none⟩=some (.slice pu nu mu)/\Vec wr (.slice pu nu mu) (ss[k]'hk)):=by
    subst hss
    exact hsec
   have c0:=HC0.out wr hb.grown
   have HC0':Hid (∀ W,wr.grownBy W none->W.cell? ⟨r,0,none⟩=some (.slice (some ⟨dg,0,none⟩) N dc)/\W.cell? ⟨dg,i * 2,none⟩=some (.slice ps K cs)):=fun W g=>⟨g.cell c0 (by simp),g.cell d0 (by simp)⟩
   clear hrl hb x0 x1 hK4 hKn hsec hss hgone hK HX
   go_wp2_with fail
   clear d0 d1
   have H1:Hid (∃ p c vs,Mk wr (wr.alloc (.cells #[.slice none 0 0,.bool gone] 124)) wr.heap.size 0 (.slice p 0 c) vs (ss.take 0) gone/\(0=0->p=none/\c=0)):=⟨none,0,[],⟨World.grownBy_alloc _ _ none,Nat.le_refl _,heap_alloc_new wr _,World.ownsRow_nil _ _ _ _,by simp,fun i u b hu=>by simp at hu⟩,fun _=>⟨rfl,rfl⟩⟩
   generalize wr.alloc (.cells #[.slice none 0 0,.bool gone] 124)=W1 at *
   obtain⟨b5,hb5⟩:∃ b5,b5=wr.heap.size:=⟨_,rfl⟩
   rw[<- hb5] at H1 ⊢
   clear hb5
   obtain⟨wa,hwa⟩:∃ wa,wa=wr:=⟨wr,rfl⟩
   subst hwa
   go_loopw [6] (fun tk wr=>∃ k:Nat,k<=K/\tk=.int .i64 (k:Int)/\Hid (∃ p c vs,Mk wa wr b5 k (.slice p k c) vs (ss.take k) gone/\(k=0->p=none/\c=0))) (fun tk _=>K - (intOf tk).toNat)
   case atStart=>exact⟨0,by omega,rfl,H1.out⟩
   case round =>
    clear H1
    obtain⟨k,hk,rfl,HY⟩:=hrel
    obtain⟨p,c,vs,hm,hp0⟩:=HY.out
    have HM:Hid (Mk wa wr b5 k (.slice p k c) vs (ss.take k) gone):=hm
    obtain⟨y0,y1⟩:=HC0'.out wr hm.grown
    by_cases hlt2:k < K
    ·have i2:(k:Int) < (K:Int):=by omega
     have hkl:k < ss.length:=by rw[<- HO.out.2.2.1];exact hlt2
     have hK4:=HO.out.2.2.2.1
     obtain⟨sg,pu,nu,mu,rfl,cu,hvu⟩:=HSEC.out k hkl
     obtain⟨bk,hbk⟩:∃ bk,bk=ss[k]'hkl:=⟨_,rfl⟩
     rw[<- hbk] at hvu
     have HTK:Hid (ss.take (k+1)=ss.take k++[bk]):=by show _=_;rw[hbk];exact List.take_succ_eq_append_getElem hkl
     have HVU:Hid (∀ W,wr.grownBy W none->Vec W (.slice pu nu mu) bk):=fun W g=>(hvu.keep hm.grown).keep g
     have x5:wr.cell? ⟨b5,0,none⟩=some (.slice p k c):=topCell (j:=0) hm.top rfl
     have HCK:Hid (∀ W,wr.grownBy W none->W.cell? ⟨b5,0,none⟩=some (.slice p k c)/\W.cell? ⟨r,0,none⟩=some (.slice (some ⟨dg,0,none⟩) N dc)/\W.cell? ⟨dg,i * 2,none⟩=some (.slice (some ⟨sg,0,none⟩) K cs)/\W.cell? ⟨sg,k,none⟩=some (.slice pu nu mu)):=fun W g=>⟨g.cell x5 (by simp),g.cell y0 (by simp),g.cell y1 (by simp),(grown_trans hm.grown g).cell cu (by simp)⟩
     have HRW:Hid (∀ W,wr.grownBy W none->W.ownsRow wa.heap.size 31 1 (.slice p k c) k vs):=fun W g=>ownsRow_same hm.row (fun b hb=>g.block b (rows_blk hm.row hb).2.1 (by simp))
     have HCS:Hid (∀ (w5 w1:World),wr.grownBy w1 none->w1.grownBy w5 (Value.slice p k c).ownBlock->w5.cell? ⟨r,0,none⟩=some (.slice (some ⟨dg,0,none⟩) N dc)/\w5.cell? ⟨dg,i * 2,none⟩=some (.slice (some ⟨sg,0,none⟩) K cs)/\w5.cell? ⟨sg,k,none⟩=some (.slice pu nu mu)):=fun w5 w1 g9 g5=>by
      have gq:wa.grownBy w5 none:=grown_new (grown_trans hm.grown g9) g5 (fun i e=>(rows_blk hm.row e).1)
      exact⟨(HC0'.out w5 gq).1,(HC0'.out w5 gq).2,gq.cell cu (by simp)⟩
     have HK:Hid (k+1<=4096):=by show _<=_;omega
     clear hm hp0 HY cu hvu hbk hkl
     go_wp2_with fail
     clear x5 y0 y1
     refine region_late (S:=(fun w'=>w'.cell? ⟨b5,0,none⟩=some (.slice p k c)/\w'.cell? ⟨r,0,none⟩=some (.slice (some ⟨dg,0,none⟩) N dc)/\w'.cell? ⟨dg,i * 2,none⟩=some (.slice (some ⟨sg,0,none⟩) K cs)/\w'.cell? ⟨sg,k,none⟩=some (.slice pu nu mu))) (by simp only[List.pop_toArray,List.dropLast];exact rfl) (by rfl) (by kernel_rfl) (by kernel_rfl) ?_ (fun hHeld=>?_)
     ·exact HCK.out _ (grown_drewN _ 1)
     refine wpAnyH_take (i:=0) (v:=?_) rfl (by kernel_rfl) (by kernel_rfl) (by kernel_rfl) (fun _ _ _ h=>h) (Or.inl ⟨by rfl,?_⟩) (by assumption) ?_
     rotate_left
     ·intro w hSw;(try dsimp only at hSw);first | (go_simp;done) | (go_simp;with_reducible rfl)
     simp only[Act.put,lay9]
     refine wpAnyH_take (i:=1) (v:=?_) rfl (by kernel_rfl) (by kernel_rfl) (by kernel_rfl) (fun _ _ _ h=>h) (Or.inl ⟨by rfl,?_⟩) (by assumption) ?_
     rotate_left
     ·intro w hSw;(try dsimp only at hSw);first | (go_simp;done) | (go_simp;with_reducible rfl)
     simp only[Act.put,lay9]
     refine wpAnyH_take (i:=2) (v:=?_) rfl (by kernel_rfl) (by kernel_rfl) (by kernel_rfl) (fun _ _ _ h=>h) (Or.inl ⟨by rfl,?_⟩) (by assumption) ?_
     rotate_left
     ·intro w hSw;(try dsimp only at hSw);first | (go_simp;done) | (go_simp;with_reducible rfl)
     simp only[Act.put,lay9]
     refine wpAnyH_take (i:=3) (v:=?_) rfl (by kernel_rfl) (by kernel_rfl) (by kernel_rfl) (fun _ _ _ h=>h) (Or.inl ⟨by rfl,?_⟩) (by assumption) ?_
     rotate_left
     ·intro w hSw;(try dsimp only at hSw);first | (go_simp;done) | (go_simp;with_reducible rfl)
     simp only[Act.put,lay9]
     refine wpAnyH_take (i:=4) (v:=?_) rfl (by kernel_rfl) (by kernel_rfl) (by kernel_rfl) (fun _ _ _ h=>h) (Or.inl ⟨by rfl,?_⟩) (by assumption) ?_
     rotate_left
     ·intro w hSw;(try dsimp only at hSw);first | (go_simp;done) | (go_simp;with_reducible rfl)
     simp only[Act.put,lay9]
     refine wpAnyH_take (i:=5) (v:=?_) rfl (by kernel_rfl) (by kernel_rfl) (by kernel_rfl) (fun _ _ _ h=>h) (Or.inl ⟨by rfl,?_⟩) (by assumption) ?_
     rotate_left
     ·intro w hSw;(try dsimp only at hSw);first | (go_simp;done) | (go_simp;with_reducible rfl)
     simp only[Act.put,lay9]
     refine wpAnyH_take (i:=6) (v:=?_) rfl (by kernel_rfl) (by kernel_rfl) (by kernel_rfl) (fun _ _ _ h=>h) (Or.inl ⟨by rfl,?_⟩) (by assumption) ?_
     rotate_left
     ·intro w hSw;(try dsimp only at hSw);first | (go_simp;done) | (go_simp;with_reducible rfl)
     simp only[Act.put,lay9]
     refine wpAnyH_take (i:=7) (v:=?_) rfl (by kernel_rfl) (by kernel_rfl) (by kernel_rfl) (fun _ _ _ h=>h) (Or.inl ⟨by rfl,?_⟩) (by assumption) ?_
     rotate_left
     ·intro w hSw;(try dsimp only at hSw);first | (go_simp;done) | (go_simp;with_reducible rfl)
     simp only[Act.put,lay9]
     refine wpAnyH_take (i:=8) (v:=?_) rfl (by kernel_rfl) (by kernel_rfl) (by kernel_rfl) (fun _ _ _ h=>h) (Or.inl ⟨by rfl,?_⟩) (by assumption) ?_
     rotate_left
     ·intro w hSw;(try dsimp only at hSw);first | (go_simp;done) | (go_simp;with_reducible rfl)
     simp only[Act.put,lay9]
     refine wpAnyH_take (i:=9) (v:=?_) rfl (by kernel_rfl) (by kernel_rfl) (by kernel_rfl) (fun _ _ _ h=>h) (Or.inl ⟨by rfl,?_⟩) (by assumption) ?_
     rotate_left
     ·intro w hSw;(try dsimp only at hSw);first | (go_simp;done) | (go_simp;with_reducible rfl)
     simp only[Act.put,lay9]
     refine wpAnyH_take (i:=10) (v:=?_) rfl (by kernel_rfl) (by kernel_rfl) (by kernel_rfl) (fun _ _ _ h=>h) (Or.inl ⟨by rfl,?_⟩) (by assumption) ?_
     rotate_left
     ·intro w hSw;(try dsimp only at hSw);first | (go_simp;done) | (go_simp;with_reducible rfl)
     simp only[Act.put,lay9]
     refine wpAnyH_take (i:=11) (v:=?_) rfl (by kernel_rfl) (by kernel_rfl) (by kernel_rfl) (fun _ _ _ h=>h) (Or.inl ⟨by rfl,?_⟩) (by assumption) ?_
     rotate_left
     ·intro w hSw;(try dsimp only at hSw);first | (go_simp;done) | (go_simp;with_reducible rfl)
     simp only[Act.put,lay9]
     refine wpAnyH_take (i:=12) (v:=?_) rfl (by kernel_rfl) (by kernel_rfl) (by kernel_rfl) (fun _ _ _ h=>h) (Or.inl ⟨by rfl,?_⟩) (by assumption) ?_
     rotate_left
     ·intro w hSw;(try dsimp only at hSw);first | (go_simp;done) | (go_simp;with_reducible rfl)
     simp only[Act.put,lay9]
     refine wpAnyH_ready (rs:=[13]) (by kernel_rfl) (by simp) ?_
     refine AllReadyH.cons rfl (fun K hK=>?_) AllReadyH.nil
     go_simp
     refine (own_any (HVU.out _ (grown_drewN _ 1))).mono ?_
     rintro e w8 ⟨p8,n8,c8,rfl,ho8,hg8⟩
     have G8:Hid (wr.grownBy w8 none):=grown_trans (grown_drewN _ 1) hg8
     have HO8:Hid (Own wr.heap.size w8 (.slice p8 n8 c8) bk):=ho8
     have G9:Hid (wr.grownBy (w8.alloc (.cells #[.slice p8 n8 c8] 31)) none):=gb_alloc G8.out _
     clear ho8 hg8
     refine hK.out _ _ (HCK.out _ G8.out) (fun hHeld=>?_)
     clear hK K
     (try simp only[Act.put,lay9])
     refine wpAnyH_ready (rs:=[14]) (by kernel_rfl) (by simp) ?_
     refine AllReadyH.cons rfl (fun K hK=>?_) AllReadyH.nil
     go_simp
     refine hK.out _ _ (HCK.out _ G9.out) (fun hHeld=>?_)
     clear hK K
     (try simp only[Act.put,lay9])
     refine wpAnyH_ready (rs:=[15]) (by kernel_rfl) (by simp) ?_
     refine AllReadyH.cons rfl (fun K hK=>?_) AllReadyH.nil
     refine step_append_rows (by rfl) _ _ (by rfl) Tryz.underlying95 Tryz.infoBys rfl (by decide) (by rfl) (by rfl) (HRW.out _ G9.out) (news:=[.slice p8 n8 c8]) rfl (fun j u hj=>by rw[add_at,Nat.zero_add];exact topCell (heap_alloc_new w8 _) (by simpa using hj)) (by intro u hu;simp at hu;subst hu;rfl) (by have:=HK.out;unfold maxLen;omega) (by have:=HK.out;omega) (Nat.le_trans HM.out.grown.size G9.out.size) ?_
     intro v5 w5 o5 g5
     obtain⟨q1,q2,q3⟩:=HM.out.next G9.out ((HO8.out.keep (World.grownBy_alloc _ _ none)).down HM.out.grown.size) o5 g5
     obtain⟨p5,c5,rfl⟩:=rows_slice o5
     have q4:wr.grownBy w5 none\/True:=.inr trivial
     have q2':=HCS.out w5 _ G9.out g5
     have HN:Hid (∃ p c vs,Mk wa (w5.setCell ⟨b5,0,none⟩ (.slice p5 (k+1) c5)) b5 (k+1) (.slice p (k+1) c) vs (ss.take (k+1)) gone/\(k+1=0->p=none/\c=0)):=⟨p5,c5,_,by rw[HTK.out];exact q1,by omega⟩
     clear q1 q4 o5 g5
     refine hK.out _ _ (⟨q2,q2'⟩) (fun hHeld=>?_)
     clear hK K
     (try simp only[Act.put,lay9])
     refine wpAnyH_take (i:=16) (v:=?_) rfl (by kernel_rfl) (by kernel_rfl) (by kernel_rfl) (fun _ _ _ h=>h) (Or.inl ⟨by rfl,?_⟩) (by assumption) ?_
     rotate_left
     ·intro w hSw;(try dsimp only at hSw);first | (go_simp;done) | (go_simp;with_reducible rfl)
     simp only[Act.put,lay9]
     refine wpAnyH_done (by kernel_rfl) ?_ _
     refine lastQ_normal ?_
     go_wp2
     go_roundw
     case rel=>exact⟨k+1,by omega,by go_num,HN⟩
     case measure=>simp[intOf];omega
    ·have i2:¬ (k:Int) < (K:Int):=by omega
     obtain rfl:k=K:=by omega
     go_wp2_with fail
     clear y0 y1
     have hrl:=HRL.out
     have hD:(cpTo A i).D.length=i:=cpTo_len (by omega)
     have t2:=(hrl.keep hm.grown).topCells.1
     rw[hD] at t2
     have x5:wr.cell? ⟨b5,0,none⟩=some (.slice p k c):=topCell (j:=0) hm.top rfl
     have x6:wr.cell? ⟨b5,1,none⟩=some (.bool gone):=topCell (j:=1) hm.top rfl
     have HCK:Hid (∀ W,wr.grownBy W none->W.cell? ⟨r2,0,none⟩=some (.slice dp2 i dc2)/\W.cell? ⟨b5,0,none⟩=some (.slice p k c)/\W.cell? ⟨b5,1,none⟩=some (.bool gone)):=fun W g=>⟨g.cell t2 (by simp),g.cell x5 (by simp),g.cell x6 (by simp)⟩
     have G9:Hid (wr.grownBy (wr.drew.alloc (.cells #[.slice p k c,.bool gone] 124)) none):=gb_alloc (grown_drewN _ 1) _
     have hlit:=lit_dsk wr.drew p k c gone
     have HI:Hid (i+1<=255):=by show _<=_;omega
     have HDS:Hid (∀ W,wr.grownBy W none->W.ownsRow 0 124 2 (.slice dp2 i dc2) i (drow ds2 (cpTo A i).D)):=fun W g=>by
      have:=(hrl.keep (grown_trans hm.grown g)).dsk
      rw[hD] at this
      exact this
     have HGR:Hid (∀ (dg5 cap5:Nat) (w5:World),w5.ownsRow 0 124 2 (.slice (some ⟨dg5,0,none⟩) (i+1) cap5) (i+1) (drow ds2 (cpTo A i).D++[.slice p k c,.bool gone])->(wr.drew.alloc (.cells #[.slice p k c,.bool gone] 124)).grownBy w5 (Value.slice dp2 i dc2).ownBlock->((Value.slice dp2 i dc2).ownBlock=some dg5\/dg5=(wr.drew.alloc (.cells #[.slice p k c,.bool gone] 124)).heap.size) ->
      w5.cell? ⟨r2,0,none⟩=some (.slice dp2 i dc2)/\w5.frozen? ⟨r2,0,none⟩=false/\∃ G,RIs G (w5.setCell ⟨r2,0,none⟩ (.slice (some ⟨dg5,0,none⟩) (i+1) cap5)) r2 (cpTo A (i+1))/\Base w G (w5.setCell ⟨r2,0,none⟩ (.slice (some ⟨dg5,0,none⟩) (i+1) cap5))):=fun dg5 cap5 w5 o5 g5 hw5=>by
      have g1:wa.grownBy (wr.drew.alloc (.cells #[.slice p k c,.bool gone] 124)) none:=grown_trans hm.grown G9.out
      have hgn:gone=(A.D[i]'hil).isNone:=HO.out.2.1
      have e0:(cpTo A i).D++[A.D[i]'hil]=(cpTo A (i+1)).D:=congrArg AM.RA.D (cpTo_step hil)
      obtain⟨k1,k2,G',k3,k4⟩:=hrl.grew (dg:=dg5) (cap:=cap5) (w5:=w5) (w1:=wr.drew.alloc (.cells #[.slice p k c,.bool gone] 124)) g1 (v:=.slice p k c) (o:=A.D[i]'hil) (by
       cases hq:A.D[i]'hil with
       | none =>
         refine .inl ⟨rfl,?_⟩
         have hk0:k=0:=by rw[HO.out.2.2.1,HO.out.1,hq];rfl
         obtain⟨rfl,rfl⟩:=hp0 hk0
         rw[hk0]
       | some s =>
         have hs:ss=s:=by rw[HO.out.1,hq];rfl
         have hkn:k=A.n:=by rw[HO.out.2.2.1,hs];exact HO.out.2.2.2.2 s hq
         have hr9:=ownsRow_same (w':=wr.drew.alloc (.cells #[.slice p k c,.bool gone] 124)) hm.row (fun g hg=>G9.out.block g (rows_blk hm.row hg).2.1 (by simp))
         have htk:ss.take k=ss:=by rw[HO.out.2.2.1];exact List.take_length
         refine .inr ⟨s,vs,rfl,by rw[hkn] at hr9 ⊢;exact hr9,HO.out.2.2.2.2 s hq,fun k' u b hu hb=>?_⟩
         have q:=hm.own k' u b hu (by rw[htk,hs];exact hb)
         exact q.sameB (fun g hg=>G9.out.block g (rows_blk q.row hg).2.1 (by simp))) (by rw[hD,<- hgn];exact o5) (by rw[hD];exact g5) (by
       rw[hD]
       rcases hw5 with h | h
       ·exact .inl h
       ·refine .inr ?_
        rw[h]
        exact g1.size) (by rw[hD];exact HI.out)
      rw[cpTo_step hil] at k3
      rw[hD] at k1 k3 k4
      exact⟨k1,k2,G',k3,HB.out.step k4⟩
     have HCS:Hid (∀ (w5 w1:World),wr.grownBy w1 none->w1.grownBy w5 (Value.slice dp2 i dc2).ownBlock->w5.cell? ⟨b5,0,none⟩=some (.slice p k c)/\w5.cell? ⟨b5,1,none⟩=some (.bool gone)):=fun w5 w1 g9 g5=>by
      have hlt5:b5 < wr.heap.size:=(Array.getElem?_eq_some_iff.1 hm.top).1
      have e:w5.heap[b5]?=wr.heap[b5]?:=by
       rw[g5.block b5 (Nat.lt_of_lt_of_le hlt5 g9.size) (fun e=>by
        have h1:=hrl.lt b5 (hrl.Gd b5 (by rw[hD];exact e.symm))
        have h2:=hm.lo3
        omega),g9.block b5 hlt5 (by simp)]
      exact⟨topCell (j:=0) (e.trans hm.top) rfl,topCell (j:=1) (e.trans hm.top) rfl⟩
     clear hm hp0 HY hrl hD t2 x5 x6 HM HSEC HO HRL
     refine region_late (S:=(fun w'=>w'.cell? ⟨r2,0,none⟩=some (.slice dp2 i dc2)/\w'.cell? ⟨b5,0,none⟩=some (.slice p k c)/\w'.cell? ⟨b5,1,none⟩=some (.bool gone))) (by simp only[List.pop_toArray,List.dropLast];exact rfl) (by rfl) (by kernel_rfl) (by kernel_rfl) ?_ (fun hHeld=>?_)
     ·exact HCK.out _ (grown_drewN _ 1)
     refine wpAnyH_take (i:=0) (v:=?_) rfl (by kernel_rfl) (by kernel_rfl) (by kernel_rfl) (fun _ _ _ h=>h) (Or.inl ⟨by rfl,?_⟩) (by assumption) ?_
     rotate_left
     ·intro w hSw;(try dsimp only at hSw);first | (go_simp;done) | (go_simp;with_reducible rfl)
     simp only[Act.put,lay9]
     refine wpAnyH_take (i:=1) (v:=?_) rfl (by kernel_rfl) (by kernel_rfl) (by kernel_rfl) (fun _ _ _ h=>h) (Or.inl ⟨by rfl,?_⟩) (by assumption) ?_
     rotate_left
     ·intro w hSw;(try dsimp only at hSw);first | (go_simp;done) | (go_simp;with_reducible rfl)
     simp only[Act.put,lay9]
     refine wpAnyH_take (i:=2) (v:=?_) rfl (by kernel_rfl) (by kernel_rfl) (by kernel_rfl) (fun _ _ _ h=>h) (Or.inl ⟨by rfl,?_⟩) (by assumption) ?_
     rotate_left
     ·intro w hSw;(try dsimp only at hSw);first | (go_simp;done) | (go_simp;with_reducible rfl)
     simp only[Act.put,lay9]
     refine wpAnyH_take (i:=3) (v:=?_) rfl (by kernel_rfl) (by kernel_rfl) (by kernel_rfl) (fun _ _ _ h=>h) (Or.inl ⟨by rfl,?_⟩) (by assumption) ?_
     rotate_left
     ·intro w hSw;(try dsimp only at hSw);first | (go_simp;done) | (go_simp;with_reducible rfl)
     simp only[Act.put,lay9]
     refine wpAnyH_take (i:=4) (v:=?_) rfl (by kernel_rfl) (by kernel_rfl) (by kernel_rfl) (fun _ _ _ h=>h) (Or.inl ⟨by rfl,?_⟩) (by assumption) ?_
     rotate_left
     ·intro w hSw;(try dsimp only at hSw);first | (go_simp;done) | (go_simp;with_reducible rfl)
     simp only[Act.put,lay9]
     refine wpAnyH_take (i:=5) (v:=?_) rfl (by kernel_rfl) (by kernel_rfl) (by kernel_rfl) (fun _ _ _ h=>h) (Or.inl ⟨by rfl,?_⟩) (by assumption) ?_
     rotate_left
     ·intro w hSw;(try dsimp only at hSw);first | (go_simp;done) | (go_simp;with_reducible rfl)
     simp only[Act.put,lay9]
     refine wpAnyH_ready (rs:=[6]) (by kernel_rfl) (by simp) ?_
     refine AllReadyH.cons rfl (fun K hK=>?_) AllReadyH.nil
     go_simp
     refine hK.out _ _ (HCK.out _ G9.out) (fun hHeld=>?_)
     clear hK K
     (try simp only[Act.put,lay9])
     refine wpAnyH_ready (rs:=[7]) (by kernel_rfl) (by simp) ?_
     refine AllReadyH.cons rfl (fun K hK=>?_) AllReadyH.nil
     refine step_append_at (by rfl) _ _ (by rfl) Tryz.underlying83 zeroDsk rfl (by decide) (by rfl) (by rfl) (HDS.out _ G9.out) (m:=1) (news:=[.slice p k c,.bool gone]) (by decide) rfl (fun j u hj=>by rw[add_at,Nat.zero_add];exact topCell (heap_alloc_new wr.drew _) (by simpa using hj)) (by intro u hu;simp at hu;rcases hu with rfl | rfl <;> rfl) (by have:=HI.out;unfold maxLen;omega) (by have:=HI.out;omega) ?_
     intro dg5 cap5 w5 o5 g5 hw5
     obtain⟨k1,k2,k3⟩:=HGR.out _ _ w5 o5 g5 hw5
     have HX5:Hid (∃ G,RIs G (w5.setCell ⟨r2,0,none⟩ (.slice (some ⟨dg5,0,none⟩) (i+1) cap5)) r2 (cpTo A (i+1))/\Base w G (w5.setCell ⟨r2,0,none⟩ (.slice (some ⟨dg5,0,none⟩) (i+1) cap5))):=k3
     have k4:=HCS.out w5 _ G9.out g5
     clear o5 g5 hw5 k3
     refine hK.out _ _ (⟨k1,k4⟩) (fun hHeld=>?_)
     clear hK K
     (try simp only[Act.put,lay9])
     refine wpAnyH_take (i:=8) (v:=?_) rfl (by kernel_rfl) (by kernel_rfl) (by kernel_rfl) (fun _ _ _ h=>h) (Or.inl ⟨by rfl,?_⟩) (by assumption) ?_
     rotate_left
     ·intro w hSw;(try dsimp only at hSw);first | (go_simp;done) | (go_simp;with_reducible rfl)
     simp only[Act.put,lay9]
     refine wpAnyH_take (i:=9) (v:=?_) rfl (by kernel_rfl) (by kernel_rfl) (by kernel_rfl) (fun _ _ _ h=>h) (Or.inl ⟨by rfl,?_⟩) (by assumption) ?_
     rotate_left
     ·intro w hSw;(try dsimp only at hSw);first | (go_simp;done) | (go_simp;with_reducible rfl)
     simp only[Act.put,lay9]
     refine wpAnyH_done (by kernel_rfl) ?_ _
     refine lastQ_normal ?_
     go_wp2
     go_roundw
     case rel=>exact⟨i+1,by omega,by go_num,HX5⟩
     case measure=>simp[intOf];omega
  ·have i1:¬ (i:Int) < (N:Int):=by omega
   obtain rfl:i=N:=by omega
   have H2:Hid (∃ G,RIs G wr r2 (cfTo A 0)/\Base w G wr):=by
    obtain⟨G,h1,h2⟩:=HX.out
    rw[HNM.out.1,cpTo_all] at h1
    exact⟨G,h1,h2⟩
   have c0:wr.cell? ⟨r,0,none⟩=some (.slice dp i dc):=by
    obtain⟨_,_,hb⟩:=H2.out
    exact HC0.out wr hb.grown
   clear HX
   go_wp2_with fail
   clear c0
   obtain⟨wa,hwa⟩:∃ wa,wa=wr:=⟨wr,rfl⟩
   subst hwa
   go_loopw [7] (fun tj wr=>∃ j:Nat,j<=M/\tj=.int .i64 (j:Int)/\Hid (∃ G,RIs G wr r2 (cfTo A j)/\Base w G wr)) (fun tj _=>M - (intOf tj).toNat)
   case atStart=>exact⟨0,by omega,rfl,H2.out⟩
   case round =>
    clear H2
    obtain⟨j,hj,rfl,HX⟩:=hrel
    obtain⟨G2,⟨dp2,dc2,ds2,lp2,lc2,fs2,hrl⟩,hb⟩:=HX.out
    have s2:=HC2.out wr hb.grown
    by_cases hlt2:j < M
    ·have i2:(j:Int) < (M:Int):=by omega
     have hjl:j < A.L.length:=by rw[<- HNM.out.2];exact hlt2
     obtain⟨lg,u,rfl,_,f0,f1,f2,ho,cc,hcc⟩:=HL.out.flight hjl
     clear hcc
     obtain⟨pu,nu,mu,rfl,hnu⟩:=ho.vec.opened
     have hst:=cfTo_step hjl
     obtain⟨bj,hbj⟩:∃ bj,bj=(A.L[j]'hjl).b:=⟨_,rfl⟩
     obtain⟨D,hDe⟩:∃ D,D=(A.L[j]'hjl).d:=⟨_,rfl⟩
     obtain⟨Kk,hKe⟩:∃ Kk,Kk=(A.L[j]'hjl).k:=⟨_,rfl⟩
     rw[<- hbj,<- hDe,<- hKe] at hst
     rw[<- hDe] at f0
     rw[<- hKe] at f1
     rw[<- hbj] at ho
     have hD:(cfTo A j).L.length=j:=cfTo_len (by omega)
     have t2:=hrl.topCells.2.2.1
     rw[hD] at t2
     have HVU:Hid (∀ W,wr.grownBy W none->Vec W (.slice pu nu mu) bj):=fun W g=>(ho.vec.keep hb.grown).keep g
     have HCK:Hid (∀ W,wr.grownBy W none->W.cell? ⟨r2,2,none⟩=some (.slice lp2 j lc2)/\W.cell? ⟨r,2,none⟩=some (.slice (some ⟨lg,0,none⟩) M lc)/\W.cell? ⟨lg,j * 3,none⟩=some (.int .i64 (D:Int))/\W.cell? ⟨lg,j * 3+1,none⟩=some (.int .i64 (Kk:Int))/\W.cell? ⟨lg,j * 3+2,none⟩=some (.slice pu nu mu)):=fun W g=>⟨g.cell t2 (by simp),g.cell s2 (by simp),(grown_trans hb.grown g).cell f0 (by simp),(grown_trans hb.grown g).cell f1 (by simp),(grown_trans hb.grown g).cell f2 (by simp)⟩
     have HFL:Hid (∀ W,wr.grownBy W none->W.ownsRow 0 138 3 (.slice lp2 j lc2) j (frow fs2 (cfTo A j).L)):=fun W g=>by
      have:=(hrl.keep g).fly
      rw[hD] at this
      exact this
     have HJ:Hid (j+1<=1000000):=by show _<=_;omega
     have HGR:Hid (∀ (w8:World) (u8:Value),wr.grownBy w8 none->Own wr.heap.size w8 u8 bj->∀ (g5 cap5:Nat) (w5:World),w5.ownsRow 0 138 3 (.slice (some ⟨g5,0,none⟩) (j+1) cap5) (j+1) (frow fs2 (cfTo A j).L++[.int .i64 (D:Int),.int .i64 (Kk:Int),u8])->(w8.alloc (.cells #[.int .i64 (D:Int),.int .i64 (Kk:Int),u8] 138)).grownBy w5 (Value.slice lp2 j lc2).ownBlock->((Value.slice lp2 j lc2).ownBlock=some g5\/g5=(w8.alloc (.cells #[.int .i64 (D:Int),.int .i64 (Kk:Int),u8] 138)).heap.size) ->
      w5.cell? ⟨r2,2,none⟩=some (.slice lp2 j lc2)/\w5.frozen? ⟨r2,2,none⟩=false/\∃ G,RIs G (w5.setCell ⟨r2,2,none⟩ (.slice (some ⟨g5,0,none⟩) (j+1) cap5)) r2 (cfTo A (j+1))/\Base w G (w5.setCell ⟨r2,2,none⟩ (.slice (some ⟨g5,0,none⟩) (j+1) cap5))):=fun w8 u8 g8 hu8 g5 cap5 w5 o5 gr5 hw5=>by
      obtain⟨k1,k2,_,G',k3,k4⟩:=hrl.flew (w8:=w8) (u:=u8) (b:=bj) g8 hu8 (d:=D) (k:=Kk) (C:=#[.int .i64 (D:Int),.int .i64 (Kk:Int),u8]) (g5:=g5) (cap5:=cap5) (w5:=w5) (by rw[hD];exact o5) (by rw[hD];exact gr5) (by rw[hD];exact hw5)
      rw[hst] at k3
      rw[hD] at k1 k3 k4
      exact⟨k1,k2,G',k3,hb.step k4⟩
     have HCS:Hid (∀ (w5 w1:World),wr.grownBy w1 none->w1.grownBy w5 (Value.slice lp2 j lc2).ownBlock->w5.cell? ⟨r,2,none⟩=some (.slice (some ⟨lg,0,none⟩) M lc)/\w5.cell? ⟨lg,j * 3,none⟩=some (.int .i64 (D:Int))/\w5.cell? ⟨lg,j * 3+1,none⟩=some (.int .i64 (Kk:Int))/\w5.cell? ⟨lg,j * 3+2,none⟩=some (.slice pu nu mu)):=fun w5 w1 g9 g5=>by
      have gq:w.grownBy w5 none:=grown_new (grown_trans hb.grown g9) g5 (fun i e=>hb.lo i (hrl.Gl i (by rw[hD];exact e)))
      exact⟨HC2.out w5 gq,gq.cell f0 (by simp),gq.cell f1 (by simp),gq.cell f2 (by simp)⟩
     clear hrl hb HX ho hnu hst hbj hDe hKe hD t2 f0 f1 f2 hjl
     go_wp2_with fail
     clear s2
     refine region_late (S:=(fun w'=>w'.cell? ⟨r2,2,none⟩=some (.slice lp2 j lc2)/\w'.cell? ⟨r,2,none⟩=some (.slice (some ⟨lg,0,none⟩) M lc)/\w'.cell? ⟨lg,j * 3,none⟩=some (.int .i64 (D:Int))/\w'.cell? ⟨lg,j * 3+1,none⟩=some (.int .i64 (Kk:Int))/\w'.cell? ⟨lg,j * 3+2,none⟩=some (.slice pu nu mu))) (by simp only[List.pop_toArray,List.dropLast];exact rfl) (by rfl) (by kernel_rfl) (by kernel_rfl) ?_ (fun hHeld=>?_)
     ·exact HCK.out _ (grown_drewN _ 1)
     refine wpAnyH_take (i:=0) (v:=?_) rfl (by kernel_rfl) (by kernel_rfl) (by kernel_rfl) (fun _ _ _ h=>h) (Or.inl ⟨by rfl,?_⟩) (by assumption) ?_
     rotate_left
     ·intro w hSw;(try dsimp only at hSw);first | (go_simp;done) | (go_simp;with_reducible rfl)
     simp only[Act.put,lay9]
     refine wpAnyH_take (i:=1) (v:=?_) rfl (by kernel_rfl) (by kernel_rfl) (by kernel_rfl) (fun _ _ _ h=>h) (Or.inl ⟨by rfl,?_⟩) (by assumption) ?_
     rotate_left
     ·intro w hSw;(try dsimp only at hSw);first | (go_simp;done) | (go_simp;with_reducible rfl)
     simp only[Act.put,lay9]
     refine wpAnyH_take (i:=2) (v:=?_) rfl (by kernel_rfl) (by kernel_rfl) (by kernel_rfl) (fun _ _ _ h=>h) (Or.inl ⟨by rfl,?_⟩) (by assumption) ?_
     rotate_left
     ·intro w hSw;(try dsimp only at hSw);first | (go_simp;done) | (go_simp;with_reducible rfl)
     simp only[Act.put,lay9]
     refine wpAnyH_take (i:=3) (v:=?_) rfl (by kernel_rfl) (by kernel_rfl) (by kernel_rfl) (fun _ _ _ h=>h) (Or.inl ⟨by rfl,?_⟩) (by assumption) ?_
     rotate_left
     ·intro w hSw;(try dsimp only at hSw);first | (go_simp;done) | (go_simp;with_reducible rfl)
     simp only[Act.put,lay9]
     refine wpAnyH_take (i:=4) (v:=?_) rfl (by kernel_rfl) (by kernel_rfl) (by kernel_rfl) (fun _ _ _ h=>h) (Or.inl ⟨by rfl,?_⟩) (by assumption) ?_
     rotate_left
     ·intro w hSw;(try dsimp only at hSw);first | (go_simp;done) | (go_simp;with_reducible rfl)
     simp only[Act.put,lay9]
     refine wpAnyH_take (i:=5) (v:=?_) rfl (by kernel_rfl) (by kernel_rfl) (by kernel_rfl) (fun _ _ _ h=>h) (Or.inl ⟨by rfl,?_⟩) (by assumption) ?_
     rotate_left
     ·intro w hSw;(try dsimp only at hSw);first | (go_simp;done) | (go_simp;with_reducible rfl)
     simp only[Act.put,lay9]
     refine wpAnyH_take (i:=6) (v:=?_) rfl (by kernel_rfl) (by kernel_rfl) (by kernel_rfl) (fun _ _ _ h=>h) (Or.inl ⟨by rfl,?_⟩) (by assumption) ?_
     rotate_left
     ·intro w hSw;(try dsimp only at hSw);first | (go_simp;done) | (go_simp;with_reducible rfl)
     simp only[Act.put,lay9]
     refine wpAnyH_take (i:=7) (v:=?_) rfl (by kernel_rfl) (by kernel_rfl) (by kernel_rfl) (fun _ _ _ h=>h) (Or.inl ⟨by rfl,?_⟩) (by assumption) ?_
     rotate_left
     ·intro w hSw;(try dsimp only at hSw);first | (go_simp;done) | (go_simp;with_reducible rfl)
     simp only[Act.put,lay9]
     refine wpAnyH_take (i:=8) (v:=?_) rfl (by kernel_rfl) (by kernel_rfl) (by kernel_rfl) (fun _ _ _ h=>h) (Or.inl ⟨by rfl,?_⟩) (by assumption) ?_
     rotate_left
     ·intro w hSw;(try dsimp only at hSw);first | (go_simp;done) | (go_simp;with_reducible rfl)
     simp only[Act.put,lay9]
     refine wpAnyH_take (i:=9) (v:=?_) rfl (by kernel_rfl) (by kernel_rfl) (by kernel_rfl) (fun _ _ _ h=>h) (Or.inl ⟨by rfl,?_⟩) (by assumption) ?_
     rotate_left
     ·intro w hSw;(try dsimp only at hSw);first | (go_simp;done) | (go_simp;with_reducible rfl)
     simp only[Act.put,lay9]
     refine wpAnyH_take (i:=10) (v:=?_) rfl (by kernel_rfl) (by kernel_rfl) (by kernel_rfl) (fun _ _ _ h=>h) (Or.inl ⟨by rfl,?_⟩) (by assumption) ?_
     rotate_left
     ·intro w hSw;(try dsimp only at hSw);first | (go_simp;done) | (go_simp;with_reducible rfl)
     simp only[Act.put,lay9]
     refine wpAnyH_take (i:=11) (v:=?_) rfl (by kernel_rfl) (by kernel_rfl) (by kernel_rfl) (fun _ _ _ h=>h) (Or.inl ⟨by rfl,?_⟩) (by assumption) ?_
     rotate_left
     ·intro w hSw;(try dsimp only at hSw);first | (go_simp;done) | (go_simp;with_reducible rfl)
     simp only[Act.put,lay9]
     refine wpAnyH_take (i:=12) (v:=?_) rfl (by kernel_rfl) (by kernel_rfl) (by kernel_rfl) (fun _ _ _ h=>h) (Or.inl ⟨by rfl,?_⟩) (by assumption) ?_
     rotate_left
     ·intro w hSw;(try dsimp only at hSw);first | (go_simp;done) | (go_simp;with_reducible rfl)
     simp only[Act.put,lay9]
     refine wpAnyH_take (i:=13) (v:=?_) rfl (by kernel_rfl) (by kernel_rfl) (by kernel_rfl) (fun _ _ _ h=>h) (Or.inl ⟨by rfl,?_⟩) (by assumption) ?_
     rotate_left
     ·intro w hSw;(try dsimp only at hSw);first | (go_simp;done) | (go_simp;with_reducible rfl)
     simp only[Act.put,lay9]
     refine wpAnyH_take (i:=14) (v:=?_) rfl (by kernel_rfl) (by kernel_rfl) (by kernel_rfl) (fun _ _ _ h=>h) (Or.inl ⟨by rfl,?_⟩) (by assumption) ?_
     rotate_left
     ·intro w hSw;(try dsimp only at hSw);first | (go_simp;done) | (go_simp;with_reducible rfl)
     simp only[Act.put,lay9]
     refine wpAnyH_take (i:=15) (v:=?_) rfl (by kernel_rfl) (by kernel_rfl) (by kernel_rfl) (fun _ _ _ h=>h) (Or.inl ⟨by rfl,?_⟩) (by assumption) ?_
     rotate_left
     ·intro w hSw;(try dsimp only at hSw);first | (go_simp;done) | (go_simp;with_reducible rfl)
     simp only[Act.put,lay9]
     refine wpAnyH_take (i:=16) (v:=?_) rfl (by kernel_rfl) (by kernel_rfl) (by kernel_rfl) (fun _ _ _ h=>h) (Or.inl ⟨by rfl,?_⟩) (by assumption) ?_
     rotate_left
     ·intro w hSw;(try dsimp only at hSw);first | (go_simp;done) | (go_simp;with_reducible rfl)
     simp only[Act.put,lay9]
     refine wpAnyH_take (i:=17) (v:=?_) rfl (by kernel_rfl) (by kernel_rfl) (by kernel_rfl) (fun _ _ _ h=>h) (Or.inl ⟨by rfl,?_⟩) (by assumption) ?_
     rotate_left
     ·intro w hSw;(try dsimp only at hSw);first | (go_simp;done) | (go_simp;with_reducible rfl)
     simp only[Act.put,lay9]
     refine wpAnyH_take (i:=18) (v:=?_) rfl (by kernel_rfl) (by kernel_rfl) (by kernel_rfl) (fun _ _ _ h=>h) (Or.inl ⟨by rfl,?_⟩) (by assumption) ?_
     rotate_left
     ·intro w hSw;(try dsimp only at hSw);first | (go_simp;done) | (go_simp;with_reducible rfl)
     simp only[Act.put,lay9]
     refine wpAnyH_take (i:=19) (v:=?_) rfl (by kernel_rfl) (by kernel_rfl) (by kernel_rfl) (fun _ _ _ h=>h) (Or.inl ⟨by rfl,?_⟩) (by assumption) ?_
     rotate_left
     ·intro w hSw;(try dsimp only at hSw);first | (go_simp;done) | (go_simp;with_reducible rfl)
     simp only[Act.put,lay9]
     refine wpAnyH_take (i:=20) (v:=?_) rfl (by kernel_rfl) (by kernel_rfl) (by kernel_rfl) (fun _ _ _ h=>h) (Or.inl ⟨by rfl,?_⟩) (by assumption) ?_
     rotate_left
     ·intro w hSw;(try dsimp only at hSw);first | (go_simp;done) | (go_simp;with_reducible rfl)
     simp only[Act.put,lay9]
     refine wpAnyH_take (i:=21) (v:=?_) rfl (by kernel_rfl) (by kernel_rfl) (by kernel_rfl) (fun _ _ _ h=>h) (Or.inl ⟨by rfl,?_⟩) (by assumption) ?_
     rotate_left
     ·intro w hSw;(try dsimp only at hSw);first | (go_simp;done) | (go_simp;with_reducible rfl)
     simp only[Act.put,lay9]
     refine wpAnyH_take (i:=22) (v:=?_) rfl (by kernel_rfl) (by kernel_rfl) (by kernel_rfl) (fun _ _ _ h=>h) (Or.inl ⟨by rfl,?_⟩) (by assumption) ?_
     rotate_left
     ·intro w hSw;(try dsimp only at hSw);first | (go_simp;done) | (go_simp;with_reducible rfl)
     simp only[Act.put,lay9]
     refine wpAnyH_take (i:=23) (v:=?_) rfl (by kernel_rfl) (by kernel_rfl) (by kernel_rfl) (fun _ _ _ h=>h) (Or.inl ⟨by rfl,?_⟩) (by assumption) ?_
     rotate_left
     ·intro w hSw;(try dsimp only at hSw);first | (go_simp;done) | (go_simp;with_reducible rfl)
     simp only[Act.put,lay9]
     refine wpAnyH_take (i:=24) (v:=?_) rfl (by kernel_rfl) (by kernel_rfl) (by kernel_rfl) (fun _ _ _ h=>h) (Or.inl ⟨by rfl,?_⟩) (by assumption) ?_
     rotate_left
     ·intro w hSw;(try dsimp only at hSw);first | (go_simp;done) | (go_simp;with_reducible rfl)
     simp only[Act.put,lay9]
     refine wpAnyH_take (i:=25) (v:=?_) rfl (by kernel_rfl) (by kernel_rfl) (by kernel_rfl) (fun _ _ _ h=>h) (Or.inl ⟨by rfl,?_⟩) (by assumption) ?_
     rotate_left
     ·intro w hSw;(try dsimp only at hSw);first | (go_simp;done) | (go_simp;with_reducible rfl)
     simp only[Act.put,lay9]
     refine wpAnyH_take (i:=26) (v:=?_) rfl (by kernel_rfl) (by kernel_rfl) (by kernel_rfl) (fun _ _ _ h=>h) (Or.inl ⟨by rfl,?_⟩) (by assumption) ?_
     rotate_left
     ·intro w hSw;(try dsimp only at hSw);first | (go_simp;done) | (go_simp;with_reducible rfl)
     simp only[Act.put,lay9]
     refine wpAnyH_take (i:=27) (v:=?_) rfl (by kernel_rfl) (by kernel_rfl) (by kernel_rfl) (fun _ _ _ h=>h) (Or.inl ⟨by rfl,?_⟩) (by assumption) ?_
     rotate_left
     ·intro w hSw;(try dsimp only at hSw);first | (go_simp;done) | (go_simp;with_reducible rfl)
     simp only[Act.put,lay9]
     refine wpAnyH_take (i:=28) (v:=?_) rfl (by kernel_rfl) (by kernel_rfl) (by kernel_rfl) (fun _ _ _ h=>h) (Or.inl ⟨by rfl,?_⟩) (by assumption) ?_
     rotate_left
     ·intro w hSw;(try dsimp only at hSw);first | (go_simp;done) | (go_simp;with_reducible rfl)
     simp only[Act.put,lay9]
     refine wpAnyH_ready (rs:=[29]) (by kernel_rfl) (by simp) ?_
     refine AllReadyH.cons rfl (fun K hK=>?_) AllReadyH.nil
     go_simp
     refine (own_any (HVU.out _ (grown_drewN _ 1))).mono ?_
     rintro e w8 ⟨p8,n8,c8,rfl,ho8,hg8⟩
     have G8:Hid (wr.grownBy w8 none):=grown_trans (grown_drewN _ 1) hg8
     have HO8:Hid (Own wr.heap.size w8 (.slice p8 n8 c8) bj):=ho8
     have G9:Hid (wr.grownBy (w8.alloc (.cells #[.int .i64 (D:Int),.int .i64 (Kk:Int),.slice p8 n8 c8] 138)) none):=gb_alloc G8.out _
     have hlit:=lit_fly w8 (D:Int) (Kk:Int) p8 n8 c8
     clear ho8 hg8
     refine hK.out _ _ (HCK.out _ G8.out) (fun hHeld=>?_)
     clear hK K
     (try simp only[Act.put,lay9])
     refine wpAnyH_take (i:=30) (v:=?_) rfl (by kernel_rfl) (by kernel_rfl) (by kernel_rfl) (fun _ _ _ h=>h) (Or.inl ⟨by rfl,?_⟩) (by assumption) ?_
     rotate_left
     ·intro w hSw;(try dsimp only at hSw);first | (go_simp;done) | (go_simp;with_reducible rfl)
     simp only[Act.put,lay9]
     refine wpAnyH_ready (rs:=[31]) (by kernel_rfl) (by simp) ?_
     refine AllReadyH.cons rfl (fun K hK=>?_) AllReadyH.nil
     go_simp
     refine hK.out _ _ (HCK.out _ G9.out) (fun hHeld=>?_)
     clear hK K
     (try simp only[Act.put,lay9])
     refine wpAnyH_ready (rs:=[32]) (by kernel_rfl) (by simp) ?_
     refine AllReadyH.cons rfl (fun K hK=>?_) AllReadyH.nil
     refine step_append_at (by rfl) _ _ (by rfl) Tryz.underlying84 zeroFly rfl (by decide) (by rfl) (by rfl) (HFL.out _ G9.out) (m:=1) (news:=[.int .i64 (D:Int),.int .i64 (Kk:Int),.slice p8 n8 c8]) (by decide) rfl (fun j u hj=>by rw[add_at,Nat.zero_add];exact topCell (heap_alloc_new w8 _) (by simpa using hj)) (by intro u hu;simp at hu;rcases hu with rfl | rfl | rfl <;> rfl) (by have:=HJ.out;unfold maxLen;omega) (by have:=HJ.out;omega) ?_
     intro g5 cap5 w5 o5 gr5 hw5
     obtain⟨k1,k2,k3⟩:=HGR.out w8 _ G8.out HO8.out _ _ w5 o5 gr5 hw5
     have HX5:Hid (∃ G,RIs G (w5.setCell ⟨r2,2,none⟩ (.slice (some ⟨g5,0,none⟩) (j+1) cap5)) r2 (cfTo A (j+1))/\Base w G (w5.setCell ⟨r2,2,none⟩ (.slice (some ⟨g5,0,none⟩) (j+1) cap5))):=k3
     have k4:=HCS.out w5 _ G9.out gr5
     clear o5 gr5 hw5 k3
     refine hK.out _ _ (⟨k1,k4⟩) (fun hHeld=>?_)
     clear hK K
     (try simp only[Act.put,lay9])
     refine wpAnyH_take (i:=33) (v:=?_) rfl (by kernel_rfl) (by kernel_rfl) (by kernel_rfl) (fun _ _ _ h=>h) (Or.inl ⟨by rfl,?_⟩) (by assumption) ?_
     rotate_left
     ·intro w hSw;(try dsimp only at hSw);first | (go_simp;done) | (go_simp;with_reducible rfl)
     simp only[Act.put,lay9]
     refine wpAnyH_take (i:=34) (v:=?_) rfl (by kernel_rfl) (by kernel_rfl) (by kernel_rfl) (fun _ _ _ h=>h) (Or.inl ⟨by rfl,?_⟩) (by assumption) ?_
     rotate_left
     ·intro w hSw;(try dsimp only at hSw);first | (go_simp;done) | (go_simp;with_reducible rfl)
     simp only[Act.put,lay9]
     refine wpAnyH_done (by kernel_rfl) ?_ _
     refine lastQ_normal ?_
     go_wp2
     go_roundw
     case rel=>exact⟨j+1,by omega,by go_num,HX5⟩
     case measure=>simp[intOf];omega
    ·have i2:¬ (j:Int) < (M:Int):=by omega
     obtain rfl:j=M:=by omega
     have HF:Hid (∃ G2,RIs G2 wr r2 A/\Base w G2 wr):=by
      obtain⟨G,h1,h2⟩:=HX.out
      rw[HNM.out.2,cfTo_all] at h1
      exact⟨G,h1,h2⟩
     clear hrl hb HX
     go_wp2
     go_ret
     exact⟨r2,rfl,HF.out⟩
end
namespace AM.RA
def picked (A:RA) (ps:List Nat) (q:Nat):RA:={ A with D:=((A.L.zip ps).take q).foldl rpick A.D }
end AM.RA
theorem rpicks_on (Z:List (AM.Fl × Nat)):∀ (D:List (Option (List (List Nat)))) (e:Nat),((Z.foldl AM.RA.rpick D).getD e none).isSome=(D.getD e none).isSome:=by
 induction Z with
 | nil=>intro D e;rfl
 | cons x r ih =>
   intro D e
   simp only[List.foldl_cons]
   rw[ih]
   unfold AM.RA.rpick
   split
   ·rw[rlay_on]
   ·rfl
theorem rpicks_len (Z:List (AM.Fl × Nat)):∀ (D:List (Option (List (List Nat)))),(Z.foldl AM.RA.rpick D).length=D.length:=by
 induction Z with
 | nil=>intro D;rfl
 | cons x r ih =>
   intro D
   simp only[List.foldl_cons]
   rw[ih]
   unfold AM.RA.rpick
   split
   ·simp[AM.rlay]
   ·rfl
theorem rpicked_step {A:AM.RA} {ps:List Nat} {q:Nat} (hq:q < A.L.length) (hp:q < ps.length):(A.picked ps (q+1)).D=AM.RA.rpick (A.picked ps q).D (A.L[q],ps.getD q 0):=by
 simp only[AM.RA.picked]
 have h:q < (A.L.zip ps).length:=by simp;omega
 rw[List.take_succ_eq_append_getElem h,List.foldl_append]
 simp[List.getD,hp]
theorem picked_odd' {A:AM.RA} {ps:List Nat} {q:Nat} (hq:q < A.L.length) (hp:q < ps.length) (ho:ps.getD q 0 % 2=1):A.picked ps (q+1)={ A.picked ps q with D:=AM.rlay (A.picked ps q).D A.L[q].d A.L[q].k A.L[q].b }:=by
 have:=rpicked_step hq hp
 have e:AM.RA.rpick (A.picked ps q).D (A.L[q],ps.getD q 0)=AM.rlay (A.picked ps q).D A.L[q].d A.L[q].k A.L[q].b:=if_pos ho
 rw[e] at this
 show ({ A with D:=(A.picked ps (q+1)).D }:AM.RA)=_
 rw[this]
 rfl
theorem picked_even' {A:AM.RA} {ps:List Nat} {q:Nat} (hq:q < A.L.length) (hp:q < ps.length) (ho:¬ ps.getD q 0 % 2=1):A.picked ps (q+1)=A.picked ps q:=by
 have:=rpicked_step hq hp
 have e:AM.RA.rpick (A.picked ps q).D (A.L[q],ps.getD q 0)=(A.picked ps q).D:=if_neg ho
 rw[e] at this
 show ({ A with D:=(A.picked ps (q+1)).D }:AM.RA)=_
 rw[this]
 rfl
theorem picked_all {A:AM.RA} {ps:List Nat} {q:Nat} (h:A.L.length<=q\/ps.length<=q):({ A.picked ps q with L:=[],left:=0,dark:=false }:AM.RA)=A.crash ps:=by
 simp only[AM.RA.picked,AM.RA.crash]
 rw[List.take_of_length_le (by simp;omega)]
section
variable {G:Nat->Prop} {w:World} {r:Nat}
theorem RL.reset {dp:Option Addr} {dc:Nat} {ds:List Value} {lp:Option Addr} {lc:Nat} {fs:List Value} {A:AM.RA} (h:RL G w r dp dc ds lp lc fs A):RIs G (((w.setCell ⟨r,2,none⟩ (.slice none 0 0)).setCell ⟨r,3,none⟩ (.int .i64 0)).setCell ⟨r,4,none⟩ (.bool false)) r { A with L:=[],left:=0,dark:=false }/\Step G w G (((w.setCell ⟨r,2,none⟩ (.slice none 0 0)).setCell ⟨r,3,none⟩ (.int .i64 0)).setCell ⟨r,4,none⟩ (.bool false)):=by
 have g1:=h.gone
 refine⟨(g1.turn (l':=0) (k':=false) (grown_set2 (grown_set_a _ r 3 _) 4 _) (by decide) ?_).is,Step.of (grown_set2 (grown_set2 (grown_set_a w r 2 _) 3 _) 4 _) (fun i e=>by obtain rfl:=Option.some.inj e;exact h.Gr)⟩
 rw[heap_setCell_same _ _ _ _ _ _ (heap_setCell_same _ _ _ _ _ _ g1.top)]
 rfl
set_option maxHeartbeats 3200000 in
set_option maxRecDepth 100000 in
theorem rcrash_any {A1:AM.RA} (h:RIs G w r A1) (hfit:A1.Fit) (hL:A1.L.length<=1000000) {v:Value} {ps:List Nat} (hv:Vec w v ps) (hvF:ps ≠ []->∀ g,v.ownBlock=some g->¬ G g):Calls Tryz.prog 42 #[rptr r,v] w fun e w'=>e=.returned (.tuple #[])/\∃ G',RIs G' w' r (A1.crash ps)/\Step G w G' w':=by
 obtain⟨pp,m,cp,rfl,hm⟩:=hv.opened
 have HV:Hid (∀ W,Upd G w W->Vec W (.slice pp m cp) ps):=fun W u=>hv.upd u hvF
 have HPS:Hid (m=ps.length):=hm
 have hmb:m<=140737488351232:=by rw[hm];exact hv.len
 have HFIT:Hid (A1.Fit):=hfit
 have HI1:Hid (RIs G w r A1):=h
 obtain⟨M,hM⟩:∃ M,M=A1.L.length:=⟨_,rfl⟩
 obtain⟨N,hN⟩:∃ N,N=A1.D.length:=⟨_,rfl⟩
 have HM:Hid (M=A1.L.length):=hM
 have HN:Hid (N=A1.D.length):=hN
 rw[<- hM] at hL
 have HD2:Hid (N<=255):=by
  obtain⟨dp,dc,ds,lp,lc,fs,h1⟩:=h
  show _<=_
  rw[hN];exact h1.d2
 clear h hfit hv hvF hm hM hN
 go_enter Tryz.func42,Tryz.ntmps42
 go_wp2
 go_loopw [4] (fun ti wr=>∃ q:Nat,q<=M/\ti=.int .i64 (q:Int)/\Hid (∃ G',RIs G' wr r (A1.picked ps q)/\Step G w G' wr)) (fun ti _=>M - (intOf ti).toNat)
 case atStart=>exact⟨0,by omega,rfl,G,HI1.out,Step.refl G w⟩
 case round =>
  clear HI1
  obtain⟨q,hq,rfl,HX⟩:=hrel
  by_cases hlt:q < M
  ·have i1:(q:Int) < (M:Int):=by omega
   by_cases hltm:q < m
   ·have i5:(q:Int) < (m:Int):=by omega
    have hpl:q < ps.length:=by rw[<- HPS.out];exact hltm
    have hN255:=HD2.out
    have hvw:Vec wr (.slice pp m cp) ps:=by
     obtain⟨G',_,a2⟩:=HX.out
     exact HV.out wr a2.upd
    obtain⟨pb,po,rfl,cpk,hp256⟩:=hvw.spot (k:=q) hpl
    obtain⟨y,hy⟩:∃ y,y=ps.getD q 0:=⟨_,rfl⟩
    rw[<- hy] at cpk hp256
    by_cases ho:y % 2=1
    ·have o1:(y:Int) % 2=1:=by omega
     have HODD:Hid (ps.getD q 0 % 2=1):=by rw[<- hy];exact ho
     have HPL:Hid (q < ps.length):=hpl
     clear hvw hy ho hpl
     obtain⟨Gq,hri,hst⟩:=HX.out
     obtain⟨dp,dc,ds,lp,lc,fs,hrl⟩:=hri
     have hql:q < A1.L.length:=by rw[<- HM.out];exact hlt
     obtain⟨hon,hkn⟩:=HFIT.out A1.L[q] (List.getElem_mem hql)
     obtain⟨dg,lg,sg,c,u,ov,rfl,rfl,hdN,z0,z2,z3,z4,z5,z6,zc,zf,zv,hsg,n1,n2,n3,hfin⟩:=hrl.ready (A:=A1.picked ps q) (q:=q) hql (by show ((A1.picked ps q).D.getD A1.L[q].d none).isSome=true;unfold AM.RA.picked;simp only;rw[rpicks_on];exact hon) hkn
     have HNXT:Hid (∀ (w1:World) (u1:Value),wr.grownBy w1 none->Own wr.heap.size w1 u1 A1.L[q].b->∃ G',RIs G' (w1.setCell ⟨sg,A1.L[q].k,none⟩ u1) r (A1.picked ps (q+1))/\Step G w G' (w1.setCell ⟨sg,A1.L[q].k,none⟩ u1)):=fun w1 u1 g hu1=>by
      obtain⟨G',a1,a2⟩:=hfin w1 u1 g hu1
      exact⟨G',(by rw[picked_odd' hql HPL.out HODD.out];exact a1),hst.trans a2⟩
     have hDl:(A1.picked ps q).D.length=N:=by rw[HN.out];exact rpicks_len _ _
     have hLl:A1.L.length=M:=HM.out.symm
     obtain⟨pu,nu,mu,rfl,hnu⟩:=zv.opened
     clear hnu
     have s0:wr.cell? ⟨r,0,none⟩=some (.slice (some ⟨dg,0,none⟩) N dc):=by rw[<- hDl];exact z0
     have s2:wr.cell? ⟨r,2,none⟩=some (.slice (some ⟨lg,0,none⟩) M lc):=by rw[<- hLl];exact z2
     have s3:wr.cell? ⟨lg,q * 3,none⟩=some (.int .i64 (A1.L[q].d:Int)):=z3
     have s4:wr.cell? ⟨lg,q * 3+1,none⟩=some (.int .i64 (A1.L[q].k:Int)):=z4
     have s5:wr.cell? ⟨lg,q * 3+2,none⟩=some (.slice pu nu mu):=z5
     have s6:wr.cell? ⟨dg,A1.L[q].d * 2,none⟩=some (.slice (some ⟨sg,0,none⟩) A1.n c):=z6
     have co:wr.cell? ⟨sg,A1.L[q].k,none⟩=some ov:=zc
     have fo:wr.frozen? ⟨sg,A1.L[q].k,none⟩=false:=zf
     have hvu:Vec wr (.slice pu nu mu) A1.L[q].b:=zv
     clear z0 z2 z3 z4 z5 z6 zc zf zv
     have hdD:A1.L[q].d < N:=by rw[<- hDl];exact hdN
     have HSLT:Hid (sg < wr.heap.size):=hrl.lt sg hsg
     have HBF:Hid (wr.heap[sg]?=wr.heap[sg]?):=rfl
     have HB:Hid (Vec wr (.slice pu nu mu) A1.L[q].b):=hvu
     generalize A1.L[q].d=D at *
     generalize A1.L[q].k=K at *
     generalize A1.L[q].b=B at *
     obtain⟨n,hn⟩:∃ n,n=A1.n:=⟨_,rfl⟩
     rw[<- hn] at s6 hkn
     have hn4:n<=4096:=by rw[hn];exact hrl.n2
     clear hn
     have kn:(K:Int) < (n:Int):=by omega
     have dn:(D:Int) < (N:Int):=by omega
     have HS:Hid (wr.cell? ⟨r,0,none⟩=some (.slice (some ⟨dg,0,none⟩) N dc)/\wr.cell? ⟨r,2,none⟩=some (.slice (some ⟨lg,0,none⟩) M lc)/\wr.cell? ⟨lg,q * 3,none⟩=some (.int .i64 (D:Int))/\wr.cell? ⟨lg,q * 3+1,none⟩=some (.int .i64 (K:Int))/\wr.cell? ⟨lg,q * 3+2,none⟩=some (.slice pu nu mu)/\wr.cell? ⟨dg,D * 2,none⟩=some (.slice (some ⟨sg,0,none⟩) n c)):=⟨s0,s2,s3,s4,s5,s6⟩
     have HSK:Hid (∀ W,wr.grownBy W none->W.cell? ⟨r,0,none⟩=some (.slice (some ⟨dg,0,none⟩) N dc)/\W.cell? ⟨r,2,none⟩=some (.slice (some ⟨lg,0,none⟩) M lc)/\W.cell? ⟨lg,q * 3,none⟩=some (.int .i64 (D:Int))/\W.cell? ⟨lg,q * 3+1,none⟩=some (.int .i64 (K:Int))/\W.cell? ⟨lg,q * 3+2,none⟩=some (.slice pu nu mu)/\W.cell? ⟨dg,D * 2,none⟩=some (.slice (some ⟨sg,0,none⟩) n c)):=fun W g=>⟨g.cell s0 (by simp),g.cell s2 (by simp),g.cell s3 (by simp),g.cell s4 (by simp),g.cell s5 (by simp),g.cell s6 (by simp)⟩
     have HSS:Hid (∀ (W:World) (v:Value),wr.grownBy W none->(W.setCell ⟨sg,K,none⟩ v).cell? ⟨r,0,none⟩=some (.slice (some ⟨dg,0,none⟩) N dc)/\(W.setCell ⟨sg,K,none⟩ v).cell? ⟨r,2,none⟩=some (.slice (some ⟨lg,0,none⟩) M lc)/\(W.setCell ⟨sg,K,none⟩ v).cell? ⟨lg,q * 3,none⟩=some (.int .i64 (D:Int))/\(W.setCell ⟨sg,K,none⟩ v).cell? ⟨lg,q * 3+1,none⟩=some (.int .i64 (K:Int))/\(W.setCell ⟨sg,K,none⟩ v).cell? ⟨lg,q * 3+2,none⟩=some (.slice pu nu mu)/\(W.setCell ⟨sg,K,none⟩ v).cell? ⟨dg,D * 2,none⟩=some (.slice (some ⟨sg,0,none⟩) n c)):=fun W v g=>by
      obtain⟨a1,a2,a3,a4,a5,a6⟩:=HSK.out W g
      exact⟨by rw[World.cell?_setCell_far _ _ _ _ (Ne.symm n1)];exact a1,by rw[World.cell?_setCell_far _ _ _ _ (Ne.symm n1)];exact a2,by rw[World.cell?_setCell_far _ _ _ _ (Ne.symm n2)];exact a3,by rw[World.cell?_setCell_far _ _ _ _ (Ne.symm n2)];exact a4,by rw[World.cell?_setCell_far _ _ _ _ (Ne.symm n2)];exact a5,by rw[World.cell?_setCell_far _ _ _ _ (Ne.symm n3)];exact a6⟩
     have HCF:Hid (∀ W,wr.grownBy W none->W.cell? ⟨sg,K,none⟩=some ov/\W.frozen? ⟨sg,K,none⟩=false):=fun W g=>⟨g.cell co (by simp),by rw[World.frozen?_of_block (w:=wr) (g.block sg HSLT.out (by simp))];exact fo⟩
     clear hrl hfin hvu hsg s0 s3 s4 s5 s6 co fo n1 n2 n3 hst HX hon HBF hDl hLl hdN
     go_wp2_with fail
     go_region_held3 (fun w'=>w'.cell? ⟨r,0,none⟩=some (.slice (some ⟨dg,0,none⟩) N dc)/\w'.cell? ⟨r,2,none⟩=some (.slice (some ⟨lg,0,none⟩) M lc)/\w'.cell? ⟨lg,q * 3,none⟩=some (.int .i64 (D:Int))/\w'.cell? ⟨lg,q * 3+1,none⟩=some (.int .i64 (K:Int))/\w'.cell? ⟨lg,q * 3+2,none⟩=some (.slice pu nu mu)/\w'.cell? ⟨dg,D * 2,none⟩=some (.slice (some ⟨sg,0,none⟩) n c)) (first | exact HS.out | exact HSK.out _ (by first | exact World.grownBy.refl _ _ | exact gb_drew (World.grownBy.refl _ _) | exact gb_drew (gb_drew (World.grownBy.refl _ _))) | exact HSK.out _ HGF.out | exact HSK.out _ (gb_drew HGF.out) | exact HSS.out _ _ HGF.out | exact HSS.out _ _ (gb_drew HGF.out))
      ((go_at_call 92;refine (own_any (HB.out.keep (by first | exact World.grownBy.refl _ _ | exact gb_drew (World.grownBy.refl _ _) | exact gb_drew (gb_drew (World.grownBy.refl _ _))))).mono ?_;rintro e w8 ⟨p8,n8,c8,rfl,ho8,hg8⟩;have HGF:Hid (wr.grownBy w8 none):=grown_trans (by first | exact World.grownBy.refl _ _ | exact gb_drew (World.grownBy.refl _ _) | exact gb_drew (gb_drew (World.grownBy.refl _ _))) hg8;have co:=(HCF.out _ HGF.out).1;have fo:=(HCF.out _ HGF.out).2;have HX9:Hid (∃ G',RIs G' (w8.setCell ⟨sg,K,none⟩ (.slice p8 n8 c8)) r (A1.picked ps (q+1))/\Step G w G' (w8.setCell ⟨sg,K,none⟩ (.slice p8 n8 c8))):=HNXT.out _ _ HGF.out ho8;clear ho8 hg8))
     have HX10:Hid (∃ G',RIs G' (w8.setCell ⟨sg,K,none⟩ (.slice p8 n8 c8)).drew r (A1.picked ps (q+1))/\Step G w G' (w8.setCell ⟨sg,K,none⟩ (.slice p8 n8 c8)).drew):=by
      obtain⟨G',a1,a2⟩:=HX9.out
      exact⟨G',a1.keep (grown_drewN _ 1),a2.trans (Step.new (grown_drewN _ 1))⟩
     go_wp2
     go_roundw
     case rel=>exact⟨q+1,by omega,by go_num,by first | exact HX9 | exact HX10⟩
     case measure=>simp[intOf];omega
    ·have o1:(y:Int) % 2=0:=by omega
     obtain⟨Gq,hri,hst⟩:=HX.out
     have hql:q < A1.L.length:=by rw[<- HM.out];exact hlt
     have HX9:Hid (∃ G',RIs G' wr r (A1.picked ps (q+1))/\Step G w G' wr):=⟨Gq,by rw[picked_even' hql hpl (by rw[<- hy];exact ho)];exact hri,hst⟩
     obtain⟨dp,dc,ds,lp,lc,fs,hrl⟩:=hri
     obtain⟨_,_,z2,_,_⟩:=hrl.topCells
     have s2:wr.cell? ⟨r,2,none⟩=some (.slice lp M lc):=by rw[HM.out];exact z2
     clear z2 hrl hst hvw hy ho hpl HX hql
     go_wp2
     go_roundw
     case rel=>exact⟨q+1,by omega,by go_num,HX9⟩
     case measure=>simp[intOf];omega
   ·have i5:¬ (q:Int) < (m:Int):=by omega
    obtain⟨Gq,hri,hst⟩:=HX.out
    obtain⟨dp,dc,ds,lp,lc,fs,hrl⟩:=hri
    obtain⟨z0,z1,z2,z3,z4⟩:=hrl.topCells
    have s2:wr.cell? ⟨r,2,none⟩=some (.slice lp M lc):=by rw[HM.out];exact z2
    have f2:=topFrozen 2 hrl.top
    have f3:=topFrozen 3 hrl.top
    have f4:=topFrozen 4 hrl.top
    have HF:Hid (RIs Gq (((wr.setCell ⟨r,2,none⟩ (.slice none 0 0)).setCell ⟨r,3,none⟩ (.int .i64 0)).setCell ⟨r,4,none⟩ (.bool false)) r (A1.crash ps)/\Step G w Gq (((wr.setCell ⟨r,2,none⟩ (.slice none 0 0)).setCell ⟨r,3,none⟩ (.int .i64 0)).setCell ⟨r,4,none⟩ (.bool false))):=⟨by rw[<- picked_all (A:=A1) (ps:=ps) (q:=q) (by have:=HPS.out;omega)];exact hrl.reset.1,hst.trans hrl.reset.2⟩
    clear z0 z1 z2 hrl hst HX
    go_wp2
    go_end0
    exact⟨rfl,Gq,HF.out⟩
  ·have i1:¬ (q:Int) < (M:Int):=by omega
   obtain⟨Gq,hri,hst⟩:=HX.out
   obtain⟨dp,dc,ds,lp,lc,fs,hrl⟩:=hri
   obtain⟨z0,z1,z2,z3,z4⟩:=hrl.topCells
   have s2:wr.cell? ⟨r,2,none⟩=some (.slice lp M lc):=by rw[HM.out];exact z2
   have f2:=topFrozen 2 hrl.top
   have f3:=topFrozen 3 hrl.top
   have f4:=topFrozen 4 hrl.top
   have HF:Hid (RIs Gq (((wr.setCell ⟨r,2,none⟩ (.slice none 0 0)).setCell ⟨r,3,none⟩ (.int .i64 0)).setCell ⟨r,4,none⟩ (.bool false)) r (A1.crash ps)/\Step G w Gq (((wr.setCell ⟨r,2,none⟩ (.slice none 0 0)).setCell ⟨r,3,none⟩ (.int .i64 0)).setCell ⟨r,4,none⟩ (.bool false))):=⟨by rw[<- picked_all (A:=A1) (ps:=ps) (q:=q) (by have:=HM.out;omega)];exact hrl.reset.1,hst.trans hrl.reset.2⟩
   clear z0 z1 z2 hrl hst HX
   go_wp2
   go_end0
   exact⟨rfl,Gq,HF.out⟩
end
theorem equal_at {w:World} {a b:Value} {xs ys:List Nat} (ha:Vec w a xs) (hb:Vec w b ys) (h:xs=ys):Calls Tryz.prog 55 #[a,b] w fun e w'=>e=.returned (.bool true)/\w'=w:=by
 have:=equal_any ha hb
 rwa [decide_eq_true h] at this
section
variable {F:Nat->Prop} {w:World} {a:Nat} {R:AM.Raw}
end
def A1:AM.Raw:=((AM.Raw.new 2 4).writes 0 1 (fl 1)).2
def A2:AM.Raw:=(A1.writes 1 1 (fl 2)).2
def A3:AM.Raw:=A2.crash [1,0]
def A4:AM.Raw:=(A3.lose 0).2
end Go.Proofs.YtaalagkbpeinkaaGreat
