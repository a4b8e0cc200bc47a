/- Packed: TMem9, TCal9, TWr9, TIx9, TWh9, TTb9. -/
import Derived.Test.YtlklmhojadlncaaGreatTk26
import Derived.Test.YtlklmhojadlncaaGreatTk27
set_option linter.unusedSimpArgs false
set_option linter.unusedVariables false
set_option maxRecDepth 100000
namespace Go.Proofs.YtlklmhojadlncaaGreat
open Go.RowKit
abbrev kcells (s:Nat) (g:SP.Geo) (D:List Value) (bq nx bz:Nat):List Value :=
 [ptr s,.int .i64 (g.k:Int),.int .i64 (g.n:Int)]++D++[.slice (some ⟨bq,0,none⟩) 3 3,.int .u64 (nx:Int),.slice (some ⟨bz,0,none⟩) g.n g.n]
abbrev bools (Z:List Bool):List Value:=Z.map fun b:Bool=>Value.bool b
structure Fr9 where
 w:World
 H:Nat->Option Obj
abbrev Fr9.of (w:World):Fr9:=⟨w,fun _=>none⟩
structure Top9 (F:Nat->Prop) (w0:Fr9) (w:World) (x bq bz s a:Nat) (g:SP.Geo) (R:AM.Raw) (D:List Value) (xss:List (List Nat)) (st:List Nat) (Z:List Bool) (nx:Nat):Prop where
 i:SI F w s a g R
 b:Base w0.w F w
 top:w.heap[x]?=some (.cells (kcells s g D bq nx bz).toArray 40 (0,0))
 seq:w.heap[bq]?=some (.cells (us9 st).toArray 36 (0,0))
 sta:w.heap[bz]?=some (.cells (bools Z).toArray 4 (0,0))
 fx:¬ F x
 fq:¬ F bq
 fz:¬ F bz
 lx:w0.w.heap.size<=x
 lq:w0.w.heap.size<=bq
 lz:w0.w.heap.size<=bz
 dl:D.length=3
 sl:st.length=3
 zl:Z.length=g.n
 n:g.n<=9
 dat:∀ j,j < 3->Aw F w (D.getD j undef) (xss.getD j [])
 own:∀ j,j < 3->∀ b,(D.getD j undef).ownBlock=some b->b ≠ x/\b ≠ bq/\b ≠ bz
 fr:∀ i o,w0.H i=some o->w.heap[i]?=some o/\¬ F i/\i ≠ x/\i ≠ bq/\i ≠ bz
def KM (w0:Fr9) (w:World) (x bq bz s a:Nat) (g:SP.Geo) (R:AM.Raw) (xss:List (List Nat)) (st:List Nat) (Z:List Bool) (nx:Nat):Prop:=∃ F D,Top9 F w0 w x bq bz s a g R D xss st Z nx
section
variable {F F':Nat->Prop} {w0:Fr9} {w w':World} {x bq bz s a nx:Nat} {g:SP.Geo} {R R':AM.Raw} {D:List Value} {xss:List (List Nat)} {st:List Nat} {Z:List Bool}
theorem Top9.km (h:Top9 F w0 w x bq bz s a g R D xss st Z nx):KM w0 w x bq bz s a g R xss st Z nx:=⟨F,D,h⟩
theorem heap_lt {w:World} {i:Nat} {c:Array Value} {t:TypeId} {f:Nat × Nat} (h:w.heap[i]?=some (.cells c t f)):i < w.heap.size:=(Array.getElem?_eq_some_iff.1 h).1
theorem Top9.step (h:Top9 F w0 w x bq bz s a g R D xss st Z nx) (i':SI F' w' s a g R') (k:Step F w F' w'):Top9 F' w0 w' x bq bz s a g R' D xss st Z nx:=by
 have far:∀ i,i < w.heap.size->¬ F i->¬ F' i:=fun i hi hf hf'=>by
  rcases k.sub i hf' with h1 | h1
  ·exact hf h1
  ·omega
 exact⟨i',h.b.step k,by rw[k.upd.block x (heap_lt h.top) h.fx];exact h.top,by rw[k.upd.block bq (heap_lt h.seq) h.fq];exact h.seq,by rw[k.upd.block bz (heap_lt h.sta) h.fz];exact h.sta,
  far x (heap_lt h.top) h.fx,far bq (heap_lt h.seq) h.fq,far bz (heap_lt h.sta) h.fz,h.lx,h.lq,h.lz,h.dl,h.sl,h.zl,h.n,fun j hj=>(h.dat j hj).step k,h.own,fun i o hi=>by
  obtain⟨h1,h2,h3⟩:=h.fr i o hi
  have hl:=(Array.getElem?_eq_some_iff.1 h1).1
  exact⟨by rw[k.upd.block i hl h2];exact h1,far i hl h2,h3⟩⟩
theorem Top9.keep (h:Top9 F w0 w x bq bz s a g R D xss st Z nx) (gr:w.grownBy w' none):Top9 F w0 w' x bq bz s a g R D xss st Z nx:=h.step (h.i.keep gr) (Step.new gr)
theorem Top9.apart (h:Top9 F w0 w x bq bz s a g R D xss st Z nx) {b:Nat} (gr:w.grownBy w' (some b)) (hf:¬ F b) (hl:w0.w.heap.size<=b) (hs:s ≠ b) (hd:∀ j,j < 3->∀ c,(D.getD j undef).ownBlock=some c->c ≠ b):SI F w' s a g R/\Base w0.w F w'/\∀ j,j < 3->Aw F w' (D.getD j undef) (xss.getD j []):=by
 refine⟨⟨h.i.i.apart gr hf,?_,h.i.nf,h.i.ok⟩,⟨⟨gr.os.trans h.b.grown.os,gr.tape.trans h.b.grown.tape,gr.output.trans h.b.grown.output,Nat.le_trans h.b.grown.size gr.size,fun i hi _=>(gr.block i (Nat.lt_of_lt_of_le hi h.b.grown.size) (fun e=>by have:=Option.some.inj e;omega)).trans (h.b.grown.block i hi (by simp))⟩,h.b.lo⟩,fun j hj=>⟨(h.dat j hj).vec.kept gr ?_,(h.dat j hj).off⟩⟩
 ·rw[gr.block s h.i.lt (fun e=>hs (Option.some.inj e))]
  exact h.i.top
 ·cases c:(D.getD j undef).ownBlock with
  | none=>exact .inl rfl
  | some c'=>exact .inr (fun e=>hd j hj c' c (Option.some.inj e))
theorem Top9.ne (h:Top9 F w0 w x bq bz s a g R D xss st Z nx):s ≠ x/\s ≠ bq/\s ≠ bz/\x ≠ bq/\x ≠ bz/\bq ≠ bz:=by
 refine⟨fun e=>?_,fun e=>?_,fun e=>?_,fun e=>?_,fun e=>?_,fun e=>?_⟩
 ·exact absurd (heap_ty (e ▸ h.i.top) h.top) (by decide)
 ·exact absurd (heap_ty (e ▸ h.i.top) h.seq) (by decide)
 ·exact absurd (heap_ty (e ▸ h.i.top) h.sta) (by decide)
 ·exact absurd (heap_ty (e ▸ h.top) h.seq) (by decide)
 ·exact absurd (heap_ty (e ▸ h.top) h.sta) (by decide)
 ·exact absurd (heap_ty (e ▸ h.seq) h.sta) (by decide)
theorem Top9.put (h:Top9 F w0 w x bq bz s a g R D xss st Z nx) {j:Nat} (hj:j < 3) {v:Value} {ys:List Nat} (hv:Aw F w v ys) (ho:∀ b,v.ownBlock=some b->b ≠ x/\b ≠ bq/\b ≠ bz) (hx:xss.length=3) :
 Top9 F w0 (w.setCell ⟨x,3+j,none⟩ v) x bq bz s a g R (D.set j v) (xss.set j ys) st Z nx:=by
 have gr:=grown_set_a w x (3+j) v
 obtain⟨n1,_,_,n4,n5,_⟩:=h.ne
 obtain⟨i',b',d'⟩:=h.apart gr h.fx h.lx n1 (fun j hj c hc=>(h.own j hj c hc).1)
 have eD:∀ i,i < 3->(D.set j v).getD i undef=if i=j then v else D.getD i undef:=fun i hi=>by
  by_cases c:i=j
  ·subst c;simp[List.getD,h.dl,hi]
  ·simp[List.getD,c,Ne.symm c]
 have eX:∀ i,i < 3->(xss.set j ys).getD i []=if i=j then ys else xss.getD i []:=fun i hi=>by
  by_cases c:i=j
  ·subst c;simp[List.getD,hx,hi]
  ·simp[List.getD,c,Ne.symm c]
 refine⟨i',b',?_,?_,?_,h.fx,h.fq,h.fz,h.lx,h.lq,h.lz,by rw[List.length_set];exact h.dl,h.sl,h.zl,h.n,fun i hi=>?_,fun i hi b hb=>?_,fun i o hi=>?_⟩
 ·rw[heap_setCell_same _ _ _ _ _ _ h.top]
  have:(kcells s g D bq nx bz).set (3+j) v=kcells s g (D.set j v) bq nx bz:=by
   have hl:=h.dl
   match D,hl with
   | [p,q,r],_ =>
     match j,hj with
     | 0,_=>rfl
     | 1,_=>rfl
     | 2,_=>rfl
  rw[<- this]
  simp
 ·rw[gr.block bq (heap_lt h.seq) (fun e=>n4 (Option.some.inj e).symm)];exact h.seq
 ·rw[gr.block bz (heap_lt h.sta) (fun e=>n5 (Option.some.inj e).symm)];exact h.sta
 ·rw[eD i hi,eX i hi]
  split
  ·exact⟨hv.vec.kept gr (by
    cases c:v.ownBlock with
    | none=>exact .inl rfl
    | some c'=>exact .inr (fun e=>(ho c' c).1 (Option.some.inj e))),hv.off⟩
  ·exact d' i hi
 ·rw[eD i hi] at hb
  split at hb
  ·exact ho b hb
  ·exact h.own i hi b hb
 ·obtain⟨h1,h2,h3,h4⟩:=h.fr i o hi
  exact⟨by rw[gr.block i (Array.getElem?_eq_some_iff.1 h1).1 (fun e=>h3 (Option.some.inj e))];exact h1,h2,h3,h4⟩
theorem Top9.mark (h:Top9 F w0 w x bq bz s a g R D xss st Z nx) {j m:Nat} (hj:j < 3):Top9 F w0 (w.setCell ⟨bq,j,none⟩ (.int .u64 (m:Int))) x bq bz s a g R D xss (st.set j m) Z nx:=by
 have gr:=grown_set_a w bq j (.int .u64 (m:Int))
 obtain⟨_,n2,_,n4,_,n6⟩:=h.ne
 obtain⟨i',b',d'⟩:=h.apart gr h.fq h.lq n2 (fun j hj c hc=>(h.own j hj c hc).2.1)
 refine⟨i',b',?_,?_,?_,h.fx,h.fq,h.fz,h.lx,h.lq,h.lz,h.dl,by rw[List.length_set];exact h.sl,h.zl,h.n,d',h.own,fun i o hi=>by
  obtain⟨h1,h2,h3,h4,h5⟩:=h.fr i o hi
  exact⟨by rw[gr.block i (Array.getElem?_eq_some_iff.1 h1).1 (fun e=>h4 (Option.some.inj e))];exact h1,h2,h3,h4,h5⟩⟩
 ·rw[gr.block x (heap_lt h.top) (fun e=>n4 (Option.some.inj e))];exact h.top
 ·rw[heap_setCell_same _ _ _ _ _ _ h.seq]
  simp[us9,uw9,List.map_set]
 ·rw[gr.block bz (heap_lt h.sta) (fun e=>n6 (Option.some.inj e).symm)];exact h.sta
theorem Top9.next (h:Top9 F w0 w x bq bz s a g R D xss st Z nx) {m:Nat}:Top9 F w0 (w.setCell ⟨x,7,none⟩ (.int .u64 (m:Int))) x bq bz s a g R D xss st Z m:=by
 have gr:=grown_set_a w x 7 (.int .u64 (m:Int))
 obtain⟨n1,_,_,n4,n5,_⟩:=h.ne
 obtain⟨i',b',d'⟩:=h.apart gr h.fx h.lx n1 (fun j hj c hc=>(h.own j hj c hc).1)
 refine⟨i',b',?_,?_,?_,h.fx,h.fq,h.fz,h.lx,h.lq,h.lz,h.dl,h.sl,h.zl,h.n,d',h.own,fun i o hi=>by
  obtain⟨h1,h2,h3,h4,h5⟩:=h.fr i o hi
  exact⟨by rw[gr.block i (Array.getElem?_eq_some_iff.1 h1).1 (fun e=>h3 (Option.some.inj e))];exact h1,h2,h3,h4,h5⟩⟩
 ·rw[heap_setCell_same _ _ _ _ _ _ h.top]
  have:(kcells s g D bq nx bz).set 7 (.int .u64 (m:Int))=kcells s g D bq m bz:=by
   have hl:=h.dl
   match D,hl with
   | [p,q,r],_=>rfl
  rw[<- this]
  simp
 ·rw[gr.block bq (heap_lt h.seq) (fun e=>n4 (Option.some.inj e).symm)];exact h.seq
 ·rw[gr.block bz (heap_lt h.sta) (fun e=>n5 (Option.some.inj e).symm)];exact h.sta
theorem Top9.stale (h:Top9 F w0 w x bq bz s a g R D xss st Z nx) {j:Nat} {b:Bool}:Top9 F w0 (w.setCell ⟨bz,j,none⟩ (.bool b)) x bq bz s a g R D xss st (Z.set j b) nx:=by
 have gr:=grown_set_a w bz j (.bool b)
 obtain⟨_,_,n3,_,n5,n6⟩:=h.ne
 obtain⟨i',b',d'⟩:=h.apart gr h.fz h.lz n3 (fun j hj c hc=>(h.own j hj c hc).2.2)
 refine⟨i',b',?_,?_,?_,h.fx,h.fq,h.fz,h.lx,h.lq,h.lz,h.dl,h.sl,by rw[List.length_set];exact h.zl,h.n,d',h.own,fun i o hi=>by
  obtain⟨h1,h2,h3,h4,h5⟩:=h.fr i o hi
  exact⟨by rw[gr.block i (Array.getElem?_eq_some_iff.1 h1).1 (fun e=>h5 (Option.some.inj e))];exact h1,h2,h3,h4,h5⟩⟩
 ·rw[gr.block x (heap_lt h.top) (fun e=>n5 (Option.some.inj e))];exact h.top
 ·rw[gr.block bq (heap_lt h.seq) (fun e=>n6 (Option.some.inj e))];exact h.seq
 ·rw[heap_setCell_same _ _ _ _ _ _ h.sta]
  simp[bools,List.map_set]
theorem Top9.beside (h:Top9 F w0 w x bq bz s a g R D xss st Z nx) (o:Obj):Top9 F ⟨w0.w,fun i=>if i=w.heap.size then some o else w0.H i⟩ (w.alloc o) x bq bz s a g R D xss st Z nx:=by
 have k:=h.keep (World.grownBy_alloc w o none)
 refine⟨k.i,k.b,k.top,k.seq,k.sta,k.fx,k.fq,k.fz,k.lx,k.lq,k.lz,k.dl,k.sl,k.zl,k.n,k.dat,k.own,fun i o' hi=>?_⟩
 by_cases c:i=w.heap.size
 ·simp only[c,if_pos] at hi
  obtain rfl:=Option.some.inj hi
  subst c
  refine⟨heap_alloc_new w o,fun hf=>?_,fun e=>?_,fun e=>?_,fun e=>?_⟩
  ·have:=h.i.i.lt _ hf;omega
  ·have:=heap_lt h.top;omega
  ·have:=heap_lt h.seq;omega
  ·have:=heap_lt h.sta;omega
 ·simp only[c,if_false] at hi
  exact k.fr i o' hi
theorem Top9.c0 (h:Top9 F w0 w x bq bz s a g R D xss st Z nx):w.cell? ⟨x,0,none⟩=some (ptr s):=topCell h.top rfl
theorem Top9.c1 (h:Top9 F w0 w x bq bz s a g R D xss st Z nx):w.cell? ⟨x,1,none⟩=some (.int .i64 (g.k:Int)):=topCell h.top rfl
theorem Top9.c2 (h:Top9 F w0 w x bq bz s a g R D xss st Z nx):w.cell? ⟨x,2,none⟩=some (.int .i64 (g.n:Int)):=topCell h.top rfl
theorem Top9.cd (h:Top9 F w0 w x bq bz s a g R D xss st Z nx) {j:Nat} (hj:j < 3):w.cell? ⟨x,3+j,none⟩=some (D.getD j undef):=topCell h.top (by
 have hl:=h.dl
 match D,hl with
 | [p,q,r],_ =>
   match j,hj with
   | 0,_=>rfl
   | 1,_=>rfl
   | 2,_=>rfl)
theorem Top9.c6 (h:Top9 F w0 w x bq bz s a g R D xss st Z nx):w.cell? ⟨x,6,none⟩=some (.slice (some ⟨bq,0,none⟩) 3 3):=topCell h.top (by
 have hl:=h.dl
 match D,hl with
 | [p,q,r],_=>rfl)
theorem Top9.c7 (h:Top9 F w0 w x bq bz s a g R D xss st Z nx):w.cell? ⟨x,7,none⟩=some (.int .u64 (nx:Int)):=topCell h.top (by
 have hl:=h.dl
 match D,hl with
 | [p,q,r],_=>rfl)
theorem Top9.c8 (h:Top9 F w0 w x bq bz s a g R D xss st Z nx):w.cell? ⟨x,8,none⟩=some (.slice (some ⟨bz,0,none⟩) g.n g.n):=topCell h.top (by
 have hl:=h.dl
 match D,hl with
 | [p,q,r],_=>rfl)
theorem Top9.cq (h:Top9 F w0 w x bq bz s a g R D xss st Z nx) {j:Nat} (hj:j < 3):w.cell? ⟨bq,j,none⟩=some (.int .u64 ((st.getD j 0:Nat):Int)):=topCell h.seq (by
 have hl:=h.sl
 simp[us9,uw9,List.getD,show j < st.length by omega])
theorem Top9.cz (h:Top9 F w0 w x bq bz s a g R D xss st Z nx) {j:Nat} (hj:j < g.n):w.cell? ⟨bz,j,none⟩=some (.bool (Z.getD j false)):=topCell h.sta (by
 have hl:=h.zl
 simp[bools,List.getD,show j < Z.length by omega])
theorem Top9.stamps (h:Top9 F w0 w x bq bz s a g R D xss st Z nx):Cells w (.slice (some ⟨bq,0,none⟩) 3 3) (us9 st):=by
 have hl:=h.sl
 refine⟨by simp[us9,hl],some ⟨bq,0,none⟩,3,by simp[us9,hl],by simp[us9,hl],by decide,fun _=>⟨bq,0,rfl,fun j hj=>?_⟩⟩
 have hj':j < 3:=by simpa [us9,hl] using hj
 rw[Nat.zero_add,h.cq hj']
 simp[us9,uw9,List.getD,show j < st.length by omega]
theorem spoilt_yes (h:Top9 F w0 w x bq bz s a g R D xss st Z nx):Calls Tryz.prog 10 #[ptr x] w fun e w'=>e=.returned (.int .i64 (Z.count true:Int))/\w'=w:=by
 have c8:=h.c8
 have HC:Hid (∀ j,j < g.n->w.cell? ⟨bz,j,none⟩=some (.bool (Z.getD j false))):=fun j hj=>h.cz hj
 have HZ:Hid (Z.length=g.n):=h.zl
 have HN:Hid (g.n<=9):=h.n
 obtain⟨N,hN⟩:∃ N,N=g.n:=⟨_,rfl⟩
 rw[<- hN] at c8
 have HNN:Hid (N=g.n):=hN
 have hN9:N<=9:=by have:=HN.out;omega
 clear h hN
 go_enter Tryz.func10,Tryz.ntmps10
 go_wp2_with fail
 go_loopw [3,11] (fun tn ti wr=>∃ i:Nat,∃ c:Nat,i<=N/\ti=.int .i64 i/\tn=.int .i64 (c:Int)/\Hid (c=(Z.take i).count true)/\c<=i/\wr=w) (fun _ ti _=>N - (intOf ti).toNat)
 case atStart=>exact⟨0,0,by omega,rfl,rfl,by show _=_;simp,by omega,rfl⟩
 case round =>
  obtain⟨i,c,hi,rfl,rfl,HT,hc,rfl⟩:=hrel
  by_cases hlt:i < N
  ·have i3:(i:Int) < (N:Int):=by omega
   have i4:(0:Int)<=(i:Int):=by omega
   have cz:=HC.out i (by rw[<- HNN.out];exact hlt)
   have e:Z.take (i+1)=Z.take i++[Z.getD i false]:=by
    have hl:i < Z.length:=by rw[HZ.out,<- HNN.out];exact hlt
    rw[List.take_succ_eq_append_getElem hl]
    simp[List.getD,hl]
   have HE:Hid (Z.take (i+1)=Z.take i++[Z.getD i false]):=e
   clear e
   obtain⟨b,hb⟩:∃ b,b=Z.getD i false:=⟨_,rfl⟩
   rw[<- hb] at cz
   have HBB:Hid (b=Z.getD i false):=hb
   clear hb
   cases b
   ·go_wp2
    go_roundw
    case rel=>exact⟨i+1,c,by omega,by go_num,rfl,by show _=_;rw[HE.out,List.count_append,<- HBB.out,HT.out];simp,by omega,trivial⟩
    case measure=>simp[intOf];omega
   ·have hw:IntKind.i64.wrap ((c:Int)+1)=((c+1:Nat):Int):=by
     rw[show (c:Int)+1=((c+1:Nat):Int) by omega]
     exact IntWalk.i64_in _ (by omega)
    go_wp2
    go_roundw
    case rel=>exact⟨i+1,c+1,by omega,by go_num,rfl,by show _=_;rw[HE.out,List.count_append,<- HBB.out,HT.out];simp,by omega,trivial⟩
    case measure=>simp[intOf];omega
  ·have i3:¬ (i:Int) < (N:Int):=by omega
   have hin:Hid (i=Z.length):=by show _=_;rw[HZ.out,<- HNN.out];omega
   go_wp2
   go_ret
   exact⟨by rw[HT.out,hin.out,List.take_length];rfl,rfl⟩
end
section
variable {F:Nat->Prop} {w0:Fr9} {w:World} {x bq bz s a nx:Nat} {g:SP.Geo} {R R':AM.Raw} {D:List Value} {xss:List (List Nat)} {st:List Nat} {Z:List Bool}
theorem Top9.array (h:Top9 F w0 w x bq bz s a g R D xss st Z nx):Calls Tryz.prog 11 #[ptr s] w fun e w'=>e=.returned (ptr a)/\w'=w:=sarray_yes h.i
theorem Top9.write (h:Top9 F w0 w x bq bz s a g R D xss st Z nx) (hL:R.L.length<=990000) {slot:Int} {m c j:Nat} (hj:j < 3) {v:Value} {xs:List Nat} (hv:D.getD j undef=v) (hx:xss.getD j []=xs) (hc:SP.write R g slot m xs=(c,R')) :
 Calls Tryz.prog 27 #[ptr s,.int .i64 slot,.int .u64 (m:Int),v] w fun e w'=>e=.returned (.int .i64 (c:Int))/\∃ F',Top9 F' w0 w' x bq bz s a g R' D xss st Z nx:=by
 have hd:=h.dat j hj
 rw[hv,hx] at hd
 refine (swrite_all h.i slot m hd hL).mono ?_
 rw[hc]
 rintro e w' ⟨rfl,F',i',st'⟩
 exact⟨rfl,F',h.step i' st'⟩
theorem Top9.barrier (h:Top9 F w0 w x bq bz s a g R D xss st Z nx) {c:Nat} (hc:R.barrier=(c,R')):Calls Tryz.prog 16 #[ptr a] w fun e w'=>e=.returned (.int .i64 (c:Int))/\∃ F',Top9 F' w0 w' x bq bz s a g R' D xss st Z nx:=by
 have hk:=(SP.barrier_kept R).1
 rw[hc] at hk
 refine (barrier_at h.i.i rfl rfl).mono ?_
 rw[hc]
 rintro e w' ⟨rfl,F',i',st'⟩
 exact⟨rfl,F',h.step (h.i.step i' st' (h.i.ok.kept hk)) st'⟩
theorem Top9.lose (h:Top9 F w0 w x bq bz s a g R D xss st Z nx) {d:Int} {c:Nat} (hL:R.L.length<=1000000) (hc:R.lose d=(c,R')):Calls Tryz.prog 13 #[ptr a,.int .i64 d] w fun e w'=>e=.returned (.int .i64 (c:Int))/\∃ F',Top9 F' w0 w' x bq bz s a g R' D xss st Z nx:=by
 refine (si_lose h.i hL d).mono ?_
 rw[hc]
 rintro e w' ⟨rfl,F',i',st'⟩
 exact⟨rfl,F',h.step i' st'⟩
theorem Top9.replace (h:Top9 F w0 w x bq bz s a g R D xss st Z nx) {d:Int} {c:Nat} (hc:R.replace d=(c,R')):Calls Tryz.prog 14 #[ptr a,.int .i64 d] w fun e w'=>e=.returned (.int .i64 (c:Int))/\∃ F',Top9 F' w0 w' x bq bz s a g R' D xss st Z nx:=by
 have hg:=replace_kept9 h.i.ok d
 rw[hc] at hg
 refine (replace_at h.i.i rfl rfl).mono ?_
 rw[hc]
 rintro e w' ⟨rfl,F',i',st'⟩
 exact⟨rfl,F',h.step (h.i.step i' st' hg) st'⟩
theorem Top9.fuse (h:Top9 F w0 w x bq bz s a g R D xss st Z nx) {n:Int} (hn':n < 9223372036854775808):Calls Tryz.prog 18 #[ptr a,.int .i64 n] w fun e w'=>e=.returned (.tuple #[])/\∃ F',Top9 F' w0 w' x bq bz s a g (R.fused n) D xss st Z nx/\Step F w F' w':=by
 refine (fuse_at h.i.i hn' rfl).mono ?_
 rintro e w' ⟨rfl,F',i',st'⟩
 exact⟨rfl,F',h.step (h.i.step i' st' ⟨h.i.ok.k1,h.i.ok.kn,h.i.ok.n255,h.i.ok.s1,h.i.ok.s2,h.i.ok.room,h.i.ok.len⟩) st',st'⟩
theorem Top9.crash (h:Top9 F w0 w x bq bz s a g R D xss st Z nx) (hL:R.L.length<=1000000) {v:Value} {ps:List Nat} (hp:Vec w0.w v ps):Calls Tryz.prog 19 #[ptr a,v] w fun e w'=>e=.returned (.tuple #[])/\∃ F',Top9 F' w0 w' x bq bz s a g (R.crash ps) D xss st Z nx:=by
 refine (crash_at h.i.i hL (h.b.aw hp) rfl).mono ?_
 rintro e w' ⟨rfl,F',i',st'⟩
 exact⟨rfl,F',h.step (h.i.step i' st' (h.i.ok.kept (SP.crash_kept R ps).1)) st'⟩
theorem Top9.on (h:Top9 F w0 w x bq bz s a g R D xss st Z nx) {d:Int} {b:Bool} (hb:R.on d=b):Calls Tryz.prog 17 #[ptr a,.int .i64 d] w fun e w'=>e=.returned (.bool b)/\w'=w:=by
 rw[<- hb]
 exact on_yes h.i.i d
theorem Top9.ons (h:Top9 F w0 w x bq bz s a g R D xss st Z nx) {n:Nat} (hb:R.ons=n):Calls Tryz.prog 12 #[ptr a] w fun e w'=>e=.returned (.int .i64 (n:Int))/\w'=w:=by
 rw[<- hb]
 exact ons_yes h.i.i
theorem Top9.read (h:Top9 F w0 w x bq bz s a g R D xss st Z nx) {slot:Int} {m er:Nat} {out:List Nat} (hr:∀ out' er',SP.RdP R g slot m out' er'->out'=out/\er'=er):Calls Tryz.prog 20 #[ptr s,.int .i64 slot,.int .u64 (m:Int)] w fun e w'=>∃ p n c,e=.returned (.tuple #[.slice p n c,.int .i64 (er:Int)])/\Own w.heap.size w' (.slice p n c) out/\w.grownBy w' none:=by
 refine (sread_all h.i slot m).mono ?_
 rintro e w' ⟨v,er',out',rfl,h1,h2,h3⟩
 obtain⟨rfl,rfl⟩:=hr _ _ h1
 obtain⟨p,n,c,rfl,_⟩:=h2.vec.opened
 exact⟨p,n,c,rfl,h2,h3⟩
theorem Top9.margin (h:Top9 F w0 w x bq bz s a g R D xss st Z nx) {slot n:Int} {m er:Nat} (he:SP.askE R g slot m=er) (hl:SP.marg R g slot m=n):Calls Tryz.prog 21 #[ptr s,.int .i64 slot,.int .u64 (m:Int)] w fun e w'=>e=.returned (.tuple #[.int .i64 n,.int .i64 (er:Int)])/\w.grownBy w' none:=by
 refine (mmarg_all h.i slot m).mono ?_
 rw[he,hl]
 exact fun e w' h=>h
theorem Top9.all (h:Top9 F w0 w x bq bz s a g R D xss st Z nx) (hL:R.L.length+8 * g.n * g.s<=980000) :
 Calls Tryz.prog 15 #[ptr s,.slice (some ⟨bq,0,none⟩) 3 3] w fun e w'=>∃ n er R',e=.returned (.tuple #[.int .i64 ((n:Nat):Int),.int .i64 ((er:Nat):Int)])/\SP.allP (fun R=>SP.RdP R g) R g st n er R'/\∃ F',Top9 F' w0 w' x bq bz s a g R' D xss st Z nx/\Step F w F' w':=by
 refine (mall_all h.i h.stamps (fun b hb hf=>?_) hL).mono ?_
 ·have:bq=b:=by simpa [Value.ownBlock] using hb
  exact h.fq (this ▸ hf)
 ·rintro e w' ⟨n,er,R1,rfl,h1,F',i',st'⟩
  exact⟨n,er,R1,rfl,h1,F',h.step i' st',st'⟩
end
section
variable {F:Nat->Prop} {w0:Fr9} {w:World} {x bq bz s a nx:Nat} {g:SP.Geo} {R:AM.Raw} {D:List Value} {xss:List (List Nat)} {st:List Nat} {Z:List Bool}
set_option maxHeartbeats 6400000 in
theorem kwrite_yes (h:Top9 F w0 w x bq bz s a g R D xss st Z nx) {slot b:Nat} (hs:slot < 3) (hb:b < 256) (hx:xss.length=3) (hn:nx < 9223372036854775808) (hL:R.L.length<=990000) {R1 R2:AM.Raw} (h1:SP.write R g (slot:Int) nx (datL g.k b)=(0,R1)) (h2:R1.barrier=(0,R2)) :
 Calls Tryz.prog 9 #[ptr x,.int .i64 (slot:Int),.int .u8 (b:Int)] w fun e w'=>e=.returned (.bool true)/\KM w0 w' x bq bz s a g R2 (xss.set slot (datL g.k b)) (st.set slot nx) Z (nx+1):=by
 have HT:Hid (Top9 F w0 w x bq bz s a g R D xss st Z nx):=h
 have HK:Hid (1<=g.k/\g.k<=255/\b < 256/\xss.length=3/\R.L.length<=990000):=⟨h.i.ok.k1,by have:=h.i.ok.kn;have:=h.i.ok.n255;omega,hb,hx,hL⟩
 have H1:Hid (SP.write R g (slot:Int) nx (datL g.k b)=(0,R1)):=h1
 have H2:Hid (R1.barrier=(0,R2)):=h2
 have HCK:Hid (∀ W,w.grownBy W none->W.cell? ⟨x,1,none⟩=some (.int .i64 (g.k:Int))):=fun W gr=>(h.keep gr).c1
 have i0:(0:Int)<=(slot:Int):=by omega
 have i1:(slot:Int) < 3:=by omega
 have HS:Hid (slot < 3):=hs
 have hw:IntKind.u64.wrap ((nx:Int)+1)=((nx+1:Nat):Int):=by
  rw[show (nx:Int)+1=((nx+1:Nat):Int) by omega]
  exact IntWalk.u64_in _ ⟨by omega,by omega⟩
 clear h h1 h2 hs hb hx hL hn
 go_enter Tryz.func9,Tryz.ntmps9
 go_wp2_with fail
 refine region_late (S:=(fun w'=>w'.cell? ⟨x,1,none⟩=some (.int .i64 (g.k:Int)))) (by simp only[List.pop_toArray,List.dropLast];exact rfl) (by rfl) (by kernel_rfl) (by kernel_rfl) ?_ (fun hHeld=>?_)
 ·exact HCK.out _ (grown_drewN _ 1)
 refine wpAnyH_take (i:=0) (v:=?_) rfl (by kernel_rfl) (by kernel_rfl) (by kernel_rfl) (fun _ _ _ h=>h) (Or.inl ⟨by rfl,?_⟩) (by assumption) ?_
 rotate_left
 ·intro w hSw;(try dsimp only at hSw);first | (go_simp;done) | (go_simp;with_reducible rfl)
 simp only[Act.put,lay9]
 refine wpAnyH_take (i:=1) (v:=?_) rfl (by kernel_rfl) (by kernel_rfl) (by kernel_rfl) (fun _ _ _ h=>h) (Or.inl ⟨by rfl,?_⟩) (by assumption) ?_
 rotate_left
 ·intro w hSw;(try dsimp only at hSw);first | (go_simp;done) | (go_simp;with_reducible rfl)
 simp only[Act.put,lay9]
 refine wpAnyH_take (i:=2) (v:=?_) rfl (by kernel_rfl) (by kernel_rfl) (by kernel_rfl) (fun _ _ _ h=>h) (Or.inl ⟨by rfl,?_⟩) (by assumption) ?_
 rotate_left
 ·intro w hSw;(try dsimp only at hSw);first | (go_simp;done) | (go_simp;with_reducible rfl)
 simp only[Act.put,lay9]
 refine wpAnyH_take (i:=3) (v:=?_) rfl (by kernel_rfl) (by kernel_rfl) (by kernel_rfl) (fun _ _ _ h=>h) (Or.inl ⟨by rfl,?_⟩) (by assumption) ?_
 rotate_left
 ·intro w hSw;(try dsimp only at hSw);first | (go_simp;done) | (go_simp;with_reducible rfl)
 simp only[Act.put,lay9]
 refine wpAnyH_take (i:=4) (v:=?_) rfl (by kernel_rfl) (by kernel_rfl) (by kernel_rfl) (fun _ _ _ h=>h) (Or.inl ⟨by rfl,?_⟩) (by assumption) ?_
 rotate_left
 ·intro w hSw;(try dsimp only at hSw);first | (go_simp;done) | (go_simp;with_reducible rfl)
 simp only[Act.put,lay9]
 refine wpAnyH_take (i:=5) (v:=?_) rfl (by kernel_rfl) (by kernel_rfl) (by kernel_rfl) (fun _ _ _ h=>h) (Or.inl ⟨by rfl,?_⟩) (by assumption) ?_
 rotate_left
 ·intro w hSw;(try dsimp only at hSw);first | (go_simp;done) | (go_simp;with_reducible rfl)
 simp only[Act.put,lay9]
 refine wpAnyH_take (i:=6) (v:=?_) rfl (by kernel_rfl) (by kernel_rfl) (by kernel_rfl) (fun _ _ _ h=>h) (Or.inl ⟨by rfl,?_⟩) (by assumption) ?_
 rotate_left
 ·intro w hSw;(try dsimp only at hSw);first | (go_simp;done) | (go_simp;with_reducible rfl)
 simp only[Act.put,lay9]
 refine wpAnyH_take (i:=8) (v:=?_) rfl (by kernel_rfl) (by kernel_rfl) (by kernel_rfl) (fun _ _ _ h=>h) (Or.inl ⟨by rfl,?_⟩) (by assumption) ?_
 rotate_left
 ·intro w hSw;(try dsimp only at hSw);first | (go_simp;done) | (go_simp;with_reducible rfl)
 simp only[Act.put,lay9]
 refine wpAnyH_take (i:=9) (v:=?_) rfl (by kernel_rfl) (by kernel_rfl) (by kernel_rfl) (fun _ _ _ h=>h) (Or.inl ⟨by rfl,?_⟩) (by assumption) ?_
 rotate_left
 ·intro w hSw;(try dsimp only at hSw);first | (go_simp;done) | (go_simp;with_reducible rfl)
 simp only[Act.put,lay9]
 refine wpAnyH_ready (rs:=[7]) (by kernel_rfl) (by simp) ?_
 refine AllReadyH.cons rfl (fun K hK=>?_) AllReadyH.nil
 go_simp
 refine (data_yes w.drew HK.out.1 HK.out.2.1 HK.out.2.2.1).mono ?_
 rintro e w1 ⟨p1,n1,c1,rfl,o1,g1⟩
 have G1:Hid (w.grownBy w1 none):=grown_trans (grown_drewN _ 1) g1
 have O1:Hid (Own w.heap.size w1 (.slice p1 n1 c1) (datL g.k b)):=o1
 clear o1 g1
 refine hK.out _ _ (HCK.out _ G1.out) (fun hHeld=>?_)
 clear hK K
 (try simp only[Act.put,lay9])
 refine wpAnyH_take (i:=10) (v:=?_) rfl (by kernel_rfl) (by kernel_rfl) (by kernel_rfl) (fun _ _ _ h=>h) (Or.inl ⟨by rfl,?_⟩) (by assumption) ?_
 rotate_left
 ·intro w hSw;(try dsimp only at hSw);first | (go_simp;done) | (go_simp;with_reducible rfl)
 simp only[Act.put,lay9]
 refine wpAnyH_done (by kernel_rfl) ?_ _
 refine lastQ_normal ?_
 have T1:Top9 F w0 w1 x bq bz s a g R D xss st Z nx:=HT.out.keep G1.out
 have T2:Hid (Top9 F w0 (w1.setCell ⟨x,3+slot,none⟩ (.slice p1 n1 c1)) x bq bz s a g R (D.set slot (.slice p1 n1 c1)) (xss.set slot (datL g.k b)) st Z nx) :=
  T1.put HS.out (O1.out.aw HT.out.i.i.lt) (fun k hk=>by have h1:=O1.out.lo k hk;have h2:=heap_lt HT.out.top;have h3:=heap_lt HT.out.seq;have h4:=heap_lt HT.out.sta;refine⟨?_,?_,?_⟩ <;> omega) HK.out.2.2.2.1
 have f1:w1.frozen? ⟨x,3+slot,none⟩=false:=topFrozen (3+slot) T1.top
 have e1:=T1.cd HS.out
 clear T1 HCK
 go_wp2_with fail
 clear f1 e1
 obtain⟨w2,hw2⟩:∃ w2,w2=w1.setCell ⟨x,3+slot,none⟩ (.slice p1 n1 c1):=⟨_,rfl⟩
 rw[<- hw2] at T2 ⊢
 have G2:Hid (∀ W,w2.grownBy W none->Top9 F w0 W x bq bz s a g R (D.set slot (.slice p1 n1 c1)) (xss.set slot (datL g.k b)) st Z nx):=fun W gr=>T2.out.keep gr
 clear hw2
 refine region_late (S:=(fun w'=>w'.cell? ⟨x,6,none⟩=some (.slice (some ⟨bq,0,none⟩) 3 3)/\w'.cell? ⟨x,7,none⟩=some (.int .u64 (nx:Int)))) (by simp only[List.pop_toArray,List.dropLast];exact rfl) (by rfl) (by kernel_rfl) (by kernel_rfl) ?_ (fun hHeld=>?_)
 ·exact⟨(T2.out.keep (grown_drewN _ 1)).c6,(T2.out.keep (grown_drewN _ 1)).c7⟩
 refine wpAnyH_take (i:=0) (v:=?_) rfl (by kernel_rfl) (by kernel_rfl) (by kernel_rfl) (fun _ _ _ h=>h) (Or.inl ⟨by rfl,?_⟩) (by assumption) ?_
 rotate_left
 ·intro w hSw;(try dsimp only at hSw);first | (go_simp;done) | (go_simp;with_reducible rfl)
 simp only[Act.put,lay9]
 refine wpAnyH_take (i:=1) (v:=?_) rfl (by kernel_rfl) (by kernel_rfl) (by kernel_rfl) (fun _ _ _ h=>h) (Or.inl ⟨by rfl,?_⟩) (by assumption) ?_
 rotate_left
 ·intro w hSw;(try dsimp only at hSw);first | (go_simp;done) | (go_simp;with_reducible rfl)
 simp only[Act.put,lay9]
 refine wpAnyH_take (i:=2) (v:=?_) rfl (by kernel_rfl) (by kernel_rfl) (by kernel_rfl) (fun _ _ _ h=>h) (Or.inl ⟨by rfl,?_⟩) (by assumption) ?_
 rotate_left
 ·intro w hSw;(try dsimp only at hSw);first | (go_simp;done) | (go_simp;with_reducible rfl)
 simp only[Act.put,lay9]
 refine wpAnyH_take (i:=3) (v:=?_) rfl (by kernel_rfl) (by kernel_rfl) (by kernel_rfl) (fun _ _ _ h=>h) (Or.inl ⟨by rfl,?_⟩) (by assumption) ?_
 rotate_left
 ·intro w hSw;(try dsimp only at hSw);first | (go_simp;done) | (go_simp;with_reducible rfl)
 simp only[Act.put,lay9]
 refine wpAnyH_take (i:=4) (v:=?_) rfl (by kernel_rfl) (by kernel_rfl) (by kernel_rfl) (fun _ _ _ h=>h) (Or.inl ⟨by rfl,?_⟩) (by assumption) ?_
 rotate_left
 ·intro w hSw;(try dsimp only at hSw);first | (go_simp;done) | (go_simp;with_reducible rfl)
 simp only[Act.put,lay9]
 refine wpAnyH_take (i:=5) (v:=?_) rfl (by kernel_rfl) (by kernel_rfl) (by kernel_rfl) (fun _ _ _ h=>h) (Or.inl ⟨by rfl,?_⟩) (by assumption) ?_
 rotate_left
 ·intro w hSw;(try dsimp only at hSw);first | (go_simp;done) | (go_simp;with_reducible rfl)
 simp only[Act.put,lay9]
 refine wpAnyH_take (i:=6) (v:=?_) rfl (by kernel_rfl) (by kernel_rfl) (by kernel_rfl) (fun _ _ _ h=>h) (Or.inl ⟨by rfl,?_⟩) (by assumption) ?_
 rotate_left
 ·intro w hSw;(try dsimp only at hSw);first | (go_simp;done) | (go_simp;with_reducible rfl)
 simp only[Act.put,lay9]
 refine wpAnyH_take (i:=7) (v:=?_) rfl (by kernel_rfl) (by kernel_rfl) (by kernel_rfl) (fun _ _ _ h=>h) (Or.inl ⟨by rfl,?_⟩) (by assumption) ?_
 rotate_left
 ·intro w hSw;(try dsimp only at hSw);first | (go_simp;done) | (go_simp;with_reducible rfl)
 simp only[Act.put,lay9]
 refine wpAnyH_take (i:=8) (v:=?_) rfl (by kernel_rfl) (by kernel_rfl) (by kernel_rfl) (fun _ _ _ h=>h) (Or.inl ⟨by rfl,?_⟩) (by assumption) ?_
 rotate_left
 ·intro w hSw;(try dsimp only at hSw);first | (go_simp;done) | (go_simp;with_reducible rfl)
 simp only[Act.put,lay9]
 refine wpAnyH_take (i:=9) (v:=?_) rfl (by kernel_rfl) (by kernel_rfl) (by kernel_rfl) (fun _ _ _ h=>h) (Or.inl ⟨by rfl,?_⟩) (by assumption) ?_
 rotate_left
 ·intro w hSw;(try dsimp only at hSw);first | (go_simp;done) | (go_simp;with_reducible rfl)
 simp only[Act.put,lay9]
 refine wpAnyH_done (by kernel_rfl) ?_ _
 refine lastQ_normal ?_
 have T3:Hid (Top9 F w0 (w2.setCell ⟨bq,slot,none⟩ (.int .u64 (nx:Int))).drew x bq bz s a g R (D.set slot (.slice p1 n1 c1)) (xss.set slot (datL g.k b)) (st.set slot nx) Z nx):=(T2.out.mark HS.out).keep (grown_drewN _ 1)
 have f2:w2.frozen? ⟨bq,slot,none⟩=false:=topFrozen slot T2.out.seq
 have e2:=T2.out.cq HS.out
 have c7:=T3.out.c7
 have f7:(w2.setCell ⟨bq,slot,none⟩ (.int .u64 (nx:Int))).drew.frozen? ⟨x,7,none⟩=false:=topFrozen 7 T3.out.top
 have enx:((nx+1:Nat):Int)=(nx:Int)+1:=by omega
 have T4:Hid (Top9 F w0 ((w2.setCell ⟨bq,slot,none⟩ (.int .u64 (nx:Int))).setCell ⟨x,7,none⟩ (.int .u64 ((nx:Int)+1))).drew x bq bz s a g R (D.set slot (.slice p1 n1 c1)) (xss.set slot (datL g.k b)) (st.set slot nx) Z (nx+1)):=by
  have:=((T2.out.mark (m:=nx) HS.out).next (m:=nx+1)).keep (grown_drewN _ 1)
  rw[enx] at this
  exact this
 rw[enx] at hw
 clear T2 T3 G2 enx
 go_wp2_with fail
 clear f2 e2 c7 f7 hw
 obtain⟨w4,hw4⟩:∃ w4,w4=((w2.setCell ⟨bq,slot,none⟩ (.int .u64 (nx:Int))).setCell ⟨x,7,none⟩ (.int .u64 ((nx:Int)+1))).drew:=⟨_,rfl⟩
 rw[<- hw4] at T4 ⊢
 clear hw4
 have eD:(D.set slot (.slice p1 n1 c1)).getD slot undef=.slice p1 n1 c1:=by
  have h1:=HT.out.dl
  have h2:=HS.out
  simp[List.getD,h1,h2]
 have eX:(xss.set slot (datL g.k b)).getD slot []=datL g.k b:=by
  have h1:=HK.out.2.2.2.1
  have h2:=HS.out
  simp[List.getD,h1,h2]
 have eS:(st.set slot nx).getD slot 0=nx:=by
  have h1:=HT.out.sl
  have h2:=HS.out
  simp[List.getD,h1,h2]
 have HE:Hid ((D.set slot (.slice p1 n1 c1)).getD slot undef=.slice p1 n1 c1/\(xss.set slot (datL g.k b)).getD slot []=datL g.k b):=⟨eD,eX⟩
 have HCC:Hid (∀ {F':Nat->Prop} {W:World} {R':AM.Raw},Top9 F' w0 W x bq bz s a g R' (D.set slot (.slice p1 n1 c1)) (xss.set slot (datL g.k b)) (st.set slot nx) Z (nx+1)->W.cell? ⟨x,0,none⟩=some (ptr s)/\W.cell? ⟨x,6,none⟩=some (.slice (some ⟨bq,0,none⟩) 3 3)/\W.cell? ⟨bq,slot,none⟩=some (.int .u64 (nx:Int))/\W.cell? ⟨x,3+slot,none⟩=some (.slice p1 n1 c1)):=fun t=>⟨t.c0,t.c6,by rw[t.cq HS.out,eS],by rw[t.cd HS.out,eD]⟩
 have T5:Hid (Top9 F w0 w4.drew x bq bz s a g R (D.set slot (.slice p1 n1 c1)) (xss.set slot (datL g.k b)) (st.set slot nx) Z (nx+1)):=T4.out.keep (grown_drewN _ 1)
 clear T4 eD eX eS HT O1 G1
 go_region_held3 (fun w'=>w'.cell? ⟨x,0,none⟩=some (ptr s)/\w'.cell? ⟨x,6,none⟩=some (.slice (some ⟨bq,0,none⟩) 3 3)/\w'.cell? ⟨bq,slot,none⟩=some (.int .u64 (nx:Int))/\w'.cell? ⟨x,3+slot,none⟩=some (.slice p1 n1 c1)) (first | exact HCC.out T7.out | exact HCC.out T6.out | exact HCC.out T5.out) (first
  | (go_at_call 27;refine (T5.out.write HK.out.2.2.2.2 HS.out HE.out.1 HE.out.2 H1.out).mono ?_;rintro e w6 ⟨rfl,F6,t6⟩;have T6:Hid (Top9 F6 w0 w6 x bq bz s a g R1 (D.set slot (.slice p1 n1 c1)) (xss.set slot (datL g.k b)) (st.set slot nx) Z (nx+1)):=t6;clear t6)
  | (go_at_call 11;refine (T6.out.array).mono ?_;rintro e w5 ⟨rfl,hw⟩;obtain rfl:=hw.symm;clear hw)
  | (go_at_call 16;refine (T6.out.barrier H2.out).mono ?_;rintro e w7 ⟨rfl,F7,t7⟩;have T7:Hid (Top9 F7 w0 w7 x bq bz s a g R2 (D.set slot (.slice p1 n1 c1)) (xss.set slot (datL g.k b)) (st.set slot nx) Z (nx+1)):=t7;clear t7))
 go_wp2
 go_ret
 exact⟨rfl,T7.out.km⟩
end
theorem Tryz.under3:Tryz.prog.underlying 38=some (.array 3 26):=by kernel_rfl
theorem run_index3 (d0 d1 d2:Value) {i:Nat} (hi:i < 3) (W:World):(Instr.index 38 (.agg #[d0,d1,d2]) (.int .i64 (i:Int))).run Tryz.prog W=.ok (([d0,d1,d2]:List Value).getD i undef) W:=by
 match i,hi with
 | 0,_=>simp[Instr.index,run_underlying Tryz.under3,asIntOf,go_sem]
 | 1,_=>simp[Instr.index,run_underlying Tryz.under3,asIntOf,go_sem]
 | 2,_=>simp[Instr.index,run_underlying Tryz.under3,asIntOf,go_sem]
section
variable {F:Nat->Prop} {w0:Fr9} {w:World} {x bq bz s a nx:Nat} {g:SP.Geo} {R:AM.Raw} {D:List Value} {xss:List (List Nat)} {st:List Nat} {Z:List Bool}
set_option maxHeartbeats 6400000 in
theorem kwhole_yes (h:Top9 F w0 w x bq bz s a g R D xss st Z nx) (hp:SP.Kp 3 R g st xss Z) (h0:R.off=false) :
 Calls Tryz.prog 7 #[ptr x] w fun e w'=>e=.returned (.bool true)/\w.grownBy w' none:=by
 have HT:Hid (∀ W,w.grownBy W none->Top9 F w0 W x bq bz s a g R D xss st Z nx):=fun W gr=>h.keep gr
 have HP:Hid (SP.Kp 3 R g st xss Z/\R.off=false):=⟨hp,h0⟩
 obtain⟨d0,d1,d2,hD⟩:∃ d0 d1 d2,D=[d0,d1,d2]:=by
  have hl:=h.dl
  match D,hl with
  | [p,q,r],_=>exact⟨p,q,r,rfl⟩
 subst hD
 have c3:w.cell? ⟨x,3,none⟩=some d0:=h.cd (j:=0) (by omega)
 have c4:w.cell? ⟨x,4,none⟩=some d1:=h.cd (j:=1) (by omega)
 have c5:w.cell? ⟨x,5,none⟩=some d2:=h.cd (j:=2) (by omega)
 have HG:Hid (w.grownBy w none):=World.grownBy.refl _ _
 have HO:Hid (∀ j,j < 3->([d0,d1,d2]:List Value)[j]?=some (([d0,d1,d2]:List Value).getD j undef)):=fun j hj=>by
  match j,hj with
  | 0,_=>rfl
  | 1,_=>rfl
  | 2,_=>rfl
 clear h hp h0
 go_enter Tryz.func7,Tryz.ntmps7
 go_wp2_with fail
 go_loopw [13] (fun ti wr=>∃ i:Nat,i<=3/\ti=.int .i64 i/\Hid (w.grownBy wr none)) (fun ti _=>3 - (intOf ti).toNat)
 case atStart=>exact⟨0,by omega,rfl,HG⟩
 case round =>
  clear HG c3 c4 c5
  obtain⟨i,hi,rfl,GK⟩:=hrel
  by_cases hlt:i < 3
  ·have i3:(i:Int) < 3:=by omega
   have i4:(0:Int)<=(i:Int):=by omega
   obtain⟨pd,nd,cd,hd,hnd⟩:=((HT.out wr GK.out).dat i hlt).vec.opened
   clear hnd
   have hix:∀ W,(Instr.index 38 (.agg #[d0,d1,d2]) (.int .i64 (i:Int))).run Tryz.prog W=.ok (.slice pd nd cd) W:=fun W=>by rw[run_index3 d0 d1 d2 hlt W,hd]
   have HV:Hid (∀ W,w.grownBy W none->Vec W (.slice pd nd cd) (xss.getD i [])):=fun W gr=>by
    have:=((HT.out W gr).dat i hlt).vec
    rw[hd] at this
    exact this
   obtain⟨m,hm⟩:∃ m,m=st.getD i 0:=⟨_,rfl⟩
   have HC:Hid (∀ W,w.grownBy W none->W.cell? ⟨x,0,none⟩=some (ptr s)/\W.cell? ⟨x,6,none⟩=some (.slice (some ⟨bq,0,none⟩) 3 3)/\W.cell? ⟨bq,i,none⟩=some (.int .u64 (m:Int))):=fun W gr=>⟨(HT.out W gr).c0,(HT.out W gr).c6,by rw[hm];exact (HT.out W gr).cq hlt⟩
   obtain⟨M,hM⟩:∃ M,SP.marg R g (i:Int) m=M:=⟨_,rfl⟩
   have hmg:=HP.out.1.marg HP.out.2 hlt
   rw[<- hm,hM] at hmg
   have HR:Hid (∀ out' er',SP.RdP R g (i:Int) m out' er'->out'=xss.getD i []/\er'=0):=fun out' er' hr=>HP.out.1.read HP.out.2 hlt (by rw[<- hm];exact hr)
   have HM:Hid (SP.askE R g (i:Int) m=0/\SP.marg R g (i:Int) m=M):=⟨hmg.2,hM⟩
   obtain⟨C,hC⟩:∃ C,C=Z.count true:=⟨_,rfl⟩
   have HCC:Hid (C=Z.count true):=hC
   obtain⟨gk,hgk⟩:∃ gk,gk=g.k:=⟨_,rfl⟩
   obtain⟨gn,hgn⟩:∃ gn,gn=g.n:=⟨_,rfl⟩
   have HKN:Hid (gk=g.k/\gn=g.n):=⟨hgk,hgn⟩
   have h1:=hmg.1
   rw[<- hC,<- hgk,<- hgn] at h1
   have bn:gn<=255:=by rw[hgn];exact HP.out.1.geo.n255
   have bk:gk<=gn:=by rw[hgn,hgk];have:=HP.out.1.geo.kn;omega
   have bC:C<=gn:=by have:=HP.out.1.z;rw[<- hC,<- hgk,<- hgn] at this;omega
   have hw1:IntKind.i64.wrap ((gn:Int) - (gk:Int))=(gn:Int) - (gk:Int):=IntWalk.i64_in _ (by omega)
   have hw2:IntKind.i64.wrap ((gn:Int) - (gk:Int) - (C:Int))=(gn:Int) - (gk:Int) - (C:Int):=IntWalk.i64_in _ (by omega)
   have hlt2:¬ M < (gn:Int) - (gk:Int) - (C:Int):=by omega
   have HCC2:Hid (∀ W,w.grownBy W none->W.cell? ⟨x,1,none⟩=some (.int .i64 (gk:Int))/\W.cell? ⟨x,2,none⟩=some (.int .i64 (gn:Int))):=fun W gr=>⟨by rw[hgk];exact (HT.out W gr).c1,by rw[hgn];exact (HT.out W gr).c2⟩
   have HGD:Hid (w.grownBy wr.drew none):=grown_trans GK.out (grown_drewN _ 1)
   clear h1 hmg hm hM hd hC hgk hgn bn bk bC
   go_wp2_with fail
   go_region_held3 (fun w'=>w'.cell? ⟨x,0,none⟩=some (ptr s)/\w'.cell? ⟨x,6,none⟩=some (.slice (some ⟨bq,0,none⟩) 3 3)/\w'.cell? ⟨bq,i,none⟩=some (.int .u64 (m:Int))) (first | exact HC.out _ G5.out | exact HC.out _ HGD.out)
    (first | (go_at_call 20;refine ((HT.out _ HGD.out).read HR.out).mono ?_;rintro e w5 ⟨p9,n9,c9,rfl,o5,g5⟩;have G5:Hid (w.grownBy w5 none):=grown_trans HGD.out g5;have V5:Hid (Vec w5 (.slice p9 n9 c9) (xss.getD i [])):=o5.vec;clear o5 g5))
   have G5D:Hid (w.grownBy w5.drew none):=grown_trans G5.out (grown_drewN _ 1)
   have V5D:Hid (Vec w5.drew (.slice p9 n9 c9) (xss.getD i [])):=V5.out.keep (grown_drewN _ 1)
   clear V5
   go_wp2_with fail
   go_region_held3 (fun w'=>w'.cell? ⟨x,0,none⟩=some (ptr s)/\w'.cell? ⟨x,6,none⟩=some (.slice (some ⟨bq,0,none⟩) 3 3)/\w'.cell? ⟨bq,i,none⟩=some (.int .u64 (m:Int))) (first | exact HC.out _ G6.out | exact HC.out _ G5D.out)
    (first | (go_at_call 21;refine ((HT.out _ G5D.out).margin HM.out.1 HM.out.2).mono ?_;rintro e w6 ⟨rfl,g6⟩;have G6:Hid (w.grownBy w6 none):=grown_trans G5D.out g6;have V6:Hid (Vec w6 (.slice p9 n9 c9) (xss.getD i [])):=V5D.out.keep g6;clear g6))
   have G6D:Hid (w.grownBy w6.drew none):=grown_trans G6.out (grown_drewN _ 1)
   have V6D:Hid (Vec w6.drew (.slice p9 n9 c9) (xss.getD i [])):=V6.out.keep (grown_drewN _ 1)
   obtain⟨sx,hsx⟩:∃ sx,sx=strOf (xss.getD i []):=⟨_,rfl⟩
   have HSX:Hid ((convert 26 9 (.slice p9 n9 c9)).run Tryz.prog w6.drew=.ok (.string sx) w6.drew/\(convert 26 9 (.slice pd nd cd)).run Tryz.prog w6.drew=.ok (.string sx) w6.drew):=⟨by rw[hsx];exact convert_vec V6D.out,by rw[hsx];exact convert_vec (HV.out _ G6D.out)⟩
   clear V6 V5D hsx
   go_wp2_with fail
   go_region_held3 (fun w'=>w'.cell? ⟨x,1,none⟩=some (.int .i64 (gk:Int))/\w'.cell? ⟨x,2,none⟩=some (.int .i64 (gn:Int))/\(convert 26 9 (.slice p9 n9 c9)).run Tryz.prog w'=.ok (.string sx) w'/\(convert 26 9 (.slice pd nd cd)).run Tryz.prog w'=.ok (.string sx) w') (exact⟨(HCC2.out _ G6D.out).1,(HCC2.out _ G6D.out).2,HSX.out.1,HSX.out.2⟩)
    (first | (go_at_call 10;refine (spoilt_yes (HT.out _ G6D.out)).mono ?_;rw[<- HCC.out];rintro e w7 ⟨rfl,hw7⟩;obtain rfl:=hw7.symm;clear hw7))
   go_wp2
   go_roundw
   case rel=>exact⟨i+1,by omega,by go_num,G6D.out⟩
   case measure=>simp[intOf];omega
  ·have i3:¬ (i:Int) < 3:=by omega
   go_wp2
   go_ret
   exact⟨rfl,GK.out⟩
end
theorem trem (d n:Nat):(d:Int).tmod (n:Int)=((d % n:Nat):Int):=rfl
section
variable {F:Nat->Prop} {w0:Fr9} {w:World} {x bq bz s a nx:Nat} {g:SP.Geo} {R:AM.Raw} {D:List Value} {xss:List (List Nat)} {st:List Nat} {Z:List Bool}
theorem Top9.turned (h:Top9 F w0 w x bq bz s a g R D xss st Z nx) (C:Array Value):(∀ W,(w.alloc (.cells C 28)).grownBy W none->Top9 F w0 W x bq bz s a g R D xss st Z nx)/\¬ F w.heap.size/\(w.alloc (.cells C 28)).heap[w.heap.size]?=some (.cells C 28 (0,0)) :=
 ⟨fun W gr=>h.keep (grown_trans (World.grownBy_alloc w _ none) gr),fun hf=>by have:=h.i.i.lt _ hf;omega,heap_alloc_new w _⟩
end
end Go.Proofs.YtlklmhojadlncaaGreat
