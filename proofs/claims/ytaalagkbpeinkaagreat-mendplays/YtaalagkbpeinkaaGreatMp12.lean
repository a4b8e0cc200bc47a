/- Packed: Late, RBlk6, RRepl6, RNew6. -/
import Derived.Test.YtaalagkbpeinkaaGreatMp11
set_option linter.unusedSimpArgs false
set_option linter.unusedVariables false
set_option maxRecDepth 100000
namespace Go.Proofs.YtaalagkbpeinkaaGreat
section
variable {P:Program} {md:Region.Mode} {Q:Exit->Act->World->Prop} {S:World->Prop}
def lastQ (P:Program) (ops:Array Oper) (o:Oper) (Q:Exit->Act->World->Prop):Exit->Act->World->Prop
 | .normal,a,w=>wpList P ops Q [o] a w
 | e,a,w=>Q e a w
def waits (md:Region.Mode) (ops:Array Oper):Nat->Nat->Nat->Bool
 | 0,_,_=>false
 | n+1,j,i=>match ops[j]? with
   | none=>false
   | some o=>o.after.any (fun e=>Region.binds md e&&(e.on==i || waits md ops n e.on i))
def lastOk (md:Region.Mode) (ops:Array Oper):Bool :=
 (List.range ops.size).all (fun j=>match ops[j]? with
   | none=>false
   | some o=>o.guard.isNone&&o.after.all (fun e=>!(Region.binds md e) || decide (e.on < j))) &&
 (List.range (ops.size - 1)).all (fun i=>waits md ops ops.size (ops.size - 1) i)
def Down (md:Region.Mode) (ops:Array Oper) (listed:Array Bool):Prop :=
 ∀ (j:Nat) (o:Oper),ops[j]?=some o->listed.getD j false=true->∀ e ∈ o.after,Region.binds md e=true->listed.getD e.on false=true
theorem getD_any {l:Array Bool} {i:Nat} (h:i < l.size) (b c:Bool):l.getD i b=l.getD i c:=by simp[h]
theorem waits_listed {ops:Array Oper} {listed:Array Bool} (hd:Down md ops listed):∀ (n j i:Nat),waits md ops n j i=true->(∀ o,ops[j]?=some o->∀ e ∈ o.after,Region.binds md e=true->listed.getD e.on false=true)->listed.getD i false=true:=by
 intro n
 induction n with
 | zero=>intro j i h;cases h
 | succ n ih =>
   intro j i h hj
   unfold waits at h
   cases ho:ops[j]? with
   | none=>rw[ho] at h;cases h
   | some o =>
     rw[ho] at h
     obtain⟨e,he,h1⟩:=Array.any_eq_true'.1 h
     simp only[Bool.and_eq_true,Bool.or_eq_true,beq_iff_eq] at h1
     have hl:=hj o ho e he h1.1
     rcases h1.2 with h2 | h2
     ·rw[<- h2];exact hl
     ·exact ih e.on i h2 (fun o' ho' e' he' hb'=>hd e.on o' ho' hl e' he' hb')
theorem letsOut_last {ops:Array Oper} {oL:Oper} (h:LetsOut (lastQ P ops oL Q)):LetsOut Q:=by
 obtain⟨a,w,h⟩:=h
 exact⟨a,w,h⟩
theorem wp_last {ops:Array Oper} {oL o:Oper} {a:Act} {w:World} {K K':Act->World->Prop} (hK:∀ a w,K a w->K' a w) (h:Oper.wp P o a w K (lastQ P ops oL Q)):Oper.wp P o a w K' Q:=by
 unfold Oper.wp at *
 generalize (execOp a.eval o).run P w=r at *
 cases r with
 | ok n w' =>
   cases n <;> simp only[Oper.upon] at h ⊢
   case value u=>exact hK _ _ h
   case skip=>exact hK _ _ h
   case defer d=>exact hK _ _ h
   case enter f args =>
    refine Calls.mono h fun e w'' he=>?_
    cases e with
    | returned u=>exact hK _ _ he
    | panicked c=>exact he
    | outgrown=>exact letsOut_last he
   case row row args=>exact Rows.mono h fun u w'' he=>hK _ _ he
 | halt x w' =>
   cases x <;> simp only[Oper.upon] at h ⊢
   case panic u=>exact h
theorem push_getD (listed:Array Bool) (x:Nat):(listed.push false).getD x false=listed.getD x false:=by
 by_cases h:x < listed.size
 ·simp[Array.getElem?_push,h,Nat.ne_of_lt h]
 ·by_cases h2:x=listed.size
  ·subst h2;simp
  ·have h3:¬ x < (listed.push false).size:=by simp;omega
   simp only[Array.getD,h,h3,dif_neg,not_false_eq_true]
theorem ready_push {ops:Array Oper} {oL:Oper} {listed:Array Bool} (hs:listed.size=ops.size) {j:Nat} (hj:j < ops.size):j ∈ Region.ready md (ops.push oL) (listed.push false) ↔ j ∈ Region.ready md ops listed:=by
 rw[mem_ready,mem_ready]
 have e1:(listed.push false).getD j true=listed.getD j true:=by
  rw[getD_any (by simp;omega) true false,push_getD,getD_any (by omega) false true]
 have e2:(ops.push oL)[j]?=ops[j]?:=by rw[Array.getElem?_push,if_neg (by omega)]
 rw[e1,e2]
 simp only[push_getD]
structure LastOk (md:Region.Mode) (ops:Array Oper) (oL:Oper):Prop where
 gd:∀ (j:Nat) (o:Oper),(ops.push oL)[j]?=some o->o.guard=none
 lt:∀ (j:Nat) (o:Oper),(ops.push oL)[j]?=some o->∀ e ∈ o.after,Region.binds md e=true->e.on < j
 all:∀ i:Nat,i < ops.size->∃ n,waits md (ops.push oL) n ops.size i=true
theorem lastOk_of {ops:Array Oper} {oL:Oper} (h:lastOk md (ops.push oL)=true):LastOk md ops oL:=by
 unfold lastOk at h
 simp only[Bool.and_eq_true,List.all_eq_true,List.mem_range] at h
 obtain⟨h1,h2⟩:=h
 have key:∀ (j:Nat) (o:Oper),(ops.push oL)[j]?=some o->o.guard.isNone=true/\∀ e ∈ o.after,(!(Region.binds md e) || decide (e.on < j))=true:=fun j o ho=>by
  have:=h1 j (Array.getElem?_eq_some_iff.1 ho).1
  rw[ho] at this
  simp only[Bool.and_eq_true] at this
  refine⟨this.1,fun e he=>?_⟩
  have:=Array.all_eq_true'.1 this.2
  exact this e he
 refine⟨fun j o ho=>by simpa using (key j o ho).1,fun j o ho e he hb=>?_,fun i hi=>⟨(ops.push oL).size,?_⟩⟩
 ·have:=(key j o ho).2 e he
  simpa [hb] using this
 ·have:=h2 i (by simp;omega)
  simpa using this
theorem down_push {ops:Array Oper} {oL:Oper} {listed:Array Bool} (hs:listed.size=ops.size) (hd:Down md ops listed):Down md (ops.push oL) (listed.push false):=fun j o ho hj e he hb=>by
 rw[push_getD] at hj ⊢
 have hlt:j < ops.size:=by
  rcases Nat.lt_or_ge j listed.size with h | h
  ·omega
  ·simp[Array.getElem?_eq_none h] at hj
 rw[Array.getElem?_push,if_neg (by omega)] at ho
 exact hd j o ho hj e he hb
theorem down_set {ops:Array Oper} {listed:Array Bool} (hd:Down md ops listed) {i:Nat} (hi:i ∈ Region.ready md ops listed):Down md ops (listed.setIfInBounds i true):=fun j o ho hj e he hb=>by
 refine getD_set_true ?_
 by_cases c:i=j
 ·subst c
  obtain⟨_,o',ho',hall⟩:=mem_ready.1 hi
  rw[ho] at ho'
  obtain rfl:=Option.some.inj ho'
  exact hall e he hb
 ·rw[_root_.Go.getD_set_ne false c] at hj
  exact hd j o ho hj e he hb
theorem all_listed {ops:Array Oper} {oL:Oper} {listed:Array Bool} (hok:LastOk md ops oL) (hs:listed.size=ops.size) (hr:Region.ready md ops listed=[]):∀ n j,j < n->j < ops.size->listed.getD j false=true:=by
 intro n
 induction n with
 | zero=>intro j hj;omega
 | succ n ih =>
   intro j hjn hj
   cases hc:listed.getD j false with
   | true=>rfl
   | false =>
     have:j ∈ Region.ready md ops listed:=by
      rw[mem_ready]
      have ho:ops[j]?=some ops[j]:=Array.getElem?_eq_getElem hj
      refine⟨by rw[getD_any (by omega) true false];exact hc,_,ho,fun e he hb=>?_⟩
      have hlt:=hok.lt j ops[j] (by rw[Array.getElem?_push,if_neg (by omega)];exact ho) e he hb
      exact ih e.on (by omega) (by omega)
     rw[hr] at this
     cases this
theorem lastOp_step {ops:Array Oper} {oL:Oper} {listed:Array Bool} {a:Act} {w:World} (hok:LastOk md ops oL) (hs:listed.size=ops.size) (hr:Region.ready md ops listed=[]) (h:lastQ P (ops.push oL) oL Q .normal a w):∀ fuel,wpAny P md (ops.push oL) Q (fuel+1) (listed.push false) a w:=by
 have hall:=all_listed hok hs hr
 have hL:(ops.push oL)[ops.size]?=some oL:=by simp
 have hmem:ops.size ∈ Region.ready md (ops.push oL) (listed.push false):=by
  rw[mem_ready]
  refine⟨by rw[<- hs];simp,oL,hL,fun e he hb=>?_⟩
  have:=hok.lt _ _ hL e he hb
  rw[push_getD]
  exact hall _ _ (Nat.lt_succ_self _) this
 have honly:∀ i ∈ Region.ready md (ops.push oL) (listed.push false),i=ops.size:=fun i hi=>by
  obtain⟨_,o,ho,_⟩:=mem_ready.1 hi
  have hlt:=(Array.getElem?_eq_some_iff.1 ho).1
  simp at hlt
  rcases Nat.lt_or_ge i ops.size with h | h
  ·rw[ready_push hs h,hr] at hi;cases hi
  ·omega
 have hdone:Region.ready md (ops.push oL) ((listed.push false).setIfInBounds ops.size true)=[]:=by
  apply List.eq_nil_iff_forall_not_mem.2
  intro i hi
  have h0:=(mem_ready.1 hi).1
  obtain⟨_,o,ho,_⟩:=mem_ready.1 hi
  have hlt:=(Array.getElem?_eq_some_iff.1 ho).1
  simp at hlt
  by_cases c:ops.size=i
  ·subst c
   rw[<- hs] at h0
   simp at h0
  ·rw[_root_.Go.getD_set_ne true c,getD_any (by simp;omega) true false,push_getD,hall (i+1) i (Nat.lt_succ_self _) (by omega)] at h0
   cases h0
 intro fuel
 refine⟨fun h0=>(by rw[h0] at hmem;cases hmem),fun i hi=>?_⟩
 obtain rfl:=honly i hi
 have hfin:∀ a w,wpList P (ops.push oL) Q [] a w->wpAny P md (ops.push oL) Q fuel ((listed.push false).setIfInBounds ops.size true) a w:=fun a w h=>wpAny_done hdone h fuel
 have h':if Region.wanted oL (yielded (ops.push oL) a.tmps) then oL.wp P a w (wpList P (ops.push oL) Q []) Q\/(oL.asks P a w/\LetsOut Q) else wpList P (ops.push oL) Q [] (a.put oL.dst undef) w:=h
 refine wpOp_mono hfin ?_
 unfold wpOp
 rw[hL]
 exact h'
theorem any_last {ops:Array Oper} {oL:Oper} (hok:LastOk md ops oL):∀ (fuel:Nat) (listed:Array Bool) (a:Act) (w:World),listed.size=ops.size->Down md ops listed->wpAnyH P md ops (lastQ P (ops.push oL) oL Q) S fuel listed a w->wpAny P md (ops.push oL) Q (fuel+1) (listed.push false) a w:=by
 intro fuel
 induction fuel with
 | zero=>intro listed a w hs hd h;exact lastOp_step hok hs h.1 h.2 0
 | succ fuel ih =>
   intro listed a w hs hd h
   by_cases hr:Region.ready md ops listed=[]
   ·exact lastOp_step hok hs hr (h.1 hr) (fuel+1)
   ·obtain⟨i0,hi0⟩:=List.exists_mem_of_ne_nil _ hr
    have hL:(ops.push oL)[ops.size]?=some oL:=by simp
    have hno:ops.size ∉ Region.ready md (ops.push oL) (listed.push false):=fun hm=>by
     obtain⟨_,o,ho,hall⟩:=mem_ready.1 hm
     rw[hL] at ho
     obtain rfl:=Option.some.inj ho
     obtain⟨h0,o',ho',_⟩:=mem_ready.1 hi0
     have hlt:=(Array.getElem?_eq_some_iff.1 ho').1
     obtain⟨n,hn⟩:=hok.all i0 hlt
     have:=waits_listed (down_push hs hd) n _ _ hn (fun o ho=>by
      rw[hL] at ho
      obtain rfl:=Option.some.inj ho
      exact hall)
     rw[push_getD,getD_any (by omega) false true,h0] at this
     cases this
    have hto:∀ i ∈ Region.ready md (ops.push oL) (listed.push false),i < ops.size/\i ∈ Region.ready md ops listed:=fun i hi=>by
     obtain⟨_,o,ho,_⟩:=mem_ready.1 hi
     have hlt:=(Array.getElem?_eq_some_iff.1 ho).1
     simp at hlt
     have hne:i ≠ ops.size:=fun e=>hno (by rw[<- e];exact hi)
     have hl:i < ops.size:=by omega
     exact⟨hl,(ready_push hs hl).1 hi⟩
    refine⟨fun h0=>?_,fun i hi=>?_⟩
    ·have:=(ready_push (md:=md) (oL:=oL) hs (Array.getElem?_eq_some_iff.1 (mem_ready.1 hi0).2.choose_spec.1).1).2 hi0
     rw[h0] at this
     cases this
    ·obtain⟨hl,hi'⟩:=hto i hi
     have h1:=h.2 i hi'
     have ho:ops[i]?=some ops[i]:=Array.getElem?_eq_getElem hl
     have ho2:(ops.push oL)[i]?=some ops[i]:=by rw[Array.getElem?_push,if_neg (by omega)];exact ho
     have hg:=hok.gd i _ ho2
     have hw:∀ os:Array Oper,Region.wanted ops[i] (yielded os a.tmps)=true:=fun os=>by simp[Region.wanted,hg]
     have hK:∀ a' w',(S w'/\wpAnyH P md ops (lastQ P (ops.push oL) oL Q) S fuel (listed.setIfInBounds i true) a' w')->wpAny P md (ops.push oL) Q (fuel+1) ((listed.push false).setIfInBounds i true) a' w':=fun a' w' hh=>by
      have:=ih (listed.setIfInBounds i true) a' w' (by simpa using hs) (down_set hd hi') hh.2
      have e:(listed.setIfInBounds i true).push false=(listed.push false).setIfInBounds i true:=by
       have hil:i < listed.size:=by omega
       apply Array.ext_getElem?
       intro k
       simp only[Array.getElem?_push,Array.getElem?_setIfInBounds,Array.size_setIfInBounds,Array.size_push]
       by_cases ck:k=listed.size
       ·have:i ≠ k:=by omega
        simp[ck,hil,show i ≠ listed.size by omega]
       ·by_cases cik:i=k
        ·subst cik
         simp[hil,ck,Nat.lt_succ_of_lt hil]
        ·simp[ck,cik]
      rw[<- e];exact this
     unfold wpOp at h1 ⊢
     rw[ho] at h1
     rw[ho2]
     simp only[hw,if_true] at h1 ⊢
     rcases h1 with h1 | ⟨h1,h2⟩
     ·exact .inl (wp_last hK h1)
     ·exact .inr ⟨h1,letsOut_last h2⟩
theorem region_last {id:Nat} {ops all:Array Oper} {oL:Oper} {a:Act} {w:World} (he:all=ops.push oL) (hm:P.follows .mixedOrders=true) (hl:lastOk .any (ops.push oL)=true) (hS:S w.drew)
 (h:S w.drew->wpAnyH P .any ops (lastQ P (ops.push oL) oL Q) S ops.size (Array.replicate ops.size false) a w.drew):(Code.region id all true).wp P Q a w:=by
 subst he
 refine wp_region_any hm ?_
 have:=any_last (S:=S) (lastOk_of hl) ops.size (Array.replicate ops.size false) a w.drew (by simp) (fun j o ho hj=>by
  by_cases c:j < ops.size <;> simp[c] at hj) (h hS)
 have e:Array.replicate (ops.push oL).size false=(Array.replicate ops.size false).push false:=by rw[Array.size_push,Array.replicate_succ]
 rw[e,Array.size_push]
 exact this
theorem region_late {id:Nat} {ops all:Array Oper} {oL:Oper} {a:Act} {w:World} (hp:all.pop=ops) (hb:all.back?=some oL) (hm:P.follows .mixedOrders=true) (hl:lastOk .any all=true) (hS:S w.drew)
 (h:S w.drew->wpAnyH P .any ops (lastQ P (ops.push oL) oL Q) S ops.size (Array.replicate ops.size false) a w.drew):(Code.region id all true).wp P Q a w:=by
 have he:all=ops.push oL:=by
  subst hp
  have hne:all.size ≠ 0:=fun h0=>by
   have:all=#[]:=Array.eq_empty_of_size_eq_zero h0
   subst this
   simp at hb
  rw[Array.back?_eq_getElem?] at hb
  obtain⟨h1,h2⟩:=Array.getElem?_eq_some_iff.1 hb
  apply Array.ext_getElem?
  intro k
  rw[Array.getElem?_push,Array.getElem?_pop,Array.size_pop]
  by_cases c:k=all.size - 1
  ·subst c;simp[hb]
  ·by_cases c2:k < all.size - 1
   ·simp[c]
    intro hk
    omega
   ·simp[c]
    intro hk
    omega
 exact region_last (S:=S) he hm (by rw[<- he];exact hl) hS h
theorem lastQ_normal {ops:Array Oper} {o:Oper} {a:Act} {w:World} (h:wpList P ops Q [o] a w):lastQ P ops o Q .normal a w:=h
end
open Go.RowKit
theorem step_append_rows {ops:Array Oper} {o:Oper} {ac:Act} {w:World} {K:Act->World->Prop} {Q:Exit->Act->World->Prop} {E:Prop} (hgd:o.guard=none) (d s:Operand) {B:Nat} {t e:TypeId} {z:Value} {size bytes:Nat}
 (ho:o.op=.call { callee:=.builtin .append,args:=#[d,s],argTypes:=#[t,t] }) (hu:Tryz.prog.underlying t=some (.slice e)) (hinfo:(Tryz.prog.info? e).map (fun i=>(i.zero,i.size,i.bytes))=some (some z,size,bytes)) (hzs:z.cells.size=size) (hsz:0 < size)
 {v:Value} {n:Nat} {xs:List Value} {a:Addr} {m c:Nat} {news:List Value} (hed:ac.eval d=v) (hes:ac.eval s=.slice (some a) m c) (hown:w.ownsRow B e size v n xs) (hl:news.length=m * size) (hnews:∀ j u,news[j]?=some u->w.cell? (a.add j)=some u) (h1:∀ u ∈ news,u.oneCell'=true)
 (h63:n+m<=maxLen) (hbytes:(n+m) * bytes<=140737488355328) (hB:B<=w.heap.size)
 (h:∀ v' w',w'.ownsRow B e size v' (n+m) (xs++news)->w.grownBy w' v.ownBlock->K (ac.put o.dst v') w'):if Region.wanted o (yielded ops ac.tmps)=true then Oper.wp Tryz.prog o ac w K Q else E:=by
 have hw:Region.wanted o (yielded ops ac.tmps)=true:=by simp[Region.wanted,hgd]
 rw[if_pos hw]
 obtain⟨v',w',hrun,r1,r2⟩:=run_append_rows (ty:=o.type) (c:=c) hu hinfo hzs hsz hown hl hnews h1 h63 hbytes hB
 unfold Oper.wp
 simp[execOp,ho,resolve,invoke,builtin,hed,hes,hrun,Result.andThen]
 exact h _ _ r1 r2
structure Blk (w0 w:World) (b2 b3 k:Nat) (v:Value) (vs:List Value) (bs:List (List Nat)) (gone:Bool):Prop where
 grown:w0.grownBy w none
 lo2:w0.heap.size<=b2
 lo3:w0.heap.size<=b3
 ne:b2 ≠ b3
 res:w.heap[b2]?=some (.cells #[.slice none 0 0,.bool false] 124 (0,0))
 top:w.heap[b3]?=some (.cells #[v,.bool gone] 124 (0,0))
 row:w.ownsRow w0.heap.size 31 1 v k vs
 len:bs.length=k
 own:∀ (i:Nat) (u:Value) (b:List Nat),vs[i]?=some u->bs[i]?=some b->Own w0.heap.size w u b
section
variable {w0 w:World} {b2 b3 k:Nat} {v:Value} {vs:List Value} {bs:List (List Nat)} {gone:Bool}
theorem Own.sameB {B:Nat} {w w':World} {u:Value} {b:List Nat} (h:Own B w u b) (hb:∀ g,u.ownBlock=some g->w'.heap[g]?=w.heap[g]?):Own B w' u b:=⟨h.small,h.len,ownsRow_same h.row hb⟩
theorem Blk.next (h:Blk w0 w b2 b3 k v vs bs gone) {w1:World} (g1:w.grownBy w1 none) {u:Value} {b:List Nat} (hu:Own w0.heap.size w1 u b) {v':Value} {w5:World} (hr:w5.ownsRow w0.heap.size 31 1 v' (k+1) (vs++[u])) (g5:w1.grownBy w5 v.ownBlock) :
 Blk w0 (w5.setCell ⟨b3,0,none⟩ v') b2 b3 (k+1) v' (vs++[u]) (bs++[b]) gone/\w5.cell? ⟨b3,0,none⟩=some v/\w5.frozen? ⟨b3,0,none⟩=false:=by
 have l3:b3 < w.heap.size:=(Array.getElem?_eq_some_iff.1 h.top).1
 have l2:b2 < w.heap.size:=(Array.getElem?_eq_some_iff.1 h.res).1
 have hty:∀ (i:Nat) (c:Array Value) (t:TypeId),w.heap[i]?=some (.cells c t (0,0))->t ≠ 31->w5.heap[i]?=w.heap[i]?:=fun i c t hi ht=>by
  have hlt:=(Array.getElem?_eq_some_iff.1 hi).1
  rw[g5.block i (Nat.lt_of_lt_of_le hlt g1.size) (fun e=>by
   obtain⟨_,_,c',hc'⟩:=rows_blk h.row e.symm
   exact ne_ty hi hc' ht rfl),g1.block i hlt (by simp)]
 have t5:=(hty b3 _ _ h.top (by decide)).trans h.top
 have r5:=(hty b2 _ _ h.res (by decide)).trans h.res
 have g05:w0.grownBy w5 none:=grown_new (grown_trans h.grown g1) g5 (fun i e=>(rows_blk h.row e).1)
 have hs:∀ i,i ≠ b3->(w5.setCell ⟨b3,0,none⟩ v').heap[i]?=w5.heap[i]?:=fun i hi=>Below.heap_setCell _ _ _ _ hi
 refine⟨⟨gb_setCell g05 h.lo3 _,h.lo2,h.lo3,h.ne,by rw[hs b2 h.ne];exact r5,by rw[heap_setCell_same _ _ _ _ _ _ t5];rfl,ownsRow_same hr (fun g hg=>?_),by simp[h.len],fun i x y hx hy=>?_⟩,topCell (j:=0) t5 rfl,topFrozen 0 t5⟩
 ·obtain⟨_,_,c,hc⟩:=rows_blk hr hg
  exact hs g (ne_ty hc t5 (by decide))
 ·have hvl:vs.length=k:=by have:=h.row.1;omega
  by_cases c:i < k
  ·rw[List.getElem?_append_left (by omega)] at hx
   rw[List.getElem?_append_left (by rw[h.len];exact c)] at hy
   have q:=h.own i x y hx hy
   refine q.sameB (fun g hg=>?_)
   obtain⟨_,_,c,hc⟩:=rows_blk q.row hg
   have e:=hty g _ _ hc (by decide)
   rw[hs g (ne_ty (e.trans hc) t5 (by decide)),e]
  ·have hi:i=k:=by
    have:=(List.getElem?_eq_some_iff.1 hx).1
    simp at this
    omega
   subst hi
   rw[<- hvl,List.getElem?_append_right (Nat.le_refl _),Nat.sub_self] at hx
   rw[<- h.len,List.getElem?_append_right (Nat.le_refl _),Nat.sub_self] at hy
   obtain rfl:=Option.some.inj hx
   obtain rfl:=Option.some.inj hy
   refine hu.sameB (fun g hg=>?_)
   obtain⟨_,hlt,c,hc⟩:=rows_blk hu.row hg
   have e:w5.heap[g]?=w1.heap[g]?:=g5.block g hlt (fun e=>by
    obtain⟨_,_,c',hc'⟩:=rows_blk h.row e.symm
    have hc2:=(g1.block g (by obtain⟨_,l,_⟩:=rows_blk h.row e.symm;exact l) (by simp)).trans hc'
    exact ne_ty hc hc2 (by decide) rfl)
   rw[hs g (ne_ty (e.trans hc) t5 (by decide)),e]
end
theorem Tryz.infoBys:(Tryz.prog.info? 31).map (fun i=>(i.zero,i.size,i.bytes))=some (some (.slice none 0 0),1,24):=by kernel_rfl
theorem Tryz.sizeDsk:(Tryz.prog.info? 124).map (·.size)=some 2:=by kernel_rfl
theorem Tryz.infoBy:(Tryz.prog.info? 5).map (fun i=>(i.zero,i.size,i.bytes))=some (some (.int .u8 0),1,1):=by kernel_rfl
theorem run_make_sec (W:World):(Instr.makeSlice 31 (.int .i64 64) (.int .i64 64)).run Tryz.prog W=.ok (.slice (some ⟨W.heap.size,0,none⟩) 64 64) (W.alloc (.cells (madeCells #[.int .u8 0] 64) 5)) :=
 run_make_row' (P:=Tryz.prog) 31 5 _ 1 Tryz.underlying31 Tryz.infoBy rfl .i64 .i64 64 (by decide) (by decide) W
theorem made_sec (w:World):Own w.heap.size (w.alloc (.cells (madeCells #[.int .u8 0] 64) 5)) (.slice (some ⟨w.heap.size,0,none⟩) 64 64) (AM.zs 64):=made_own (by decide) rfl
set_option maxRecDepth 100000 in
theorem rblank_yes (w:World) {n:Nat} (hn:n<=4096):Calls Tryz.prog 80 #[.int .i64 (n:Int)] w fun e w'=>∃ p c vs,e=.returned (.agg #[.slice p n c,.bool false])/\w'.ownsRow w.heap.size 31 1 (.slice p n c) n vs/\(∀ (k:Nat) (u:Value),vs[k]?=some u->Own w.heap.size w' u (AM.zs 64))/\w.grownBy w' none:=by
 have hmk:=run_make_sec
 go_enter Tryz.func80,Tryz.ntmps80
 go_wp2
 have h0:Blk w ((w.alloc (.cells #[.slice none 0 0,.bool false] 124)).alloc (.cells #[.slice none 0 0,.bool false] 124)) w.heap.size (w.heap.size+1) 0 (.slice none 0 0) [] (List.replicate 0 (AM.zs 64)) false :=
  ⟨gb_alloc (gb_alloc (World.grownBy.refl _ _) _) _,Nat.le_refl _,Nat.le_succ _,by omega,heap_old _ _ (heap_alloc_new w _),heap_new _ _ _ (by simp),World.ownsRow_nil _ _ _ _,rfl,fun i u b hu=>by simp at hu⟩
 have H0:Hid (∃ vs,Blk w ((w.alloc (.cells #[.slice none 0 0,.bool false] 124)).alloc (.cells #[.slice none 0 0,.bool false] 124)) w.heap.size (w.heap.size+1) 0 (.slice none 0 0) vs (List.replicate 0 (AM.zs 64)) false):=⟨[],h0⟩
 clear h0
 generalize (w.alloc (.cells #[.slice none 0 0,.bool false] 124)).alloc (.cells #[.slice none 0 0,.bool false] 124)=W0 at *
 obtain⟨b3,hb3⟩:∃ b3,b3=w.heap.size+1:=⟨_,rfl⟩
 obtain⟨b2,hb2⟩:∃ b2,b2=w.heap.size:=⟨_,rfl⟩
 rw[<- hb3,<- hb2] at H0 ⊢
 clear hb3 hb2
 go_loopw [4] (fun ti wr=>∃ k:Nat,k<=n/\ti=.int .i64 (k:Int)/\Hid (∃ p c vs,Blk w wr b2 b3 k (.slice p k c) vs (List.replicate k (AM.zs 64)) false)) (fun ti _=>n - (intOf ti).toNat)
 case atStart=>exact⟨0,by omega,rfl,none,0,H0.out⟩
 case round =>
  clear H0
  obtain⟨k,hk,rfl,HX⟩:=hrel
  obtain⟨p,c,vs,h⟩:=HX.out
  by_cases hlt:k < n
  ·have i1:(k:Int) < (n:Int):=by omega
   have H:Hid (Blk w wr b2 b3 k (.slice p k c) vs (List.replicate k (AM.zs 64)) false):=h
   have HC:Hid (wr.cell? ⟨b3,0,none⟩=some (.slice p k c)):=topCell (j:=0) h.top rfl
   have l3:b3 < wr.heap.size:=(Array.getElem?_eq_some_iff.1 h.top).1
   have G1:Hid (wr.grownBy (wr.drew.alloc (.cells (madeCells #[.int .u8 0] 64) 5)) none):=gb_alloc (gb_drew (World.grownBy.refl _ _)) _
   have G2:Hid (wr.grownBy ((wr.drew.alloc (.cells (madeCells #[.int .u8 0] 64) 5)).alloc (.cells #[.slice (some ⟨wr.heap.size,0,none⟩) 64 64] 31)) none):=gb_alloc G1.out _
   have HCK:Hid (∀ W,wr.grownBy W none->W.cell? ⟨b3,0,none⟩=some (.slice p k c)):=fun W g=>g.cell HC.out (by simp)
   have HOU:Hid (Own w.heap.size ((wr.drew.alloc (.cells (madeCells #[.int .u8 0] 64) 5)).alloc (.cells #[.slice (some ⟨wr.heap.size,0,none⟩) 64 64] 31)) (.slice (some ⟨wr.heap.size,0,none⟩) 64 64) (AM.zs 64)):=((made_sec wr.drew).keep (World.grownBy_alloc _ _ none)).down h.grown.size
   have HRW:Hid (((wr.drew.alloc (.cells (madeCells #[.int .u8 0] 64) 5)).alloc (.cells #[.slice (some ⟨wr.heap.size,0,none⟩) 64 64] 31)).ownsRow w.heap.size 31 1 (.slice p k c) k vs):=ownsRow_same h.row (fun g hg=>G2.out.block g (rows_blk h.row hg).2.1 (by simp))
   have HCE:Hid (∀ j u,([.slice (some ⟨wr.heap.size,0,none⟩) 64 64]:List Value)[j]?=some u->((wr.drew.alloc (.cells (madeCells #[.int .u8 0] 64) 5)).alloc (.cells #[.slice (some ⟨wr.heap.size,0,none⟩) 64 64] 31)).cell? ((⟨wr.heap.size+1,0,none⟩:Addr).add j)=some u):=fun j u hj=>by
    rw[add_at,Nat.zero_add]
    exact topCell (heap_new _ _ _ (by simp)) (by simpa using hj)
   have HSZ:Hid (w.heap.size<=((wr.drew.alloc (.cells (madeCells #[.int .u8 0] 64) 5)).alloc (.cells #[.slice (some ⟨wr.heap.size,0,none⟩) 64 64] 31)).heap.size):=Nat.le_trans h.grown.size G2.out.size
   have HK:Hid (k<=4096):=Nat.le_trans hk hn
   clear h HX
   go_wp2_with fail
   refine region_late (S:=(fun w'=>w'.cell? ⟨b3,0,none⟩=some (.slice p k c))) (by simp only[List.pop_toArray,List.dropLast];exact rfl) (by rfl) (by kernel_rfl) (by kernel_rfl) ?_ (fun hHeld=>?_)
   ·exact HC.out
   refine wpAnyH_take (i:=0) (v:=?_) rfl (by kernel_rfl) (by kernel_rfl) (by kernel_rfl) (fun _ _ _ h=>h) (Or.inl ⟨by rfl,?_⟩) (by assumption) ?_
   rotate_left
   ·intro w hSw;(try dsimp only at hSw);first | (go_simp;done) | (go_simp;with_reducible rfl)
   simp only[Act.put,lay9]
   refine wpAnyH_take (i:=1) (v:=?_) rfl (by kernel_rfl) (by kernel_rfl) (by kernel_rfl) (fun _ _ _ h=>h) (Or.inl ⟨by rfl,?_⟩) (by assumption) ?_
   rotate_left
   ·intro w hSw;(try dsimp only at hSw);first | (go_simp;done) | (go_simp;with_reducible rfl)
   simp only[Act.put,lay9]
   refine wpAnyH_ready (rs:=[2]) (by kernel_rfl) (by simp) ?_
   refine AllReadyH.cons rfl (fun K hK=>?_) AllReadyH.nil
   go_simp
   refine hK.out _ _ (HCK.out _ G1.out) (fun hHeld=>?_)
   clear hK K
   (try simp only[Act.put,lay9])
   refine wpAnyH_ready (rs:=[3]) (by kernel_rfl) (by simp) ?_
   refine AllReadyH.cons rfl (fun K hK=>?_) AllReadyH.nil
   go_simp
   refine hK.out _ _ (HCK.out _ G2.out) (fun hHeld=>?_)
   clear hK K
   (try simp only[Act.put,lay9])
   refine wpAnyH_ready (rs:=[4]) (by kernel_rfl) (by simp) ?_
   refine AllReadyH.cons rfl (fun K hK=>?_) AllReadyH.nil
   refine step_append_rows (by rfl) _ _ (by rfl) Tryz.underlying95 Tryz.infoBys rfl (by decide) (by rfl) (by rfl) HRW.out (news:=[.slice (some ⟨wr.heap.size,0,none⟩) 64 64]) rfl HCE.out (by intro u hu;simp at hu;subst hu;rfl) (by have:=HK.out;unfold maxLen;omega) (by have:=HK.out;omega) HSZ.out ?_
   intro v5 w5 o5 g5
   obtain⟨q1,q2,q3⟩:=H.out.next G2.out HOU.out o5 g5
   obtain⟨p5,c5,rfl⟩:=rows_slice o5
   have HN:Hid (∃ p c vs,Blk w (w5.setCell ⟨b3,0,none⟩ (.slice p5 (k+1) c5)) b2 b3 (k+1) (.slice p (k+1) c) vs (List.replicate (k+1) (AM.zs 64)) false):=⟨p5,c5,_,by rw[List.replicate_succ'];exact q1⟩
   clear q1 o5 g5
   refine hK.out _ _ (q2) (fun hHeld=>?_)
   clear hK K
   (try simp only[Act.put,lay9])
   refine wpAnyH_take (i:=5) (v:=?_) rfl (by kernel_rfl) (by kernel_rfl) (by kernel_rfl) (fun _ _ _ h=>h) (Or.inl ⟨by rfl,?_⟩) (by assumption) ?_
   rotate_left
   ·intro w hSw;(try dsimp only at hSw);first | (go_simp;done) | (go_simp;with_reducible rfl)
   simp only[Act.put,lay9]
   refine wpAnyH_done (by kernel_rfl) ?_ _
   refine lastQ_normal ?_
   go_wp2
   go_roundw
   case rel=>exact⟨k+1,by omega,by go_num,HN⟩
   case measure=>simp[intOf];omega
  ·have i1:¬ (k:Int) < (n:Int):=by omega
   obtain rfl:k=n:=by omega
   have c30:wr.cell? ⟨b3,0,none⟩=some (.slice p k c):=topCell (j:=0) h.top rfl
   have c31:wr.cell? ⟨b3,1,none⟩=some (.bool false):=topCell (j:=1) h.top rfl
   have c20:wr.cell? ⟨b2,0,none⟩=some (.slice none 0 0):=topCell (j:=0) h.res rfl
   have c21:wr.cell? ⟨b2,1,none⟩=some (.bool false):=topCell (j:=1) h.res rfl
   have f20:=topFrozen 0 h.res
   have f21:=topFrozen 1 h.res
   have hst:∀ i,i ≠ b2->((wr.setCell ⟨b2,0,none⟩ (.slice p k c)).setCell ⟨b2,1,none⟩ (.bool false)).heap[i]?=wr.heap[i]?:=fun i hi=>by rw[Below.heap_setCell _ _ _ _ hi,Below.heap_setCell _ _ _ _ hi]
   have HF:Hid (((wr.setCell ⟨b2,0,none⟩ (.slice p k c)).setCell ⟨b2,1,none⟩ (.bool false)).ownsRow w.heap.size 31 1 (.slice p k c) k vs/\(∀ (i:Nat) (u:Value),vs[i]?=some u->Own w.heap.size ((wr.setCell ⟨b2,0,none⟩ (.slice p k c)).setCell ⟨b2,1,none⟩ (.bool false)) u (AM.zs 64))/\w.grownBy ((wr.setCell ⟨b2,0,none⟩ (.slice p k c)).setCell ⟨b2,1,none⟩ (.bool false)) none):=by
    refine⟨ownsRow_same h.row (fun g hg=>?_),fun i u hu=>?_,gb_setCell (gb_setCell h.grown h.lo2 _) h.lo2 _⟩
    ·obtain⟨_,_,c,hc⟩:=rows_blk h.row hg
     exact hst g (ne_ty hc h.res (by decide))
    ·have hik:i < k:=by
      have h1:=(List.getElem?_eq_some_iff.1 hu).1
      have h2:=h.row.1
      omega
     have q:=h.own i u (AM.zs 64) hu (by rw[List.getElem?_replicate,if_pos hik])
     refine q.sameB (fun g hg=>?_)
     obtain⟨_,_,c,hc⟩:=rows_blk q.row hg
     exact hst g (ne_ty hc h.res (by decide))
   have HP:Hid (((wr.setCell ⟨b2,0,none⟩ (.slice p k c)).setCell ⟨b2,1,none⟩ (.bool false)).heap[b2]?=some (.cells #[.slice p k c,.bool false] 124 (0,0))):=by
    show _=_
    rw[heap_setCell_same _ _ _ _ _ _ (heap_setCell_same _ _ _ _ _ _ h.res)]
    rfl
   clear h HX hst
   go_wp2
   (try simp only[Exit.inBlock,Exit.then])
   exact bodyPost_ret (results_cell_row rfl _ _ b2 124 #[.slice p k c,.bool false] (0,0) _ rfl HP.out Tryz.underlying124 rfl Tryz.sizeDsk) rfl ⟨p,c,rfl,vs,HF.out⟩
section
variable {G:Nat->Prop} {w:World} {r:Nat} {A:AM.RA}
set_option maxRecDepth 100000 in
theorem rreplace_off (h:RIs G w r A) {d:Nat} (hd:d < A.D.length) (hon:(A.D.getD d none).isSome=false):Calls Tryz.prog 40 #[rptr r,.int .i64 (d:Int)] w fun e w'=>e=.returned (.int .i64 0)/\∃ G',RIs G' w' r (A.blank d)/\Step G w G' w':=by
 obtain⟨dp,dc,ds,lp,lc,fs,h⟩:=h
 have hD2:=h.d2
 obtain⟨z0,z1,y2,y3,y4⟩:=h.topCells
 clear y2 y3 y4
 obtain⟨dg,v,rfl,hv,y0,x1,cc,hcc⟩:=h.disk hd
 have y1:w.cell? ⟨dg,d * 2+1,none⟩=some (.bool true):=by
  have:(A.D[d]'hd).isNone=true:=by
   simp only[List.getD,List.getElem?_eq_getElem hd,Option.getD_some] at hon
   cases hq:A.D[d] with
   | none=>rfl
   | some _=>rw[hq] at hon;cases hon
  rw[this] at x1;exact x1
 clear x1
 have hdlt:dg < w.heap.size:=(Array.getElem?_eq_some_iff.1 hcc).1
 have HN4:Hid (A.n<=4096):=h.n2
 obtain⟨N,hN⟩:∃ N,N=A.D.length:=⟨_,rfl⟩
 obtain⟨n,hn⟩:∃ n,n=A.n:=⟨_,rfl⟩
 have HRL:Hid (RL G w r (some ⟨dg,0,none⟩) dc ds lp lc fs A):=h
 have HD:Hid (d < A.D.length/\n=A.n):=⟨hd,hn⟩
 have HF:Hid (∀ W,w.grownBy W none->W.cell? ⟨dg,d * 2,none⟩=some v/\W.cell? ⟨dg,d * 2+1,none⟩=some (.bool true)/\W.frozen? ⟨dg,d * 2,none⟩=false/\W.frozen? ⟨dg,d * 2+1,none⟩=false):=fun W g=>⟨g.cell y0 (by simp),g.cell y1 (by simp),topFrozen _ ((g.block dg hdlt (by simp)).trans hcc),topFrozen _ ((g.block dg hdlt (by simp)).trans hcc)⟩
 rw[<- hN] at z0 hD2 hd
 rw[<- hn] at z1 HN4
 have HCK:Hid (∀ W,w.grownBy W none->W.cell? ⟨r,0,none⟩=some (.slice (some ⟨dg,0,none⟩) N dc)/\W.cell? ⟨r,1,none⟩=some (.int .i64 (n:Int))):=fun W g=>⟨g.cell z0 (by simp),g.cell z1 (by simp)⟩
 have c0:=z0
 have e1:w.cell? ⟨dg,d * 2+1,none⟩=some (.bool true):=y1
 clear h z0 z1 y0 y1 hcc cc hv hon hN hn hdlt
 go_enter Tryz.func40,Tryz.ntmps40
 go_wp2_with fail
 clear c0 e1
 refine region_late (S:=(fun w'=>w'.cell? ⟨r,0,none⟩=some (.slice (some ⟨dg,0,none⟩) N dc)/\w'.cell? ⟨r,1,none⟩=some (.int .i64 (n:Int)))) (by simp only[List.pop_toArray,List.dropLast];exact rfl) (by rfl) (by kernel_rfl) (by kernel_rfl) ?_ (fun hHeld=>?_)
 ·exact HCK.out _ (grown_drewN _ 1)
 refine wpAnyH_take (i:=0) (v:=?_) rfl (by kernel_rfl) (by kernel_rfl) (by kernel_rfl) (fun _ _ _ h=>h) (Or.inl ⟨by rfl,?_⟩) (by assumption) ?_
 rotate_left
 ·intro w hSw;(try dsimp only at hSw);first | (go_simp;done) | (go_simp;with_reducible rfl)
 simp only[Act.put,lay9]
 refine wpAnyH_take (i:=1) (v:=?_) rfl (by kernel_rfl) (by kernel_rfl) (by kernel_rfl) (fun _ _ _ h=>h) (Or.inl ⟨by rfl,?_⟩) (by assumption) ?_
 rotate_left
 ·intro w hSw;(try dsimp only at hSw);first | (go_simp;done) | (go_simp;with_reducible rfl)
 simp only[Act.put,lay9]
 refine wpAnyH_take (i:=2) (v:=?_) rfl (by kernel_rfl) (by kernel_rfl) (by kernel_rfl) (fun _ _ _ h=>h) (Or.inl ⟨by rfl,?_⟩) (by assumption) ?_
 rotate_left
 ·intro w hSw;(try dsimp only at hSw);first | (go_simp;done) | (go_simp;with_reducible rfl)
 simp only[Act.put,lay9]
 refine wpAnyH_take (i:=3) (v:=?_) rfl (by kernel_rfl) (by kernel_rfl) (by kernel_rfl) (fun _ _ _ h=>h) (Or.inl ⟨by rfl,?_⟩) (by assumption) ?_
 rotate_left
 ·intro w hSw;(try dsimp only at hSw);first | (go_simp;done) | (go_simp;with_reducible rfl)
 simp only[Act.put,lay9]
 refine wpAnyH_take (i:=4) (v:=?_) rfl (by kernel_rfl) (by kernel_rfl) (by kernel_rfl) (fun _ _ _ h=>h) (Or.inl ⟨by rfl,?_⟩) (by assumption) ?_
 rotate_left
 ·intro w hSw;(try dsimp only at hSw);first | (go_simp;done) | (go_simp;with_reducible rfl)
 simp only[Act.put,lay9]
 refine wpAnyH_take (i:=5) (v:=?_) rfl (by kernel_rfl) (by kernel_rfl) (by kernel_rfl) (fun _ _ _ h=>h) (Or.inl ⟨by rfl,?_⟩) (by assumption) ?_
 rotate_left
 ·intro w hSw;(try dsimp only at hSw);first | (go_simp;done) | (go_simp;with_reducible rfl)
 simp only[Act.put,lay9]
 refine wpAnyH_take (i:=6) (v:=?_) rfl (by kernel_rfl) (by kernel_rfl) (by kernel_rfl) (fun _ _ _ h=>h) (Or.inl ⟨by rfl,?_⟩) (by assumption) ?_
 rotate_left
 ·intro w hSw;(try dsimp only at hSw);first | (go_simp;done) | (go_simp;with_reducible rfl)
 simp only[Act.put,lay9]
 refine wpAnyH_take (i:=7) (v:=?_) rfl (by kernel_rfl) (by kernel_rfl) (by kernel_rfl) (fun _ _ _ h=>h) (Or.inl ⟨by rfl,?_⟩) (by assumption) ?_
 rotate_left
 ·intro w hSw;(try dsimp only at hSw);first | (go_simp;done) | (go_simp;with_reducible rfl)
 simp only[Act.put,lay9]
 refine wpAnyH_take (i:=8) (v:=?_) rfl (by kernel_rfl) (by kernel_rfl) (by kernel_rfl) (fun _ _ _ h=>h) (Or.inl ⟨by rfl,?_⟩) (by assumption) ?_
 rotate_left
 ·intro w hSw;(try dsimp only at hSw);first | (go_simp;done) | (go_simp;with_reducible rfl)
 simp only[Act.put,lay9]
 refine wpAnyH_ready (rs:=[9]) (by kernel_rfl) (by simp) ?_
 refine AllReadyH.cons rfl (fun K hK=>?_) AllReadyH.nil
 go_simp
 refine (rblank_yes w.drew HN4.out).mono ?_
 rintro e w8 ⟨p8,c8,vs8,rfl,ho8,hs8,hg8⟩
 have G8:Hid (w.grownBy w8 none):=grown_trans (grown_drewN _ 1) hg8
 have HO8:Hid (w8.ownsRow w.heap.size 31 1 (.slice p8 n c8) n vs8/\∀ (k:Nat) (u:Value),vs8[k]?=some u->Own w.heap.size w8 u (AM.zs 64)):=⟨ho8,hs8⟩
 clear ho8 hs8 hg8
 refine hK.out _ _ (HCK.out _ G8.out) (fun hHeld=>?_)
 clear hK K
 (try simp only[Act.put,lay9])
 refine wpAnyH_take (i:=10) (v:=?_) rfl (by kernel_rfl) (by kernel_rfl) (by kernel_rfl) (fun _ _ _ h=>h) (Or.inl ⟨by rfl,?_⟩) (by assumption) ?_
 rotate_left
 ·intro w hSw;(try dsimp only at hSw);first | (go_simp;done) | (go_simp;with_reducible rfl)
 simp only[Act.put,lay9]
 refine wpAnyH_done (by kernel_rfl) ?_ _
 refine lastQ_normal ?_
 obtain⟨k0,k1,k2,k3⟩:=HF.out w8 G8.out
 have HX:Hid (∃ G',RIs G' ((w8.setCell ⟨dg,d * 2,none⟩ (.slice p8 n c8)).setCell ⟨dg,d * 2+1,none⟩ (.bool false)) r (A.blank d)/\Step G w G' ((w8.setCell ⟨dg,d * 2,none⟩ (.slice p8 n c8)).setCell ⟨dg,d * 2+1,none⟩ (.bool false))):=by
  have hds:=HRL.out.dset G8.out HD.out.1 (v:=.slice p8 n c8) (o:=some (List.replicate n (AM.zs 64))) (.inr ⟨_,vs8,rfl,by rw[<- HD.out.2];exact HO8.out.1,by rw[List.length_replicate];exact HD.out.2,fun k u b hu hb=>by
   obtain rfl:b=AM.zs 64:=(List.mem_replicate.1 (List.mem_of_getElem? hb)).2
   exact HO8.out.2 k u hu⟩)
  have e:({ A with D:=A.D.set d (some (List.replicate n (AM.zs 64))) }:AM.RA)=A.blank d:=by unfold AM.RA.blank;rw[HD.out.2]
  rw[e] at hds
  refine⟨_,hds.is,⟨⟨G8.out.os,G8.out.tape,G8.out.output,by simpa using G8.out.size,fun i hi hni=>?_⟩,fun i hi=>?_⟩⟩
  ·have hne:i ≠ dg:=fun e=>hni (by rw[e];exact HRL.out.Gd dg rfl)
   rw[Below.heap_setCell _ _ _ _ hne,Below.heap_setCell _ _ _ _ hne]
   exact G8.out.block i hi (by simp)
  ·rcases hi with hi | hi
   ·exact .inl hi
   ·exact .inr hi.1
 clear HRL HO8 HF HCK HN4
 go_wp2
 go_ret
 exact⟨rfl,HX.out⟩
theorem rreplace_any (h:RIs G w r A) (d:Int):Calls Tryz.prog 40 #[rptr r,.int .i64 d] w fun e w'=>e=.returned (.int .i64 ((A.replace d).1:Int))/\∃ G',RIs G' w' r (A.replace d).2/\Step G w G' w':=by
 by_cases hin:0<=d/\d < (A.D.length:Int)
 ·obtain⟨n,rfl⟩:∃ n:Nat,d=(n:Int):=⟨d.toNat,by omega⟩
  have hd:n < A.D.length:=by omega
  cases hon:(A.D.getD n none).isSome with
  | false =>
    refine (rreplace_off h hd hon).mono ?_
    rintro e w' ⟨rfl,G',h1,h2⟩
    have e:A.replace (n:Int)=(0,A.blank n):=by unfold AM.RA.replace;rw[if_pos hin,Int.toNat_natCast,hon];rfl
    rw[e]
    exact⟨rfl,G',h1,h2⟩
  | true =>
    have e:A.replace (n:Int)=(1,A):=by unfold AM.RA.replace;rw[if_pos hin,Int.toNat_natCast,if_pos hon]
    rw[e]
    have HI:Hid (RIs G w r A):=h
    obtain⟨dg,dc,c0,z1⟩:=rgone_cell h hd
    rw[hon] at z1
    have e1:w.cell? ⟨dg,n * 2+1,none⟩=some (.bool false):=z1
    have hD2:A.D.length<=255:=by obtain⟨_,_,_,_,_,_,h⟩:=h;exact h.d2
    clear h e hin hon z1
    generalize A.D.length=N at *
    go_enter Tryz.func40,Tryz.ntmps40
    go_wp2
    go_ret
    exact⟨rfl,G,HI.out,Step.refl G w⟩
 ·have e:A.replace d=(6,A):=by unfold AM.RA.replace;rw[if_neg hin]
  rw[e]
  have HI:Hid (RIs G w r A):=h
  obtain⟨dp,dc,ds,lp,lc,fs,h⟩:=h
  obtain⟨c0,y1,y2,y3,y4⟩:=h.topCells
  have hD2:=h.d2
  clear h e y1 y2 y3 y4
  generalize A.D.length=N at *
  by_cases h0:d < 0
  ·clear hin
   go_enter Tryz.func40,Tryz.ntmps40
   go_wp2
   go_ret
   exact⟨rfl,G,HI.out,Step.refl G w⟩
  ·have h1:(N:Int)<=d:=by omega
   clear hin
   go_enter Tryz.func40,Tryz.ntmps40
   go_wp2
   go_ret
   exact⟨rfl,G,HI.out,Step.refl G w⟩
end
theorem step_append_at {ops:Array Oper} {o:Oper} {ac:Act} {w:World} {K:Act->World->Prop} {Q:Exit->Act->World->Prop} {E:Prop} (hgd:o.guard=none) (d s:Operand) {t e:TypeId} {z:Value} {size bytes:Nat}
 (ho:o.op=.call { callee:=.builtin .append,args:=#[d,s],argTypes:=#[t,t] }) (hu:Tryz.prog.underlying t=some (.slice e)) (hinfo:(Tryz.prog.info? e).map (fun i=>(i.zero,i.size,i.bytes))=some (some z,size,bytes)) (hzs:z.cells.size=size) (hsz:0 < size)
 {v:Value} {n:Nat} {xs:List Value} {a:Addr} {m c:Nat} {news:List Value} (hed:ac.eval d=v) (hes:ac.eval s=.slice (some a) m c) (hown:w.ownsRow 0 e size v n xs) (hm:0 < m) (hl:news.length=m * size) (hnews:∀ j u,news[j]?=some u->w.cell? (a.add j)=some u) (h1:∀ u ∈ news,u.oneCell'=true)
 (h63:n+m<=maxLen) (hbytes:(n+m) * bytes<=140737488355328)
 (h:∀ g cap w',w'.ownsRow 0 e size (.slice (some ⟨g,0,none⟩) (n+m) cap) (n+m) (xs++news)->w.grownBy w' v.ownBlock->(v.ownBlock=some g\/g=w.heap.size)->K (ac.put o.dst (.slice (some ⟨g,0,none⟩) (n+m) cap)) w'):if Region.wanted o (yielded ops ac.tmps)=true then Oper.wp Tryz.prog o ac w K Q else E:=by
 have hw:Region.wanted o (yielded ops ac.tmps)=true:=by simp[Region.wanted,hgd]
 rw[if_pos hw]
 obtain⟨g,cap,w',hrun,r1,r2,r3⟩:=run_append_at (ty:=o.type) (c:=c) hu hinfo hzs hsz hown hm hl hnews h1 h63 hbytes
 unfold Oper.wp
 simp[execOp,ho,resolve,invoke,builtin,hed,hes,hrun,Result.andThen]
 exact h _ _ _ r1 r2 r3
theorem zeroDsk:(Tryz.prog.info? 124).map (fun i=>(i.zero,i.size,i.bytes))=some (some (.agg #[.slice none 0 0,.bool false]),2,32):=by kernel_rfl
theorem run_zeroDsk (w:World):(zeroValue 124).run Tryz.prog w=.ok (.agg #[.slice none 0 0,.bool false]) w:=by
 obtain⟨i,hi,h0,h1,h2⟩:=info_parts zeroDsk
 simp[zeroValue,typeInfo,hi,h0]
theorem lit_dsk (w:World) (p:Option Addr) (n c:Nat) (b:Bool):(Instr.buildSlice 83 1 #[(0,.agg #[.slice p n c,.bool b])]).run Tryz.prog w=.ok (.slice (some ⟨w.heap.size,0,none⟩) 1 1) (w.alloc (.cells #[.slice p n c,.bool b] 124)):=by
 have hf:∀ z:Array Value,z.size=2->Instr.fill (fun i=>some (i * 2,2)) z [(0,.agg #[.slice p n c,.bool b])]=some #[.slice p n c,.bool b]:=by
  intro z hz
  rw[fill_one (cs:=[.slice p n c,.bool b]) (out:=[.slice p n c,.bool b]) rfl rfl rfl (by simp;omega) (by simp[hz])]
  rfl
 simp[Instr.buildSlice,run_underlying Tryz.underlying83,run_size Tryz.sizeDsk,run_zeroDsk,newRow,hf]
theorem drow_app {ds:List Value} {D:List (Option (List (List Nat)))} (h:ds.length=D.length) (v:Value) (o:Option (List (List Nat))):drow (ds++[v]) (D++[o])=drow ds D++[v,.bool o.isNone]:=by
 unfold drow
 rw[List.zip_append h,List.flatMap_append]
 rfl
section
variable {G:Nat->Prop} {w:World} {r:Nat} {A:AM.RA} {dp:Option Addr} {dc:Nat} {ds:List Value} {lp:Option Addr} {lc:Nat} {fs:List Value}
theorem RL.grew (h:RL G w r dp dc ds lp lc fs A) {w1:World} (g1:w.grownBy w1 none) {v:Value} {o:Option (List (List Nat))}
 (ho:(o=none/\v=.slice none 0 0)\/∃ (ss:List (List Nat)) (vs:List Value),o=some ss/\w1.ownsRow w.heap.size 31 1 v A.n vs/\ss.length=A.n/\∀ (k:Nat) (u:Value) (b:List Nat),vs[k]?=some u->ss[k]?=some b->Own w.heap.size w1 u b)
 {dg cap:Nat} {w5:World} (o5:w5.ownsRow 0 124 2 (.slice (some ⟨dg,0,none⟩) (A.D.length+1) cap) (A.D.length+1) (drow ds A.D++[v,.bool o.isNone])) (g5:w1.grownBy w5 (Value.slice dp A.D.length dc).ownBlock) (hw:(Value.slice dp A.D.length dc).ownBlock=some dg\/w.heap.size<=dg) (hd:A.D.length+1<=255) :
 w5.cell? ⟨r,0,none⟩=some (.slice dp A.D.length dc)/\w5.frozen? ⟨r,0,none⟩=false/\∃ G',RIs G' (w5.setCell ⟨r,0,none⟩ (.slice (some ⟨dg,0,none⟩) (A.D.length+1) cap)) r { A with D:=A.D++[o] }/\Step G w G' (w5.setCell ⟨r,0,none⟩ (.slice (some ⟨dg,0,none⟩) (A.D.length+1) cap)):=by
 have gw:w.grownBy w5 (Value.slice dp A.D.length dc).ownBlock:=grown_trans (grown_any g1 _) g5
 have hne:∀ (i:Nat) (c:Array Value) (t:TypeId),w.heap[i]?=some (.cells c t (0,0))->t ≠ 124->w5.heap[i]?=w.heap[i]?:=fun i c t hi ht=>gw.block i (Array.getElem?_eq_some_iff.1 hi).1 (fun e=>by
  obtain⟨c',hc'⟩:=rowBlock h.dsk e.symm
  exact ht (heap_ty hi hc'))
 have hnew:∀ i,w.heap.size<=i->i < w1.heap.size->w5.heap[i]?=w1.heap[i]?:=fun i hi hl=>g5.block i hl (fun e=>by
  have:=h.lt i (h.Gd i e.symm)
  omega)
 have ht5:=(hne r _ _ h.top (by decide)).trans h.top
 have hs:∀ i,i ≠ r->(w5.setCell ⟨r,0,none⟩ (.slice (some ⟨dg,0,none⟩) (A.D.length+1) cap)).heap[i]?=w5.heap[i]?:=fun i hi=>Below.heap_setCell _ _ _ _ hi
 have hlt5:dg < w5.heap.size:=(rows_blk o5 rfl).2.1
 refine⟨topCell (j:=0) ht5 rfl,topFrozen 0 ht5,fun i=>G i\/(w.heap.size<=i/\i < w5.heap.size),⟨some ⟨dg,0,none⟩,cap,ds++[v],lp,lc,fs,?_⟩,⟨⟨gw.os,gw.tape,gw.output,by simpa using gw.size,fun i hi hn=>?_⟩,fun i hi=>?_⟩⟩
 ·have hlen:(A.D++[o]).length=A.D.length+1:=by simp
  have hsp:∀ (i:Nat) (u:Value),(ds++[v])[i]?=some u->(i < A.D.length/\ds[i]?=some u)\/(i=A.D.length/\u=v):=fun i u hu=>by
   by_cases c:i < ds.length
   ·rw[List.getElem?_append_left c] at hu
    exact .inl ⟨by rw[<- h.dlen];exact c,hu⟩
   ·have hi:=(List.getElem?_eq_some_iff.1 hu).1
    simp at hi
    have e:i=ds.length:=by omega
    subst e
    rw[List.getElem?_append_right (Nat.le_refl _),Nat.sub_self] at hu
    exact .inr ⟨h.dlen,(Option.some.inj hu).symm⟩
  have hvn:∀ g,v.ownBlock=some g->w.heap.size<=g/\g < w1.heap.size:=fun g hg=>by
   rcases ho with ⟨_,rfl⟩ | ⟨ss,vs,_,h2,_⟩
   ·cases hg
   ·exact⟨(rows_blk h2 hg).1,(rows_blk h2 hg).2.1⟩
  have hto:∀ (i:Nat) (c:Array Value) (t:TypeId),w.heap[i]?=some (.cells c t (0,0))->t ≠ 124->t ≠ 86->(w5.setCell ⟨r,0,none⟩ (.slice (some ⟨dg,0,none⟩) (A.D.length+1) cap)).heap[i]?=w.heap[i]?:=fun i c t hi h1 h2=>by
   rw[hs i (ne_ty hi h.top h2),hne i c t hi h1]
  have htn:∀ (i:Nat) (c:Array Value) (t:TypeId),w.heap.size<=i->w1.heap[i]?=some (.cells c t (0,0))->(w5.setCell ⟨r,0,none⟩ (.slice (some ⟨dg,0,none⟩) (A.D.length+1) cap)).heap[i]?=w1.heap[i]?:=fun i c t hl hi=>by
   rw[hs i (by have:=h.lt r h.Gr;omega),hnew i hl (Array.getElem?_eq_some_iff.1 hi).1]
  have hsec:=h.sec_same (w':=w5.setCell ⟨r,0,none⟩ (.slice (some ⟨dg,0,none⟩) (A.D.length+1) cap)) (fun g c _ hc=>hto g c _ hc (by decide) (by decide)) (fun g c _ hc=>hto g c _ hc (by decide) (by decide))
  refine⟨fun i hi=>?_,?_,?_,by simp[h.dlen],fun i u hu=>?_,ownsRow_same h.fly (fun g hg=>?_),h.flen,fun i u x hu hx=>⟨(h.fv_same (fun g c _ hc=>hto g c _ hc (by decide) (by decide)) i u x hu hx).1,fun g hg=>.inl ((h.fv i u x hu hx).2 g hg)⟩,.inl h.Gr,fun g hg=>?_,fun i u hu g hg=>?_,fun g hg=>.inl (h.Gl g hg),fun i j u u' hu hu' g hg hg'=>?_,h.left,h.n2,by rw[hlen];exact hd⟩
  ·rcases hi with hi | hi
   ·simpa using Nat.lt_of_lt_of_le (h.lt i hi) gw.size
   ·simpa using hi.2
  ·rw[heap_setCell_same _ _ _ _ _ _ ht5,hlen];rfl
  ·rw[hlen,drow_app h.dlen]
   exact ownsRow_same o5 (fun g hg=>by
    obtain⟨_,_,c,hc⟩:=rows_blk o5 hg
    exact hs g (ne_ty hc ht5 (by decide)))
  ·rcases hsp i u hu with ⟨hi,hu⟩ | ⟨rfl,rfl⟩
   ·have e:(A.D++[o])[i]?=A.D[i]?:=List.getElem?_append_left hi
    rcases hsec i u hu with ⟨h1,h2⟩ | ⟨ss,vs,h1,h2,h3,h4⟩
    ·exact .inl ⟨by rw[<- h1];exact e,h2⟩
    ·exact .inr ⟨ss,vs,by rw[<- h1];exact e,h2,h3,fun k u b hu hb=>⟨(h4 k u b hu hb).1,fun g hg=>.inl ((h4 k u b hu hb).2 g hg)⟩⟩
   ·have e:(A.D++[o])[A.D.length]?=some o:=by simp
    rcases ho with ⟨rfl,h2⟩ | ⟨ss,vs,rfl,h2,h3,h4⟩
    ·exact .inl ⟨e,h2⟩
    ·refine .inr ⟨ss,vs,e,ownsRow_down (ownsRow_same h2 (fun g hg=>?_)) (Nat.zero_le _),h3,fun k u b hu hb=>?_⟩
     ·obtain⟨hlo,_,c,hc⟩:=rows_blk h2 hg
      exact htn g c _ hlo hc
     ·have q:=h4 k u b hu hb
      refine⟨(q.sameB (fun g hg=>?_)).down (Nat.zero_le _),fun g hg=>.inr ?_⟩
      ·obtain⟨hlo,_,c,hc⟩:=rows_blk q.row hg
       exact htn g c _ hlo hc
      ·obtain⟨hlo,hhi,_⟩:=rows_blk q.row hg
       exact⟨hlo,Nat.lt_of_lt_of_le hhi g5.size⟩
  ·obtain⟨c,hc⟩:=rowBlock h.fly hg
   exact hto g c _ hc (by decide) (by decide)
  ·rw[hlen] at hg
   obtain rfl:dg=g:=Option.some.inj hg
   rcases hw with hw | hw
   ·exact .inl (h.Gd _ hw)
   ·exact .inr ⟨hw,hlt5⟩
  ·rcases hsp i u hu with ⟨hi,hu⟩ | ⟨rfl,rfl⟩
   ·exact .inl (h.Gs i u hu g hg)
   ·exact .inr ⟨(hvn g hg).1,Nat.lt_of_lt_of_le (hvn g hg).2 g5.size⟩
  ·rcases hsp i u hu with ⟨hi,hu1⟩ | ⟨e1,e2⟩
   ·rcases hsp j u' hu' with ⟨hj,hu2⟩ | ⟨e3,e4⟩
    ·exact h.ap i j u u' hu1 hu2 g hg hg'
    ·have a1:=hvn g (by rw[<- e4];exact hg')
     have a2:=h.lt g (h.Gs i u hu1 g hg)
     omega
   ·rcases hsp j u' hu' with ⟨hj,hu2⟩ | ⟨e3,e4⟩
    ·have a1:=hvn g (by rw[<- e2];exact hg)
     have a2:=h.lt g (h.Gs j u' hu2 g hg')
     omega
    ·omega
 ·rw[hs i (fun e=>hn (by rw[e];exact h.Gr))]
  exact gw.block i hi (fun e=>hn (h.Gd i e.symm))
 ·rcases hi with hi | hi
  ·exact .inl hi
  ·exact .inr hi.1
end
def mkTo (n i:Nat):AM.RA:=⟨List.replicate i (some (List.replicate n (AM.zs 64))),n,[],0,false⟩
theorem mkTo_len (n i:Nat):(mkTo n i).D.length=i:=by simp[mkTo]
theorem mkTo_step (n i:Nat):({ mkTo n i with D:=(mkTo n i).D++[some (List.replicate n (AM.zs 64))] }:AM.RA)=mkTo n (i+1):=by simp[mkTo,List.replicate_succ']
set_option maxRecDepth 100000 in
set_option maxHeartbeats 800000 in
theorem rnew_yes {w:World} {N n:Nat} (h1:1<=N) (h2:N<=255) (h3:1<=n) (h4:n<=4096):Calls Tryz.prog 28 #[.int .i64 (N:Int),.int .i64 (n:Int)] w fun e w'=>∃ r,e=.returned (.tuple #[rptr r,.int .i64 0])/\∃ G,RIs G w' r (AM.RA.new N n)/\Base w G w':=by
 have j1:¬ (N:Int) < 1:=by omega
 have j2:¬ (255:Int) < (N:Int):=by omega
 have j3:¬ (n:Int) < 1:=by omega
 have j4:¬ (4096:Int) < (n:Int):=by omega
 have HN4:Hid (n<=4096):=h4
 have H0:Hid (∃ G,RIs G (w.alloc (.cells #[.slice none 0 0,.int .i64 (n:Int),.slice none 0 0,.int .i64 0,.bool false] 86)) w.heap.size (mkTo n 0)/\Base w G (w.alloc (.cells #[.slice none 0 0,.int .i64 (n:Int),.slice none 0 0,.int .i64 0,.bool false] 86))) :=
  ⟨fun i=>i=w.heap.size,⟨none,0,[],none,0,[],fun i hi=>(by subst hi;simp),heap_alloc_new w _,World.ownsRow_nil _ _ _ _,rfl,fun i v hv=>(by simp at hv),World.ownsRow_nil _ _ _ _,rfl,fun i u x hu=>(by simp at hu),rfl,fun g hg=>(by cases hg),fun i v hv=>(by simp at hv),fun g hg=>(by cases hg),fun i j u v hu=>(by simp at hu),(by simp[mkTo]),h4,(by simp[mkTo])⟩,World.grownBy_alloc _ _ none,fun i hi=>by omega⟩
 clear h1 h3 h4
 go_enter Tryz.func28,Tryz.ntmps28
 go_wp2_with fail
 clear j1 j2 j3 j4
 generalize w.alloc (.cells #[.slice none 0 0,.int .i64 (n:Int),.slice none 0 0,.int .i64 0,.bool false] 86)=W0 at *
 generalize w.heap.size=r at *
 go_loopw [7] (fun ti wr=>∃ i:Nat,i<=N/\ti=.int .i64 (i:Int)/\Hid (∃ G,RIs G wr r (mkTo n i)/\Base w G wr)) (fun ti _=>N - (intOf ti).toNat)
 case atStart=>exact⟨0,by omega,rfl,H0.out⟩
 case round =>
  clear H0
  obtain⟨i,hi,rfl,HX⟩:=hrel
  by_cases hlt:i < N
  ·have i1:(i:Int) < (N:Int):=by omega
   obtain⟨G,⟨dp,dc,ds,lp,lc,fs,hrl⟩,hb⟩:=HX.out
   have HRL:Hid (RL G wr r dp dc ds lp lc fs (mkTo n i)):=hrl
   have c0:wr.cell? ⟨r,0,none⟩=some (.slice dp i dc):=by have:=hrl.topCells.1;rw[mkTo_len] at this;exact this
   have HI:Hid (i+1<=255):=by show _<=_;omega
   have HCK:Hid (∀ W,wr.grownBy W none->W.cell? ⟨r,0,none⟩=some (.slice dp i dc)):=fun W g=>g.cell c0 (by simp)
   have HDS:Hid (∀ W,wr.grownBy W none->W.ownsRow 0 124 2 (.slice dp i dc) i (drow ds (mkTo n i).D)):=fun W g=>by
    have:=(hrl.keep g).dsk
    rw[mkTo_len] at this
    exact this
   have HGR:Hid (∀ (w8:World) (p8:Option Addr) (c8:Nat) (vs8:List Value),wr.grownBy w8 none->(w8.ownsRow wr.heap.size 31 1 (.slice p8 n c8) n vs8/\∀ (k:Nat) (u:Value),vs8[k]?=some u->Own wr.heap.size w8 u (AM.zs 64))->∀ (dg cap:Nat) (w5:World),w5.ownsRow 0 124 2 (.slice (some ⟨dg,0,none⟩) (i+1) cap) (i+1) (drow ds (mkTo n i).D++[.slice p8 n c8,.bool false])->(w8.alloc (.cells #[.slice p8 n c8,.bool false] 124)).grownBy w5 (Value.slice dp i dc).ownBlock->((Value.slice dp i dc).ownBlock=some dg\/dg=(w8.alloc (.cells #[.slice p8 n c8,.bool false] 124)).heap.size) ->
    w5.cell? ⟨r,0,none⟩=some (.slice dp i dc)/\w5.frozen? ⟨r,0,none⟩=false/\∃ G,RIs G (w5.setCell ⟨r,0,none⟩ (.slice (some ⟨dg,0,none⟩) (i+1) cap)) r (mkTo n (i+1))/\Base w G (w5.setCell ⟨r,0,none⟩ (.slice (some ⟨dg,0,none⟩) (i+1) cap))):=fun w8 p8 c8 vs8 g8 hv8 dg cap w5 o5 g5 hw5=>by
    obtain⟨k1,k2,G',k3,k4⟩:=hrl.grew (dg:=dg) (cap:=cap) (w5:=w5) (w1:=w8.alloc (.cells #[.slice p8 n c8,.bool false] 124)) (gb_alloc g8 _) (v:=.slice p8 n c8) (o:=some (List.replicate n (AM.zs 64))) (.inr ⟨_,vs8,rfl,ownsRow_same hv8.1 (fun g hg=>Below.heap_alloc _ _ _ (rows_blk hv8.1 hg).2.1),by simp[mkTo],fun k u b hu hb=>by
     obtain rfl:b=AM.zs 64:=(List.mem_replicate.1 (List.mem_of_getElem? hb)).2
     exact (hv8.2 k u hu).keep (World.grownBy_alloc _ _ none)⟩) (by rw[mkTo_len];exact o5) (by rw[mkTo_len];exact g5) (by
      rw[mkTo_len]
      rcases hw5 with h | h
      ·exact .inl h
      ·refine .inr ?_
       rw[h]
       exact Nat.le_trans g8.size (by simp)) (by rw[mkTo_len];exact HI.out)
    rw[mkTo_step] at k3
    rw[mkTo_len] at k1 k3 k4
    exact⟨k1,k2,G',k3,hb.step k4⟩
   clear hrl hb HX
   go_wp2_with fail
   refine region_late (S:=(fun w'=>w'.cell? ⟨r,0,none⟩=some (.slice dp i dc))) (by simp only[List.pop_toArray,List.dropLast];exact rfl) (by rfl) (by kernel_rfl) (by kernel_rfl) ?_ (fun hHeld=>?_)
   ·exact HCK.out _ (grown_drewN _ 1)
   refine wpAnyH_take (i:=0) (v:=?_) rfl (by kernel_rfl) (by kernel_rfl) (by kernel_rfl) (fun _ _ _ h=>h) (Or.inl ⟨by rfl,?_⟩) (by assumption) ?_
   rotate_left
   ·intro w hSw;(try dsimp only at hSw);first | (go_simp;done) | (go_simp;with_reducible rfl)
   simp only[Act.put,lay9]
   refine wpAnyH_take (i:=1) (v:=?_) rfl (by kernel_rfl) (by kernel_rfl) (by kernel_rfl) (fun _ _ _ h=>h) (Or.inl ⟨by rfl,?_⟩) (by assumption) ?_
   rotate_left
   ·intro w hSw;(try dsimp only at hSw);first | (go_simp;done) | (go_simp;with_reducible rfl)
   simp only[Act.put,lay9]
   refine wpAnyH_take (i:=2) (v:=?_) rfl (by kernel_rfl) (by kernel_rfl) (by kernel_rfl) (fun _ _ _ h=>h) (Or.inl ⟨by rfl,?_⟩) (by assumption) ?_
   rotate_left
   ·intro w hSw;(try dsimp only at hSw);first | (go_simp;done) | (go_simp;with_reducible rfl)
   simp only[Act.put,lay9]
   refine wpAnyH_take (i:=3) (v:=?_) rfl (by kernel_rfl) (by kernel_rfl) (by kernel_rfl) (fun _ _ _ h=>h) (Or.inl ⟨by rfl,?_⟩) (by assumption) ?_
   rotate_left
   ·intro w hSw;(try dsimp only at hSw);first | (go_simp;done) | (go_simp;with_reducible rfl)
   simp only[Act.put,lay9]
   refine wpAnyH_take (i:=4) (v:=?_) rfl (by kernel_rfl) (by kernel_rfl) (by kernel_rfl) (fun _ _ _ h=>h) (Or.inl ⟨by rfl,?_⟩) (by assumption) ?_
   rotate_left
   ·intro w hSw;(try dsimp only at hSw);first | (go_simp;done) | (go_simp;with_reducible rfl)
   simp only[Act.put,lay9]
   refine wpAnyH_take (i:=5) (v:=?_) rfl (by kernel_rfl) (by kernel_rfl) (by kernel_rfl) (fun _ _ _ h=>h) (Or.inl ⟨by rfl,?_⟩) (by assumption) ?_
   rotate_left
   ·intro w hSw;(try dsimp only at hSw);first | (go_simp;done) | (go_simp;with_reducible rfl)
   simp only[Act.put,lay9]
   refine wpAnyH_ready (rs:=[6]) (by kernel_rfl) (by simp) ?_
   refine AllReadyH.cons rfl (fun K hK=>?_) AllReadyH.nil
   go_simp
   refine (rblank_yes wr.drew HN4.out).mono ?_
   rintro e w8 ⟨p8,c8,vs8,rfl,ho8,hs8,hg8⟩
   have G8:Hid (wr.grownBy w8 none):=grown_trans (grown_drewN _ 1) hg8
   have HO8:Hid (w8.ownsRow wr.heap.size 31 1 (.slice p8 n c8) n vs8/\∀ (k:Nat) (u:Value),vs8[k]?=some u->Own wr.heap.size w8 u (AM.zs 64)):=⟨ho8,hs8⟩
   have G9:Hid (wr.grownBy (w8.alloc (.cells #[.slice p8 n c8,.bool false] 124)) none):=gb_alloc G8.out _
   have hlit:=lit_dsk w8 p8 n c8 false
   clear ho8 hs8 hg8
   refine hK.out _ _ (HCK.out _ G8.out) (fun hHeld=>?_)
   clear hK K
   (try simp only[Act.put,lay9])
   refine wpAnyH_ready (rs:=[7]) (by kernel_rfl) (by simp) ?_
   refine AllReadyH.cons rfl (fun K hK=>?_) AllReadyH.nil
   go_simp
   refine hK.out _ _ (HCK.out _ G9.out) (fun hHeld=>?_)
   clear hK K
   (try simp only[Act.put,lay9])
   refine wpAnyH_ready (rs:=[8]) (by kernel_rfl) (by simp) ?_
   refine AllReadyH.cons rfl (fun K hK=>?_) AllReadyH.nil
   refine step_append_at (by rfl) _ _ (by rfl) Tryz.underlying83 zeroDsk rfl (by decide) (by rfl) (by rfl) (HDS.out _ G9.out) (m:=1) (news:=[.slice p8 n c8,.bool false]) (by decide) rfl (fun j u hj=>by rw[add_at,Nat.zero_add];exact topCell (heap_alloc_new w8 _) (by simpa using hj)) (by intro u hu;simp at hu;rcases hu with rfl | rfl <;> rfl) (by have:=HI.out;unfold maxLen;omega) (by have:=HI.out;omega) ?_
   intro dg5 cap5 w5 o5 g5 hw5
   obtain⟨k1,k2,k3⟩:=HGR.out w8 p8 c8 vs8 G8.out HO8.out _ _ w5 o5 g5 hw5
   have HX5:Hid (∃ G,RIs G (w5.setCell ⟨r,0,none⟩ (.slice (some ⟨dg5,0,none⟩) (i+1) cap5)) r (mkTo n (i+1))/\Base w G (w5.setCell ⟨r,0,none⟩ (.slice (some ⟨dg5,0,none⟩) (i+1) cap5))):=k3
   clear o5 g5 hw5 k3
   refine hK.out _ _ (k1) (fun hHeld=>?_)
   clear hK K
   (try simp only[Act.put,lay9])
   refine wpAnyH_take (i:=9) (v:=?_) rfl (by kernel_rfl) (by kernel_rfl) (by kernel_rfl) (fun _ _ _ h=>h) (Or.inl ⟨by rfl,?_⟩) (by assumption) ?_
   rotate_left
   ·intro w hSw;(try dsimp only at hSw);first | (go_simp;done) | (go_simp;with_reducible rfl)
   simp only[Act.put,lay9]
   refine wpAnyH_take (i:=10) (v:=?_) rfl (by kernel_rfl) (by kernel_rfl) (by kernel_rfl) (fun _ _ _ h=>h) (Or.inl ⟨by rfl,?_⟩) (by assumption) ?_
   rotate_left
   ·intro w hSw;(try dsimp only at hSw);first | (go_simp;done) | (go_simp;with_reducible rfl)
   simp only[Act.put,lay9]
   refine wpAnyH_done (by kernel_rfl) ?_ _
   refine lastQ_normal ?_
   go_wp2
   go_roundw
   case rel=>exact⟨i+1,by omega,by go_num,HX5⟩
   case measure=>simp[intOf];omega
  ·have i1:¬ (i:Int) < (N:Int):=by omega
   obtain rfl:i=N:=by omega
   go_wp2
   go_ret2
   exact⟨r,rfl,HX.out⟩
end Go.Proofs.YtaalagkbpeinkaaGreat
