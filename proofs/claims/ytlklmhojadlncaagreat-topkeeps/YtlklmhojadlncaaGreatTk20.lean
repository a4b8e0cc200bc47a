/- Packed: Late, Late2, RdC8. -/
import Derived.Test.YtlklmhojadlncaaGreatTk19
set_option linter.unusedSimpArgs false
set_option linter.unusedVariables false
set_option maxRecDepth 100000
namespace Go.Proofs.YtlklmhojadlncaaGreat
section
variable {P:Program} {md:Region.Mode} {Q:Exit->Act->World->Prop} {S:World->Prop}
def lastQ (P:Program) (ops:Array Oper) (o:Oper) (Q:Exit->Act->World->Prop):Exit->Act->World->Prop
 | .normal,a,w=>wpList P ops Q [o] a w
 | e,a,w=>Q e a w
def waits (md:Region.Mode) (ops:Array Oper):Nat->Nat->Nat->Bool
 | 0,_,_=>false
 | n+1,j,i=>match ops[j]? with
   | none=>false
   | some o=>o.after.any (fun e=>Region.binds md e&&(e.on==i || waits md ops n e.on i))
def lastOk (md:Region.Mode) (ops:Array Oper):Bool :=
 (List.range ops.size).all (fun j=>match ops[j]? with
   | none=>false
   | some o=>o.guard.isNone&&o.after.all (fun e=>!(Region.binds md e) || decide (e.on < j))) &&
 (List.range (ops.size - 1)).all (fun i=>waits md ops ops.size (ops.size - 1) i)
def Down (md:Region.Mode) (ops:Array Oper) (listed:Array Bool):Prop :=
 ∀ (j:Nat) (o:Oper),ops[j]?=some o->listed.getD j false=true->∀ e ∈ o.after,Region.binds md e=true->listed.getD e.on false=true
theorem getD_any {l:Array Bool} {i:Nat} (h:i < l.size) (b c:Bool):l.getD i b=l.getD i c:=by simp[h]
theorem waits_listed {ops:Array Oper} {listed:Array Bool} (hd:Down md ops listed):∀ (n j i:Nat),waits md ops n j i=true->(∀ o,ops[j]?=some o->∀ e ∈ o.after,Region.binds md e=true->listed.getD e.on false=true)->listed.getD i false=true:=by
 intro n
 induction n with
 | zero=>intro j i h;cases h
 | succ n ih =>
   intro j i h hj
   unfold waits at h
   cases ho:ops[j]? with
   | none=>rw[ho] at h;cases h
   | some o =>
     rw[ho] at h
     obtain⟨e,he,h1⟩:=Array.any_eq_true'.1 h
     simp only[Bool.and_eq_true,Bool.or_eq_true,beq_iff_eq] at h1
     have hl:=hj o ho e he h1.1
     rcases h1.2 with h2 | h2
     ·rw[<- h2];exact hl
     ·exact ih e.on i h2 (fun o' ho' e' he' hb'=>hd e.on o' ho' hl e' he' hb')
theorem letsOut_last {ops:Array Oper} {oL:Oper} (h:LetsOut (lastQ P ops oL Q)):LetsOut Q:=by
 obtain⟨a,w,h⟩:=h
 exact⟨a,w,h⟩
theorem wp_last {ops:Array Oper} {oL o:Oper} {a:Act} {w:World} {K K':Act->World->Prop} (hK:∀ a w,K a w->K' a w) (h:Oper.wp P o a w K (lastQ P ops oL Q)):Oper.wp P o a w K' Q:=by
 unfold Oper.wp at *
 generalize (execOp a.eval o).run P w=r at *
 cases r with
 | ok n w' =>
   cases n <;> simp only[Oper.upon] at h ⊢
   case value u=>exact hK _ _ h
   case skip=>exact hK _ _ h
   case defer d=>exact hK _ _ h
   case enter f args =>
    refine Calls.mono h fun e w'' he=>?_
    cases e with
    | returned u=>exact hK _ _ he
    | panicked c=>exact he
    | outgrown=>exact letsOut_last he
   case row row args=>exact Rows.mono h fun u w'' he=>hK _ _ he
 | halt x w' =>
   cases x <;> simp only[Oper.upon] at h ⊢
   case panic u=>exact h
theorem push_getD (listed:Array Bool) (x:Nat):(listed.push false).getD x false=listed.getD x false:=by
 by_cases h:x < listed.size
 ·simp[Array.getElem?_push,h,Nat.ne_of_lt h]
 ·by_cases h2:x=listed.size
  ·subst h2;simp
  ·have h3:¬ x < (listed.push false).size:=by simp;omega
   simp only[Array.getD,h,h3,dif_neg,not_false_eq_true]
theorem ready_push {ops:Array Oper} {oL:Oper} {listed:Array Bool} (hs:listed.size=ops.size) {j:Nat} (hj:j < ops.size):j ∈ Region.ready md (ops.push oL) (listed.push false) ↔ j ∈ Region.ready md ops listed:=by
 rw[mem_ready,mem_ready]
 have e1:(listed.push false).getD j true=listed.getD j true:=by
  rw[getD_any (by simp;omega) true false,push_getD,getD_any (by omega) false true]
 have e2:(ops.push oL)[j]?=ops[j]?:=by rw[Array.getElem?_push,if_neg (by omega)]
 rw[e1,e2]
 simp only[push_getD]
structure LastOk (md:Region.Mode) (ops:Array Oper) (oL:Oper):Prop where
 gd:∀ (j:Nat) (o:Oper),(ops.push oL)[j]?=some o->o.guard=none
 lt:∀ (j:Nat) (o:Oper),(ops.push oL)[j]?=some o->∀ e ∈ o.after,Region.binds md e=true->e.on < j
 all:∀ i:Nat,i < ops.size->∃ n,waits md (ops.push oL) n ops.size i=true
theorem lastOk_of {ops:Array Oper} {oL:Oper} (h:lastOk md (ops.push oL)=true):LastOk md ops oL:=by
 unfold lastOk at h
 simp only[Bool.and_eq_true,List.all_eq_true,List.mem_range] at h
 obtain⟨h1,h2⟩:=h
 have key:∀ (j:Nat) (o:Oper),(ops.push oL)[j]?=some o->o.guard.isNone=true/\∀ e ∈ o.after,(!(Region.binds md e) || decide (e.on < j))=true:=fun j o ho=>by
  have:=h1 j (Array.getElem?_eq_some_iff.1 ho).1
  rw[ho] at this
  simp only[Bool.and_eq_true] at this
  refine⟨this.1,fun e he=>?_⟩
  have:=Array.all_eq_true'.1 this.2
  exact this e he
 refine⟨fun j o ho=>by simpa using (key j o ho).1,fun j o ho e he hb=>?_,fun i hi=>⟨(ops.push oL).size,?_⟩⟩
 ·have:=(key j o ho).2 e he
  simpa [hb] using this
 ·have:=h2 i (by simp;omega)
  simpa using this
theorem down_push {ops:Array Oper} {oL:Oper} {listed:Array Bool} (hs:listed.size=ops.size) (hd:Down md ops listed):Down md (ops.push oL) (listed.push false):=fun j o ho hj e he hb=>by
 rw[push_getD] at hj ⊢
 have hlt:j < ops.size:=by
  rcases Nat.lt_or_ge j listed.size with h | h
  ·omega
  ·simp[Array.getElem?_eq_none h] at hj
 rw[Array.getElem?_push,if_neg (by omega)] at ho
 exact hd j o ho hj e he hb
theorem down_set {ops:Array Oper} {listed:Array Bool} (hd:Down md ops listed) {i:Nat} (hi:i ∈ Region.ready md ops listed):Down md ops (listed.setIfInBounds i true):=fun j o ho hj e he hb=>by
 refine getD_set_true ?_
 by_cases c:i=j
 ·subst c
  obtain⟨_,o',ho',hall⟩:=mem_ready.1 hi
  rw[ho] at ho'
  obtain rfl:=Option.some.inj ho'
  exact hall e he hb
 ·rw[_root_.Go.getD_set_ne false c] at hj
  exact hd j o ho hj e he hb
theorem all_listed {ops:Array Oper} {oL:Oper} {listed:Array Bool} (hok:LastOk md ops oL) (hs:listed.size=ops.size) (hr:Region.ready md ops listed=[]):∀ n j,j < n->j < ops.size->listed.getD j false=true:=by
 intro n
 induction n with
 | zero=>intro j hj;omega
 | succ n ih =>
   intro j hjn hj
   cases hc:listed.getD j false with
   | true=>rfl
   | false =>
     have:j ∈ Region.ready md ops listed:=by
      rw[mem_ready]
      have ho:ops[j]?=some ops[j]:=Array.getElem?_eq_getElem hj
      refine⟨by rw[getD_any (by omega) true false];exact hc,_,ho,fun e he hb=>?_⟩
      have hlt:=hok.lt j ops[j] (by rw[Array.getElem?_push,if_neg (by omega)];exact ho) e he hb
      exact ih e.on (by omega) (by omega)
     rw[hr] at this
     cases this
theorem lastOp_step {ops:Array Oper} {oL:Oper} {listed:Array Bool} {a:Act} {w:World} (hok:LastOk md ops oL) (hs:listed.size=ops.size) (hr:Region.ready md ops listed=[]) (h:lastQ P (ops.push oL) oL Q .normal a w):∀ fuel,wpAny P md (ops.push oL) Q (fuel+1) (listed.push false) a w:=by
 have hall:=all_listed hok hs hr
 have hL:(ops.push oL)[ops.size]?=some oL:=by simp
 have hmem:ops.size ∈ Region.ready md (ops.push oL) (listed.push false):=by
  rw[mem_ready]
  refine⟨by rw[<- hs];simp,oL,hL,fun e he hb=>?_⟩
  have:=hok.lt _ _ hL e he hb
  rw[push_getD]
  exact hall _ _ (Nat.lt_succ_self _) this
 have honly:∀ i ∈ Region.ready md (ops.push oL) (listed.push false),i=ops.size:=fun i hi=>by
  obtain⟨_,o,ho,_⟩:=mem_ready.1 hi
  have hlt:=(Array.getElem?_eq_some_iff.1 ho).1
  simp at hlt
  rcases Nat.lt_or_ge i ops.size with h | h
  ·rw[ready_push hs h,hr] at hi;cases hi
  ·omega
 have hdone:Region.ready md (ops.push oL) ((listed.push false).setIfInBounds ops.size true)=[]:=by
  apply List.eq_nil_iff_forall_not_mem.2
  intro i hi
  have h0:=(mem_ready.1 hi).1
  obtain⟨_,o,ho,_⟩:=mem_ready.1 hi
  have hlt:=(Array.getElem?_eq_some_iff.1 ho).1
  simp at hlt
  by_cases c:ops.size=i
  ·subst c
   rw[<- hs] at h0
   simp at h0
  ·rw[_root_.Go.getD_set_ne true c,getD_any (by simp;omega) true false,push_getD,hall (i+1) i (Nat.lt_succ_self _) (by omega)] at h0
   cases h0
 intro fuel
 refine⟨fun h0=>(by rw[h0] at hmem;cases hmem),fun i hi=>?_⟩
 obtain rfl:=honly i hi
 have hfin:∀ a w,wpList P (ops.push oL) Q [] a w->wpAny P md (ops.push oL) Q fuel ((listed.push false).setIfInBounds ops.size true) a w:=fun a w h=>wpAny_done hdone h fuel
 have h':if Region.wanted oL (yielded (ops.push oL) a.tmps) then oL.wp P a w (wpList P (ops.push oL) Q []) Q\/(oL.asks P a w/\LetsOut Q) else wpList P (ops.push oL) Q [] (a.put oL.dst undef) w:=h
 refine wpOp_mono hfin ?_
 unfold wpOp
 rw[hL]
 exact h'
theorem any_last {ops:Array Oper} {oL:Oper} (hok:LastOk md ops oL):∀ (fuel:Nat) (listed:Array Bool) (a:Act) (w:World),listed.size=ops.size->Down md ops listed->wpAnyH P md ops (lastQ P (ops.push oL) oL Q) S fuel listed a w->wpAny P md (ops.push oL) Q (fuel+1) (listed.push false) a w:=by
 intro fuel
 induction fuel with
 | zero=>intro listed a w hs hd h;exact lastOp_step hok hs h.1 h.2 0
 | succ fuel ih =>
   intro listed a w hs hd h
   by_cases hr:Region.ready md ops listed=[]
   ·exact lastOp_step hok hs hr (h.1 hr) (fuel+1)
   ·obtain⟨i0,hi0⟩:=List.exists_mem_of_ne_nil _ hr
    have hL:(ops.push oL)[ops.size]?=some oL:=by simp
    have hno:ops.size ∉ Region.ready md (ops.push oL) (listed.push false):=fun hm=>by
     obtain⟨_,o,ho,hall⟩:=mem_ready.1 hm
     rw[hL] at ho
     obtain rfl:=Option.some.inj ho
     obtain⟨h0,o',ho',_⟩:=mem_ready.1 hi0
     have hlt:=(Array.getElem?_eq_some_iff.1 ho').1
     obtain⟨n,hn⟩:=hok.all i0 hlt
     have:=waits_listed (down_push hs hd) n _ _ hn (fun o ho=>by
      rw[hL] at ho
      obtain rfl:=Option.some.inj ho
      exact hall)
     rw[push_getD,getD_any (by omega) false true,h0] at this
     cases this
    have hto:∀ i ∈ Region.ready md (ops.push oL) (listed.push false),i < ops.size/\i ∈ Region.ready md ops listed:=fun i hi=>by
     obtain⟨_,o,ho,_⟩:=mem_ready.1 hi
     have hlt:=(Array.getElem?_eq_some_iff.1 ho).1
     simp at hlt
     have hne:i ≠ ops.size:=fun e=>hno (by rw[<- e];exact hi)
     have hl:i < ops.size:=by omega
     exact⟨hl,(ready_push hs hl).1 hi⟩
    refine⟨fun h0=>?_,fun i hi=>?_⟩
    ·have:=(ready_push (md:=md) (oL:=oL) hs (Array.getElem?_eq_some_iff.1 (mem_ready.1 hi0).2.choose_spec.1).1).2 hi0
     rw[h0] at this
     cases this
    ·obtain⟨hl,hi'⟩:=hto i hi
     have h1:=h.2 i hi'
     have ho:ops[i]?=some ops[i]:=Array.getElem?_eq_getElem hl
     have ho2:(ops.push oL)[i]?=some ops[i]:=by rw[Array.getElem?_push,if_neg (by omega)];exact ho
     have hg:=hok.gd i _ ho2
     have hw:∀ os:Array Oper,Region.wanted ops[i] (yielded os a.tmps)=true:=fun os=>by simp[Region.wanted,hg]
     have hK:∀ a' w',(S w'/\wpAnyH P md ops (lastQ P (ops.push oL) oL Q) S fuel (listed.setIfInBounds i true) a' w')->wpAny P md (ops.push oL) Q (fuel+1) ((listed.push false).setIfInBounds i true) a' w':=fun a' w' hh=>by
      have:=ih (listed.setIfInBounds i true) a' w' (by simpa using hs) (down_set hd hi') hh.2
      have e:(listed.setIfInBounds i true).push false=(listed.push false).setIfInBounds i true:=by
       have hil:i < listed.size:=by omega
       apply Array.ext_getElem?
       intro k
       simp only[Array.getElem?_push,Array.getElem?_setIfInBounds,Array.size_setIfInBounds,Array.size_push]
       by_cases ck:k=listed.size
       ·have:i ≠ k:=by omega
        simp[ck,hil,show i ≠ listed.size by omega]
       ·by_cases cik:i=k
        ·subst cik
         simp[hil,ck,Nat.lt_succ_of_lt hil]
        ·simp[ck,cik]
      rw[<- e];exact this
     unfold wpOp at h1 ⊢
     rw[ho] at h1
     rw[ho2]
     simp only[hw,if_true] at h1 ⊢
     rcases h1 with h1 | ⟨h1,h2⟩
     ·exact .inl (wp_last hK h1)
     ·exact .inr ⟨h1,letsOut_last h2⟩
theorem region_last {id:Nat} {ops all:Array Oper} {oL:Oper} {a:Act} {w:World} (he:all=ops.push oL) (hm:P.follows .mixedOrders=true) (hl:lastOk .any (ops.push oL)=true) (hS:S w.drew)
 (h:S w.drew->wpAnyH P .any ops (lastQ P (ops.push oL) oL Q) S ops.size (Array.replicate ops.size false) a w.drew):(Code.region id all true).wp P Q a w:=by
 subst he
 refine wp_region_any hm ?_
 have:=any_last (S:=S) (lastOk_of hl) ops.size (Array.replicate ops.size false) a w.drew (by simp) (fun j o ho hj=>by
  by_cases c:j < ops.size <;> simp[c] at hj) (h hS)
 have e:Array.replicate (ops.push oL).size false=(Array.replicate ops.size false).push false:=by rw[Array.size_push,Array.replicate_succ]
 rw[e,Array.size_push]
 exact this
theorem region_late {id:Nat} {ops all:Array Oper} {oL:Oper} {a:Act} {w:World} (hp:all.pop=ops) (hb:all.back?=some oL) (hm:P.follows .mixedOrders=true) (hl:lastOk .any all=true) (hS:S w.drew)
 (h:S w.drew->wpAnyH P .any ops (lastQ P (ops.push oL) oL Q) S ops.size (Array.replicate ops.size false) a w.drew):(Code.region id all true).wp P Q a w:=by
 have he:all=ops.push oL:=by
  subst hp
  have hne:all.size ≠ 0:=fun h0=>by
   have:all=#[]:=Array.eq_empty_of_size_eq_zero h0
   subst this
   simp at hb
  rw[Array.back?_eq_getElem?] at hb
  obtain⟨h1,h2⟩:=Array.getElem?_eq_some_iff.1 hb
  apply Array.ext_getElem?
  intro k
  rw[Array.getElem?_push,Array.getElem?_pop,Array.size_pop]
  by_cases c:k=all.size - 1
  ·subst c;simp[hb]
  ·by_cases c2:k < all.size - 1
   ·simp[c]
    intro hk
    omega
   ·simp[c]
    intro hk
    omega
 exact region_last (S:=S) he hm (by rw[<- he];exact hl) hS h
theorem lastQ_normal {ops:Array Oper} {o:Oper} {a:Act} {w:World} (h:wpList P ops Q [o] a w):lastQ P ops o Q .normal a w:=h
end
section
variable {P:Program} {md:Region.Mode} {Q:Exit->Act->World->Prop} {S:World->Prop}
theorem held_of_any {ops:Array Oper}:∀ (fuel:Nat) (listed:Array Bool) (a:Act) (w:World),wpAny P md ops Q fuel listed a w->wpAnyH P md ops Q (fun _=>True) fuel listed a w
 | 0,_,_,_,h=>h
 | fuel+1,_,_,_,h=>⟨h.1,fun i hi=>wpOp_mono (fun a' w' h'=>⟨trivial,held_of_any fuel _ a' w' h'⟩) (h.2 i hi)⟩
theorem region_last2 {id:Nat} {ops all:Array Oper} {o1 o2:Oper} {a:Act} {w:World} (he:all=(ops.push o1).push o2) (hm:P.follows .mixedOrders=true) (hl1:lastOk .any (ops.push o1)=true) (hl2:lastOk .any ((ops.push o1).push o2)=true) (hS:S w.drew)
 (h:S w.drew->wpAnyH P .any ops (lastQ P (ops.push o1) o1 (lastQ P ((ops.push o1).push o2) o2 Q)) S ops.size (Array.replicate ops.size false) a w.drew):(Code.region id all true).wp P Q a w:=by
 refine region_last (S:=fun _=>True) he hm hl2 trivial (fun _=>?_)
 have:=any_last (Q:=lastQ P ((ops.push o1).push o2) o2 Q) (S:=S) (lastOk_of hl1) ops.size (Array.replicate ops.size false) a w.drew (by simp) (fun j o ho hj=>by
  by_cases c:j < ops.size <;> simp[c] at hj) (h hS)
 have e:Array.replicate (ops.push o1).size false=(Array.replicate ops.size false).push false:=by rw[Array.size_push,Array.replicate_succ]
 rw[e,Array.size_push]
 exact held_of_any _ _ _ _ this
theorem push_of_back {all ops:Array Oper} {oL:Oper} (hp:all.pop=ops) (hb:all.back?=some oL):all=ops.push oL:=by
 subst hp
 have hne:all.size ≠ 0:=fun h0=>by
  have:all=#[]:=Array.eq_empty_of_size_eq_zero h0
  subst this
  simp at hb
 rw[Array.back?_eq_getElem?] at hb
 obtain⟨h1,h2⟩:=Array.getElem?_eq_some_iff.1 hb
 apply Array.ext_getElem?
 intro k
 rw[Array.getElem?_push,Array.getElem?_pop,Array.size_pop]
 by_cases c:k=all.size - 1
 ·subst c;simp[hb]
 ·by_cases c2:k < all.size - 1
  ·simp[c]
   intro hk
   omega
  ·simp[c]
   intro hk
   omega
theorem region_late2 {id:Nat} {ops ops1 all:Array Oper} {o1 o2:Oper} {a:Act} {w:World} (hp2:all.pop=ops1) (hp1:ops1.pop=ops) (hb2:all.back?=some o2) (hb1:ops1.back?=some o1) (hm:P.follows .mixedOrders=true)
 (hl1:lastOk .any ops1=true) (hl2:lastOk .any all=true) (hS:S w.drew)
 (h:S w.drew->wpAnyH P .any ops (lastQ P ops1 o1 (lastQ P all o2 Q)) S ops.size (Array.replicate ops.size false) a w.drew):(Code.region id all true).wp P Q a w:=by
 have e1:=push_of_back hp1 hb1
 have e2:=push_of_back hp2 hb2
 subst e1
 subst e2
 exact region_last2 (S:=S) rfl hm hl1 hl2 hS h
end
open Go.RowKit
structure RdI (w0:World) (B0 A D Sb s m:Nat) (w:World) (va va':Value) (l:List Nat) (vt vt':Value) (us:List Value) (X:List (List Nat)):Prop where
 b0:Boxed w B0 36 (.int .u64 (m:Int))
 ba:Boxed w A 87 va
 bd:Boxed w D 88 vt
 bs:Boxed w Sb 31 (ptr s)
 ia:IOwn w0.heap.size w va' (SP.ints l)
 mt:RMat 5 w0.heap.size w vt' us X
 lA:w0.heap.size<=A
 lD:w0.heap.size<=D
 gr:w0.grownBy w none
theorem boxed_ne {w:World} {A D:Nat} {t t':TypeId} {u v:Value} (h:Boxed w A t u) (h':Boxed w D t' v) (ne:t ≠ t'):A ≠ D:=fun e=>by
 subst e
 have h3:=(show w.heap[A]?=_ from h).symm.trans (show w.heap[A]?=_ from h')
 simp at h3
 exact ne h3.2
theorem RMat.boxed {T:TypeId} {B A:Nat} {w:World} {v u:Value} {us:List Value} {X:List (List Nat)} {t:TypeId} (h:RMat T B w v us X) (hb:Boxed w A t u) (h1:t ≠ 26) (h2:t ≠ T) {w':World} (g:w.grownBy w' (some A)):RMat T B w' v us X :=
 h.kept g (fun r hr c f=>by
  obtain rfl:=Option.some.inj hr
  rw[show w.heap[A]?=_ from hb]
  simp[h1,h2])
theorem RMat.rowed {T:TypeId} {B B' n:Nat} {w:World} {v u:Value} {us xs:List Value} {X:List (List Nat)} {t:TypeId} (h:RMat T B w v us X) (hr:w.ownsRow B' t 1 u n xs) (h1:t ≠ 26) (h2:t ≠ T) {w':World} (g:w.grownBy w' u.ownBlock):RMat T B w' v us X :=
 h.kept g (fun r e c f=>by
  obtain⟨c',hc'⟩:=rowBlock hr e
  rw[hc']
  simp[h1,h2])
section
variable {w0 w w':World} {B0 A D Sb s m:Nat} {va va' vt vt':Value} {l:List Nat} {us:List Value} {X:List (List Nat)}
theorem RdI.keep (h:RdI w0 B0 A D Sb s m w va va' l vt vt' us X) (g:w.grownBy w' none):RdI w0 B0 A D Sb s m w' va va' l vt vt' us X :=
 ⟨h.b0.kept g (by simp),h.ba.kept g (by simp),h.bd.kept g (by simp),h.bs.kept g (by simp),h.ia.keep g,h.mt.keep g,h.lA,h.lD,grown_trans h.gr g⟩
theorem RdI.cells (h:RdI w0 B0 A D Sb s m w va va' l vt vt' us X):w.cell? ⟨A,0,none⟩=some va/\w.cell? ⟨D,0,none⟩=some vt:=⟨h.ba.cell,h.bd.cell⟩
theorem RdI.app1 (h:RdI w0 B0 A D Sb s m w va va' l vt vt' us X) {v2:Value} {j:Nat} (o:IOwn w0.heap.size w' v2 (SP.ints l++[(j:Int)])) (g:w.grownBy w' va'.ownBlock):RdI w0 B0 A D Sb s m w' va v2 (l++[j]) vt vt' us X :=
 ⟨h.b0.kept g (h.b0.not_row (by decide) h.ia.row),h.ba.kept g (h.ba.not_row (by decide) h.ia.row),h.bd.kept g (h.bd.not_row (by decide) h.ia.row),h.bs.kept g (h.bs.not_row (by decide) h.ia.row),by rw[SP.ints_app];exact o,h.mt.rowed h.ia.row (by decide) (by decide) g,h.lA,h.lD,grown_new h.gr g (fun i e=>h.ia.lo i e)⟩
theorem RdI.app2 (h:RdI w0 B0 A D Sb s m w va va' l vt vt' us X) {v2 v:Value} {ys:List Nat} (hu:Arr 5 w0.heap.size w v ys) (hl:(us.length+1) * 24<=140737488351232) (hr:w'.ownsRow w0.heap.size 26 1 v2 (us.length+1) (us++[v])) (g:w.grownBy w' vt'.ownBlock):RdI w0 B0 A D Sb s m w' va va' l vt v2 (us++[v]) (X++[ys]) :=
 ⟨h.b0.kept g (h.b0.not_row (by decide) h.mt.row),h.ba.kept g (h.ba.not_row (by decide) h.mt.row),h.bd.kept g (h.bd.not_row (by decide) h.mt.row),h.bs.kept g (h.bs.not_row (by decide) h.mt.row),h.ia.kept g (row_apart (by decide) h.ia.row h.mt.row),h.mt.more (by decide) hu hl hr g,h.lA,h.lD,grown_new h.gr g (fun i e=>h.mt.lo i e)⟩
theorem IOwn.boxed {B A:Nat} {w w':World} {v u:Value} {ls:List Int} {t:TypeId} (h:IOwn B w v ls) (hb:Boxed w A t u) (ht:t ≠ 3) (g:w.grownBy w' (some A)):IOwn B w' v ls :=
 h.kept g (by
  have:=hb.not_row ht h.row
  cases e:v.ownBlock with
  | none=>exact .inl rfl
  | some k=>exact .inr (fun e2=>this (by rw[e,<- e2])))
theorem RdI.setA (h:RdI w0 B0 A D Sb s m w va va' l vt vt' us X):RdI w0 B0 A D Sb s m (w.setCell ⟨A,0,none⟩ va') va' va' l vt vt' us X :=
 have g:=grownBy_setCell' w A va'
 ⟨h.b0.kept g (fun e=>boxed_ne h.b0 h.ba (by decide) (Option.some.inj e)),h.ba.set _,h.bd.kept g (fun e=>boxed_ne h.bd h.ba (by decide) (Option.some.inj e)),h.bs.kept g (fun e=>boxed_ne h.bs h.ba (by decide) (Option.some.inj e)),h.ia.boxed h.ba (by decide) g,h.mt.boxed h.ba (by decide) (by decide) g,h.lA,h.lD,grown_new h.gr g (fun i e=>by have:=Option.some.inj e;have:=h.lA;omega)⟩
theorem RdI.setD (h:RdI w0 B0 A D Sb s m w va va' l vt vt' us X):RdI w0 B0 A D Sb s m (w.setCell ⟨D,0,none⟩ vt') va va' l vt' vt' us X :=
 have g:=grownBy_setCell' w D vt'
 ⟨h.b0.kept g (fun e=>boxed_ne h.b0 h.bd (by decide) (Option.some.inj e)),h.ba.kept g (fun e=>boxed_ne h.ba h.bd (by decide) (Option.some.inj e)),h.bd.set _,h.bs.kept g (fun e=>boxed_ne h.bs h.bd (by decide) (Option.some.inj e)),h.ia.boxed h.bd (by decide) g,h.mt.boxed h.bd (by decide) (by decide) g,h.lA,h.lD,grown_new h.gr g (fun i e=>by have:=Option.some.inj e;have:=h.lD;omega)⟩
set_option maxHeartbeats 3200000 in
theorem rd_no (h:RdI w0 B0 A D Sb s m w va va l vt vt us X) {j n k:Nat} {v:Value} (hn:n ≠ m) (hK:∀ w',w0.grownBy w' none->w'.cell? ⟨s,1,none⟩=some (.int .i64 (k:Int))) :
 Calls Tryz.prog 44 #[.int .i64 (j:Int),.int .u64 (n:Int),v,.pointer (some ⟨B0,0,none⟩),.pointer (some ⟨A,0,none⟩),.pointer (some ⟨D,0,none⟩),.pointer (some ⟨Sb,0,none⟩)] w fun e w'=>e=.returned (.bool (decide (l.length < k)))/\RdI w0 B0 A D Sb s m w' va va l vt vt us X:=by
 obtain⟨ap,an,ac,rfl,ha⟩:=h.ia.ivec.opened
 have HA:Hid (an=l.length):=by show _=_;rw[ha,SP.ints_len]
 have T:Hid (RdI w0 B0 A D Sb s m w (.slice ap an ac) (.slice ap an ac) l vt vt us X):=h
 have HK:Hid (∀ w',w0.grownBy w' none->w'.cell? ⟨s,1,none⟩=some (.int .i64 (k:Int))):=hK
 have hne:((n:Int)==(m:Int))=false:=eqb_no hn
 have c0:=h.b0.cell
 clear h ha hK hn
 go_enter Tryz.func44,Tryz.ntmps44
 go_wp2_with fail
 have HS9:Hid (∀ w',w.grownBy w' none->w'.cell? ⟨A,0,none⟩=some (.slice ap an ac)/\w'.cell? ⟨Sb,0,none⟩=some (ptr s)/\w'.cell? ⟨s,1,none⟩=some (.int .i64 (k:Int))):=fun w' g'=>⟨(T.out.keep g').ba.cell,(T.out.keep g').bs.cell,HK.out w' (T.out.keep g').gr⟩
 clear c0
 go_region_held3 (fun w'=>w'.cell? ⟨A,0,none⟩=some (.slice ap an ac)/\w'.cell? ⟨Sb,0,none⟩=some (ptr s)/\w'.cell? ⟨s,1,none⟩=some (.int .i64 (k:Int))) (exact HS9.out _ (grown_drewN w 1)) (fail)
 go_wp2
 go_ret
 exact⟨by rw[HA.out];rfl,T.out.keep (grown_drewN w 1)⟩
set_option maxHeartbeats 12800000 in
theorem rd_yes {vp:Option Addr} {vn vc:Nat} (h:RdI w0 B0 A D Sb s m w va va l (.slice vp vn vc) (.slice vp vn vc) us X) {j k:Nat} {pv:Option Addr} {nv cv:Nat} {ys:List Nat} (hv:Own w0.heap.size w (.slice pv nv cv) ys) (hl:l.length < 255) (hl2:us.length < 255) (hK:∀ w',w0.grownBy w' none->w'.cell? ⟨s,1,none⟩=some (.int .i64 (k:Int))) :
 Calls Tryz.prog 44 #[.int .i64 (j:Int),.int .u64 (m:Int),.slice pv nv cv,.pointer (some ⟨B0,0,none⟩),.pointer (some ⟨A,0,none⟩),.pointer (some ⟨D,0,none⟩),.pointer (some ⟨Sb,0,none⟩)] w fun e w'=>e=.returned (.bool (decide ((l++[j]).length < k)))/\∃ va' vt' us',RdI w0 B0 A D Sb s m w' va' va' (l++[j]) vt' vt' us' (X++[ys]):=by
 have HK:Hid (∀ w',w0.grownBy w' none->w'.cell? ⟨s,1,none⟩=some (.int .i64 (k:Int))):=hK
 have hne:((m:Int)==(m:Int))=true:=eqb_yes rfl
 have c0:=h.b0.cell
 have HL:Hid (((SP.ints l).length+1) * 8<=140737488351232/\(us.length+1) * 24<=140737488351232):=⟨by rw[SP.ints_len];omega,by omega⟩
 have HLL:Hid ((l++[j]).length=l.length+1):=by show _=_;simp
 have T:Hid (RdI w0 B0 A D Sb s m w.drew va va l (.slice vp vn vc) (.slice vp vn vc) us X):=h.keep (gb_drew (World.grownBy.refl _ _))
 obtain⟨H,hH⟩:∃ H,H=w0.heap.size:=⟨_,rfl⟩
 have V:Hid (Own w0.heap.size w.drew (.slice pv nv cv) ys):=hv.keep (gb_drew (World.grownBy.refl _ _))
 clear h hv hl hl2 hK hH H
 go_enter Tryz.func44,Tryz.ntmps44
 go_wp2_with fail
 clear c0 hne
 refine region_late2 (S:=fun w'=>w'.cell? ⟨A,0,none⟩=some va/\w'.cell? ⟨D,0,none⟩=some (.slice vp vn vc)) (by simp only[List.pop_toArray,List.dropLast];exact rfl) (by simp only[List.pop_toArray,List.dropLast];exact rfl) (by rfl) (by rfl) (by kernel_rfl) (by kernel_rfl) (by kernel_rfl) ?_ (fun hHeld=>?_)
 ·exact T.out.cells
 generalize w.drew=wd at *
 refine wpAnyH_take (i:=0) (v:=?_) rfl (by kernel_rfl) (by kernel_rfl) (by kernel_rfl) (fun _ _ _ h=>h) (Or.inl ⟨by rfl,?_⟩) (by assumption) ?_
 rotate_left
 ·intro w hSw;(try dsimp only at hSw);obtain⟨hS1,hS2⟩:=hSw;first | (go_simp;done) | (go_simp;with_reducible rfl)
 simp only[Act.put,lay9]
 refine wpAnyH_take (i:=1) (v:=?_) rfl (by kernel_rfl) (by kernel_rfl) (by kernel_rfl) (fun _ _ _ h=>h) (Or.inl ⟨by rfl,?_⟩) (by assumption) ?_
 rotate_left
 ·intro w hSw;(try dsimp only at hSw);obtain⟨hS1,hS2⟩:=hSw;first | (go_simp;done) | (go_simp;with_reducible rfl)
 simp only[Act.put,lay9]
 refine wpAnyH_take (i:=4) (v:=?_) rfl (by kernel_rfl) (by kernel_rfl) (by kernel_rfl) (fun _ _ _ h=>h) (Or.inl ⟨by rfl,?_⟩) (by assumption) ?_
 rotate_left
 ·intro w hSw;(try dsimp only at hSw);obtain⟨hS1,hS2⟩:=hSw;first | (go_simp;done) | (go_simp;with_reducible rfl)
 simp only[Act.put,lay9]
 refine wpAnyH_take (i:=5) (v:=?_) rfl (by kernel_rfl) (by kernel_rfl) (by kernel_rfl) (fun _ _ _ h=>h) (Or.inl ⟨by rfl,?_⟩) (by assumption) ?_
 rotate_left
 ·intro w hSw;(try dsimp only at hSw);obtain⟨hS1,hS2⟩:=hSw;first | (go_simp;done) | (go_simp;with_reducible rfl)
 simp only[Act.put,lay9]
 refine wpAnyH_ready (rs:=[2,6]) (by kernel_rfl) (by simp) ?_
 refine AllReadyH.cons rfl (fun K hK=>?_) (AllReadyH.cons rfl (fun K hK=>?_) AllReadyH.nil)
 ·skip
  go_simp
  have Tn:Hid (RdI w0 B0 A D Sb s m (wd.alloc (.cells #[.int .i64 (j:Int)] 3)) va va l (.slice vp vn vc) (.slice vp vn vc) us X):=T.out.keep (World.grownBy_alloc wd _ none)
  have Vn:Hid (Own w0.heap.size (wd.alloc (.cells #[.int .i64 (j:Int)] 3)) (.slice pv nv cv) ys):=V.out.keep (World.grownBy_alloc wd _ none)
  have C2:Hid (Boxed (wd.alloc (.cells #[.int .i64 (j:Int)] 3)) wd.heap.size 3 (.int .i64 (j:Int))):=Boxed.new wd _ _
  refine hK.out _ _ (Tn.out.cells) (fun hHeld=>?_)
  clear hK K
  (try simp only[Act.put,lay9])
  clear T V
  have T:=Tn
  have V:=Vn
  clear Tn Vn
  obtain⟨z2,hz2⟩:∃ z,z=wd.heap.size:=⟨_,rfl⟩
  rw[<- hz2] at C2
  (try rw[<- hz2])
  clear hz2
  generalize wd.alloc (.cells #[.int .i64 (j:Int)] 3)=w1 at *
  refine wpAnyH_ready (rs:=[3,6]) (by kernel_rfl) (by simp) ?_
  refine AllReadyH.cons rfl (fun K hK=>?_) (AllReadyH.cons rfl (fun K hK=>?_) AllReadyH.nil)
  ·skip
   refine step_append_int (by rfl) _ _ (by rfl) va ⟨z2,0,none⟩ (by rfl) (by rfl) T.out.ia C2.out.cell T.out.gr.size HL.out.1 ?_
   intro va2 w2 oa ga ata
   have Tn:Hid (RdI w0 B0 A D Sb s m w2 va va2 (l++[j]) (.slice vp vn vc) (.slice vp vn vc) us X):=T.out.app1 oa ga
   have Vn:Hid (Own w0.heap.size w2 (.slice pv nv cv) ys):=V.out.kept ga (row_apart (by decide) V.out.row T.out.ia.row)
   clear oa ga ata
   refine hK.out _ _ (Tn.out.cells) (fun hHeld=>?_)
   clear hK K
   (try simp only[Act.put,lay9])
   clear T V C2
   have T:=Tn
   have V:=Vn
   clear Tn Vn
   refine wpAnyH_ready (rs:=[6]) (by kernel_rfl) (by simp) ?_
   refine AllReadyH.cons rfl (fun K hK=>?_) AllReadyH.nil
   go_simp
   have Tn:Hid (RdI w0 B0 A D Sb s m (w2.alloc (.cells #[.slice pv nv cv] 26)) va va2 (l++[j]) (.slice vp vn vc) (.slice vp vn vc) us X):=T.out.keep (World.grownBy_alloc w2 _ none)
   have Vn:Hid (Own w0.heap.size (w2.alloc (.cells #[.slice pv nv cv] 26)) (.slice pv nv cv) ys):=V.out.keep (World.grownBy_alloc w2 _ none)
   have C6:Hid (Boxed (w2.alloc (.cells #[.slice pv nv cv] 26)) w2.heap.size 26 (.slice pv nv cv)):=Boxed.new w2 _ _
   refine hK.out _ _ (Tn.out.cells) (fun hHeld=>?_)
   clear hK K
   (try simp only[Act.put,lay9])
   clear T V
   have T:=Tn
   have V:=Vn
   clear Tn Vn
   obtain⟨z6,hz6⟩:∃ z,z=w2.heap.size:=⟨_,rfl⟩
   rw[<- hz6] at C6
   (try rw[<- hz6])
   clear hz6
   generalize w2.alloc (.cells #[.slice pv nv cv] 26)=w3 at *
   refine wpAnyH_ready (rs:=[7]) (by kernel_rfl) (by simp) ?_
   refine AllReadyH.cons rfl (fun K hK=>?_) AllReadyH.nil
   refine step_append_row (by rfl) _ _ (by rfl) (.slice vp vn vc) ⟨z6,0,none⟩ (by rfl) (by rfl) T.out.mt.row C6.out.cell rfl T.out.gr.size HL.out.2 ?_
   intro vt2 w4 rt gt att
   have Tn:Hid (RdI w0 B0 A D Sb s m w4 va va2 (l++[j]) (.slice vp vn vc) vt2 (us++[.slice pv nv cv]) (X++[ys])):=T.out.app2 V.out.arr HL.out.2 rt gt
   clear rt gt att
   refine hK.out _ _ (Tn.out.cells) (fun hHeld=>?_)
   clear hK K
   (try simp only[Act.put,lay9])
   clear T V C6
   have T:=Tn
   clear Tn
   refine wpAnyH_done (by kernel_rfl) ?_ _
   refine lastQ_normal ?_
   obtain⟨ap,an,ac,rfl,ha2⟩:=T.out.ia.ivec.opened
   obtain⟨tp,tn,tc,rfl,ht2⟩:=T.out.mt.mat.row.opened
   have kc:=T.out.ba.cell
   have kf:=T.out.ba.frozen
   have hal:an=l.length+1:=by rw[ha2,SP.ints_len];simp
   have HAL:Hid (an=l.length+1):=hal
   clear ha2 ht2 hal
   go_wp2
   clear kc kf
   have Tn:Hid (RdI w0 B0 A D Sb s m (w4.setCell ⟨A,0,none⟩ (.slice ap an ac)) (.slice ap an ac) (.slice ap an ac) (l++[j]) (.slice vp vn vc) (.slice tp tn tc) (us++[.slice pv nv cv]) (X++[ys])):=T.out.setA
   clear T
   have T:=Tn
   clear Tn
   generalize w4.setCell ⟨A,0,none⟩ (.slice ap an ac)=w8 at *
   refine lastQ_normal ?_
   have kc:=T.out.bd.cell
   have kf:=T.out.bd.frozen
   go_wp2_with fail
   clear kc kf
   have Tn:Hid (RdI w0 B0 A D Sb s m (w8.setCell ⟨D,0,none⟩ (.slice tp tn tc)) (.slice ap an ac) (.slice ap an ac) (l++[j]) (.slice tp tn tc) (.slice tp tn tc) (us++[.slice pv nv cv]) (X++[ys])):=T.out.setD
   clear T
   have T:=Tn
   clear Tn
   generalize w8.setCell ⟨D,0,none⟩ (.slice tp tn tc)=w9 at *
   have HS9:Hid (∀ w',w9.grownBy w' none->w'.cell? ⟨A,0,none⟩=some (.slice ap an ac)/\w'.cell? ⟨Sb,0,none⟩=some (ptr s)/\w'.cell? ⟨s,1,none⟩=some (.int .i64 (k:Int))):=fun w' g'=>⟨(T.out.keep g').ba.cell,(T.out.keep g').bs.cell,HK.out w' (T.out.keep g').gr⟩
   go_region_held3 (fun w'=>w'.cell? ⟨A,0,none⟩=some (.slice ap an ac)/\w'.cell? ⟨Sb,0,none⟩=some (ptr s)/\w'.cell? ⟨s,1,none⟩=some (.int .i64 (k:Int))) (exact HS9.out _ (grown_drewN w9 1)) (fail)
   go_wp2
   go_ret
   exact⟨by rw[HAL.out,HLL.out];rfl,_,_,_,T.out.keep (grown_drewN w9 1)⟩
  ·skip
   go_simp
   have Tn:Hid (RdI w0 B0 A D Sb s m (w1.alloc (.cells #[.slice pv nv cv] 26)) va va l (.slice vp vn vc) (.slice vp vn vc) us X):=T.out.keep (World.grownBy_alloc w1 _ none)
   have Vn:Hid (Own w0.heap.size (w1.alloc (.cells #[.slice pv nv cv] 26)) (.slice pv nv cv) ys):=V.out.keep (World.grownBy_alloc w1 _ none)
   have C6:Hid (Boxed (w1.alloc (.cells #[.slice pv nv cv] 26)) w1.heap.size 26 (.slice pv nv cv)):=Boxed.new w1 _ _
   have Cn:Hid (Boxed (w1.alloc (.cells #[.slice pv nv cv] 26)) z2 3 (.int .i64 (j:Int))):=C2.out.alloc _
   refine hK.out _ _ (Tn.out.cells) (fun hHeld=>?_)
   clear hK K
   (try simp only[Act.put,lay9])
   clear T V C2
   have T:=Tn
   have V:=Vn
   clear Tn Vn
   have C2:=Cn
   clear Cn
   obtain⟨z6,hz6⟩:∃ z,z=w1.heap.size:=⟨_,rfl⟩
   rw[<- hz6] at C6
   (try rw[<- hz6])
   clear hz6
   generalize w1.alloc (.cells #[.slice pv nv cv] 26)=w2 at *
   refine wpAnyH_ready (rs:=[3]) (by kernel_rfl) (by simp) ?_
   refine AllReadyH.cons rfl (fun K hK=>?_) AllReadyH.nil
   refine step_append_int (by rfl) _ _ (by rfl) va ⟨z2,0,none⟩ (by rfl) (by rfl) T.out.ia C2.out.cell T.out.gr.size HL.out.1 ?_
   intro va2 w3 oa ga ata
   have Tn:Hid (RdI w0 B0 A D Sb s m w3 va va2 (l++[j]) (.slice vp vn vc) (.slice vp vn vc) us X):=T.out.app1 oa ga
   have Vn:Hid (Own w0.heap.size w3 (.slice pv nv cv) ys):=V.out.kept ga (row_apart (by decide) V.out.row T.out.ia.row)
   have Cn:Hid (Boxed w3 z6 26 (.slice pv nv cv)):=C6.out.kept ga (C6.out.not_row (by decide) T.out.ia.row)
   clear oa ga ata
   refine hK.out _ _ (Tn.out.cells) (fun hHeld=>?_)
   clear hK K
   (try simp only[Act.put,lay9])
   clear T V C2 C6
   have T:=Tn
   have V:=Vn
   clear Tn Vn
   have C6:=Cn
   clear Cn
   refine wpAnyH_ready (rs:=[7]) (by kernel_rfl) (by simp) ?_
   refine AllReadyH.cons rfl (fun K hK=>?_) AllReadyH.nil
   refine step_append_row (by rfl) _ _ (by rfl) (.slice vp vn vc) ⟨z6,0,none⟩ (by rfl) (by rfl) T.out.mt.row C6.out.cell rfl T.out.gr.size HL.out.2 ?_
   intro vt2 w4 rt gt att
   have Tn:Hid (RdI w0 B0 A D Sb s m w4 va va2 (l++[j]) (.slice vp vn vc) vt2 (us++[.slice pv nv cv]) (X++[ys])):=T.out.app2 V.out.arr HL.out.2 rt gt
   clear rt gt att
   refine hK.out _ _ (Tn.out.cells) (fun hHeld=>?_)
   clear hK K
   (try simp only[Act.put,lay9])
   clear T V C6
   have T:=Tn
   clear Tn
   refine wpAnyH_done (by kernel_rfl) ?_ _
   refine lastQ_normal ?_
   obtain⟨ap,an,ac,rfl,ha2⟩:=T.out.ia.ivec.opened
   obtain⟨tp,tn,tc,rfl,ht2⟩:=T.out.mt.mat.row.opened
   have kc:=T.out.ba.cell
   have kf:=T.out.ba.frozen
   have hal:an=l.length+1:=by rw[ha2,SP.ints_len];simp
   have HAL:Hid (an=l.length+1):=hal
   clear ha2 ht2 hal
   go_wp2
   clear kc kf
   have Tn:Hid (RdI w0 B0 A D Sb s m (w4.setCell ⟨A,0,none⟩ (.slice ap an ac)) (.slice ap an ac) (.slice ap an ac) (l++[j]) (.slice vp vn vc) (.slice tp tn tc) (us++[.slice pv nv cv]) (X++[ys])):=T.out.setA
   clear T
   have T:=Tn
   clear Tn
   generalize w4.setCell ⟨A,0,none⟩ (.slice ap an ac)=w8 at *
   refine lastQ_normal ?_
   have kc:=T.out.bd.cell
   have kf:=T.out.bd.frozen
   go_wp2_with fail
   clear kc kf
   have Tn:Hid (RdI w0 B0 A D Sb s m (w8.setCell ⟨D,0,none⟩ (.slice tp tn tc)) (.slice ap an ac) (.slice ap an ac) (l++[j]) (.slice tp tn tc) (.slice tp tn tc) (us++[.slice pv nv cv]) (X++[ys])):=T.out.setD
   clear T
   have T:=Tn
   clear Tn
   generalize w8.setCell ⟨D,0,none⟩ (.slice tp tn tc)=w9 at *
   have HS9:Hid (∀ w',w9.grownBy w' none->w'.cell? ⟨A,0,none⟩=some (.slice ap an ac)/\w'.cell? ⟨Sb,0,none⟩=some (ptr s)/\w'.cell? ⟨s,1,none⟩=some (.int .i64 (k:Int))):=fun w' g'=>⟨(T.out.keep g').ba.cell,(T.out.keep g').bs.cell,HK.out w' (T.out.keep g').gr⟩
   go_region_held3 (fun w'=>w'.cell? ⟨A,0,none⟩=some (.slice ap an ac)/\w'.cell? ⟨Sb,0,none⟩=some (ptr s)/\w'.cell? ⟨s,1,none⟩=some (.int .i64 (k:Int))) (exact HS9.out _ (grown_drewN w9 1)) (fail)
   go_wp2
   go_ret
   exact⟨by rw[HAL.out,HLL.out];rfl,_,_,_,T.out.keep (grown_drewN w9 1)⟩
 ·skip
  go_simp
  have Tn:Hid (RdI w0 B0 A D Sb s m (wd.alloc (.cells #[.slice pv nv cv] 26)) va va l (.slice vp vn vc) (.slice vp vn vc) us X):=T.out.keep (World.grownBy_alloc wd _ none)
  have Vn:Hid (Own w0.heap.size (wd.alloc (.cells #[.slice pv nv cv] 26)) (.slice pv nv cv) ys):=V.out.keep (World.grownBy_alloc wd _ none)
  have C6:Hid (Boxed (wd.alloc (.cells #[.slice pv nv cv] 26)) wd.heap.size 26 (.slice pv nv cv)):=Boxed.new wd _ _
  refine hK.out _ _ (Tn.out.cells) (fun hHeld=>?_)
  clear hK K
  (try simp only[Act.put,lay9])
  clear T V
  have T:=Tn
  have V:=Vn
  clear Tn Vn
  obtain⟨z6,hz6⟩:∃ z,z=wd.heap.size:=⟨_,rfl⟩
  rw[<- hz6] at C6
  (try rw[<- hz6])
  clear hz6
  generalize wd.alloc (.cells #[.slice pv nv cv] 26)=w1 at *
  refine wpAnyH_ready (rs:=[2]) (by kernel_rfl) (by simp) ?_
  refine AllReadyH.cons rfl (fun K hK=>?_) AllReadyH.nil
  go_simp
  have Tn:Hid (RdI w0 B0 A D Sb s m (w1.alloc (.cells #[.int .i64 (j:Int)] 3)) va va l (.slice vp vn vc) (.slice vp vn vc) us X):=T.out.keep (World.grownBy_alloc w1 _ none)
  have Vn:Hid (Own w0.heap.size (w1.alloc (.cells #[.int .i64 (j:Int)] 3)) (.slice pv nv cv) ys):=V.out.keep (World.grownBy_alloc w1 _ none)
  have C2:Hid (Boxed (w1.alloc (.cells #[.int .i64 (j:Int)] 3)) w1.heap.size 3 (.int .i64 (j:Int))):=Boxed.new w1 _ _
  have Cn:Hid (Boxed (w1.alloc (.cells #[.int .i64 (j:Int)] 3)) z6 26 (.slice pv nv cv)):=C6.out.alloc _
  refine hK.out _ _ (Tn.out.cells) (fun hHeld=>?_)
  clear hK K
  (try simp only[Act.put,lay9])
  clear T V C6
  have T:=Tn
  have V:=Vn
  clear Tn Vn
  have C6:=Cn
  clear Cn
  obtain⟨z2,hz2⟩:∃ z,z=w1.heap.size:=⟨_,rfl⟩
  rw[<- hz2] at C2
  (try rw[<- hz2])
  clear hz2
  generalize w1.alloc (.cells #[.int .i64 (j:Int)] 3)=w2 at *
  refine wpAnyH_ready (rs:=[3]) (by kernel_rfl) (by simp) ?_
  refine AllReadyH.cons rfl (fun K hK=>?_) AllReadyH.nil
  refine step_append_int (by rfl) _ _ (by rfl) va ⟨z2,0,none⟩ (by rfl) (by rfl) T.out.ia C2.out.cell T.out.gr.size HL.out.1 ?_
  intro va2 w3 oa ga ata
  have Tn:Hid (RdI w0 B0 A D Sb s m w3 va va2 (l++[j]) (.slice vp vn vc) (.slice vp vn vc) us X):=T.out.app1 oa ga
  have Vn:Hid (Own w0.heap.size w3 (.slice pv nv cv) ys):=V.out.kept ga (row_apart (by decide) V.out.row T.out.ia.row)
  have Cn:Hid (Boxed w3 z6 26 (.slice pv nv cv)):=C6.out.kept ga (C6.out.not_row (by decide) T.out.ia.row)
  clear oa ga ata
  refine hK.out _ _ (Tn.out.cells) (fun hHeld=>?_)
  clear hK K
  (try simp only[Act.put,lay9])
  clear T V C2 C6
  have T:=Tn
  have V:=Vn
  clear Tn Vn
  have C6:=Cn
  clear Cn
  refine wpAnyH_ready (rs:=[7]) (by kernel_rfl) (by simp) ?_
  refine AllReadyH.cons rfl (fun K hK=>?_) AllReadyH.nil
  refine step_append_row (by rfl) _ _ (by rfl) (.slice vp vn vc) ⟨z6,0,none⟩ (by rfl) (by rfl) T.out.mt.row C6.out.cell rfl T.out.gr.size HL.out.2 ?_
  intro vt2 w4 rt gt att
  have Tn:Hid (RdI w0 B0 A D Sb s m w4 va va2 (l++[j]) (.slice vp vn vc) vt2 (us++[.slice pv nv cv]) (X++[ys])):=T.out.app2 V.out.arr HL.out.2 rt gt
  clear rt gt att
  refine hK.out _ _ (Tn.out.cells) (fun hHeld=>?_)
  clear hK K
  (try simp only[Act.put,lay9])
  clear T V C6
  have T:=Tn
  clear Tn
  refine wpAnyH_done (by kernel_rfl) ?_ _
  refine lastQ_normal ?_
  obtain⟨ap,an,ac,rfl,ha2⟩:=T.out.ia.ivec.opened
  obtain⟨tp,tn,tc,rfl,ht2⟩:=T.out.mt.mat.row.opened
  have kc:=T.out.ba.cell
  have kf:=T.out.ba.frozen
  have hal:an=l.length+1:=by rw[ha2,SP.ints_len];simp
  have HAL:Hid (an=l.length+1):=hal
  clear ha2 ht2 hal
  go_wp2
  clear kc kf
  have Tn:Hid (RdI w0 B0 A D Sb s m (w4.setCell ⟨A,0,none⟩ (.slice ap an ac)) (.slice ap an ac) (.slice ap an ac) (l++[j]) (.slice vp vn vc) (.slice tp tn tc) (us++[.slice pv nv cv]) (X++[ys])):=T.out.setA
  clear T
  have T:=Tn
  clear Tn
  generalize w4.setCell ⟨A,0,none⟩ (.slice ap an ac)=w8 at *
  refine lastQ_normal ?_
  have kc:=T.out.bd.cell
  have kf:=T.out.bd.frozen
  go_wp2_with fail
  clear kc kf
  have Tn:Hid (RdI w0 B0 A D Sb s m (w8.setCell ⟨D,0,none⟩ (.slice tp tn tc)) (.slice ap an ac) (.slice ap an ac) (l++[j]) (.slice tp tn tc) (.slice tp tn tc) (us++[.slice pv nv cv]) (X++[ys])):=T.out.setD
  clear T
  have T:=Tn
  clear Tn
  generalize w8.setCell ⟨D,0,none⟩ (.slice tp tn tc)=w9 at *
  have HS9:Hid (∀ w',w9.grownBy w' none->w'.cell? ⟨A,0,none⟩=some (.slice ap an ac)/\w'.cell? ⟨Sb,0,none⟩=some (ptr s)/\w'.cell? ⟨s,1,none⟩=some (.int .i64 (k:Int))):=fun w' g'=>⟨(T.out.keep g').ba.cell,(T.out.keep g').bs.cell,HK.out w' (T.out.keep g').gr⟩
  go_region_held3 (fun w'=>w'.cell? ⟨A,0,none⟩=some (.slice ap an ac)/\w'.cell? ⟨Sb,0,none⟩=some (ptr s)/\w'.cell? ⟨s,1,none⟩=some (.int .i64 (k:Int))) (exact HS9.out _ (grown_drewN w9 1)) (fail)
  go_wp2
  go_ret
  exact⟨by rw[HAL.out,HLL.out];rfl,_,_,_,T.out.keep (grown_drewN w9 1)⟩
end
end Go.Proofs.YtlklmhojadlncaaGreat
