/- Packed: Bld6, Crash6, Rpt6, Idx6. -/
import Derived.Test.YtlklmhojadlncaaGreatTk7
import Derived.Lib.MakeNoZero
set_option linter.unusedSimpArgs false
set_option linter.unusedVariables false
set_option maxRecDepth 100000
namespace Go.Proofs.YtlklmhojadlncaaGreat
open Go.RowKit
theorem seg_step {α:Type} (l:List α) (k:Nat) (v:α) (rest:List α) (hk:k+(rest.length+1)<=l.length) :
 (l.set k v).take (k+1)++rest++(l.set k v).drop (k+1+rest.length)=l.take k++(v :: rest)++l.drop (k+(rest.length+1)):=by
 have h1:(l.set k v).take (k+1)=l.take k++[v]:=by
  rw[List.take_succ_eq_append_getElem (by simp;omega)]
  simp[List.take_set_of_le]
 have h2:(l.set k v).drop (k+1+rest.length)=l.drop (k+(rest.length+1)):=by
  rw[List.drop_set_of_lt (by omega)]
  congr 1
  omega
 rw[h1,h2]
 simp
theorem fold_set (vs:List Value):∀ (i off:Nat) (cs:Array Value),off+i+vs.length<=cs.size ->
 (vs.zipIdx i).foldl (fun cs (x:Value × Nat)=>cs.setIfInBounds (off+x.2) x.1) cs=(cs.toList.take (off+i)++vs++cs.toList.drop (off+i+vs.length)).toArray:=by
 induction vs with
 | nil=>intro i off cs h;simp
 | cons v r ih =>
   intro i off cs h
   simp only[List.zipIdx_cons,List.foldl_cons]
   rw[ih (i+1) off _ (by simp at h ⊢;omega)]
   congr 1
   have:=seg_step cs.toList (off+i) v r (by simp at h ⊢;omega)
   rw[List.length_cons,<- this,Array.toList_setIfInBounds]
   simp only[Nat.add_assoc]
theorem fill_one {place:Nat->Option (Nat × Nat)} {cells:Array Value} {i off size:Nat} {v:Value} {rest:List (Nat × Value)} (hp:place i=some (off,size)) {cs:List Value} (hc:v.cells=cs.toArray) (hs:cs.length=size) (hl:off+cs.length<=cells.size) {out:List Value} (e:cells.toList.take off++cs++cells.toList.drop (off+cs.length)=out) :
 Instr.fill place cells ((i,v) :: rest)=Instr.fill place out.toArray rest:=by
 subst e
 rw[Instr.fill,hp]
 have hsz:v.cells.size=size:=by rw[hc];simpa using hs
 simp only[hsz]
 rw[if_neg (by simp;omega),hc]
 congr 1
 have:=fold_set cs 0 off cells (by omega)
 simpa using this
theorem zeroW:(Tryz.prog.info? 81).map (fun i=>(i.zero,i.size,i.bytes))=some (some (.agg (wcells ⟨0,0,AM.zs 64,AM.zs 64⟩).toArray),130,144):=by kernel_rfl
theorem run_zeroW (w:World):(zeroValue 81).run Tryz.prog w=.ok (.agg (wcells ⟨0,0,AM.zs 64,AM.zs 64⟩).toArray) w:=by
 obtain⟨i,hi,h0,h1,h2⟩:=info_parts zeroW
 simp[zeroValue,typeInfo,hi,h0]
theorem Tryz.sizeInt:(Tryz.prog.info? 3).map (·.size)=some 1:=by kernel_rfl
theorem Tryz.sizeSec:(Tryz.prog.info? 79).map (·.size)=some 64:=by kernel_rfl
theorem Tryz.sizeWr:(Tryz.prog.info? 81).map (·.size)=some 130:=by kernel_rfl
theorem run_size {t n:Nat} (h:(Tryz.prog.info? t).map (·.size)=some n) (w:World):(sizeOf t).run Tryz.prog w=.ok n w:=by
 cases hq:Tryz.prog.info? t with
 | none=>simp[hq] at h
 | some i=>simp[hq] at h;simp[sizeOf,typeInfo,hq,h]
theorem run_build_wr (w:World) (d k:Nat) (was:List Nat) (h:was.length=64) :
 (Instr.build 81 #[(0,.int .i64 (d:Int)),(1,.int .i64 (k:Int)),(2,.agg (was.map bv).toArray)]).run Tryz.prog w=.ok (.agg (wcells ⟨d,k,was,AM.zs 64⟩).toArray) w:=by
 have hZ:((AM.zs 64).map bv).length=64:=by rw[List.length_map,AM.zs_len]
 have hW:(was.map bv).length=64:=by rw[List.length_map,h]
 have hf:Instr.fill (fun x=>([(0,1),(1,1),(2,64),(66,64)]:List (Nat × Nat))[x]?) (wcells ⟨0,0,AM.zs 64,AM.zs 64⟩).toArray [(0,.int .i64 (d:Int)),(1,.int .i64 (k:Int)),(2,.agg (was.map bv).toArray)]=some (wcells ⟨d,k,was,AM.zs 64⟩).toArray:=by
  unfold wcells
  simp only
  generalize (AM.zs 64).map bv=Z at hZ
  rw[fill_one (cs:=[.int .i64 (d:Int)]) (out:=.int .i64 (d:Int) :: .int .i64 ((0:Nat):Int) :: (Z++Z)) rfl rfl rfl (by simp) rfl,
   fill_one (cs:=[.int .i64 (k:Int)]) (out:=.int .i64 (d:Int) :: .int .i64 (k:Int) :: (Z++Z)) rfl rfl rfl (by simp) rfl,
   fill_one (cs:=was.map bv) (out:=.int .i64 (d:Int) :: .int .i64 (k:Int) :: (was.map bv++Z)) rfl rfl hW (by simp[hZ,h]) (by rw[hW];simp[hZ])]
  rfl
 first
  | (have hz0:Tryz.zeroCells81=(wcells ⟨0,0,AM.zs 64,AM.zs 64⟩).toArray:=by kernel_rfl
     simp[Instr.build,run_zeroW,run_underlying Tryz.underlying81,run_size Tryz.sizeInt,run_size Tryz.sizeSec,Value.cells,hz0,hf])
  | simp[Instr.build,run_zeroW,run_underlying Tryz.underlying81,run_size Tryz.sizeInt,run_size Tryz.sizeSec,Value.cells,hf]
theorem run_buildSlice_wr (w:World) (l:AM.Wr) (h1:l.was.length=64) (h2:l.now.length=64) :
 (Instr.buildSlice 74 1 #[(0,.agg (wcells l).toArray)]).run Tryz.prog w=.ok (.slice (some ⟨w.heap.size,0,none⟩) 1 1) (w.alloc (.cells (wcells l).toArray 81)):=by
 have hl:=wcells_len h1 h2
 have hf:∀ z:Array Value,z.size=130->Instr.fill (fun i=>some (i * 130,130)) z [(0,.agg (wcells l).toArray)]=some (wcells l).toArray:=by
  intro z hz
  rw[fill_one (cs:=wcells l) (out:=wcells l) rfl rfl hl (by rw[hl];omega) (by rw[hl];simp[hz])]
  rfl
 simp[Instr.buildSlice,run_underlying Tryz.underlying74,run_size Tryz.sizeWr,run_zeroW,newRow,hf]
theorem run_append_at {w:World} {t ty e:TypeId} {z:Value} {size bytes:Nat} (hu:Tryz.prog.underlying t=some (.slice e)) (hinfo:(Tryz.prog.info? e).map (fun i=>(i.zero,i.size,i.bytes))=some (some z,size,bytes)) (hzs:z.cells.size=size) (hsz:0 < size)
 {v:Value} {n:Nat} {xs:List Value} (hown:w.ownsRow 0 e size v n xs) {a:Addr} {m c:Nat} {news:List Value} (hm:0 < m) (hl:news.length=m * size) (hnews:∀ j u,news[j]?=some u->w.cell? (a.add j)=some u) (h1:∀ u ∈ news,u.oneCell'=true)
 (h63:n+m<=maxLen) (hbytes:(n+m) * bytes<=140737488355328) :
 ∃ g cap w',(Builtin.append_ #[t,t] ty #[v,.slice (some a) m c]).run Tryz.prog w=.ok (.slice (some ⟨g,0,none⟩) (n+m) cap) w'/\w'.ownsRow 0 e size (.slice (some ⟨g,0,none⟩) (n+m) cap) (n+m) (xs++news)/\w.grownBy w' v.ownBlock/\(v.ownBlock=some g\/g=w.heap.size):=by
 obtain⟨i,hi,hz0,hz1,hz2⟩:=info_parts hinfo
 obtain⟨v',w',hr,h2,h3,_⟩:=run_append_own (P:=Tryz.prog) w 0 t ty e i z size bytes hu hi hz0 hz1 hz2 hzs hsz v n xs hown a m c news hl hnews h1 h63 hbytes (Nat.zero_le _)
 rcases h2.2 with ⟨_,h4⟩ | ⟨g,cap,cur,h4,_⟩
 ·omega
 ·subst h4
  refine⟨g,cap,w',hr,h2,h3,?_⟩
  subst hz1
  subst hz2
  rcases hown.2 with ⟨rfl,rfl⟩ | ⟨g0,cap0,cur0,rfl,_,hg0,hnc,hcm,hcs,htake⟩
  ·have hr2:=run_append_nil (P:=Tryz.prog) w t ty e i z hu hi hz0 a m c news hl hnews hm (by simp only[maxLen] at h63;omega) (by have hb:=hbytes;simp only[Nat.zero_add] at hb;omega)
   rw[hr] at hr2
   injection hr2 with hr2 _
   injection hr2 with hr2 _ _
   injection hr2 with hr2
   injection hr2 with hr2 _
   exact .inr hr2
  ·by_cases hroom:n+m<=cap0
   ·have hfit:n * i.size+news.length<=cur0.size:=by rw[hl,hcs,<- Nat.add_mul];exact Nat.mul_le_mul_right _ hroom
    have hr2:=run_append_room (P:=Tryz.prog) w t ty e i hu hi g0 n cap0 cur0 hg0 a m c news hl hnews h1 hroom hfit
    rw[hr] at hr2
    injection hr2 with hr2 _
    injection hr2 with hr2 _ _
    injection hr2 with hr2
    injection hr2 with hr2 _
    exact .inl (by rw[hr2];rfl)
   ·have holds:∀ j u,xs[j]?=some u->w.cell? ((⟨g0,0,none⟩:Addr).add j)=some u:=hown.cells (g:=g0) rfl
    have hr2:=run_append_grow (P:=Tryz.prog) w t ty e i z hu hi hz0 ⟨g0,0,none⟩ n cap0 xs hown.1 holds a m c news hl hnews (by omega) (by simp only[maxLen] at h63;omega) (growslice_fits (by omega) hbytes)
    rw[hr] at hr2
    injection hr2 with hr2 _
    injection hr2 with hr2 _ _
    injection hr2 with hr2
    injection hr2 with hr2 _
    exact .inr hr2
theorem run_copy_cells {w:World} {T:TypeId} {g o dLen dCap:Nat} {s:Value} {cur:Array Value} {ys:List Nat} (hg:w.heap[g]?=some (.cells cur T (0,0))) (hs:Vec w s ys) (hy:ys ≠ []) (hd:ys.length<=dLen) (hf:o+ys.length<=cur.size) (ty:TypeId) :
 ∃ w',(Builtin.copy_ #[26,26] ty #[.slice (some ⟨g,o,none⟩) dLen dCap,s]).run Tryz.prog w=.ok (goInt ys.length) w'/\w'.heap[g]?=some (.cells (cur.toList.take o++ys.map bv++cur.toList.drop (o+ys.length)).toArray T (0,0))/\w.grownBy w' (some g):=by
 obtain⟨s1,s2,p,cap,rfl,s3,s4,s5⟩:=hs
 obtain⟨b,off,rfl,hc⟩:=s5 hy
 have hr:=run_copy_row (P:=Tryz.prog) w 26 26 ty 5 g o dLen dCap ⟨b,off,none⟩ ys.length cap cur T (ys.map bv) Tryz.underlying26 Tryz.size5 hg (by rw[List.length_map];exact (Nat.min_eq_left hd).symm)
  (fun j v hj=>by
    have hj':j < ys.length:=by
     have:=(List.getElem?_eq_some_iff.1 hj).1
     simpa using this
    rw[getD_map_bv ys j hj'] at hj
    rw[add_off,hc j hj'];exact hj) (by simpa using hf) (fun v hv=>by obtain⟨x,_,rfl⟩:=List.mem_map.1 hv;rfl)
 refine⟨w.setRow g (cur.toList.take o++ys.map bv++cur.toList.drop (o+ys.length)).toArray,?_,setRow_heap w g _ _ T _ hg,⟨rfl,rfl,rfl,by simp,fun k _ hk=>setRow_other w g k _ (fun e=>hk (by simp[e]))⟩⟩
 rw[hr]
 simp
theorem wpList_copy_cells {w:World} {ops:Array Oper} {rest:List Oper} {o:Oper} {a:Act} {Q:Exit->Act->World->Prop} (hgd:o.guard=none) (d s:Operand)
 (ho:o.op=.call { callee:=.builtin .copy,args:=#[d,s],argTypes:=#[26,26] }) (sv:Value) {T:TypeId} {g f dLen dCap:Nat} {cur:Array Value} {ys:List Nat} (hed:a.eval d=.slice (some ⟨g,f,none⟩) dLen dCap) (hes:a.eval s=sv)
 (hg:w.heap[g]?=some (.cells cur T (0,0))) (hs:Vec w sv ys) (hy:ys ≠ []) (hd:ys.length<=dLen) (hf:f+ys.length<=cur.size)
 (h:∀ w',w'.heap[g]?=some (.cells (cur.toList.take f++ys.map bv++cur.toList.drop (f+ys.length)).toArray T (0,0))->w.grownBy w' (some g)->wpList Tryz.prog ops Q rest (a.put o.dst (goInt ys.length)) w'):wpList Tryz.prog ops Q (o :: rest) a w:=by
 refine wpList_plain hgd fun K hK=>?_
 obtain⟨w',hrun,r1,r2⟩:=run_copy_cells (dCap:=dCap) hg hs hy hd hf o.type
 unfold Oper.wp
 simp[execOp,ho,resolve,invoke,builtin,hed,hes,hrun,Result.andThen]
 exact hK _ _ (h _ r1 r2)
theorem wcells_one (l:AM.Wr):∀ u ∈ wcells l,u.oneCell'=true:=by
 intro u hu
 simp only[wcells,List.mem_cons,List.mem_append,List.mem_map] at hu
 rcases hu with rfl | rfl | ⟨x,_,rfl⟩ | ⟨x,_,rfl⟩ <;> rfl
theorem step_append_wr {ops:Array Oper} {o:Oper} {ac:Act} {w:World} {K:Act->World->Prop} {Q:Exit->Act->World->Prop} {E:Prop} (hgd:o.guard=none) (d s:Operand)
 (ho:o.op=.call { callee:=.builtin .append,args:=#[d,s],argTypes:=#[74,74] }) (dv:Value) {g c:Nat} {L:List AM.Wr} {l:AM.Wr} (hed:ac.eval d=dv) (hes:ac.eval s=.slice (some ⟨g,0,none⟩) 1 c)
 (hr:w.ownsRow 0 81 130 dv L.length (wrow L)) (hg:w.heap[g]?=some (.cells (wcells l).toArray 81 (0,0))) (h1:l.was.length=64) (h2:l.now.length=64) (hL:L.length<=1000000)
 (h:∀ g' cap w',w'.ownsRow 0 81 130 (.slice (some ⟨g',0,none⟩) (L.length+1) cap) (L.length+1) (wrow L++wcells l)->w.grownBy w' dv.ownBlock->(dv.ownBlock=some g'\/g'=w.heap.size)->K (ac.put o.dst (.slice (some ⟨g',0,none⟩) (L.length+1) cap)) w') :
 if Region.wanted o (yielded ops ac.tmps)=true then Oper.wp Tryz.prog o ac w K Q else E:=by
 have hw:Region.wanted o (yielded ops ac.tmps)=true:=by simp[Region.wanted,hgd]
 rw[if_pos hw]
 obtain⟨g',cap,w',hrun,r1,r2,r3⟩:=run_append_at (ty:=o.type) (c:=c) Tryz.underlying74 zeroW (by simp[Value.cells,wcells,AM.zs_len]) (by decide) hr (a:=⟨g,0,none⟩) (m:=1) (news:=wcells l) (by decide) (by rw[wcells_len h1 h2]) (fun j u hj=>by rw[add_at,Nat.zero_add];exact topCell hg (by rw[List.getElem?_toArray];exact hj)) (wcells_one l) (by unfold maxLen;omega) (by omega)
 unfold Oper.wp
 simp[execOp,ho,resolve,invoke,builtin,hed,hes,hrun,Result.andThen]
 exact h _ _ _ r1 r2 r3
theorem Vec.upd {F:Nat->Prop} {w w':World} {v:Value} {xs:List Nat} (h:Vec w v xs) (u:Upd F w w') (hF:xs ≠ []->∀ g,v.ownBlock=some g->¬ F g):Vec w' v xs:=by
 obtain⟨h1,h2,p,cap,rfl,h3,h4,h5⟩:=h
 refine⟨h1,h2,p,cap,rfl,h3,h4,fun hx=>?_⟩
 obtain⟨b,off,rfl,hc⟩:=h5 hx
 refine⟨b,off,rfl,fun j hj=>?_⟩
 have hcell:=hc j hj
 have hlt:=World.block_lt_of_cell? w _ hcell
 rw[World.cell?_of_block (w:=w) (u.block b hlt (hF hx b rfl))]
 exact hcell
theorem wpList_build_wr {w:World} {ops:Array Oper} {rest:List Oper} {o:Oper} {a:Act} {Q:Exit->Act->World->Prop} (hgd:o.guard=none) (x y z:Operand) (ho:o.op=.build 81 #[(0,x),(1,y),(2,z)]) {d k:Nat} {was:List Nat} {AR:Array Value}
 (hx:a.eval x=.int .i64 (d:Int)) (hy:a.eval y=.int .i64 (k:Int)) (hz:a.eval z=.agg (was.map bv).toArray) (hw:was.length=64) (hA:AR=(wcells ⟨d,k,was,AM.zs 64⟩).toArray)
 (h:wpList Tryz.prog ops Q rest (a.put o.dst (.agg AR)) w):wpList Tryz.prog ops Q (o :: rest) a w:=by
 refine wpList_plain hgd fun K hK=>?_
 have hrun:=run_build_wr w d k was hw
 rw[<- hA] at hrun
 unfold Oper.wp execOp
 simp[ho,hx,hy,hz,hrun,Result.andThen]
 exact hK _ _ h
theorem step_buildSlice_wr {ops:Array Oper} {o:Oper} {ac:Act} {w:World} {K:Act->World->Prop} {Q:Exit->Act->World->Prop} {E:Prop} (hgd:o.guard=none) (x:Operand)
 (ho:o.op=.buildSlice 74 1 #[(0,x)]) {l:AM.Wr} {AR:Array Value} (hx:ac.eval x=.agg AR) (hA:AR=(wcells l).toArray) (h1:l.was.length=64) (h2:l.now.length=64)
 (h:K (ac.put o.dst (.slice (some ⟨w.heap.size,0,none⟩) 1 1)) (w.alloc (.cells AR 81))) :
 if Region.wanted o (yielded ops ac.tmps)=true then Oper.wp Tryz.prog o ac w K Q else E:=by
 have hw:Region.wanted o (yielded ops ac.tmps)=true:=by simp[Region.wanted,hgd]
 rw[if_pos hw]
 have hrun:=run_buildSlice_wr w l h1 h2
 rw[<- hA] at hrun
 unfold Oper.wp execOp
 simp[ho,hx,hrun,Result.andThen]
 exact h
theorem flat_get {α:Type} {f:α->List Value} {m:Nat} {i:Nat} (hi:i < m):∀ {L:List α} (_:∀ l ∈ L,(f l).length=m) {j:Nat} (hj:j < L.length),(L.flatMap f)[j * m+i]?=(f L[j])[i]?:=by
 intro L
 induction L with
 | nil=>intro _ j hj;cases hj
 | cons x r ih =>
   intro hL j hj
   have hx:=hL x (List.mem_cons_self ..)
   rw[List.flatMap_cons]
   cases j with
   | zero=>rw[Nat.zero_mul,Nat.zero_add,List.getElem?_append_left (by rw[hx];exact hi)];rfl
   | succ j =>
     have e:(j+1) * m+i=m+(j * m+i):=by rw[Nat.add_mul];omega
     rw[e,List.getElem?_append_right (by rw[hx];omega),hx,Nat.add_sub_cancel_left]
     exact ih (fun l hl=>hL l (List.mem_cons_of_mem _ hl)) (by simpa using hj)
section
variable {F:Nat->Prop} {w:World} {a:Nat} {R:AM.Raw}
theorem Lies.entry {dg:Nat} {dv:List Value} {fp:Option Addr} {fc:Nat} (h:Lies F w a dg dv fp fc R) {j:Nat} (hj:j < R.L.length) :
 ∃ fg,fp=some ⟨fg,0,none⟩/\w.cell? ⟨fg,j * 130,none⟩=some (.int .i64 (R.L[j].d:Int))/\w.cell? ⟨fg,j * 130+1,none⟩=some (.int .i64 (R.L[j].k:Int))/\Vec w (.slice (some ⟨fg,j * 130+2,none⟩) 64 64) R.L[j].was/\Vec w (.slice (some ⟨fg,j * 130+66,none⟩) 64 64) R.L[j].now /\
   (∃ c,w.heap[fg]?=some (.cells c 81 (0,0)))/\fg ≠ a:=by
 have hl:=h.ok.L R.L[j] (List.getElem_mem hj)
 have hlen:∀ l ∈ R.L,(wcells l).length=130:=fun l hm=>wcells_len (h.ok.L l hm).was (h.ok.L l hm).now
 have hf:=h.fly
 rcases hf.2 with ⟨e,h0⟩ | ⟨fg,cap,cur,e,_,hg,_⟩
 ·omega
 ·injection e with e1 e2 e3
  subst e1
  have hcell:∀ i v,(wcells R.L[j])[i]?=some v->w.cell? ⟨fg,j * 130+i,none⟩=some v:=fun i v hv=>by
   have hi:i < 130:=by rw[<- hlen _ (List.getElem_mem hj)];exact (List.getElem?_eq_some_iff.1 hv).1
   exact ownsRow_cell hf (by show (R.L.flatMap wcells)[j * 130+i]?=some v;rw[flat_get hi hlen hj];exact hv)
  have h1:(R.L[j].was.map bv).length=64:=by rw[List.length_map];exact hl.was
  refine⟨fg,rfl,hcell 0 _ rfl,hcell 1 _ rfl,?_,?_,⟨cur,hg⟩,ne_ty hg h.top (by decide)⟩
  ·refine⟨hl.wasS,by rw[hl.was];decide,_,_,by rw[hl.was],by rw[hl.was];decide,by decide,fun _=>⟨fg,_,rfl,fun i hi=>?_⟩⟩
   rw[Nat.add_assoc]
   refine hcell _ _ ?_
   rw[Nat.add_comm 2]
   unfold wcells
   rw[List.getElem?_cons_succ,List.getElem?_cons_succ,List.getElem?_append_left (by rw[List.length_map];exact hi),getD_map_bv _ i hi]
  ·refine⟨hl.nowS,by rw[hl.now];decide,_,_,by rw[hl.now],by rw[hl.now];decide,by decide,fun _=>⟨fg,_,rfl,fun i hi=>?_⟩⟩
   rw[Nat.add_assoc]
   refine hcell _ _ ?_
   have e:66+i=(64+i)+2:=by omega
   rw[e]
   unfold wcells
   rw[List.getElem?_cons_succ,List.getElem?_cons_succ,List.getElem?_append_right (by rw[h1];omega),h1,Nat.add_sub_cancel_left,getD_map_bv _ i hi]
def undone (R:AM.Raw) (j:Nat):AM.Raw:={ R with C:=AM.undoTo R.C R.L j }
theorem undone_end (R:AM.Raw):undone R R.L.length=R:=by simp[undone,AM.undoTo_end]
theorem undone_step {R:AM.Raw} {j:Nat} (h:j < R.L.length):undone R j=(undone R (j+1)).lay R.L[j].d R.L[j].k R.L[j].was:=by
 simp[undone,AM.Raw.lay,AM.undoTo_step R.C R.L h]
set_option maxHeartbeats 800000 in
theorem undo_yes (h:Is F w a R) (hL:R.L.length<=1000000):Calls Tryz.prog 40 #[ptr a] w fun e w'=>e=.returned (.tuple #[])/\Is F w' a (undone R 0)/\Step F w F w':=by
 obtain⟨dg,fp,fc,ht⟩:=h.top
 have c2:w.cell? ⟨a,2,none⟩=some (.slice fp R.L.length fc):=topCell (j:=2) ht rfl
 have HI:Hid (Is F w a R):=h
 clear h ht
 obtain⟨N,hN⟩:∃ N,N=R.L.length:=⟨_,rfl⟩
 have HN:Hid (N=R.L.length):=hN
 rw[<- hN] at c2 hL
 clear hN
 go_enter Tryz.func40,Tryz.ntmps40
 go_wp2
 clear c2
 go_loopw [2] (fun ti wr=>∃ j:Nat,j<=N/\ti=.int .i64 ((j:Int) - 1)/\Hid (Is F wr a (undone R j))/\Hid (Step F w F wr)) (fun ti _=>(intOf ti+1).toNat)
 case atStart=>exact⟨N,by omega,rfl,by rw[HN.out,undone_end];exact HI,Step.refl F w⟩
 case round =>
  clear HI
  obtain⟨j,hj,rfl,OK,GK⟩:=hrel
  by_cases hlt:0 < j
  ·obtain⟨i,rfl⟩:∃ i,j=i+1:=⟨j - 1,by omega⟩
   have hiN:i < R.L.length:=by have:=HN.out;omega
   obtain⟨dg,dv,fp,fc,h⟩:=OK.out
   obtain⟨fg,rfl,e0,e1,ev,_,⟨cw,hcw⟩,hfa⟩:=h.entry (j:=i) hiN
   have e0:wr.cell? ⟨fg,i * 130,none⟩=some (.int .i64 (R.L[i].d:Int)):=e0
   have e1:wr.cell? ⟨fg,i * 130+1,none⟩=some (.int .i64 (R.L[i].k:Int)):=e1
   have ev:Vec wr (.slice (some ⟨fg,i * 130+2,none⟩) 64 64) R.L[i].was:=ev
   have c2:wr.cell? ⟨a,2,none⟩=some (.slice (some ⟨fg,0,none⟩) N fc):=by rw[HN.out];exact topCell (j:=2) h.top rfl
   have hok:=h.ok.L R.L[i] (List.getElem_mem hiN)
   have HLAY:Hid (Calls Tryz.prog 41 #[ptr a,.int .i64 (R.L[i].d:Int),.int .i64 (R.L[i].k:Int),.pointer (some ⟨fg,i * 130+2,none⟩)] wr.drew fun e w'=>e=.returned (.tuple #[])/\Is F w' a (undone R i)/\Step F wr F w'/\(w'.cell? ⟨fg,i * 130,none⟩=some (.int .i64 (R.L[i].d:Int))/\w'.cell? ⟨fg,i * 130+1,none⟩=some (.int .i64 (R.L[i].k:Int)))):=by
    refine (lay_yes (w:=wr.drew) (OK.out.keep (grown_drewN wr 1)) hok.on hok.k (ev.keep (grown_drewN wr 1)) hok.was).mono ?_
    rintro e w' ⟨rfl,h1,h2,g,c,h3,h4⟩
    rw[undone_step hiN]
    have hne:fg ≠ g:=ne_ty hcw (show wr.heap[g]?=_ from h4) (by decide)
    exact⟨rfl,h1,(Step.new (grown_drewN wr 1)).trans h2,h3.cell e0 (fun e=>hne (Option.some.inj e)),h3.cell e1 (fun e=>hne (Option.some.inj e))⟩
   generalize R.L[i].d=D at *
   generalize R.L[i].k=K at *
   have i1:(i:Int) < (N:Int):=by omega
   have HE:Hid (wr.cell? ⟨fg,i * 130,none⟩=some (.int .i64 (D:Int))/\wr.cell? ⟨fg,i * 130+1,none⟩=some (.int .i64 (K:Int))):=⟨e0,e1⟩
   clear h ev hok OK hcw hfa cw e0 e1
   go_wp2_with fail
   go_region_held3 (fun w'=>w'.cell? ⟨fg,i * 130,none⟩=some (.int .i64 (D:Int))/\w'.cell? ⟨fg,i * 130+1,none⟩=some (.int .i64 (K:Int))) (first | exact HE.out | exact HE4.out)
    ((go_at_call 41;refine HLAY.out.mono ?_;rintro e w4 ⟨rfl,hi4,hs4,he4⟩;have HI4:Hid (Is F w4 a (undone R i)):=hi4;have HS4:Hid (Step F wr F w4):=hs4;have HE4:Hid (w4.cell? ⟨fg,i * 130,none⟩=some (.int .i64 (D:Int))/\w4.cell? ⟨fg,i * 130+1,none⟩=some (.int .i64 (K:Int))):=he4;clear hi4 hs4 he4))
   go_wp2
   go_roundw
   case rel=>exact⟨i,by omega,by go_num,HI4,GK.out.trans HS4.out⟩
   case measure=>simp[intOf]
  ·obtain rfl:j=0:=by omega
   go_wp2
   go_end0
   exact⟨rfl,OK.out,GK.out⟩
theorem Lies.reset {dg:Nat} {dv:List Value} {fp:Option Addr} {fc:Nat} (h:Lies F w a dg dv fp fc R):Lies F (((w.setCell ⟨a,2,none⟩ (.slice none 0 0)).setCell ⟨a,3,none⟩ (.int .i64 0)).setCell ⟨a,4,none⟩ (.bool false)) a dg dv none 0 ⟨R.C,R.n,[],0,false⟩:=by
 have h1:=h.cleared
 refine h1.turn (R':=⟨R.C,R.n,[],0,false⟩) (grown_set2 (grown_set_a _ a 3 _) 4 _) rfl rfl rfl (by show 0 < _;decide) ?_
 rw[heap_setCell_same _ _ _ _ _ _ (heap_setCell_same _ _ _ _ _ _ h1.top)]
 rfl
def picked (R:AM.Raw) (ps:List Nat) (j:Nat):AM.Raw:={ R with C:=AM.pickTo (AM.undoTo R.C R.L 0) R.L ps j }
theorem picked_zero (R:AM.Raw) (ps:List Nat):picked R ps 0=undone R 0:=rfl
theorem picked_odd {R:AM.Raw} {ps:List Nat} {j:Nat} (h1:j < R.L.length) (h2:j < ps.length) (ho:ps.getD j 0 % 2=1):picked R ps (j+1)=(picked R ps j).lay R.L[j].d R.L[j].k R.L[j].now:=by
 have:ps[j] % 2=1:=by simpa [List.getD,h2] using ho
 simp[picked,AM.Raw.lay,AM.pickTo_step _ _ _ h1 h2,AM.pickD,this]
theorem picked_even {R:AM.Raw} {ps:List Nat} {j:Nat} (h1:j < R.L.length) (h2:j < ps.length) (ho:¬ ps.getD j 0 % 2=1):picked R ps (j+1)=picked R ps j:=by
 have:¬ ps[j] % 2=1:=by simpa [List.getD,h2] using ho
 simp only[picked,AM.pickTo_step _ _ _ h1 h2,AM.pickD,if_neg this]
theorem min_run (m n:Nat):∃ k:Nat,k=min m n/\∀ (ts:Array TypeId) (t:TypeId) (W:World),(Builtin.min_ ts t #[.int .i64 (m:Int),.int .i64 (n:Int)]).run Tryz.prog W=.ok (.int .i64 (k:Int)) W:=by
 refine⟨min m n,rfl,fun ts t W=>?_⟩
 simp only[Builtin.min_,List.foldlM]
 by_cases h:n < m
 ·have e:min m n=n:=by omega
  rw[e]
  have hi:(n:Int) < (m:Int):=by omega
  simp[Builtin.min2,hi]
 ·have e:min m n=m:=by omega
  rw[e]
  have hi:¬ (n:Int) < (m:Int):=by omega
  simp[Builtin.min2,hi]
set_option maxHeartbeats 1600000 in
theorem crash_yes (h:Is F w a R) (hL:R.L.length<=1000000) {v:Value} {ps:List Nat} (hv:Vec w v ps) (hvF:ps ≠ []->∀ g,v.ownBlock=some g->¬ F g) :
 Calls Tryz.prog 19 #[ptr a,v] w fun e w'=>e=.returned (.tuple #[])/\Is F w' a (R.crash ps)/\Step F w F w':=by
 have HM:Hid (Calls Tryz.prog 39 #[ptr a] w fun e w'=>e=.returned (.bool true)/\w'=w):=made_yes h
 have HU:Hid (Calls Tryz.prog 40 #[ptr a] w fun e w'=>e=.returned (.tuple #[])/\Is F w' a (undone R 0)/\Step F w F w'):=undo_yes h hL
 obtain⟨p,m,cap,rfl,hm⟩:=hv.opened
 have HV:Hid (∀ w',Step F w F w'->Vec w' (.slice p m cap) ps):=fun w' s=>hv.upd s.upd hvF
 have HPS:Hid (m=ps.length):=hm
 have hmb:m<=140737488351232:=by rw[hm];exact hv.len
 obtain⟨N,hN⟩:∃ N,N=R.L.length:=⟨_,rfl⟩
 have HN:Hid (N=R.L.length):=hN
 rw[<- hN] at hL
 obtain⟨M,hMe,hmin⟩:=min_run m N
 have HMe:Hid (M=min m N):=hMe
 have hM1:M<=m:=by omega
 have hM2:M<=N:=by omega
 clear h hv hvF hm hN hMe
 go_enter Tryz.func19,Tryz.ntmps19
 go_wp2_with (first
  | (go_at_call 39;refine HM.out.mono ?_;rintro e w1 ⟨rfl,hw⟩;obtain rfl:=hw.symm;clear hw)
  | (go_at_call 40;refine HU.out.mono ?_;rintro e w1 ⟨rfl,hi1,hs1⟩;obtain⟨dg,fp,fc,ht⟩:=hi1.top;have c2:w1.cell? ⟨a,2,none⟩=some (.slice fp N fc):=(by rw[HN.out];exact topCell (j:=2) ht rfl);have HI1:Hid (Is F w1 a (undone R 0)):=hi1;have HS1:Hid (Step F w F w1):=hs1;clear hi1 hs1 ht))
 clear c2 hmin
 go_loopw [19] (fun ti wr=>∃ j:Nat,j<=M/\ti=.int .i64 (j:Int)/\Hid (Is F wr a (picked R ps j))/\Hid (Step F w F wr)) (fun ti _=>M - (intOf ti).toNat)
 case atStart=>exact⟨0,by omega,rfl,by rw[picked_zero];exact HI1,HS1⟩
 case round =>
  clear HI1 HS1
  obtain⟨j,hj,rfl,OK,GK⟩:=hrel
  by_cases hlt:j < M
  ·have i1:(j:Int) < (M:Int):=by omega
   have i2:(j:Int) < (N:Int):=by omega
   have i3:(j:Int) < (m:Int):=by omega
   have hjN:j < R.L.length:=by have:=HN.out;omega
   have hjp:j < ps.length:=by have:=HPS.out;omega
   obtain⟨pb,po,rfl,cp,hp256⟩:=(HV.out _ GK.out).spot (k:=j) hjp
   obtain⟨dg,dv,fp,fc,h⟩:=OK.out
   obtain⟨fg,rfl,e0,e1,_,ev,⟨cw,hcw⟩,hfa⟩:=h.entry (j:=j) hjN
   have e0:wr.cell? ⟨fg,j * 130,none⟩=some (.int .i64 (R.L[j].d:Int)):=e0
   have e1:wr.cell? ⟨fg,j * 130+1,none⟩=some (.int .i64 (R.L[j].k:Int)):=e1
   have ev:Vec wr (.slice (some ⟨fg,j * 130+66,none⟩) 64 64) R.L[j].now:=ev
   have c2:wr.cell? ⟨a,2,none⟩=some (.slice (some ⟨fg,0,none⟩) N fc):=by rw[HN.out];exact topCell (j:=2) h.top rfl
   have hok:=h.ok.L R.L[j] (List.getElem_mem hjN)
   by_cases ho:ps.getD j 0 % 2=1
   ·have HLAY:Hid (Calls Tryz.prog 41 #[ptr a,.int .i64 (R.L[j].d:Int),.int .i64 (R.L[j].k:Int),.pointer (some ⟨fg,j * 130+66,none⟩)] wr.drew fun e w'=>e=.returned (.tuple #[])/\Is F w' a (picked R ps (j+1))/\Step F wr F w'/\(w'.cell? ⟨fg,j * 130,none⟩=some (.int .i64 (R.L[j].d:Int))/\w'.cell? ⟨fg,j * 130+1,none⟩=some (.int .i64 (R.L[j].k:Int)))):=by
     refine (lay_yes (w:=wr.drew) (OK.out.keep (grown_drewN wr 1)) hok.on hok.k (ev.keep (grown_drewN wr 1)) hok.now).mono ?_
     rintro e w' ⟨rfl,h1,h2,g,c,h3,h4⟩
     rw[picked_odd hjN hjp ho]
     have hne:fg ≠ g:=ne_ty hcw (show wr.heap[g]?=_ from h4) (by decide)
     exact⟨rfl,h1,(Step.new (grown_drewN wr 1)).trans h2,h3.cell e0 (fun e=>hne (Option.some.inj e)),h3.cell e1 (fun e=>hne (Option.some.inj e))⟩
    generalize R.L[j].d=D at *
    generalize R.L[j].k=K at *
    generalize ps.getD j 0=y at *
    have o1:(y:Int) % 2=1:=by omega
    have HE:Hid (wr.cell? ⟨fg,j * 130,none⟩=some (.int .i64 (D:Int))/\wr.cell? ⟨fg,j * 130+1,none⟩=some (.int .i64 (K:Int))):=⟨e0,e1⟩
    clear h ev hok OK hcw hfa cw e0 e1 ho
    go_wp2_with fail
    go_region_held3 (fun w'=>w'.cell? ⟨fg,j * 130,none⟩=some (.int .i64 (D:Int))/\w'.cell? ⟨fg,j * 130+1,none⟩=some (.int .i64 (K:Int))) (first | exact HE.out | exact HE4.out)
     ((go_at_call 41;refine HLAY.out.mono ?_;rintro e w4 ⟨rfl,hi4,hs4,he4⟩;have HI4:Hid (Is F w4 a (picked R ps (j+1))):=hi4;have HS4:Hid (Step F wr F w4):=hs4;have HE4:Hid (w4.cell? ⟨fg,j * 130,none⟩=some (.int .i64 (D:Int))/\w4.cell? ⟨fg,j * 130+1,none⟩=some (.int .i64 (K:Int))):=he4;clear hi4 hs4 he4))
    go_wp2
    go_roundw
    case rel=>exact⟨j+1,by omega,by go_num,HI4,GK.out.trans HS4.out⟩
    case measure=>simp[intOf];omega
   ·have HI4:Hid (Is F wr a (picked R ps (j+1))):=by rw[picked_even hjN hjp ho];exact OK
    generalize ps.getD j 0=y at *
    have o1:(y:Int) % 2=0:=by omega
    clear h ev hok OK hcw hfa cw e0 e1 ho
    go_wp2
    go_roundw
    case rel=>exact⟨j+1,by omega,by go_num,HI4,GK⟩
    case measure=>simp[intOf];omega
  ·have i1:¬ (j:Int) < (M:Int):=by omega
   have ej:j=M:=by omega
   obtain⟨dg,dv,fp,fc,h⟩:=OK.out
   have f2:=topFrozen 2 h.top
   have f3:=topFrozen 3 h.top
   have f4:=topFrozen 4 h.top
   have c2:wr.cell? ⟨a,2,none⟩=some (.slice fp (picked R ps j).L.length fc):=topCell (j:=2) h.top rfl
   have c3:wr.cell? ⟨a,3,none⟩=some (.int .i64 ((picked R ps j).fuse:Int)):=topCell (j:=3) h.top rfl
   have c4:wr.cell? ⟨a,4,none⟩=some (.bool (picked R ps j).off):=topCell (j:=4) h.top rfl
   have HR:Hid (Lies F (((wr.setCell ⟨a,2,none⟩ (.slice none 0 0)).setCell ⟨a,3,none⟩ (.int .i64 0)).setCell ⟨a,4,none⟩ (.bool false)) a dg dv none 0 (R.crash ps)):=by
    have h1:=h.reset
    have e:(⟨(picked R ps j).C,(picked R ps j).n,[],0,false⟩:AM.Raw)=R.crash ps:=by
     have:(R.crash ps).C=(picked R ps j).C:=by
      rw[AM.crash_pick,ej,HMe.out,HPS.out,HN.out];rfl
     rw[<- this]
     rfl
    rw[e] at h1
    exact h1
   have HSF:Hid (Step F w F (((wr.setCell ⟨a,2,none⟩ (.slice none 0 0)).setCell ⟨a,3,none⟩ (.int .i64 0)).setCell ⟨a,4,none⟩ (.bool false))):=GK.out.trans (Step.of (grown_set2 (grown_set2 (grown_set_a _ a 2 _) 3 _) 4 _) (fun i e=>by obtain rfl:=Option.some.inj e;exact h.Fa))
   clear h OK GK ej
   go_wp2
   go_end0
   exact⟨rfl,HR.out.is,HSF.out⟩
end
structure Part_a (B:Nat) (w:World) (v:Value) (xs:List Nat):Prop where
 small:∀ x ∈ xs,x < 256
 len:xs.length<=140737488351232
 form:(v=.slice none 0 0/\xs=[])\/∃ g cap cur,v=.slice (some ⟨g,0,none⟩) xs.length cap/\B<=g/\w.heap[g]?=some (.cells cur 5 (0,0))/\xs.length<=cap/\cap<=maxLen/\xs.length<=cur.size/\cur.toList.take xs.length=xs.map bv
theorem Part_a.lt {B:Nat} {w:World} {v:Value} {xs:List Nat} (h:Part_a B w v xs) {g:Nat} (hg:v.ownBlock=some g):B<=g/\g < w.heap.size:=by
 rcases h.form with ⟨rfl,_⟩ | ⟨g',cap,cur,rfl,h1,h2,h3⟩
 ·cases hg
 ·obtain rfl:g'=g:=Option.some.inj hg
  exact⟨h1,(Array.getElem?_eq_some_iff.1 h2).1⟩
theorem Own.part {B:Nat} {w:World} {v:Value} {xs:List Nat} (h:Own B w v xs):Part_a B w v xs:=by
 refine⟨h.small,h.len,?_⟩
 rcases h.row.2 with ⟨rfl,hn⟩ | ⟨g,cap,cur,rfl,hb,hg,hc,hm,hs,ht⟩
 ·exact .inl ⟨rfl,List.eq_nil_of_length_eq_zero hn⟩
 ·exact .inr ⟨g,cap,cur,rfl,hb,hg,hc,hm,by omega,by rw[Nat.mul_one] at ht;exact ht⟩
theorem Part_a.vec {B:Nat} {w:World} {v:Value} {xs:List Nat} (h:Part_a B w v xs):Vec w v xs:=by
 refine⟨h.small,h.len,?_⟩
 rcases h.form with ⟨rfl,rfl⟩ | ⟨g,cap,cur,rfl,h1,h2,h3,h4,h5,h6⟩
 ·exact⟨none,0,rfl,Nat.le_refl _,by decide,fun h=>absurd rfl h⟩
 ·refine⟨some ⟨g,0,none⟩,cap,rfl,h3,h4,fun _=>⟨g,0,rfl,fun j hj=>?_⟩⟩
  refine topCell h2 ?_
  have:=getD_map_bv xs j hj
  rw[<- h6,List.getElem?_take,if_pos hj] at this
  rw[Nat.zero_add]
  simpa using this
theorem wcells_zero (l:AM.Wr):(wcells l).toArray[0]?=some (.int .i64 (l.d:Int)):=by simp[wcells]
theorem lose1_any {w:World} {cb D:Nat} {l:AM.Wr} (hc:w.cell? ⟨cb,0,none⟩=some (.int .i64 (D:Int))) :
 Calls Tryz.prog 32 #[.agg (wcells l).toArray,.pointer (some ⟨cb,0,none⟩)] w fun e w'=>e=.returned (.bool (decide (l.d=D)))/\w.grownBy w' none:=by
 have h0:=wcells_zero l
 generalize (wcells l).toArray=AR at *
 have hc1:(w.alloc (.cells AR 81)).cell? ⟨cb,0,none⟩=some (.int .i64 (D:Int)):=(World.grownBy_alloc w _ none).cell hc (by simp)
 have hc2:(w.alloc (.cells AR 81)).cell? ⟨w.heap.size,0,none⟩=some (.int .i64 (l.d:Int)):=topCell (heap_alloc_new w _) h0
 have HE:Hid (((l.d:Int)==(D:Int))=decide (l.d=D)):=by
  show _=_
  by_cases c:l.d=D
  ·simp[c]
  ·have:¬ (l.d:Int)=(D:Int):=by omega
   simp[c,this]
 have HG:Hid (w.grownBy (w.alloc (.cells AR 81)) none):=World.grownBy_alloc w _ none
 clear h0 hc
 go_enter Tryz.func32,Tryz.ntmps32
 go_wp2
 go_ret
 exact⟨by rw[HE.out];rfl,HG.out⟩
theorem wr_range {w:World} {B N fg fc:Nat} {L:List AM.Wr} (h:w.ownsRow B 81 130 (.slice (some ⟨fg,0,none⟩) N fc) N (wrow L)) (hl:∀ l ∈ L,(wcells l).length=130) {j:Nat} (hj:j < L.length):w.rangeAt fg (j * 130) (wcells L[j]):=fun i v hv=>by
 have hi:i < 130:=by rw[<- hl _ (List.getElem_mem hj)];exact (List.getElem?_eq_some_iff.1 hv).1
 exact ownsRow_cell h (by show (L.flatMap wcells)[j * 130+i]?=some v;rw[flat_get hi hl hj];exact hv)
def FirstAt (L:List AM.Wr) (D:Nat) (r:Int):Prop:=(r=-1/\∀ l ∈ L,l.d ≠ D)\/∃ (j:Nat) (hj:j < L.length),r=(j:Int)/\L[j].d=D/\∀ (i:Nat) (hi:i < L.length),i < j->L[i].d ≠ D
set_option maxHeartbeats 800000 in
theorem idxF_any {w:World} {fp:Option Addr} {fc cb D:Nat} {L:List AM.Wr} (h:w.ownsRow 0 81 130 (.slice fp L.length fc) L.length (wrow L)) (hl:∀ l ∈ L,l.was.length=64/\l.now.length=64) (hL:L.length<=1000000)
 (hc:w.cell? ⟨cb,0,none⟩=some (.int .i64 (D:Int))) :
 Calls Tryz.prog 56 #[.slice fp L.length fc,.func (.func 32) #[] #[.pointer (some ⟨cb,0,none⟩)]] w fun e w'=>∃ r,e=.returned (.int .i64 r)/\FirstAt L D r/\w.grownBy w' none:=by
 have HH:Hid (∀ w',w.grownBy w' none->w'.ownsRow 0 81 130 (.slice fp L.length fc) L.length (wrow L)):=fun w' g=>ownsRow_same h (fun b hb=>by
  obtain⟨c,hc⟩:=rowBlock h hb
  exact g.block b (Array.getElem?_eq_some_iff.1 hc).1 (by simp))
 have HC:Hid (∀ w',w.grownBy w' none->w'.cell? ⟨cb,0,none⟩=some (.int .i64 (D:Int))):=fun w' g=>g.cell hc (by simp)
 have hlen:∀ l ∈ L,(wcells l).length=130:=fun l hm=>wcells_len (hl l hm).1 (hl l hm).2
 have HLEN:Hid (∀ l ∈ L,(wcells l).length=130):=hlen
 obtain⟨N,hN⟩:∃ N,N=L.length:=⟨_,rfl⟩
 have HN:Hid (N=L.length):=hN
 have HNIL:Hid (0 < N->∃ fg,fp=some ⟨fg,0,none⟩):=fun hp=>by
  rcases h.2 with ⟨e,h0⟩ | ⟨g,cap,cur,e,_⟩
  ·rw[hN,h0] at hp;cases hp
  ·injection e with e
   exact⟨g,e⟩
 rw[<- hN] at hL ⊢
 clear h hl hc hlen hN
 go_enter Tryz.func56,Tryz.ntmps56
 go_wp2
 go_loopw [8] (fun ti wr=>∃ j:Nat,j<=N/\ti=.int .i64 (j:Int)/\Hid (∀ (i:Nat) (hi:i < L.length),i < j->L[i].d ≠ D)/\Hid (w.grownBy wr none)) (fun ti _=>N - (intOf ti).toNat)
 case atStart=>exact⟨0,by omega,rfl,fun i hi h0=>by omega,World.grownBy.refl w none⟩
 case round =>
  obtain⟨j,hj,rfl,HF,GK⟩:=hrel
  by_cases hlt:j < N
  ·have i1:(j:Int) < (N:Int):=by omega
   have hjL:j < L.length:=by have:=HN.out;omega
   obtain⟨fg,rfl⟩:=HNIL.out (by omega)
   have hrow:=HH.out _ GK.out
   have HRG:Hid (wr.rangeAt fg (j * 130) (wcells L[j])):=wr_range hrow HLEN.out hjL
   have HSZ:Hid ((Tryz.prog.info? 81).map (·.size)=some (wcells L[j]).length):=by
    show _=_
    rw[HLEN.out _ (List.getElem_mem hjL)];exact Tryz.sizeWr
   have HCL:Hid (Calls Tryz.prog 32 #[.agg (wcells L[j]).toArray,.pointer (some ⟨cb,0,none⟩)] wr fun e w'=>e=.returned (.bool (decide (L[j].d=D)))/\wr.grownBy w' none):=lose1_any (HC.out _ GK.out)
   have HX:Hid (∀ x,x=L[j].d->(¬ x=D)->∀ (i:Nat) (hi:i < L.length),i < j+1->L[i].d ≠ D):=fun x hx hn i hi hij=>by
    by_cases c:i=j
    ·subst c;rw[<- hx];exact hn
    ·exact HF.out i hi (by omega)
   have HY:Hid (∀ x,x=L[j].d->x=D->FirstAt L D (j:Int)):=fun x hx hd=>.inr ⟨j,hjL,rfl,by rw[<- hx];exact hd,HF.out⟩
   obtain⟨x,hx⟩:∃ x,x=L[j].d:=⟨_,rfl⟩
   have HXE:Hid (x=L[j].d):=hx
   rw[<- hx] at HCL
   clear hx
   obtain⟨CW,hCW⟩:∃ CW,CW=wcells L[j]:=⟨_,rfl⟩
   rw[<- hCW] at HRG HSZ HCL
   clear hrow hCW HF
   by_cases hd:x=D
   ·have HFIN:=HY.out x HXE.out hd
    have HFI:Hid (FirstAt L D (j:Int)):=HFIN
    have HC2:Hid (Calls Tryz.prog 32 #[.agg CW.toArray,.pointer (some ⟨cb,0,none⟩)] wr fun e w'=>e=.returned (.bool true)/\wr.grownBy w' none):=by
     have:=HCL.out;rw[decide_eq_true hd] at this;exact this
    clear HFIN HY HX HCL
    go_wp2_with (first
     | (refine wpList_load_mid rfl 81 (.tmp 14) rfl fg (j * 130) rfl CW _ HRG.out Tryz.underlying81 rfl HSZ.out ?_)
     | (go_at_call 32;refine HC2.out.mono ?_;rintro e w1 ⟨rfl,hg1⟩;have HG1:Hid (w.grownBy w1 none):=grown_trans GK.out hg1;clear hg1))
    go_ret
    exact⟨_,rfl,HFI.out,HG1.out⟩
   ·have HFI:Hid (∀ (i:Nat) (hi:i < L.length),i < j+1->L[i].d ≠ D):=HX.out x HXE.out hd
    have HC2:Hid (Calls Tryz.prog 32 #[.agg CW.toArray,.pointer (some ⟨cb,0,none⟩)] wr fun e w'=>e=.returned (.bool false)/\wr.grownBy w' none):=by
     have:=HCL.out;rw[decide_eq_false hd] at this;exact this
    clear HY HX HCL
    go_wp2_with (first
     | (refine wpList_load_mid rfl 81 (.tmp 14) rfl fg (j * 130) rfl CW _ HRG.out Tryz.underlying81 rfl HSZ.out ?_)
     | (go_at_call 32;refine HC2.out.mono ?_;rintro e w1 ⟨rfl,hg1⟩;have HG1:Hid (w.grownBy w1 none):=grown_trans GK.out hg1;clear hg1))
    go_roundw
    case rel=>exact⟨j+1,by omega,by go_num,HFI,HG1⟩
    case measure=>simp[intOf];omega
  ·have i1:¬ (j:Int) < (N:Int):=by omega
   go_wp2
   go_ret
   refine⟨_,rfl,.inl ⟨rfl,fun l hm=>?_⟩,GK.out⟩
   obtain⟨i,hi,rfl⟩:=List.getElem_of_mem hm
   exact HF.out i hi (by have:=HN.out;omega)
end Go.Proofs.YtlklmhojadlncaaGreat
