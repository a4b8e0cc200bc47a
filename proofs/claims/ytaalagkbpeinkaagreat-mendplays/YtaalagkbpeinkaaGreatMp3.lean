/- Packed: Beside, Tab, InvF, Prod, CMath, Row4. -/
import Derived.Laws.CopyRow
import Derived.Test.YtaalagkbpeinkaaGreatMp2
import Derived.RegionTactic
import Derived.BigRegion
import Derived.Deep.WholeRow
import Derived.Deep.QuietTactic
import Derived.BigQuiet
set_option maxRecDepth 100000
namespace Go.Proofs.YtaalagkbpeinkaaGreat
open Go.RowKit
theorem Tryz.size5:(Tryz.prog.info? 5).map (·.size)=some 1:=by kernel_rfl
theorem run_copy_into {B:Nat} {w:World} {d s:Value} {xs ys:List Nat} (hd:Own B w d xs) (hs:Vec w s ys) (hl:ys.length<=xs.length) (h0:0 < ys.length) (ty:TypeId) :
 ∃ w',(Builtin.copy_ #[31,31] ty #[d,s]).run Tryz.prog w=.ok (goInt ys.length) w'/\Own B w' d (ys++xs.drop ys.length)/\w.grownBy w' d.ownBlock:=by
 obtain⟨s1,s2,p,cap,rfl,s3,s4,s5⟩:=hs
 have hy:ys ≠ []:=fun e=>by simp[e] at h0
 obtain⟨b,off,rfl,hc⟩:=s5 hy
 rcases hd.row.2 with ⟨rfl,hn⟩ | ⟨g,dcap,cur,rfl,hb,hg,hcc,hm,hcs,ht⟩
 ·omega
 ·have hr:=run_copy_row (P:=Tryz.prog) w 31 31 ty 5 g 0 xs.length dcap ⟨b,off,none⟩ ys.length cap cur 5 (ys.map bv) Tryz.underlying31 Tryz.size5 hg (by rw[List.length_map];exact (Nat.min_eq_left hl).symm)
   (fun j v hj=>by
     have hj':j < ys.length:=by
      have:=(List.getElem?_eq_some_iff.1 hj).1
      simpa using this
     rw[getD_map_bv ys j hj'] at hj
     rw[add_off,hc j hj'];exact hj) (by simp;omega) (fun v hv=>by obtain⟨x,_,rfl⟩:=List.mem_map.1 hv;rfl)
  have hlen:(ys++xs.drop ys.length).length=xs.length:=by simp;omega
  refine⟨w.setRow g (ys.map bv++cur.toList.drop ys.length).toArray,by rw[hr];simp,⟨fun x hx=>?_,by rw[hlen];exact hd.len,by simp,.inr ⟨g,dcap,_,by rw[hlen],hb,setRow_heap w g cur _ 5 _ hg,by omega,hm,?_,?_⟩⟩,⟨rfl,rfl,rfl,by simp,fun k _ hk=>setRow_other w g k _ (fun e=>hk (by simp[Value.ownBlock,e]))⟩⟩
  ·rcases List.mem_append.1 hx with h | h
   ·exact s1 x h
   ·exact hd.small x (List.mem_of_mem_drop h)
  ·simp;omega
  ·have ht':cur.toList.take xs.length=xs.map bv:=by simpa using ht
   rw[hlen,Nat.mul_one,List.map_append,List.map_drop,<- ht']
   apply List.ext_getElem?
   intro j
   by_cases h1:j < ys.length
   ·simp[List.getElem?_append,h1,show j < xs.length from by omega]
   ·simp[List.getElem?_take,List.getElem?_append,h1,List.getElem?_drop]
    by_cases h2:j < xs.length
    ·simp[h2,show ys.length+(j - ys.length)=j from by omega]
    ·simp[h2,show ¬ ys.length+(j - ys.length) < xs.length from by omega]
theorem wpList_copy_into {w:World} {ops:Array Oper} {rest:List Oper} {o:Oper} {a:Act} {Q:Exit->Act->World->Prop} (hgd:o.guard=none) (d s:Operand)
 (ho:o.op=.call { callee:=.builtin .copy,args:=#[d,s],argTypes:=#[31,31] }) (dv sv:Value) (hed:a.eval d=dv) (hes:a.eval s=sv)
 {B:Nat} {xs ys:List Nat} (hd:Own B w dv xs) (hs:Vec w sv ys) (hl:ys.length<=xs.length) (h0:0 < ys.length)
 (h:∀ w',Own B w' dv (ys++xs.drop ys.length)->w.grownBy w' dv.ownBlock->wpList Tryz.prog ops Q rest (a.put o.dst (goInt ys.length)) w'):wpList Tryz.prog ops Q (o :: rest) a w:=by
 refine wpList_plain hgd fun K hK=>?_
 obtain⟨w',hrun,r1,r2⟩:=run_copy_into hd hs hl h0 o.type
 unfold Oper.wp
 simp[execOp,ho,resolve,invoke,builtin,hed,hes,hrun,Result.andThen]
 exact hK _ _ (h _ r1 r2)
theorem step_copy_into {ops:Array Oper} {o:Oper} {a:Act} {w:World} {K:Act->World->Prop} {Q:Exit->Act->World->Prop} {E:Prop} (hgd:o.guard=none) (d s:Operand)
 (ho:o.op=.call { callee:=.builtin .copy,args:=#[d,s],argTypes:=#[31,31] }) (dv sv:Value) (hed:a.eval d=dv) (hes:a.eval s=sv)
 {B:Nat} {xs ys:List Nat} (hd:Own B w dv xs) (hs:Vec w sv ys) (hl:ys.length<=xs.length) (h0:0 < ys.length)
 (h:∀ w',Own B w' dv (ys++xs.drop ys.length)->w.grownBy w' dv.ownBlock->K (a.put o.dst (goInt ys.length)) w') :
 if Region.wanted o (yielded ops a.tmps)=true then Oper.wp Tryz.prog o a w K Q else E:=by
 have hw:Region.wanted o (yielded ops a.tmps)=true:=by simp[Region.wanted,hgd]
 rw[if_pos hw]
 obtain⟨w',hrun,h1,h2⟩:=run_copy_into hd hs hl h0 o.type
 unfold Oper.wp
 simp[execOp,ho,resolve,invoke,builtin,hed,hes,hrun,Result.andThen]
 exact h _ h1 h2
theorem Vec.tail {w:World} {b off n cap k:Nat} {xs:List Nat} (h:Vec w (.slice (some ⟨b,off,none⟩) n cap) xs) (hk:k<=n):Vec w (.slice (some ⟨b,off+k,none⟩) (n - k) (cap - k)) (xs.drop k):=by
 obtain⟨h1,h2,p,cp,e,h3,h4,h5⟩:=h
 injection e with e1 e2 e3
 subst e2 e3
 refine⟨fun x hx=>h1 x (List.mem_of_mem_drop hx),by simp;omega,some ⟨b,off+k,none⟩,cap - k,by simp,by simp;omega,by omega,fun hne=>⟨b,off+k,rfl,fun j hj=>?_⟩⟩
 have hx:xs ≠ []:=fun e=>hne (by rw[e];simp)
 obtain⟨b',off',e',hc⟩:=h5 hx
 rw[<- e1] at e'
 injection e' with e'
 injection e' with e2 e3
 subst e2 e3
 simp only[List.length_drop] at hj
 have:=hc (k+j) (by omega)
 rw[drop_getD]
 rw[show off+k+j=off+(k+j) from by omega]
 exact this
def besTo (X:List (List Nat)) (n k:Nat):List (List Nat):=(List.range n).map fun i=>if i < k then X.getD i []++idRow n i else List.replicate (2 * n) 0
theorem besTo_len (X:List (List Nat)) (n k:Nat):(besTo X n k).length=n:=by simp[besTo]
theorem besTo_zero (X:List (List Nat)) (n:Nat):besTo X n 0=List.replicate n (List.replicate (2 * n) 0):=by
 apply List.ext_getElem
 ·simp[besTo]
 ·intro i h1 h2
  simp[besTo]
theorem besTo_all (X:List (List Nat)) (n:Nat):besTo X n n=besList X n:=List.map_congr_left fun i hi=>by simp[List.mem_range.1 hi]
theorem besTo_get (X:List (List Nat)) (n k:Nat) (h:k < n):(besTo X n k).getD k []=List.replicate (2 * n) 0:=by simp[besTo,List.getD,h]
theorem besTo_set (X:List (List Nat)) (n k:Nat):(besTo X n k).set k (X.getD k []++idRow n k)=besTo X n (k+1):=by
 apply List.ext_getElem
 ·simp[besTo]
 ·intro i h1 h2
  by_cases e:k=i
  ·subst e;simp[besTo]
  ·by_cases l:i < k
   ·simp[besTo,e,l,show i < k+1 from by omega]
   ·simp[besTo,e,l,show ¬ i < k+1 from by omega]
set_option maxHeartbeats 3200000 in
theorem beside_any {w:World} {m:Value} {vs:List Value} {X:List (List Nat)} {n:Nat} (mr:Mat w m vs X) (hs:Shape X n n) (h1:1<=n) (h2:n<=255) :
 Calls Tryz.prog 165 #[m] w fun e w'=>∃ v us,e=.returned v/\OwnMat w.heap.size w' v us (besList X n)/\Sep us/\w.grownBy w' none:=by
 obtain⟨q,N,cap,rfl,hN⟩:=mr.row.opened
 have hsm:=mr.same
 have hlen:=hs.len
 have hNn:N=n:=by omega
 subst hNn
 have MR:Hid (Mat w (.slice q N cap) vs X):=mr
 have HS:Hid (Shape X N N/\vs.length=N/\X.length=N):=⟨hs,by omega,hlen⟩
 have BL:Hid (∀ (x:Int) w,x=2 * (N:Int)->Calls Tryz.prog 168 #[.int .i64 (N:Int),.int .i64 x] w fun e w'=>∃ v us,e=.returned v/\OwnMat w.heap.size w' v us (List.replicate N (List.replicate (2 * N) 0))/\Sep us/\w.grownBy w' none):=fun x w hx=>by
  obtain rfl:x=((2 * N:Nat):Int):=by omega
  exact blank_any N (2 * N) w (by omega) (by omega)
 clear hN hsm hlen hs mr
 go_enter Tryz.func165,Tryz.ntmps165
 go_wp2_with (go_at_call 168;refine (BL.out _ _ (by first | rfl | (unfold wrap64;omega) | omega)).mono ?_;rintro e w1 ⟨v,us,rfl,om,sp,g1⟩;have OM:Hid (OwnMat w.heap.size w1 v us (List.replicate N (List.replicate (2 * N) 0))):=om;have SP:Hid (Sep us):=sp;have G1:Hid (w.grownBy w1 none):=g1;clear om sp g1)
 obtain⟨p,N2,cap2,rfl,hN2⟩:=OM.out.mat.row.opened
 have HN2:Hid (N2=N):=by have:=OM.out.same;simp at this;show _=_;omega
 clear hN2 BL
 go_loopw [15] (fun ti wr=>∃ (k:Nat),k<=N/\ti=.int .i64 k/\Hid (OwnMat w.heap.size wr (.slice p N2 cap2) us (besTo X N k))/\Hid (w.grownBy wr none)) (fun ti _=>N - (intOf ti).toNat)
 case atStart=>exact⟨0,by omega,rfl,by have h:=OM.out;rw[<- besTo_zero X N] at h;exact h,G1.out⟩
 case round =>
  clear OM G1
  obtain⟨k,hk,rfl,OK,GK⟩:=hrel
  by_cases hlt:k < N
  ·have i1:(k:Int) < (N:Int):=by omega
   have i3:(0:Int)<=(k:Int):=by omega
   have i4:(k:Int) < (N2:Int):=by have:=HN2.out;omega
   obtain⟨b0,off,rfl,hr⟩:=(MR.out.keep GK.out).row.spot (k:=k) (by have:=HS.out.2.1;omega)
   obtain⟨pk,nk,ck,ek,hnk⟩:=((MR.out.keep GK.out).vec k (by have:=HS.out.2.2;omega)).opened
   have KV:Hid (∀ w',w.grownBy w' none->Vec w' (.slice pk nk ck) (X.getD k [])):=fun w' g=>by rw[<- ek];exact (MR.out.keep g).vec k (by have:=HS.out.2.2;omega)
   rw[ek] at hr
   have hkX:k < (besTo X N k).length:=by rw[besTo_len];exact hlt
   obtain⟨g,rfl,hb,hc,hf,q1,q2,q3⟩:=OK.out.place (k:=k) hkX
   clear q1 q2 q3
   have ov:=OK.out.vec k hkX
   rw[besTo_get _ _ _ hlt] at ov
   obtain⟨pu,nu,cu,eu,hnu⟩:=ov.vec.opened
   rw[eu] at hc ov
   simp only[List.length_replicate] at hnu
   obtain⟨gu,rfl,q1,q2,q3,q4,q5,q6⟩:=ov.spot (k:=0) (by simp;omega)
   clear q1 q2 q3 q4 q5 q6
   have hlo:=ov.lo gu rfl
   have hXk:=HS.out.1.row k hlt
   have OV:Hid (Own w.heap.size wr (.slice (some ⟨gu,0,none⟩) nu cu) (List.replicate (2 * N) 0)):=ov
   have ST:Hid (∀ w2,Own w.heap.size w2 (.slice (some ⟨gu,0,none⟩) nu cu) (X.getD k []++(List.replicate (2 * N) 0).drop (X.getD k []).length)->wr.grownBy w2 (some gu) ->
    w2.cell? ⟨g,k,none⟩=some (.slice (some ⟨gu,0,none⟩) nu cu)/\(∃ x:Nat,w2.cell? ⟨gu,N+k,none⟩=some (.int .u8 (x:Int)))/\w2.frozen? ⟨gu,N+k,none⟩=false /\
    OwnMat w.heap.size (w2.setCell ⟨gu,N+k,none⟩ (.int .u8 1)) (.slice (some ⟨g,0,none⟩) N2 cap2) us (besTo X N (k+1))/\w.grownBy (w2.setCell ⟨gu,N+k,none⟩ (.int .u8 1)) none):=fun w2 o2 g2=>by
    have om2:=OK.out.rowSet SP.out hkX (by rw[eu];exact o2) (by rw[eu];exact g2)
    obtain⟨g',e',_,hc',_,_,_,_⟩:=om2.place (k:=k) (by simpa using hkX)
    obtain rfl:g=g':=(by injection e' with e';injection e' with e')
    rw[eu] at hc'
    have hd:(List.replicate (2 * N) 0).drop (X.getD k []).length=List.replicate N 0:=by rw[hXk,List.drop_replicate,show 2 * N - N=N from by omega]
    rw[hd] at o2 om2
    obtain⟨gu',e2,_,hcx,hfx,_,hset,hgrow⟩:=o2.spot (k:=N+k) (by rw[List.length_append,hXk,List.length_replicate];omega)
    obtain rfl:gu=gu':=(by injection e2 with e2;injection e2 with e2)
    have hs1:=hset 1 (by decide)
    rw[List.set_append_right _ _ (by omega),hXk,show N+k - N=k from by omega,idRow_set] at hs1
    have om3:=om2.rowSet SP.out (k:=k) (by simpa using hkX) (by rw[eu];exact hs1) (by rw[eu];exact hgrow _)
    rw[List.set_set,besTo_set] at om3
    exact⟨hc',⟨_,hcx⟩,hfx,om3,grown_new (grown_new GK.out g2 (fun i e=>by have:=Option.some.inj e;omega)) (hgrow _) (fun i e=>by have:=Option.some.inj e;omega)⟩
   have HXK:Hid ((X.getD k []).length=N):=hXk
   have i5:((N:Int)+(k:Int)) < (nu:Int):=by omega
   have hnu510:nu<=510:=by omega
   clear OK eu ov hkX hlo hb hf hXk ek hnk hnu
   go_wp2_with (refine wpList_copy_into rfl _ _ rfl _ _ rfl rfl OV.out (KV.out _ GK.out) (by rw[HXK.out];simp;omega) (by rw[HXK.out];omega) ?_;intro w2 o2 g2;obtain⟨hc2,⟨x2,hx2⟩,hf2,hom,hgg⟩:=ST.out w2 o2 g2;have OM2:Hid (OwnMat w.heap.size (w2.setCell ⟨gu,N+k,none⟩ (.int .u8 1)) (.slice (some ⟨g,0,none⟩) N2 cap2) us (besTo X N (k+1))):=hom;have GG2:Hid (w.grownBy (w2.setCell ⟨gu,N+k,none⟩ (.int .u8 1)) none):=hgg;clear o2 g2 hom hgg hc hr)
   go_roundw
   case rel=>exact⟨k+1,by omega,by go_num,OM2.out,GG2.out⟩
   case measure=>simp[intOf];omega
  ·have hkn:N=k:=by omega
   subst hkn
   go_wp2
   go_ret
   exact⟨_,us,rfl,by have h:=OK.out;rw[besTo_all] at h;exact h,SP.out,GK.out⟩
theorem gb_alloc {a b:World} (h:a.grownBy b none) (o:Obj):a.grownBy (b.alloc o) none:=grown_trans h (World.grownBy_alloc _ _ none)
theorem gb_drew {a b:World} (h:a.grownBy b none):a.grownBy b.drew none:=grown_trans h (grown_drewN _ 1)
theorem gb_setCell {a b:World} (h:a.grownBy b none) {g k:Nat} (hg:a.heap.size<=g) (v:Value):a.grownBy (b.setCell ⟨g,k,none⟩ v) none :=
 grown_new h (row:=some g) ⟨rfl,rfl,rfl,by simp,fun i hi hne=>Below.heap_setCell _ _ _ _ (by simpa using hne)⟩ (fun i e=>by have:=Option.some.inj e;omega)
def powTo (k:Nat):Array Value:=Array.ofFn (n:=255) fun i=>.int .u8 ((if i.1 < k then M.pw i.1 else 0:Nat):Int)
def logTo (k:Nat):Array Value:=Array.ofFn (n:=256) fun i=>.int .u8 ((M.lgTo k i.1:Nat):Int)
theorem powTo_size (k:Nat):(powTo k).size=255:=by simp[powTo]
theorem logTo_size (k:Nat):(logTo k).size=256:=by simp[logTo]
theorem powTo_get (k i:Nat) (h:i < 255):(powTo k)[i]?=some (.int .u8 ((if i < k then M.pw i else 0:Nat):Int)):=by simp[powTo,h]
theorem logTo_get (k i:Nat) (h:i < 256):(logTo k)[i]?=some (.int .u8 ((M.lgTo k i:Nat):Int)):=by simp[logTo,h]
theorem powTo_succ (k:Nat):(powTo k).setIfInBounds k (.int .u8 ((M.pw k:Nat):Int))=powTo (k+1):=by
 apply Array.ext_getElem?
 intro i
 by_cases h:i < 255
 ·rw[powTo_get _ _ h,Array.getElem?_setIfInBounds]
  by_cases hk:k=i
  ·subst hk;simp[powTo_size,h]
  ·rw[if_neg hk,powTo_get _ _ h]
   have:(i < k+1)=(i < k):=by apply propext;omega
   simp[this]
 ·have h1:((powTo k).setIfInBounds k (.int .u8 ((M.pw k:Nat):Int)))[i]?=none:=by simp[powTo_size];omega
  have h2:(powTo (k+1))[i]?=none:=by simp[powTo_size];omega
  rw[h1,h2]
theorem logTo_succ (k:Nat):(logTo k).setIfInBounds (M.pw k) (.int .u8 (k:Int))=logTo (k+1):=by
 apply Array.ext_getElem?
 intro i
 by_cases h:i < 256
 ·rw[logTo_get _ _ h,Array.getElem?_setIfInBounds]
  by_cases hk:M.pw k=i
  ·subst hk;simp[logTo_size,h,M.lgTo]
  ·rw[if_neg hk,logTo_get _ _ h]
   simp[M.lgTo,hk]
 ·have h1:((logTo k).setIfInBounds (M.pw k) (.int .u8 (k:Int)))[i]?=none:=by simp[logTo_size];omega
  have h2:(logTo (k+1))[i]?=none:=by simp[logTo_size];omega
  rw[h1,h2]
theorem zero43 (w:World):(zeroValue 202).run Tryz.prog w=.ok (.agg (powTo 0)) w:=by
 have h:(Tryz.prog.info? 202).map (fun i=>(i.zero,i.size))=some (some (.agg (powTo 0)),255):=by kernel_rfl
 cases hq:Tryz.prog.info? 202 with
 | none=>simp[hq] at h
 | some i=>simp[hq] at h;simp[zeroValue,typeInfo,hq,h.1]
theorem zero44 (w:World):(zeroValue 188).run Tryz.prog w=.ok (.agg (logTo 0)) w:=by
 have h:(Tryz.prog.info? 188).map (fun i=>(i.zero,i.size))=some (some (.agg (logTo 0)),256):=by kernel_rfl
 cases hq:Tryz.prog.info? 188 with
 | none=>simp[hq] at h
 | some i=>simp[hq] at h;simp[zeroValue,typeInfo,hq,h.1]
theorem results_rows2 {P:Program} {fn:Func} {p q:Tmp} {ty tz:TypeId} (h:fn.results=#[.cell p ty,.cell q tz]) (tmps:Array Value) (w:World) (g k:Nat) (t u:TypeId) (cs ds:Array Value) (fr fs:Nat × Nat) (d e:TypeDesc)
 (hp:tmps.getD p undef=.pointer (some ⟨g,0,none⟩)) (hq:tmps.getD q undef=.pointer (some ⟨k,0,none⟩)) (hg:w.heap[g]?=some (.cells cs t fr)) (hk:w.heap[k]?=some (.cells ds u fs))
 (hu:P.underlying ty=some d) (hv:P.underlying tz=some e) (hd:(match d with | .struct _ | .array _ _=>true | _=>false)=true) (he:(match e with | .struct _ | .array _ _=>true | _=>false)=true)
 (hi:(P.info? ty).map (·.size)=some cs.size) (hj:(P.info? tz).map (·.size)=some ds.size) :
 (results fn tmps).run P w=.ok (.tuple #[.agg cs,.agg ds]) w:=by
 have hp':tmps[p]?.getD undef=.pointer (some ⟨g,0,none⟩):=by simpa using hp
 have hq':tmps[q]?.getD undef=.pointer (some ⟨k,0,none⟩):=by simpa using hq
 simp[results,h,hp',hq',asAddr,run_loadVar_row w g t ty cs fr d hg hu hd hi,run_loadVar_row w k u tz ds fs e hk hv he hj]
theorem step_load_row {P:Program} {ops:Array Oper} {o:Oper} {a:Act} {w:World} {K:Act->World->Prop} {Q:Exit->Act->World->Prop} {E:Prop}
 (hgd:o.guard=none) (ty:TypeId) (x:Operand) (ho:o.op=.load ty x) (g:Nat) (hx:a.eval x=.pointer (some ⟨g,0,none⟩)) (t:TypeId) (cs:Array Value) (fr:Nat × Nat) (d:TypeDesc)
 (hg:w.heap[g]?=some (.cells cs t fr)) (hu:P.underlying ty=some d) (hd:(match d with | .struct _ | .array _ _=>true | _=>false)=true) (hi:(P.info? ty).map (·.size)=some cs.size)
 (h:K (a.put o.dst (.agg cs)) w):if Region.wanted o (yielded ops a.tmps)=true then Oper.wp P o a w K Q else E:=by
 rw[if_pos (by simp[Region.wanted,hgd])]
 exact wp_load_row ty x ho g hx t cs fr d hg hu hd hi h
theorem step_store_same {P:Program} {ops:Array Oper} {o:Oper} {a:Act} {w:World} {K:Act->World->Prop} {Q:Exit->Act->World->Prop} {E:Prop}
 (hgd:o.guard=none) (ty:TypeId) (x y:Operand) (ho:o.op=.store ty x y) (g:Nat) (cells:Array Value) (hx:a.eval x=.pointer (some ⟨g,0,none⟩)) (hy:a.eval y=.agg cells)
 (t:TypeId) (hg:w.heap[g]?=some (.cells cells t (0,0))) (hi:(P.info? ty).map (·.size)=some cells.size) (h1:cells.all (·.oneCell')=true)
 (h:K (a.put o.dst undef) w):if Region.wanted o (yielded ops a.tmps)=true then Oper.wp P o a w K Q else E:=by
 rw[if_pos (by simp[Region.wanted,hgd])]
 exact wp_store_row ty x y ho g cells hx hy t cells hg hi rfl h1 (by rw[setRow_self w g cells t (0,0) hg];exact h)
theorem powTo_one (k:Nat):(powTo k).all (·.oneCell')=true:=by
 rw[Array.all_eq_true_iff_forall_mem]
 intro v hv
 obtain⟨i,_,rfl⟩:=Array.mem_ofFn.1 hv
 rfl
theorem logTo_one (k:Nat):(logTo k).all (·.oneCell')=true:=by
 rw[Array.all_eq_true_iff_forall_mem]
 intro v hv
 obtain⟨i,_,rfl⟩:=Array.mem_ofFn.1 hv
 rfl
theorem info43 (k:Nat):(Tryz.prog.info? 202).map (·.size)=some (powTo k).size:=by rw[powTo_size];kernel_rfl
theorem info44 (k:Nat):(Tryz.prog.info? 188).map (·.size)=some (logTo k).size:=by rw[logTo_size];kernel_rfl
set_option maxHeartbeats 800000 in
set_option maxRecDepth 100000 in
theorem tables_any (w:World) :
 Calls Tryz.prog 153 #[] w fun e w'=>e=.returned (.tuple #[.agg (powTo 255),.agg (logTo 255)])/\w.grownBy w' none:=by
 have z43:=zero43
 have z44:=zero44
 go_enter Tryz.func153,Tryz.ntmps153
 go_wp2
 clear z43 z44
 go_loopw [2,4] (fun tp ti wr=>∃ k:Nat,k<=255/\tp=.int .u8 (M.pw k:Nat)/\ti=.int .i64 k/\wr.heap[w.heap.size]?=some (.cells (powTo k) 202 (0,0))/\wr.heap[w.heap.size+1]?=some (.cells (logTo k) 188 (0,0))/\w.grownBy wr none) (fun _ ti _=>255 - (intOf ti).toNat)
 case atStart =>
  refine⟨0,by omega,rfl,rfl,?_,?_,?_⟩
  ·exact heap_alloc2_old w _ _
  ·exact heap_alloc2_new w _ _
  ·exact gb_alloc (gb_alloc (World.grownBy.refl _ _) _) _
 case round =>
  obtain⟨k,hk,rfl,rfl,hp,hl,hG⟩:=hrel
  have HP:Hid (wr.heap[w.heap.size]?=some (.cells (powTo k) 202 (0,0))):=hp
  have HL:Hid (wr.heap[w.heap.size+1]?=some (.cells (logTo k) 188 (0,0))):=hl
  have HG:Hid (w.grownBy wr none):=hG
  have hpw:M.pw k < 256:=M.pw_lt k
  by_cases hlt:k < 255
  ·have hc1:wr.cell? ⟨w.heap.size,k,none⟩=some (.int .u8 ((if k < k then M.pw k else 0:Nat):Int)):=by rw[cell_of_row _ _ _ _ _ _ hp,powTo_get _ _ hlt]
   have hf1:wr.frozen? ⟨w.heap.size,k,none⟩=false:=frozen_of_row _ _ _ _ _ hp
   have hc2:wr.cell? ⟨w.heap.size+1,M.pw k,none⟩=some (.int .u8 ((M.lgTo k (M.pw k):Nat):Int)):=by rw[cell_of_row _ _ _ _ _ _ hl,logTo_get _ _ hpw]
   have hf2:wr.frozen? ⟨w.heap.size+1,M.pw k,none⟩=false:=frozen_of_row _ _ _ _ _ hl
   clear hp hl hG
   go_wp2_with (go_at_call 162;refine (double_any _ _ (by omega) (by omega)).mono ?_;rintro e w' ⟨rfl,rfl⟩)
   go_roundw
   case rel =>
    refine⟨k+1,by omega,rfl,by go_num,?_,?_,?_⟩
    ·rw[heap_setCell_other _ _ _ _ (by simp),heap_setCell_same _ _ _ _ _ _ HP.out,powTo_succ]
    ·rw[heap_setCell_same _ _ _ (logTo k) 188 _ (by rw[heap_setCell_other _ _ _ _ (by simp)];exact HL.out),logTo_succ]
    ·exact gb_setCell (gb_setCell HG.out (by simp) _) (by simp) _
   case measure=>simp[intOf];omega
  ·obtain rfl:k=255:=by omega
   have hG':w.grownBy wr.drew none:=gb_drew hG
   have hp':wr.drew.heap[w.heap.size]?=some (.cells (powTo 255) 202 (0,0)):=hp
   have hl':wr.drew.heap[w.heap.size+1]?=some (.cells (logTo 255) 188 (0,0)):=hl
   clear hp hl hG hpw
   go_wp2_with fail
   refine wp_region_any (by kernel_rfl) ?_
   change wpAny _ _ _ _ _ _ _ (World.drew _)
   generalize wr.drew=wd at *
   have L0:=fun ops o a K Q E h1 h2 h3=>@step_load_row Tryz.prog ops o a wd K Q E h1 202 (.tmp 0) h2 w.heap.size h3 202 (powTo 255) (0,0) _ hp' Tryz.underlying202 rfl (info43 255)
   have L1:=fun ops o a K Q E h1 h2 h3=>@step_load_row Tryz.prog ops o a wd K Q E h1 188 (.tmp 1) h2 (w.heap.size+1) h3 188 (logTo 255) (0,0) _ hl' Tryz.underlying188 rfl (info44 255)
   have S0:=fun ops o a K Q E h1 h2 h3 h4=>@step_store_same Tryz.prog ops o a wd K Q E h1 202 (.tmp 0) (.tmp 17) h2 w.heap.size (powTo 255) h3 h4 202 hp' (info43 255) (powTo_one 255)
   have S1:=fun ops o a K Q E h1 h2 h3 h4=>@step_store_same Tryz.prog ops o a wd K Q E h1 188 (.tmp 1) (.tmp 18) h2 (w.heap.size+1) (logTo 255) h3 h4 188 hl' (info44 255) (logTo_one 255)
   have fin:∀ a:Act,a.defers=[]->a.tmps.getD 0 undef=.pointer (some ⟨w.heap.size,0,none⟩)->a.tmps.getD 1 undef=.pointer (some ⟨w.heap.size+1,0,none⟩)->bodyPost Tryz.prog Tryz.f153 (fun e w'=>e=.returned (.tuple #[.agg (powTo 255),.agg (logTo 255)])/\w.grownBy w' none) .ret a wd:=by
    intro a hd h0 h1
    exact bodyPost_ret (results_rows2 rfl a.tmps wd _ _ 202 188 _ _ _ _ _ _ h0 h1 hp' hl' Tryz.underlying202 Tryz.underlying188 rfl rfl (info43 255) (info44 255)) hd ⟨rfl,hG'⟩
   refine wpAny_ready (rs:=[0,1]) (by kernel_rfl) (by simp) ?_
   refine AllReady.cons rfl (fun K hK=>?_) (AllReady.cons rfl (fun K hK=>?_) AllReady.nil)
   ·refine L0 _ _ _ _ _ _ rfl rfl rfl ?_
    refine hK _ _ ?_
    clear hK K
    refine wpAny_ready (rs:=[1,2]) (by kernel_rfl) (by simp) ?_
    refine AllReady.cons rfl (fun K hK=>?_) (AllReady.cons rfl (fun K hK=>?_) AllReady.nil)
    ·refine L1 _ _ _ _ _ _ rfl rfl rfl ?_
     refine hK _ _ ?_
     clear hK K
     refine wpAny_ready (rs:=[2]) (by kernel_rfl) (by simp) ?_
     refine AllReady.cons rfl (fun K hK=>?_) AllReady.nil
     ·refine S0 _ _ _ _ _ _ rfl rfl rfl rfl ?_
      refine hK _ _ ?_
      clear hK K
      refine wpAny_ready (rs:=[3]) (by kernel_rfl) (by simp) ?_
      refine AllReady.cons rfl (fun K hK=>?_) AllReady.nil
      ·refine S1 _ _ _ _ _ _ rfl rfl rfl rfl ?_
       refine hK _ _ ?_
       clear hK K
       refine wpAny_done (by kernel_rfl) ?_ _
       clear L0 L1 S0 S1 hp' hl' hG'
       go_wp2
       exact fin _ rfl rfl rfl
    ·refine S0 _ _ _ _ _ _ rfl rfl rfl rfl ?_
     refine hK _ _ ?_
     clear hK K
     refine wpAny_ready (rs:=[1]) (by kernel_rfl) (by simp) ?_
     refine AllReady.cons rfl (fun K hK=>?_) AllReady.nil
     ·refine L1 _ _ _ _ _ _ rfl rfl rfl ?_
      refine hK _ _ ?_
      clear hK K
      refine wpAny_ready (rs:=[3]) (by kernel_rfl) (by simp) ?_
      refine AllReady.cons rfl (fun K hK=>?_) AllReady.nil
      ·refine S1 _ _ _ _ _ _ rfl rfl rfl rfl ?_
       refine hK _ _ ?_
       clear hK K
       refine wpAny_done (by kernel_rfl) ?_ _
       clear L0 L1 S0 S1 hp' hl' hG'
       go_wp2
       exact fin _ rfl rfl rfl
   ·refine L1 _ _ _ _ _ _ rfl rfl rfl ?_
    refine hK _ _ ?_
    clear hK K
    refine wpAny_ready (rs:=[0]) (by kernel_rfl) (by simp) ?_
    refine AllReady.cons rfl (fun K hK=>?_) AllReady.nil
    ·refine L0 _ _ _ _ _ _ rfl rfl rfl ?_
     refine hK _ _ ?_
     clear hK K
     refine wpAny_ready (rs:=[2]) (by kernel_rfl) (by simp) ?_
     refine AllReady.cons rfl (fun K hK=>?_) AllReady.nil
     ·refine S0 _ _ _ _ _ _ rfl rfl rfl rfl ?_
      refine hK _ _ ?_
      clear hK K
      refine wpAny_ready (rs:=[3]) (by kernel_rfl) (by simp) ?_
      refine AllReady.cons rfl (fun K hK=>?_) AllReady.nil
      ·refine S1 _ _ _ _ _ _ rfl rfl rfl rfl ?_
       refine hK _ _ ?_
       clear hK K
       refine wpAny_done (by kernel_rfl) ?_ _
       clear L0 L1 S0 S1 hp' hl' hG'
       go_wp2
       exact fin _ rfl rfl rfl
theorem setRow_alloc_past (w:World) (c c':Array Value) (t:TypeId) (B:Obj):((w.alloc (.cells c t)).alloc B).setRow w.heap.size c'=(w.alloc (.cells c' t)).alloc B:=by
 simp only[World.setRow,World.alloc]
 congr 1
 apply Array.ext_getElem?
 intro i
 rw[Array.getElem?_modify]
 by_cases h:w.heap.size=i
 ·subst h
  simp[Array.getElem?_push]
 ·have h':¬ i=w.heap.size:=fun e=>h e.symm
  simp[h,h',Array.getElem?_push]
theorem setRow_alloc_last (w:World) (A:Obj) (c c':Array Value) (t:TypeId):((w.alloc A).alloc (.cells c t)).setRow (w.heap.size+1) c'=(w.alloc A).alloc (.cells c' t):=by
 have h:=World.setRow_alloc_new (w.alloc A) c c' t
 rwa [World.size_alloc] at h
theorem mem_one {c:Array Value} (h:c.all (·.oneCell')=true):∀ v ∈ c.toList,v.oneCell'=true:=by
 intro v hv
 exact (Array.all_eq_true_iff_forall_mem.1 h) v (by simpa using hv)
theorem store43 (w:World) (B:Obj):(storeCells ⟨w.heap.size,0,none⟩ (powTo 255).toList).run Tryz.prog ((w.alloc (.cells (powTo 0) 202)).alloc B)=.ok () ((w.alloc (.cells (powTo 255) 202)).alloc B):=by
 have:=run_storeCells_from (P:=Tryz.prog) w.heap.size 202 (powTo 255).toList 0 (powTo 0) ((w.alloc (.cells (powTo 0) 202)).alloc B) (heap_alloc2_old w _ _) (by simp[powTo_size]) (mem_one (powTo_one 255))
 simpa [setRow_alloc_past] using this
theorem store44 (w:World) (A:Obj):(storeCells ⟨w.heap.size+1,0,none⟩ (logTo 255).toList).run Tryz.prog ((w.alloc A).alloc (.cells (logTo 0) 188))=.ok () ((w.alloc A).alloc (.cells (logTo 255) 188)):=by
 have:=run_storeCells_from (P:=Tryz.prog) (w.heap.size+1) 188 (logTo 255).toList 0 (logTo 0) ((w.alloc A).alloc (.cells (logTo 0) 188)) (heap_alloc2_new w _ _) (by simp[logTo_size]) (mem_one (logTo_one 255))
 simpa [setRow_alloc_last] using this
theorem log_get (n:Nat) (h:n < 256):(logTo 255)[n]?=some (.int .u8 ((M.lg n:Nat):Int)):=logTo_get 255 n h
theorem pow_get (n:Nat) (h:n < 255):(powTo 255)[n]?=some (.int .u8 ((M.pw n:Nat):Int)):=by rw[powTo_get 255 n h,if_pos h]
theorem inv_zero (w:World) :
 Calls Tryz.prog 142 #[.int .u8 0] w fun e w'=>e=.returned (.tuple #[.int .u8 0,.int .i64 1])/\w'=w:=by
 go_enter Tryz.func142,Tryz.ntmps142
 go_wp2
 go_ret2
 exact⟨rfl,rfl⟩
set_option maxHeartbeats 800000 in
set_option maxRecDepth 100000 in
theorem inv_any (x:Int) (w:World) (h0:0 < x) (h1:x < 256) :
 Calls Tryz.prog 142 #[.int .u8 x] w fun e w'=>e=.returned (.tuple #[.int .u8 ((M.inv x.toNat:Nat):Int),.int .i64 0])/\w.grownBy w' none:=by
 obtain⟨n,rfl⟩:=Int.eq_ofNat_of_zero_le (Int.le_of_lt h0)
 have hg:=log_get n (by omega)
 have hl:=M.lg_lt n
 have hr:∀ w,Calls Tryz.prog 154 #[.int .i64 (-((M.lg n:Nat):Int))] w fun e w'=>e=.returned (.int .i64 (((255 - M.lg n) % 255:Nat):Int))/\w'=w:=fun w =>
  (round_any _ w).mono fun e w' ⟨h,k⟩=>⟨by rw[h];exact ret_int (by omega),k⟩
 have hg2:=pow_get ((255 - M.lg n) % 255) (by omega)
 have hb:(((255 - M.lg n) % 255:Nat):Int) < 255:=by omega
 generalize hq:(255 - M.lg n) % 255=q at hr hg2 hb
 have HQ:Hid ((255 - M.lg n) % 255=q):=hq
 clear hq
 have z43:=zero43
 have z44:=zero44
 have s43:=store43
 have s44:=store44
 have p43:=powTo_size 255
 have p44:=logTo_size 255
 go_enter Tryz.func142,Tryz.ntmps142
 go_wp2_with (first | (go_at_call 153;refine (tables_any _).mono ?_;rintro e w1 ⟨rfl,hG⟩;have HG:Hid (w.grownBy w1 none):=hG;clear hG) | (go_at_call 154;refine (hr _).mono ?_;rintro e w1 ⟨rfl,rfl⟩))
 go_ret2
 exact⟨by rw[<- HQ.out];rfl,gb_alloc (gb_alloc HG.out _) _⟩
def prodTo (c k:Nat):Array Value:=Array.ofFn (n:=256) fun i=>.int .u8 ((if i.1 < k then M.mul c i.1 else 0:Nat):Int)
theorem prodTo_size (c k:Nat):(prodTo c k).size=256:=by simp[prodTo]
theorem prodTo_get (c k i:Nat) (h:i < 256):(prodTo c k)[i]?=some (.int .u8 ((if i < k then M.mul c i else 0:Nat):Int)):=by simp[prodTo,h]
theorem prodTo_succ (c k:Nat):(prodTo c k).setIfInBounds k (.int .u8 ((M.mul c k:Nat):Int))=prodTo c (k+1):=by
 apply Array.ext_getElem?
 intro i
 by_cases h:i < 256
 ·rw[prodTo_get _ _ _ h,Array.getElem?_setIfInBounds]
  by_cases hk:k=i
  ·subst hk;simp[prodTo_size,h]
  ·rw[if_neg hk,prodTo_get _ _ _ h]
   have:(i < k+1)=(i < k):=by apply propext;omega
   simp[this]
 ·have h1:((prodTo c k).setIfInBounds k (.int .u8 ((M.mul c k:Nat):Int)))[i]?=none:=by simp[prodTo_size];omega
  have h2:(prodTo c (k+1))[i]?=none:=by simp[prodTo_size];omega
  rw[h1,h2]
theorem prodTo_zero (c:Nat):logTo 0=prodTo c 1:=by
 apply Array.ext_getElem?
 intro i
 by_cases h:i < 256
 ·rw[prodTo_get _ _ _ h,logTo_get _ _ h]
  by_cases e:i=0
  ·subst e;simp[M.lgTo,M.mul_zero]
  ·rw[if_neg (by omega)];rfl
 ·have h1:(logTo 0)[i]?=none:=by simp[logTo_size];omega
  have h2:(prodTo c 1)[i]?=none:=by simp[prodTo_size];omega
  rw[h1,h2]
theorem prodTo_one (c k:Nat):(prodTo c k).all (·.oneCell')=true:=by
 rw[Array.all_eq_true_iff_forall_mem]
 intro v hv
 obtain⟨i,_,rfl⟩:=Array.mem_ofFn.1 hv
 rfl
theorem infoP (c k:Nat):(Tryz.prog.info? 188).map (·.size)=some (prodTo c k).size:=by rw[prodTo_size];kernel_rfl
theorem bit_or:∀ p,p < 8->∀ b,b < 2 ^ p->2 ^ p ^^^ b=2 ^ p+b:=by decide
theorem bit_le:∀ p,p < 8->2 ^ p<=128:=by decide
set_option maxHeartbeats 800000 in
set_option maxRecDepth 100000 in
theorem products_any (c:Nat) (w:World) (hc:c < 256) :
 Calls Tryz.prog 140 #[.int .u8 (c:Int)] w fun e w'=>e=.returned (.agg (prodTo c 256))/\w.grownBy w' none:=by
 have z44:=zero44
 go_enter Tryz.func140,Tryz.ntmps140
 go_wp2
 clear z44
 go_loopw [7] (fun ti wr=>∃ p:Nat,p<=8/\ti=.int .i64 p/\wr.heap[w.heap.size]?=some (.cells (prodTo c (2 ^ p)) 188 (0,0))/\w.grownBy wr none) (fun ti _=>8 - (intOf ti).toNat)
 case atStart =>
  refine⟨0,by omega,rfl,?_,gb_alloc (World.grownBy.refl _ _) _⟩
  rw[show prodTo c (2 ^ 0)=logTo 0 from (prodTo_zero c).symm]
  exact heap_alloc_new w _
 case round =>
  obtain⟨p,hp,rfl,hm,hG⟩:=hrel
  obtain⟨wa,hwa⟩:∃ wa,wa=wr:=⟨wr,rfl⟩
  subst hwa
  have HM:Hid (wa.heap[w.heap.size]?=some (.cells (prodTo c (2 ^ p)) 188 (0,0))):=hm
  have HG:Hid (w.grownBy wa none):=hG
  clear hm hG
  by_cases hlt:p < 8
  ·have hb:=bit_le p hlt
   have hpos:0 < 2 ^ p:=Nat.two_pow_pos p
   have HB:Hid (∀ b,b < 2 ^ p->2 ^ p ^^^ b=2 ^ p+b):=bit_or p hlt
   have HS:Hid (2 ^ (p+1)=2 ^ p+2 ^ p):=by show _=_;rw[Nat.pow_succ];omega
   have hcast:((2:Int) ^ p)=((2 ^ p:Nat):Int):=by simp
   have hw:wrap64 ((2:Int) ^ p)=((2 ^ p:Nat):Int):=by rw[hcast];exact wrap_small _ (by omega) (by omega)
   clear hcast
   generalize 2 ^ p=Q at *
   have HMUL:Hid (∀ w,Calls Tryz.prog 152 #[.int .u8 (c:Int),.int .u8 (Q:Int)] w fun e w'=>e=.returned (.int .u8 ((M.mul c Q:Nat):Int))/\w'=w):=fun w =>
    (mul_any _ _ w (by omega) (by omega) (by omega) (by omega)).mono fun e w' ⟨h,k⟩=>⟨h,k⟩
   have hpc:M.mul c Q < 256:=M.mul_lt _ hc
   have HPC:Hid (∀ b,b < Q->M.mul c Q ^^^ M.mul c b=M.mul c (Q+b)):=fun b hb'=>by rw[<- HB.out b hb',MX.mul_xor_right hc (by omega) (by omega)]
   generalize hPC:M.mul c Q=PC at *
   clear HB hPC
   go_wp2_with (go_at_call 152;refine (HMUL.out _).mono ?_;rintro e w1 ⟨rfl,hw1⟩;obtain rfl:=hw1.symm;clear hw1)
   clear HMUL hw
   go_loopw [17] (fun ti wr=>∃ b:Nat,b<=Q/\ti=.int .i64 b/\Hid (wr.heap[w.heap.size]?=some (.cells (prodTo c (Q+b)) 188 (0,0)))/\Hid (w.grownBy wr none)) (fun ti _=>Q - (intOf ti).toNat)
   case atStart =>
    refine⟨0,by omega,rfl,?_,?_⟩
    ·rw[Nat.add_zero];exact HM
    ·exact HG
   case round =>
    clear HM HG
    obtain⟨b,hbQ,rfl,HM,HG⟩:=hrel
    by_cases hbl:b < Q
    ·have i1:(b:Int) < (Q:Int):=by omega
     have i2:(Q:Int)+(b:Int) < 256:=by omega
     have hwr:wrap64 ((Q:Int)+(b:Int))=((Q+b:Nat):Int):=by rw[<- Int.natCast_add];exact wrap_small _ (by omega) (by omega)
     have mb:M.mul c b < 256:=M.mul_lt _ hc
     have hc1:wr.cell? ⟨w.heap.size,b,none⟩=some (.int .u8 ((M.mul c b:Nat):Int)):=by rw[cell_of_row _ _ _ _ _ _ HM.out,prodTo_get _ _ _ (by omega),if_pos (by omega)]
     have hc2:wr.cell? ⟨w.heap.size,Q+b,none⟩=some (.int .u8 ((0:Nat):Int)):=by rw[cell_of_row _ _ _ _ _ _ HM.out,prodTo_get _ _ _ (by omega),if_neg (by omega)]
     have hf2:wr.frozen? ⟨w.heap.size,Q+b,none⟩=false:=frozen_of_row _ _ _ _ _ HM.out
     have HADD:Hid (∀ w,Calls Tryz.prog 141 #[.int .u8 (PC:Int),.int .u8 ((M.mul c b:Nat):Int)] w fun e w'=>e=.returned (.int .u8 ((M.mul c (Q+b):Nat):Int))/\w'=w):=fun w =>
      (add_any _ _ w (by omega) (by omega) (by omega) (by omega)).mono fun e w' ⟨h,k⟩=>⟨by rw[h];exact ret_int (by rw[<- HPC.out b hbl];rfl),k⟩
     have HN:Hid ((wr.setCell ⟨w.heap.size,Q+b,none⟩ (.int .u8 ((M.mul c (Q+b):Nat):Int))).heap[w.heap.size]?=some (.cells (prodTo c (Q+(b+1))) 188 (0,0))):=by
      show _=_
      rw[heap_setCell_same _ _ _ _ _ _ HM.out,prodTo_succ,Nat.add_assoc]
     have HGN:Hid (w.grownBy (wr.setCell ⟨w.heap.size,Q+b,none⟩ (.int .u8 ((M.mul c (Q+b):Nat):Int))) none):=gb_setCell HG.out (by simp) _
     generalize M.mul c (Q+b)=PQ at *
     generalize M.mul c b=PB at *
     clear HM HG
     go_wp2_with (go_at_call 141;refine (HADD.out _).mono ?_;rintro e w1 ⟨rfl,hw1⟩;obtain rfl:=hw1.symm;clear hw1)
     go_roundw
     case rel=>exact⟨b+1,by omega,by go_num,HN,HGN⟩
     case measure=>simp[intOf];omega
    ·obtain rfl:b=Q:=by omega
     have HM':=HM.out
     rw[<- HS.out] at HM'
     have HMM:Hid (wr.heap[w.heap.size]?=some (.cells (prodTo c (2 ^ (p+1))) 188 (0,0))):=HM'
     clear HM' HM
     go_wp2
     go_roundw
     case rel=>exact⟨p+1,by omega,by go_num,HMM.out,HG.out⟩
     case measure=>simp[intOf];omega
  ·obtain rfl:p=8:=by omega
   have hp':wa.heap[w.heap.size]?=some (.cells (prodTo c 256) 188 (0,0)):=HM.out
   clear HM
   have HG':Hid (w.grownBy wa none):=HG
   clear HG
   go_wp2
   refine wp_load_row 188 (.tmp 2) rfl w.heap.size rfl 188 (prodTo c 256) (0,0) _ hp' Tryz.underlying188 rfl (infoP c 256) ?_
   have s44:(storeCells ⟨w.heap.size,0,none⟩ (prodTo c 256).toList).run Tryz.prog wa=.ok () wa:=by
    have:=run_storeCells_from (P:=Tryz.prog) w.heap.size 188 (prodTo c 256).toList 0 (prodTo c 256) wa hp' (by simp[prodTo_size]) (mem_one (prodTo_one c 256))
    simpa [setRow_self wa w.heap.size (prodTo c 256) 188 (0,0) hp'] using this
   have p44:=prodTo_size c 256
   have HP:Hid (wa.heap[w.heap.size]?=some (.cells (prodTo c 256) 188 (0,0))):=hp'
   have HI:Hid ((Tryz.prog.info? 188).map (·.size)=some (prodTo c 256).size):=infoP c 256
   obtain⟨AR,hAR⟩:∃ AR,AR=prodTo c 256:=⟨_,rfl⟩
   rw[<- hAR] at hp' s44 p44 HP HI
   rw[<- hAR]
   have HAR:Hid (AR=prodTo c 256):=hAR
   clear hp' hAR
   go_wp2
   exact bodyPost_ret (results_cell_row rfl _ wa w.heap.size 188 AR (0,0) _ rfl HP.out Tryz.underlying188 rfl HI.out) rfl ⟨by rw[HAR.out],HG'.out⟩
end Go.Proofs.YtaalagkbpeinkaaGreat
namespace Go.Proofs.YtaalagkbpeinkaaGreat
namespace MX
def ls (f:Nat->Nat):List Nat->Nat
 | []=>0
 | y :: Y=>f y ^^^ ls f Y
theorem ls_lt {f:Nat->Nat}:∀ {Y:List Nat},(∀ y ∈ Y,f y < 256)->ls f Y < 256
 | [],_=>by simp[ls]
 | y :: Y,h=>M.xor_lt (h y (by simp)) (ls_lt fun z hz=>h z (by simp[hz]))
theorem ls_congr {f g:Nat->Nat}:∀ {Y:List Nat},(∀ y ∈ Y,f y=g y)->ls f Y=ls g Y
 | [],_=>rfl
 | y :: Y,h=>by
   show f y ^^^ ls f Y=g y ^^^ ls g Y
   rw[h y (by simp),ls_congr fun z hz=>h z (by simp[hz])]
theorem ls_xor (f g:Nat->Nat):∀ Y,ls f Y ^^^ ls g Y=ls (fun y=>f y ^^^ g y) Y
 | []=>Nat.xor_self 0
 | y :: Y=>by
   show (f y ^^^ ls f Y) ^^^ (g y ^^^ ls g Y)=(f y ^^^ g y) ^^^ ls (fun y=>f y ^^^ g y) Y
   rw[xor4,ls_xor f g Y]
theorem ls_mul {f:Nat->Nat} {a:Nat} (ha:a < 256):∀ {Y:List Nat},(∀ y ∈ Y,f y < 256)->M.mul a (ls f Y)=ls (fun y=>M.mul a (f y)) Y
 | [],_=>M.mul_zero a
 | y :: Y,h=>by
   show M.mul a (f y ^^^ ls f Y)=M.mul a (f y) ^^^ ls (fun y=>M.mul a (f y)) Y
   rw[mul_xor_right ha (h y (by simp)) (ls_lt fun z hz=>h z (by simp[hz])),ls_mul ha fun z hz=>h z (by simp[hz])]
theorem ls_zero {f:Nat->Nat}:∀ {Y:List Nat},(∀ y ∈ Y,f y=0)->ls f Y=0
 | [],_=>rfl
 | y :: Y,h=>by
   show f y ^^^ ls f Y=0
   rw[h y (by simp),ls_zero fun z hz=>h z (by simp[hz]),Nat.xor_self]
theorem ls_app (f:Nat->Nat):∀ A B,ls f (A++B)=ls f A ^^^ ls f B
 | [],B=>by show ls f B=0 ^^^ ls f B;rw[Nat.zero_xor]
 | a :: A,B=>by
   show f a ^^^ ls f (A++B)=(f a ^^^ ls f A) ^^^ ls f B
   rw[ls_app f A B,Nat.xor_assoc]
theorem xs_ls (f:Nat->Nat):∀ n,xs f n=ls f (List.range n)
 | 0=>rfl
 | n+1=>by
   rw[List.range_succ,ls_app,<- xs_ls f n]
   show xs f n ^^^ f n=xs f n ^^^ (f n ^^^ 0)
   rw[Nat.xor_zero]
theorem ls_filter {f:Nat->Nat} {p:Nat->Bool}:∀ {Y:List Nat},(∀ y ∈ Y,p y=false->f y=0)->ls f Y=ls f (Y.filter p)
 | [],_=>rfl
 | y :: Y,h=>by
   have ih:=ls_filter (f:=f) (p:=p) (Y:=Y) fun z hz=>h z (by simp[hz])
   by_cases e:p y=true
   ·rw[List.filter_cons_of_pos e]
    show f y ^^^ ls f Y=f y ^^^ ls f (Y.filter p)
    rw[ih]
   ·rw[List.filter_cons_of_neg (by simpa using e),<- ih]
    show f y ^^^ ls f Y=ls f Y
    rw[h y (by simp) (by simpa using e),Nat.zero_xor]
theorem xor_ne {a b:Nat} (h:a ≠ b):0 < a ^^^ b:=by
 rcases Nat.eq_zero_or_pos (a ^^^ b) with e | e
 ·refine absurd ?_ h
  rw[<- Nat.xor_zero a,<- Nat.xor_self b,<- Nat.xor_assoc,e,Nat.zero_xor]
 ·exact e
theorem xor_eq {a b:Nat} (h:a ^^^ b=0):a=b:=by
 rw[<- Nat.xor_zero a,<- Nat.xor_self b,<- Nat.xor_assoc,h,Nat.zero_xor]
theorem xor_mid (x y z:Nat):x ^^^ z=(x ^^^ y) ^^^ (y ^^^ z):=by
 rw[Nat.xor_assoc,<- Nat.xor_assoc y y z,Nat.xor_self,Nat.zero_xor]
theorem cancel {a v:Nat} (ha:a < 256) (h0:0 < a) (hv:v < 256):M.mul a (M.mul v (M.inv a))=v:=by
 rw[M.mul_comm hv (M.inv_lt a),<- M.mul_assoc ha (M.inv_lt a) hv,M.mul_inv ha h0,M.one_mul hv]
theorem turn {b v i:Nat} (hb:b < 256) (hv:v < 256) (hi:i < 256):M.mul b (M.mul v i)=M.mul (M.mul v b) i:=by
 rw[<- M.mul_assoc hb hv hi,M.mul_comm hb hv]
theorem inv_sum {a b:Nat} (ha:a < 256) (hb:b < 256) (a0:0 < a) (b0:0 < b):M.inv a ^^^ M.inv b=M.mul (a ^^^ b) (M.mul (M.inv b) (M.inv a)):=by
 rw[M.mul_xor _ ha hb,cancel ha a0 (M.inv_lt b),M.mul_comm (M.inv_lt b) (M.inv_lt a),cancel hb b0 (M.inv_lt a),Nat.xor_comm]
theorem zero_of {a b:Nat} (ha:a < 256) (hb:b < 256) (b0:0 < b) (h:M.mul a b=0):a=0:=by
 rcases Nat.eq_zero_or_pos a with e | e
 ·exact e
 ·have:=M.mul_pos ha hb e b0
  omega
theorem inv_pos {a:Nat}:0 < M.inv a:=M.pw_pos _
theorem cauchy:∀ (Y X:List Nat) (v:Nat->Nat),Y.Nodup->X.Nodup->Y.length<=X.length->(∀ y ∈ Y,y < 256)->(∀ x ∈ X,x < 256)->(∀ x ∈ X,∀ y ∈ Y,x ≠ y)->(∀ y ∈ Y,v y < 256) ->
 (∀ x ∈ X,ls (fun y=>M.mul (v y) (M.inv (x ^^^ y))) Y=0)->∀ y ∈ Y,v y=0
 | [],_,_,_,_,_,_,_,_,_,_=>by simp
 | y0 :: Y,[],_,_,_,hl,_,_,_,_,_=>by simp at hl
 | y0 :: Y,x1 :: X,v,hY,hX,hl,sy,sx,ne,sv,heq=>by
   have hY':=List.nodup_cons.1 hY
   have hX':=List.nodup_cons.1 hX
   have by0:y0 < 256:=sy y0 (by simp)
   have vy0:v y0 < 256:=sv y0 (by simp)
   have bx1:x1 < 256:=sx x1 (by simp)
   have bY:∀ y ∈ Y,y < 256:=fun y h=>sy y (by simp[h])
   have bV:∀ y ∈ Y,v y < 256:=fun y h=>sv y (by simp[h])
   have bU:∀ y ∈ Y,M.mul (v y) (y ^^^ y0) < 256:=fun y h=>M.mul_lt _ (bV y h)
   have A:∀ x ∈ x1 :: X,(v y0 ^^^ ls v Y) ^^^ ls (fun y=>M.mul (M.mul (v y) (y ^^^ y0)) (M.inv (x ^^^ y))) Y=0:=by
    intro x hx
    have bx:=sx x hx
    have b0:=M.xor_lt bx by0
    have p0:=xor_ne (ne x hx y0 (by simp))
    have e:=congrArg (M.mul (x ^^^ y0)) (heq x hx)
    rw[M.mul_zero] at e
    change M.mul (x ^^^ y0) (M.mul (v y0) (M.inv (x ^^^ y0)) ^^^ ls (fun y=>M.mul (v y) (M.inv (x ^^^ y))) Y)=0 at e
    rw[mul_xor_right b0 (M.mul_lt _ vy0) (ls_lt fun y h=>M.mul_lt _ (bV y h)),cancel b0 p0 vy0,ls_mul b0 (fun y h=>M.mul_lt _ (bV y h))] at e
    rw[Nat.xor_assoc,ls_xor]
    rw[<- e]
    congr 1
    refine ls_congr fun y h=>?_
    have b1:=M.xor_lt bx (bY y h)
    have b2:=M.xor_lt (bY y h) by0
    rw[xor_mid x y y0,M.mul_xor _ b1 b2,cancel b1 (xor_ne (ne x hx y (by simp[h]))) (bV y h),turn b2 (bV y h) (M.inv_lt _)]
   have B:∀ x ∈ X,ls (fun y=>M.mul (M.mul (M.mul (v y) (y ^^^ y0)) (M.inv (x1 ^^^ y))) (M.inv (x ^^^ y))) Y=0:=by
    intro x hx
    have bx:=sx x (by simp[hx])
    have nx:x ≠ x1:=fun e=>hX'.1 (e ▸ hx)
    have b0:=M.xor_lt bx bx1
    have p0:=xor_ne nx
    have e1:=A x (by simp[hx])
    have e2:=A x1 (by simp)
    have e3:ls (fun y=>M.mul (M.mul (v y) (y ^^^ y0)) (M.inv (x ^^^ y))) Y=ls (fun y=>M.mul (M.mul (v y) (y ^^^ y0)) (M.inv (x1 ^^^ y))) Y:=(xor_eq e1).symm.trans (xor_eq e2)
    have e4:M.mul (ls (fun y=>M.mul (M.mul (M.mul (v y) (y ^^^ y0)) (M.inv (x1 ^^^ y))) (M.inv (x ^^^ y))) Y) (x ^^^ x1)=0:=by
     rw[M.mul_comm (ls_lt fun y h=>M.mul_lt _ (M.mul_lt _ (bU y h))) b0,ls_mul b0 (fun y h=>M.mul_lt _ (M.mul_lt _ (bU y h)))]
     rw[<- Nat.xor_self (ls (fun y=>M.mul (M.mul (v y) (y ^^^ y0)) (M.inv (x1 ^^^ y))) Y)]
     conv=>rhs;lhs;rw[<- e3]
     rw[ls_xor]
     refine ls_congr fun y h=>?_
     have b1:=M.xor_lt bx (bY y h)
     have b2:=M.xor_lt bx1 (bY y h)
     have p1:=xor_ne (ne x (by simp[hx]) y (by simp[h]))
     have p2:=xor_ne (ne x1 (by simp) y (by simp[h]))
     have hs:x ^^^ x1=(x ^^^ y) ^^^ (x1 ^^^ y):=by rw[xor_mid x y x1,Nat.xor_comm y x1]
     rw[<- mul_xor_right (bU y h) (M.inv_lt _) (M.inv_lt _),inv_sum b1 b2 p1 p2,<- hs,M.mul_assoc (bU y h) (M.inv_lt _) (M.inv_lt _),turn b0 (bU y h) (M.mul_lt _ (M.inv_lt _)),M.mul_assoc (bU y h) b0 (M.mul_lt _ (M.inv_lt _))]
    exact zero_of (ls_lt fun y h=>M.mul_lt _ (M.mul_lt _ (bU y h))) b0 p0 e4
   have ih:=cauchy Y X (fun y=>M.mul (M.mul (v y) (y ^^^ y0)) (M.inv (x1 ^^^ y))) hY'.2 hX'.2 (by simpa using hl) bY (fun x h=>sx x (by simp[h])) (fun x hx y hy=>ne x (by simp[hx]) y (by simp[hy])) (fun y h=>M.mul_lt _ (bU y h)) B
   have hv:∀ y ∈ Y,v y=0:=fun y h=>by
    have e:=zero_of (bU y h) (M.inv_lt _) inv_pos (ih y h)
    exact zero_of (bV y h) (M.xor_lt (bY y h) by0) (xor_ne fun c=>hY'.1 (c ▸ h)) e
   intro y hy
   rcases List.mem_cons.1 hy with rfl | h
   ·have e:=heq x1 (by simp)
    change M.mul (v y) (M.inv (x1 ^^^ y)) ^^^ ls (fun y=>M.mul (v y) (M.inv (x1 ^^^ y))) Y=0 at e
    rw[ls_zero (fun z hz=>by rw[hv z hz,M.zero_mul]),Nat.xor_zero] at e
    exact zero_of vy0 (M.inv_lt _) inv_pos e
   ·exact hv y h
theorem nodup_len:∀ (A B:List Nat),A.Nodup->(∀ a ∈ A,a ∈ B)->A.length<=B.length
 | [],_,_,_=>by simp
 | a :: A,B,h,hs=>by
   have h':=List.nodup_cons.1 h
   have hm:a ∈ B:=hs a (by simp)
   have:=nodup_len A (B.erase a) h'.2 fun x hx=>(List.mem_erase_of_ne (fun (e:x=a)=>h'.1 (e ▸ hx))).2 (hs x (by simp[hx]))
   rw[List.length_erase_of_mem hm] at this
   have:0 < B.length:=List.length_pos_of_mem hm
   simp only[List.length_cons]
   omega
theorem filter_two (p:Nat->Bool) (l:List Nat):(l.filter p).length+(l.filter fun x=>!p x).length=l.length:=by
 induction l with
 | nil=>rfl
 | cons a l ih =>
   by_cases e:p a=true
   ·simp only[List.filter_cons,e,if_true,Bool.not_true,Bool.false_eq_true,if_false,List.length_cons];omega
   ·have e':p a=false:=by simpa using e
    simp only[List.filter_cons,e',if_true,Bool.not_false,Bool.false_eq_true,if_false,List.length_cons];omega
theorem nodup_range (n:Nat):(List.range n).Nodup:=List.nodup_range
theorem nodup_map {k:Nat} {r:Nat->Nat} (inj:∀ i j,i < k->j < k->r i=r j->i=j):((List.range k).map r).Nodup:=by
 refine List.pairwise_map.2 ((nodup_range k).imp_of_mem ?_)
 intro a b ha hb hne e
 exact hne (inj a b (List.mem_range.1 ha) (List.mem_range.1 hb) e)
def gen (k i j:Nat):Nat:=if i < k then one i j else M.inv (i ^^^ j)
theorem gen_lt (k i j:Nat):gen k i j < 256:=by
 unfold gen
 split
 ·unfold one;split <;> decide
 ·exact M.inv_lt _
theorem gen_kernel {k n:Nat} (hn:n<=255) (r:Nat->Nat) (hr:∀ i,i < k->r i < n) (inj:∀ i j,i < k->j < k->r i=r j->i=j) (hkn:k<=n) (v:Nat->Nat) (hv:∀ j,j < k->v j < 256)
 (h:∀ i,i < k->xs (fun j=>M.mul (gen k (r i) j) (v j)) k=0):∀ j,j < k->v j=0:=by
 have hlow:∀ i,i < k->r i < k->v (r i)=0:=fun i hi hrk=>by
  have e:=h i hi
  rw[xs_one (p:=r i) hrk (fun j hj hne=>by unfold gen;rw[if_pos hrk];unfold one;rw[if_neg (fun c=>hne c.symm),M.zero_mul])] at e
  unfold gen at e
  rw[if_pos hrk] at e
  unfold one at e
  rw[if_pos rfl,M.one_mul (hv _ hrk)] at e
  exact e
 have nd:=nodup_map inj
 have two1:=filter_two (fun x=>decide (x < k)) ((List.range k).map r)
 have two2:=filter_two (fun x=>decide (x ∈ (List.range k).map r)) (List.range k)
 have le:=nodup_len (((List.range k).map r).filter fun x=>decide (x < k)) ((List.range k).filter fun x=>decide (x ∈ (List.range k).map r)) (nd.filter _) (by
  intro a ha
  have:=List.mem_filter.1 ha
  refine List.mem_filter.2 ⟨List.mem_range.2 (by simpa using this.2),by simpa using this.1⟩)
 simp only[List.length_map,List.length_range] at two1 two2
 have main:=cauchy ((List.range k).filter fun x=>!decide (x ∈ (List.range k).map r)) (((List.range k).map r).filter fun x=>!decide (x < k)) v ((nodup_range k).filter _) (nd.filter _) (by omega)
  (fun y hy=>by have:=List.mem_range.1 (List.mem_filter.1 hy).1;omega)
  (fun x hx=>by
    obtain⟨i,hi,rfl⟩:=List.mem_map.1 (List.mem_filter.1 hx).1
    have:=hr i (List.mem_range.1 hi)
    omega)
  (fun x hx y hy e=>by
    have a:=(List.mem_filter.1 hx).2
    have b:=List.mem_range.1 (List.mem_filter.1 hy).1
    simp at a
    omega)
  (fun y hy=>hv y (List.mem_range.1 (List.mem_filter.1 hy).1))
  (fun x hx=>by
    obtain⟨i,hi,rfl⟩:=List.mem_map.1 (List.mem_filter.1 hx).1
    have hi':=List.mem_range.1 hi
    have hk:¬ r i < k:=by have:=(List.mem_filter.1 hx).2;simpa using this
    have e:=h i hi'
    rw[xs_ls,ls_filter (p:=fun x=>!decide (x ∈ (List.range k).map r))] at e
    ·rw[<- e]
     refine ls_congr fun y hy=>?_
     have hy':=List.mem_range.1 (List.mem_filter.1 hy).1
     show _=M.mul (gen k (r i) y) (v y)
     unfold gen
     rw[if_neg hk,M.mul_comm (hv y hy') (M.inv_lt _)]
    ·intro y hy hp
     have hy':=List.mem_range.1 hy
     have hm:y ∈ (List.range k).map r:=by simpa using hp
     obtain⟨t,ht,rfl⟩:=List.mem_map.1 hm
     show M.mul _ (v (r t))=0
     rw[hlow t (List.mem_range.1 ht) hy',M.mul_zero])
 intro j hj
 by_cases e:j ∈ (List.range k).map r
 ·obtain⟨t,ht,rfl⟩:=List.mem_map.1 e
  exact hlow t (List.mem_range.1 ht) hj
 ·exact main j (List.mem_filter.2 ⟨List.mem_range.2 hj,by simp only[e,decide_false,Bool.not_false]⟩)
def Kernel (n:Nat) (m:Nat->Nat->Nat):Prop:=∃ v:Nat->Nat,(∀ j,j < n->v j < 256)/\(∃ j,j < n/\v j ≠ 0)/\∀ i,i < n->xs (fun j=>M.mul (m i j) (v j)) n=0
theorem Struck.clear {n i:Nat} {m:Nat->Nat->Nat} (hi:i < n) {a b:Nat->Nat->Nat} (h:Struck n m a b) (l:Low n i a) (one1:a i i=1):∀ t,t<=n->∃ a b,Struck n m a b/\Low n i a/\a i i=1/\∀ r,r < t->r ≠ i->a r i=0
 | 0,_=>⟨a,b,h,l,one1,fun r hr=>by omega⟩
 | t+1,ht=>by
   obtain⟨a,b,h,l,o,z⟩:=Struck.clear hi h l one1 t (by omega)
   by_cases e:t=i\/a t i=0
   ·refine⟨a,b,h,l,o,fun r hr hne=>?_⟩
    by_cases c:r=t
    ·subst c
     rcases e with e | e
     ·exact absurd e hne
     ·exact e
    ·exact z r (by omega) hne
   ·have e1:t ≠ i:=fun c=>e (.inl c)
    have s256:a t i < 256:=h.sa t i (by omega) hi
    refine⟨_,_,h.strike (k:=t) (s:=i) (y:=a t i) s256 (by omega) hi e1,l.strike hi (Nat.le_refl _),?_,fun r hr hne=>?_⟩
    ·show (if i=t then _ else a i i)=1
     rw[if_neg (fun c=>e1 c.symm)];exact o
    ·show (if r=t then a t i ^^^ M.mul (a t i) (a i i) else a r i)=0
     by_cases c:r=t
     ·rw[if_pos c,o,M.mul_one s256,Nat.xor_self]
     ·rw[if_neg c];exact z r (by omega) hne
theorem Struck.kernel {n i:Nat} {m a b:Nat->Nat->Nat} (h:Struck n m a b) (l:Low n i a) (hi:i < n) (z:∀ k,i<=k->k < n->a k i=0):Kernel n m:=by
 refine⟨fun j=>if j < i then a j i else if j=i then 1 else 0,fun j hj=>?_,⟨i,hi,by simp⟩,?_⟩
 ·show (if j < i then a j i else if j=i then 1 else 0) < 256
  split
  ·exact h.sa j i hj hi
  ·split <;> decide
 ·obtain⟨c,hc⟩:=h.inv
  have av:∀ r,r < n->xs (fun j=>M.mul (a r j) (if j < i then a j i else if j=i then 1 else 0)) n=0:=by
   intro r hr
   have split2:xs (fun j=>M.mul (a r j) (if j < i then a j i else if j=i then 1 else 0)) n=xs (fun j=>if j=r/\r < i then a r i else 0) n ^^^ xs (fun j=>if j=i then a r i else 0) n:=by
    rw[xs_xor]
    refine xs_congr fun j hj=>?_
    by_cases c1:j < i
    ·rw[if_pos c1,l r j hr c1,if_neg (by omega:¬ j=i),Nat.xor_zero]
     unfold one
     by_cases c2:r=j
     ·subst c2
      rw[if_pos rfl,if_pos ⟨rfl,c1⟩,M.one_mul (h.sa r i hr hi)]
     ·rw[if_neg c2,if_neg (fun x=>c2 x.1.symm),M.zero_mul]
    ·rw[if_neg c1]
     by_cases c2:j=i
     ·subst c2
      rw[if_pos rfl,if_pos rfl,M.mul_one (h.sa r j hr hi),if_neg (by omega),Nat.zero_xor]
     ·rw[if_neg c2,if_neg c2,M.mul_zero,if_neg (by omega),Nat.xor_self]
   rw[split2,xs_one (f:=fun j=>if j=i then a r i else 0) (p:=i) hi (fun j _ hne=>if_neg hne),if_pos rfl]
   by_cases c:r < i
   ·rw[xs_one (f:=fun j=>if j=r/\r < i then a r i else 0) (p:=r) hr (fun j _ hne=>if_neg (fun x=>hne x.1)),if_pos ⟨rfl,c⟩,Nat.xor_self]
   ·rw[xs_congr (g:=fun _=>0) (fun j _=>if_neg (fun x=>c x.2)),xs_zero,z r (by omega) hr,Nat.xor_self]
  have E:Eq2 n n (mm n c a) m:=(mm_congr (Eq2.refl _ _ _) h.eq.symm).trans ((mm_assoc hc.sb hc.sa h.sm).symm.trans ((mm_congr hc.l (Eq2.refl _ _ _)).trans (one_mm h.sm)))
  intro r hr
  have sV:Small n 1 (fun j _=>if j < i then a j i else if j=i then 1 else 0):=fun j _ hj _=>by
   show (if j < i then a j i else if j=i then 1 else 0) < 256
   split
   ·exact h.sa j i hj hi
   ·split <;> decide
  have e1:=(mm_congr (n:=n) (m:=1) E (Eq2.refl n 1 (fun j _=>if j < i then a j i else if j=i then 1 else 0))) r 0 hr (by decide)
  have e2:=(mm_assoc (m:=1) hc.sb h.sa sV) r 0 hr (by decide)
  show mm n m (fun j _=>if j < i then a j i else if j=i then 1 else 0) r 0=0
  rw[<- e1,e2]
  show xs (fun t=>M.mul (c r t) (mm n a (fun j _=>if j < i then a j i else if j=i then 1 else 0) t 0)) n=0
  rw[xs_congr (g:=fun _=>0) (fun t ht=>by
   have:=av t ht
   show M.mul (c r t) (xs (fun j=>M.mul (a t j) (if j < i then a j i else if j=i then 1 else 0)) n)=0
   rw[this,M.mul_zero]),xs_zero]
theorem inv_or {n:Nat} {m:Nat->Nat->Nat} (sm:Small n n m) (hk:¬ Kernel n m):∃ c,Inv n m c:=by
 have main:∀ i,i<=n->∃ a b,Struck n m a b/\Low n i a:=by
  intro i
  induction i with
  | zero=>exact fun _=>⟨_,_,Struck.start sm,Low.zero n m⟩
  | succ i ih =>
    intro hi
    obtain⟨a,b,h,l⟩:=ih (by omega)
    by_cases e:∃ p,i<=p/\p < n/\a p i ≠ 0
    ·obtain⟨p,hp,hpn,hne⟩:=e
     have h1:=h.swap (k:=i) (s:=p) (by omega) hpn
     have l1:=l.swap (k:=i) (s:=p) (by omega) hpn (Nat.le_refl _) hp
     have a1:(fun r j=>a (if r=i then p else if r=p then i else r) j) i i=a p i:=by show a (if i=i then p else _) i=_;rw[if_pos rfl]
     have s256:a p i < 256:=h.sa p i hpn (by omega)
     have h2:=h1.scale (k:=i) (x:=M.inv (a p i)) (y:=a p i) (M.inv_lt _) s256 (M.inv_mul s256 (by omega))
     have l2:=l1.scale (k:=i) (x:=M.inv (a p i)) (Nat.le_refl _)
     obtain⟨a',b',h',l',o',z'⟩:=Struck.clear (by omega) h2 l2 (by
      show (if i=i then M.mul (M.inv (a p i)) (a (if i=i then p else _) i) else _)=1
      rw[if_pos rfl,if_pos rfl]
      exact M.inv_mul s256 (by omega)) n (Nat.le_refl _)
     refine⟨a',b',h',l'.next fun r hr=>?_⟩
     unfold one
     by_cases c:r=i
     ·subst c;rw[if_pos rfl];exact o'
     ·rw[if_neg c];exact z' r hr c
    ·refine absurd (h.kernel l (by omega) fun k hk hkn=>?_) hk
     rcases Nat.eq_zero_or_pos (a k i) with c | c
     ·exact c
     ·exact absurd ⟨k,hk,hkn,by omega⟩ e
 obtain⟨a,b,h,l⟩:=main n (Nat.le_refl _)
 exact⟨b,h.done l.all⟩
theorem gen_inv {k n:Nat} (hn:n<=255) (hkn:k<=n) (r:Nat->Nat) (hr:∀ i,i < k->r i < n) (inj:∀ i j,i < k->j < k->r i=r j->i=j):∃ c,Inv k (fun i j=>gen k (r i) j) c:=by
 refine inv_or (fun i j _ _=>gen_lt _ _ _) ?_
 rintro ⟨v,hv,⟨j,hj,hne⟩,h⟩
 exact hne (gen_kernel hn r hr inj hkn v hv h j hj)
end MX
open Go.RowKit
theorem run_copy_vec {B:Nat} {w:World} {d s:Value} {xs ys:List Nat} (hd:Own B w d xs) (hs:Vec w s ys) (hl:ys.length=xs.length) (ty:TypeId) :
 ∃ w',(Builtin.copy_ #[31,31] ty #[d,s]).run Tryz.prog w=.ok (goInt xs.length) w'/\Own B w' d ys/\w.grownBy w' d.ownBlock:=by
 obtain⟨s1,s2,p,cap,rfl,s3,s4,s5⟩:=hs
 by_cases hx:xs=[]
 ·subst hx
  have:ys=[]:=List.eq_nil_of_length_eq_zero hl
  subst this
  obtain⟨p',c',rfl,_⟩:=hd.vec.form
  refine⟨w,run_copy_none (P:=Tryz.prog) w 31 31 ty 5 p' p 0 c' 0 cap Tryz.underlying31 Tryz.size5 (by simp),hd,World.grownBy.refl _ _⟩
 ·have hy:ys ≠ []:=fun e=>hx (List.eq_nil_of_length_eq_zero (by rw[<- hl,e];rfl))
  obtain⟨b,off,rfl,hc⟩:=s5 hy
  rcases hd.row.2 with ⟨rfl,hn⟩ | ⟨g,dcap,cur,rfl,hb,hg,hcc,hm,hcs,ht⟩
  ·exact absurd (List.eq_nil_of_length_eq_zero hn) hx
  ·have hr:=run_copy_row (P:=Tryz.prog) w 31 31 ty 5 g 0 xs.length dcap ⟨b,off,none⟩ ys.length cap cur 5 (ys.map bv) Tryz.underlying31 Tryz.size5 hg (by rw[List.length_map,hl];simp)
    (fun j v hj=>by
      have hj':j < ys.length:=by
       have:=(List.getElem?_eq_some_iff.1 hj).1
       simpa using this
      rw[getD_map_bv ys j hj'] at hj
      rw[add_off,hc j hj'];exact hj) (by simp;omega) (fun v hv=>by obtain⟨x,_,rfl⟩:=List.mem_map.1 hv;rfl)
   refine⟨w.setRow g (ys.map bv++cur.toList.drop xs.length).toArray,by rw[hr];simp[hl],⟨s1,s2,by simp,.inr ⟨g,dcap,_,by rw[hl],hb,setRow_heap w g cur _ 5 _ hg,by omega,hm,?_,?_⟩⟩,⟨rfl,rfl,rfl,by simp,fun k _ hk=>setRow_other w g k _ (fun e=>hk (by simp[Value.ownBlock,e]))⟩⟩
   ·simp;omega
   ·simp
theorem wpList_copy_vec {w:World} {ops:Array Oper} {rest:List Oper} {o:Oper} {a:Act} {Q:Exit->Act->World->Prop} (hgd:o.guard=none) (d s:Operand)
 (ho:o.op=.call { callee:=.builtin .copy,args:=#[d,s],argTypes:=#[31,31] }) (dv sv:Value) (hed:a.eval d=dv) (hes:a.eval s=sv)
 {B:Nat} {xs ys:List Nat} (hd:Own B w dv xs) (hs:Vec w sv ys) (hl:ys.length=xs.length)
 (h:∀ w',Own B w' dv ys->w.grownBy w' dv.ownBlock->wpList Tryz.prog ops Q rest (a.put o.dst (goInt xs.length)) w'):wpList Tryz.prog ops Q (o :: rest) a w:=by
 refine wpList_plain hgd fun K hK=>?_
 obtain⟨w',hrun,r1,r2⟩:=run_copy_vec hd hs hl o.type
 unfold Oper.wp
 simp[execOp,ho,resolve,invoke,builtin,hed,hes,hrun,Result.andThen]
 exact hK _ _ (h _ r1 r2)
theorem copied_any {w:World} {v:Value} {xs:List Nat} (hv:Vec w v xs) :
 Calls Tryz.prog 122 #[v] w fun e w'=>∃ p n c,e=.returned (.slice p n c)/\Own w.heap.size w' (.slice p n c) xs/\w.grownBy w' none:=by
 obtain⟨q,n,cap,rfl,hn⟩:=hv.opened
 have hl:n<=140737488351232:=by rw[hn];exact hv.len
 have HN:Hid (n=xs.length):=hn
 have HV:Hid (∀ w',w.grownBy w' none->Vec w' (.slice q n cap) xs):=fun w' g=>hv.keep g
 clear hn hv
 go_enter Tryz.func122,Tryz.ntmps122
 go_wp2_with (first
  | (at_make;refine wpList_make_vec rfl _ _ rfl n rfl rfl hl ?_;intro w1 p ou g1;have OU:Hid (Own w.heap.size w1 (.slice p n n) (List.replicate n 0)):=ou;have G1:Hid (w.grownBy w1 none):=g1;clear ou g1)
  | (refine wpList_copy_vec rfl _ _ rfl _ _ rfl rfl OU.out (HV.out _ G1.out) (by rw[List.length_replicate];exact HN.out.symm) ?_;intro w2 o2 g2;have O2:Hid (Own w.heap.size w2 (.slice p n n) xs):=o2;have G2:Hid (w.grownBy w2 none):=grown_new G1.out g2 (fun i e=>OU.out.lo i e);clear o2 g2))
 go_ret
 exact⟨p,n,n,rfl,O2.out,G2.out⟩
def genRow (k i:Nat):List Nat:=(List.range k).map (MX.gen k i)
theorem genRow_len (k i:Nat):(genRow k i).length=k:=by simp[genRow]
theorem genRow_get {k i j:Nat} (h:j < k):(genRow k i).getD j 0=MX.gen k i j:=gd_map _ h
theorem genRow_low {k i:Nat} (h:i < k):(List.replicate k 0).set i 1=genRow k i:=by
 apply List.ext_getElem
 ·simp[genRow]
 ·intro j h1 h2
  have hj:j < k:=by simpa using h1
  by_cases e:i=j
  ·subst e;simp[genRow,MX.gen,MX.one,h]
  ·simp[genRow,MX.gen,MX.one,h,e]
set_option maxHeartbeats 1600000 in
theorem row_any (k i:Nat) (w:World) (hk:k<=255) (hi:i < 256) :
 Calls Tryz.prog 124 #[.int .i64 (k:Int),.int .i64 (i:Int)] w fun e w'=>∃ p n c,e=.returned (.slice p n c)/\Own w.heap.size w' (.slice p n c) (genRow k i)/\w.grownBy w' none:=by
 by_cases hlow:i < k
 ·have i1:(i:Int) < (k:Int):=by omega
  have i3:(0:Int)<=(i:Int):=by omega
  go_enter Tryz.func124,Tryz.ntmps124
  go_wp2_with (at_make;refine wpList_make_vec rfl _ _ rfl k rfl rfl (by omega) ?_;intro w1 p ou g1;obtain⟨g,rfl,hnn,hc,hf,h1,hset,hgr⟩:=ou.spot (k:=i) (by rw[List.length_replicate];exact hlow);have HS:Hid _:=hset 1 (by decide);have HG:Hid (w.grownBy (w1.setCell ⟨g,i,none⟩ (.int .u8 1)) none):=grown_new g1 (hgr _) (fun r e=>ou.lo r e);clear hset hgr ou g1 hnn h1)
  go_ret
  exact⟨_,k,k,rfl,by have h:=HS.out;rw[genRow_low hlow] at h;exact h,HG.out⟩
 ·have i1:¬ (i:Int) < (k:Int):=by omega
  go_enter Tryz.func124,Tryz.ntmps124
  go_wp2_with (at_make;refine wpList_make_vec rfl _ _ rfl k rfl rfl (by omega) ?_;intro w1 p ou g1;have OU:Hid (Own w.heap.size w1 (.slice p k k) (mix (MX.gen k i) (List.replicate k 0) 0)):=(by rw[mix_zero];exact ou);have G1:Hid (w.grownBy w1 none):=g1;clear ou g1)
  go_loopw [18] (fun ti wr=>∃ j:Nat,j<=k/\ti=.int .i64 j/\Hid (Own w.heap.size wr (.slice p k k) (mix (MX.gen k i) (List.replicate k 0) j))/\Hid (w.grownBy wr none)) (fun ti _=>k - (intOf ti).toNat)
  case atStart=>exact⟨0,by omega,rfl,OU,G1⟩
  case round =>
   clear OU G1
   obtain⟨j,hj,rfl,OK,GK⟩:=hrel
   by_cases hlt:j < k
   ·have i2:(j:Int) < (k:Int):=by omega
    have i3:(0:Int)<=(j:Int):=by omega
    have hL:j < (mix (MX.gen k i) (List.replicate k 0) j).length:=by rw[mix_len];simp;omega
    have hgen:MX.gen k i j=M.inv (i ^^^ j):=by unfold MX.gen;rw[if_neg hlow]
    have HM:Hid ((mix (MX.gen k i) (List.replicate k 0) j).set j (M.inv (i ^^^ j))=mix (MX.gen k i) (List.replicate k 0) (j+1)):=by
     show _=_
     rw[<- hgen];exact mix_set _ _ _
    have HL:Hid (j < (mix (MX.gen k i) (List.replicate k 0) j).length):=hL
    have hx:i ^^^ j < 256:=M.xor_lt hi (by omega)
    have h0:0 < i ^^^ j:=MX.xor_ne (by omega)
    have AA:Hid (∀ w,Calls Tryz.prog 141 #[.int .u8 (i:Int),.int .u8 (j:Int)] w fun e w'=>e=.returned (.int .u8 ((i ^^^ j:Nat):Int))/\w'=w):=fun w=>add_any _ _ w (by omega) (by omega) (by omega) (by omega)
    have II:Hid (∀ w,Calls Tryz.prog 142 #[.int .u8 ((i ^^^ j:Nat):Int)] w fun e w'=>e=.returned (.tuple #[.int .u8 ((M.inv (i ^^^ j):Nat):Int),.int .i64 0])/\w.grownBy w' none):=fun w=>inv_any _ w (by omega) (by omega)
    have hI:M.inv (i ^^^ j) < 256:=M.inv_lt _
    generalize M.inv (i ^^^ j)=y at *
    generalize i ^^^ j=x at *
    generalize mix (MX.gen k i) (List.replicate k 0) j=XK at *
    clear hgen hL
    obtain⟨g,rfl,hz,_⟩:=OK.out.spot (k:=j) HL.out
    clear hz
    go_wp2_with (first
     | (go_at_call 141;refine (AA.out _).mono ?_;rintro e w1 ⟨rfl,hw⟩;obtain rfl:=hw.symm;clear hw)
     | (go_at_call 142;refine (II.out _).mono ?_;rintro e w2 ⟨rfl,g2⟩;obtain⟨g',e',hnn,hc,hf,h1,hset,hgr⟩:=(OK.out.keep g2).spot (k:=j) HL.out;obtain rfl:g=g':=(by injection e' with e';injection e' with e');have HS:Hid _:=hset _ hI;have HG:Hid (w.grownBy (w2.setCell ⟨g,j,none⟩ (.int .u8 (y:Int))) none):=grown_new (grown_trans GK.out g2) (hgr _) (fun r e=>OK.out.lo r e);clear hset hgr g2 e' hnn h1))
    go_roundw
    case rel=>exact⟨j+1,by omega,by go_num,by rw[<- HM.out];exact HS,HG⟩
    case measure=>simp[intOf];omega
   ·have hjk:j=k:=by omega
    subst hjk
    go_wp2
    go_ret
    have h:=OK.out
    have ha:=mix_all (MX.gen j i) (List.replicate j 0)
    rw[List.length_replicate] at ha
    rw[ha] at h
    exact⟨p,j,j,rfl,h,GK.out⟩
end Go.Proofs.YtaalagkbpeinkaaGreat
