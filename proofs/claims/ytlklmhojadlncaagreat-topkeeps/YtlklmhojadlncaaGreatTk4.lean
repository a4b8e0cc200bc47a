/- Packed: Tab, InvF, Prod. -/
import Derived.RegionTactic
import Derived.BigRegion
import Derived.Test.YtlklmhojadlncaaGreatTk2
import Derived.Deep.WholeRow
import Derived.Deep.QuietTactic
import Derived.BigQuiet
set_option maxRecDepth 100000
namespace Go.Proofs.YtlklmhojadlncaaGreat
open Go.RowKit
theorem gb_alloc {a b:World} (h:a.grownBy b none) (o:Obj):a.grownBy (b.alloc o) none:=grown_trans h (World.grownBy_alloc _ _ none)
theorem gb_drew {a b:World} (h:a.grownBy b none):a.grownBy b.drew none:=grown_trans h (grown_drewN _ 1)
theorem gb_setCell {a b:World} (h:a.grownBy b none) {g k:Nat} (hg:a.heap.size<=g) (v:Value):a.grownBy (b.setCell ⟨g,k,none⟩ v) none :=
 grown_new h (row:=some g) ⟨rfl,rfl,rfl,by simp,fun i hi hne=>Below.heap_setCell _ _ _ _ (by simpa using hne)⟩ (fun i e=>by have:=Option.some.inj e;omega)
def powTo (k:Nat):Array Value:=Array.ofFn (n:=255) fun i=>.int .u8 ((if i.1 < k then M.pw i.1 else 0:Nat):Int)
def logTo (k:Nat):Array Value:=Array.ofFn (n:=256) fun i=>.int .u8 ((M.lgTo k i.1:Nat):Int)
theorem powTo_size (k:Nat):(powTo k).size=255:=by simp[powTo]
theorem logTo_size (k:Nat):(logTo k).size=256:=by simp[logTo]
theorem powTo_get (k i:Nat) (h:i < 255):(powTo k)[i]?=some (.int .u8 ((if i < k then M.pw i else 0:Nat):Int)):=by simp[powTo,h]
theorem logTo_get (k i:Nat) (h:i < 256):(logTo k)[i]?=some (.int .u8 ((M.lgTo k i:Nat):Int)):=by simp[logTo,h]
theorem powTo_succ (k:Nat):(powTo k).setIfInBounds k (.int .u8 ((M.pw k:Nat):Int))=powTo (k+1):=by
 apply Array.ext_getElem?
 intro i
 by_cases h:i < 255
 ·rw[powTo_get _ _ h,Array.getElem?_setIfInBounds]
  by_cases hk:k=i
  ·subst hk;simp[powTo_size,h]
  ·rw[if_neg hk,powTo_get _ _ h]
   have:(i < k+1)=(i < k):=by apply propext;omega
   simp[this]
 ·have h1:((powTo k).setIfInBounds k (.int .u8 ((M.pw k:Nat):Int)))[i]?=none:=by simp[powTo_size];omega
  have h2:(powTo (k+1))[i]?=none:=by simp[powTo_size];omega
  rw[h1,h2]
theorem logTo_succ (k:Nat):(logTo k).setIfInBounds (M.pw k) (.int .u8 (k:Int))=logTo (k+1):=by
 apply Array.ext_getElem?
 intro i
 by_cases h:i < 256
 ·rw[logTo_get _ _ h,Array.getElem?_setIfInBounds]
  by_cases hk:M.pw k=i
  ·subst hk;simp[logTo_size,h,M.lgTo]
  ·rw[if_neg hk,logTo_get _ _ h]
   simp[M.lgTo,hk]
 ·have h1:((logTo k).setIfInBounds (M.pw k) (.int .u8 (k:Int)))[i]?=none:=by simp[logTo_size];omega
  have h2:(logTo (k+1))[i]?=none:=by simp[logTo_size];omega
  rw[h1,h2]
theorem zero43 (w:World):(zeroValue 162).run Tryz.prog w=.ok (.agg (powTo 0)) w:=by
 have h:(Tryz.prog.info? 162).map (fun i=>(i.zero,i.size))=some (some (.agg (powTo 0)),255):=by kernel_rfl
 cases hq:Tryz.prog.info? 162 with
 | none=>simp[hq] at h
 | some i=>simp[hq] at h;simp[zeroValue,typeInfo,hq,h.1]
theorem zero44 (w:World):(zeroValue 151).run Tryz.prog w=.ok (.agg (logTo 0)) w:=by
 have h:(Tryz.prog.info? 151).map (fun i=>(i.zero,i.size))=some (some (.agg (logTo 0)),256):=by kernel_rfl
 cases hq:Tryz.prog.info? 151 with
 | none=>simp[hq] at h
 | some i=>simp[hq] at h;simp[zeroValue,typeInfo,hq,h.1]
theorem results_rows2 {P:Program} {fn:Func} {p q:Tmp} {ty tz:TypeId} (h:fn.results=#[.cell p ty,.cell q tz]) (tmps:Array Value) (w:World) (g k:Nat) (t u:TypeId) (cs ds:Array Value) (fr fs:Nat × Nat) (d e:TypeDesc)
 (hp:tmps.getD p undef=.pointer (some ⟨g,0,none⟩)) (hq:tmps.getD q undef=.pointer (some ⟨k,0,none⟩)) (hg:w.heap[g]?=some (.cells cs t fr)) (hk:w.heap[k]?=some (.cells ds u fs))
 (hu:P.underlying ty=some d) (hv:P.underlying tz=some e) (hd:(match d with | .struct _ | .array _ _=>true | _=>false)=true) (he:(match e with | .struct _ | .array _ _=>true | _=>false)=true)
 (hi:(P.info? ty).map (·.size)=some cs.size) (hj:(P.info? tz).map (·.size)=some ds.size) :
 (results fn tmps).run P w=.ok (.tuple #[.agg cs,.agg ds]) w:=by
 have hp':tmps[p]?.getD undef=.pointer (some ⟨g,0,none⟩):=by simpa using hp
 have hq':tmps[q]?.getD undef=.pointer (some ⟨k,0,none⟩):=by simpa using hq
 simp[results,h,hp',hq',asAddr,run_loadVar_row w g t ty cs fr d hg hu hd hi,run_loadVar_row w k u tz ds fs e hk hv he hj]
theorem step_load_row {P:Program} {ops:Array Oper} {o:Oper} {a:Act} {w:World} {K:Act->World->Prop} {Q:Exit->Act->World->Prop} {E:Prop}
 (hgd:o.guard=none) (ty:TypeId) (x:Operand) (ho:o.op=.load ty x) (g:Nat) (hx:a.eval x=.pointer (some ⟨g,0,none⟩)) (t:TypeId) (cs:Array Value) (fr:Nat × Nat) (d:TypeDesc)
 (hg:w.heap[g]?=some (.cells cs t fr)) (hu:P.underlying ty=some d) (hd:(match d with | .struct _ | .array _ _=>true | _=>false)=true) (hi:(P.info? ty).map (·.size)=some cs.size)
 (h:K (a.put o.dst (.agg cs)) w):if Region.wanted o (yielded ops a.tmps)=true then Oper.wp P o a w K Q else E:=by
 rw[if_pos (by simp[Region.wanted,hgd])]
 exact wp_load_row ty x ho g hx t cs fr d hg hu hd hi h
theorem step_store_same {P:Program} {ops:Array Oper} {o:Oper} {a:Act} {w:World} {K:Act->World->Prop} {Q:Exit->Act->World->Prop} {E:Prop}
 (hgd:o.guard=none) (ty:TypeId) (x y:Operand) (ho:o.op=.store ty x y) (g:Nat) (cells:Array Value) (hx:a.eval x=.pointer (some ⟨g,0,none⟩)) (hy:a.eval y=.agg cells)
 (t:TypeId) (hg:w.heap[g]?=some (.cells cells t (0,0))) (hi:(P.info? ty).map (·.size)=some cells.size) (h1:cells.all (·.oneCell')=true)
 (h:K (a.put o.dst undef) w):if Region.wanted o (yielded ops a.tmps)=true then Oper.wp P o a w K Q else E:=by
 rw[if_pos (by simp[Region.wanted,hgd])]
 exact wp_store_row ty x y ho g cells hx hy t cells hg hi rfl h1 (by rw[setRow_self w g cells t (0,0) hg];exact h)
theorem powTo_one (k:Nat):(powTo k).all (·.oneCell')=true:=by
 rw[Array.all_eq_true_iff_forall_mem]
 intro v hv
 obtain⟨i,_,rfl⟩:=Array.mem_ofFn.1 hv
 rfl
theorem logTo_one (k:Nat):(logTo k).all (·.oneCell')=true:=by
 rw[Array.all_eq_true_iff_forall_mem]
 intro v hv
 obtain⟨i,_,rfl⟩:=Array.mem_ofFn.1 hv
 rfl
theorem info43 (k:Nat):(Tryz.prog.info? 162).map (·.size)=some (powTo k).size:=by rw[powTo_size];kernel_rfl
theorem info44 (k:Nat):(Tryz.prog.info? 151).map (·.size)=some (logTo k).size:=by rw[logTo_size];kernel_rfl
set_option maxHeartbeats 800000 in
set_option maxRecDepth 100000 in
theorem tables_any (w:World) :
 Calls Tryz.prog 103 #[] w fun e w'=>e=.returned (.tuple #[.agg (powTo 255),.agg (logTo 255)])/\w.grownBy w' none:=by
 have z43:=zero43
 have z44:=zero44
 go_enter Tryz.func103,Tryz.ntmps103
 go_wp2
 clear z43 z44
 go_loopw [2,4] (fun tp ti wr=>∃ k:Nat,k<=255/\tp=.int .u8 (M.pw k:Nat)/\ti=.int .i64 k/\wr.heap[w.heap.size]?=some (.cells (powTo k) 162 (0,0))/\wr.heap[w.heap.size+1]?=some (.cells (logTo k) 151 (0,0))/\w.grownBy wr none) (fun _ ti _=>255 - (intOf ti).toNat)
 case atStart =>
  refine⟨0,by omega,rfl,rfl,?_,?_,?_⟩
  ·exact heap_alloc2_old w _ _
  ·exact heap_alloc2_new w _ _
  ·exact gb_alloc (gb_alloc (World.grownBy.refl _ _) _) _
 case round =>
  obtain⟨k,hk,rfl,rfl,hp,hl,hG⟩:=hrel
  have HP:Hid (wr.heap[w.heap.size]?=some (.cells (powTo k) 162 (0,0))):=hp
  have HL:Hid (wr.heap[w.heap.size+1]?=some (.cells (logTo k) 151 (0,0))):=hl
  have HG:Hid (w.grownBy wr none):=hG
  have hpw:M.pw k < 256:=M.pw_lt k
  by_cases hlt:k < 255
  ·have hc1:wr.cell? ⟨w.heap.size,k,none⟩=some (.int .u8 ((if k < k then M.pw k else 0:Nat):Int)):=by rw[cell_of_row _ _ _ _ _ _ hp,powTo_get _ _ hlt]
   have hf1:wr.frozen? ⟨w.heap.size,k,none⟩=false:=frozen_of_row _ _ _ _ _ hp
   have hc2:wr.cell? ⟨w.heap.size+1,M.pw k,none⟩=some (.int .u8 ((M.lgTo k (M.pw k):Nat):Int)):=by rw[cell_of_row _ _ _ _ _ _ hl,logTo_get _ _ hpw]
   have hf2:wr.frozen? ⟨w.heap.size+1,M.pw k,none⟩=false:=frozen_of_row _ _ _ _ _ hl
   clear hp hl hG
   go_wp2_with (go_at_call 113;refine (double_any _ _ (by omega) (by omega)).mono ?_;rintro e w' ⟨rfl,rfl⟩)
   go_roundw
   case rel =>
    refine⟨k+1,by omega,rfl,by go_num,?_,?_,?_⟩
    ·rw[heap_setCell_other _ _ _ _ (by simp),heap_setCell_same _ _ _ _ _ _ HP.out,powTo_succ]
    ·rw[heap_setCell_same _ _ _ (logTo k) 151 _ (by rw[heap_setCell_other _ _ _ _ (by simp)];exact HL.out),logTo_succ]
    ·exact gb_setCell (gb_setCell HG.out (by simp) _) (by simp) _
   case measure=>simp[intOf];omega
  ·obtain rfl:k=255:=by omega
   have hG':w.grownBy wr.drew none:=gb_drew hG
   have hp':wr.drew.heap[w.heap.size]?=some (.cells (powTo 255) 162 (0,0)):=hp
   have hl':wr.drew.heap[w.heap.size+1]?=some (.cells (logTo 255) 151 (0,0)):=hl
   clear hp hl hG hpw
   go_wp2_with fail
   refine wp_region_any (by kernel_rfl) ?_
   change wpAny _ _ _ _ _ _ _ (World.drew _)
   generalize wr.drew=wd at *
   have L0:=fun ops o a K Q E h1 h2 h3=>@step_load_row Tryz.prog ops o a wd K Q E h1 162 (.tmp 0) h2 w.heap.size h3 162 (powTo 255) (0,0) _ hp' Tryz.underlying162 rfl (info43 255)
   have L1:=fun ops o a K Q E h1 h2 h3=>@step_load_row Tryz.prog ops o a wd K Q E h1 151 (.tmp 1) h2 (w.heap.size+1) h3 151 (logTo 255) (0,0) _ hl' Tryz.underlying151 rfl (info44 255)
   have S0:=fun ops o a K Q E h1 h2 h3 h4=>@step_store_same Tryz.prog ops o a wd K Q E h1 162 (.tmp 0) (.tmp 17) h2 w.heap.size (powTo 255) h3 h4 162 hp' (info43 255) (powTo_one 255)
   have S1:=fun ops o a K Q E h1 h2 h3 h4=>@step_store_same Tryz.prog ops o a wd K Q E h1 151 (.tmp 1) (.tmp 18) h2 (w.heap.size+1) (logTo 255) h3 h4 151 hl' (info44 255) (logTo_one 255)
   have fin:∀ a:Act,a.defers=[]->a.tmps.getD 0 undef=.pointer (some ⟨w.heap.size,0,none⟩)->a.tmps.getD 1 undef=.pointer (some ⟨w.heap.size+1,0,none⟩)->bodyPost Tryz.prog Tryz.f103 (fun e w'=>e=.returned (.tuple #[.agg (powTo 255),.agg (logTo 255)])/\w.grownBy w' none) .ret a wd:=by
    intro a hd h0 h1
    exact bodyPost_ret (results_rows2 rfl a.tmps wd _ _ 162 151 _ _ _ _ _ _ h0 h1 hp' hl' Tryz.underlying162 Tryz.underlying151 rfl rfl (info43 255) (info44 255)) hd ⟨rfl,hG'⟩
   refine wpAny_ready (rs:=[0,1]) (by kernel_rfl) (by simp) ?_
   refine AllReady.cons rfl (fun K hK=>?_) (AllReady.cons rfl (fun K hK=>?_) AllReady.nil)
   ·refine L0 _ _ _ _ _ _ rfl rfl rfl ?_
    refine hK _ _ ?_
    clear hK K
    refine wpAny_ready (rs:=[1,2]) (by kernel_rfl) (by simp) ?_
    refine AllReady.cons rfl (fun K hK=>?_) (AllReady.cons rfl (fun K hK=>?_) AllReady.nil)
    ·refine L1 _ _ _ _ _ _ rfl rfl rfl ?_
     refine hK _ _ ?_
     clear hK K
     refine wpAny_ready (rs:=[2]) (by kernel_rfl) (by simp) ?_
     refine AllReady.cons rfl (fun K hK=>?_) AllReady.nil
     ·refine S0 _ _ _ _ _ _ rfl rfl rfl rfl ?_
      refine hK _ _ ?_
      clear hK K
      refine wpAny_ready (rs:=[3]) (by kernel_rfl) (by simp) ?_
      refine AllReady.cons rfl (fun K hK=>?_) AllReady.nil
      ·refine S1 _ _ _ _ _ _ rfl rfl rfl rfl ?_
       refine hK _ _ ?_
       clear hK K
       refine wpAny_done (by kernel_rfl) ?_ _
       clear L0 L1 S0 S1 hp' hl' hG'
       go_wp2
       exact fin _ rfl rfl rfl
    ·refine S0 _ _ _ _ _ _ rfl rfl rfl rfl ?_
     refine hK _ _ ?_
     clear hK K
     refine wpAny_ready (rs:=[1]) (by kernel_rfl) (by simp) ?_
     refine AllReady.cons rfl (fun K hK=>?_) AllReady.nil
     ·refine L1 _ _ _ _ _ _ rfl rfl rfl ?_
      refine hK _ _ ?_
      clear hK K
      refine wpAny_ready (rs:=[3]) (by kernel_rfl) (by simp) ?_
      refine AllReady.cons rfl (fun K hK=>?_) AllReady.nil
      ·refine S1 _ _ _ _ _ _ rfl rfl rfl rfl ?_
       refine hK _ _ ?_
       clear hK K
       refine wpAny_done (by kernel_rfl) ?_ _
       clear L0 L1 S0 S1 hp' hl' hG'
       go_wp2
       exact fin _ rfl rfl rfl
   ·refine L1 _ _ _ _ _ _ rfl rfl rfl ?_
    refine hK _ _ ?_
    clear hK K
    refine wpAny_ready (rs:=[0]) (by kernel_rfl) (by simp) ?_
    refine AllReady.cons rfl (fun K hK=>?_) AllReady.nil
    ·refine L0 _ _ _ _ _ _ rfl rfl rfl ?_
     refine hK _ _ ?_
     clear hK K
     refine wpAny_ready (rs:=[2]) (by kernel_rfl) (by simp) ?_
     refine AllReady.cons rfl (fun K hK=>?_) AllReady.nil
     ·refine S0 _ _ _ _ _ _ rfl rfl rfl rfl ?_
      refine hK _ _ ?_
      clear hK K
      refine wpAny_ready (rs:=[3]) (by kernel_rfl) (by simp) ?_
      refine AllReady.cons rfl (fun K hK=>?_) AllReady.nil
      ·refine S1 _ _ _ _ _ _ rfl rfl rfl rfl ?_
       refine hK _ _ ?_
       clear hK K
       refine wpAny_done (by kernel_rfl) ?_ _
       clear L0 L1 S0 S1 hp' hl' hG'
       go_wp2
       exact fin _ rfl rfl rfl
theorem setRow_alloc_past (w:World) (c c':Array Value) (t:TypeId) (B:Obj):((w.alloc (.cells c t)).alloc B).setRow w.heap.size c'=(w.alloc (.cells c' t)).alloc B:=by
 simp only[World.setRow,World.alloc]
 congr 1
 apply Array.ext_getElem?
 intro i
 rw[Array.getElem?_modify]
 by_cases h:w.heap.size=i
 ·subst h
  simp[Array.getElem?_push]
 ·have h':¬ i=w.heap.size:=fun e=>h e.symm
  simp[h,h',Array.getElem?_push]
theorem setRow_alloc_last (w:World) (A:Obj) (c c':Array Value) (t:TypeId):((w.alloc A).alloc (.cells c t)).setRow (w.heap.size+1) c'=(w.alloc A).alloc (.cells c' t):=by
 have h:=World.setRow_alloc_new (w.alloc A) c c' t
 rwa [World.size_alloc] at h
theorem mem_one {c:Array Value} (h:c.all (·.oneCell')=true):∀ v ∈ c.toList,v.oneCell'=true:=by
 intro v hv
 exact (Array.all_eq_true_iff_forall_mem.1 h) v (by simpa using hv)
theorem store43 (w:World) (B:Obj):(storeCells ⟨w.heap.size,0,none⟩ (powTo 255).toList).run Tryz.prog ((w.alloc (.cells (powTo 0) 162)).alloc B)=.ok () ((w.alloc (.cells (powTo 255) 162)).alloc B):=by
 have:=run_storeCells_from (P:=Tryz.prog) w.heap.size 162 (powTo 255).toList 0 (powTo 0) ((w.alloc (.cells (powTo 0) 162)).alloc B) (heap_alloc2_old w _ _) (by simp[powTo_size]) (mem_one (powTo_one 255))
 simpa [setRow_alloc_past] using this
theorem store44 (w:World) (A:Obj):(storeCells ⟨w.heap.size+1,0,none⟩ (logTo 255).toList).run Tryz.prog ((w.alloc A).alloc (.cells (logTo 0) 151))=.ok () ((w.alloc A).alloc (.cells (logTo 255) 151)):=by
 have:=run_storeCells_from (P:=Tryz.prog) (w.heap.size+1) 151 (logTo 255).toList 0 (logTo 0) ((w.alloc A).alloc (.cells (logTo 0) 151)) (heap_alloc2_new w _ _) (by simp[logTo_size]) (mem_one (logTo_one 255))
 simpa [setRow_alloc_last] using this
theorem log_get (n:Nat) (h:n < 256):(logTo 255)[n]?=some (.int .u8 ((M.lg n:Nat):Int)):=logTo_get 255 n h
theorem pow_get (n:Nat) (h:n < 255):(powTo 255)[n]?=some (.int .u8 ((M.pw n:Nat):Int)):=by rw[powTo_get 255 n h,if_pos h]
theorem inv_zero (w:World) :
 Calls Tryz.prog 95 #[.int .u8 0] w fun e w'=>e=.returned (.tuple #[.int .u8 0,.int .i64 1])/\w'=w:=by
 go_enter Tryz.func95,Tryz.ntmps95
 go_wp2
 go_ret2
 exact⟨rfl,rfl⟩
set_option maxHeartbeats 800000 in
set_option maxRecDepth 100000 in
theorem inv_any (x:Int) (w:World) (h0:0 < x) (h1:x < 256) :
 Calls Tryz.prog 95 #[.int .u8 x] w fun e w'=>e=.returned (.tuple #[.int .u8 ((M.inv x.toNat:Nat):Int),.int .i64 0])/\w.grownBy w' none:=by
 obtain⟨n,rfl⟩:=Int.eq_ofNat_of_zero_le (Int.le_of_lt h0)
 have hg:=log_get n (by omega)
 have hl:=M.lg_lt n
 have hr:∀ w,Calls Tryz.prog 104 #[.int .i64 (-((M.lg n:Nat):Int))] w fun e w'=>e=.returned (.int .i64 (((255 - M.lg n) % 255:Nat):Int))/\w'=w:=fun w =>
  (round_any _ w).mono fun e w' ⟨h,k⟩=>⟨by rw[h];exact ret_int (by omega),k⟩
 have hg2:=pow_get ((255 - M.lg n) % 255) (by omega)
 have hb:(((255 - M.lg n) % 255:Nat):Int) < 255:=by omega
 generalize hq:(255 - M.lg n) % 255=q at hr hg2 hb
 have HQ:Hid ((255 - M.lg n) % 255=q):=hq
 clear hq
 have z43:=zero43
 have z44:=zero44
 have s43:=store43
 have s44:=store44
 have p43:=powTo_size 255
 have p44:=logTo_size 255
 go_enter Tryz.func95,Tryz.ntmps95
 go_wp2_with (first | (go_at_call 103;refine (tables_any _).mono ?_;rintro e w1 ⟨rfl,hG⟩;have HG:Hid (w.grownBy w1 none):=hG;clear hG) | (go_at_call 104;refine (hr _).mono ?_;rintro e w1 ⟨rfl,rfl⟩))
 go_ret2
 exact⟨by rw[<- HQ.out];rfl,gb_alloc (gb_alloc HG.out _) _⟩
def prodTo (c k:Nat):Array Value:=Array.ofFn (n:=256) fun i=>.int .u8 ((if i.1 < k then M.mul c i.1 else 0:Nat):Int)
theorem prodTo_size (c k:Nat):(prodTo c k).size=256:=by simp[prodTo]
theorem prodTo_get (c k i:Nat) (h:i < 256):(prodTo c k)[i]?=some (.int .u8 ((if i < k then M.mul c i else 0:Nat):Int)):=by simp[prodTo,h]
theorem prodTo_succ (c k:Nat):(prodTo c k).setIfInBounds k (.int .u8 ((M.mul c k:Nat):Int))=prodTo c (k+1):=by
 apply Array.ext_getElem?
 intro i
 by_cases h:i < 256
 ·rw[prodTo_get _ _ _ h,Array.getElem?_setIfInBounds]
  by_cases hk:k=i
  ·subst hk;simp[prodTo_size,h]
  ·rw[if_neg hk,prodTo_get _ _ _ h]
   have:(i < k+1)=(i < k):=by apply propext;omega
   simp[this]
 ·have h1:((prodTo c k).setIfInBounds k (.int .u8 ((M.mul c k:Nat):Int)))[i]?=none:=by simp[prodTo_size];omega
  have h2:(prodTo c (k+1))[i]?=none:=by simp[prodTo_size];omega
  rw[h1,h2]
theorem prodTo_zero (c:Nat):logTo 0=prodTo c 1:=by
 apply Array.ext_getElem?
 intro i
 by_cases h:i < 256
 ·rw[prodTo_get _ _ _ h,logTo_get _ _ h]
  by_cases e:i=0
  ·subst e;simp[M.lgTo,M.mul_zero]
  ·rw[if_neg (by omega)];rfl
 ·have h1:(logTo 0)[i]?=none:=by simp[logTo_size];omega
  have h2:(prodTo c 1)[i]?=none:=by simp[prodTo_size];omega
  rw[h1,h2]
theorem prodTo_one (c k:Nat):(prodTo c k).all (·.oneCell')=true:=by
 rw[Array.all_eq_true_iff_forall_mem]
 intro v hv
 obtain⟨i,_,rfl⟩:=Array.mem_ofFn.1 hv
 rfl
theorem infoP (c k:Nat):(Tryz.prog.info? 151).map (·.size)=some (prodTo c k).size:=by rw[prodTo_size];kernel_rfl
theorem bit_or:∀ p,p < 8->∀ b,b < 2 ^ p->2 ^ p ^^^ b=2 ^ p+b:=by decide
theorem bit_le:∀ p,p < 8->2 ^ p<=128:=by decide
set_option maxHeartbeats 800000 in
set_option maxRecDepth 100000 in
theorem products_any (c:Nat) (w:World) (hc:c < 256) :
 Calls Tryz.prog 93 #[.int .u8 (c:Int)] w fun e w'=>e=.returned (.agg (prodTo c 256))/\w.grownBy w' none:=by
 have z44:=zero44
 go_enter Tryz.func93,Tryz.ntmps93
 go_wp2
 clear z44
 go_loopw [7] (fun ti wr=>∃ p:Nat,p<=8/\ti=.int .i64 p/\wr.heap[w.heap.size]?=some (.cells (prodTo c (2 ^ p)) 151 (0,0))/\w.grownBy wr none) (fun ti _=>8 - (intOf ti).toNat)
 case atStart =>
  refine⟨0,by omega,rfl,?_,gb_alloc (World.grownBy.refl _ _) _⟩
  rw[show prodTo c (2 ^ 0)=logTo 0 from (prodTo_zero c).symm]
  exact heap_alloc_new w _
 case round =>
  obtain⟨p,hp,rfl,hm,hG⟩:=hrel
  obtain⟨wa,hwa⟩:∃ wa,wa=wr:=⟨wr,rfl⟩
  subst hwa
  have HM:Hid (wa.heap[w.heap.size]?=some (.cells (prodTo c (2 ^ p)) 151 (0,0))):=hm
  have HG:Hid (w.grownBy wa none):=hG
  clear hm hG
  by_cases hlt:p < 8
  ·have hb:=bit_le p hlt
   have hpos:0 < 2 ^ p:=Nat.two_pow_pos p
   have HB:Hid (∀ b,b < 2 ^ p->2 ^ p ^^^ b=2 ^ p+b):=bit_or p hlt
   have HS:Hid (2 ^ (p+1)=2 ^ p+2 ^ p):=by show _=_;rw[Nat.pow_succ];omega
   have hcast:((2:Int) ^ p)=((2 ^ p:Nat):Int):=by simp
   have hw:wrap64 ((2:Int) ^ p)=((2 ^ p:Nat):Int):=by rw[hcast];exact wrap_small _ (by omega) (by omega)
   clear hcast
   generalize 2 ^ p=Q at *
   have HMUL:Hid (∀ w,Calls Tryz.prog 102 #[.int .u8 (c:Int),.int .u8 (Q:Int)] w fun e w'=>e=.returned (.int .u8 ((M.mul c Q:Nat):Int))/\w'=w):=fun w =>
    (mul_any _ _ w (by omega) (by omega) (by omega) (by omega)).mono fun e w' ⟨h,k⟩=>⟨h,k⟩
   have hpc:M.mul c Q < 256:=M.mul_lt _ hc
   have HPC:Hid (∀ b,b < Q->M.mul c Q ^^^ M.mul c b=M.mul c (Q+b)):=fun b hb'=>by rw[<- HB.out b hb',MX.mul_xor_right hc (by omega) (by omega)]
   generalize hPC:M.mul c Q=PC at *
   clear HB hPC
   go_wp2_with (go_at_call 102;refine (HMUL.out _).mono ?_;rintro e w1 ⟨rfl,hw1⟩;obtain rfl:=hw1.symm;clear hw1)
   clear HMUL hw
   go_loopw [17] (fun ti wr=>∃ b:Nat,b<=Q/\ti=.int .i64 b/\Hid (wr.heap[w.heap.size]?=some (.cells (prodTo c (Q+b)) 151 (0,0)))/\Hid (w.grownBy wr none)) (fun ti _=>Q - (intOf ti).toNat)
   case atStart =>
    refine⟨0,by omega,rfl,?_,?_⟩
    ·rw[Nat.add_zero];exact HM
    ·exact HG
   case round =>
    clear HM HG
    obtain⟨b,hbQ,rfl,HM,HG⟩:=hrel
    by_cases hbl:b < Q
    ·have i1:(b:Int) < (Q:Int):=by omega
     have i2:(Q:Int)+(b:Int) < 256:=by omega
     have hwr:wrap64 ((Q:Int)+(b:Int))=((Q+b:Nat):Int):=by rw[<- Int.natCast_add];exact wrap_small _ (by omega) (by omega)
     have mb:M.mul c b < 256:=M.mul_lt _ hc
     have hc1:wr.cell? ⟨w.heap.size,b,none⟩=some (.int .u8 ((M.mul c b:Nat):Int)):=by rw[cell_of_row _ _ _ _ _ _ HM.out,prodTo_get _ _ _ (by omega),if_pos (by omega)]
     have hc2:wr.cell? ⟨w.heap.size,Q+b,none⟩=some (.int .u8 ((0:Nat):Int)):=by rw[cell_of_row _ _ _ _ _ _ HM.out,prodTo_get _ _ _ (by omega),if_neg (by omega)]
     have hf2:wr.frozen? ⟨w.heap.size,Q+b,none⟩=false:=frozen_of_row _ _ _ _ _ HM.out
     have HADD:Hid (∀ w,Calls Tryz.prog 94 #[.int .u8 (PC:Int),.int .u8 ((M.mul c b:Nat):Int)] w fun e w'=>e=.returned (.int .u8 ((M.mul c (Q+b):Nat):Int))/\w'=w):=fun w =>
      (add_any _ _ w (by omega) (by omega) (by omega) (by omega)).mono fun e w' ⟨h,k⟩=>⟨by rw[h];exact ret_int (by rw[<- HPC.out b hbl];rfl),k⟩
     have HN:Hid ((wr.setCell ⟨w.heap.size,Q+b,none⟩ (.int .u8 ((M.mul c (Q+b):Nat):Int))).heap[w.heap.size]?=some (.cells (prodTo c (Q+(b+1))) 151 (0,0))):=by
      show _=_
      rw[heap_setCell_same _ _ _ _ _ _ HM.out,prodTo_succ,Nat.add_assoc]
     have HGN:Hid (w.grownBy (wr.setCell ⟨w.heap.size,Q+b,none⟩ (.int .u8 ((M.mul c (Q+b):Nat):Int))) none):=gb_setCell HG.out (by simp) _
     generalize M.mul c (Q+b)=PQ at *
     generalize M.mul c b=PB at *
     clear HM HG
     go_wp2_with (go_at_call 94;refine (HADD.out _).mono ?_;rintro e w1 ⟨rfl,hw1⟩;obtain rfl:=hw1.symm;clear hw1)
     go_roundw
     case rel=>exact⟨b+1,by omega,by go_num,HN,HGN⟩
     case measure=>simp[intOf];omega
    ·obtain rfl:b=Q:=by omega
     have HM':=HM.out
     rw[<- HS.out] at HM'
     have HMM:Hid (wr.heap[w.heap.size]?=some (.cells (prodTo c (2 ^ (p+1))) 151 (0,0))):=HM'
     clear HM' HM
     go_wp2
     go_roundw
     case rel=>exact⟨p+1,by omega,by go_num,HMM.out,HG.out⟩
     case measure=>simp[intOf];omega
  ·obtain rfl:p=8:=by omega
   have hp':wa.heap[w.heap.size]?=some (.cells (prodTo c 256) 151 (0,0)):=HM.out
   clear HM
   have HG':Hid (w.grownBy wa none):=HG
   clear HG
   go_wp2
   refine wp_load_row 151 (.tmp 2) rfl w.heap.size rfl 151 (prodTo c 256) (0,0) _ hp' Tryz.underlying151 rfl (infoP c 256) ?_
   have s44:(storeCells ⟨w.heap.size,0,none⟩ (prodTo c 256).toList).run Tryz.prog wa=.ok () wa:=by
    have:=run_storeCells_from (P:=Tryz.prog) w.heap.size 151 (prodTo c 256).toList 0 (prodTo c 256) wa hp' (by simp[prodTo_size]) (mem_one (prodTo_one c 256))
    simpa [setRow_self wa w.heap.size (prodTo c 256) 151 (0,0) hp'] using this
   have p44:=prodTo_size c 256
   have HP:Hid (wa.heap[w.heap.size]?=some (.cells (prodTo c 256) 151 (0,0))):=hp'
   have HI:Hid ((Tryz.prog.info? 151).map (·.size)=some (prodTo c 256).size):=infoP c 256
   obtain⟨AR,hAR⟩:∃ AR,AR=prodTo c 256:=⟨_,rfl⟩
   rw[<- hAR] at hp' s44 p44 HP HI
   rw[<- hAR]
   have HAR:Hid (AR=prodTo c 256):=hAR
   clear hp' hAR
   go_wp2
   exact bodyPost_ret (results_cell_row rfl _ wa w.heap.size 151 AR (0,0) _ rfl HP.out Tryz.underlying151 rfl HI.out) rfl ⟨by rw[HAR.out],HG'.out⟩
end Go.Proofs.YtlklmhojadlncaaGreat
