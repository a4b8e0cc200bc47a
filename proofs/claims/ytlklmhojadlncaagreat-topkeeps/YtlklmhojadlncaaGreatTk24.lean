/- Packed: RBlk6, RNew6, Two6. -/
import Derived.Test.YtlklmhojadlncaaGreatTk21
set_option linter.unusedSimpArgs false
set_option linter.unusedVariables false
set_option maxRecDepth 100000
namespace Go.Proofs.YtlklmhojadlncaaGreat
open Go.RowKit
theorem step_append_rows {ops:Array Oper} {o:Oper} {ac:Act} {w:World} {K:Act->World->Prop} {Q:Exit->Act->World->Prop} {E:Prop} (hgd:o.guard=none) (d s:Operand) {B:Nat} {t e:TypeId} {z:Value} {size bytes:Nat}
 (ho:o.op=.call { callee:=.builtin .append,args:=#[d,s],argTypes:=#[t,t] }) (hu:Tryz.prog.underlying t=some (.slice e)) (hinfo:(Tryz.prog.info? e).map (fun i=>(i.zero,i.size,i.bytes))=some (some z,size,bytes)) (hzs:z.cells.size=size) (hsz:0 < size)
 {v:Value} {n:Nat} {xs:List Value} {a:Addr} {m c:Nat} {news:List Value} (hed:ac.eval d=v) (hes:ac.eval s=.slice (some a) m c) (hown:w.ownsRow B e size v n xs) (hl:news.length=m * size) (hnews:∀ j u,news[j]?=some u->w.cell? (a.add j)=some u) (h1:∀ u ∈ news,u.oneCell'=true)
 (h63:n+m<=maxLen) (hbytes:(n+m) * bytes<=140737488355328) (hB:B<=w.heap.size)
 (h:∀ v' w',w'.ownsRow B e size v' (n+m) (xs++news)->w.grownBy w' v.ownBlock->K (ac.put o.dst v') w'):if Region.wanted o (yielded ops ac.tmps)=true then Oper.wp Tryz.prog o ac w K Q else E:=by
 have hw:Region.wanted o (yielded ops ac.tmps)=true:=by simp[Region.wanted,hgd]
 rw[if_pos hw]
 obtain⟨v',w',hrun,r1,r2⟩:=run_append_rows (ty:=o.type) (c:=c) hu hinfo hzs hsz hown hl hnews h1 h63 hbytes hB
 unfold Oper.wp
 simp[execOp,ho,resolve,invoke,builtin,hed,hes,hrun,Result.andThen]
 exact h _ _ r1 r2
structure Blk (w0 w:World) (b2 b3 k:Nat) (v:Value) (vs:List Value) (bs:List (List Nat)) (gone:Bool):Prop where
 grown:w0.grownBy w none
 lo2:w0.heap.size<=b2
 lo3:w0.heap.size<=b3
 ne:b2 ≠ b3
 res:w.heap[b2]?=some (.cells #[.slice none 0 0,.bool false] 101 (0,0))
 top:w.heap[b3]?=some (.cells #[v,.bool gone] 101 (0,0))
 row:w.ownsRow w0.heap.size 26 1 v k vs
 len:bs.length=k
 own:∀ (i:Nat) (u:Value) (b:List Nat),vs[i]?=some u->bs[i]?=some b->Own w0.heap.size w u b
section
variable {w0 w:World} {b2 b3 k:Nat} {v:Value} {vs:List Value} {bs:List (List Nat)} {gone:Bool}
theorem Own.sameB {B:Nat} {w w':World} {u:Value} {b:List Nat} (h:Own B w u b) (hb:∀ g,u.ownBlock=some g->w'.heap[g]?=w.heap[g]?):Own B w' u b:=⟨h.small,h.len,ownsRow_same h.row hb⟩
theorem Blk.next (h:Blk w0 w b2 b3 k v vs bs gone) {w1:World} (g1:w.grownBy w1 none) {u:Value} {b:List Nat} (hu:Own w0.heap.size w1 u b) {v':Value} {w5:World} (hr:w5.ownsRow w0.heap.size 26 1 v' (k+1) (vs++[u])) (g5:w1.grownBy w5 v.ownBlock) :
 Blk w0 (w5.setCell ⟨b3,0,none⟩ v') b2 b3 (k+1) v' (vs++[u]) (bs++[b]) gone/\w5.cell? ⟨b3,0,none⟩=some v/\w5.frozen? ⟨b3,0,none⟩=false:=by
 have l3:b3 < w.heap.size:=(Array.getElem?_eq_some_iff.1 h.top).1
 have l2:b2 < w.heap.size:=(Array.getElem?_eq_some_iff.1 h.res).1
 have hty:∀ (i:Nat) (c:Array Value) (t:TypeId),w.heap[i]?=some (.cells c t (0,0))->t ≠ 26->w5.heap[i]?=w.heap[i]?:=fun i c t hi ht=>by
  have hlt:=(Array.getElem?_eq_some_iff.1 hi).1
  rw[g5.block i (Nat.lt_of_lt_of_le hlt g1.size) (fun e=>by
   obtain⟨_,_,c',hc'⟩:=rows_blk h.row e.symm
   exact ne_ty hi hc' ht rfl),g1.block i hlt (by simp)]
 have t5:=(hty b3 _ _ h.top (by decide)).trans h.top
 have r5:=(hty b2 _ _ h.res (by decide)).trans h.res
 have g05:w0.grownBy w5 none:=grown_new (grown_trans h.grown g1) g5 (fun i e=>(rows_blk h.row e).1)
 have hs:∀ i,i ≠ b3->(w5.setCell ⟨b3,0,none⟩ v').heap[i]?=w5.heap[i]?:=fun i hi=>Below.heap_setCell _ _ _ _ hi
 refine⟨⟨gb_setCell g05 h.lo3 _,h.lo2,h.lo3,h.ne,by rw[hs b2 h.ne];exact r5,by rw[heap_setCell_same _ _ _ _ _ _ t5];rfl,ownsRow_same hr (fun g hg=>?_),by simp[h.len],fun i x y hx hy=>?_⟩,topCell (j:=0) t5 rfl,topFrozen 0 t5⟩
 ·obtain⟨_,_,c,hc⟩:=rows_blk hr hg
  exact hs g (ne_ty hc t5 (by decide))
 ·have hvl:vs.length=k:=by have:=h.row.1;omega
  by_cases c:i < k
  ·rw[List.getElem?_append_left (by omega)] at hx
   rw[List.getElem?_append_left (by rw[h.len];exact c)] at hy
   have q:=h.own i x y hx hy
   refine q.sameB (fun g hg=>?_)
   obtain⟨_,_,c,hc⟩:=rows_blk q.row hg
   have e:=hty g _ _ hc (by decide)
   rw[hs g (ne_ty (e.trans hc) t5 (by decide)),e]
  ·have hi:i=k:=by
    have:=(List.getElem?_eq_some_iff.1 hx).1
    simp at this
    omega
   subst hi
   rw[<- hvl,List.getElem?_append_right (Nat.le_refl _),Nat.sub_self] at hx
   rw[<- h.len,List.getElem?_append_right (Nat.le_refl _),Nat.sub_self] at hy
   obtain rfl:=Option.some.inj hx
   obtain rfl:=Option.some.inj hy
   refine hu.sameB (fun g hg=>?_)
   obtain⟨_,hlt,c,hc⟩:=rows_blk hu.row hg
   have e:w5.heap[g]?=w1.heap[g]?:=g5.block g hlt (fun e=>by
    obtain⟨_,_,c',hc'⟩:=rows_blk h.row e.symm
    have hc2:=(g1.block g (by obtain⟨_,l,_⟩:=rows_blk h.row e.symm;exact l) (by simp)).trans hc'
    exact ne_ty hc hc2 (by decide) rfl)
   rw[hs g (ne_ty (e.trans hc) t5 (by decide)),e]
end
theorem Tryz.infoBys:(Tryz.prog.info? 26).map (fun i=>(i.zero,i.size,i.bytes))=some (some (.slice none 0 0),1,24):=by kernel_rfl
theorem Tryz.sizeDsk:(Tryz.prog.info? 101).map (·.size)=some 2:=by kernel_rfl
theorem Tryz.infoBy:(Tryz.prog.info? 5).map (fun i=>(i.zero,i.size,i.bytes))=some (some (.int .u8 0),1,1):=by kernel_rfl
theorem run_make_sec (W:World):(Instr.makeSlice 26 (.int .i64 64) (.int .i64 64)).run Tryz.prog W=.ok (.slice (some ⟨W.heap.size,0,none⟩) 64 64) (W.alloc (.cells (madeCells #[.int .u8 0] 64) 5)) :=
 run_make_row' (P:=Tryz.prog) 26 5 _ 1 Tryz.underlying26 Tryz.infoBy rfl .i64 .i64 64 (by decide) (by decide) W
theorem made_sec (w:World):Own w.heap.size (w.alloc (.cells (madeCells #[.int .u8 0] 64) 5)) (.slice (some ⟨w.heap.size,0,none⟩) 64 64) (AM.zs 64):=made_own (by decide) rfl
set_option maxRecDepth 100000 in
theorem rblank_yes (w:World) {n:Nat} (hn:n<=4096):Calls Tryz.prog 49 #[.int .i64 (n:Int)] w fun e w'=>∃ p c vs,e=.returned (.agg #[.slice p n c,.bool false])/\w'.ownsRow w.heap.size 26 1 (.slice p n c) n vs/\(∀ (k:Nat) (u:Value),vs[k]?=some u->Own w.heap.size w' u (AM.zs 64))/\w.grownBy w' none:=by
 have hmk:=run_make_sec
 go_enter Tryz.func49,Tryz.ntmps49
 go_wp2
 have h0:Blk w ((w.alloc (.cells #[.slice none 0 0,.bool false] 101)).alloc (.cells #[.slice none 0 0,.bool false] 101)) w.heap.size (w.heap.size+1) 0 (.slice none 0 0) [] (List.replicate 0 (AM.zs 64)) false :=
  ⟨gb_alloc (gb_alloc (World.grownBy.refl _ _) _) _,Nat.le_refl _,Nat.le_succ _,by omega,heap_old _ _ (heap_alloc_new w _),heap_new _ _ _ (by simp),World.ownsRow_nil _ _ _ _,rfl,fun i u b hu=>by simp at hu⟩
 have H0:Hid (∃ vs,Blk w ((w.alloc (.cells #[.slice none 0 0,.bool false] 101)).alloc (.cells #[.slice none 0 0,.bool false] 101)) w.heap.size (w.heap.size+1) 0 (.slice none 0 0) vs (List.replicate 0 (AM.zs 64)) false):=⟨[],h0⟩
 clear h0
 generalize (w.alloc (.cells #[.slice none 0 0,.bool false] 101)).alloc (.cells #[.slice none 0 0,.bool false] 101)=W0 at *
 obtain⟨b3,hb3⟩:∃ b3,b3=w.heap.size+1:=⟨_,rfl⟩
 obtain⟨b2,hb2⟩:∃ b2,b2=w.heap.size:=⟨_,rfl⟩
 rw[<- hb3,<- hb2] at H0 ⊢
 clear hb3 hb2
 go_loopw [4] (fun ti wr=>∃ k:Nat,k<=n/\ti=.int .i64 (k:Int)/\Hid (∃ p c vs,Blk w wr b2 b3 k (.slice p k c) vs (List.replicate k (AM.zs 64)) false)) (fun ti _=>n - (intOf ti).toNat)
 case atStart=>exact⟨0,by omega,rfl,none,0,H0.out⟩
 case round =>
  clear H0
  obtain⟨k,hk,rfl,HX⟩:=hrel
  obtain⟨p,c,vs,h⟩:=HX.out
  by_cases hlt:k < n
  ·have i1:(k:Int) < (n:Int):=by omega
   have H:Hid (Blk w wr b2 b3 k (.slice p k c) vs (List.replicate k (AM.zs 64)) false):=h
   have HC:Hid (wr.cell? ⟨b3,0,none⟩=some (.slice p k c)):=topCell (j:=0) h.top rfl
   have l3:b3 < wr.heap.size:=(Array.getElem?_eq_some_iff.1 h.top).1
   have G1:Hid (wr.grownBy (wr.drew.alloc (.cells (madeCells #[.int .u8 0] 64) 5)) none):=gb_alloc (gb_drew (World.grownBy.refl _ _)) _
   have G2:Hid (wr.grownBy ((wr.drew.alloc (.cells (madeCells #[.int .u8 0] 64) 5)).alloc (.cells #[.slice (some ⟨wr.heap.size,0,none⟩) 64 64] 26)) none):=gb_alloc G1.out _
   have HCK:Hid (∀ W,wr.grownBy W none->W.cell? ⟨b3,0,none⟩=some (.slice p k c)):=fun W g=>g.cell HC.out (by simp)
   have HOU:Hid (Own w.heap.size ((wr.drew.alloc (.cells (madeCells #[.int .u8 0] 64) 5)).alloc (.cells #[.slice (some ⟨wr.heap.size,0,none⟩) 64 64] 26)) (.slice (some ⟨wr.heap.size,0,none⟩) 64 64) (AM.zs 64)):=((made_sec wr.drew).keep (World.grownBy_alloc _ _ none)).down h.grown.size
   have HRW:Hid (((wr.drew.alloc (.cells (madeCells #[.int .u8 0] 64) 5)).alloc (.cells #[.slice (some ⟨wr.heap.size,0,none⟩) 64 64] 26)).ownsRow w.heap.size 26 1 (.slice p k c) k vs):=ownsRow_same h.row (fun g hg=>G2.out.block g (rows_blk h.row hg).2.1 (by simp))
   have HCE:Hid (∀ j u,([.slice (some ⟨wr.heap.size,0,none⟩) 64 64]:List Value)[j]?=some u->((wr.drew.alloc (.cells (madeCells #[.int .u8 0] 64) 5)).alloc (.cells #[.slice (some ⟨wr.heap.size,0,none⟩) 64 64] 26)).cell? ((⟨wr.heap.size+1,0,none⟩:Addr).add j)=some u):=fun j u hj=>by
    rw[add_at,Nat.zero_add]
    exact topCell (heap_new _ _ _ (by simp)) (by simpa using hj)
   have HSZ:Hid (w.heap.size<=((wr.drew.alloc (.cells (madeCells #[.int .u8 0] 64) 5)).alloc (.cells #[.slice (some ⟨wr.heap.size,0,none⟩) 64 64] 26)).heap.size):=Nat.le_trans h.grown.size G2.out.size
   have HK:Hid (k<=4096):=Nat.le_trans hk hn
   clear h HX
   go_wp2_with fail
   refine region_late (S:=(fun w'=>w'.cell? ⟨b3,0,none⟩=some (.slice p k c))) (by simp only[List.pop_toArray,List.dropLast];exact rfl) (by rfl) (by kernel_rfl) (by kernel_rfl) ?_ (fun hHeld=>?_)
   ·exact HC.out
   refine wpAnyH_take (i:=0) (v:=?_) rfl (by kernel_rfl) (by kernel_rfl) (by kernel_rfl) (fun _ _ _ h=>h) (Or.inl ⟨by rfl,?_⟩) (by assumption) ?_
   rotate_left
   ·intro w hSw;(try dsimp only at hSw);first | (go_simp;done) | (go_simp;with_reducible rfl)
   simp only[Act.put,lay9]
   refine wpAnyH_take (i:=1) (v:=?_) rfl (by kernel_rfl) (by kernel_rfl) (by kernel_rfl) (fun _ _ _ h=>h) (Or.inl ⟨by rfl,?_⟩) (by assumption) ?_
   rotate_left
   ·intro w hSw;(try dsimp only at hSw);first | (go_simp;done) | (go_simp;with_reducible rfl)
   simp only[Act.put,lay9]
   refine wpAnyH_ready (rs:=[2]) (by kernel_rfl) (by simp) ?_
   refine AllReadyH.cons rfl (fun K hK=>?_) AllReadyH.nil
   go_simp
   refine hK.out _ _ (HCK.out _ G1.out) (fun hHeld=>?_)
   clear hK K
   (try simp only[Act.put,lay9])
   refine wpAnyH_ready (rs:=[3]) (by kernel_rfl) (by simp) ?_
   refine AllReadyH.cons rfl (fun K hK=>?_) AllReadyH.nil
   go_simp
   refine hK.out _ _ (HCK.out _ G2.out) (fun hHeld=>?_)
   clear hK K
   (try simp only[Act.put,lay9])
   refine wpAnyH_ready (rs:=[4]) (by kernel_rfl) (by simp) ?_
   refine AllReadyH.cons rfl (fun K hK=>?_) AllReadyH.nil
   refine step_append_rows (by rfl) _ _ (by rfl) Tryz.underlying88 Tryz.infoBys rfl (by decide) (by rfl) (by rfl) HRW.out (news:=[.slice (some ⟨wr.heap.size,0,none⟩) 64 64]) rfl HCE.out (by intro u hu;simp at hu;subst hu;rfl) (by have:=HK.out;unfold maxLen;omega) (by have:=HK.out;omega) HSZ.out ?_
   intro v5 w5 o5 g5
   obtain⟨q1,q2,q3⟩:=H.out.next G2.out HOU.out o5 g5
   obtain⟨p5,c5,rfl⟩:=rows_slice o5
   have HN:Hid (∃ p c vs,Blk w (w5.setCell ⟨b3,0,none⟩ (.slice p5 (k+1) c5)) b2 b3 (k+1) (.slice p (k+1) c) vs (List.replicate (k+1) (AM.zs 64)) false):=⟨p5,c5,_,by rw[List.replicate_succ'];exact q1⟩
   clear q1 o5 g5
   refine hK.out _ _ (q2) (fun hHeld=>?_)
   clear hK K
   (try simp only[Act.put,lay9])
   refine wpAnyH_take (i:=5) (v:=?_) rfl (by kernel_rfl) (by kernel_rfl) (by kernel_rfl) (fun _ _ _ h=>h) (Or.inl ⟨by rfl,?_⟩) (by assumption) ?_
   rotate_left
   ·intro w hSw;(try dsimp only at hSw);first | (go_simp;done) | (go_simp;with_reducible rfl)
   simp only[Act.put,lay9]
   refine wpAnyH_done (by kernel_rfl) ?_ _
   refine lastQ_normal ?_
   go_wp2
   go_roundw
   case rel=>exact⟨k+1,by omega,by go_num,HN⟩
   case measure=>simp[intOf];omega
  ·have i1:¬ (k:Int) < (n:Int):=by omega
   obtain rfl:k=n:=by omega
   have c30:wr.cell? ⟨b3,0,none⟩=some (.slice p k c):=topCell (j:=0) h.top rfl
   have c31:wr.cell? ⟨b3,1,none⟩=some (.bool false):=topCell (j:=1) h.top rfl
   have c20:wr.cell? ⟨b2,0,none⟩=some (.slice none 0 0):=topCell (j:=0) h.res rfl
   have c21:wr.cell? ⟨b2,1,none⟩=some (.bool false):=topCell (j:=1) h.res rfl
   have f20:=topFrozen 0 h.res
   have f21:=topFrozen 1 h.res
   have hst:∀ i,i ≠ b2->((wr.setCell ⟨b2,0,none⟩ (.slice p k c)).setCell ⟨b2,1,none⟩ (.bool false)).heap[i]?=wr.heap[i]?:=fun i hi=>by rw[Below.heap_setCell _ _ _ _ hi,Below.heap_setCell _ _ _ _ hi]
   have HF:Hid (((wr.setCell ⟨b2,0,none⟩ (.slice p k c)).setCell ⟨b2,1,none⟩ (.bool false)).ownsRow w.heap.size 26 1 (.slice p k c) k vs/\(∀ (i:Nat) (u:Value),vs[i]?=some u->Own w.heap.size ((wr.setCell ⟨b2,0,none⟩ (.slice p k c)).setCell ⟨b2,1,none⟩ (.bool false)) u (AM.zs 64))/\w.grownBy ((wr.setCell ⟨b2,0,none⟩ (.slice p k c)).setCell ⟨b2,1,none⟩ (.bool false)) none):=by
    refine⟨ownsRow_same h.row (fun g hg=>?_),fun i u hu=>?_,gb_setCell (gb_setCell h.grown h.lo2 _) h.lo2 _⟩
    ·obtain⟨_,_,c,hc⟩:=rows_blk h.row hg
     exact hst g (ne_ty hc h.res (by decide))
    ·have hik:i < k:=by
      have h1:=(List.getElem?_eq_some_iff.1 hu).1
      have h2:=h.row.1
      omega
     have q:=h.own i u (AM.zs 64) hu (by rw[List.getElem?_replicate,if_pos hik])
     refine q.sameB (fun g hg=>?_)
     obtain⟨_,_,c,hc⟩:=rows_blk q.row hg
     exact hst g (ne_ty hc h.res (by decide))
   have HP:Hid (((wr.setCell ⟨b2,0,none⟩ (.slice p k c)).setCell ⟨b2,1,none⟩ (.bool false)).heap[b2]?=some (.cells #[.slice p k c,.bool false] 101 (0,0))):=by
    show _=_
    rw[heap_setCell_same _ _ _ _ _ _ (heap_setCell_same _ _ _ _ _ _ h.res)]
    rfl
   clear h HX hst
   go_wp2
   (try simp only[Exit.inBlock,Exit.then])
   exact bodyPost_ret (results_cell_row rfl _ _ b2 101 #[.slice p k c,.bool false] (0,0) _ rfl HP.out Tryz.underlying101 rfl Tryz.sizeDsk) rfl ⟨p,c,rfl,vs,HF.out⟩
theorem step_append_at {ops:Array Oper} {o:Oper} {ac:Act} {w:World} {K:Act->World->Prop} {Q:Exit->Act->World->Prop} {E:Prop} (hgd:o.guard=none) (d s:Operand) {t e:TypeId} {z:Value} {size bytes:Nat}
 (ho:o.op=.call { callee:=.builtin .append,args:=#[d,s],argTypes:=#[t,t] }) (hu:Tryz.prog.underlying t=some (.slice e)) (hinfo:(Tryz.prog.info? e).map (fun i=>(i.zero,i.size,i.bytes))=some (some z,size,bytes)) (hzs:z.cells.size=size) (hsz:0 < size)
 {v:Value} {n:Nat} {xs:List Value} {a:Addr} {m c:Nat} {news:List Value} (hed:ac.eval d=v) (hes:ac.eval s=.slice (some a) m c) (hown:w.ownsRow 0 e size v n xs) (hm:0 < m) (hl:news.length=m * size) (hnews:∀ j u,news[j]?=some u->w.cell? (a.add j)=some u) (h1:∀ u ∈ news,u.oneCell'=true)
 (h63:n+m<=maxLen) (hbytes:(n+m) * bytes<=140737488355328)
 (h:∀ g cap w',w'.ownsRow 0 e size (.slice (some ⟨g,0,none⟩) (n+m) cap) (n+m) (xs++news)->w.grownBy w' v.ownBlock->(v.ownBlock=some g\/g=w.heap.size)->K (ac.put o.dst (.slice (some ⟨g,0,none⟩) (n+m) cap)) w'):if Region.wanted o (yielded ops ac.tmps)=true then Oper.wp Tryz.prog o ac w K Q else E:=by
 have hw:Region.wanted o (yielded ops ac.tmps)=true:=by simp[Region.wanted,hgd]
 rw[if_pos hw]
 obtain⟨g,cap,w',hrun,r1,r2,r3⟩:=run_append_at (ty:=o.type) (c:=c) hu hinfo hzs hsz hown hm hl hnews h1 h63 hbytes
 unfold Oper.wp
 simp[execOp,ho,resolve,invoke,builtin,hed,hes,hrun,Result.andThen]
 exact h _ _ _ r1 r2 r3
theorem zeroDsk:(Tryz.prog.info? 101).map (fun i=>(i.zero,i.size,i.bytes))=some (some (.agg #[.slice none 0 0,.bool false]),2,32):=by kernel_rfl
theorem run_zeroDsk (w:World):(zeroValue 101).run Tryz.prog w=.ok (.agg #[.slice none 0 0,.bool false]) w:=by
 obtain⟨i,hi,h0,h1,h2⟩:=info_parts zeroDsk
 simp[zeroValue,typeInfo,hi,h0]
theorem lit_dsk (w:World) (p:Option Addr) (n c:Nat) (b:Bool):(Instr.buildSlice 96 1 #[(0,.agg #[.slice p n c,.bool b])]).run Tryz.prog w=.ok (.slice (some ⟨w.heap.size,0,none⟩) 1 1) (w.alloc (.cells #[.slice p n c,.bool b] 101)):=by
 have hf:∀ z:Array Value,z.size=2->Instr.fill (fun i=>some (i * 2,2)) z [(0,.agg #[.slice p n c,.bool b])]=some #[.slice p n c,.bool b]:=by
  intro z hz
  rw[fill_one (cs:=[.slice p n c,.bool b]) (out:=[.slice p n c,.bool b]) rfl rfl rfl (by simp;omega) (by simp[hz])]
  rfl
 simp[Instr.buildSlice,run_underlying Tryz.underlying96,run_size Tryz.sizeDsk,run_zeroDsk,newRow,hf]
theorem drow_app {ds:List Value} {D:List (Option (List (List Nat)))} (h:ds.length=D.length) (v:Value) (o:Option (List (List Nat))):drow (ds++[v]) (D++[o])=drow ds D++[v,.bool o.isNone]:=by
 unfold drow
 rw[List.zip_append h,List.flatMap_append]
 rfl
section
variable {G:Nat->Prop} {w:World} {r:Nat} {A:AM.RA} {dp:Option Addr} {dc:Nat} {ds:List Value} {lp:Option Addr} {lc:Nat} {fs:List Value}
theorem RL.grew (h:RL G w r dp dc ds lp lc fs A) {w1:World} (g1:w.grownBy w1 none) {v:Value} {o:Option (List (List Nat))}
 (ho:(o=none/\v=.slice none 0 0)\/∃ (ss:List (List Nat)) (vs:List Value),o=some ss/\w1.ownsRow w.heap.size 26 1 v A.n vs/\ss.length=A.n/\∀ (k:Nat) (u:Value) (b:List Nat),vs[k]?=some u->ss[k]?=some b->Own w.heap.size w1 u b)
 {dg cap:Nat} {w5:World} (o5:w5.ownsRow 0 101 2 (.slice (some ⟨dg,0,none⟩) (A.D.length+1) cap) (A.D.length+1) (drow ds A.D++[v,.bool o.isNone])) (g5:w1.grownBy w5 (Value.slice dp A.D.length dc).ownBlock) (hw:(Value.slice dp A.D.length dc).ownBlock=some dg\/w.heap.size<=dg) (hd:A.D.length+1<=255) :
 w5.cell? ⟨r,0,none⟩=some (.slice dp A.D.length dc)/\w5.frozen? ⟨r,0,none⟩=false/\∃ G',RIs G' (w5.setCell ⟨r,0,none⟩ (.slice (some ⟨dg,0,none⟩) (A.D.length+1) cap)) r { A with D:=A.D++[o] }/\Step G w G' (w5.setCell ⟨r,0,none⟩ (.slice (some ⟨dg,0,none⟩) (A.D.length+1) cap)):=by
 have gw:w.grownBy w5 (Value.slice dp A.D.length dc).ownBlock:=grown_trans (grown_any g1 _) g5
 have hne:∀ (i:Nat) (c:Array Value) (t:TypeId),w.heap[i]?=some (.cells c t (0,0))->t ≠ 101->w5.heap[i]?=w.heap[i]?:=fun i c t hi ht=>gw.block i (Array.getElem?_eq_some_iff.1 hi).1 (fun e=>by
  obtain⟨c',hc'⟩:=rowBlock h.dsk e.symm
  exact ht (heap_ty hi hc'))
 have hnew:∀ i,w.heap.size<=i->i < w1.heap.size->w5.heap[i]?=w1.heap[i]?:=fun i hi hl=>g5.block i hl (fun e=>by
  have:=h.lt i (h.Gd i e.symm)
  omega)
 have ht5:=(hne r _ _ h.top (by decide)).trans h.top
 have hs:∀ i,i ≠ r->(w5.setCell ⟨r,0,none⟩ (.slice (some ⟨dg,0,none⟩) (A.D.length+1) cap)).heap[i]?=w5.heap[i]?:=fun i hi=>Below.heap_setCell _ _ _ _ hi
 have hlt5:dg < w5.heap.size:=(rows_blk o5 rfl).2.1
 refine⟨topCell (j:=0) ht5 rfl,topFrozen 0 ht5,fun i=>G i\/(w.heap.size<=i/\i < w5.heap.size),⟨some ⟨dg,0,none⟩,cap,ds++[v],lp,lc,fs,?_⟩,⟨⟨gw.os,gw.tape,gw.output,by simpa using gw.size,fun i hi hn=>?_⟩,fun i hi=>?_⟩⟩
 ·have hlen:(A.D++[o]).length=A.D.length+1:=by simp
  have hsp:∀ (i:Nat) (u:Value),(ds++[v])[i]?=some u->(i < A.D.length/\ds[i]?=some u)\/(i=A.D.length/\u=v):=fun i u hu=>by
   by_cases c:i < ds.length
   ·rw[List.getElem?_append_left c] at hu
    exact .inl ⟨by rw[<- h.dlen];exact c,hu⟩
   ·have hi:=(List.getElem?_eq_some_iff.1 hu).1
    simp at hi
    have e:i=ds.length:=by omega
    subst e
    rw[List.getElem?_append_right (Nat.le_refl _),Nat.sub_self] at hu
    exact .inr ⟨h.dlen,(Option.some.inj hu).symm⟩
  have hvn:∀ g,v.ownBlock=some g->w.heap.size<=g/\g < w1.heap.size:=fun g hg=>by
   rcases ho with ⟨_,rfl⟩ | ⟨ss,vs,_,h2,_⟩
   ·cases hg
   ·exact⟨(rows_blk h2 hg).1,(rows_blk h2 hg).2.1⟩
  have hto:∀ (i:Nat) (c:Array Value) (t:TypeId),w.heap[i]?=some (.cells c t (0,0))->t ≠ 101->t ≠ 99->(w5.setCell ⟨r,0,none⟩ (.slice (some ⟨dg,0,none⟩) (A.D.length+1) cap)).heap[i]?=w.heap[i]?:=fun i c t hi h1 h2=>by
   rw[hs i (ne_ty hi h.top h2),hne i c t hi h1]
  have htn:∀ (i:Nat) (c:Array Value) (t:TypeId),w.heap.size<=i->w1.heap[i]?=some (.cells c t (0,0))->(w5.setCell ⟨r,0,none⟩ (.slice (some ⟨dg,0,none⟩) (A.D.length+1) cap)).heap[i]?=w1.heap[i]?:=fun i c t hl hi=>by
   rw[hs i (by have:=h.lt r h.Gr;omega),hnew i hl (Array.getElem?_eq_some_iff.1 hi).1]
  have hsec:=h.sec_same (w':=w5.setCell ⟨r,0,none⟩ (.slice (some ⟨dg,0,none⟩) (A.D.length+1) cap)) (fun g c _ hc=>hto g c _ hc (by decide) (by decide)) (fun g c _ hc=>hto g c _ hc (by decide) (by decide))
  refine⟨fun i hi=>?_,?_,?_,by simp[h.dlen],fun i u hu=>?_,ownsRow_same h.fly (fun g hg=>?_),h.flen,fun i u x hu hx=>⟨(h.fv_same (fun g c _ hc=>hto g c _ hc (by decide) (by decide)) i u x hu hx).1,fun g hg=>.inl ((h.fv i u x hu hx).2 g hg)⟩,.inl h.Gr,fun g hg=>?_,fun i u hu g hg=>?_,fun g hg=>.inl (h.Gl g hg),fun i j u u' hu hu' g hg hg'=>?_,h.left,h.n2,by rw[hlen];exact hd⟩
  ·rcases hi with hi | hi
   ·simpa using Nat.lt_of_lt_of_le (h.lt i hi) gw.size
   ·simpa using hi.2
  ·rw[heap_setCell_same _ _ _ _ _ _ ht5,hlen];rfl
  ·rw[hlen,drow_app h.dlen]
   exact ownsRow_same o5 (fun g hg=>by
    obtain⟨_,_,c,hc⟩:=rows_blk o5 hg
    exact hs g (ne_ty hc ht5 (by decide)))
  ·rcases hsp i u hu with ⟨hi,hu⟩ | ⟨rfl,rfl⟩
   ·have e:(A.D++[o])[i]?=A.D[i]?:=List.getElem?_append_left hi
    rcases hsec i u hu with ⟨h1,h2⟩ | ⟨ss,vs,h1,h2,h3,h4⟩
    ·exact .inl ⟨by rw[<- h1];exact e,h2⟩
    ·exact .inr ⟨ss,vs,by rw[<- h1];exact e,h2,h3,fun k u b hu hb=>⟨(h4 k u b hu hb).1,fun g hg=>.inl ((h4 k u b hu hb).2 g hg)⟩⟩
   ·have e:(A.D++[o])[A.D.length]?=some o:=by simp
    rcases ho with ⟨rfl,h2⟩ | ⟨ss,vs,rfl,h2,h3,h4⟩
    ·exact .inl ⟨e,h2⟩
    ·refine .inr ⟨ss,vs,e,ownsRow_down (ownsRow_same h2 (fun g hg=>?_)) (Nat.zero_le _),h3,fun k u b hu hb=>?_⟩
     ·obtain⟨hlo,_,c,hc⟩:=rows_blk h2 hg
      exact htn g c _ hlo hc
     ·have q:=h4 k u b hu hb
      refine⟨(q.sameB (fun g hg=>?_)).down (Nat.zero_le _),fun g hg=>.inr ?_⟩
      ·obtain⟨hlo,_,c,hc⟩:=rows_blk q.row hg
       exact htn g c _ hlo hc
      ·obtain⟨hlo,hhi,_⟩:=rows_blk q.row hg
       exact⟨hlo,Nat.lt_of_lt_of_le hhi g5.size⟩
  ·obtain⟨c,hc⟩:=rowBlock h.fly hg
   exact hto g c _ hc (by decide) (by decide)
  ·rw[hlen] at hg
   obtain rfl:dg=g:=Option.some.inj hg
   rcases hw with hw | hw
   ·exact .inl (h.Gd _ hw)
   ·exact .inr ⟨hw,hlt5⟩
  ·rcases hsp i u hu with ⟨hi,hu⟩ | ⟨rfl,rfl⟩
   ·exact .inl (h.Gs i u hu g hg)
   ·exact .inr ⟨(hvn g hg).1,Nat.lt_of_lt_of_le (hvn g hg).2 g5.size⟩
  ·rcases hsp i u hu with ⟨hi,hu1⟩ | ⟨e1,e2⟩
   ·rcases hsp j u' hu' with ⟨hj,hu2⟩ | ⟨e3,e4⟩
    ·exact h.ap i j u u' hu1 hu2 g hg hg'
    ·have a1:=hvn g (by rw[<- e4];exact hg')
     have a2:=h.lt g (h.Gs i u hu1 g hg)
     omega
   ·rcases hsp j u' hu' with ⟨hj,hu2⟩ | ⟨e3,e4⟩
    ·have a1:=hvn g (by rw[<- e2];exact hg)
     have a2:=h.lt g (h.Gs j u' hu2 g hg')
     omega
    ·omega
 ·rw[hs i (fun e=>hn (by rw[e];exact h.Gr))]
  exact gw.block i hi (fun e=>hn (h.Gd i e.symm))
 ·rcases hi with hi | hi
  ·exact .inl hi
  ·exact .inr hi.1
end
def mkTo (n i:Nat):AM.RA:=⟨List.replicate i (some (List.replicate n (AM.zs 64))),n,[],0,false⟩
theorem mkTo_len (n i:Nat):(mkTo n i).D.length=i:=by simp[mkTo]
theorem mkTo_step (n i:Nat):({ mkTo n i with D:=(mkTo n i).D++[some (List.replicate n (AM.zs 64))] }:AM.RA)=mkTo n (i+1):=by simp[mkTo,List.replicate_succ']
set_option maxRecDepth 100000 in
set_option maxHeartbeats 800000 in
theorem rnew_yes {w:World} {N n:Nat} (h1:1<=N) (h2:N<=255) (h3:1<=n) (h4:n<=4096):Calls Tryz.prog 23 #[.int .i64 (N:Int),.int .i64 (n:Int)] w fun e w'=>∃ r,e=.returned (.tuple #[rptr r,.int .i64 0])/\∃ G,RIs G w' r (AM.RA.new N n)/\Base w G w':=by
 have j1:¬ (N:Int) < 1:=by omega
 have j2:¬ (255:Int) < (N:Int):=by omega
 have j3:¬ (n:Int) < 1:=by omega
 have j4:¬ (4096:Int) < (n:Int):=by omega
 have HN4:Hid (n<=4096):=h4
 have H0:Hid (∃ G,RIs G (w.alloc (.cells #[.slice none 0 0,.int .i64 (n:Int),.slice none 0 0,.int .i64 0,.bool false] 99)) w.heap.size (mkTo n 0)/\Base w G (w.alloc (.cells #[.slice none 0 0,.int .i64 (n:Int),.slice none 0 0,.int .i64 0,.bool false] 99))) :=
  ⟨fun i=>i=w.heap.size,⟨none,0,[],none,0,[],fun i hi=>(by subst hi;simp),heap_alloc_new w _,World.ownsRow_nil _ _ _ _,rfl,fun i v hv=>(by simp at hv),World.ownsRow_nil _ _ _ _,rfl,fun i u x hu=>(by simp at hu),rfl,fun g hg=>(by cases hg),fun i v hv=>(by simp at hv),fun g hg=>(by cases hg),fun i j u v hu=>(by simp at hu),(by simp[mkTo]),h4,(by simp[mkTo])⟩,World.grownBy_alloc _ _ none,fun i hi=>by omega⟩
 clear h1 h3 h4
 go_enter Tryz.func23,Tryz.ntmps23
 go_wp2_with fail
 clear j1 j2 j3 j4
 generalize w.alloc (.cells #[.slice none 0 0,.int .i64 (n:Int),.slice none 0 0,.int .i64 0,.bool false] 99)=W0 at *
 generalize w.heap.size=r at *
 go_loopw [7] (fun ti wr=>∃ i:Nat,i<=N/\ti=.int .i64 (i:Int)/\Hid (∃ G,RIs G wr r (mkTo n i)/\Base w G wr)) (fun ti _=>N - (intOf ti).toNat)
 case atStart=>exact⟨0,by omega,rfl,H0.out⟩
 case round =>
  clear H0
  obtain⟨i,hi,rfl,HX⟩:=hrel
  by_cases hlt:i < N
  ·have i1:(i:Int) < (N:Int):=by omega
   obtain⟨G,⟨dp,dc,ds,lp,lc,fs,hrl⟩,hb⟩:=HX.out
   have HRL:Hid (RL G wr r dp dc ds lp lc fs (mkTo n i)):=hrl
   have c0:wr.cell? ⟨r,0,none⟩=some (.slice dp i dc):=by have:=hrl.topCells.1;rw[mkTo_len] at this;exact this
   have HI:Hid (i+1<=255):=by show _<=_;omega
   have HCK:Hid (∀ W,wr.grownBy W none->W.cell? ⟨r,0,none⟩=some (.slice dp i dc)):=fun W g=>g.cell c0 (by simp)
   have HDS:Hid (∀ W,wr.grownBy W none->W.ownsRow 0 101 2 (.slice dp i dc) i (drow ds (mkTo n i).D)):=fun W g=>by
    have:=(hrl.keep g).dsk
    rw[mkTo_len] at this
    exact this
   have HGR:Hid (∀ (w8:World) (p8:Option Addr) (c8:Nat) (vs8:List Value),wr.grownBy w8 none->(w8.ownsRow wr.heap.size 26 1 (.slice p8 n c8) n vs8/\∀ (k:Nat) (u:Value),vs8[k]?=some u->Own wr.heap.size w8 u (AM.zs 64))->∀ (dg cap:Nat) (w5:World),w5.ownsRow 0 101 2 (.slice (some ⟨dg,0,none⟩) (i+1) cap) (i+1) (drow ds (mkTo n i).D++[.slice p8 n c8,.bool false])->(w8.alloc (.cells #[.slice p8 n c8,.bool false] 101)).grownBy w5 (Value.slice dp i dc).ownBlock->((Value.slice dp i dc).ownBlock=some dg\/dg=(w8.alloc (.cells #[.slice p8 n c8,.bool false] 101)).heap.size) ->
    w5.cell? ⟨r,0,none⟩=some (.slice dp i dc)/\w5.frozen? ⟨r,0,none⟩=false/\∃ G,RIs G (w5.setCell ⟨r,0,none⟩ (.slice (some ⟨dg,0,none⟩) (i+1) cap)) r (mkTo n (i+1))/\Base w G (w5.setCell ⟨r,0,none⟩ (.slice (some ⟨dg,0,none⟩) (i+1) cap))):=fun w8 p8 c8 vs8 g8 hv8 dg cap w5 o5 g5 hw5=>by
    obtain⟨k1,k2,G',k3,k4⟩:=hrl.grew (dg:=dg) (cap:=cap) (w5:=w5) (w1:=w8.alloc (.cells #[.slice p8 n c8,.bool false] 101)) (gb_alloc g8 _) (v:=.slice p8 n c8) (o:=some (List.replicate n (AM.zs 64))) (.inr ⟨_,vs8,rfl,ownsRow_same hv8.1 (fun g hg=>Below.heap_alloc _ _ _ (rows_blk hv8.1 hg).2.1),by simp[mkTo],fun k u b hu hb=>by
     obtain rfl:b=AM.zs 64:=(List.mem_replicate.1 (List.mem_of_getElem? hb)).2
     exact (hv8.2 k u hu).keep (World.grownBy_alloc _ _ none)⟩) (by rw[mkTo_len];exact o5) (by rw[mkTo_len];exact g5) (by
      rw[mkTo_len]
      rcases hw5 with h | h
      ·exact .inl h
      ·refine .inr ?_
       rw[h]
       exact Nat.le_trans g8.size (by simp)) (by rw[mkTo_len];exact HI.out)
    rw[mkTo_step] at k3
    rw[mkTo_len] at k1 k3 k4
    exact⟨k1,k2,G',k3,hb.step k4⟩
   clear hrl hb HX
   go_wp2_with fail
   refine region_late (S:=(fun w'=>w'.cell? ⟨r,0,none⟩=some (.slice dp i dc))) (by simp only[List.pop_toArray,List.dropLast];exact rfl) (by rfl) (by kernel_rfl) (by kernel_rfl) ?_ (fun hHeld=>?_)
   ·exact HCK.out _ (grown_drewN _ 1)
   refine wpAnyH_take (i:=0) (v:=?_) rfl (by kernel_rfl) (by kernel_rfl) (by kernel_rfl) (fun _ _ _ h=>h) (Or.inl ⟨by rfl,?_⟩) (by assumption) ?_
   rotate_left
   ·intro w hSw;(try dsimp only at hSw);first | (go_simp;done) | (go_simp;with_reducible rfl)
   simp only[Act.put,lay9]
   refine wpAnyH_take (i:=1) (v:=?_) rfl (by kernel_rfl) (by kernel_rfl) (by kernel_rfl) (fun _ _ _ h=>h) (Or.inl ⟨by rfl,?_⟩) (by assumption) ?_
   rotate_left
   ·intro w hSw;(try dsimp only at hSw);first | (go_simp;done) | (go_simp;with_reducible rfl)
   simp only[Act.put,lay9]
   refine wpAnyH_take (i:=2) (v:=?_) rfl (by kernel_rfl) (by kernel_rfl) (by kernel_rfl) (fun _ _ _ h=>h) (Or.inl ⟨by rfl,?_⟩) (by assumption) ?_
   rotate_left
   ·intro w hSw;(try dsimp only at hSw);first | (go_simp;done) | (go_simp;with_reducible rfl)
   simp only[Act.put,lay9]
   refine wpAnyH_take (i:=3) (v:=?_) rfl (by kernel_rfl) (by kernel_rfl) (by kernel_rfl) (fun _ _ _ h=>h) (Or.inl ⟨by rfl,?_⟩) (by assumption) ?_
   rotate_left
   ·intro w hSw;(try dsimp only at hSw);first | (go_simp;done) | (go_simp;with_reducible rfl)
   simp only[Act.put,lay9]
   refine wpAnyH_take (i:=4) (v:=?_) rfl (by kernel_rfl) (by kernel_rfl) (by kernel_rfl) (fun _ _ _ h=>h) (Or.inl ⟨by rfl,?_⟩) (by assumption) ?_
   rotate_left
   ·intro w hSw;(try dsimp only at hSw);first | (go_simp;done) | (go_simp;with_reducible rfl)
   simp only[Act.put,lay9]
   refine wpAnyH_take (i:=5) (v:=?_) rfl (by kernel_rfl) (by kernel_rfl) (by kernel_rfl) (fun _ _ _ h=>h) (Or.inl ⟨by rfl,?_⟩) (by assumption) ?_
   rotate_left
   ·intro w hSw;(try dsimp only at hSw);first | (go_simp;done) | (go_simp;with_reducible rfl)
   simp only[Act.put,lay9]
   refine wpAnyH_ready (rs:=[6]) (by kernel_rfl) (by simp) ?_
   refine AllReadyH.cons rfl (fun K hK=>?_) AllReadyH.nil
   go_simp
   refine (rblank_yes wr.drew HN4.out).mono ?_
   rintro e w8 ⟨p8,c8,vs8,rfl,ho8,hs8,hg8⟩
   have G8:Hid (wr.grownBy w8 none):=grown_trans (grown_drewN _ 1) hg8
   have HO8:Hid (w8.ownsRow wr.heap.size 26 1 (.slice p8 n c8) n vs8/\∀ (k:Nat) (u:Value),vs8[k]?=some u->Own wr.heap.size w8 u (AM.zs 64)):=⟨ho8,hs8⟩
   have G9:Hid (wr.grownBy (w8.alloc (.cells #[.slice p8 n c8,.bool false] 101)) none):=gb_alloc G8.out _
   have hlit:=lit_dsk w8 p8 n c8 false
   clear ho8 hs8 hg8
   refine hK.out _ _ (HCK.out _ G8.out) (fun hHeld=>?_)
   clear hK K
   (try simp only[Act.put,lay9])
   refine wpAnyH_ready (rs:=[7]) (by kernel_rfl) (by simp) ?_
   refine AllReadyH.cons rfl (fun K hK=>?_) AllReadyH.nil
   go_simp
   refine hK.out _ _ (HCK.out _ G9.out) (fun hHeld=>?_)
   clear hK K
   (try simp only[Act.put,lay9])
   refine wpAnyH_ready (rs:=[8]) (by kernel_rfl) (by simp) ?_
   refine AllReadyH.cons rfl (fun K hK=>?_) AllReadyH.nil
   refine step_append_at (by rfl) _ _ (by rfl) Tryz.underlying96 zeroDsk rfl (by decide) (by rfl) (by rfl) (HDS.out _ G9.out) (m:=1) (news:=[.slice p8 n c8,.bool false]) (by decide) rfl (fun j u hj=>by rw[add_at,Nat.zero_add];exact topCell (heap_alloc_new w8 _) (by simpa using hj)) (by intro u hu;simp at hu;rcases hu with rfl | rfl <;> rfl) (by have:=HI.out;unfold maxLen;omega) (by have:=HI.out;omega) ?_
   intro dg5 cap5 w5 o5 g5 hw5
   obtain⟨k1,k2,k3⟩:=HGR.out w8 p8 c8 vs8 G8.out HO8.out _ _ w5 o5 g5 hw5
   have HX5:Hid (∃ G,RIs G (w5.setCell ⟨r,0,none⟩ (.slice (some ⟨dg5,0,none⟩) (i+1) cap5)) r (mkTo n (i+1))/\Base w G (w5.setCell ⟨r,0,none⟩ (.slice (some ⟨dg5,0,none⟩) (i+1) cap5))):=k3
   clear o5 g5 hw5 k3
   refine hK.out _ _ (k1) (fun hHeld=>?_)
   clear hK K
   (try simp only[Act.put,lay9])
   refine wpAnyH_take (i:=9) (v:=?_) rfl (by kernel_rfl) (by kernel_rfl) (by kernel_rfl) (fun _ _ _ h=>h) (Or.inl ⟨by rfl,?_⟩) (by assumption) ?_
   rotate_left
   ·intro w hSw;(try dsimp only at hSw);first | (go_simp;done) | (go_simp;with_reducible rfl)
   simp only[Act.put,lay9]
   refine wpAnyH_take (i:=10) (v:=?_) rfl (by kernel_rfl) (by kernel_rfl) (by kernel_rfl) (fun _ _ _ h=>h) (Or.inl ⟨by rfl,?_⟩) (by assumption) ?_
   rotate_left
   ·intro w hSw;(try dsimp only at hSw);first | (go_simp;done) | (go_simp;with_reducible rfl)
   simp only[Act.put,lay9]
   refine wpAnyH_done (by kernel_rfl) ?_ _
   refine lastQ_normal ?_
   go_wp2
   go_roundw
   case rel=>exact⟨i+1,by omega,by go_num,HX5⟩
   case measure=>simp[intOf];omega
  ·have i1:¬ (i:Int) < (N:Int):=by omega
   obtain rfl:i=N:=by omega
   go_wp2
   go_ret2
   exact⟨r,rfl,HX.out⟩
section
variable {F G F' G':Nat->Prop} {w0 w w':World} {a r:Nat} {R R':AM.Raw} {A A':AM.RA}
theorem Is.aside (h:Is F w a R) (s:Step G w G' w') (hs:∀ k,F k->G k->False):Is F w' a R/\∀ k,F k->G' k->False:=by
 obtain⟨h1,h2,h3⟩:=s.other h.lt (fun k hg hf=>hs k hf hg)
 exact⟨h.same h1 h2,fun k hf hg=>h3 k hg hf⟩
end
end Go.Proofs.YtlklmhojadlncaaGreat
