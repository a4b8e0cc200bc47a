/- Packed: RWr6, ROn6, RDset6, RLose6. -/
import Derived.Test.YtaalagkbpeinkaaGreatMp10
set_option linter.unusedSimpArgs false
set_option linter.unusedVariables false
set_option maxRecDepth 100000
namespace Go.Proofs.YtaalagkbpeinkaaGreat
open Go.RowKit
theorem zeroFly:(Tryz.prog.info? 138).map (fun i=>(i.zero,i.size,i.bytes))=some (some (.agg #[.int .i64 0,.int .i64 0,.slice none 0 0]),3,40):=by kernel_rfl
theorem run_zeroFly (w:World):(zeroValue 138).run Tryz.prog w=.ok (.agg #[.int .i64 0,.int .i64 0,.slice none 0 0]) w:=by
 obtain⟨i,hi,h0,h1,h2⟩:=info_parts zeroFly
 simp[zeroValue,typeInfo,hi,h0]
theorem Tryz.sizeFly:(Tryz.prog.info? 138).map (·.size)=some 3:=by kernel_rfl
theorem lit_fly (w:World) (d k:Int) (p:Option Addr) (n c:Nat):(Instr.buildSlice 84 1 #[(0,.agg #[.int .i64 d,.int .i64 k,.slice p n c])]).run Tryz.prog w=.ok (.slice (some ⟨w.heap.size,0,none⟩) 1 1) (w.alloc (.cells #[.int .i64 d,.int .i64 k,.slice p n c] 138)):=by
 have hf:∀ z:Array Value,z.size=3->Instr.fill (fun i=>some (i * 3,3)) z [(0,.agg #[.int .i64 d,.int .i64 k,.slice p n c])]=some #[.int .i64 d,.int .i64 k,.slice p n c]:=by
  intro z hz
  rw[fill_one (cs:=[.int .i64 d,.int .i64 k,.slice p n c]) (out:=[.int .i64 d,.int .i64 k,.slice p n c]) rfl rfl rfl (by simp;omega) (by simp[hz])]
  rfl
 simp[Instr.buildSlice,run_underlying Tryz.underlying84,run_size Tryz.sizeFly,run_zeroFly,newRow,hf]
theorem frow_app {fs:List Value} {L:List AM.Fl} (h:fs.length=L.length) (u:Value) (x:AM.Fl):frow (fs++[u]) (L++[x])=frow fs L++[.int .i64 (x.d:Int),.int .i64 (x.k:Int),u]:=by
 unfold frow
 rw[List.zip_append h,List.flatMap_append]
 rfl
theorem step_append_fly {ops:Array Oper} {o:Oper} {ac:Act} {w:World} {K:Act->World->Prop} {Q:Exit->Act->World->Prop} {E:Prop} (hgd:o.guard=none) (d s:Operand)
 (ho:o.op=.call { callee:=.builtin .append,args:=#[d,s],argTypes:=#[84,84] }) (dv:Value) {g c M:Nat} {xs:List Value} {a b:Int} {p:Option Addr} {n m:Nat} (hed:ac.eval d=dv) (hes:ac.eval s=.slice (some ⟨g,0,none⟩) 1 c)
 (hr:w.ownsRow 0 138 3 dv M xs) (hg:w.heap[g]?=some (.cells #[.int .i64 a,.int .i64 b,.slice p n m] 138 (0,0))) (hL:M<=1000000)
 (h:∀ g' cap w',w'.ownsRow 0 138 3 (.slice (some ⟨g',0,none⟩) (M+1) cap) (M+1) (xs++[.int .i64 a,.int .i64 b,.slice p n m])->w.grownBy w' dv.ownBlock->(dv.ownBlock=some g'\/g'=w.heap.size)->K (ac.put o.dst (.slice (some ⟨g',0,none⟩) (M+1) cap)) w') :
 if Region.wanted o (yielded ops ac.tmps)=true then Oper.wp Tryz.prog o ac w K Q else E:=by
 have hw:Region.wanted o (yielded ops ac.tmps)=true:=by simp[Region.wanted,hgd]
 rw[if_pos hw]
 obtain⟨g',cap,w',hrun,r1,r2,r3⟩:=run_append_at (ty:=o.type) (c:=c) Tryz.underlying84 zeroFly rfl (by decide) hr (a:=⟨g,0,none⟩) (m:=1) (news:=[.int .i64 a,.int .i64 b,.slice p n m]) (by decide) rfl (fun j u hj=>by rw[add_at,Nat.zero_add];exact topCell hg (by simpa using hj)) (by intro u hu;simp at hu;rcases hu with rfl | rfl | rfl <;> rfl) (by unfold maxLen;omega) (by omega)
 unfold Oper.wp
 simp[execOp,ho,resolve,invoke,builtin,hed,hes,hrun,Result.andThen]
 exact h _ _ _ r1 r2 r3
section
variable {G:Nat->Prop} {w:World} {r:Nat} {A:AM.RA}
theorem RL.flew {dp:Option Addr} {dc:Nat} {ds:List Value} {lp:Option Addr} {lc:Nat} {fs:List Value} (h:RL G w r dp dc ds lp lc fs A) {w8:World} {u:Value} {b:List Nat} (g8:w.grownBy w8 none) (hu:Own w.heap.size w8 u b) {d k:Nat} {C:Array Value} {g5 cap5:Nat} {w5:World}
 (o5:w5.ownsRow 0 138 3 (.slice (some ⟨g5,0,none⟩) (A.L.length+1) cap5) (A.L.length+1) (frow fs A.L++[.int .i64 (d:Int),.int .i64 (k:Int),u])) (g:(w8.alloc (.cells C 138)).grownBy w5 (Value.slice lp A.L.length lc).ownBlock) (hw:(Value.slice lp A.L.length lc).ownBlock=some g5\/g5=(w8.alloc (.cells C 138)).heap.size) :
 w5.cell? ⟨r,2,none⟩=some (.slice lp A.L.length lc)/\w5.frozen? ⟨r,2,none⟩=false/\w.heap.size<=w5.heap.size/\∃ G',RIs G' (w5.setCell ⟨r,2,none⟩ (.slice (some ⟨g5,0,none⟩) (A.L.length+1) cap5)) r (A.fly d k b)/\Step G w G' (w5.setCell ⟨r,2,none⟩ (.slice (some ⟨g5,0,none⟩) (A.L.length+1) cap5)):=by
 have gw:w.grownBy w5 (Value.slice lp A.L.length lc).ownBlock:=grown_trans (grown_any (gb_alloc g8 _) _) g
 have hne:∀ (i:Nat) (c:Array Value) (t:TypeId),i < w.heap.size->w.heap[i]?=some (.cells c t (0,0))->t ≠ 138->w5.heap[i]?=w.heap[i]?:=fun i c t hi hc ht=>gw.block i hi (fun e=>by
  obtain⟨c',hc'⟩:=rowBlock h.fly e.symm
  exact ht (heap_ty hc hc'))
 have hr5:=(hne r _ _ (h.lt r h.Gr) h.top (by decide)).trans h.top
 have hu5:Own 0 w5 u b:=(hu.down (Nat.zero_le _)).same0 (fun x hx=>by
  obtain⟨h1,h2,c,hc⟩:=rows_blk hu.row hx
  have e1:(w8.alloc (.cells C 138)).heap[x]?=w8.heap[x]?:=Below.heap_alloc w8 _ x h2
  rw[g.block x (by simp;omega) (fun e=>by
   have:=h.lt x (h.Gl x e.symm)
   omega),e1])
 have hlt5:g5 < w5.heap.size:=(rows_blk o5 rfl).2.1
 refine⟨topCell (j:=2) hr5 rfl,topFrozen 2 hr5,gw.size,fun i=>G i\/(w.heap.size<=i/\i < w5.heap.size),?_,⟨⟨gw.os,gw.tape,gw.output,by simpa using gw.size,fun i hi hn=>?_⟩,fun i hi=>?_⟩⟩
 ·have:=h.flown (G':=fun i=>G i\/(w.heap.size<=i/\i < w5.heap.size)) (w1:=w5) (fun i hi=>.inl hi) (fun i hi=>by
   rcases hi with hi | hi
   ·exact Nat.lt_of_lt_of_le (h.lt i hi) gw.size
   ·exact hi.2) gw (fun x e=>e) (L':=A.L++[⟨d,k,b⟩]) (fs':=fs++[u]) (lp':=some ⟨g5,0,none⟩) (lc':=cap5) (by rw[frow_app h.flen,List.length_append];exact o5) (by simp[h.flen]) (fun x hx=>by
    obtain rfl:g5=x:=Option.some.inj hx
    rcases hw with hw | hw
    ·exact .inl (h.Gl _ hw)
    ·exact .inr ⟨by rw[hw];exact Nat.le_trans g8.size (by simp),hlt5⟩) (fun i u' x hu' hx=>?_) (w':=w5.setCell ⟨r,2,none⟩ (.slice (some ⟨g5,0,none⟩) (A.L.length+1) cap5)) (by simp)
  ·exact this.is
  ·by_cases hi:i < fs.length
   ·rw[List.getElem?_append_left hi] at hu'
    rw[List.getElem?_append_left (by rw[<- h.flen];exact hi)] at hx
    obtain⟨q1,q2⟩:=h.fv i u' x hu' hx
    exact⟨q1.same0 (fun y hy=>by
     obtain⟨c,hc⟩:=rowBlock q1.row hy
     exact hne y c _ (h.lt y (q2 y hy)) hc (by decide)),fun y hy=>.inl (q2 y hy)⟩
   ·have hie:i=fs.length:=by
     have:=(List.getElem?_eq_some_iff.1 hu').1
     simp at this
     omega
    rw[hie,List.getElem?_append_right (Nat.le_refl _),Nat.sub_self] at hu'
    rw[hie,h.flen,List.getElem?_append_right (Nat.le_refl _),Nat.sub_self] at hx
    obtain rfl:u=u':=Option.some.inj hu'
    obtain rfl:=Option.some.inj hx
    exact⟨hu5,fun y hy=>.inr ⟨(rows_blk hu.row hy).1,(rows_blk hu5.row hy).2.1⟩⟩
 ·rw[Below.heap_setCell _ _ _ _ (by intro e;have e:i=r:=e;rw[e] at hn;exact hn h.Gr)]
  exact gw.block i hi (fun e=>hn (h.Gl i e.symm))
 ·rcases hi with hi | hi
  ·exact .inl hi
  ·exact .inr hi.1
set_option maxHeartbeats 3200000 in
set_option maxRecDepth 100000 in
theorem rwrite_fly (h:RIs G w r A) {d k:Nat} {v:Value} {b:List Nat} (hr:A.why (d:Int) (k:Int)=0) (hv:Vec w v b) (hvF:b ≠ []->∀ g,v.ownBlock=some g->¬ G g) (hb:b.length=64) (hbu:A.burns=false) (hL:A.L.length<=1000000) :
 Calls Tryz.prog 119 #[rptr r,.int .i64 (d:Int),.int .i64 (k:Int),v] w fun e w'=>e=.returned (.int .i64 0)/\∃ G',RIs G' w' r (A.burnt.fly d k b)/\Step G w G' w':=by
 have HC:Hid (Calls Tryz.prog 97 #[rptr r,.int .i64 (d:Int),.int .i64 (k:Int)] w fun e w'=>e=.returned (.int .i64 0)/\w'=w):=by have:=rwhy_yes h (d:Int) (k:Int);rw[hr] at this;exact this
 have HGO:Hid (Calls Tryz.prog 91 #[rptr r] w fun e w'=>e=.returned (.bool false)/\RIs G w' r A.burnt/\Step G w G w'):=by have:=rgoes_yes h (rwhy_zero hr).1;rw[hbu] at this;exact this
 obtain⟨pv,nv,cv,rfl,hnv⟩:=hv.opened
 obtain rfl:nv=64:=by omega
 have HVU:Hid (∀ W,Upd G w W->Vec W (.slice pv 64 cv) b):=fun W u=>hv.upd u hvF
 obtain⟨_,_,b3⟩:=AM.rburnt_D A
 rw[<- b3] at hL
 obtain⟨A1,hA1⟩:∃ A1,A1=A.burnt:=⟨_,rfl⟩
 rw[<- hA1] at HGO hL ⊢
 clear h hr hv hvF hbu hnv b3 hA1 hb
 go_enter Tryz.func119,Tryz.ntmps119
 go_wp2_with (first
  | (go_at_call 97;refine HC.out.mono ?_;rintro e w1 ⟨rfl,hw⟩;obtain rfl:=hw.symm;clear hw)
  | (go_at_call 91;refine HGO.out.mono ?_;rintro e w1 ⟨rfl,hi1,hs1⟩;have HI1:Hid (RIs G w1 r A1/\Step G w G w1):=⟨hi1,hs1⟩;clear hi1 hs1)
  | fail)
 obtain⟨dp,dc,ds,lp,lc,fs,h1⟩:=HI1.out.1
 have HVB:Hid (Vec w1.drew (.slice pv 64 cv) b):=(HVU.out w1 HI1.out.2.upd).keep (grown_drewN _ 1)
 obtain⟨M,hM⟩:∃ M,M=A1.L.length:=⟨_,rfl⟩
 obtain⟨_,_,zc2,_,_⟩:=h1.topCells
 have c2:w1.cell? ⟨r,2,none⟩=some (.slice lp M lc):=by rw[hM];exact zc2
 have HC8:Hid (∀ W,w1.grownBy W none->W.cell? ⟨r,2,none⟩=some (.slice lp M lc)):=fun W g=>g.cell c2 (by simp)
 have HFL8:Hid (∀ (W:World),w1.grownBy W none->∀ C:Array Value,(W.alloc (.cells C 138)).ownsRow 0 138 3 (.slice lp M lc) M (frow fs A1.L)):=fun W g C=>by
  rw[hM]
  exact ownsRow_same h1.fly (fun x hx=>(gb_alloc g _).block x (h1.lt x (h1.Gl x hx)) (by simp))
 obtain⟨z,hz⟩:∃ z,z=w1.heap.size:=⟨_,rfl⟩
 have HZ:Hid (z<=w1.drew.heap.size):=by show z<=w1.heap.size;omega
 have HZ8:Hid (∀ W:World,w1.grownBy W none->z<=W.heap.size):=fun W g=>by have:=g.size;omega
 have FIN:Hid (∀ (w8:World) (u:Value),w1.grownBy w8 none->Own w1.heap.size w8 u b->∀ (g5 cap5:Nat) (w5:World),w5.ownsRow 0 138 3 (.slice (some ⟨g5,0,none⟩) (M+1) cap5) (M+1) (frow fs A1.L++[.int .i64 (d:Int),.int .i64 (k:Int),u])->(w8.alloc (.cells #[.int .i64 (d:Int),.int .i64 (k:Int),u] 138)).grownBy w5 (Value.slice lp M lc).ownBlock->((Value.slice lp M lc).ownBlock=some g5\/g5=(w8.alloc (.cells #[.int .i64 (d:Int),.int .i64 (k:Int),u] 138)).heap.size) ->
  w5.cell? ⟨r,2,none⟩=some (.slice lp M lc)/\w5.frozen? ⟨r,2,none⟩=false/\z<=w5.heap.size/\z<=(w5.setCell ⟨r,2,none⟩ (.slice (some ⟨g5,0,none⟩) (M+1) cap5)).heap.size/\∃ G',RIs G' (w5.setCell ⟨r,2,none⟩ (.slice (some ⟨g5,0,none⟩) (M+1) cap5)) r (A1.fly d k b)/\Step G w G' (w5.setCell ⟨r,2,none⟩ (.slice (some ⟨g5,0,none⟩) (M+1) cap5))):=fun w8 u g8 hu g5 cap5 w5 o5 gr5 hw5=>by
  rw[hM] at o5 gr5 hw5 ⊢
  obtain⟨q1,q2,q3,G',q4,q5⟩:=h1.flew g8 hu (d:=d) (k:=k) o5 gr5 hw5
  exact⟨q1,q2,by omega,by simp;omega,G',q4,HI1.out.2.trans q5⟩
 rw[<- hM] at hL
 clear h1 hM hz zc2 HI1 HVU HGO HC
 refine wp_region_noPanic ?_
 refine wp_region_held_drew (S:=fun w'=>z<=w'.heap.size) (by kernel_rfl) ?_ (fun hHeld=>?_)
 ·exact HZ.out
 refine wpAnyH_take (i:=0) (v:=?_) rfl (by kernel_rfl) (by kernel_rfl) (by kernel_rfl) (fun _ _ _ h=>h) (Or.inl ⟨by rfl,?_⟩) (by assumption) ?_
 rotate_left
 ·intro w hSw;(try dsimp only at hSw);first | (go_simp;done) | (go_simp;with_reducible rfl)
 simp only[Act.put,lay9]
 refine wpAnyH_take (i:=1) (v:=?_) rfl (by kernel_rfl) (by kernel_rfl) (by kernel_rfl) (fun _ _ _ h=>h) (Or.inl ⟨by rfl,?_⟩) (by assumption) ?_
 rotate_left
 ·intro w hSw;(try dsimp only at hSw);first | (go_simp;done) | (go_simp;with_reducible rfl)
 simp only[Act.put,lay9]
 refine wpAnyH_take (i:=2) (v:=?_) rfl (by kernel_rfl) (by kernel_rfl) (by kernel_rfl) (fun _ _ _ h=>h) (Or.inl ⟨by rfl,?_⟩) (by assumption) ?_
 rotate_left
 ·intro w hSw;(try dsimp only at hSw);first | (go_simp;done) | (go_simp;with_reducible rfl)
 simp only[Act.put,lay9]
 refine wpAnyH_take (i:=3) (v:=?_) rfl (by kernel_rfl) (by kernel_rfl) (by kernel_rfl) (fun _ _ _ h=>h) (Or.inl ⟨by rfl,?_⟩) (by assumption) ?_
 rotate_left
 ·intro w hSw;(try dsimp only at hSw);first | (go_simp;done) | (go_simp;with_reducible rfl)
 simp only[Act.put,lay9]
 refine wpAnyH_take (i:=5) (v:=?_) rfl (by kernel_rfl) (by kernel_rfl) (by kernel_rfl) (fun _ _ _ h=>h) (Or.inl ⟨by rfl,?_⟩) (by assumption) ?_
 rotate_left
 ·intro w hSw;(try dsimp only at hSw);first | (go_simp;done) | (go_simp;with_reducible rfl)
 simp only[Act.put,lay9]
 refine wpAnyH_take (i:=6) (v:=?_) rfl (by kernel_rfl) (by kernel_rfl) (by kernel_rfl) (fun _ _ _ h=>h) (Or.inl ⟨by rfl,?_⟩) (by assumption) ?_
 rotate_left
 ·intro w hSw;(try dsimp only at hSw);first | (go_simp;done) | (go_simp;with_reducible rfl)
 simp only[Act.put,lay9]
 refine wpAnyH_take (i:=7) (v:=?_) rfl (by kernel_rfl) (by kernel_rfl) (by kernel_rfl) (fun _ _ _ h=>h) (Or.inl ⟨by rfl,?_⟩) (by assumption) ?_
 rotate_left
 ·intro w hSw;(try dsimp only at hSw);first | (go_simp;done) | (go_simp;with_reducible rfl)
 simp only[Act.put,lay9]
 refine wpAnyH_ready (rs:=[4,8]) (by kernel_rfl) (by simp) ?_
 refine AllReadyH.cons rfl (fun K hK=>?_) (AllReadyH.cons rfl (fun K hK=>?_) AllReadyH.nil)
 ·skip
  have c2d:=(show w1.drew.cell? ⟨r,2,none⟩=some (.slice lp M lc) from c2)
  go_simp
  refine hK.out _ _ (HZ.out) (fun hHeld=>?_)
  clear hK K
  clear c2d
  (try simp only[Act.put,lay9])
  refine wpAnyH_ready (rs:=[8]) (by kernel_rfl) (by simp) ?_
  refine AllReadyH.cons rfl (fun K hK=>?_) AllReadyH.nil
  go_simp
  refine (own_any HVB.out).mono ?_
  rintro e w8 ⟨p8,n8,c8,rfl,ho8,hg8⟩
  have HO8:Hid (Own w1.heap.size w8 (.slice p8 n8 c8) b/\w1.grownBy w8 none):=⟨ho8,grown_trans (grown_drewN _ 1) hg8⟩
  clear ho8 hg8
  refine hK.out _ _ (HZ8.out w8 HO8.out.2) (fun hHeld=>?_)
  clear hK K
  (try simp only[Act.put,lay9])
  refine wpAnyH_take (i:=9) (v:=?_) rfl (by kernel_rfl) (by kernel_rfl) (by kernel_rfl) (fun _ _ _ h=>h) (Or.inl ⟨by rfl,?_⟩) (by assumption) ?_
  rotate_left
  ·intro w hSw;(try dsimp only at hSw);first | (go_simp;done) | (go_simp;with_reducible rfl)
  simp only[Act.put,lay9]
  refine wpAnyH_ready (rs:=[10]) (by kernel_rfl) (by simp) ?_
  refine AllReadyH.cons rfl (fun K hK=>?_) AllReadyH.nil
  have hlit:=lit_fly w8 (d:Int) (k:Int) p8 n8 c8
  go_simp
  refine hK.out _ _ (HZ8.out _ (gb_alloc HO8.out.2 _)) (fun hHeld=>?_)
  clear hK K
  clear hlit
  (try simp only[Act.put,lay9])
  refine wpAnyH_ready (rs:=[11]) (by kernel_rfl) (by simp) ?_
  refine AllReadyH.cons rfl (fun K hK=>?_) AllReadyH.nil
  refine step_append_fly (by rfl) _ _ (by rfl) (.slice lp M lc) (g:=w8.heap.size) (by rfl) (by rfl) (HFL8.out w8 HO8.out.2 _) (heap_alloc_new w8 _) hL ?_
  intro g5 cap5 w5 o5 gr5 hw5
  obtain⟨cc5,ff5,hz5,hz6,hfin⟩:=FIN.out w8 (.slice p8 n8 c8) HO8.out.2 HO8.out.1 g5 cap5 w5 o5 ⟨gr5.os,gr5.tape,gr5.output,gr5.size,gr5.block⟩ hw5
  have HFIN:Hid (∃ G',RIs G' (w5.setCell ⟨r,2,none⟩ (.slice (some ⟨g5,0,none⟩) (M+1) cap5)) r (A1.fly d k b)/\Step G w G' (w5.setCell ⟨r,2,none⟩ (.slice (some ⟨g5,0,none⟩) (M+1) cap5))):=hfin
  have HZ6:Hid (z<=(w5.setCell ⟨r,2,none⟩ (.slice (some ⟨g5,0,none⟩) (M+1) cap5)).heap.size):=hz6
  refine hK.out _ _ (hz5) (fun hHeld=>?_)
  clear hK K
  clear o5 gr5 hw5 hz5 hz6 hfin FIN
  (try simp only[Act.put,lay9])
  refine wpAnyH_take (i:=12) (v:=?_) rfl (by kernel_rfl) (by kernel_rfl) (by kernel_rfl) (fun _ _ _ h=>h) (Or.inl ⟨by rfl,?_⟩) (by assumption) ?_
  rotate_left
  ·intro w hSw;(try dsimp only at hSw);first | (go_simp;done) | (go_simp;with_reducible rfl)
  simp only[Act.put,lay9]
  refine wpAnyH_take (i:=13) (v:=?_) rfl (by kernel_rfl) (by kernel_rfl) (by kernel_rfl) (fun _ _ _ h=>h) (Or.inl ⟨by rfl,?_⟩) (by assumption) ?_
  rotate_left
  ·intro w hSw;(try dsimp only at hSw);first | (go_simp;done) | (go_simp;with_reducible rfl)
  simp only[Act.put,lay9]
  refine wpAnyH_ready (rs:=[14]) (by kernel_rfl) (by simp) ?_
  refine AllReadyH.cons rfl (fun K hK=>?_) AllReadyH.nil
  go_simp
  refine hK.out _ _ (HZ6.out) (fun hHeld=>?_)
  clear hK K
  refine wpAnyH_done (by kernel_rfl) ?_ _
  refine NoPanic.normal ?_
  go_wp2
  go_ret
  exact⟨rfl,HFIN.out⟩
 ·skip
  go_simp
  refine (own_any HVB.out).mono ?_
  rintro e w8 ⟨p8,n8,c8,rfl,ho8,hg8⟩
  have HO8:Hid (Own w1.heap.size w8 (.slice p8 n8 c8) b/\w1.grownBy w8 none):=⟨ho8,grown_trans (grown_drewN _ 1) hg8⟩
  clear ho8 hg8
  refine hK.out _ _ (HZ8.out w8 HO8.out.2) (fun hHeld=>?_)
  clear hK K
  (try simp only[Act.put,lay9])
  refine wpAnyH_take (i:=9) (v:=?_) rfl (by kernel_rfl) (by kernel_rfl) (by kernel_rfl) (fun _ _ _ h=>h) (Or.inl ⟨by rfl,?_⟩) (by assumption) ?_
  rotate_left
  ·intro w hSw;(try dsimp only at hSw);first | (go_simp;done) | (go_simp;with_reducible rfl)
  simp only[Act.put,lay9]
  refine wpAnyH_ready (rs:=[4,10]) (by kernel_rfl) (by simp) ?_
  refine AllReadyH.cons rfl (fun K hK=>?_) (AllReadyH.cons rfl (fun K hK=>?_) AllReadyH.nil)
  ·skip
   have c2d:=(HC8.out w8 HO8.out.2)
   go_simp
   refine hK.out _ _ (HZ8.out w8 HO8.out.2) (fun hHeld=>?_)
   clear hK K
   clear c2d
   (try simp only[Act.put,lay9])
   refine wpAnyH_ready (rs:=[10]) (by kernel_rfl) (by simp) ?_
   refine AllReadyH.cons rfl (fun K hK=>?_) AllReadyH.nil
   have hlit:=lit_fly w8 (d:Int) (k:Int) p8 n8 c8
   go_simp
   refine hK.out _ _ (HZ8.out _ (gb_alloc HO8.out.2 _)) (fun hHeld=>?_)
   clear hK K
   clear hlit
   (try simp only[Act.put,lay9])
   refine wpAnyH_ready (rs:=[11]) (by kernel_rfl) (by simp) ?_
   refine AllReadyH.cons rfl (fun K hK=>?_) AllReadyH.nil
   refine step_append_fly (by rfl) _ _ (by rfl) (.slice lp M lc) (g:=w8.heap.size) (by rfl) (by rfl) (HFL8.out w8 HO8.out.2 _) (heap_alloc_new w8 _) hL ?_
   intro g5 cap5 w5 o5 gr5 hw5
   obtain⟨cc5,ff5,hz5,hz6,hfin⟩:=FIN.out w8 (.slice p8 n8 c8) HO8.out.2 HO8.out.1 g5 cap5 w5 o5 ⟨gr5.os,gr5.tape,gr5.output,gr5.size,gr5.block⟩ hw5
   have HFIN:Hid (∃ G',RIs G' (w5.setCell ⟨r,2,none⟩ (.slice (some ⟨g5,0,none⟩) (M+1) cap5)) r (A1.fly d k b)/\Step G w G' (w5.setCell ⟨r,2,none⟩ (.slice (some ⟨g5,0,none⟩) (M+1) cap5))):=hfin
   have HZ6:Hid (z<=(w5.setCell ⟨r,2,none⟩ (.slice (some ⟨g5,0,none⟩) (M+1) cap5)).heap.size):=hz6
   refine hK.out _ _ (hz5) (fun hHeld=>?_)
   clear hK K
   clear o5 gr5 hw5 hz5 hz6 hfin FIN
   (try simp only[Act.put,lay9])
   refine wpAnyH_take (i:=12) (v:=?_) rfl (by kernel_rfl) (by kernel_rfl) (by kernel_rfl) (fun _ _ _ h=>h) (Or.inl ⟨by rfl,?_⟩) (by assumption) ?_
   rotate_left
   ·intro w hSw;(try dsimp only at hSw);first | (go_simp;done) | (go_simp;with_reducible rfl)
   simp only[Act.put,lay9]
   refine wpAnyH_take (i:=13) (v:=?_) rfl (by kernel_rfl) (by kernel_rfl) (by kernel_rfl) (fun _ _ _ h=>h) (Or.inl ⟨by rfl,?_⟩) (by assumption) ?_
   rotate_left
   ·intro w hSw;(try dsimp only at hSw);first | (go_simp;done) | (go_simp;with_reducible rfl)
   simp only[Act.put,lay9]
   refine wpAnyH_ready (rs:=[14]) (by kernel_rfl) (by simp) ?_
   refine AllReadyH.cons rfl (fun K hK=>?_) AllReadyH.nil
   go_simp
   refine hK.out _ _ (HZ6.out) (fun hHeld=>?_)
   clear hK K
   refine wpAnyH_done (by kernel_rfl) ?_ _
   refine NoPanic.normal ?_
   go_wp2
   go_ret
   exact⟨rfl,HFIN.out⟩
  ·skip
   have hlit:=lit_fly w8 (d:Int) (k:Int) p8 n8 c8
   go_simp
   refine hK.out _ _ (HZ8.out _ (gb_alloc HO8.out.2 _)) (fun hHeld=>?_)
   clear hK K
   clear hlit
   (try simp only[Act.put,lay9])
   refine wpAnyH_ready (rs:=[4]) (by kernel_rfl) (by simp) ?_
   refine AllReadyH.cons rfl (fun K hK=>?_) AllReadyH.nil
   have c2d:=(HC8.out _ (gb_alloc HO8.out.2 (.cells #[.int .i64 (d:Int),.int .i64 (k:Int),.slice p8 n8 c8] 138)))
   go_simp
   refine hK.out _ _ (HZ8.out _ (gb_alloc HO8.out.2 _)) (fun hHeld=>?_)
   clear hK K
   clear c2d
   (try simp only[Act.put,lay9])
   refine wpAnyH_ready (rs:=[11]) (by kernel_rfl) (by simp) ?_
   refine AllReadyH.cons rfl (fun K hK=>?_) AllReadyH.nil
   refine step_append_fly (by rfl) _ _ (by rfl) (.slice lp M lc) (g:=w8.heap.size) (by rfl) (by rfl) (HFL8.out w8 HO8.out.2 _) (heap_alloc_new w8 _) hL ?_
   intro g5 cap5 w5 o5 gr5 hw5
   obtain⟨cc5,ff5,hz5,hz6,hfin⟩:=FIN.out w8 (.slice p8 n8 c8) HO8.out.2 HO8.out.1 g5 cap5 w5 o5 ⟨gr5.os,gr5.tape,gr5.output,gr5.size,gr5.block⟩ hw5
   have HFIN:Hid (∃ G',RIs G' (w5.setCell ⟨r,2,none⟩ (.slice (some ⟨g5,0,none⟩) (M+1) cap5)) r (A1.fly d k b)/\Step G w G' (w5.setCell ⟨r,2,none⟩ (.slice (some ⟨g5,0,none⟩) (M+1) cap5))):=hfin
   have HZ6:Hid (z<=(w5.setCell ⟨r,2,none⟩ (.slice (some ⟨g5,0,none⟩) (M+1) cap5)).heap.size):=hz6
   refine hK.out _ _ (hz5) (fun hHeld=>?_)
   clear hK K
   clear o5 gr5 hw5 hz5 hz6 hfin FIN
   (try simp only[Act.put,lay9])
   refine wpAnyH_take (i:=12) (v:=?_) rfl (by kernel_rfl) (by kernel_rfl) (by kernel_rfl) (fun _ _ _ h=>h) (Or.inl ⟨by rfl,?_⟩) (by assumption) ?_
   rotate_left
   ·intro w hSw;(try dsimp only at hSw);first | (go_simp;done) | (go_simp;with_reducible rfl)
   simp only[Act.put,lay9]
   refine wpAnyH_take (i:=13) (v:=?_) rfl (by kernel_rfl) (by kernel_rfl) (by kernel_rfl) (fun _ _ _ h=>h) (Or.inl ⟨by rfl,?_⟩) (by assumption) ?_
   rotate_left
   ·intro w hSw;(try dsimp only at hSw);first | (go_simp;done) | (go_simp;with_reducible rfl)
   simp only[Act.put,lay9]
   refine wpAnyH_ready (rs:=[14]) (by kernel_rfl) (by simp) ?_
   refine AllReadyH.cons rfl (fun K hK=>?_) AllReadyH.nil
   go_simp
   refine hK.out _ _ (HZ6.out) (fun hHeld=>?_)
   clear hK K
   refine wpAnyH_done (by kernel_rfl) ?_ _
   refine NoPanic.normal ?_
   go_wp2
   go_ret
   exact⟨rfl,HFIN.out⟩
end
section
variable {G:Nat->Prop} {w:World} {r:Nat} {A:AM.RA}
theorem rwrite_no (h:RIs G w r A) {d k:Int} {v:Value} (hr:A.why d k ≠ 0):Calls Tryz.prog 119 #[rptr r,.int .i64 d,.int .i64 k,v] w fun e w'=>e=.returned (.int .i64 (A.why d k:Int))/\w'=w:=by
 have HC:Hid (Calls Tryz.prog 97 #[rptr r,.int .i64 d,.int .i64 k] w fun e w'=>e=.returned (.int .i64 (A.why d k:Int))/\w'=w):=rwhy_yes h d k
 have hne:¬ (A.why d k:Int)=0:=by omega
 clear h hr
 generalize (A.why d k:Int)=z at *
 go_enter Tryz.func119,Tryz.ntmps119
 go_wp2_with (go_at_call 97;refine HC.out.mono ?_;rintro e w1 ⟨rfl,hw⟩;obtain rfl:=hw.symm;clear hw)
 go_ret
 exact⟨rfl,rfl⟩
theorem rwrite_arg (h:RIs G w r A) {d k:Int} {v:Value} {b:List Nat} (hr:A.why d k=0) (hv:Vec w v b) (hb:b.length ≠ 64):Calls Tryz.prog 119 #[rptr r,.int .i64 d,.int .i64 k,v] w fun e w'=>e=.returned (.int .i64 1)/\w'=w:=by
 have HC:Hid (Calls Tryz.prog 97 #[rptr r,.int .i64 d,.int .i64 k] w fun e w'=>e=.returned (.int .i64 0)/\w'=w):=by have:=rwhy_yes h d k;rw[hr] at this;exact this
 obtain⟨p,n,cap,rfl,hn⟩:=hv.opened
 have hne:¬ (n:Int)=64:=by omega
 clear h hr hv hb hn
 go_enter Tryz.func119,Tryz.ntmps119
 go_wp2_with (go_at_call 97;refine HC.out.mono ?_;rintro e w1 ⟨rfl,hw⟩;obtain rfl:=hw.symm;clear hw)
 go_ret
 exact⟨rfl,rfl⟩
theorem rwrite_off (h:RIs G w r A) {d k:Int} {v:Value} {b:List Nat} (hr:A.why d k=0) (hv:Vec w v b) (hb:b.length=64) (hbu:A.burns=true):Calls Tryz.prog 119 #[rptr r,.int .i64 d,.int .i64 k,v] w fun e w'=>e=.returned (.int .i64 8)/\RIs G w' r A.burnt/\Step G w G w':=by
 have HC:Hid (Calls Tryz.prog 97 #[rptr r,.int .i64 d,.int .i64 k] w fun e w'=>e=.returned (.int .i64 0)/\w'=w):=by have:=rwhy_yes h d k;rw[hr] at this;exact this
 have HB:Hid (Calls Tryz.prog 91 #[rptr r] w fun e w'=>e=.returned (.bool true)/\RIs G w' r A.burnt/\Step G w G w'):=by have:=rgoes_yes h (rwhy_zero hr).1;rw[hbu] at this;exact this
 obtain⟨p,n,cap,rfl,hn⟩:=hv.opened
 obtain rfl:n=64:=by omega
 clear h hr hv hb hn hbu
 go_enter Tryz.func119,Tryz.ntmps119
 go_wp2_with (first
  | (go_at_call 97;refine HC.out.mono ?_;rintro e w1 ⟨rfl,hw⟩;obtain rfl:=hw.symm;clear hw)
  | (go_at_call 91;refine HB.out.mono ?_;rintro e w1 ⟨rfl,hi1,hs1⟩;have HI1:Hid (RIs G w1 r A.burnt/\Step G w G w1):=⟨hi1,hs1⟩;clear hi1 hs1))
 go_ret
 exact⟨rfl,HI1.out⟩
theorem rwrite_any (h:RIs G w r A) (d k:Int) {v:Value} {b:List Nat} (hv:Vec w v b) (hvF:b ≠ []->∀ g,v.ownBlock=some g->¬ G g) (hL:A.L.length<=1000000) :
 Calls Tryz.prog 119 #[rptr r,.int .i64 d,.int .i64 k,v] w fun e w'=>e=.returned (.int .i64 ((A.writes d k b).1:Int))/\∃ G',RIs G' w' r (A.writes d k b).2/\Step G w G' w':=by
 by_cases hr:A.why d k=0
 ·by_cases hb:b.length=64
  ·cases hbu:A.burns with
   | true =>
     refine (rwrite_off h hr hv hb hbu).mono ?_
     rintro e w' ⟨rfl,h1,h2⟩
     simp only[AM.RA.writes,hr,hb,hbu]
     exact⟨rfl,G,h1,h2⟩
   | false =>
     obtain⟨_,d1,_,k1,_,_⟩:=rwhy_zero hr
     obtain⟨D,rfl⟩:∃ D:Nat,d=(D:Int):=⟨d.toNat,by omega⟩
     obtain⟨K,rfl⟩:∃ K:Nat,k=(K:Int):=⟨k.toNat,by omega⟩
     refine (rwrite_fly h hr hv hvF hb hbu hL).mono ?_
     rintro e w' ⟨rfl,G',h1,h2⟩
     simp only[AM.RA.writes,hr,hb,hbu]
     exact⟨rfl,G',h1,h2⟩
  ·refine (rwrite_arg h hr hv hb).mono ?_
   rintro e w' ⟨rfl,rfl⟩
   simp only[AM.RA.writes,hr]
   rw[if_neg (by simp),if_pos hb]
   exact⟨rfl,G,h,Step.refl G w'⟩
 ·refine (rwrite_no h hr).mono ?_
  rintro e w' ⟨rfl,rfl⟩
  simp only[AM.RA.writes,if_pos hr]
  exact⟨trivial,G,h,Step.refl G w'⟩
theorem rgone_cell (h:RIs G w r A) {i:Nat} (hi:i < A.D.length):∃ dg dc,w.cell? ⟨r,0,none⟩=some (.slice (some ⟨dg,0,none⟩) A.D.length dc)/\w.cell? ⟨dg,i * 2+1,none⟩=some (.bool (!(A.D.getD i none).isSome)):=by
 obtain⟨dp,dc,ds,lp,lc,fs,h⟩:=h
 obtain⟨c0,_⟩:=h.topCells
 obtain⟨dg,v,rfl,_,_,e1,_⟩:=h.disk hi
 refine⟨dg,dc,c0,?_⟩
 rw[e1]
 simp[List.getD,hi]
theorem ron_yes (h:RIs G w r A) (d:Int):Calls Tryz.prog 52 #[rptr r,.int .i64 d] w fun e w'=>e=.returned (.bool (A.on d))/\w'=w:=by
 by_cases hin:0<=d/\d < (A.D.length:Int)
 ·obtain⟨i1,i2⟩:=hin
  obtain⟨i,rfl⟩:∃ n:Nat,d=(n:Int):=⟨d.toNat,by omega⟩
  obtain⟨dg,dc,c0,e1⟩:=rgone_cell h (i:=i) (by omega)
  have hD2:A.D.length<=255:=by obtain⟨_,_,_,_,_,_,h⟩:=h;exact h.d2
  have HR:Hid (A.on (i:Int)=(A.D.getD i none).isSome):=by show _=_;unfold AM.RA.on;rw[decide_eq_true i1,decide_eq_true i2];simp
  clear h
  generalize A.D.length=N at *
  cases hg:(A.D.getD i none).isSome with
  | true =>
    rw[hg] at e1 HR
    have e1:w.cell? ⟨dg,i * 2+1,none⟩=some (.bool false):=e1
    clear hg
    go_enter Tryz.func52,Tryz.ntmps52
    go_wp2
    go_ret
    exact⟨by rw[HR.out];rfl,rfl⟩
  | false =>
    rw[hg] at e1 HR
    have e1:w.cell? ⟨dg,i * 2+1,none⟩=some (.bool true):=e1
    clear hg
    go_enter Tryz.func52,Tryz.ntmps52
    go_wp2
    go_ret
    exact⟨by rw[HR.out];rfl,rfl⟩
 ·have HR:Hid (A.on d=false):=by
   show _=_
   unfold AM.RA.on
   by_cases h0:0<=d
   ·rw[decide_eq_false (p:=d < (A.D.length:Int)) (fun c=>hin ⟨h0,c⟩)];simp
   ·rw[decide_eq_false h0];simp
  obtain⟨dp,dc,ds,lp,lc,fs,h⟩:=h
  obtain⟨c0,_⟩:=h.topCells
  clear h
  generalize A.D.length=N at *
  by_cases h0:d < 0
  ·clear hin
   go_enter Tryz.func52,Tryz.ntmps52
   go_wp2
   go_ret
   exact⟨by rw[HR.out];rfl,rfl⟩
  ·have h1:(N:Int)<=d:=by omega
   clear hin
   go_enter Tryz.func52,Tryz.ntmps52
   go_wp2
   go_ret
   exact⟨by rw[HR.out];rfl,rfl⟩
def rcnt (A:AM.RA) (k:Nat):Nat:=(A.D.take k).countP (·.isSome)
theorem rcnt_step {A:AM.RA} {k:Nat} (h:k < A.D.length):rcnt A (k+1)=rcnt A k+(if (A.D.getD k none).isSome then 1 else 0):=by
 unfold rcnt
 rw[List.take_succ_eq_append_getElem h,List.countP_append]
 simp[List.countP_cons,List.getD,h]
theorem rcnt_le (A:AM.RA) (k:Nat):rcnt A k<=k:=Nat.le_trans List.countP_le_length (by simp;omega)
theorem rons_yes (h:RIs G w r A):Calls Tryz.prog 47 #[rptr r] w fun e w'=>e=.returned (.int .i64 (A.ons:Int))/\w'=w:=by
 have H:Hid (RIs G w r A):=h
 have hD2:A.D.length<=255:=by obtain⟨_,_,_,_,_,_,h⟩:=h;exact h.d2
 obtain⟨N,hN⟩:∃ N,N=A.D.length:=⟨_,rfl⟩
 have HN:Hid (N=A.D.length):=hN
 rw[<- hN] at hD2
 obtain⟨dp,dc,ds,lp,lc,fs,h⟩:=h
 obtain⟨z0,_⟩:=h.topCells
 have HC:Hid (w.cell? ⟨r,0,none⟩=some (.slice dp N dc)):=by rw[hN];exact z0
 clear h hN z0
 go_enter Tryz.func47,Tryz.ntmps47
 go_wp2
 go_loop [3,4] (fun tc ti=>∃ k:Nat,k<=N/\ti=.int .i64 (k:Int)/\tc=.int .i64 (rcnt A k:Int)) (fun _ ti=>N - (intOf ti).toNat)
 case atStart=>exact⟨0,by omega,rfl,by simp[rcnt]⟩
 case round =>
  obtain⟨k,hk,rfl,rfl⟩:=hrel
  by_cases hlt:k < N
  ·have i1:(k:Int) < (N:Int):=by omega
   have hkl:k < A.D.length:=by rw[<- HN.out];exact hlt
   have hs:=rcnt_step hkl
   have hcl:=rcnt_le A k
   obtain⟨dg,dc2,c0,e1⟩:=rgone_cell H.out hkl
   rw[<- HN.out] at c0
   cases hg:(A.D.getD k none).isSome with
   | true =>
     rw[hg] at e1 hs
     have e1:w.cell? ⟨dg,k * 2+1,none⟩=some (.bool false):=e1
     have HS:Hid (rcnt A (k+1)=rcnt A k+1):=hs
     clear hs hg
     generalize rcnt A k=c at *
     go_wp2
     go_round
     case rel=>exact⟨k+1,by omega,by go_num,by rw[HS.out];go_num⟩
     case measure=>simp[intOf];omega
   | false =>
     rw[hg] at e1 hs
     have e1:w.cell? ⟨dg,k * 2+1,none⟩=some (.bool true):=e1
     have HS:Hid (rcnt A (k+1)=rcnt A k):=hs
     clear hs hg
     generalize rcnt A k=c at *
     go_wp2
     go_round
     case rel=>exact⟨k+1,by omega,by go_num,by rw[HS.out]⟩
     case measure=>simp[intOf];omega
  ·have i1:¬ (k:Int) < (N:Int):=by omega
   have c0:=HC.out
   have HE:Hid (rcnt A k=A.ons):=by
    have e:k=A.D.length:=by have:=HN.out;omega
    show _=_
    rw[e]
    simp[rcnt,AM.RA.ons]
   go_wp2
   go_ret
   exact⟨by rw[HE.out];rfl,rfl⟩
end
theorem rows_set {w:World} {B e size n g c j:Nat} {us:List Value} (h:w.ownsRow B e size (.slice (some ⟨g,0,none⟩) n c) n us) (hj:j < us.length) (u:Value):(w.setCell ⟨g,j,none⟩ u).ownsRow B e size (.slice (some ⟨g,0,none⟩) n c) n (us.set j u):=by
 have hl:=h.1
 rcases h.2 with ⟨e1,hn⟩ | ⟨g',cap',cur,e1,hb,hg,hc,hm,hs,ht⟩
 ·cases e1
 ·injection e1 with e2 e3 e4
  injection e2 with e2
  injection e2 with e2
  subst e2
  subst e4
  refine⟨by simpa using hl,.inr ⟨g,c,cur.setIfInBounds j u,rfl,hb,?_,hc,hm,by simpa using hs,?_⟩⟩
  ·rw[setCell_eq_setRow w g j cur e (0,0) _ hg]
   exact setRow_heap w g cur _ e _ hg
  ·simp only[Array.toList_setIfInBounds]
   rw[List.take_set,ht]
theorem drow_put {ds:List Value} {D:List (Option (List (List Nat)))} {i:Nat} (hd:ds.length=D.length) (hi:i < D.length) (v:Value) (o:Option (List (List Nat))):drow (ds.set i v) (D.set i o)=((drow ds D).set (i * 2) v).set (i * 2+1) (.bool o.isNone):=by
 unfold drow
 induction ds generalizing D i with
 | nil=>simp at hd;omega
 | cons x r ih =>
   cases D with
   | nil=>simp at hi
   | cons y s =>
     cases i with
     | zero=>simp
     | succ j =>
       have e1:(j+1) * 2=j * 2+1+1:=by omega
       have e2:(j+1) * 2+1=(j * 2+1)+1+1:=by omega
       rw[e2,e1]
       simp only[List.set_cons_succ,List.zip_cons_cons,List.flatMap_cons,List.cons_append,List.nil_append]
       rw[ih (by simpa using hd) (by simpa using hi)]
theorem drow_len {ds:List Value} {D:List (Option (List (List Nat)))} (hd:ds.length=D.length):(drow ds D).length=D.length * 2:=by
 unfold drow
 induction ds generalizing D with
 | nil=>cases D with
   | nil=>rfl
   | cons _ _=>simp at hd
 | cons x r ih =>
   cases D with
   | nil=>simp at hd
   | cons y s =>
     simp only[List.zip_cons_cons,List.flatMap_cons,List.length_append,List.length_cons,List.length_nil]
     rw[ih (by simpa using hd)]
     omega
section
variable {G:Nat->Prop} {w:World} {r:Nat} {A:AM.RA} {dp:Option Addr} {dc:Nat} {ds:List Value} {lp:Option Addr} {lc:Nat} {fs:List Value}
theorem RL.dset {dg:Nat} (h:RL G w r (some ⟨dg,0,none⟩) dc ds lp lc fs A) {w1:World} (g1:w.grownBy w1 none) {i:Nat} (hi:i < A.D.length) {v:Value} {o:Option (List (List Nat))}
 (ho:(o=none/\v=.slice none 0 0)\/∃ (ss:List (List Nat)) (vs:List Value),o=some ss/\w1.ownsRow w.heap.size 31 1 v A.n vs/\ss.length=A.n/\∀ (k:Nat) (u:Value) (b:List Nat),vs[k]?=some u->ss[k]?=some b->Own w.heap.size w1 u b) :
 RL (fun j=>G j\/(w.heap.size<=j/\j < w1.heap.size)) ((w1.setCell ⟨dg,i * 2,none⟩ v).setCell ⟨dg,i * 2+1,none⟩ (.bool o.isNone)) r (some ⟨dg,0,none⟩) dc (ds.set i v) lp lc fs { A with D:=A.D.set i o }:=by
 have h1:=h.keep g1
 obtain⟨cd,hcd⟩:=rowBlock h1.dsk (g:=dg) rfl
 obtain⟨W,hW⟩:∃ W,W=(w1.setCell ⟨dg,i * 2,none⟩ v).setCell ⟨dg,i * 2+1,none⟩ (.bool o.isNone):=⟨_,rfl⟩
 rw[<- hW]
 have hb:∀ j,j ≠ dg->W.heap[j]?=w1.heap[j]?:=fun j hj=>by rw[hW,Below.heap_setCell _ _ _ _ hj,Below.heap_setCell _ _ _ _ hj]
 have hsz:W.heap.size=w1.heap.size:=by rw[hW];simp
 have hne:∀ (j:Nat) (c:Array Value) (t:TypeId),w1.heap[j]?=some (.cells c t (0,0))->t ≠ 124->W.heap[j]?=w1.heap[j]?:=fun j c t hj ht=>hb j (ne_ty hj hcd ht)
 have hlen:(A.D.set i o).length=A.D.length:=List.length_set ..
 have hdl:i < ds.length:=by rw[h.dlen];exact hi
 have hsplit:∀ (j:Nat) (u:Value),(ds.set i v)[j]?=some u->(j=i/\u=v)\/(j ≠ i/\ds[j]?=some u):=fun j u hu=>by
  by_cases c:i=j
  ·subst c
   rw[List.getElem?_set,if_pos rfl,if_pos hdl] at hu
   exact .inl ⟨rfl,(Option.some.inj hu).symm⟩
  ·rw[List.getElem?_set,if_neg c] at hu
   exact .inr ⟨Ne.symm c,hu⟩
 have hvn:∀ g,v.ownBlock=some g->w.heap.size<=g/\g < w1.heap.size:=fun g hg=>by
  rcases ho with ⟨_,rfl⟩ | ⟨ss,vs,_,h2,_⟩
  ·cases hg
  ·exact⟨(rows_blk h2 hg).1,(rows_blk h2 hg).2.1⟩
 refine⟨fun j hj=>?_,?_,?_,by rw[hlen,List.length_set];exact h.dlen,fun j u hu=>?_,ownsRow_same h1.fly (fun g hg=>?_),h.flen,fun j u x hu hx=>?_,.inl h.Gr,fun g hg=>.inl (h.Gd g (by rw[hlen] at hg;exact hg)),fun j u hu g hg=>?_,fun g hg=>.inl (h.Gl g hg),fun j k u u' hu hu' g hg hg'=>?_,h.left,h.n2,by rw[hlen];exact h.d2⟩
 ·rw[hsz]
  rcases hj with hj | hj
  ·exact h1.lt j hj
  ·exact hj.2
 ·rw[hne r _ _ h1.top (by decide),hlen];exact h1.top
 ·rw[hlen]
  show World.ownsRow _ 0 _ 2 _ _ (drow (ds.set i v) (A.D.set i o))
  rw[drow_put h.dlen hi,hW]
  have hl2:=drow_len h.dlen
  exact rows_set (rows_set h1.dsk (by omega) v) (by simp;omega) _
 ·rcases hsplit j u hu with ⟨rfl,rfl⟩ | ⟨hji,hu⟩
  ·rcases ho with ⟨rfl,h3⟩ | ⟨ss,vs,rfl,h3,h4,h5⟩
   ·exact .inl ⟨by show (A.D.set j none)[j]?=_;rw[List.getElem?_set,if_pos rfl,if_pos hi],h3⟩
   ·refine .inr ⟨ss,vs,by show (A.D.set j (some ss))[j]?=_;rw[List.getElem?_set,if_pos rfl,if_pos hi],ownsRow_down (ownsRow_same h3 (fun g hg=>?_)) (Nat.zero_le _),h4,fun k u b hu hb=>?_⟩
    ·obtain⟨c,hc⟩:=rowBlock h3 hg
     exact hne g c _ hc (by decide)
    ·have q:=h5 k u b hu hb
     exact⟨(q.down (Nat.zero_le _)).same0 (fun g hg=>by
      obtain⟨c,hc⟩:=rowBlock q.row hg
      exact hne g c _ hc (by decide)),fun g hg=>.inr ⟨(rows_blk q.row hg).1,(rows_blk q.row hg).2.1⟩⟩
  ·rcases h1.sec j u hu with h2 | ⟨ss,vs,h2,h3,h4,h5⟩
   ·exact .inl ⟨by show (A.D.set i o)[j]?=_;rw[List.getElem?_set,if_neg (Ne.symm hji)];exact h2.1,h2.2⟩
   ·refine .inr ⟨ss,vs,by show (A.D.set i o)[j]?=_;rw[List.getElem?_set,if_neg (Ne.symm hji)];exact h2,ownsRow_same h3 (fun g hg=>?_),h4,fun k u' b hu' hb'=>?_⟩
    ·obtain⟨c,hc⟩:=rowBlock h3 hg
     exact hne g c _ hc (by decide)
    ·obtain⟨q1,q2⟩:=h5 k u' b hu' hb'
     exact⟨q1.same0 (fun g hg=>by
      obtain⟨c,hc⟩:=rowBlock q1.row hg
      exact hne g c _ hc (by decide)),fun g hg=>.inl (q2 g hg)⟩
 ·obtain⟨c,hc⟩:=rowBlock h1.fly hg
  exact hne g c _ hc (by decide)
 ·obtain⟨q1,q2⟩:=h1.fv j u x hu hx
  exact⟨q1.same0 (fun g hg=>by
   obtain⟨c,hc⟩:=rowBlock q1.row hg
   exact hne g c _ hc (by decide)),fun g hg=>.inl (q2 g hg)⟩
 ·rcases hsplit j u hu with ⟨rfl,rfl⟩ | ⟨hji,hu⟩
  ·exact .inr (hvn g hg)
  ·exact .inl (h.Gs j u hu g hg)
 ·rcases hsplit j u hu with ⟨e1,e2⟩ | ⟨hji,hu2⟩
  ·rcases hsplit k u' hu' with ⟨e3,e4⟩ | ⟨hki,hu3⟩
   ·omega
   ·have a1:=hvn g (by rw[<- e2];exact hg)
    have a2:=h.lt g (h.Gs k u' hu3 g hg')
    omega
  ·rcases hsplit k u' hu' with ⟨e3,e4⟩ | ⟨hki,hu3⟩
   ·have a1:=hvn g (by rw[<- e4];exact hg')
    have a2:=h.lt g (h.Gs j u hu2 g hg)
    omega
   ·exact h.ap j k u u' hu2 hu3 g hg hg'
end
def krow (Z:List (Value × AM.Fl)):List Value:=Z.flatMap (fun x=>[.int .i64 (x.2.d:Int),.int .i64 (x.2.k:Int),x.1])
theorem frow_krow (fs:List Value) (L:List AM.Fl):frow fs L=krow (fs.zip L):=rfl
def kz (fs:List Value) (L:List AM.Fl) (d q:Nat):List (Value × AM.Fl):=((fs.zip L).take q).filter (fun x=>!(x.2.d==d))
theorem kz_yes {fs:List Value} {L:List AM.Fl} {d q:Nat} {u:Value} {x:AM.Fl} (hu:fs[q]?=some u) (hx:L[q]?=some x) (h:x.d ≠ d):kz fs L d (q+1)=kz fs L d q++[(u,x)]:=by
 have hz:(fs.zip L)[q]?=some (u,x):=by rw[List.getElem?_zip_eq_some];exact⟨hu,hx⟩
 obtain⟨hl,he⟩:=List.getElem?_eq_some_iff.1 hz
 unfold kz
 rw[List.take_succ_eq_append_getElem hl,List.filter_append,he,List.filter_cons_of_pos (by simp[h])]
 rfl
theorem kz_no {fs:List Value} {L:List AM.Fl} {d q:Nat} {u:Value} {x:AM.Fl} (hu:fs[q]?=some u) (hx:L[q]?=some x) (h:x.d=d):kz fs L d (q+1)=kz fs L d q:=by
 have hz:(fs.zip L)[q]?=some (u,x):=by rw[List.getElem?_zip_eq_some];exact⟨hu,hx⟩
 obtain⟨hl,he⟩:=List.getElem?_eq_some_iff.1 hz
 unfold kz
 rw[List.take_succ_eq_append_getElem hl,List.filter_append,he,List.filter_cons_of_neg (by simp[h])]
 simp
theorem kz_le (fs:List Value) (L:List AM.Fl) (d q:Nat):(kz fs L d q).length<=q:=Nat.le_trans (List.length_filter_le _ _) (by simp;omega)
theorem kz_snd:∀ (fs:List Value) (L:List AM.Fl) (d:Nat),fs.length=L.length->(kz fs L d L.length).map (·.2)=L.filter (fun l=>!(l.d==d)):=by
 intro fs L d h
 have e:(fs.zip L).take L.length=fs.zip L:=List.take_of_length_le (by simp;omega)
 unfold kz
 rw[e]
 clear e
 induction fs generalizing L with
 | nil=>cases L with
   | nil=>rfl
   | cons _ _=>simp at h
 | cons u r ih=>cases L with
   | nil=>simp at h
   | cons x s =>
     have:=ih s (by simpa using h)
     by_cases c:x.d=d
     ·simp[c,this]
     ·simp[c,this]
theorem kz_mem {fs:List Value} {L:List AM.Fl} {d q i:Nat} {u:Value} {x:AM.Fl} (h:(kz fs L d q)[i]?=some (u,x)):∃ j:Nat,fs[j]?=some u/\L[j]?=some x:=by
 have h1:=List.mem_of_getElem? h
 have h2:=List.mem_of_mem_take (List.mem_filter.1 h1).1
 obtain⟨j,hj,e⟩:=List.mem_iff_getElem.1 h2
 have:(fs.zip L)[j]?=some (u,x):=by rw[List.getElem?_eq_getElem hj,e]
 rw[List.getElem?_zip_eq_some] at this
 exact⟨j,this⟩
theorem zip_parts (Z:List (Value × AM.Fl)):(Z.map (·.1)).zip (Z.map (·.2))=Z:=by
 induction Z with
 | nil=>rfl
 | cons x r ih=>simp[ih]
section
variable {G:Nat->Prop} {w:World} {r:Nat} {A:AM.RA}
theorem RL.fcells {dp:Option Addr} {dc:Nat} {ds:List Value} {lp:Option Addr} {lc:Nat} {fs:List Value} (h:RL G w r dp dc ds lp lc fs A) {q:Nat} (hq:q < A.L.length):∃ (lg:Nat) (u:Value) (x:AM.Fl),lp=some ⟨lg,0,none⟩/\fs[q]?=some u/\A.L[q]?=some x/\(∃ pu nu mu,u=.slice pu nu mu) /\
 w.cell? ⟨lg,q * 3,none⟩=some (.int .i64 (x.d:Int))/\w.rangeAt lg (q * 3) [.int .i64 (x.d:Int),.int .i64 (x.k:Int),u]:=by
 obtain⟨lg,u,e,hu,f0,f1,f2,ho,_⟩:=h.flight hq
 obtain⟨pu,nu,mu,e2,_⟩:=ho.vec.opened
 refine⟨lg,u,_,e,hu,List.getElem?_eq_getElem hq,⟨pu,nu,mu,e2⟩,f0,fun j v hj=>?_⟩
 match j with
 | 0=>obtain rfl:=Option.some.inj hj;exact f0
 | 1=>obtain rfl:=Option.some.inj hj;exact f1
 | 2=>obtain rfl:=Option.some.inj hj;exact f2
 | n+3=>cases hj
set_option maxHeartbeats 3200000 in
set_option maxRecDepth 100000 in
theorem rlose_on (h:RIs G w r A) {d:Nat} (hd:d < A.D.length) (hon:(A.D.getD d none).isSome=true) (hL:A.L.length<=1000000):Calls Tryz.prog 39 #[rptr r,.int .i64 (d:Int)] w fun e w'=>e=.returned (.int .i64 0)/\∃ G',RIs G' w' r (A.lost d)/\Step G w G' w':=by
 obtain⟨dp,dc,ds,lp,lc,fs,h⟩:=h
 have hD2:=h.d2
 obtain⟨c0,y1,y2,y3,y4⟩:=h.topCells
 clear y1 y2 y3 y4
 obtain⟨dg,v,rfl,hv,e0,z1,cc,hcc⟩:=h.disk hd
 have e1:w.cell? ⟨dg,d * 2+1,none⟩=some (.bool false):=by
  have:(A.D[d]'hd).isNone=false:=by
   simp only[List.getD,List.getElem?_eq_getElem hd,Option.getD_some] at hon
   cases hq:A.D[d] with
   | none=>rw[hq] at hon;cases hon
   | some _=>rfl
  rw[this] at z1;exact z1
 have fz0:=topFrozen (d * 2) hcc
 have fz1:=topFrozen (d * 2+1) hcc
 obtain⟨W1,hW1⟩:∃ W1,W1=(w.setCell ⟨dg,d * 2,none⟩ (.slice none 0 0)).setCell ⟨dg,d * 2+1,none⟩ (.bool true):=⟨_,rfl⟩
 have h1:=h.dset (World.grownBy.refl w none) hd (v:=.slice none 0 0) (o:=none) (.inl ⟨rfl,rfl⟩)
 rw[show (Value.bool (none:Option (List (List Nat))).isNone)=.bool true from rfl,<- hW1] at h1
 have hh:(fun j=>G j\/(w.heap.size<=j/\j < w.heap.size))=G:=by
  funext j
  apply propext
  constructor
  ·rintro (h | h)
   ·exact h
   ·omega
  ·exact Or.inl
 rw[hh] at h1
 clear hh
 have HST:Hid (Step G w G W1):=by
  rw[hW1]
  exact Step.of (grown_set2 (grown_set_a w dg _ _) _ _) (fun i e=>by obtain rfl:=Option.some.inj e;exact h.Gd _ rfl)
 obtain⟨N,hN⟩:∃ N,N=A.D.length:=⟨_,rfl⟩
 obtain⟨M,hM⟩:∃ M,M=A.L.length:=⟨_,rfl⟩
 rw[<- hN] at c0 hD2 hd
 have HRL:Hid (RL G W1 r (some ⟨dg,0,none⟩) dc (ds.set d (.slice none 0 0)) lp lc fs { A with D:=A.D.set d none }):=h1
 have HM:Hid (M=A.L.length):=hM
 rw[<- hM] at hL
 have HSZ:Hid (∀ i,G i->i < W1.heap.size):=h1.lt
 clear z1 h h1 hv hcc cc hon hN hM
 go_enter Tryz.func39,Tryz.ntmps39
 go_wp2
 rw[<- hW1]
 clear e0 e1 fz0 fz1 hW1 c0
 go_loopw [5,6] (fun tl ti wr=>∃ (q n c:Nat) (p:Option Addr),q<=M/\ti=.int .i64 (q:Int)/\tl=.slice p n c/\Hid (n=(kz fs A.L d q).length/\wr.ownsRow W1.heap.size 138 3 (.slice p n c) n (krow (kz fs A.L d q))/\W1.grownBy wr none)) (fun _ ti _=>M - (intOf ti).toNat)
 case atStart=>exact⟨0,0,0,none,by omega,rfl,rfl,by simp[kz],by simp only[kz,List.take_zero,List.filter_nil];exact World.ownsRow_nil _ _ _ _,World.grownBy.refl _ _⟩
 case round =>
  obtain⟨q,n,c,p,hq,rfl,rfl,HX⟩:=hrel
  by_cases hlt:q < M
  ·have i1:(q:Int) < (M:Int):=by omega
   have hql:q < A.L.length:=by rw[<- HM.out];exact hlt
   have hr:=HRL.out.keep HX.out.2.2
   obtain⟨_,_,z2,_,_⟩:=hr.topCells
   obtain⟨lg,u,x,rfl,hu,hx,⟨pu,nu,mu,rfl⟩,f0,hrg⟩:=hr.fcells (A:={ A with D:=A.D.set d none }) hql
   have s2:wr.cell? ⟨r,2,none⟩=some (.slice (some ⟨lg,0,none⟩) M lc):=by rw[HM.out];exact z2
   have HRG:Hid (wr.rangeAt lg (q * 3) [.int .i64 (x.d:Int),.int .i64 (x.k:Int),.slice pu nu mu]):=hrg
   have hkl:(kz fs A.L d q).length<=q:=kz_le ..
   clear z2 hr hrg
   by_cases c1:x.d=d
   ·have HS:Hid (kz fs A.L d (q+1)=kz fs A.L d q):=kz_no hu hx c1
    rw[c1] at f0
    clear hu hx c1 HRG
    go_wp2
    go_roundw
    case rel=>exact⟨q+1,n,c,p,by omega,by go_num,rfl,by rw[HS.out];exact HX⟩
    case measure=>simp[intOf];omega
   ·have HS:Hid (kz fs A.L d (q+1)=kz fs A.L d q++[(.slice pu nu mu,x)]):=kz_yes hu hx c1
    have i2:¬ (x.d:Int)=(d:Int):=by omega
    have hlit:=lit_fly wr (x.d:Int) (x.k:Int) pu nu mu
    obtain⟨hn,hown,hg⟩:=HX.out
    have HN:Hid (n<=1000000):=by show _<=_;omega
    have HG1:Hid (W1.grownBy (wr.alloc (.cells #[.int .i64 (x.d:Int),.int .i64 (x.k:Int),.slice pu nu mu] 138)) none):=gb_alloc hg _
    have HO1:Hid ((wr.alloc (.cells #[.int .i64 (x.d:Int),.int .i64 (x.k:Int),.slice pu nu mu] 138)).ownsRow W1.heap.size 138 3 (.slice p n c) n (krow (kz fs A.L d q))):=ownsRow_same hown (fun g hg=>Below.heap_alloc _ _ _ (rows_blk hown hg).2.1)
    have HLO:Hid (∀ g,(Value.slice p n c).ownBlock=some g->W1.heap.size<=g):=fun g hg=>(rows_blk hown hg).1
    have HCE:Hid (∀ j u,([.int .i64 (x.d:Int),.int .i64 (x.k:Int),.slice pu nu mu]:List Value)[j]?=some u->(wr.alloc (.cells #[.int .i64 (x.d:Int),.int .i64 (x.k:Int),.slice pu nu mu] 138)).cell? ((⟨wr.heap.size,0,none⟩:Addr).add j)=some u):=fun j u hj=>by
     rw[add_at,Nat.zero_add];exact topCell (heap_alloc_new wr _) (by simpa using hj)
    have HNE:Hid (n+1=(kz fs A.L d (q+1)).length/\krow (kz fs A.L d (q+1))=krow (kz fs A.L d q)++[.int .i64 (x.d:Int),.int .i64 (x.k:Int),.slice pu nu mu]):=by
     rw[HS.out]
     exact⟨by simp[hn],by unfold krow;rw[List.flatMap_append];rfl⟩
    clear hu hx c1 hn hown hg HX hkl HS
    go_wp2_with (first
     | (refine wpList_load_mid rfl _ _ rfl _ _ rfl _ _ HRG.out Tryz.underlying138 rfl Tryz.sizeFly ?_)
     | (at_builtin;refine wpList_append_rows rfl _ _ rfl Tryz.underlying84 zeroFly rfl (by decide) rfl rfl HO1.out (news:=[.int .i64 (x.d:Int),.int .i64 (x.k:Int),.slice pu nu mu]) rfl HCE.out (by intro u hu;simp at hu;rcases hu with rfl | rfl | rfl <;> rfl) (by have:=HN.out;unfold maxLen;omega) (by have:=HN.out;omega) (HG1.out.size) ?_;intro v9 w9 ho hg;have HO9:Hid (w9.ownsRow W1.heap.size 138 3 v9 (n+1) (krow (kz fs A.L d q)++[.int .i64 (x.d:Int),.int .i64 (x.k:Int),.slice pu nu mu])):=ho;have HG9:Hid (W1.grownBy w9 none):=grown_new HG1.out hg (fun i e=>HLO.out i e);clear ho hg)
     | fail)
    obtain⟨p9,c9,rfl⟩:=rows_slice HO9.out
    have HX9:Hid (n+1=(kz fs A.L d (q+1)).length/\w9.ownsRow W1.heap.size 138 3 (.slice p9 (n+1) c9) (n+1) (krow (kz fs A.L d (q+1)))/\W1.grownBy w9 none):=⟨HNE.out.1,by rw[HNE.out.2];exact HO9.out,HG9.out⟩
    go_roundw
    case rel=>exact⟨q+1,by omega,by go_num,n+1,c9,p9,rfl,HX9⟩
    case measure=>simp[intOf];omega
  ·have i1:¬ (q:Int) < (M:Int):=by omega
   obtain rfl:q=M:=by omega
   have hr:=HRL.out.keep HX.out.2.2
   obtain⟨_,_,z2,_,_⟩:=hr.topCells
   have s2:wr.cell? ⟨r,2,none⟩=some (.slice lp q lc):=by rw[HM.out];exact z2
   have f2:=topFrozen 2 hr.top
   obtain⟨hn,hown,hg⟩:=HX.out
   have hfl:fs.length=A.L.length:=hr.flen
   have hsn:(kz fs A.L d q).map (·.2)=(A.lost d).L:=by rw[HM.out];exact kz_snd fs A.L d hfl
   have hnl:n=(A.lost d).L.length:=by rw[<- hsn,List.length_map];exact hn
   have HF:Hid (∃ G',RIs G' (wr.setCell ⟨r,2,none⟩ (.slice p n c)) r (A.lost d)/\Step G w G' (wr.setCell ⟨r,2,none⟩ (.slice p n c))):=by
    have hfin:=HRL.out.flown (G':=fun i=>G i\/(W1.heap.size<=i/\i < wr.heap.size)) (w1:=wr) (old:=none) (fun i hi=>.inl hi) (fun i hi=>by
     rcases hi with hi | hi
     ·exact Nat.lt_of_lt_of_le (HSZ.out i hi) hg.size
     ·exact hi.2) hg (fun g e=>by cases e) (L':=(A.lost d).L) (fs':=(kz fs A.L d q).map (·.1)) (lp':=p) (lc':=c) (by rw[frow_krow,<- hsn,zip_parts,List.length_map,<- hn];exact ownsRow_down hown (Nat.zero_le _)) (by rw[<- hsn];simp) (fun g hgb=>by
     rw[<- hnl] at hgb
     exact .inr ⟨(rows_blk hown hgb).1,(rows_blk hown hgb).2.1⟩) (fun i u x hu hx=>by
     rw[<- hsn] at hx
     have hz:(kz fs A.L d q)[i]?=some (u,x):=by
      rw[List.getElem?_map] at hu hx
      cases hc:(kz fs A.L d q)[i]? with
      | none=>rw[hc] at hu;cases hu
      | some y =>
        rw[hc] at hu hx
        obtain rfl:=Option.some.inj hu
        obtain rfl:=Option.some.inj hx
        rfl
     obtain⟨j,h1,h2⟩:=kz_mem hz
     obtain⟨q1,q2⟩:=hr.fv j u x h1 h2
     exact⟨q1,fun g hg=>.inl (q2 g hg)⟩) (w':=wr.setCell ⟨r,2,none⟩ (.slice p (A.lost d).L.length c)) rfl
    rw[<- hnl] at hfin
    refine⟨_,hfin.is,HST.out.trans ⟨⟨hg.os,hg.tape,hg.output,by simpa using hg.size,fun i hi hni=>?_⟩,fun i hi=>?_⟩⟩
    ·rw[Below.heap_setCell _ _ _ _ (by intro e;have e:i=r:=e;rw[e] at hni;exact hni HRL.out.Gr)]
     exact hg.block i hi (by simp)
    ·rcases hi with hi | hi
     ·exact .inl hi
     ·exact .inr hi.1
   clear z2 hr hn hown hg hfl hsn hnl HX HRL HST
   go_wp2
   go_ret
   exact⟨rfl,HF.out⟩
theorem rlose_any (h:RIs G w r A) (d:Int) (hL:A.L.length<=1000000):Calls Tryz.prog 39 #[rptr r,.int .i64 d] w fun e w'=>e=.returned (.int .i64 ((A.lose d).1:Int))/\∃ G',RIs G' w' r (A.lose d).2/\Step G w G' w':=by
 by_cases hin:0<=d/\d < (A.D.length:Int)
 ·obtain⟨n,rfl⟩:∃ n:Nat,d=(n:Int):=⟨d.toNat,by omega⟩
  have hd:n < A.D.length:=by omega
  cases hon:(A.D.getD n none).isSome with
  | true =>
    refine (rlose_on h hd hon hL).mono ?_
    rintro e w' ⟨rfl,G',h1,h2⟩
    have e:A.lose (n:Int)=(0,A.lost n):=by unfold AM.RA.lose;rw[if_pos hin,Int.toNat_natCast,if_pos hon]
    rw[e]
    exact⟨rfl,G',h1,h2⟩
  | false =>
    have e:A.lose (n:Int)=(9,A):=by unfold AM.RA.lose;rw[if_pos hin,Int.toNat_natCast,hon];rfl
    rw[e]
    have HI:Hid (RIs G w r A):=h
    obtain⟨dg,dc,c0,e1⟩:=rgone_cell h hd
    rw[hon] at e1
    have e1:w.cell? ⟨dg,n * 2+1,none⟩=some (.bool true):=e1
    have hD2:A.D.length<=255:=by obtain⟨_,_,_,_,_,_,h⟩:=h;exact h.d2
    clear h e hin hon
    generalize A.D.length=N at *
    go_enter Tryz.func39,Tryz.ntmps39
    go_wp2
    go_ret
    exact⟨rfl,G,HI.out,Step.refl G w⟩
 ·have e:A.lose d=(6,A):=by unfold AM.RA.lose;rw[if_neg hin]
  rw[e]
  have HI:Hid (RIs G w r A):=h
  obtain⟨dp,dc,ds,lp,lc,fs,h⟩:=h
  obtain⟨c0,_,_,_,_⟩:=h.topCells
  have hD2:=h.d2
  clear h e
  generalize A.D.length=N at *
  by_cases h0:d < 0
  ·clear hin
   go_enter Tryz.func39,Tryz.ntmps39
   go_wp2
   go_ret
   exact⟨rfl,G,HI.out,Step.refl G w⟩
  ·have h1:(N:Int)<=d:=by omega
   clear hin
   go_enter Tryz.func39,Tryz.ntmps39
   go_wp2
   go_ret
   exact⟨rfl,G,HI.out,Step.refl G w⟩
end
end Go.Proofs.YtaalagkbpeinkaaGreat
