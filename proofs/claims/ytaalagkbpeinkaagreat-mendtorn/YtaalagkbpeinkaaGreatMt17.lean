/- Packed: RNew6, Two6, MSlot9, MAll9. -/
import Derived.Test.YtaalagkbpeinkaaGreatMt16
set_option linter.unusedSimpArgs false
set_option linter.unusedVariables false
set_option maxRecDepth 100000
namespace Go.Proofs.YtaalagkbpeinkaaGreat
open Go.RowKit
theorem step_append_at {ops:Array Oper} {o:Oper} {ac:Act} {w:World} {K:Act -> World -> Prop} {Q:Exit -> Act -> World -> Prop} {E:Prop} (hgd:o.guard = none) (d s:Operand) {t e:TypeId} {z:Value} {size bytes:Nat}
 (ho:o.op = .call { callee:=.builtin .append,args:=#[d,s],argTypes:=#[t,t] }) (hu:Tryz.prog.underlying t = some (.slice e)) (hinfo:(Tryz.prog.info? e).map (fun i=>(i.zero,i.size,i.bytes)) = some (some z,size,bytes)) (hzs:z.cells.size = size) (hsz:0 < size)
 {v:Value} {n:Nat} {xs:List Value} {a:Addr} {m c:Nat} {news:List Value} (hed:ac.eval d = v) (hes:ac.eval s = .slice (some a) m c) (hown:w.ownsRow 0 e size v n xs) (hm:0 < m) (hl:news.length = m * size) (hnews:∀ j u,news[j]? = some u -> w.cell? (a.add j) = some u) (h1:∀ u ∈ news,u.oneCell' = true)
 (h63:n + m <= maxLen) (hbytes:(n + m) * bytes <= 140737488355328)
 (h:∀ g cap w',w'.ownsRow 0 e size (.slice (some ⟨g,0,none⟩) (n + m) cap) (n + m) (xs ++ news) -> w.grownBy w' v.ownBlock -> (v.ownBlock = some g \/ g = w.heap.size) -> K (ac.put o.dst (.slice (some ⟨g,0,none⟩) (n + m) cap)) w'):if Region.wanted o (yielded ops ac.tmps) = true then Oper.wp Tryz.prog o ac w K Q else E:=by
 have hw:Region.wanted o (yielded ops ac.tmps) = true:=by simp [Region.wanted,hgd]
 rw [if_pos hw]
 obtain ⟨g,cap,w',hrun,r1,r2,r3⟩:=run_append_at (ty:=o.type) (c:=c) hu hinfo hzs hsz hown hm hl hnews h1 h63 hbytes
 unfold Oper.wp
 simp [execOp,ho,resolve,invoke,builtin,hed,hes,hrun,Result.andThen]
 exact h _ _ _ r1 r2 r3
theorem zeroDsk:(Tryz.prog.info? 124).map (fun i=>(i.zero,i.size,i.bytes)) = some (some (.agg #[.slice none 0 0,.bool false]),2,32):=by kernel_rfl
theorem run_zeroDsk (w:World):(zeroValue 124).run Tryz.prog w = .ok (.agg #[.slice none 0 0,.bool false]) w:=by
 obtain ⟨i,hi,h0,h1,h2⟩:=info_parts zeroDsk
 simp [zeroValue,typeInfo,hi,h0]
theorem lit_dsk (w:World) (p:Option Addr) (n c:Nat) (b:Bool):(Instr.buildSlice 83 1 #[(0,.agg #[.slice p n c,.bool b])]).run Tryz.prog w = .ok (.slice (some ⟨w.heap.size,0,none⟩) 1 1) (w.alloc (.cells #[.slice p n c,.bool b] 124)):=by
 have hf:∀ z:Array Value,z.size = 2 -> Instr.fill (fun i=>some (i * 2,2)) z [(0,.agg #[.slice p n c,.bool b])] = some #[.slice p n c,.bool b]:=by
  intro z hz
  rw [fill_one (cs:=[.slice p n c,.bool b]) (out:=[.slice p n c,.bool b]) rfl rfl rfl (by simp;omega) (by simp [hz])]
  rfl
 simp [Instr.buildSlice,run_underlying Tryz.underlying83,run_size Tryz.sizeDsk,run_zeroDsk,newRow,hf]
theorem drow_app {ds:List Value} {D:List (Option (List (List Nat)))} (h:ds.length = D.length) (v:Value) (o:Option (List (List Nat))):drow (ds ++ [v]) (D ++ [o]) = drow ds D ++ [v,.bool o.isNone]:=by
 unfold drow
 rw [List.zip_append h,List.flatMap_append]
 rfl
section
variable {G:Nat -> Prop} {w:World} {r:Nat} {A:AM.RA} {dp:Option Addr} {dc:Nat} {ds:List Value} {lp:Option Addr} {lc:Nat} {fs:List Value}
theorem RL.grew (h:RL G w r dp dc ds lp lc fs A) {w1:World} (g1:w.grownBy w1 none) {v:Value} {o:Option (List (List Nat))}
 (ho:(o = none /\ v = .slice none 0 0) \/ ∃ (ss:List (List Nat)) (vs:List Value),o = some ss /\ w1.ownsRow w.heap.size 31 1 v A.n vs /\ ss.length = A.n /\ ∀ (k:Nat) (u:Value) (b:List Nat),vs[k]? = some u -> ss[k]? = some b -> Own w.heap.size w1 u b)
 {dg cap:Nat} {w5:World} (o5:w5.ownsRow 0 124 2 (.slice (some ⟨dg,0,none⟩) (A.D.length + 1) cap) (A.D.length + 1) (drow ds A.D ++ [v,.bool o.isNone])) (g5:w1.grownBy w5 (Value.slice dp A.D.length dc).ownBlock) (hw:(Value.slice dp A.D.length dc).ownBlock = some dg \/ w.heap.size <= dg) (hd:A.D.length + 1 <= 255) :
 w5.cell? ⟨r,0,none⟩ = some (.slice dp A.D.length dc) /\ w5.frozen? ⟨r,0,none⟩ = false /\ ∃ G',RIs G' (w5.setCell ⟨r,0,none⟩ (.slice (some ⟨dg,0,none⟩) (A.D.length + 1) cap)) r { A with D:=A.D ++ [o] } /\ Step G w G' (w5.setCell ⟨r,0,none⟩ (.slice (some ⟨dg,0,none⟩) (A.D.length + 1) cap)):=by
 have gw:w.grownBy w5 (Value.slice dp A.D.length dc).ownBlock:=grown_trans (grown_any g1 _) g5
 have hne:∀ (i:Nat) (c:Array Value) (t:TypeId),w.heap[i]? = some (.cells c t (0,0)) -> t ≠ 124 -> w5.heap[i]? = w.heap[i]?:=fun i c t hi ht=>gw.block i (Array.getElem?_eq_some_iff.1 hi).1 (fun e=>by
  obtain ⟨c',hc'⟩:=rowBlock h.dsk e.symm
  exact ht (heap_ty hi hc'))
 have hnew:∀ i,w.heap.size <= i -> i < w1.heap.size -> w5.heap[i]? = w1.heap[i]?:=fun i hi hl=>g5.block i hl (fun e=>by
  have:=h.lt i (h.Gd i e.symm)
  omega)
 have ht5:=(hne r _ _ h.top (by decide)).trans h.top
 have hs:∀ i,i ≠ r -> (w5.setCell ⟨r,0,none⟩ (.slice (some ⟨dg,0,none⟩) (A.D.length + 1) cap)).heap[i]? = w5.heap[i]?:=fun i hi=>Below.heap_setCell _ _ _ _ hi
 have hlt5:dg < w5.heap.size:=(rows_blk o5 rfl).2.1
 refine ⟨topCell (j:=0) ht5 rfl,topFrozen 0 ht5,fun i=>G i \/ (w.heap.size <= i /\ i < w5.heap.size),⟨some ⟨dg,0,none⟩,cap,ds ++ [v],lp,lc,fs,?_⟩,⟨⟨gw.os,gw.tape,gw.output,by simpa using gw.size,fun i hi hn=>?_⟩,fun i hi=>?_⟩⟩
 ·have hlen:(A.D ++ [o]).length = A.D.length + 1:=by simp
  have hsp:∀ (i:Nat) (u:Value),(ds ++ [v])[i]? = some u -> (i < A.D.length /\ ds[i]? = some u) \/ (i = A.D.length /\ u = v):=fun i u hu=>by
   by_cases c:i < ds.length
   ·rw [List.getElem?_append_left c] at hu
    exact .inl ⟨by rw [<- h.dlen];exact c,hu⟩
   ·have hi:=(List.getElem?_eq_some_iff.1 hu).1
    simp at hi
    have e:i = ds.length:=by omega
    subst e
    rw [List.getElem?_append_right (Nat.le_refl _),Nat.sub_self] at hu
    exact .inr ⟨h.dlen,(Option.some.inj hu).symm⟩
  have hvn:∀ g,v.ownBlock = some g -> w.heap.size <= g /\ g < w1.heap.size:=fun g hg=>by
   rcases ho with ⟨_,rfl⟩ | ⟨ss,vs,_,h2,_⟩
   ·cases hg
   ·exact ⟨(rows_blk h2 hg).1,(rows_blk h2 hg).2.1⟩
  have hto:∀ (i:Nat) (c:Array Value) (t:TypeId),w.heap[i]? = some (.cells c t (0,0)) -> t ≠ 124 -> t ≠ 86 -> (w5.setCell ⟨r,0,none⟩ (.slice (some ⟨dg,0,none⟩) (A.D.length + 1) cap)).heap[i]? = w.heap[i]?:=fun i c t hi h1 h2=>by
   rw [hs i (ne_ty hi h.top h2),hne i c t hi h1]
  have htn:∀ (i:Nat) (c:Array Value) (t:TypeId),w.heap.size <= i -> w1.heap[i]? = some (.cells c t (0,0)) -> (w5.setCell ⟨r,0,none⟩ (.slice (some ⟨dg,0,none⟩) (A.D.length + 1) cap)).heap[i]? = w1.heap[i]?:=fun i c t hl hi=>by
   rw [hs i (by have:=h.lt r h.Gr;omega),hnew i hl (Array.getElem?_eq_some_iff.1 hi).1]
  have hsec:=h.sec_same (w':=w5.setCell ⟨r,0,none⟩ (.slice (some ⟨dg,0,none⟩) (A.D.length + 1) cap)) (fun g c _ hc=>hto g c _ hc (by decide) (by decide)) (fun g c _ hc=>hto g c _ hc (by decide) (by decide))
  refine ⟨fun i hi=>?_,?_,?_,by simp [h.dlen],fun i u hu=>?_,ownsRow_same h.fly (fun g hg=>?_),h.flen,fun i u x hu hx=>⟨(h.fv_same (fun g c _ hc=>hto g c _ hc (by decide) (by decide)) i u x hu hx).1,fun g hg=>.inl ((h.fv i u x hu hx).2 g hg)⟩,.inl h.Gr,fun g hg=>?_,fun i u hu g hg=>?_,fun g hg=>.inl (h.Gl g hg),fun i j u u' hu hu' g hg hg'=>?_,h.left,h.n2,by rw [hlen];exact hd⟩
  ·rcases hi with hi | hi
   ·simpa using Nat.lt_of_lt_of_le (h.lt i hi) gw.size
   ·simpa using hi.2
  ·rw [heap_setCell_same _ _ _ _ _ _ ht5,hlen];rfl
  ·rw [hlen,drow_app h.dlen]
   exact ownsRow_same o5 (fun g hg=>by
    obtain ⟨_,_,c,hc⟩:=rows_blk o5 hg
    exact hs g (ne_ty hc ht5 (by decide)))
  ·rcases hsp i u hu with ⟨hi,hu⟩ | ⟨rfl,rfl⟩
   ·have e:(A.D ++ [o])[i]? = A.D[i]?:=List.getElem?_append_left hi
    rcases hsec i u hu with ⟨h1,h2⟩ | ⟨ss,vs,h1,h2,h3,h4⟩
    ·exact .inl ⟨by rw [<- h1];exact e,h2⟩
    ·exact .inr ⟨ss,vs,by rw [<- h1];exact e,h2,h3,fun k u b hu hb=>⟨(h4 k u b hu hb).1,fun g hg=>.inl ((h4 k u b hu hb).2 g hg)⟩⟩
   ·have e:(A.D ++ [o])[A.D.length]? = some o:=by simp
    rcases ho with ⟨rfl,h2⟩ | ⟨ss,vs,rfl,h2,h3,h4⟩
    ·exact .inl ⟨e,h2⟩
    ·refine .inr ⟨ss,vs,e,ownsRow_down (ownsRow_same h2 (fun g hg=>?_)) (Nat.zero_le _),h3,fun k u b hu hb=>?_⟩
     ·obtain ⟨hlo,_,c,hc⟩:=rows_blk h2 hg
      exact htn g c _ hlo hc
     ·have q:=h4 k u b hu hb
      refine ⟨(q.sameB (fun g hg=>?_)).down (Nat.zero_le _),fun g hg=>.inr ?_⟩
      ·obtain ⟨hlo,_,c,hc⟩:=rows_blk q.row hg
       exact htn g c _ hlo hc
      ·obtain ⟨hlo,hhi,_⟩:=rows_blk q.row hg
       exact ⟨hlo,Nat.lt_of_lt_of_le hhi g5.size⟩
  ·obtain ⟨c,hc⟩:=rowBlock h.fly hg
   exact hto g c _ hc (by decide) (by decide)
  ·rw [hlen] at hg
   obtain rfl:dg = g:=Option.some.inj hg
   rcases hw with hw | hw
   ·exact .inl (h.Gd _ hw)
   ·exact .inr ⟨hw,hlt5⟩
  ·rcases hsp i u hu with ⟨hi,hu⟩ | ⟨rfl,rfl⟩
   ·exact .inl (h.Gs i u hu g hg)
   ·exact .inr ⟨(hvn g hg).1,Nat.lt_of_lt_of_le (hvn g hg).2 g5.size⟩
  ·rcases hsp i u hu with ⟨hi,hu1⟩ | ⟨e1,e2⟩
   ·rcases hsp j u' hu' with ⟨hj,hu2⟩ | ⟨e3,e4⟩
    ·exact h.ap i j u u' hu1 hu2 g hg hg'
    ·have a1:=hvn g (by rw [<- e4];exact hg')
     have a2:=h.lt g (h.Gs i u hu1 g hg)
     omega
   ·rcases hsp j u' hu' with ⟨hj,hu2⟩ | ⟨e3,e4⟩
    ·have a1:=hvn g (by rw [<- e2];exact hg)
     have a2:=h.lt g (h.Gs j u' hu2 g hg')
     omega
    ·omega
 ·rw [hs i (fun e=>hn (by rw [e];exact h.Gr))]
  exact gw.block i hi (fun e=>hn (h.Gd i e.symm))
 ·rcases hi with hi | hi
  ·exact .inl hi
  ·exact .inr hi.1
end
def mkTo (n i:Nat):AM.RA:=⟨List.replicate i (some (List.replicate n (AM.zs 64))),n,[],0,false⟩
theorem mkTo_len (n i:Nat):(mkTo n i).D.length = i:=by simp [mkTo]
theorem mkTo_step (n i:Nat):({ mkTo n i with D:=(mkTo n i).D ++ [some (List.replicate n (AM.zs 64))] }:AM.RA) = mkTo n (i + 1):=by simp [mkTo,List.replicate_succ']
set_option maxRecDepth 100000 in
set_option maxHeartbeats 800000 in
theorem rnew_yes {w:World} {N n:Nat} (h1:1 <= N) (h2:N <= 255) (h3:1 <= n) (h4:n <= 4096):Calls Tryz.prog 28 #[.int .i64 (N:Int),.int .i64 (n:Int)] w fun e w'=>∃ r,e = .returned (.tuple #[rptr r,.int .i64 0]) /\ ∃ G,RIs G w' r (AM.RA.new N n) /\ Base w G w':=by
 have j1:¬ (N:Int) < 1:=by omega
 have j2:¬ (255:Int) < (N:Int):=by omega
 have j3:¬ (n:Int) < 1:=by omega
 have j4:¬ (4096:Int) < (n:Int):=by omega
 have HN4:Hid (n <= 4096):=h4
 have H0:Hid (∃ G,RIs G (w.alloc (.cells #[.slice none 0 0,.int .i64 (n:Int),.slice none 0 0,.int .i64 0,.bool false] 86)) w.heap.size (mkTo n 0) /\ Base w G (w.alloc (.cells #[.slice none 0 0,.int .i64 (n:Int),.slice none 0 0,.int .i64 0,.bool false] 86))) :=
  ⟨fun i=>i = w.heap.size,⟨none,0,[],none,0,[],fun i hi=>(by subst hi;simp),heap_alloc_new w _,World.ownsRow_nil _ _ _ _,rfl,fun i v hv=>(by simp at hv),World.ownsRow_nil _ _ _ _,rfl,fun i u x hu=>(by simp at hu),rfl,fun g hg=>(by cases hg),fun i v hv=>(by simp at hv),fun g hg=>(by cases hg),fun i j u v hu=>(by simp at hu),(by simp [mkTo]),h4,(by simp [mkTo])⟩,World.grownBy_alloc _ _ none,fun i hi=>by omega⟩
 clear h1 h3 h4
 go_enter Tryz.func28,Tryz.ntmps28
 go_wp2_with fail
 clear j1 j2 j3 j4
 generalize w.alloc (.cells #[.slice none 0 0,.int .i64 (n:Int),.slice none 0 0,.int .i64 0,.bool false] 86) = W0 at *
 generalize w.heap.size = r at *
 go_loopw [7] (fun ti wr=>∃ i:Nat,i <= N /\ ti = .int .i64 (i:Int) /\ Hid (∃ G,RIs G wr r (mkTo n i) /\ Base w G wr)) (fun ti _=>N - (intOf ti).toNat)
 case atStart=>exact ⟨0,by omega,rfl,H0.out⟩
 case round =>
  clear H0
  obtain ⟨i,hi,rfl,HX⟩:=hrel
  by_cases hlt:i < N
  ·have i1:(i:Int) < (N:Int):=by omega
   obtain ⟨G,⟨dp,dc,ds,lp,lc,fs,hrl⟩,hb⟩:=HX.out
   have HRL:Hid (RL G wr r dp dc ds lp lc fs (mkTo n i)):=hrl
   have c0:wr.cell? ⟨r,0,none⟩ = some (.slice dp i dc):=by have:=hrl.topCells.1;rw [mkTo_len] at this;exact this
   have HI:Hid (i + 1 <= 255):=by show _ <= _;omega
   have HCK:Hid (∀ W,wr.grownBy W none -> W.cell? ⟨r,0,none⟩ = some (.slice dp i dc)):=fun W g=>g.cell c0 (by simp)
   have HDS:Hid (∀ W,wr.grownBy W none -> W.ownsRow 0 124 2 (.slice dp i dc) i (drow ds (mkTo n i).D)):=fun W g=>by
    have:=(hrl.keep g).dsk
    rw [mkTo_len] at this
    exact this
   have HGR:Hid (∀ (w8:World) (p8:Option Addr) (c8:Nat) (vs8:List Value),wr.grownBy w8 none -> (w8.ownsRow wr.heap.size 31 1 (.slice p8 n c8) n vs8 /\ ∀ (k:Nat) (u:Value),vs8[k]? = some u -> Own wr.heap.size w8 u (AM.zs 64)) -> ∀ (dg cap:Nat) (w5:World),w5.ownsRow 0 124 2 (.slice (some ⟨dg,0,none⟩) (i + 1) cap) (i + 1) (drow ds (mkTo n i).D ++ [.slice p8 n c8,.bool false]) -> (w8.alloc (.cells #[.slice p8 n c8,.bool false] 124)).grownBy w5 (Value.slice dp i dc).ownBlock -> ((Value.slice dp i dc).ownBlock = some dg \/ dg = (w8.alloc (.cells #[.slice p8 n c8,.bool false] 124)).heap.size) ->
    w5.cell? ⟨r,0,none⟩ = some (.slice dp i dc) /\ w5.frozen? ⟨r,0,none⟩ = false /\ ∃ G,RIs G (w5.setCell ⟨r,0,none⟩ (.slice (some ⟨dg,0,none⟩) (i + 1) cap)) r (mkTo n (i + 1)) /\ Base w G (w5.setCell ⟨r,0,none⟩ (.slice (some ⟨dg,0,none⟩) (i + 1) cap))):=fun w8 p8 c8 vs8 g8 hv8 dg cap w5 o5 g5 hw5=>by
    obtain ⟨k1,k2,G',k3,k4⟩:=hrl.grew (dg:=dg) (cap:=cap) (w5:=w5) (w1:=w8.alloc (.cells #[.slice p8 n c8,.bool false] 124)) (gb_alloc g8 _) (v:=.slice p8 n c8) (o:=some (List.replicate n (AM.zs 64))) (.inr ⟨_,vs8,rfl,ownsRow_same hv8.1 (fun g hg=>Below.heap_alloc _ _ _ (rows_blk hv8.1 hg).2.1),by simp [mkTo],fun k u b hu hb=>by
     obtain rfl:b = AM.zs 64:=(List.mem_replicate.1 (List.mem_of_getElem? hb)).2
     exact (hv8.2 k u hu).keep (World.grownBy_alloc _ _ none)⟩) (by rw [mkTo_len];exact o5) (by rw [mkTo_len];exact g5) (by
      rw [mkTo_len]
      rcases hw5 with h | h
      ·exact .inl h
      ·refine .inr ?_
       rw [h]
       exact Nat.le_trans g8.size (by simp)) (by rw [mkTo_len];exact HI.out)
    rw [mkTo_step] at k3
    rw [mkTo_len] at k1 k3 k4
    exact ⟨k1,k2,G',k3,hb.step k4⟩
   clear hrl hb HX
   go_wp2_with fail
   refine region_late (S:=(fun w'=>w'.cell? ⟨r,0,none⟩ = some (.slice dp i dc))) (by simp only [List.pop_toArray,List.dropLast];exact rfl) (by rfl) (by kernel_rfl) (by kernel_rfl) ?_ (fun hHeld=>?_)
   ·exact HCK.out _ (grown_drewN _ 1)
   refine wpAnyH_take (i:=0) (v:=?_) rfl (by kernel_rfl) (by kernel_rfl) (by kernel_rfl) (fun _ _ _ h=>h) (Or.inl ⟨by rfl,?_⟩) (by assumption) ?_
   rotate_left
   ·intro w hSw;(try dsimp only at hSw);first | (go_simp;done) | (go_simp;with_reducible rfl)
   simp only [Act.put,lay9]
   refine wpAnyH_take (i:=1) (v:=?_) rfl (by kernel_rfl) (by kernel_rfl) (by kernel_rfl) (fun _ _ _ h=>h) (Or.inl ⟨by rfl,?_⟩) (by assumption) ?_
   rotate_left
   ·intro w hSw;(try dsimp only at hSw);first | (go_simp;done) | (go_simp;with_reducible rfl)
   simp only [Act.put,lay9]
   refine wpAnyH_take (i:=2) (v:=?_) rfl (by kernel_rfl) (by kernel_rfl) (by kernel_rfl) (fun _ _ _ h=>h) (Or.inl ⟨by rfl,?_⟩) (by assumption) ?_
   rotate_left
   ·intro w hSw;(try dsimp only at hSw);first | (go_simp;done) | (go_simp;with_reducible rfl)
   simp only [Act.put,lay9]
   refine wpAnyH_take (i:=3) (v:=?_) rfl (by kernel_rfl) (by kernel_rfl) (by kernel_rfl) (fun _ _ _ h=>h) (Or.inl ⟨by rfl,?_⟩) (by assumption) ?_
   rotate_left
   ·intro w hSw;(try dsimp only at hSw);first | (go_simp;done) | (go_simp;with_reducible rfl)
   simp only [Act.put,lay9]
   refine wpAnyH_take (i:=4) (v:=?_) rfl (by kernel_rfl) (by kernel_rfl) (by kernel_rfl) (fun _ _ _ h=>h) (Or.inl ⟨by rfl,?_⟩) (by assumption) ?_
   rotate_left
   ·intro w hSw;(try dsimp only at hSw);first | (go_simp;done) | (go_simp;with_reducible rfl)
   simp only [Act.put,lay9]
   refine wpAnyH_take (i:=5) (v:=?_) rfl (by kernel_rfl) (by kernel_rfl) (by kernel_rfl) (fun _ _ _ h=>h) (Or.inl ⟨by rfl,?_⟩) (by assumption) ?_
   rotate_left
   ·intro w hSw;(try dsimp only at hSw);first | (go_simp;done) | (go_simp;with_reducible rfl)
   simp only [Act.put,lay9]
   refine wpAnyH_ready (rs:=[6]) (by kernel_rfl) (by simp) ?_
   refine AllReadyH.cons rfl (fun K hK=>?_) AllReadyH.nil
   go_simp
   refine (rblank_yes wr.drew HN4.out).mono ?_
   rintro e w8 ⟨p8,c8,vs8,rfl,ho8,hs8,hg8⟩
   have G8:Hid (wr.grownBy w8 none):=grown_trans (grown_drewN _ 1) hg8
   have HO8:Hid (w8.ownsRow wr.heap.size 31 1 (.slice p8 n c8) n vs8 /\ ∀ (k:Nat) (u:Value),vs8[k]? = some u -> Own wr.heap.size w8 u (AM.zs 64)):=⟨ho8,hs8⟩
   have G9:Hid (wr.grownBy (w8.alloc (.cells #[.slice p8 n c8,.bool false] 124)) none):=gb_alloc G8.out _
   have hlit:=lit_dsk w8 p8 n c8 false
   clear ho8 hs8 hg8
   refine hK.out _ _ (HCK.out _ G8.out) (fun hHeld=>?_)
   clear hK K
   (try simp only [Act.put,lay9])
   refine wpAnyH_ready (rs:=[7]) (by kernel_rfl) (by simp) ?_
   refine AllReadyH.cons rfl (fun K hK=>?_) AllReadyH.nil
   go_simp
   refine hK.out _ _ (HCK.out _ G9.out) (fun hHeld=>?_)
   clear hK K
   (try simp only [Act.put,lay9])
   refine wpAnyH_ready (rs:=[8]) (by kernel_rfl) (by simp) ?_
   refine AllReadyH.cons rfl (fun K hK=>?_) AllReadyH.nil
   refine step_append_at (by rfl) _ _ (by rfl) Tryz.underlying83 zeroDsk rfl (by decide) (by rfl) (by rfl) (HDS.out _ G9.out) (m:=1) (news:=[.slice p8 n c8,.bool false]) (by decide) rfl (fun j u hj=>by rw [add_at,Nat.zero_add];exact topCell (heap_alloc_new w8 _) (by simpa using hj)) (by intro u hu;simp at hu;rcases hu with rfl | rfl <;> rfl) (by have:=HI.out;unfold maxLen;omega) (by have:=HI.out;omega) ?_
   intro dg5 cap5 w5 o5 g5 hw5
   obtain ⟨k1,k2,k3⟩:=HGR.out w8 p8 c8 vs8 G8.out HO8.out _ _ w5 o5 g5 hw5
   have HX5:Hid (∃ G,RIs G (w5.setCell ⟨r,0,none⟩ (.slice (some ⟨dg5,0,none⟩) (i + 1) cap5)) r (mkTo n (i + 1)) /\ Base w G (w5.setCell ⟨r,0,none⟩ (.slice (some ⟨dg5,0,none⟩) (i + 1) cap5))):=k3
   clear o5 g5 hw5 k3
   refine hK.out _ _ (k1) (fun hHeld=>?_)
   clear hK K
   (try simp only [Act.put,lay9])
   refine wpAnyH_take (i:=9) (v:=?_) rfl (by kernel_rfl) (by kernel_rfl) (by kernel_rfl) (fun _ _ _ h=>h) (Or.inl ⟨by rfl,?_⟩) (by assumption) ?_
   rotate_left
   ·intro w hSw;(try dsimp only at hSw);first | (go_simp;done) | (go_simp;with_reducible rfl)
   simp only [Act.put,lay9]
   refine wpAnyH_take (i:=10) (v:=?_) rfl (by kernel_rfl) (by kernel_rfl) (by kernel_rfl) (fun _ _ _ h=>h) (Or.inl ⟨by rfl,?_⟩) (by assumption) ?_
   rotate_left
   ·intro w hSw;(try dsimp only at hSw);first | (go_simp;done) | (go_simp;with_reducible rfl)
   simp only [Act.put,lay9]
   refine wpAnyH_done (by kernel_rfl) ?_ _
   refine lastQ_normal ?_
   go_wp2
   go_roundw
   case rel=>exact ⟨i + 1,by omega,by go_num,HX5⟩
   case measure=>simp [intOf];omega
  ·have i1:¬ (i:Int) < (N:Int):=by omega
   obtain rfl:i = N:=by omega
   go_wp2
   go_ret2
   exact ⟨r,rfl,HX.out⟩
section
variable {F G F' G':Nat -> Prop} {w0 w w':World} {a r:Nat} {R R':AM.Raw} {A A':AM.RA}
theorem Is.aside (h:Is F w a R) (s:Step G w G' w') (hs:∀ k,F k -> G k -> False):Is F w' a R /\ ∀ k,F k -> G' k -> False:=by
 obtain ⟨h1,h2,h3⟩:=s.other h.lt (fun k hg hf=>hs k hf hg)
 exact ⟨h.same h1 h2,fun k hf hg=>h3 k hg hf⟩
end
theorem enters_sl:∀ args w,(callFunc 71 args).run Tryz.prog w = .ok (.enter 71 args) w:=by
 intro args w
 simp [go_sem,callFunc,Tryz.func71,Tryz.f71]
theorem Mat.upd {F:Nat -> Prop} {w w':World} {v:Value} {us:List Value} {X:List (List Nat)} (h:Mat w v us X) (u:Upd F w w') (hv:∀ b,v.ownBlock = some b -> ¬ F b) (hu:∀ j,j < X.length -> ∀ b,(us.getD j undef).ownBlock = some b -> ¬ F b):Mat w' v us X :=
 ⟨⟨h.row.len,by
   obtain ⟨p,cap,e,h1,h2,h3⟩:=h.row.form
   refine ⟨p,cap,e,h1,h2,fun hne=>?_⟩
   obtain ⟨b,off,e2,h4⟩:=h3 hne
   exact ⟨b,off,e2,fun j hj=>u.cell (h4 j hj) (hv b (by rw [e,e2];rfl))⟩⟩,h.same,fun j hj=>(h.vec j hj).upd u (fun _ b hb=>hu j hj b hb)⟩
theorem Step.fresh9 {F F':Nat -> Prop} {w W w2:World} {bk:Nat} (h:Step F w F' W) (g:W.grownBy w2 (some bk)) (hb:w.heap.size <= bk):Step F w F' w2 :=
 ⟨⟨g.os.trans h.upd.os,g.tape.trans h.upd.tape,g.output.trans h.upd.output,Nat.le_trans h.upd.size g.size,fun i hi hn=>(g.block i (Nat.lt_of_lt_of_le hi h.upd.size) (fun e=>by have:=Option.some.inj e;omega)).trans (h.upd.block i hi hn)⟩,h.sub⟩
theorem SI.beside {F:Nat -> Prop} {w w':World} {s a b:Nat} {g:SP.Geo} {R:AM.Raw} (h:SI F w s a g R) (gr:w.grownBy w' (some b)) (hb:¬ F b) (hne:s ≠ b):SI F w' s a g R:=by
 obtain ⟨h1,_⟩:=h.i.aside (G:=fun i=>i = b) (Step.of gr (fun i e=>(Option.some.inj e).symm)) (fun k hk hg=>hb (hg ▸ hk))
 exact ⟨h1,by rw [gr.block s h.lt (fun e=>hne (Option.some.inj e))];exact h.top,h.nf,h.ok⟩
structure SlS (w0:World) (W P Q T D s:Nat) (dv:Value) (us:List Value):Prop where
 oP:w0.heap.size <= P /\ P < D
 oQ:w0.heap.size <= Q /\ Q < D
 oT:w0.heap.size <= T /\ T < D
 oD:w0.heap.size <= D /\ D < W
 ov:∀ b,dv.ownBlock = some b -> w0.heap.size <= b /\ b < D
 ou:∀ j,j < us.length -> ∀ b,(us.getD j undef).ownBlock = some b -> w0.heap.size <= b /\ b < D
 os:s < w0.heap.size
structure SlI (F0:Nat -> Prop) (w0:World) (W P Q T D slot m:Nat) (dv:Value) (us:List Value) (xs:List Nat) (s a:Nat) (g:SP.Geo) (F:Nat -> Prop) (w:World) (R:AM.Raw) (n:Nat):Prop where
 i:SI F w s a g R
 bw:Boxed w W 3 (.int .i64 (n:Int))
 bs:Boxed w P 23 (ptr s)
 bl:Boxed w Q 3 (.int .i64 (slot:Int))
 bm:Boxed w T 30 (.int .u64 (m:Int))
 bd:Boxed w D 95 dv
 mt:Mat w dv us (SP.parts xs g.k)
 fr:∀ b,w0.heap.size <= b -> b <= W -> ¬ F b
 st:Step F0 w0 F w
section
variable {F0 F F':Nat -> Prop} {w0 w w':World} {W P Q T D slot m s a n:Nat} {dv:Value} {us:List Value} {xs:List Nat} {g:SP.Geo} {R R':AM.Raw}
theorem boxed_upd {B:Nat} {t:TypeId} {v:Value} (h:Boxed w B t v) (u:Upd F w w') (hn:¬ F B):Boxed w' B t v:=(u.block B h.lt hn).trans h
theorem SlI.step (h:SlI F0 w0 W P Q T D slot m dv us xs s a g F w R n) (S:SlS w0 W P Q T D s dv us) (i':SI F' w' s a g R') (st:Step F w F' w'):SlI F0 w0 W P Q T D slot m dv us xs s a g F' w' R' n:=by
 have o1:=S.oP
 have o2:=S.oQ
 have o3:=S.oT
 have o4:=S.oD
 refine ⟨i',boxed_upd h.bw st.upd (h.fr _ (by omega) (by omega)),boxed_upd h.bs st.upd (h.fr _ (by omega) (by omega)),boxed_upd h.bl st.upd (h.fr _ (by omega) (by omega)),boxed_upd h.bm st.upd (h.fr _ (by omega) (by omega)),boxed_upd h.bd st.upd (h.fr _ (by omega) (by omega)),h.mt.upd st.upd (fun b hb=>h.fr b (S.ov b hb).1 (by have:=(S.ov b hb).2;omega)) (fun j hj b hb=>?_),fun b h1 h2 hf=>?_,h.st.trans st⟩
 ·have hb2:=S.ou j (by rw [h.mt.same];exact hj) b hb
  exact h.fr b hb2.1 (by omega)
 ·rcases st.sub b hf with h3 | h3
  ·exact h.fr b h1 h2 h3
  ·have:=h.bw.lt;omega
theorem SlI.keep (h:SlI F0 w0 W P Q T D slot m dv us xs s a g F w R n) (S:SlS w0 W P Q T D s dv us) (g1:w.grownBy w' none):SlI F0 w0 W P Q T D slot m dv us xs s a g F w' R n:=h.step S (h.i.keep g1) (Step.new g1)
theorem SlI.count (h:SlI F0 w0 W P Q T D slot m dv us xs s a g F w R n) (S:SlS w0 W P Q T D s dv us):SlI F0 w0 W P Q T D slot m dv us xs s a g F (w.setCell ⟨W,0,none⟩ (.int .i64 ((n + 1:Nat):Int))) R (n + 1):=by
 have o1:=S.oP
 have o2:=S.oQ
 have o3:=S.oT
 have o4:=S.oD
 have gs:=grownBy_setCell' w W (.int .i64 ((n + 1:Nat):Int))
 have nW:=h.fr W (by omega) (by omega)
 refine ⟨h.i.beside gs nW (by have:=S.os;omega),h.bw.set _,h.bs.kept gs (fun e=>by have:=Option.some.inj e;omega),h.bl.kept gs (fun e=>by have:=Option.some.inj e;omega),h.bm.kept gs (fun e=>by have:=Option.some.inj e;omega),h.bd.kept gs (fun e=>by have:=Option.some.inj e;omega),h.mt.upd (F:=fun i=>i = W) (Upd.of gs (fun i e=>(Option.some.inj e).symm)) (fun b hb e=>by have:=(S.ov b hb).2;omega) (fun j hj b hb e=>?_),h.fr,h.st.fresh9 gs (by omega)⟩
 have hb2:=S.ou j (by rw [h.mt.same];exact hj) b hb
 omega
theorem sl_yes (j:Nat):Calls Tryz.prog 71 #[.int .i64 (j:Int),.bool true,.pointer (some ⟨W,0,none⟩),.pointer (some ⟨P,0,none⟩),.pointer (some ⟨Q,0,none⟩),.pointer (some ⟨T,0,none⟩),.pointer (some ⟨D,0,none⟩)] w fun e w'=>e = .returned (.int .i64 0) /\ w' = w:=by
 go_enter Tryz.func71,Tryz.ntmps71
 go_wp2
 go_ret
 exact ⟨rfl,rfl⟩
set_option maxHeartbeats 1600000 in
theorem sl_no (h:SlI F0 w0 W P Q T D slot m dv us xs s a g F w R n) (S:SlS w0 W P Q T D s dv us) (h0:R.off = false) {j:Nat} (hl:xs.length = g.k * 448) (hd:j < g.n) (hs:slot < g.s) (hm:m ≠ 0) (hL:R.L.length <= 990000) (hn:n <= 1000) :
 Calls Tryz.prog 71 #[.int .i64 (j:Int),.bool false,.pointer (some ⟨W,0,none⟩),.pointer (some ⟨P,0,none⟩),.pointer (some ⟨Q,0,none⟩),.pointer (some ⟨T,0,none⟩),.pointer (some ⟨D,0,none⟩)] w fun e w'=>e = .returned (.int .i64 ((SP.lays R g slot j m ((SP.code g xs).getD j [])).1:Int)) /\ ∃ F',SlI F0 w0 W P Q T D slot m dv us xs s a g F' w' (SP.lays R g slot j m ((SP.code g xs).getD j [])).2 (n + 1):=by
 have C1:=h.count S
 have kw:=h.bw.cell
 have kf:=h.bw.frozen
 obtain ⟨q,N,cap,rfl,hN⟩:=h.mt.row.opened
 have d1:=C1.bs.cell
 have d2:=C1.bl.cell
 have d3:=C1.bm.cell
 have d4:=C1.bd.cell
 have hw:IntKind.i64.wrap ((n:Int) + 1) = ((n + 1:Nat):Int):=by
  have e:(n:Int) + 1 = ((n + 1:Nat):Int):=by omega
  rw [e]
  exact IntWalk.i64_in _ (by omega)
 have LA:Hid (Calls Tryz.prog 72 #[ptr s,.int .i64 (j:Int),.int .i64 (slot:Int),.int .u64 (m:Int),.slice q N cap] (w.setCell ⟨W,0,none⟩ (.int .i64 ((n + 1:Nat):Int))) fun e w'=>e = .returned (.int .i64 ((SP.lays R g slot j m ((SP.code g xs).getD j [])).1:Int)) /\ ∃ F',SlI F0 w0 W P Q T D slot m (.slice q N cap) us xs s a g F' w' (SP.lays R g slot j m ((SP.code g xs).getD j [])).2 (n + 1)):=by
  refine (mlay_yes C1.i h0 C1.mt hl hd hs hm hL).mono ?_
  rintro e w' ⟨rfl,F',i',st⟩
  exact ⟨rfl,F',C1.step S i' st⟩
 clear h hN C1 h0 hl hd hs hm hL hn S
 obtain ⟨c,hc⟩:∃ c,c = ((SP.lays R g slot j m ((SP.code g xs).getD j [])).1:Int):=⟨_,rfl⟩
 rw [<- hc] at LA ⊢
 clear hc
 obtain ⟨n1,hn1⟩:∃ n1,n1 = n + 1:=⟨_,rfl⟩
 rw [<- hn1] at hw d1 d2 d3 d4 LA ⊢
 clear hn1
 go_enter Tryz.func71,Tryz.ntmps71
 go_wp2_with (go_at_call 72;refine LA.out.mono ?_;rintro e w3 ⟨rfl,hp⟩;have HP:Hid (∃ F',SlI F0 w0 W P Q T D slot m (.slice q N cap) us xs s a g F' w3 (SP.lays R g slot j m ((SP.code g xs).getD j [])).2 n1):=hp;clear hp)
 go_ret
 exact ⟨rfl,HP.out⟩
theorem mendTo_len (R:AM.Raw) (g:SP.Geo) (slot m:Nat) (E:List (List Nat)):∀ d,(SP.mendTo R g slot m E d).2.L.length <= R.L.length + 8 * d
 | 0=>by simp [SP.mendTo]
 | d + 1=>by
   have:=mendTo_len R g slot m E d
   unfold SP.mendTo
   split
   ·have:=layTo_len (SP.mendTo R g slot m E d).2 g slot d (CM.secs m (E.getD d []) 8) 8
    unfold SP.lays
    omega
   ·omega
theorem slotM_len (R:AM.Raw) (g:SP.Geo) (slot:Int) (m:Nat) (out:List Nat) (e:Nat):(SP.slotM R g slot m out e).2.L.length <= R.L.length + 8 * g.n:=by
 unfold SP.slotM
 split
 ·exact mendTo_len _ _ _ _ _ _
 ·simp
theorem sl_each (h:SlI F0 w0 W P Q T D slot m dv us xs s a g F w R 0) (S:SlS w0 W P Q T D s dv us) (h0:R.off = false) (hl:xs.length = g.k * 448) (hs:slot < g.s) (hm:m ≠ 0) (hL:R.L.length <= 980000) :
 Calls Tryz.prog 66 #[ptr s,.int .i64 (slot:Int),.int .u64 (m:Int),.func (.func 71) #[] #[.pointer (some ⟨W,0,none⟩),.pointer (some ⟨P,0,none⟩),.pointer (some ⟨Q,0,none⟩),.pointer (some ⟨T,0,none⟩),.pointer (some ⟨D,0,none⟩)]] w fun e w' =>
  e = .returned (.int .i64 (((SP.mendTo R g slot m (SP.code g xs) g.n).1:Nat):Int)) /\ ∃ F' n',SlI F0 w0 W P Q T D slot m dv us xs s a g F' w' (SP.mendTo R g slot m (SP.code g xs) g.n).2 n' /\ ((SP.mendTo R g slot m (SP.code g xs) g.n).1 = 0 -> n' = (SP.wants R g slot m g.n).length):=by
 have hn:=h.i.ok.n255
 have ok:=h.i.i.ok
 refine (meach_any (g:=g) (a:=a) hs hm enters_sl (fun j=>(SP.mendTo R g slot m (SP.code g xs) j).2)
  (fun j w'=>j <= g.n /\ (SP.mendTo R g slot m (SP.code g xs) j).1 = 0 /\ ∃ F',SlI F0 w0 W P Q T D slot m dv us xs s a g F' w' (SP.mendTo R g slot m (SP.code g xs) j).2 (SP.wants R g slot m j).length)
  (fun j w'=>∃ F' n',SlI F0 w0 W P Q T D slot m dv us xs s a g F' w' (SP.mendTo R g slot m (SP.code g xs) (j + 1)).2 n') (fun j=>(SP.mendTo R g slot m (SP.code g xs) (j + 1)).1) ?_ ?_ ?_ ?_ ?_).mono ?_
 ·rintro j w' ⟨_,h1,F',t⟩
  exact ⟨SP.mendTo_pow h0 j h1,F',t.i⟩
 ·rintro j w1 w2 ⟨hj,h1,F',t⟩ g1
  exact ⟨hj,h1,F',t.keep S g1⟩
 ·rintro j w' hj ho ⟨_,h1,F',t⟩
  have ho':R.on (j:Int) = false:=by rw [<- (SP.mendTo_kept R g slot m (SP.code g xs) j).on];exact ho
  have e1:=SP.mendTo_no (E:=SP.code g xs) (SP.want_off (g:=g) (slot:=slot) (m:=m) ho')
  have e2:=SP.wants_succ R g slot m j
  rw [SP.want_off ho'] at e2
  simp only [Bool.false_eq_true,if_false,List.append_nil] at e2
  exact ⟨by omega,by rw [e1];exact h1,F',by rw [e1,e2];exact t⟩
 ·rintro j w' hj ho ⟨_,h1,F',t⟩
  have ho':R.on (j:Int) = true:=by rw [<- (SP.mendTo_kept R g slot m (SP.code g xs) j).on];exact ho
  have eh:=SP.mendTo_has ok (g:=g) (slot:=slot) (m:=m) (E:=SP.code g xs) SP.code_small9 h1 (Nat.le_refl j)
  have ew:=SP.want_on (g:=g) (slot:=slot) (m:=m) ho'
  have e2:=SP.wants_succ R g slot m j
  rw [eh]
  cases hb:SP.has R g slot m j
  ·rw [hb] at ew
   have ew':SP.want R g slot m j = true:=ew
   rw [ew'] at e2
   have e1:=SP.mendTo_yes (E:=SP.code g xs) h1 ew'
   have hl1:=SP.wants_len_le R g slot m j
   have hl2:=mendTo_len R g slot m (SP.code g xs) j
   refine (sl_no t S (SP.mendTo_pow h0 j h1) (j:=j) hl hj hs hm (by omega) (by omega)).mono ?_
   rintro e3 w3 ⟨rfl,F3,t3⟩
   rw [<- e1] at t3 ⊢
   refine ⟨rfl,?_⟩
   split
   ·rename_i c
    refine ⟨by omega,c,F3,?_⟩
    rw [e2]
    simpa using t3
   ·exact ⟨F3,_,t3⟩
  ·rw [hb] at ew
   have ew':SP.want R g slot m j = false:=ew
   rw [ew'] at e2
   simp only [Bool.false_eq_true,if_false,List.append_nil] at e2
   have e1:=SP.mendTo_no (E:=SP.code g xs) ew'
   refine (sl_yes j).mono ?_
   rintro e3 w3 ⟨rfl,rfl⟩
   rw [e1,h1]
   refine ⟨rfl,?_⟩
   rw [if_pos rfl]
   exact ⟨by omega,rfl,F',by rw [e2];exact t⟩
 ·exact ⟨by omega,rfl,F,h⟩
 ·rintro e w' (⟨rfl,_,h1,F',t⟩ | ⟨j,hj,hc,rfl,F',n',t⟩)
  ·rw [h1]
   exact ⟨rfl,F',_,t,fun _=>rfl⟩
  ·have e1:=SP.mendTo_stop hc g.n (by omega)
   rw [e1]
   exact ⟨rfl,F',n',t,fun h=>absurd h hc⟩
end
section
variable {F F':Nat -> Prop} {w w':World} {s a:Nat} {g:SP.Geo} {R R':AM.Raw}
theorem rdp_ok {slot:Int} {m:Nat} {out:List Nat} (h:SP.RdP R g slot m out 0):SP.why R g slot = 0 /\ m ≠ 0:=by
 rcases h with ⟨h1,_,h2⟩ | ⟨_,_,_,h2⟩ | ⟨_,_,_,_,h2⟩ | ⟨h1,h2,_⟩
 ·exact absurd h2.symm h1
 ·omega
 ·omega
 ·exact ⟨h1,h2⟩
set_option maxHeartbeats 1600000 in
theorem mslot_all (h:SI F w s a g R) (slot:Int) (m:Nat) (hL:R.L.length <= 980000) :
 Calls Tryz.prog 21 #[ptr s,.int .i64 slot,.int .u64 (m:Int)] w fun e w'=>∃ out er,SP.RdP R g slot m out er /\ e = .returned (.tuple #[.int .i64 ((SP.slotN R g slot m out er:Nat):Int),.int .i64 (((SP.slotM R g slot m out er).1:Nat):Int)]) /\ ∃ F',SI F' w' s a g (SP.slotM R g slot m out er).2 /\ Step F w F' w':=by
 have G3:Hid (w.grownBy (((w.alloc (.cells #[ptr s] 23)).alloc (.cells #[.int .i64 slot] 3)).alloc (.cells #[.int .u64 (m:Int)] 30)) none):=gb_alloc (gb_alloc (World.grownBy_alloc w _ none) _) _
 have b1:Boxed (((w.alloc (.cells #[ptr s] 23)).alloc (.cells #[.int .i64 slot] 3)).alloc (.cells #[.int .u64 (m:Int)] 30)) w.heap.size 23 (ptr s):=((Boxed.new w _ _).alloc _).alloc _
 have b2:Boxed (((w.alloc (.cells #[ptr s] 23)).alloc (.cells #[.int .i64 slot] 3)).alloc (.cells #[.int .u64 (m:Int)] 30)) (w.heap.size + 1) 3 (.int .i64 slot):=by
  have:=(Boxed.new (w.alloc (.cells #[ptr s] 23)) 3 (.int .i64 slot)).alloc (.cells #[.int .u64 (m:Int)] 30)
  rwa [World.size_alloc] at this
 have b3:Boxed (((w.alloc (.cells #[ptr s] 23)).alloc (.cells #[.int .i64 slot] 3)).alloc (.cells #[.int .u64 (m:Int)] 30)) (w.heap.size + 1 + 1) 30 (.int .u64 (m:Int)):=by
  have:=Boxed.new ((w.alloc (.cells #[ptr s] 23)).alloc (.cells #[.int .i64 slot] 3)) 30 (.int .u64 (m:Int))
  rwa [World.size_alloc,World.size_alloc] at this
 have BX:Hid (∀ w',(((w.alloc (.cells #[ptr s] 23)).alloc (.cells #[.int .i64 slot] 3)).alloc (.cells #[.int .u64 (m:Int)] 30)).grownBy w' none -> Boxed w' w.heap.size 23 (ptr s) /\ Boxed w' (w.heap.size + 1) 3 (.int .i64 slot) /\ Boxed w' (w.heap.size + 1 + 1) 30 (.int .u64 (m:Int))):=fun w' g'=>⟨b1.kept g' (by simp),b2.kept g' (by simp),b3.kept g' (by simp)⟩
 have H:Hid (SI F w s a g R):=h
 have HL:Hid (R.L.length <= 980000):=hL
 have RD:Hid (Calls Tryz.prog 22 #[ptr s,.int .i64 slot,.int .u64 (m:Int)] (((w.alloc (.cells #[ptr s] 23)).alloc (.cells #[.int .i64 slot] 3)).alloc (.cells #[.int .u64 (m:Int)] 30)) fun e w'=>∃ p n c er out,e = .returned (.tuple #[.slice p n c,.int .i64 ((er:Nat):Int)]) /\ SP.RdP R g slot m out er /\ (er = 0 -> out.length = g.k * 448) /\ Own w.heap.size w' (.slice p n c) out /\ (((w.alloc (.cells #[ptr s] 23)).alloc (.cells #[.int .i64 slot] 3)).alloc (.cells #[.int .u64 (m:Int)] 30)).grownBy w' none):=by
  refine (sread_len (h.keep G3.out) slot m).mono ?_
  rintro e w' ⟨v,er,out,rfl,h1,h2,h3,h4⟩
  obtain ⟨p,n,c,rfl,_⟩:=h3.vec.opened
  exact ⟨p,n,c,er,out,rfl,h1,h2,h3.down G3.out.size,h4⟩
 clear h hL b1 b2 b3
 go_enter Tryz.func21,Tryz.ntmps21
 go_wp2_with fail
 refine RD.out.mono ?_
 rintro e w1 ⟨p,n,c,er,out,rfl,hr,hlen,ho,g1⟩
 have HR1:Hid (SP.RdP R g slot m out er /\ (er = 0 -> out.length = g.k * 448)):=⟨hr,hlen⟩
 have O1:Hid (Own w.heap.size w1 (.slice p n c) out):=ho
 have G1:Hid ((((w.alloc (.cells #[ptr s] 23)).alloc (.cells #[.int .i64 slot] 3)).alloc (.cells #[.int .u64 (m:Int)] 30)).grownBy w1 none):=g1
 clear hr hlen ho g1
 have GW:Hid (w.grownBy w1 none):=grown_trans G3.out G1.out
 have BX1:Hid (∀ w',w1.grownBy w' none -> Boxed w' w.heap.size 23 (ptr s) /\ Boxed w' (w.heap.size + 1) 3 (.int .i64 slot) /\ Boxed w' (w.heap.size + 1 + 1) 30 (.int .u64 (m:Int))):=fun w' g'=>BX.out w' (grown_trans G1.out g')
 clear RD BX G3 G1
 by_cases h0:er = 0
 ·subst h0
  obtain ⟨y,hm⟩:=rdp_ok HR1.out.1
  obtain ⟨q0,q1,q2⟩:=SP.why_zero y
  obtain ⟨sl,rfl⟩:∃ n:Nat,slot = (n:Int):=⟨slot.toNat,by omega⟩
  have hl:=HR1.out.2 rfl
  have hk1:=H.out.ok.k1
  have hk255:g.k <= 255:=by have:=H.out.ok.kn;have:=H.out.ok.n255;omega
  have hnc:n = 448 * g.k /\ n <= c:=by
   obtain ⟨p',cap',e,h3,_⟩:=O1.out.vec.form
   injection e with e1 e2 e3
   exact ⟨by rw [e2,hl];omega,by omega⟩
  obtain ⟨b,rfl,z1,z2,z3,z4,z5,z6⟩:=O1.out.spot (k:=0) (by rw [hl];omega)
  clear z1 z2 z3 z4 z5 z6
  have CU:Hid (Calls Tryz.prog 70 #[.slice (some ⟨b,0,none⟩) n c] w1 fun e w'=>∃ q N cap,e = .returned (.slice q N cap) /\ Out w1.heap.size w' (.slice q N cap) (cutsAt b 0 g.k) /\ Mat w' (.slice q N cap) (cutsAt b 0 g.k) (SP.parts out g.k) /\ w1.grownBy w' none):=by
   refine (mcut_any O1.out.vec hnc.1 hl (by omega) hk255 hnc.2).mono ?_
   rintro e w' ⟨u,rfl,ou,gu⟩
   have mm:=cuts_mat (O1.out.vec.keep gu) hl ou
   obtain ⟨q,N,cap,rfl,_⟩:=mm.row.opened
   exact ⟨q,N,cap,rfl,ou,mm,gu⟩
  have HB:Hid (w.heap.size <= b /\ b < w1.heap.size):=O1.out.row.lt b rfl
  have HY:Hid (SP.RdP R g (sl:Int) m out 0 /\ out.length = g.k * 448 /\ R.off = false /\ sl < g.s /\ m ≠ 0):=⟨HR1.out.1,hl,q0,by omega,hm⟩
  clear HR1 O1 y hm q0 q1 q2 hl hk1 hk255 hnc
  have e1:SP.slotM R g (sl:Int) m out 0 = SP.mendTo R g sl m (SP.code g out) g.n:=by unfold SP.slotM;rw [if_pos rfl,Int.toNat_natCast]
  have HE:Hid (SP.slotN R g (sl:Int) m out 0 = if (SP.mendTo R g sl m (SP.code g out) g.n).1 = 0 then (SP.wants R g sl m g.n).length else 0):=by show _ = _;unfold SP.slotN;rw [e1,Int.toNat_natCast]
  have HE1:Hid (SP.slotM R g (sl:Int) m out 0 = SP.mendTo R g sl m (SP.code g out) g.n):=e1
  clear e1
  go_wp2_with (first
   | (go_at_call 70;refine CU.out.mono ?_;rintro e w2 ⟨q,N,cap,rfl,o2,m2,g2⟩;have O2:Hid (Out w1.heap.size w2 (.slice q N cap) (cutsAt b 0 g.k)):=o2;have M2:Hid (Mat w2 (.slice q N cap) (cutsAt b 0 g.k) (SP.parts out g.k)):=m2;have G2:Hid (w1.grownBy w2 none):=g2;have GX:Hid (w1.grownBy ((w2.alloc (.cells #[.slice q N cap] 95)).alloc (.cells #[.int .i64 0] 3)) none):=gb_alloc (gb_alloc g2 _) _;have cb:=(BX1.out _ GX.out).1.cell;have cl:=(BX1.out _ GX.out).2.1.cell;have cm:=(BX1.out _ GX.out).2.2.cell;clear o2 m2 g2)
   | fail)
  have S2:SlS w (w2.heap.size + 1) w.heap.size (w.heap.size + 1) (w.heap.size + 1 + 1) w2.heap.size s (.slice q N cap) (cutsAt b 0 g.k):=by
   have z1:=(BX1.out w2 G2.out).2.2.lt
   have z2:=G2.out.size
   have z3:=GW.out.size
   refine ⟨⟨by omega,by omega⟩,⟨by omega,by omega⟩,⟨by omega,by omega⟩,⟨by omega,by omega⟩,fun x hx=>?_,fun j hj x hx=>?_,H.out.lt⟩
   ·have h1:=O2.out.row.lt x hx
    omega
   ·have h1:=HB.out
    have hj2:j < g.k:=by rwa [cutsAt_len] at hj
    rw [show (cutsAt b 0 g.k).getD j undef = .slice (some ⟨b,0 + 448 * j,none⟩) 448 448 from by simp [cutsAt,List.getD,hj2]] at hx
    have h2:b = x:=by simpa [Value.ownBlock] using hx
    omega
  have T2:SlI F w (w2.heap.size + 1) w.heap.size (w.heap.size + 1) (w.heap.size + 1 + 1) w2.heap.size sl m (.slice q N cap) (cutsAt b 0 g.k) out s a g F ((w2.alloc (.cells #[.slice q N cap] 95)).alloc (.cells #[.int .i64 0] 3)) R 0:=by
   have bb:=BX1.out _ GX.out
   refine ⟨H.out.keep (grown_trans GW.out GX.out),?_,bb.1,bb.2.1,bb.2.2,(Boxed.new w2 _ _).alloc _,M2.out.keep (gb_alloc (World.grownBy_alloc w2 _ none) _),fun x h1 _ hf=>by have:=H.out.i.lt x hf;omega,Step.new (grown_trans GW.out GX.out)⟩
   have:=Boxed.new (w2.alloc (.cells #[.slice q N cap] 95)) 3 (.int .i64 0)
   rwa [World.size_alloc] at this
  have EA:Hid (Calls Tryz.prog 66 #[ptr s,.int .i64 (sl:Int),.int .u64 (m:Int),.func (.func 71) #[] #[.pointer (some ⟨w2.heap.size + 1,0,none⟩),.pointer (some ⟨w.heap.size,0,none⟩),.pointer (some ⟨w.heap.size + 1,0,none⟩),.pointer (some ⟨w.heap.size + 1 + 1,0,none⟩),.pointer (some ⟨w2.heap.size,0,none⟩)]] ((w2.alloc (.cells #[.slice q N cap] 95)).alloc (.cells #[.int .i64 0] 3)) fun e w' =>
   e = .returned (.int .i64 (((SP.mendTo R g sl m (SP.code g out) g.n).1:Nat):Int)) /\ ∃ F' n',SlI F w (w2.heap.size + 1) w.heap.size (w.heap.size + 1) (w.heap.size + 1 + 1) w2.heap.size sl m (.slice q N cap) (cutsAt b 0 g.k) out s a g F' w' (SP.mendTo R g sl m (SP.code g out) g.n).2 n' /\ ((SP.mendTo R g sl m (SP.code g out) g.n).1 = 0 -> n' = (SP.wants R g sl m g.n).length)):=sl_each T2 S2 HY.out.2.2.1 HY.out.2.1 HY.out.2.2.2.1 HY.out.2.2.2.2 HL.out
  have HYR:Hid (SP.RdP R g (sl:Int) m out 0):=HY.out.1
  clear S2 T2 CU HB HY O2 M2 BX1 GX GW G2 H HL cb cl cm
  generalize SP.mendTo R g sl m (SP.code g out) g.n = MT at *
  generalize (SP.wants R g sl m g.n).length = WL at *
  obtain ⟨c1,R1⟩:=MT
  dsimp only at EA HE
  refine EA.out.mono ?_
  rintro e w5 ⟨rfl,F5,n5,t5,hn5⟩
  have c5:=t5.bw.cell
  have HS5:Hid (SI F5 w5 s a g R1 /\ Step F w F5 w5):=⟨t5.i,t5.st⟩
  clear t5 EA
  by_cases hc:c1 = 0
  ·subst hc
   obtain rfl:=hn5 rfl
   clear hn5
   go_wp2
   go_ret2
   exact ⟨out,0,HYR.out,by rw [HE.out,HE1.out];first | rfl | (rw [if_pos rfl];rfl),F5,by rw [HE1.out];exact HS5.out.1,HS5.out.2⟩
  ·have hne:((c1:Int) != 0) = true:=neb_yes (b:=0) hc
   have HC:Hid (¬ c1 = 0):=hc
   clear hn5 c5 hc
   go_wp2
   go_ret2
   exact ⟨out,0,HYR.out,by rw [HE.out,HE1.out];first | (rw [if_neg HC.out];rfl) | rfl,F5,by rw [HE1.out];exact HS5.out.1,HS5.out.2⟩
 ·have hne:((er:Int) != 0) = true:=neb_yes (b:=0) h0
  have e1:SP.slotM R g slot m out er = (er,R):=by unfold SP.slotM;rw [if_neg h0]
  have e2:SP.slotN R g slot m out er = 0:=by unfold SP.slotN;rw [e1,if_neg h0]
  have HE:Hid (SP.slotM R g slot m out er = (er,R) /\ SP.slotN R g slot m out er = 0):=⟨e1,e2⟩
  clear h0 e1 e2 BX1 O1
  go_wp2
  go_ret2
  exact ⟨out,er,HR1.out.1,by rw [HE.out.1,HE.out.2];rfl,F,by rw [HE.out.1];exact H.out.keep GW.out,Step.new GW.out⟩
end
def uw9 (n:Nat):Value:=.int .u64 (n:Int)
def us9 (st:List Nat):List Value:=st.map uw9
theorem us9_len (st:List Nat):(us9 st).length = st.length:=by simp [us9]
theorem us9_get {st:List Nat} {j:Nat} (h:j < st.length):(us9 st).getD j undef = .int .u64 ((st.getD j 0:Nat):Int):=by simp [us9,uw9,List.getD,h]
namespace SP
theorem allTo_stop {rd:AM.Raw -> Int -> Nat -> List Nat -> Nat -> Prop} {R R':AM.Raw} {g:Geo} {st:List Nat} {j n e:Nat} (h:allTo rd R g st j n e R') (he:e ≠ 0):∀ i,j <= i -> allTo rd R g st i n e R':=fun i hi=>by
 induction i with
 | zero=>obtain rfl:j = 0:=by omega
         exact h
 | succ i ih =>
   by_cases c:j = i + 1
   ·subst c;exact h
   ·exact ⟨n,e,R',ih (by omega),.inl ⟨he,rfl,rfl,rfl⟩⟩
end SP
theorem allTo_len {rd:AM.Raw -> Int -> Nat -> List Nat -> Nat -> Prop} {R:AM.Raw} {g:SP.Geo} {st:List Nat}:∀ j n e R',SP.allTo rd R g st j n e R' -> R'.L.length <= R.L.length + 8 * g.n * j
 | 0,n,e,R',h=>by obtain ⟨_,_,rfl⟩:=h;simp
 | j + 1,n,e,R',h=>by
   obtain ⟨n0,e0,R0,h0,h⟩:=h
   have ih:=allTo_len j n0 e0 R0 h0
   have hm:8 * g.n * (j + 1) = 8 * g.n * j + 8 * g.n:=Nat.mul_succ _ _
   rcases h with ⟨_,_,_,rfl⟩ | ⟨_,_,_,_,rfl⟩ | ⟨_,_,out,er,_,rfl,_,_⟩
   ·omega
   ·omega
   ·have:=slotM_len R0 g (j:Int) (st.getD j 0) out er
    omega
theorem allTo_le {rd:AM.Raw -> Int -> Nat -> List Nat -> Nat -> Prop} {R:AM.Raw} {g:SP.Geo} {st:List Nat}:∀ j n e R',SP.allTo rd R g st j n e R' -> n <= g.n * j
 | 0,n,e,R',h=>by obtain ⟨rfl,_,_⟩:=h;simp
 | j + 1,n,e,R',h=>by
   obtain ⟨n0,e0,R0,h0,h⟩:=h
   have ih:=allTo_le j n0 e0 R0 h0
   have hm:g.n * (j + 1) = g.n * j + g.n:=Nat.mul_succ _ _
   rcases h with ⟨_,rfl,_,_⟩ | ⟨_,_,rfl,_,_⟩ | ⟨_,_,out,er,_,_,_,rfl⟩
   ·omega
   ·omega
   ·have:=SP.slotN_le R0 g (j:Int) (st.getD j 0) out er
    split <;> omega
section
variable {F F':Nat -> Prop} {w w':World} {s a:Nat} {g:SP.Geo} {R R':AM.Raw}
theorem mall_off (h:SI F w s a g R) (h0:R.off = true) (v:Value):Calls Tryz.prog 26 #[ptr s,v] w fun e w'=>e = .returned (.tuple #[.int .i64 0,.int .i64 8]) /\ w' = w:=by
 have H:Hid (SI F w s a g R):=h
 have OF:Hid (Calls Tryz.prog 24 #[ptr a] w fun e w'=>e = .returned (.bool true) /\ w' = w):=by rw [<- h0];exact off_yes h.i
 clear h h0
 go_enter Tryz.func26,Tryz.ntmps26
 go_wp2_with (first
  | (go_at_call 11;refine (sarray_yes H.out).mono ?_;rintro e w9 ⟨rfl,hw9⟩;obtain rfl:=hw9.symm;clear hw9)
  | (go_at_call 24;refine OF.out.mono ?_;rintro e w9 ⟨rfl,hw9⟩;obtain rfl:=hw9.symm;clear hw9))
 go_ret2
 exact ⟨rfl,rfl⟩
theorem mall_arg (h:SI F w s a g R) (h0:R.off = false) {p:Option Addr} {N cap:Nat} (hN:N ≠ g.s):Calls Tryz.prog 26 #[ptr s,.slice p N cap] w fun e w'=>e = .returned (.tuple #[.int .i64 0,.int .i64 1]) /\ w.grownBy w' none:=by
 have H:Hid (SI F w s a g R):=h
 have OF:Hid (Calls Tryz.prog 24 #[ptr a] w fun e w'=>e = .returned (.bool false) /\ w' = w):=by rw [<- h0];exact off_yes h.i
 have hne:((N:Int) != (g.s:Int)) = true:=neb_yes hN
 have hgf:=geo_s g
 clear h h0 hN
 go_enter Tryz.func26,Tryz.ntmps26
 go_wp2_with (first
  | (go_at_call 11;refine (sarray_yes H.out).mono ?_;rintro e w9 ⟨rfl,hw9⟩;obtain rfl:=hw9.symm;clear hw9)
  | (go_at_call 24;refine OF.out.mono ?_;rintro e w9 ⟨rfl,hw9⟩;obtain rfl:=hw9.symm;clear hw9)
  | (go_at_call 68;refine (sgeo_yes H.out).mono ?_;rintro e w1 ⟨rfl,g1⟩;have G1:Hid (w.grownBy w1 none):=g1;clear g1))
 go_ret2
 exact ⟨rfl,G1.out⟩
set_option maxHeartbeats 6400000 in
theorem mall_main (h:SI F w s a g R) (h0:R.off = false) {v:Value} {st:List Nat} (hv:Cells w v (us9 st)) (hF:∀ b,v.ownBlock = some b -> ¬ F b) (hN:st.length = g.s) (hL:R.L.length + 8 * g.n * g.s <= 980000) :
 Calls Tryz.prog 26 #[ptr s,v] w fun e w'=>∃ n er R',e = .returned (.tuple #[.int .i64 ((n:Nat):Int),.int .i64 ((er:Nat):Int)]) /\ SP.allTo (fun R=>SP.RdP R g) R g st g.s n er R' /\ ∃ F',SI F' w' s a g R' /\ Step F w F' w':=by
 obtain ⟨p,N,cap,rfl,hNN⟩:=hv.opened
 rw [us9_len] at hNN
 have H:Hid (SI F w s a g R):=h
 have OF:Hid (Calls Tryz.prog 24 #[ptr a] w fun e w'=>e = .returned (.bool false) /\ w' = w):=by rw [<- h0];exact off_yes h.i
 have hne:((N:Int) != (g.s:Int)) = false:=neb_no (by omega)
 have hgf:=geo_s g
 have HV:Hid (Cells w (.slice p N cap) (us9 st) /\ ∀ b,(Value.slice p N cap).ownBlock = some b -> ¬ F b):=⟨hv,hF⟩
 have HN:Hid (N = st.length /\ N = g.s /\ R.L.length + 8 * g.n * g.s <= 980000 /\ g.s <= 128 /\ g.n <= 255):=⟨hNN,by omega,hL,h.ok.s2,h.ok.n255⟩
 have hNb:N <= 128:=by have:=h.ok.s2;omega
 clear h h0 hv hF hN hL hNN
 go_enter Tryz.func26,Tryz.ntmps26
 go_wp2_with (first
  | (go_at_call 11;refine (sarray_yes H.out).mono ?_;rintro e w9 ⟨rfl,hw9⟩;obtain rfl:=hw9.symm;clear hw9)
  | (go_at_call 24;refine OF.out.mono ?_;rintro e w9 ⟨rfl,hw9⟩;obtain rfl:=hw9.symm;clear hw9)
  | (go_at_call 68;refine (sgeo_yes H.out).mono ?_;rintro e w1 ⟨rfl,g1⟩;have G1:Hid (w.grownBy w1 none):=g1;clear g1)
  | fail)
 have S1:Hid (∃ F',SI F' w1 s a g R /\ Step F w F' w1):=⟨F,H.out.keep G1.out,Step.new G1.out⟩
 clear OF hne H G1 hgf
 go_loopw [6,25] (fun ts ti wr=>∃ k n0:Nat,k <= N /\ ti = .int .i64 (k:Int) /\ ts = .int .i64 (n0:Int) /\ Hid (∃ R0,SP.allTo (fun R=>SP.RdP R g) R g st k n0 0 R0 /\ ∃ F',SI F' wr s a g R0 /\ Step F w F' wr)) (fun _ ti _=>N - (intOf ti).toNat)
 case atStart =>
  obtain ⟨F',i',st'⟩:=S1.out
  exact ⟨0,0,by omega,rfl,rfl,R,⟨rfl,rfl,rfl⟩,F',i',st'⟩
 case round =>
  clear S1
  obtain ⟨k,n0,hk,rfl,rfl,HX⟩:=hrel
  obtain ⟨R0,ha,F0,i0,st0⟩:=HX.out
  have AT:Hid (SP.allTo (fun R=>SP.RdP R g) R g st k n0 0 R0):=ha
  have I0:Hid (SI F0 wr s a g R0):=i0
  have T0:Hid (Step F w F0 wr):=st0
  have hn0:=allTo_le _ _ _ _ ha
  clear HX ha i0 st0
  by_cases hlt:k < N
  ·have i4:(k:Int) < (N:Int):=by omega
   have i5:(0:Int) <= (k:Int):=by omega
   have hkl:k < st.length:=by have:=HN.out.1;omega
   obtain ⟨b,off,rfl,hc0⟩:=HV.out.1.spot (k:=k) (by rw [us9_len];exact hkl)
   rw [us9_get hkl] at hc0
   have hc:=T0.out.upd.cell hc0 (HV.out.2 b rfl)
   obtain ⟨x,hx⟩:∃ x,x = st.getD k 0:=⟨_,rfl⟩
   have HXX:Hid (x = st.getD k 0):=hx
   rw [<- hx] at hc
   have hmul:g.n * k <= 255 * 128:=Nat.mul_le_mul HN.out.2.2.2.2 (by omega)
   clear hc0 hx
   by_cases hx0:x = 0
   ·subst hx0
    have HA:Hid (SP.allTo (fun R=>SP.RdP R g) R g st (k + 1) n0 0 R0):=⟨n0,0,R0,AT.out,.inr (.inl ⟨rfl,HXX.out.symm,rfl,rfl,rfl⟩)⟩
    clear hn0 hmul AT
    go_wp2
    go_roundw
    case rel=>exact ⟨k + 1,n0,by omega,by go_num,rfl,R0,HA.out,F0,I0.out,T0.out⟩
    case measure=>simp [intOf];omega
   ·have hne:((x:Int) == 0) = false:=eqb_no (b:=0) hx0
    have SL:Hid (Calls Tryz.prog 21 #[ptr s,.int .i64 (k:Int),.int .u64 (x:Int)] wr fun e w'=>∃ out er,SP.RdP R0 g (k:Int) x out er /\ e = .returned (.tuple #[.int .i64 ((SP.slotN R0 g (k:Int) x out er:Nat):Int),.int .i64 (((SP.slotM R0 g (k:Int) x out er).1:Nat):Int)]) /\ ∃ F',SI F' w' s a g (SP.slotM R0 g (k:Int) x out er).2 /\ Step F w F' w'):=by
     have hlen:=allTo_len _ _ _ _ AT.out
     have h2:8 * g.n * k <= 8 * g.n * g.s:=Nat.mul_le_mul_left _ (by have:=HN.out.2.1;omega)
     refine (mslot_all I0.out (k:Int) x (by have:=HN.out.2.2.1;omega)).mono ?_
     rintro e w' ⟨out,er,hr,rfl,F',i',st'⟩
     exact ⟨out,er,hr,rfl,F',i',T0.out.trans st'⟩
    have HX0:Hid (x ≠ 0):=hx0
    have HB:Hid (n0 <= g.n * k /\ g.n * k <= 255 * 128):=⟨hn0,hmul⟩
    clear hn0 hmul hx0
    go_wp2_with fail
    refine SL.out.mono ?_
    rintro e w5 ⟨out,er,hr,rfl,hp⟩
    have HR:Hid (SP.RdP R0 g (k:Int) x out er):=hr
    have HP:Hid (∃ F',SI F' w5 s a g (SP.slotM R0 g (k:Int) x out er).2 /\ Step F w F' w5):=hp
    obtain ⟨c,hcc⟩:∃ c,c = (SP.slotM R0 g (k:Int) x out er).1:=⟨_,rfl⟩
    obtain ⟨n5,hn5⟩:∃ n5,n5 = SP.slotN R0 g (k:Int) x out er:=⟨_,rfl⟩
    rw [<- hcc,<- hn5]
    have HC:Hid (c = (SP.slotM R0 g (k:Int) x out er).1 /\ n5 = SP.slotN R0 g (k:Int) x out er):=⟨hcc,hn5⟩
    clear hr hp hcc hn5 SL
    have hn5:n5 <= 255:=by
     have:=SP.slotN_le R0 g (k:Int) x out er
     have:=HN.out.2.2.2.2
     have:=HC.out.2
     omega
    by_cases hc0:c = 0
    ·subst hc0
     have HA:Hid (SP.allTo (fun R=>SP.RdP R g) R g st (k + 1) (n0 + n5) 0 (SP.slotM R0 g (k:Int) x out er).2):=by
      refine ⟨n0,0,R0,AT.out,.inr (.inr ⟨rfl,by rw [<- HXX.out];exact HX0.out,out,er,?_,?_,?_,?_⟩)⟩
      ·rw [<- HXX.out];exact HR.out
      ·rw [<- HXX.out]
      ·rw [<- HXX.out];exact HC.out.1
      ·rw [<- HXX.out,if_pos rfl,HC.out.2]
     have hw:IntKind.i64.wrap ((n0:Int) + (n5:Int)) = ((n0 + n5:Nat):Int):=by
      have e:(n0:Int) + (n5:Int) = ((n0 + n5:Nat):Int):=by omega
      rw [e]
      exact IntWalk.i64_in _ (by have:=HB.out;omega)
     clear HC HR
     go_wp2
     go_roundw
     case rel=>exact ⟨k + 1,n0 + n5,by omega,by go_num,rfl,_,HA.out,HP.out⟩
     case measure=>simp [intOf];omega
    ·have hce:((c:Int) != 0) = true:=neb_yes (b:=0) hc0
     have HA:Hid (SP.allTo (fun R=>SP.RdP R g) R g st g.s 0 c (SP.slotM R0 g (k:Int) x out er).2):=by
      refine SP.allTo_stop (j:=k + 1) ?_ hc0 g.s (by have:=HN.out.2.1;omega)
      refine ⟨n0,0,R0,AT.out,.inr (.inr ⟨rfl,by rw [<- HXX.out];exact HX0.out,out,er,?_,?_,?_,?_⟩)⟩
      ·rw [<- HXX.out];exact HR.out
      ·rw [<- HXX.out]
      ·rw [<- HXX.out];exact HC.out.1
      ·rw [if_neg hc0]
     clear HC HR hc0
     go_wp2
     go_ret2
     first | exact ⟨0,c,_,rfl,HA.out,HP.out⟩ | exact ⟨0,c,rfl,_,HA.out,HP.out⟩
  ·have i4:¬ (k:Int) < (N:Int):=by omega
   have hkn:Hid (k = g.s):=by show _ = _;have:=HN.out.2.1;omega
   clear hn0
   go_wp2
   go_ret2
   first | exact ⟨n0,0,R0,rfl,by rw [<- hkn.out];exact AT.out,F0,I0.out,T0.out⟩ | exact ⟨n0,0,rfl,R0,by rw [<- hkn.out];exact AT.out,F0,I0.out,T0.out⟩
theorem mall_all (h:SI F w s a g R) {v:Value} {st:List Nat} (hv:Cells w v (us9 st)) (hF:∀ b,v.ownBlock = some b -> ¬ F b) (hL:R.L.length + 8 * g.n * g.s <= 980000) :
 Calls Tryz.prog 26 #[ptr s,v] w fun e w'=>∃ n er R',e = .returned (.tuple #[.int .i64 ((n:Nat):Int),.int .i64 ((er:Nat):Int)]) /\ SP.allP (fun R=>SP.RdP R g) R g st n er R' /\ ∃ F',SI F' w' s a g R' /\ Step F w F' w':=by
 cases h0:R.off
 ·by_cases hN:st.length = g.s
  ·refine (mall_main h h0 hv hF hN hL).mono ?_
   rintro e w' ⟨n,er,R',rfl,h1,h2⟩
   exact ⟨n,er,R',rfl,.inr (.inr ⟨h0,hN,h1⟩),h2⟩
  ·obtain ⟨p,N,cap,rfl,hNN⟩:=hv.opened
   rw [us9_len] at hNN
   refine (mall_arg h h0 (by omega)).mono ?_
   rintro e w' ⟨rfl,g1⟩
   exact ⟨0,1,R,rfl,.inr (.inl ⟨h0,hN,rfl,rfl,rfl⟩),F,h.keep g1,Step.new g1⟩
 ·refine (mall_off h h0 v).mono ?_
  rintro e w' ⟨rfl,rfl⟩
  exact ⟨0,8,R,rfl,.inl ⟨h0,rfl,rfl,rfl⟩,F,h,Step.refl _ _⟩
end
end Go.Proofs.YtaalagkbpeinkaaGreat
