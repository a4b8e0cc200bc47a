/- Packed: Copy7, RRef6, RLeaf6, SimM. -/
import Derived.Test.YtfjlpifaaknmpaaGreatSp9
set_option linter.unusedSimpArgs false
set_option linter.unusedVariables false
set_option maxRecDepth 100000
namespace Go.Proofs.YtfjlpifaaknmpaaGreat
open Go.RowKit
structure Half (w0 w:World) (a2 dg2:Nat) (dv:List Value) (k:Nat) (R:AM.Raw) (fp:Option Addr) (fc:Nat):Prop where
 top:w.heap[a2]? = some (.cells #[.slice (some ⟨dg2,0,none⟩) R.C.length R.C.length,.int .i64 (R.n:Int),.slice fp R.L.length fc,.int .i64 (R.fuse:Int),.bool R.off] 121 (0,0))
 dsk:w.heap[dg2]? = some (.cells dv.toArray 117 (0,0))
 len:dv.length = R.C.length
 a_lo:w0.heap.size <= a2
 d_lo:w0.heap.size <= dg2
 don:∀ (i:Nat) (v:Value),dv[i]? = some v -> i < k -> (R.C[i]? = some none /\ v = .slice none 0 0) \/ ∃ xs,R.C[i]? = some (some xs) /\ w.ownsRow w0.heap.size 124 64 v R.n (xs.map bv)
 ap:∀ (i j:Nat) (u v:Value),i < k -> j < k -> dv[i]? = some u -> dv[j]? = some v -> ∀ g,u.ownBlock = some g -> v.ownBlock = some g -> i = j
 grown:w0.grownBy w none
section
variable {w0 w:World} {a2 dg2:Nat} {dv:List Value} {k:Nat} {R:AM.Raw} {fp:Option Addr} {fc:Nat}
theorem rows_blk {w:World} {B e size n:Nat} {v:Value} {xs:List Value} (h:w.ownsRow B e size v n xs) {g:Nat} (hg:v.ownBlock = some g):B <= g /\ g < w.heap.size /\ ∃ c,w.heap[g]? = some (.cells c e (0,0)):=by
 rcases h.2 with ⟨rfl,_⟩ | ⟨g',cap,cur,rfl,h1,h2,_⟩
 ·cases hg
 ·obtain rfl:g' = g:=Option.some.inj hg
  exact ⟨h1,(Array.getElem?_eq_some_iff.1 h2).1,cur,h2⟩
theorem Half.a_lt (h:Half w0 w a2 dg2 dv k R fp fc):a2 < w.heap.size:=(Array.getElem?_eq_some_iff.1 h.top).1
theorem Half.d_lt (h:Half w0 w a2 dg2 dv k R fp fc):dg2 < w.heap.size:=(Array.getElem?_eq_some_iff.1 h.dsk).1
theorem Half.keep (h:Half w0 w a2 dg2 dv k R fp fc) {w':World} (g:w.grownBy w' none):Half w0 w' a2 dg2 dv k R fp fc:=by
 refine ⟨by rw [g.block a2 h.a_lt (by simp)];exact h.top,by rw [g.block dg2 h.d_lt (by simp)];exact h.dsk,h.len,h.a_lo,h.d_lo,fun i v hv hi=>?_,h.ap,grown_trans h.grown g⟩
 rcases h.don i v hv hi with h1 | ⟨xs,h1,h2⟩
 ·exact .inl h1
 ·exact .inr ⟨xs,h1,ownsRow_same h2 (fun b hb=>g.block b (rows_blk h2 hb).2.1 (by simp))⟩
theorem Half.put (h:Half w0 w a2 dg2 dv k R fp fc) (hk:k < R.C.length) {w1:World} (g1:w.grownBy w1 none) {v:Value}
 (hv:(R.C[k]? = some none /\ v = .slice none 0 0) \/ ∃ xs,R.C[k]? = some (some xs) /\ w1.ownsRow w.heap.size 124 64 v R.n (xs.map bv)):Half w0 (w1.setCell ⟨dg2,k,none⟩ v) a2 dg2 (dv.set k v) (k + 1) R fp fc:=by
 have h1:=h.keep g1
 have hdl:k < dv.length:=by rw [h.len];exact hk
 have hb:∀ i,i ≠ dg2 -> (w1.setCell ⟨dg2,k,none⟩ v).heap[i]? = w1.heap[i]?:=fun i hne=>Below.heap_setCell _ _ _ _ hne
 have hsplit:∀ (i:Nat) (u:Value),(dv.set k v)[i]? = some u -> i < k + 1 -> (i = k /\ u = v) \/ (i < k /\ dv[i]? = some u):=fun i u hu hi=>by
  by_cases c:k = i
  ·subst c
   rw [List.getElem?_set,if_pos rfl,if_pos hdl] at hu
   exact .inl ⟨rfl,(Option.some.inj hu).symm⟩
  ·rw [List.getElem?_set,if_neg c] at hu
   exact .inr ⟨by omega,hu⟩
 have hnew:∀ g,v.ownBlock = some g -> w.heap.size <= g:=fun g hg=>by
  rcases hv with ⟨_,rfl⟩ | ⟨xs,_,h2⟩
  ·cases hg
  ·exact (rows_blk h2 hg).1
 have hold:∀ (i:Nat) (u:Value),dv[i]? = some u -> i < k -> ∀ g,u.ownBlock = some g -> g < w.heap.size:=fun i u hu hi g hg=>by
  rcases h.don i u hu hi with ⟨_,rfl⟩ | ⟨xs,_,h2⟩
  ·cases hg
  ·exact (rows_blk h2 hg).2.1
 refine ⟨?_,?_,by simpa using h.len,h.a_lo,h.d_lo,fun i u hu hi=>?_,fun i j u u' hi hj hu hu' g hg hg'=>?_,?_⟩
 ·rw [hb a2 (ne_ty h1.top h1.dsk (by decide))];exact h1.top
 ·rw [heap_setCell_same _ _ _ _ _ _ h1.dsk];simp
 ·rcases hsplit i u hu hi with ⟨rfl,rfl⟩ | ⟨hlt,hu⟩
  ·rcases hv with h2 | ⟨xs,h2,h3⟩
   ·exact .inl h2
   ·refine .inr ⟨xs,h2,ownsRow_down (ownsRow_same h3 (fun g hg=>hb g ?_)) h.grown.size⟩
    obtain ⟨_,_,c,hc⟩:=rows_blk h3 hg
    exact ne_ty hc h1.dsk (by decide)
  ·rcases h1.don i u hu hlt with h2 | ⟨xs,h2,h3⟩
   ·exact .inl h2
   ·refine .inr ⟨xs,h2,ownsRow_same h3 (fun g hg=>hb g ?_)⟩
    obtain ⟨_,_,c,hc⟩:=rows_blk h3 hg
    exact ne_ty hc h1.dsk (by decide)
 ·rcases hsplit i u hu hi with ⟨e1,e2⟩ | ⟨hlt,hu2⟩
  ·rcases hsplit j u' hu' hj with ⟨e3,e4⟩ | ⟨hlt',hu3⟩
   ·omega
   ·have:=hnew g (by rw [<- e2];exact hg);have:=hold j u' hu3 hlt' g hg';omega
  ·rcases hsplit j u' hu' hj with ⟨e3,e4⟩ | ⟨hlt',hu3⟩
   ·have:=hnew g (by rw [<- e4];exact hg');have:=hold i u hu2 hlt g hg;omega
   ·exact h.ap i j u u' hlt hlt' hu2 hu3 g hg hg'
 ·exact gb_setCell h1.grown h.d_lo v
theorem Half.fin (h:Half w0 w a2 dg2 dv R.C.length R fp fc) (hok:R.Ok) {w1:World} (g1:w.grownBy w1 none) {fp2:Option Addr} {fc2:Nat} (hrow:w1.ownsRow w0.heap.size 126 130 (.slice fp2 R.L.length fc2) R.L.length (wrow R.L)) :
 Is (fun i=>w0.heap.size <= i /\ i < w1.heap.size) (w1.setCell ⟨a2,2,none⟩ (.slice fp2 R.L.length fc2)) a2 R /\ w0.grownBy (w1.setCell ⟨a2,2,none⟩ (.slice fp2 R.L.length fc2)) none:=by
 have h1:=h.keep g1
 have hb:∀ i,i ≠ a2 -> (w1.setCell ⟨a2,2,none⟩ (.slice fp2 R.L.length fc2)).heap[i]? = w1.heap[i]?:=fun i hne=>Below.heap_setCell _ _ _ _ hne
 have hdi:∀ (i:Nat) (v:Value),dv[i]? = some v -> i < R.C.length:=fun i v hv=>by
  have:=(List.getElem?_eq_some_iff.1 hv).1
  rw [h.len] at this
  exact this
 refine ⟨⟨dg2,dv,fp2,fc2,⟨hok,fun i hi=>by simpa using hi.2,?_,?_,h.len,fun i v hv=>?_,?_,⟨h1.a_lo,h1.a_lt⟩,⟨h1.d_lo,h1.d_lt⟩,fun i v hv g hg=>?_,fun g hg=>?_,fun i j u v hu hv=>h.ap i j u v (hdi i u hu) (hdi j v hv) hu hv⟩⟩,gb_setCell h1.grown h.a_lo _⟩
 ·rw [heap_setCell_same _ _ _ _ _ _ h1.top];rfl
 ·rw [hb dg2 (ne_ty h1.dsk h1.top (by decide))];exact h1.dsk
 ·rcases h1.don i v hv (hdi i v hv) with h2 | ⟨xs,h2,h3⟩
  ·exact .inl h2
  ·refine .inr ⟨xs,h2,ownsRow_down (ownsRow_same h3 (fun g hg=>hb g ?_)) (Nat.zero_le _)⟩
   obtain ⟨_,_,c,hc⟩:=rows_blk h3 hg
   exact ne_ty hc h1.top (by decide)
 ·refine ownsRow_down (ownsRow_same hrow (fun g hg=>hb g ?_)) (Nat.zero_le _)
  obtain ⟨_,_,c,hc⟩:=rows_blk hrow hg
  exact ne_ty hc h1.top (by decide)
 ·rcases h1.don i v hv (hdi i v hv) with ⟨_,rfl⟩ | ⟨xs,h2,h3⟩
  ·cases hg
  ·exact ⟨(rows_blk h3 hg).1,(rows_blk h3 hg).2.1⟩
 ·exact ⟨(rows_blk hrow hg).1,(rows_blk hrow hg).2.1⟩
end
theorem zeroArr:(Tryz.prog.info? 121).map (fun i=>(i.zero,i.size,i.bytes)) = some (some (.agg #[.slice none 0 0,.int .i64 0,.slice none 0 0,.int .i64 0,.bool false]),5,72):=by kernel_rfl
theorem run_zeroArr (w:World):(zeroValue 121).run Tryz.prog w = .ok (.agg #[.slice none 0 0,.int .i64 0,.slice none 0 0,.int .i64 0,.bool false]) w:=by
 obtain ⟨i,hi,h0,h1,h2⟩:=info_parts zeroArr
 simp [zeroValue,typeInfo,hi,h0]
theorem Tryz.sizeArr:(Tryz.prog.info? 121).map (·.size) = some 5:=by kernel_rfl
theorem wpList_load_arr {w:World} {ops:Array Oper} {rest:List Oper} {op:Oper} {a:Act} {Q:Exit -> Act -> World -> Prop} (hgd:op.guard = none) (x:Operand) (ho:op.op = .load 121 x) {b:Nat} {AR:Array Value} (hx:a.eval x = .pointer (some ⟨b,0,none⟩)) (hr:w.rangeAt b 0 AR.toList) (hs:(Tryz.prog.info? 121).map (·.size) = some AR.toList.length)
 (h:wpList Tryz.prog ops Q rest (a.put op.dst (.agg AR)) w):wpList Tryz.prog ops Q (op :: rest) a w:=by
 refine wpList_load_mid hgd 121 x ho b 0 hx AR.toList _ hr Tryz.underlying121 rfl hs ?_
 simpa using h
set_option maxRecDepth 100000 in
set_option maxHeartbeats 1600000 in
theorem copy_yes {F:Nat -> Prop} {w:World} {a:Nat} {R:AM.Raw} (h:Is F w a R) (hL:R.L.length <= 1000000):Calls Tryz.prog 88 #[ptr a] w fun e w'=>∃ a' F',e = .returned (ptr a') /\ Is F' w' a' R /\ (∀ i,F' i -> w.heap.size <= i) /\ w.grownBy w' none:=by
 have HI:Hid (Is F w a R):=h
 have HLL:Hid (R.L.length <= 1000000):=hL
 obtain ⟨dg,dv,fp,fc,h⟩:=h
 have HLI:Hid (Lies F w a dg dv fp fc R):=h
 have hN:=h.ok.d2
 have c0:w.cell? ⟨a,0,none⟩ = some (.slice (some ⟨dg,0,none⟩) R.C.length R.C.length):=topCell (j:=0) h.top rfl
 have c1:w.cell? ⟨a,1,none⟩ = some (.int .i64 (R.n:Int)):=topCell (j:=1) h.top rfl
 have c2:w.cell? ⟨a,2,none⟩ = some (.slice fp R.L.length fc):=topCell (j:=2) h.top rfl
 have c3:w.cell? ⟨a,3,none⟩ = some (.int .i64 (R.fuse:Int)):=topCell (j:=3) h.top rfl
 have c4:w.cell? ⟨a,4,none⟩ = some (.bool R.off):=topCell (j:=4) h.top rfl
 have hmd:∀ W:World,(Instr.makeSlice 118 (.int .i64 (R.C.length:Int)) (.int .i64 (R.C.length:Int))).run Tryz.prog W = .ok (.slice (some ⟨W.heap.size,0,none⟩) R.C.length R.C.length) (W.alloc (.cells (List.replicate R.C.length (Value.slice none 0 0)).toArray 117)):=fun W=>run_make_drvs W hN
 obtain ⟨AR,hAR⟩:∃ AR:Array Value,AR = #[.slice (some ⟨dg,0,none⟩) R.C.length R.C.length,.int .i64 (R.n:Int),.slice fp R.L.length fc,.int .i64 (R.fuse:Int),.bool R.off]:=⟨_,rfl⟩
 obtain ⟨ZD,hZD⟩:∃ ZD:Array Value,ZD = (List.replicate R.C.length (Value.slice none 0 0)).toArray:=⟨_,rfl⟩
 rw [<- hZD] at hmd
 have zA:=run_zeroArr
 obtain ⟨ZR,hZR⟩:∃ ZR:Array Value,ZR = #[.slice none 0 0,.int .i64 0,.slice none 0 0,.int .i64 0,.bool false]:=⟨_,rfl⟩
 rw [<- hZR] at zA
 have HZR:Hid (ZR.size = 5):=by show _ = _;rw [hZR];rfl
 have HAR:Hid (AR = #[.slice (some ⟨dg,0,none⟩) R.C.length R.C.length,.int .i64 (R.n:Int),.slice fp R.L.length fc,.int .i64 (R.fuse:Int),.bool R.off]):=hAR
 have HARS:Hid (AR.size = 5 /\ AR.all (·.oneCell') = true):=by
  rw [hAR]
  refine ⟨rfl,?_⟩
  simp [Value.oneCell']
 have HINF:Hid ((Tryz.prog.info? 121).map (·.size) = some AR.size):=by rw [HARS.out.1];exact Tryz.sizeArr
 have HRG:Hid (w.rangeAt a 0 AR.toList):=fun j u hj=>by
  rw [Nat.zero_add]
  exact topCell h.top (by rw [<- hAR];simpa using hj)
 have HSZ:Hid ((Tryz.prog.info? 121).map (·.size) = some AR.toList.length):=by rw [Array.length_toList];exact HINF.out
 -- the world behind the head
 obtain ⟨W3,hW3⟩:∃ W3:World,W3 = (w.alloc (.cells (AR.setIfInBounds 0 (.slice (some ⟨w.heap.size + 1,0,none⟩) R.C.length R.C.length)) 121)).alloc (.cells ZD 117):=⟨_,rfl⟩
 have HH:Hid (Half w W3 w.heap.size (w.heap.size + 1) (List.replicate R.C.length (Value.slice none 0 0)) 0 R fp fc):=by
  have g1:w.grownBy W3 none:=by rw [hW3];exact gb_alloc (World.grownBy_alloc _ _ none) _
  refine ⟨?_,?_,by simp,Nat.le_refl _,by omega,fun i v hv hi=>by omega,fun i j u v hi=>by omega,g1⟩
  ·rw [hW3,heap_old _ _ (heap_alloc_new w _),hAR];rfl
  ·rw [hW3,hZD]
   exact heap_new _ _ _ (by simp)
 have HFN:Hid (∀ k:Nat,k < R.C.length -> ∃ v,w.cell? ⟨dg,k,none⟩ = some v /\ ((R.C[k]? = some none /\ v = .slice none 0 0) \/ ∃ xs g c,R.C[k]? = some (some xs) /\ v = .slice (some ⟨g,0,none⟩) R.n c /\ w.ownsRow 0 124 64 v R.n (xs.map bv))):=fun k hk=>by
  have hdl:k < dv.length:=by rw [h.len];exact hk
  have hdv:dv[k]? = some dv[k]:=List.getElem?_eq_getElem hdl
  refine ⟨dv[k],topCell h.dsk (by rw [List.getElem?_toArray];exact hdv),?_⟩
  rcases h.drv k _ hdv with h1 | ⟨xs,h1,h2⟩
  ·exact .inl h1
  ·rcases h2.2 with ⟨_,e2⟩ | ⟨g,c,cur,e,_⟩
   ·have:=h.ok.n1;omega
   ·exact .inr ⟨xs,g,c,h1,e,h2⟩
 have ha3:W3.cell? ⟨a,0,none⟩ = some (.slice (some ⟨dg,0,none⟩) R.C.length R.C.length):=HH.out.grown.cell c0 (by simp)
 have HOK:Hid (R.Ok):=h.ok
 have hn4:=h.ok.n2
 have hAL:Hid (a < w.heap.size):=h.lt a h.Fa
 have ca0:(w.alloc (.cells AR 121)).cell? ⟨a,0,none⟩ = some (.slice (some ⟨dg,0,none⟩) R.C.length R.C.length):=(World.grownBy_alloc w _ none).cell c0 (by simp)
 have ht:((w.alloc (.cells AR 121)).alloc (.cells ZD 117)).heap[w.heap.size]? = some (.cells AR 121 (0,0)):=heap_old _ _ (heap_alloc_new w _)
 have cb0:((w.alloc (.cells AR 121)).alloc (.cells ZD 117)).cell? ⟨w.heap.size,0,none⟩ = some (.slice (some ⟨dg,0,none⟩) R.C.length R.C.length):=topCell ht (by rw [hAR];rfl)
 have fb0:=topFrozen 0 ht
 have HW3:Hid (W3 = (w.alloc (.cells (AR.setIfInBounds 0 (.slice (some ⟨w.heap.size + 1,0,none⟩) R.C.length R.C.length)) 121)).alloc (.cells ZD 117)):=hW3
 rw [hW3] at ha3
 obtain ⟨N,hNe⟩:∃ N,N = R.C.length:=⟨_,rfl⟩
 have HN:Hid (N = R.C.length):=hNe
 rw [<- hNe] at c0 hmd ha3 ca0 cb0 hN HW3
 have HC2:Hid (w.cell? ⟨a,2,none⟩ = some (.slice fp R.L.length fc)):=c2
 clear h hL hAR hZD hZR hW3 ht hNe c1 c2 c3 c4
 go_enter Tryz.func88,Tryz.ntmps88
 go_wp2_with (first
  | (go_at_call 79;refine (made_yes HI.out).mono ?_;rintro e w1 ⟨rfl,hw⟩;obtain rfl:=hw.symm;clear hw)
  | (refine wpList_load_arr rfl (.tmp 10) rfl rfl HRG.out HSZ.out ?_)
  | (refine wpList_store_row rfl 121 (.tmp 3) (.tmp 11) rfl w.heap.size AR rfl rfl 121 ZR (heap_alloc_new w _) HINF.out (by rw [HZR.out,HARS.out.1]) HARS.out.2 ?_;rw [World.setRow_alloc_new])
  | fail)
 rw [<- HW3.out]
 clear ca0 cb0 fb0 ha3 HW3 HRG HSZ hmd zA HINF HARS HZR HAR
 obtain ⟨a2,ha2⟩:∃ a2,a2 = w.heap.size:=⟨_,rfl⟩
 obtain ⟨d2,hd2⟩:∃ d2,d2 = w.heap.size + 1:=⟨_,rfl⟩
 rw [<- hd2,<- ha2] at HH
 rw [<- ha2]
 clear ha2 hd2
 go_loopw [24] (fun ti wr=>∃ k:Nat,k <= N /\ ti = .int .i64 (k:Int) /\ Hid (∃ dv2,Half w wr a2 d2 dv2 k R fp fc)) (fun ti _=>N - (intOf ti).toNat)
 case atStart=>exact ⟨0,by omega,rfl,_,HH.out⟩
 case round =>
  clear HH
  obtain ⟨k,hk,rfl,HX⟩:=hrel
  by_cases hlt:k < N
  ·have i1:(k:Int) < (N:Int):=by omega
   obtain ⟨dv2,hh⟩:=HX.out
   have hkN:k < R.C.length:=by rw [<- HN.out];exact hlt
   have HKN:Hid (k < R.C.length):=hkN
   have HH:Hid (Half w wr a2 d2 dv2 k R fp fc):=hh
   have hkd:k < dv2.length:=by rw [hh.len];exact hkN
   obtain ⟨ov,hov⟩:∃ ov,ov = dv2[k]:=⟨_,rfl⟩
   have HCO:Hid (∀ W,wr.grownBy W none -> W.cell? ⟨d2,k,none⟩ = some ov /\ W.frozen? ⟨d2,k,none⟩ = false):=fun W g=>⟨topCell (hh.keep g).dsk (by rw [List.getElem?_toArray,hov];exact List.getElem?_eq_getElem hkd),topFrozen k (hh.keep g).dsk⟩
   have HA0:Hid (∀ W,wr.grownBy W none -> W.cell? ⟨a2,0,none⟩ = some (.slice (some ⟨d2,0,none⟩) N N)):=fun W g=>by rw [HN.out];exact topCell (j:=0) (hh.keep g).top rfl
   have HAS:Hid (∀ W v,wr.grownBy W none -> (W.setCell ⟨d2,k,none⟩ v).cell? ⟨a2,0,none⟩ = some (.slice (some ⟨d2,0,none⟩) N N)):=fun W v g=>by
    rw [World.cell?_setCell_far _ _ _ _ (by show d2 ≠ a2;exact ne_ty hh.dsk hh.top (by decide))]
    exact HA0.out W g
   obtain ⟨fv,cfv,hfv⟩:=HFN.out k hkN
   have cfw:wr.cell? ⟨dg,k,none⟩ = some fv:=hh.grown.cell cfv (by simp)
   have HN4:Hid (R.n <= 4096):=hn4
   rcases hfv with ⟨hC,rfl⟩ | ⟨xs,g,c,hC,rfl,how⟩
   ·clear hh hkN hkd hov cfv HX
    go_wp2_with fail
    go_region_held3 (fun w'=>w'.cell? ⟨a2,0,none⟩ = some (.slice (some ⟨d2,0,none⟩) N N)) (first | exact HA0.out _ (by first | exact World.grownBy.refl _ _ | exact gb_drew (World.grownBy.refl _ _) | exact gb_drew (gb_drew (World.grownBy.refl _ _))) | exact HA0.out _ HGF.out | exact HA0.out _ (gb_drew HGF.out) | exact HAS.out _ _ HGF.out | exact HAS.out _ _ (gb_drew HGF.out))
     ((go_at_call 118;refine (clone_drv_nil _).mono ?_;rintro e w8 ⟨rfl,hw⟩;have HGF:Hid (wr.grownBy w8 none):=(by rw [hw];exact (by first | exact World.grownBy.refl _ _ | exact gb_drew (World.grownBy.refl _ _) | exact gb_drew (gb_drew (World.grownBy.refl _ _))));clear hw;have co:=(HCO.out _ HGF.out).1;have fo:=(HCO.out _ HGF.out).2;have HP:Hid (Half w (w8.setCell ⟨d2,k,none⟩ (.slice none 0 0)) a2 d2 (dv2.set k (.slice none 0 0)) (k + 1) R fp fc):=HH.out.put HKN.out HGF.out (.inl ⟨hC,rfl⟩)))
    go_wp2
    go_roundw
    case rel=>exact ⟨k + 1,by omega,by go_num,_,by first | exact HP.out | exact HP.out.keep (grown_drewN _ 1)⟩
    case measure=>simp [intOf];omega
   ·have HOW:Hid (w.ownsRow 0 124 64 (.slice (some ⟨g,0,none⟩) R.n c) R.n (xs.map bv)):=how
    have HOB:Hid (∀ W,wr.grownBy W none -> ∀ b,(Value.slice (some ⟨g,0,none⟩) R.n c).ownBlock = some b -> W.heap[b]? = w.heap[b]?):=fun W gw b hb=>(grown_trans HH.out.grown gw).block b (rows_blk how hb).2.1 (by simp)
    clear hh hkN hkd hov cfv HX how
    go_wp2_with fail
    go_region_held3 (fun w'=>w'.cell? ⟨a2,0,none⟩ = some (.slice (some ⟨d2,0,none⟩) N N)) (first | exact HA0.out _ (by first | exact World.grownBy.refl _ _ | exact gb_drew (World.grownBy.refl _ _) | exact gb_drew (gb_drew (World.grownBy.refl _ _))) | exact HA0.out _ HGF.out | exact HA0.out _ (gb_drew HGF.out) | exact HAS.out _ _ HGF.out | exact HAS.out _ _ (gb_drew HGF.out))
     ((go_at_call 118;refine (clone_drv_yes (ownsRow_same HOW.out (fun g hg=>HOB.out _ (by first | exact World.grownBy.refl _ _ | exact gb_drew (World.grownBy.refl _ _) | exact gb_drew (gb_drew (World.grownBy.refl _ _))) g hg)) HN4.out).mono ?_;rintro e w8 ⟨p8,c8,rfl,ho8,hg8⟩;have HGF:Hid (wr.grownBy w8 none):=grown_trans (by first | exact World.grownBy.refl _ _ | exact gb_drew (World.grownBy.refl _ _) | exact gb_drew (gb_drew (World.grownBy.refl _ _))) hg8;have co:=(HCO.out _ HGF.out).1;have fo:=(HCO.out _ HGF.out).2;have HP:Hid (Half w (w8.setCell ⟨d2,k,none⟩ (.slice p8 R.n c8)) a2 d2 (dv2.set k (.slice p8 R.n c8)) (k + 1) R fp fc):=HH.out.put HKN.out HGF.out (.inr ⟨xs,hC,ho8⟩);clear ho8 hg8))
    go_wp2
    go_roundw
    case rel=>exact ⟨k + 1,by omega,by go_num,_,by first | exact HP.out | exact HP.out.keep (grown_drewN _ 1)⟩
    case measure=>simp [intOf];omega
  ·have i1:¬ (k:Int) < (N:Int):=by omega
   obtain ⟨dv2,hh⟩:=HX.out
   have ek:k = R.C.length:=by have:=HN.out;omega
   rw [ek] at hh
   have cF:wr.cell? ⟨a,2,none⟩ = some (.slice fp R.L.length fc):=hh.grown.cell HC2.out (by simp)
   have HH:Hid (Half w wr a2 d2 dv2 R.C.length R fp fc):=hh
   obtain ⟨M,hM⟩:∃ M,M = R.L.length:=⟨_,rfl⟩
   have HCO:Hid (∀ W,wr.grownBy W none -> W.cell? ⟨a2,2,none⟩ = some (.slice fp M fc) /\ W.frozen? ⟨a2,2,none⟩ = false):=fun W g=>⟨by rw [hM];exact topCell (j:=2) (hh.keep g).top rfl,topFrozen 2 (hh.keep g).top⟩
   have HFI:Hid (∀ (w8:World) (p8:Option Addr) (c8:Nat),wr.grownBy w8 none -> w8.ownsRow wr.heap.size 126 130 (.slice p8 M c8) M (wrow R.L) -> Is (fun i=>w.heap.size <= i /\ i < w8.heap.size) (w8.setCell ⟨a2,2,none⟩ (.slice p8 M c8)) a2 R /\ w.grownBy (w8.setCell ⟨a2,2,none⟩ (.slice p8 M c8)) none):=fun w8 p8 c8 g hr=>by
    rw [hM] at hr ⊢
    exact HH.out.fin HOK.out g (ownsRow_down hr HH.out.grown.size)
   have hfl:=HLI.out.fly
   rw [<- hM] at cF hfl
   have HM:Hid (M <= 1000000):=by show _ <= _;rw [hM];exact HLL.out
   rcases hfl.2 with ⟨e,e2⟩ | ⟨g,cap,cur,e,hr2⟩
   ·injection e with e1 e3 e4
    subst e1
    subst e4
    have hM0:M = 0:=e3
    subst hM0
    have HFI2:Hid (Is (fun i=>w.heap.size <= i /\ i < wr.heap.size) (wr.setCell ⟨a2,2,none⟩ (.slice none 0 0)) a2 R /\ w.grownBy (wr.setCell ⟨a2,2,none⟩ (.slice none 0 0)) none):=HFI.out wr none 0 (World.grownBy.refl _ _) (by
     have hL0:R.L = []:=List.eq_nil_of_length_eq_zero hM.symm
     rw [hL0]
     exact World.ownsRow_nil wr _ _ _)
    have co:=(HCO.out wr (World.grownBy.refl _ _)).1
    have fo:=(HCO.out wr (World.grownBy.refl _ _)).2
    clear hh ek hM hfl e2 e3 HFI HCO HX
    go_wp2_with (first | (go_at_call 119;refine (clone_wr_nil _).mono ?_;rintro e w8 ⟨rfl,hw⟩;obtain rfl:=hw.symm;clear hw) | fail)
    go_ret
    exact ⟨a2,_,rfl,HFI2.out.1,fun i h=>h.1,HFI2.out.2⟩
   ·injection e with e1 e3 e4
    subst e1
    have HROW:Hid (wr.ownsRow 0 126 130 (.slice (some ⟨g,0,none⟩) M fc) M (wrow R.L)):=ownsRow_same hfl (fun b hb=>hh.grown.block b (rows_blk hfl hb).2.1 (by simp))
    have HONE:Hid (∀ u ∈ wrow R.L,u.oneCell' = true):=fun u hu=>by
     obtain ⟨l,_,hu⟩:=List.mem_flatMap.1 hu
     exact wcells_one l u hu
    clear hh ek hM hfl hr2 e3 e4 HX
    go_wp2_with (first | (go_at_call 119;refine (clone_wr_yes HROW.out HM.out HONE.out).mono ?_;rintro e w8 ⟨p8,c8,rfl,ho8,hg8⟩;have HIS:Hid (Is (fun i=>w.heap.size <= i /\ i < w8.heap.size) (w8.setCell ⟨a2,2,none⟩ (.slice p8 M c8)) a2 R /\ w.grownBy (w8.setCell ⟨a2,2,none⟩ (.slice p8 M c8)) none):=HFI.out w8 p8 c8 hg8 ho8;have co:=(HCO.out _ hg8).1;have fo:=(HCO.out _ hg8).2;clear ho8 hg8) | fail)
    go_ret
    exact ⟨a2,_,rfl,HIS.out.1,fun i h=>h.1,HIS.out.2⟩
abbrev rptr (a:Nat):Value:=.pointer (some ⟨a,0,none⟩)
theorem own_any {w:World} {v:Value} {xs:List Nat} (h:Vec w v xs):Calls Tryz.prog 78 #[v] w fun e w'=>∃ p n c,e = .returned (.slice p n c) /\ Own w.heap.size w' (.slice p n c) xs /\ w.grownBy w' none:=by
 have HV:Hid (Vec w v xs):=h
 have HL:Hid (xs.length <= 140737488351232):=h.len
 obtain ⟨p,n,c,rfl,_⟩:=h.opened
 clear h
 go_enter Tryz.func78,Tryz.ntmps78
 go_wp2_with (first | (at_builtin;refine wpList_append_vec rfl _ _ rfl _ _ rfl rfl (Own.nil w.heap.size w) HV.out (Nat.le_refl _) (by have:=HL.out;simp;omega) ?_;intro v9 w9 ho hg;have HO:Hid (Own w.heap.size w9 v9 xs):=ho;have HG:Hid (w.grownBy w9 none):=hg;clear ho hg) | fail)
 go_ret
 obtain ⟨p9,n9,c9,rfl,_⟩:=HO.out.vec.opened
 exact ⟨p9,n9,c9,rfl,HO.out,HG.out⟩
theorem drow_set {ds:List Value} {D:List (Option (List (List Nat)))} {i:Nat} {o o':Option (List (List Nat))} (h:D[i]? = some o) (e:o'.isNone = o.isNone):drow ds (D.set i o') = drow ds D:=by
 unfold drow
 induction ds generalizing D i with
 | nil=>simp
 | cons v r ih =>
   cases D with
   | nil=>simp at h
   | cons x y =>
     cases i with
     | zero =>
       simp at h
       subst h
       simp [e]
     | succ j =>
       simp at h
       simp [ih h]
section
variable {G:Nat -> Prop} {w:World} {r:Nat} {dp:Option Addr} {dc:Nat} {ds:List Value} {lp:Option Addr} {lc:Nat} {fs:List Value} {A:AM.RA}
theorem rows_at {w:World} {B e size n m c:Nat} {p:Option Addr} {xs:List Value} (h:w.ownsRow B e size (.slice p m c) n xs) (hn:0 < n):∃ g,p = some ⟨g,0,none⟩ /\ ∃ cur,w.heap[g]? = some (.cells cur e (0,0)) /\ ∀ j u,xs[j]? = some u -> w.cell? ⟨g,j,none⟩ = some u:=by
 have hr:=h
 rcases h.2 with ⟨e1,hn0⟩ | ⟨g,cap,cur,e1,hb,hg,_⟩
 ·omega
 ·injection e1 with e2 e3 e4
  subst e2
  refine ⟨g,rfl,cur,hg,fun j u hj=>?_⟩
  have:=hr.cells (g:=g) rfl j u hj
  rwa [add_at,Nat.zero_add] at this
theorem RL.disk (h:RL G w r dp dc ds lp lc fs A) {i:Nat} (hi:i < A.D.length):∃ dg v,dp = some ⟨dg,0,none⟩ /\ ds[i]? = some v /\ w.cell? ⟨dg,i * 2,none⟩ = some v /\ w.cell? ⟨dg,i * 2 + 1,none⟩ = some (.bool (A.D[i]'hi).isNone) /\ ∃ c,w.heap[dg]? = some (.cells c 133 (0,0)):=by
 obtain ⟨g,rfl,cur,hg,hc⟩:=rows_at h.dsk (by omega)
 have hl:i < ds.length:=by rw [h.dlen];exact hi
 have hz:i < (ds.zip A.D).length:=by simp;omega
 have hf:∀ x ∈ ds.zip A.D,([x.1,Value.bool x.2.isNone]:List Value).length = 2:=fun x _=>rfl
 refine ⟨g,ds[i],rfl,List.getElem?_eq_getElem hl,?_,?_,cur,hg⟩
 ·have:=flat_get (f:=fun x:Value × Option (List (List Nat))=>[x.1,Value.bool x.2.isNone]) (m:=2) (i:=0) (by decide) hf hz
  exact hc _ _ (by rw [Nat.add_zero] at this;unfold drow;rw [this];simp)
 ·have:=flat_get (f:=fun x:Value × Option (List (List Nat))=>[x.1,Value.bool x.2.isNone]) (m:=2) (i:=1) (by decide) hf hz
  exact hc _ _ (by unfold drow;rw [this];simp)
theorem RL.flight (h:RL G w r dp dc ds lp lc fs A) {i:Nat} (hi:i < A.L.length):∃ lg u,lp = some ⟨lg,0,none⟩ /\ fs[i]? = some u /\ w.cell? ⟨lg,i * 3,none⟩ = some (.int .i64 ((A.L[i]'hi).d:Int)) /\ w.cell? ⟨lg,i * 3 + 1,none⟩ = some (.int .i64 ((A.L[i]'hi).k:Int)) /\ w.cell? ⟨lg,i * 3 + 2,none⟩ = some u /\ Own 0 w u (A.L[i]'hi).b /\ ∃ c,w.heap[lg]? = some (.cells c 135 (0,0)):=by
 obtain ⟨g,rfl,cur,hg,hc⟩:=rows_at h.fly (by omega)
 have hl:i < fs.length:=by rw [h.flen];exact hi
 have hz:i < (fs.zip A.L).length:=by simp;omega
 have hf:∀ x ∈ fs.zip A.L,([.int .i64 (x.2.d:Int),.int .i64 (x.2.k:Int),x.1]:List Value).length = 3:=fun x _=>rfl
 have key:∀ j (hj:j < 3),(frow fs A.L)[i * 3 + j]? = ([.int .i64 ((A.L[i]'hi).d:Int),.int .i64 ((A.L[i]'hi).k:Int),fs[i]]:List Value)[j]?:=fun j hj=>by
  have:=flat_get (f:=fun x:Value × AM.Fl=>([.int .i64 (x.2.d:Int),.int .i64 (x.2.k:Int),x.1]:List Value)) (m:=3) (i:=j) hj hf hz
  unfold frow
  rw [this]
  simp
 exact ⟨g,fs[i],rfl,List.getElem?_eq_getElem hl,hc _ _ (by have:=key 0 (by decide);rwa [Nat.add_zero] at this),hc _ _ (key 1 (by decide)),hc _ _ (key 2 (by decide)),(h.fv i _ _ (List.getElem?_eq_getElem hl) (List.getElem?_eq_getElem hi)).1,cur,hg⟩
theorem rows_set1 {w:World} {B e n g c k:Nat} {us:List Value} (h:w.ownsRow B e 1 (.slice (some ⟨g,0,none⟩) n c) n us) (hk:k < n) (u:Value):(w.setCell ⟨g,k,none⟩ u).ownsRow B e 1 (.slice (some ⟨g,0,none⟩) n c) n (us.set k u):=by
 have hl:=h.1
 rcases h.2 with ⟨e1,hn⟩ | ⟨g',cap',cur,e1,hb,hg,hc,hm,hs,ht⟩
 ·cases e1
 ·injection e1 with e2 e3 e4
  injection e2 with e2
  injection e2 with e2
  subst e2
  subst e4
  refine ⟨by simpa using hl,.inr ⟨g,c,cur.setIfInBounds k u,rfl,hb,?_,hc,hm,by simpa using hs,?_⟩⟩
  ·rw [setCell_eq_setRow w g k cur e (0,0) _ hg]
   exact setRow_heap w g cur _ e _ hg
  ·simp only [Array.toList_setIfInBounds]
   rw [List.take_set,ht]
theorem RL.place (h:RL G w r dp dc ds lp lc fs A) {i k:Nat} {v:Value} {ss:List (List Nat)} (hv:ds[i]? = some v) (hD:A.D[i]? = some (some ss)) (hk:k < A.n):∃ sg c u b,v = .slice (some ⟨sg,0,none⟩) A.n c /\ w.cell? ⟨sg,k,none⟩ = some u /\ w.frozen? ⟨sg,k,none⟩ = false /\ ss[k]? = some b /\ Own 0 w u b /\ G sg /\ ∃ cc,w.heap[sg]? = some (.cells cc 40 (0,0)):=by
 rcases h.sec i v hv with ⟨h1,_⟩ | ⟨ss',vs,h1,h2,h3,h4⟩
 ·rw [hD] at h1;cases h1
 ·rw [hD] at h1
  injection h1 with h1
  injection h1 with h1
  subst h1
  obtain ⟨p,c,rfl⟩:=rows_slice h2
  obtain ⟨g,rfl,cur,hg,hc⟩:=rows_at h2 (by omega)
  have hvl:vs.length = A.n:=by have:=h2.1;omega
  have hu:vs[k]? = some (vs[k]'(by omega)):=List.getElem?_eq_getElem (by omega)
  have hb:ss[k]? = some (ss[k]'(by omega)):=List.getElem?_eq_getElem (by omega)
  exact ⟨g,c,_,_,rfl,hc k _ hu,topFrozen k hg,hb,(h4 k _ _ hu hb).1,h.Gs i _ hv g rfl,cur,hg⟩
theorem RL.laid (h:RL G w r dp dc ds lp lc fs A) {w1:World} (g1:w.grownBy w1 none) {i k sg c:Nat} {u:Value} {ss:List (List Nat)} {b:List Nat} (hv:ds[i]? = some (.slice (some ⟨sg,0,none⟩) A.n c)) (hD:A.D[i]? = some (some ss)) (hk:k < A.n) (hu:Own w.heap.size w1 u b) :
 RL (fun j=>G j \/ u.ownBlock = some j) (w1.setCell ⟨sg,k,none⟩ u) r dp dc ds lp lc fs { A with D:=A.D.set i (some (ss.set k b)) }:=by
 have h1:=h.keep g1
 obtain ⟨c',hc'⟩:∃ c,w1.heap[sg]? = some (.cells c 40 (0,0)):=by
  rcases h1.sec i _ hv with ⟨_,e⟩ | ⟨ss',vs,_,h2,_⟩
  ·cases e
  ·exact rowBlock h2 rfl
 have hb:∀ j,j ≠ sg -> (w1.setCell ⟨sg,k,none⟩ u).heap[j]? = w1.heap[j]?:=fun j hj=>Below.heap_setCell _ _ _ _ hj
 have hne:∀ (j:Nat) (c:Array Value) (t:TypeId),w1.heap[j]? = some (.cells c t (0,0)) -> t ≠ 40 -> (w1.setCell ⟨sg,k,none⟩ u).heap[j]? = w1.heap[j]?:=fun j c t hj ht=>hb j (ne_ty hj hc' ht)
 have hil:i < A.D.length:=(List.getElem?_eq_some_iff.1 hD).1
 have hlen:(A.D.set i (some (ss.set k b))).length = A.D.length:=List.length_set ..
 have hown:Own 0 (w1.setCell ⟨sg,k,none⟩ u) u b:=(hu.down (Nat.zero_le _)).same0 (fun g hg=>by
  obtain ⟨cc,hcc⟩:=rowBlock hu.row hg
  exact hne g cc _ hcc (by decide))
 refine ⟨fun j hj=>?_,?_,?_,by rw [hlen];exact h.dlen,fun j v hv'=>?_,ownsRow_same h1.fly (fun g hg=>?_),h.flen,fun j u' x hu' hx=>?_,.inl h.Gr,fun g hg=>.inl (h.Gd g (by rw [hlen] at hg;exact hg)),fun j v hv' g hg=>.inl (h.Gs j v hv' g hg),fun g hg=>.inl (h.Gl g hg),h.ap,h.left,h.n2,by rw [hlen];exact h.d2⟩
 ·rcases hj with hj | hj
  ·simpa using h1.lt j hj
  ·have:=(rows_blk hu.row hj).2.1
   simpa using this
 ·rw [hne r _ _ h1.top (by decide),hlen];exact h1.top
 ·rw [hlen]
  show World.ownsRow _ 0 _ 2 _ _ (drow ds (A.D.set i (some (ss.set k b))))
  rw [drow_set (o':=some (ss.set k b)) hD rfl]
  exact ownsRow_same h1.dsk (fun g hg=>by
   obtain ⟨cc,hcc⟩:=rowBlock h1.dsk hg
   exact hne g cc _ hcc (by decide))
 ·by_cases cji:i = j
  ·subst cji
   rw [hv] at hv'
   obtain rfl:=Option.some.inj hv'
   rcases h1.sec i _ hv with ⟨_,e⟩ | ⟨ss',vs,h2,h3,h4,h5⟩
   ·cases e
   ·rw [hD] at h2
    injection h2 with h2
    injection h2 with h2
    subst h2
    refine .inr ⟨ss.set k b,vs.set k u,by rw [List.getElem?_set,if_pos rfl,if_pos hil],rows_set1 h3 hk u,by simpa using h4,fun k' u' b' hu' hb'=>?_⟩
    by_cases ck:k = k'
    ·subst ck
     have hkv:k < vs.length:=by have:=h3.1;omega
     rw [List.getElem?_set,if_pos rfl,if_pos hkv] at hu'
     rw [List.getElem?_set,if_pos rfl,if_pos (by omega)] at hb'
     obtain rfl:=Option.some.inj hu'
     obtain rfl:=Option.some.inj hb'
     exact ⟨hown,fun g hg=>.inr hg⟩
    ·rw [List.getElem?_set,if_neg ck] at hu'
     rw [List.getElem?_set,if_neg ck] at hb'
     obtain ⟨q1,q2⟩:=h5 k' u' b' hu' hb'
     exact ⟨q1.same0 (fun g hg=>by
      obtain ⟨cc,hcc⟩:=rowBlock q1.row hg
      exact hne g cc _ hcc (by decide)),fun g hg=>.inl (q2 g hg)⟩
  ·rcases h1.sec j v hv' with h2 | ⟨ss',vs,h2,h3,h4,h5⟩
   ·exact .inl ⟨by rw [List.getElem?_set,if_neg cji];exact h2.1,h2.2⟩
   ·refine .inr ⟨ss',vs,by rw [List.getElem?_set,if_neg cji];exact h2,ownsRow_same h3 (fun g hg=>hb g (fun e=>cji (h.ap i j _ v hv hv' g (by rw [e];rfl) hg))),h4,fun k' u' b' hu' hb'=>?_⟩
    obtain ⟨q1,q2⟩:=h5 k' u' b' hu' hb'
    exact ⟨q1.same0 (fun g hg=>by
     obtain ⟨cc,hcc⟩:=rowBlock q1.row hg
     exact hne g cc _ hcc (by decide)),fun g hg=>.inl (q2 g hg)⟩
 ·obtain ⟨cc,hcc⟩:=rowBlock h1.fly hg
  exact hne g cc _ hcc (by decide)
 ·obtain ⟨q1,q2⟩:=h1.fv j u' x hu' hx
  exact ⟨q1.same0 (fun g hg=>by
   obtain ⟨cc,hcc⟩:=rowBlock q1.row hg
   exact hne g cc _ hcc (by decide)),fun g hg=>.inl (q2 g hg)⟩
end
namespace AM.RA
def on (A:RA) (d:Int):Bool:=decide (0 <= d) && decide (d < A.D.length) && (A.D.getD d.toNat none).isSome
def why (A:RA) (d k:Int):Nat:=if A.dark then 8 else if 0 <= d /\ d < A.D.length /\ 0 <= k /\ k < A.n then (if (A.D.getD d.toNat none).isSome then 0 else 9) else 6
def burns (A:RA):Bool:=A.left == 1
def burnt (A:RA):RA:=if A.left = 0 then A else { A with left:=A.left - 1,dark:=A.left == 1 }
end AM.RA
section
variable {G:Nat -> Prop} {w:World} {r:Nat} {A:AM.RA}
theorem rgoes_yes (h:RIs G w r A) (hd:A.dark = false):Calls Tryz.prog 77 #[rptr r] w fun e w'=>e = .returned (.bool A.burns) /\ RIs G w' r A.burnt /\ Step G w G w':=by
 obtain ⟨dp,dc,ds,lp,lc,fs,h⟩:=h
 have H:Hid (RL G w r dp dc ds lp lc fs A):=h
 have hf:=h.left
 have ht:=h.top
 obtain ⟨_,_,_,c3,c4⟩:=h.topCells
 have f3:=topFrozen 3 ht
 have f4:=topFrozen 4 ht
 have HT:Hid (w.heap[r]? = some (.cells #[.slice dp A.D.length dc,.int .i64 (A.n:Int),.slice lp A.L.length lc,.int .i64 (A.left:Int),.bool A.dark] 131 (0,0))):=ht
 rw [hd] at c4
 clear h ht
 by_cases h0:A.left = 0
 ·have HB:Hid (A.burns = false /\ A.burnt = A):=⟨by simp [AM.RA.burns,h0],by simp [AM.RA.burnt,h0]⟩
  rw [h0] at c3
  have c3:w.cell? ⟨r,3,none⟩ = some (.int .i64 0):=c3
  clear hf c4 f3 f4 h0 hd
  go_enter Tryz.func77,Tryz.ntmps77
  go_wp2
  go_ret
  exact ⟨by rw [HB.out.1];rfl,by rw [HB.out.2];exact H.out.is,Step.refl G w⟩
 ·obtain ⟨m,hm⟩:∃ m,A.left = m + 1:=⟨A.left - 1,by omega⟩
  have HB:Hid (A.burns = decide (m = 0) /\ A.burnt = { A with left:=m,dark:=decide (m = 0) }):=⟨by simp [AM.RA.burns,hm,beq_dec],by
   unfold AM.RA.burnt
   rw [if_neg h0,hm]
   simp [beq_dec]⟩
  have hmb:m < 9223372036854775807:=by omega
  have i1:((((m:Nat):Int) + 1) == 0) = false:=by simp;omega
  rw [hm,Int.natCast_add,Int.natCast_one] at c3
  by_cases hz:m = 0
  ·subst hz
   have HI:Hid (RIs G ((w.setCell ⟨r,3,none⟩ (.int .i64 0)).setCell ⟨r,4,none⟩ (.bool true)) r A.burnt):=by
    rw [HB.out.2]
    refine (H.out.turn (l':=0) (k':=true) (grown_set2 (grown_set_a w r 3 _) 4 _) (by decide) ?_).is
    rw [heap_setCell_same _ _ _ _ _ _ (heap_setCell_same _ _ _ _ _ _ HT.out)]
    rfl
   have HS:Hid (Step G w G ((w.setCell ⟨r,3,none⟩ (.int .i64 0)).setCell ⟨r,4,none⟩ (.bool true))):=Step.of (grown_set2 (grown_set_a w r 3 _) 4 _) (fun i e=>by obtain rfl:=Option.some.inj e;exact H.out.Gr)
   have HB1:Hid (A.burns = true):=HB.out.1
   clear HB HT H hf h0 hm hd
   go_enter Tryz.func77,Tryz.ntmps77
   go_wp2
   go_ret
   exact ⟨by rw [HB1.out];rfl,HI.out,HS.out⟩
  ·have i2:(((m:Nat):Int) == 0) = false:=by simp;omega
   have e2:decide (m = 0) = false:=by simp [hz]
   rw [e2] at HB
   have HI:Hid (RIs G (w.setCell ⟨r,3,none⟩ (.int .i64 (m:Int))) r A.burnt):=by
    rw [HB.out.2]
    refine (H.out.turn (l':=m) (k':=false) (grown_set_a w r 3 _) (by omega) ?_).is
    rw [heap_setCell_same _ _ _ _ _ _ HT.out,hd]
    rfl
   have HS:Hid (Step G w G (w.setCell ⟨r,3,none⟩ (.int .i64 (m:Int)))):=Step.of (grown_set_a w r 3 _) (fun i e=>by obtain rfl:=Option.some.inj e;exact H.out.Gr)
   have HB1:Hid (A.burns = false):=HB.out.1
   have hzi:¬ (m:Int) = 0:=by omega
   clear HB HT H hf h0 hm hd e2
   go_enter Tryz.func77,Tryz.ntmps77
   go_wp2
   go_ret
   exact ⟨by rw [HB1.out];rfl,HI.out,HS.out⟩
theorem rfuse_yes (h:RIs G w r A) {n:Int} (hn:n < 9223372036854775808):Calls Tryz.prog 34 #[rptr r,.int .i64 n] w fun e w'=>e = .returned (.tuple #[]) /\ RIs G w' r { A with left:=n.toNat } /\ Step G w G w':=by
 obtain ⟨dp,dc,ds,lp,lc,fs,h⟩:=h
 have ht:=h.top
 obtain ⟨_,_,_,c3,_⟩:=h.topCells
 have f3:=topFrozen 3 ht
 have H:Hid (RL G w r dp dc ds lp lc fs A):=h
 by_cases h0:0 < n
 ·have e:(n.toNat:Int) = n:=by omega
  have HI:Hid (RIs G ((w.setCell ⟨r,3,none⟩ (.int .i64 0)).setCell ⟨r,3,none⟩ (.int .i64 n)) r { A with left:=n.toNat }):=by
   refine (H.out.turn (l':=n.toNat) (k':=A.dark) (grown_set2 (grown_set_a w r 3 _) 3 _) (by omega) ?_).is
   rw [heap_setCell_same _ _ _ _ _ _ (heap_setCell_same _ _ _ _ _ _ ht),e]
   rfl
  have HS:Hid (Step G w G ((w.setCell ⟨r,3,none⟩ (.int .i64 0)).setCell ⟨r,3,none⟩ (.int .i64 n))):=Step.of (grown_set2 (grown_set_a w r 3 _) 3 _) (fun i e=>by obtain rfl:=Option.some.inj e;exact H.out.Gr)
  have HI2:Hid (RIs G (w.setCell ⟨r,3,none⟩ (.int .i64 n)) r { A with left:=n.toNat }):=by
   refine (H.out.turn (l':=n.toNat) (k':=A.dark) (grown_set_a w r 3 _) (by omega) ?_).is
   rw [heap_setCell_same _ _ _ _ _ _ ht,e]
   rfl
  have HS2:Hid (Step G w G (w.setCell ⟨r,3,none⟩ (.int .i64 n))):=Step.of (grown_set_a w r 3 _) (fun i e=>by obtain rfl:=Option.some.inj e;exact H.out.Gr)
  clear h ht H e
  go_enter Tryz.func34,Tryz.ntmps34
  go_wp2
  go_end0
  first | exact ⟨rfl,HI.out,HS.out⟩ | exact ⟨rfl,HI2.out,HS2.out⟩
 ·have e:n.toNat = 0:=by omega
  have HI:Hid (RIs G (w.setCell ⟨r,3,none⟩ (.int .i64 0)) r { A with left:=n.toNat }):=by
   rw [e]
   refine (H.out.turn (l':=0) (k':=A.dark) (grown_set_a w r 3 _) (by decide) ?_).is
   rw [heap_setCell_same _ _ _ _ _ _ ht]
   rfl
  have HS:Hid (Step G w G (w.setCell ⟨r,3,none⟩ (.int .i64 0))):=Step.of (grown_set_a w r 3 _) (fun i e=>by obtain rfl:=Option.some.inj e;exact H.out.Gr)
  clear h ht H e
  go_enter Tryz.func34,Tryz.ntmps34
  go_wp2
  go_end0
  exact ⟨rfl,HI.out,HS.out⟩
theorem rwhy_yes (h:RIs G w r A) (d k:Int):Calls Tryz.prog 83 #[rptr r,.int .i64 d,.int .i64 k] w fun e w'=>e = .returned (.int .i64 (A.why d k:Int)) /\ w' = w:=by
 obtain ⟨dp,dc,ds,lp,lc,fs,h⟩:=h
 have hD2:=h.d2
 obtain ⟨c0,c1,_,_,c4⟩:=h.topCells
 cases hd:A.dark with
 | true =>
   rw [hd] at c4
   have HR:Hid ((A.why d k:Int) = 8):=by show _ = _;simp [AM.RA.why,hd]
   clear h hd
   go_enter Tryz.func83,Tryz.ntmps83
   go_wp2
   go_ret
   exact ⟨by rw [HR.out];rfl,rfl⟩
 | false =>
   rw [hd] at c4
   by_cases hin:0 <= d /\ d < (A.D.length:Int) /\ 0 <= k /\ k < (A.n:Int)
   ·obtain ⟨i1,i2,i3,i4⟩:=hin
    obtain ⟨i,rfl⟩:∃ n:Nat,d = (n:Int):=⟨d.toNat,by omega⟩
    have hil:i < A.D.length:=by omega
    obtain ⟨dg,v,rfl,hv,e0,e1,_⟩:=h.disk hil
    have n2:=h.n2
    cases hg:A.D[i] with
    | none =>
      rw [hg] at e1
      have e1:w.cell? ⟨dg,i * 2 + 1,none⟩ = some (.bool true):=e1
      have HR:Hid ((A.why (i:Int) k:Int) = 9):=by show _ = _;simp [AM.RA.why,hd,i2,i3,i4,List.getD,hil,hg]
      clear h hd hv e0 hg
      generalize A.D.length = N at *
      generalize A.n = M at *
      go_enter Tryz.func83,Tryz.ntmps83
      go_wp2
      go_ret
      exact ⟨by rw [HR.out];rfl,rfl⟩
    | some ss =>
      rw [hg] at e1
      have e1:w.cell? ⟨dg,i * 2 + 1,none⟩ = some (.bool false):=e1
      have HR:Hid ((A.why (i:Int) k:Int) = 0):=by show _ = _;simp [AM.RA.why,hd,i2,i3,i4,List.getD,hil,hg]
      clear h hd hv e0 hg
      generalize A.D.length = N at *
      generalize A.n = M at *
      go_enter Tryz.func83,Tryz.ntmps83
      go_wp2
      go_ret
      exact ⟨by rw [HR.out];rfl,rfl⟩
   ·have HR:Hid ((A.why d k:Int) = 6):=by show _ = _;unfold AM.RA.why;rw [hd,if_neg (by decide),if_neg hin];rfl
    clear h hd
    generalize A.D.length = N at *
    generalize A.n = M at *
    by_cases a1:d < 0
    ·clear hin
     go_enter Tryz.func83,Tryz.ntmps83
     go_wp2
     go_ret
     exact ⟨by rw [HR.out];rfl,rfl⟩
    ·by_cases a2:(N:Int) <= d
     ·clear hin
      go_enter Tryz.func83,Tryz.ntmps83
      go_wp2
      go_ret
      exact ⟨by rw [HR.out];rfl,rfl⟩
     ·by_cases a3:k < 0
      ·clear hin
       go_enter Tryz.func83,Tryz.ntmps83
       go_wp2
       go_ret
       exact ⟨by rw [HR.out];rfl,rfl⟩
      ·have a4:(M:Int) <= k:=by omega
       clear hin
       go_enter Tryz.func83,Tryz.ntmps83
       go_wp2
       go_ret
       exact ⟨by rw [HR.out];rfl,rfl⟩
end
end Go.Proofs.YtfjlpifaaknmpaaGreat
namespace Go.Proofs.YtfjlpifaaknmpaaGreat
namespace AM
def secs (n:Nat) (xs:List Nat):List (List Nat):=(List.range n).map (sec xs)
def secsD (n:Nat) (C:List Disk):List (Option (List (List Nat))):=C.map (Option.map (secs n))
theorem secs_len (n:Nat) (xs:List Nat):(secs n xs).length = n:=by simp [secs]
theorem secs_get {n k:Nat} (h:k < n) (xs:List Nat):(secs n xs)[k]? = some (sec xs k):=by simp [secs,h]
theorem secsD_len (n:Nat) (C:List Disk):(secsD n C).length = C.length:=by simp [secsD]
theorem secsD_get (n:Nat) (C:List Disk) (d:Nat):(secsD n C)[d]? = (C[d]?).map (Option.map (secs n)):=by simp [secsD]
theorem secs_put {n k:Nat} {xs b:List Nat} (hx:xs.length = n * 64) (hk:k < n) (hb:b.length = 64):secs n (put xs k b) = (secs n xs).set k b:=by
 have hf:=fits hk
 apply List.ext_getElem?
 intro j
 by_cases hj:j < n
 ·rw [secs_get hj]
  by_cases c:k = j
  ·subst c
   rw [sec_put_same hb (by omega),List.getElem?_set,if_pos rfl,if_pos (by rw [secs_len];exact hj)]
  ·rw [sec_put_ne hb (by omega) (Ne.symm c),List.getElem?_set,if_neg c,secs_get hj]
 ·rw [List.getElem?_eq_none (by rw [secs_len];omega),List.getElem?_eq_none (by simp [secs_len];omega)]
def rlay (D:List (Option (List (List Nat)))) (d k:Nat) (b:List Nat):List (Option (List (List Nat))):=D.set d ((D.getD d none).map (fun ss=>ss.set k b))
theorem secsD_lay {n:Nat} {C:List Disk} (hC:OkC n C) {d k:Nat} (hk:k < n) {b:List Nat} (hb:b.length = 64):secsD n (lay C d k b) = rlay (secsD n C) d k b:=by
 apply List.ext_getElem?
 intro j
 rw [secsD_get]
 unfold rlay
 by_cases c:d = j
 ·subst c
  by_cases hl:d < C.length
  ·rw [List.getElem?_set,if_pos rfl,if_pos (by rw [secsD_len];exact hl)]
   have e:(secsD n C).getD d none = (C[d]).map (secs n):=by simp [List.getD,secsD,hl]
   rw [e]
   cases hq:C[d] with
   | none =>
     have:(lay C d k b)[d]? = some none:=by simp [lay,List.getD,hl,hq]
     rw [this];rfl
   | some xs =>
     have hq':C[d]? = some (some xs):=by rw [List.getElem?_eq_getElem hl,hq]
     rw [lay_at k b hq']
     obtain ⟨h1,_⟩:=hC d xs hq'
     simp [secs_put h1 hk hb]
  ·rw [List.getElem?_eq_none (by rw [lay_len];omega),List.getElem?_eq_none (by simp [secsD_len];omega)]
   rfl
 ·rw [lay_ne k b (Ne.symm c),List.getElem?_set,if_neg c,secsD_get]
namespace RA
def ons (A:RA):Nat:=A.D.countP (·.isSome)
def fly (A:RA) (d k:Nat) (b:List Nat):RA:={ A with L:=A.L ++ [⟨d,k,b⟩] }
def writes (A:RA) (d k:Int) (b:List Nat):Nat × RA :=
 if A.why d k ≠ 0 then (A.why d k,A) else if b.length ≠ 64 then (1,A) else if A.burns then (8,A.burnt) else (0,A.burnt.fly d.toNat k.toNat b)
def barrier (A:RA):Nat × RA:=if A.dark then (8,A) else if A.burns then (8,A.burnt) else (0,{ A.burnt with D:=A.L.foldl (fun D l=>rlay D l.d l.k l.b) A.D,L:=[] })
def lost (A:RA) (d:Nat):RA:={ A with D:=A.D.set d none,L:=A.L.filter (fun l=>!(l.d == d)) }
def lose (A:RA) (d:Int):Nat × RA:=if 0 <= d /\ d < A.D.length then (if (A.D.getD d.toNat none).isSome then (0,A.lost d.toNat) else (9,A)) else (6,A)
def blank (A:RA) (d:Nat):RA:={ A with D:=A.D.set d (some (List.replicate A.n (zs 64))) }
def replace (A:RA) (d:Int):Nat × RA:=if 0 <= d /\ d < A.D.length then (if (A.D.getD d.toNat none).isSome then (1,A) else (0,A.blank d.toNat)) else (6,A)
def fused (A:RA) (n:Int):RA:={ A with left:=n.toNat }
def rpick (D:List (Option (List (List Nat)))) (x:Fl × Nat):List (Option (List (List Nat))):=if x.2 % 2 = 1 then rlay D x.1.d x.1.k x.1.b else D
def crash (A:RA) (ps:List Nat):RA:=⟨(A.L.zip ps).foldl rpick A.D,A.n,[],0,false⟩
def new (d n:Nat):RA:=⟨List.replicate d (some (List.replicate n (zs 64))),n,[],0,false⟩
def last (L:List Fl) (d k:Nat) (b:List Nat):List Nat:=L.foldl (fun c l=>if l.d = d /\ l.k = k then l.b else c) b
def read (A:RA) (d k:Int):List Nat:=if A.why d k = 0 then last A.L d.toNat k.toNat (((A.D.getD d.toNat none).getD []).getD k.toNat []) else []
end RA
def flOf (l:Wr):Fl:=⟨l.d,l.k,l.now⟩
def redo (C:List Disk) (L:List Wr):List Disk:=L.foldl (fun D l=>lay D l.d l.k l.now) C
structure Sim (R:Raw) (A:RA):Prop where
 ok:R.Ok
 n:A.n = R.n
 left:A.left = R.fuse
 dark:A.dark = R.off
 L:A.L = R.L.map flOf
 D:A.D = secsD R.n (undoTo R.C R.L 0)
 redo:redo (undoTo R.C R.L 0) R.L = R.C
theorem Sim.len {R:Raw} {A:RA} (h:Sim R A):A.D.length = R.C.length:=by rw [h.D,secsD_len,undoTo_len]
theorem undo_on (C:List Disk) (L:List Wr) (j e:Nat):((undoTo C L j).getD e none).isSome = (C.getD e none).isSome:=by
 unfold undoTo
 generalize L.drop j = Z
 induction Z with
 | nil=>rfl
 | cons l r ih=>simp only [List.foldr];rw [lay_on,ih]
theorem secsD_on (n:Nat) (C:List Disk) (e:Nat):((secsD n C).getD e none).isSome = (C.getD e none).isSome:=by
 simp only [List.getD,secsD_get]
 cases h:C[e]? with
 | none=>rfl
 | some x=>cases x <;> rfl
theorem Sim.isSome {R:Raw} {A:RA} (h:Sim R A) (e:Nat):(A.D.getD e none).isSome = (R.C.getD e none).isSome:=by rw [h.D,secsD_on,undo_on]
theorem Sim.on {R:Raw} {A:RA} (h:Sim R A) (d:Int):A.on d = R.on d:=by
 unfold RA.on Raw.on
 rw [h.len,h.isSome]
theorem Sim.why {R:Raw} {A:RA} (h:Sim R A) (d k:Int):A.why d k = R.reach d k:=by
 unfold RA.why Raw.reach
 rw [h.dark,h.len,h.n,h.isSome]
 split
 ·rfl
 ·split
  ·rename_i c
   simp [Raw.on,c.1,c.2.1]
  ·rfl
theorem Sim.burns {R:Raw} {A:RA} (h:Sim R A):A.burns = R.burns:=by unfold RA.burns Raw.burns;rw [h.left]
theorem burnt_C (R:Raw):R.burnt.C = R.C /\ R.burnt.n = R.n /\ R.burnt.L = R.L:=by unfold Raw.burnt;split <;> exact ⟨rfl,rfl,rfl⟩
theorem rburnt_D (A:RA):A.burnt.D = A.D /\ A.burnt.n = A.n /\ A.burnt.L = A.L:=by unfold RA.burnt;split <;> exact ⟨rfl,rfl,rfl⟩
theorem Sim.burnt {R:Raw} {A:RA} (h:Sim R A):Sim R.burnt A.burnt:=by
 obtain ⟨a1,a2,a3⟩:=burnt_C R
 obtain ⟨b1,b2,b3⟩:=rburnt_D A
 refine ⟨h.ok.burnt,by rw [a2,b2,h.n],?_,?_,by rw [a3,b3,h.L],by rw [a1,a2,a3,b1,h.D],by rw [a1,a3,h.redo]⟩
 ·unfold RA.burnt Raw.burnt;rw [h.left];split
  ·exact h.left
  ·rfl
 ·unfold RA.burnt Raw.burnt;rw [h.left];split
  ·exact h.dark
  ·rfl
theorem undo_fly {C:List Disk} {L:List Wr} {d k:Nat} {b xs:List Nat} (hx:C[d]? = some (some xs)) (hl:k * 64 + 64 <= xs.length) (hb:b.length = 64):undoTo (lay C d k b) (L ++ [⟨d,k,look C d k,b⟩]) 0 = undoTo C L 0:=by
 unfold undoTo
 simp only [List.drop_zero,List.foldr_append,List.foldr_cons,List.foldr_nil]
 congr 1
 have e:look C d k = sec xs k:=look_at k hx
 rw [e]
 apply List.ext_getElem?
 intro j
 by_cases c:j = d
 ·subst c
  rw [lay_at _ _ (lay_at k b hx),put_put_sec hb hl,hx]
 ·rw [lay_ne _ _ c,lay_ne _ _ c]
theorem Sim.fly {R:Raw} {A:RA} (h:Sim R A) {d k:Nat} {b xs:List Nat} (hx:R.C[d]? = some (some xs)) (hk:k < R.n) (hb:b.length = 64) (hs:∀ x ∈ b,x < 256):Sim (R.fly d k b) (A.fly d k b):=by
 obtain ⟨h1,_⟩:=h.ok.C d xs hx
 have hf:=fits hk
 have hu:undoTo (R.fly d k b).C (R.fly d k b).L 0 = undoTo R.C R.L 0:=undo_fly hx (by omega) hb
 refine ⟨h.ok.fly ⟨xs,hx⟩ hk hb hs,h.n,h.left,h.dark,by simp [RA.fly,Raw.fly,h.L,flOf],?_,?_⟩
 ·rw [hu];exact h.D
 ·rw [hu]
  show AM.redo _ (R.L ++ [_]) = lay R.C d k b
  unfold AM.redo
  rw [List.foldl_append]
  have:=h.redo
  unfold AM.redo at this
  rw [this]
  rfl
theorem Sim.write {R:Raw} {A:RA} (h:Sim R A) (d k:Int) {b:List Nat} (hs:∀ x ∈ b,x < 256):(A.writes d k b).1 = (R.writes d k b).1 /\ Sim (R.writes d k b).2 (A.writes d k b).2:=by
 by_cases hr:R.reach d k = 0
 ·by_cases hb:b.length = 64
  ·cases hbu:R.burns with
   | true =>
     simp only [RA.writes,Raw.writes,h.why,h.burns,hr,hb,hbu,ne_eq,not_true_eq_false,if_false,if_true]
     exact ⟨trivial,h.burnt⟩
   | false =>
     obtain ⟨_,h1,_,h2,h3,xs,hx⟩:=reach_zero hr
     obtain ⟨a1,a2,_⟩:=burnt_C R
     simp only [RA.writes,Raw.writes,h.why,h.burns,hr,hb,hbu,ne_eq,not_true_eq_false,if_false,Bool.false_eq_true]
     exact ⟨trivial,h.burnt.fly (by rw [a1];exact hx) (by rw [a2];omega) hb hs⟩
  ·simp only [RA.writes,Raw.writes,h.why,h.burns,hr,hb,ne_eq,not_true_eq_false,not_false_eq_true,if_false,if_true]
   exact ⟨trivial,h⟩
 ·simp only [RA.writes,Raw.writes,h.why,hr,ne_eq,not_false_eq_true,if_true]
  exact ⟨trivial,h⟩
theorem Sim.fuse {R:Raw} {A:RA} (h:Sim R A) {n:Int} (hn:n < 9223372036854775808):Sim (R.fused n) (A.fused n) :=
 ⟨⟨h.ok.d1,h.ok.d2,h.ok.n1,h.ok.n2,h.ok.C,h.ok.L,by show n.toNat < _;omega⟩,h.n,rfl,h.dark,h.L,h.D,h.redo⟩
theorem secsD_redo {n:Nat} {C:List Disk} (h:OkC n C) {L:List Wr} (hL:∀ l ∈ L,OkW n C l):(L.map flOf).foldl (fun D l=>rlay D l.d l.k l.b) (secsD n C) = secsD n (AM.redo C L):=by
 unfold AM.redo
 induction L generalizing C with
 | nil=>rfl
 | cons l r ih =>
   have hl:=hL l (List.mem_cons_self ..)
   simp only [List.map_cons,List.foldl_cons]
   rw [<- ih (h.lay hl.k hl.now hl.nowS) (fun x hx=>(hL x (List.mem_cons_of_mem _ hx)).lay _ _ _),secsD_lay h hl.k hl.now]
   rfl
theorem Sim.barrier {R:Raw} {A:RA} (h:Sim R A):A.barrier.1 = R.barrier.1 /\ Sim R.barrier.2 A.barrier.2:=by
 unfold RA.barrier Raw.barrier
 rw [h.dark,h.burns]
 split
 ·exact ⟨rfl,h⟩
 ·split
  ·exact ⟨rfl,h.burnt⟩
  ·have hb:=h.burnt
   obtain ⟨a1,a2,a3⟩:=burnt_C R
   obtain ⟨u1,u2⟩:=h.ok.C.undo h.ok.L 0
   refine ⟨rfl,⟨⟨hb.ok.d1,hb.ok.d2,hb.ok.n1,hb.ok.n2,hb.ok.C,by simp,hb.ok.fuse⟩,hb.n,hb.left,hb.dark,rfl,?_,rfl⟩⟩
   show A.L.foldl _ A.D = secsD R.burnt.n R.burnt.C
   rw [h.L,h.D,secsD_redo u1 u2,h.redo,a1,a2]
theorem secsD_pick {n:Nat}:∀ (Z:List (Wr × Nat)) (C:List Disk),OkC n C -> (∀ x ∈ Z,OkW n C x.1) -> (Z.map (fun x=>(flOf x.1,x.2))).foldl RA.rpick (secsD n C) = secsD n (Z.foldl pickD C):=by
 intro Z
 induction Z with
 | nil=>intro C _ _;rfl
 | cons x r ih =>
   intro C hC hZ
   have hx:=hZ x (List.mem_cons_self ..)
   simp only [List.map_cons,List.foldl_cons]
   by_cases ho:x.2 % 2 = 1
   ·have e1:RA.rpick (secsD n C) (flOf x.1,x.2) = rlay (secsD n C) x.1.d x.1.k x.1.now:=if_pos ho
    have e2:pickD C x = lay C x.1.d x.1.k x.1.now:=if_pos ho
    rw [e1,e2,<- ih _ (hC.lay hx.k hx.now hx.nowS) (fun y hy=>(hZ y (List.mem_cons_of_mem _ hy)).lay _ _ _),secsD_lay hC hx.k hx.now]
   ·have e1:RA.rpick (secsD n C) (flOf x.1,x.2) = secsD n C:=if_neg ho
    have e2:pickD C x = C:=if_neg ho
    rw [e1,e2,ih _ hC (fun y hy=>hZ y (List.mem_cons_of_mem _ hy))]
theorem Sim.crash {R:Raw} {A:RA} (h:Sim R A) (ps:List Nat):Sim (R.crash ps) (A.crash ps):=by
 obtain ⟨u1,u2⟩:=h.ok.C.undo h.ok.L 0
 refine ⟨h.ok.crash ps,h.n,rfl,rfl,rfl,?_,rfl⟩
 show (A.L.zip ps).foldl RA.rpick A.D = secsD R.n ((R.L.zip ps).foldl pickD (undoTo R.C R.L 0))
 rw [h.L,h.D,<- secsD_pick (n:=R.n) (R.L.zip ps) _ u1 (fun x hx=>u2 _ (List.of_mem_zip hx).1)]
 congr 1
 rw [List.zip_map_left]
 rfl
theorem lay_set_ne {C:List Disk} {d e k:Nat} {b:List Nat} (o:Disk) (h:e ≠ d):lay (C.set e o) d k b = (lay C d k b).set e o:=by
 unfold lay
 have:(C.set e o).getD d none = C.getD d none:=by simp only [List.getD];rw [List.getElem?_set_ne h]
 rw [this,List.set_comm _ _ h]
theorem undo_set {C:List Disk} {e:Nat} (o:Disk):∀ {L:List Wr},(∀ l ∈ L,l.d ≠ e) -> undoTo (C.set e o) L 0 = (undoTo C L 0).set e o:=by
 intro L
 unfold undoTo
 simp only [List.drop_zero]
 induction L with
 | nil=>intro _;rfl
 | cons l r ih =>
   intro h
   simp only [List.foldr_cons]
   rw [ih (fun x hx=>h x (List.mem_cons_of_mem _ hx)),lay_set_ne o (Ne.symm (h l (List.mem_cons_self ..)))]
theorem redo_set {e:Nat} (o:Disk):∀ {L:List Wr} {C:List Disk},(∀ l ∈ L,l.d ≠ e) -> redo (C.set e o) L = (redo C L).set e o:=by
 intro L
 unfold redo
 induction L with
 | nil=>intro C _;rfl
 | cons l r ih =>
   intro C h
   simp only [List.foldl_cons]
   rw [lay_set_ne o (Ne.symm (h l (List.mem_cons_self ..))),ih (fun x hx=>h x (List.mem_cons_of_mem _ hx))]
theorem lay_kill {C:List Disk} {e k:Nat} {b:List Nat}:(lay C e k b).set e none = C.set e none:=by
 unfold lay
 simp
theorem undo_lost {e:Nat}:∀ {L:List Wr} {C:List Disk},undoTo (C.set e none) (L.filter (fun l=>!(l.d == e))) 0 = (undoTo C L 0).set e none:=by
 intro L
 unfold undoTo
 simp only [List.drop_zero]
 induction L with
 | nil=>intro C;rfl
 | cons l r ih =>
   intro C
   by_cases h:l.d = e
   ·rw [List.filter_cons_of_neg (by simp [h]),ih]
    simp only [List.foldr_cons]
    rw [h,lay_kill]
   ·rw [List.filter_cons_of_pos (by simp [h])]
    simp only [List.foldr_cons]
    rw [ih,lay_set_ne none (Ne.symm h)]
theorem redo_lost {e:Nat}:∀ {L:List Wr} {C:List Disk},redo (C.set e none) (L.filter (fun l=>!(l.d == e))) = (redo C L).set e none:=by
 intro L
 unfold redo
 induction L with
 | nil=>intro C;rfl
 | cons l r ih =>
   intro C
   by_cases h:l.d = e
   ·rw [List.filter_cons_of_neg (by simp [h])]
    simp only [List.foldl_cons]
    rw [<- ih,h,lay_kill]
   ·rw [List.filter_cons_of_pos (by simp [h])]
    simp only [List.foldl_cons]
    rw [lay_set_ne none (Ne.symm h),ih]
theorem secsD_set (n:Nat) (C:List Disk) (d:Nat) (o:Disk):secsD n (C.set d o) = (secsD n C).set d (o.map (secs n)):=by simp [secsD,List.map_set]
theorem Sim.find {R:Raw} {A:RA} (h:Sim R A) (d:Int):(0 <= d /\ d < (A.D.length:Int)) ↔ R.find d = 0:=by
 rw [h.len]
 unfold Raw.find
 split
 ·rename_i c;simp [c]
 ·rename_i c;simp [c]
theorem Sim.lose {R:Raw} {A:RA} (h:Sim R A) (d:Int):(A.lose d).1 = (R.lose d).1 /\ Sim (R.lose d).2 (A.lose d).2:=by
 by_cases hf:R.find d = 0
 ·have hin:=(h.find d).2 hf
  have hs:(A.D.getD d.toNat none).isSome = R.on d:=by
   rw [h.isSome]
   rw [h.len] at hin
   simp [Raw.on,hin.1,hin.2]
  cases ho:R.on d with
  | false =>
    simp only [RA.lose,Raw.lose,hin,hf,hs,ho,ne_eq,not_true_eq_false,if_false,Bool.false_eq_true,and_self,if_true]
    exact ⟨trivial,h⟩
  | true =>
    simp only [RA.lose,Raw.lose,hin,hf,hs,ho,ne_eq,not_true_eq_false,if_false,and_self,if_true]
    refine ⟨trivial,⟨h.ok.lost _,h.n,h.left,h.dark,?_,?_,?_⟩⟩
    ·show A.L.filter _ = (R.L.filter _).map flOf
     rw [h.L,List.filter_map]
     rfl
    ·show A.D.set d.toNat none = secsD R.n (undoTo (R.C.set d.toNat none) (R.L.filter _) 0)
     rw [undo_lost,secsD_set,h.D]
     rfl
    ·show AM.redo (undoTo (R.C.set d.toNat none) (R.L.filter _) 0) (R.L.filter _) = R.C.set d.toNat none
     rw [undo_lost,redo_lost,h.redo]
 ·have hin:¬ (0 <= d /\ d < (A.D.length:Int)):=fun c=>hf ((h.find d).1 c)
  have h6:R.find d = 6:=by unfold Raw.find at hf ⊢;split at hf <;> simp_all
  simp only [RA.lose,Raw.lose,hin,h6,ne_eq,if_false]
  exact ⟨rfl,h⟩
theorem secs_zs (n:Nat):secs n (zs (n * 64)) = List.replicate n (zs 64):=by
 apply List.ext_getElem?
 intro j
 by_cases hj:j < n
 ·rw [secs_get hj,sec_zs hj,List.getElem?_replicate,if_pos hj]
 ·rw [List.getElem?_eq_none (by rw [secs_len];omega),List.getElem?_eq_none (by simp;omega)]
theorem Sim.replace {R:Raw} {A:RA} (h:Sim R A) (d:Int):(A.replace d).1 = (R.replace d).1 /\ Sim (R.replace d).2 (A.replace d).2:=by
 by_cases hf:R.find d = 0
 ·have hin:=(h.find d).2 hf
  have hin':=hin
  rw [h.len] at hin'
  have hs:(A.D.getD d.toNat none).isSome = R.on d:=by
   rw [h.isSome]
   simp [Raw.on,hin'.1,hin'.2]
  cases ho:R.on d with
  | true =>
    simp only [RA.replace,Raw.replace,hin,hf,hs,ho,ne_eq,not_true_eq_false,if_false,and_self,if_true]
    exact ⟨trivial,h⟩
  | false =>
    simp only [RA.replace,Raw.replace,hin,hf,hs,ho,ne_eq,not_true_eq_false,if_false,Bool.false_eq_true,and_self,if_true]
    have hL:∀ l ∈ R.L,l.d ≠ d.toNat:=fun l hl e=>by
     obtain ⟨xs,hx⟩:=(h.ok.L l hl).on
     rw [e] at hx
     have h1:R.on d = true:=by
      unfold Raw.on
      rw [decide_eq_true hin'.1,decide_eq_true hin'.2]
      simp [List.getD,hx]
     rw [ho] at h1
     cases h1
    refine ⟨trivial,⟨h.ok.blank _,h.n,h.left,h.dark,h.L,?_,?_⟩⟩
    ·show A.D.set d.toNat (some (List.replicate A.n (zs 64))) = secsD R.n (undoTo (R.C.set d.toNat (some (zs (R.n * 64)))) R.L 0)
     rw [undo_set _ hL,secsD_set,h.D,h.n,<- secs_zs]
     rfl
    ·show AM.redo (undoTo (R.C.set d.toNat (some (zs (R.n * 64)))) R.L 0) R.L = R.C.set d.toNat _
     rw [undo_set _ hL,redo_set _ hL,h.redo]
 ·have hin:¬ (0 <= d /\ d < (A.D.length:Int)):=fun c=>hf ((h.find d).1 c)
  have h6:R.find d = 6:=by unfold Raw.find at hf ⊢;split at hf <;> simp_all
  simp only [RA.replace,Raw.replace,hin,h6,ne_eq,if_false]
  exact ⟨rfl,h⟩
theorem sim_new {d n:Nat} (h1:1 <= d) (h2:d <= 255) (h3:1 <= n) (h4:n <= 4096):Sim (Raw.new d n) (RA.new d n):=by
 refine ⟨Raw.Ok.new h1 h2 h3 h4,rfl,rfl,rfl,rfl,?_,rfl⟩
 show List.replicate d (some (List.replicate n (zs 64))) = secsD n (List.replicate d (some (zs (n * 64))))
 simp [secsD,secs_zs]
theorem look_redo {n:Nat}:∀ {L:List Wr} {C:List Disk},OkC n C -> (∀ l ∈ L,OkW n C l) -> ∀ {d k:Nat} {xs:List Nat},C[d]? = some (some xs) -> k < n -> look (redo C L) d k = RA.last (L.map flOf) d k (sec xs k):=by
 intro L
 induction L with
 | nil=>intro C _ _ d k xs hx _;exact look_at k hx
 | cons l r ih =>
   intro C hC hL d k xs hx hk
   have hl:=hL l (List.mem_cons_self ..)
   have hC':=hC.lay (d:=l.d) hl.k hl.now hl.nowS
   have hL':∀ y ∈ r,OkW n (lay C l.d l.k l.now) y:=fun y hy=>(hL y (List.mem_cons_of_mem _ hy)).lay _ _ _
   obtain ⟨hxl,_⟩:=hC d xs hx
   have hf:=fits hk
   have hfl:=fits hl.k
   show look (redo (lay C l.d l.k l.now) r) d k = RA.last (r.map flOf) d k (if l.d = d /\ l.k = k then l.now else sec xs k)
   by_cases c:l.d = d
   ·have hx':(lay C l.d l.k l.now)[d]? = some (some (put xs l.k l.now)):=by rw [<- c] at hx ⊢;exact lay_at _ _ hx
    rw [ih hC' hL' hx' hk]
    congr 1
    by_cases c2:l.k = k
    ·rw [if_pos ⟨c,c2⟩,<- c2,sec_put_same hl.now (by omega)]
    ·rw [if_neg (fun h=>c2 h.2),sec_put_ne hl.now (by omega) (Ne.symm c2)]
   ·have hx':(lay C l.d l.k l.now)[d]? = some (some xs):=by rw [lay_ne _ _ (Ne.symm c)];exact hx
    rw [ih hC' hL' hx' hk,if_neg (fun h=>c h.1)]
theorem Sim.read {R:Raw} {A:RA} (h:Sim R A) (d k:Int):A.read d k = (if R.reach d k = 0 then look R.C d.toNat k.toNat else []):=by
 unfold RA.read
 rw [h.why]
 by_cases hr:R.reach d k = 0
 ·rw [if_pos hr,if_pos hr]
  obtain ⟨_,_,_,hk0,hk,xs,hx⟩:=reach_zero hr
  obtain ⟨u1,u2⟩:=h.ok.C.undo h.ok.L 0
  have hs:((undoTo R.C R.L 0).getD d.toNat none).isSome = true:=by rw [undo_on];simp [List.getD,hx]
  obtain ⟨ys,hy⟩:∃ ys,(undoTo R.C R.L 0)[d.toNat]? = some (some ys):=by
   simp only [List.getD] at hs
   cases hq:(undoTo R.C R.L 0)[d.toNat]? with
   | none=>simp [hq] at hs
   | some o=>cases o with
     | none=>simp [hq] at hs
     | some ys=>exact ⟨ys,rfl⟩
  have hkn:k.toNat < R.n:=by omega
  have e:((A.D.getD d.toNat none).getD []).getD k.toNat [] = sec ys k.toNat:=by
   rw [h.D]
   simp only [List.getD,secsD_get,hy]
   simp [secs_get hkn]
  rw [e,h.L,<- look_redo u1 u2 hy hkn,h.redo]
 ·rw [if_neg hr,if_neg hr]
theorem Sim.ons {R:Raw} {A:RA} (h:Sim R A):A.ons = R.ons:=by
 have key:∀ (D:List (Option (List (List Nat)))) (C:List Disk),D.length = C.length -> (∀ e,(D.getD e none).isSome = (C.getD e none).isSome) -> D.countP (·.isSome) = C.countP (·.isSome):=by
  intro D
  induction D with
  | nil=>intro C hl _;cases C with
    | nil=>rfl
    | cons _ _=>simp at hl
  | cons x r ih =>
    intro C hl he
    cases C with
    | nil=>simp at hl
    | cons y s =>
      have h0:=he 0
      simp at h0
      have hr:=ih s (by simpa using hl) (fun e=>by have:=he (e + 1);simpa using this)
      simp only [List.countP_cons,hr,h0]
 exact key _ _ h.len h.isSome
end AM
end Go.Proofs.YtfjlpifaaknmpaaGreat
