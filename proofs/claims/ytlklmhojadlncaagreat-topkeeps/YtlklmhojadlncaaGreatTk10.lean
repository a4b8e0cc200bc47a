/- Packed: Write6, Repl6. -/
import Derived.Test.YtlklmhojadlncaaGreatTk8
set_option linter.unusedSimpArgs false
set_option linter.unusedVariables false
set_option maxRecDepth 100000
namespace Go.Proofs.YtlklmhojadlncaaGreat
open Go.RowKit
section
variable {F:Nat->Prop} {w:World} {a:Nat} {R:AM.Raw}
theorem wfill (d k:Nat) (was b:List Nat) (hw:was.length=64) (hb:b.length=64):((wcells ⟨d,k,was,AM.zs 64⟩).toArray.toList.take 66++b.map bv++(wcells ⟨d,k,was,AM.zs 64⟩).toArray.toList.drop (66+b.length)).toArray=(wcells ⟨d,k,was,b⟩).toArray:=by
 have h1:(was.map bv).length=64:=by simpa using hw
 have h2:((AM.zs 64).map bv).length=64:=by rw[List.length_map,AM.zs_len]
 unfold wcells
 simp only[hb]
 generalize was.map bv=A at *
 generalize (AM.zs 64).map bv=Z at *
 congr 1
 simp[h1,h2]
theorem now_vec {w:World} {bk d k:Nat} {was b:List Nat} (h:w.heap[bk]?=some (.cells (wcells ⟨d,k,was,b⟩).toArray 81 (0,0))) (hw:was.length=64) (hb:b.length=64) (hs:∀ x ∈ b,x < 256):Vec w (.slice (some ⟨bk,66,none⟩) 64 64) b:=by
 refine⟨hs,by omega,_,_,by rw[hb],by omega,by decide,fun _=>⟨bk,66,rfl,fun j hj=>?_⟩⟩
 refine topCell h ?_
 rw[List.getElem?_toArray]
 have h1:(was.map bv).length=64:=by simpa using hw
 have e:66+j=2+(64+j):=by omega
 rw[e,Nat.add_comm 2]
 unfold wcells
 rw[List.getElem?_cons_succ,List.getElem?_cons_succ]
 show (List.map bv was++List.map bv b)[64+j]?=_
 rw[List.getElem?_append_right (by omega),h1,Nat.add_sub_cancel_left,getD_map_bv b j hj]
set_option maxHeartbeats 1600000 in
set_option maxRecDepth 100000 in
theorem write_fly (h:Is F w a R) {d k:Nat} {v:Value} {b:List Nat} (hr:R.reach d k=0) (hv:Vec w v b) (hvF:b ≠ []->∀ g,v.ownBlock=some g->¬ F g) (hb:b.length=64) (hbu:R.burns=false) (hL:R.L.length<=1000000) :
 Calls Tryz.prog 72 #[ptr a,.int .i64 (d:Int),.int .i64 (k:Int),v] w fun e w'=>e=.returned (.int .i64 0)/\∃ F',Is F' w' a (R.burnt.fly d k b)/\Step F w F' w':=by
 have HC:Hid (Calls Tryz.prog 88 #[ptr a,.int .i64 (d:Int),.int .i64 (k:Int)] w fun e w'=>e=.returned (.int .i64 0)/\w'=w):=by have:=reach_yes h (d:Int) (k:Int);rw[hr] at this;exact this
 obtain⟨hoff,_,d2,_,k2,xs,hon⟩:=AM.reach_zero hr
 rw[Int.toNat_natCast] at hon
 have HB:Hid (Calls Tryz.prog 37 #[ptr a] w fun e w'=>e=.returned (.bool false)/\Is F w' a R.burnt/\Step F w F w'):=by have:=burns_yes h hoff;rw[hbu] at this;exact this
 have eC:R.burnt.C=R.C:=by unfold AM.Raw.burnt;split <;> rfl
 have en:R.burnt.n=R.n:=by unfold AM.Raw.burnt;split <;> rfl
 have eL:R.burnt.L=R.L:=by unfold AM.Raw.burnt;split <;> rfl
 rw[<- eC] at hon d2
 rw[<- en] at k2
 rw[<- eL] at hL
 obtain⟨p,n,cap,rfl,hn⟩:=hv.opened
 obtain rfl:n=64:=by omega
 have HV:Hid (∀ w',Upd F w w'->Vec w' (.slice p 64 cap) b):=fun w' u=>hv.upd u hvF
 have HBL:Hid (b.length=64/\b ≠ []/\∀ x ∈ b,x < 256):=⟨hb,(by intro e;rw[e] at hb;cases hb),hv.small⟩
 clear h hr hv hvF hb hbu eC en eL hoff hn
 go_enter Tryz.func72,Tryz.ntmps72
 go_wp2_with (go_at_call 88;refine HC.out.mono ?_;rintro e w1 ⟨rfl,hw⟩;obtain rfl:=hw.symm;clear hw)
 refine HB.out.mono ?_
 rintro e w1 ⟨rfl,hi1,hs1⟩
 have hok:=hi1.ok
 obtain⟨dg,dv,fp,fc,h1⟩:=hi1
 obtain⟨g,c,hdv,cd,hrow,hxl,hxs,ga,gd,hdl⟩:=h1.drive hon
 have c0:w1.cell? ⟨a,0,none⟩=some (.slice (some ⟨dg,0,none⟩) R.burnt.C.length R.burnt.C.length):=topCell (j:=0) h1.top rfl
 have hN:=hok.d2
 have hn2:=hok.n2
 have hkn:k < R.burnt.n:=by omega
 have hsv:=sector_vec hrow hxs hxl hkn
 rw[<- AM.look_at k hon] at hsv
 have hlk:=AM.look_ok hok.C ⟨xs,hon⟩ hkn
 have HRG:Hid (w1.rangeAt g (k * 64) ((AM.look R.burnt.C d k).map bv)):=fun j u hj=>by
  obtain⟨x,hx,rfl⟩:=bv_map_get hj
  have hjl:j < (AM.look R.burnt.C d k).length:=(List.getElem?_eq_some_iff.1 hx).1
  obtain⟨b',o',e',hcell,_⟩:=hsv.spot hjl
  injection e' with e'
  injection e' with e1 e2
  subst e1
  subst e2
  rw[hcell]
  simp[List.getD,hx]
 have HLK:Hid ((AM.look R.burnt.C d k).length=64/\∀ x ∈ AM.look R.burnt.C d k,x < 256):=hlk
 have HI1:Hid (Is F w1 a R.burnt):=h1.is
 have HS1:Hid (Step F w F w1):=hs1
 have HOK:Hid (R.burnt.Ok):=hok
 have HON:Hid ((∃ xs,R.burnt.C[d]?=some (some xs))/\k < R.burnt.n):=⟨⟨xs,hon⟩,hkn⟩
 have zW:=run_zeroW
 obtain⟨was,hwas⟩:∃ was,was=AM.look R.burnt.C d k:=⟨_,rfl⟩
 rw[<- hwas] at HRG HLK
 have HW:Hid (was=AM.look R.burnt.C d k):=hwas
 obtain⟨N,hNe⟩:∃ N,N=R.burnt.C.length:=⟨_,rfl⟩
 obtain⟨M,hMe⟩:∃ M,M=R.burnt.n:=⟨_,rfl⟩
 rw[<- hNe] at c0 hN hdl d2
 rw[<- hMe] at cd hkn hn2 k2
 have hsz1:(Tryz.prog.info? 79).map (·.size)=some (was.map bv).length:=by rw[List.length_map,HLK.out.1];exact Tryz.sizeSec
 have HSZ:Hid ((Tryz.prog.info? 79).map (·.size)=some (was.map bv).length):=hsz1
 obtain⟨AR,hAR⟩:∃ AR,AR=(wcells ⟨d,k,was,AM.zs 64⟩).toArray:=⟨_,rfl⟩
 have HARL:Hid (AR.size=130/\AR.all (·.oneCell')=true):=by
  rw[hAR]
  exact⟨by rw[List.size_toArray,wcells_len (by exact HLK.out.1) (AM.zs_len _)],all_oneCell_toArray (wcells_one _)⟩
 have HAR:Hid (AR=(wcells ⟨d,k,was,AM.zs 64⟩).toArray):=hAR
 obtain⟨ZR,hZR⟩:∃ ZR,ZR=(wcells ⟨0,0,AM.zs 64,AM.zs 64⟩).toArray:=⟨_,rfl⟩
 rw[<- hZR] at zW
 have HINF:Hid ((Tryz.prog.info? 81).map (·.size)=some AR.size):=by rw[HARL.out.1];exact Tryz.sizeWr
 have HZR:Hid (ZR.size=130):=by show _=_;rw[hZR,List.size_toArray,wcells_len (AM.zs_len _) (AM.zs_len _)]
 clear hs1 hdv hrow hxl hxs ga gd hsv hlk hok h1 hwas hNe hMe hsz1 hAR hon xs HB HC hZR
 go_wp2_with (first
  | (refine wpList_load_mid rfl 79 (.tmp 33) rfl g (k * 64) rfl (was.map bv) _ HRG.out Tryz.underlying79 rfl HSZ.out ?_)
  | (refine wpList_build_wr rfl (.tmp 23) (.tmp 24) (.tmp 34) rfl rfl rfl rfl HLK.out.1 HAR.out ?_)
  | (refine wpList_store_row rfl 81 (.tmp 10) (.tmp 35) rfl w1.heap.size AR rfl rfl 81 ZR (heap_alloc_new w1 _) HINF.out (by rw[HZR.out,HARL.out.1]) HARL.out.2 ?_;rw[World.setRow_alloc_new];have HBK:Hid ((w1.alloc (.cells AR 81)).heap[w1.heap.size]?=some (.cells AR 81 (0,0))/\Step F w F (w1.alloc (.cells AR 81))/\Is F (w1.alloc (.cells AR 81)) a R.burnt/\(∀ i,F i->i < w1.heap.size)/\w.heap.size<=w1.heap.size):=⟨heap_alloc_new w1 _,HS1.out.trans (Step.new (World.grownBy_alloc _ _ none)),HI1.out.keep (World.grownBy_alloc _ _ none),HI1.out.lt,HS1.out.upd.size⟩;clear HS1 HI1;generalize w1.alloc (.cells AR 81)=W at *;have HFB:Hid (∀ i,F i->i < w1.heap.size):=HBK.out.2.2.2.1;generalize w1.heap.size=bk at *)
  | (refine wpList_copy_cells rfl _ _ rfl _ (T:=81) (g:=bk) (f:=66) (cur:=AR) (ys:=b) rfl rfl HBK.out.1 (HV.out _ HBK.out.2.1.upd) HBL.out.2.1 (by rw[HBL.out.1];exact Nat.le_refl _) (by rw[HBL.out.1,HARL.out.1];exact Nat.le_refl _) ?_;intro w2 h2 g2;rw[HAR.out,wfill d k was b HLK.out.1 HBL.out.1] at h2;have H2:Hid (w2.heap[bk]?=some (.cells (wcells ⟨d,k,was,b⟩).toArray 81 (0,0))):=h2;have e0:w2.cell? ⟨bk,0,none⟩=some (.int .i64 (d:Int)):=topCell h2 rfl;have e1:w2.cell? ⟨bk,1,none⟩=some (.int .i64 (k:Int)):=topCell h2 rfl;have HI2:Hid (Is F w2 a R.burnt/\Step F w F w2):=⟨HBK.out.2.2.1.apart g2 (fun hf=>Nat.lt_irrefl _ (HBK.out.2.2.2.1 _ hf)),HBK.out.2.1.fresh g2 HBK.out.2.2.2.2⟩;have HV2:Hid (Vec w2 (.slice (some ⟨bk,66,none⟩) 64 64) b):=now_vec h2 HLK.out.1 HBL.out.1 HBL.out.2.2;clear h2 g2 HBK)
  | (go_at_call 41;refine (lay_yes HI2.out.1 HON.out.1 HON.out.2 HV2.out HBL.out.1).mono ?_;rintro e w3 ⟨rfl,hi3,hs3,g3,c3,hg3,ht3⟩;have H3:Hid (w3.heap[bk]?=some (.cells (wcells ⟨d,k,was,b⟩).toArray 81 (0,0))):=(hg3.block bk (Array.getElem?_eq_some_iff.1 H2.out).1 (fun e=>ne_ty H2.out ht3 (by decide) (Option.some.inj e))).trans H2.out;have HI3:Hid (Is F w3 a (R.burnt.lay d k b)):=hi3;have HS3:Hid (Step F w F w3):=HI2.out.2.trans hs3;clear hi3 hs3 hg3 ht3 H2 HI2 HV2)
  | fail)
 obtain⟨dg3,dv3,fp3,fc3,h3⟩:=HI3.out
 have HL3:Hid (Lies F w3 a dg3 dv3 fp3 fc3 (R.burnt.lay d k b)):=h3
 have HT:Hid (w3.heap[a]?=some (.cells #[.slice (some ⟨dg3,0,none⟩) (R.burnt.lay d k b).C.length (R.burnt.lay d k b).C.length,.int .i64 ((R.burnt.lay d k b).n:Int),.slice fp3 R.burnt.L.length fc3,.int .i64 ((R.burnt.lay d k b).fuse:Int),.bool (R.burnt.lay d k b).off] 76 (0,0))):=h3.top
 have HFl:Hid (w3.ownsRow 0 81 130 (.slice fp3 R.burnt.L.length fc3) R.burnt.L.length (wrow R.burnt.L)):=h3.fly
 have c2:w3.cell? ⟨a,2,none⟩=some (.slice fp3 R.burnt.L.length fc3):=topCell (j:=2) h3.top rfl
 have HLW:Hid ((wcells ⟨d,k,was,b⟩).length=130):=wcells_len HLK.out.1 HBL.out.1
 obtain⟨CW,hCW⟩:∃ CW,CW=wcells ⟨d,k,was,b⟩:=⟨_,rfl⟩
 have HCW:Hid (CW=wcells ⟨d,k,was,b⟩):=hCW
 rw[<- hCW] at H3 HLW
 have HRW:Hid (∀ W:World,W.heap[bk]?=some (.cells CW.toArray 81 (0,0))->W.rangeAt bk 0 CW):=fun W hW j u hj=>by rw[Nat.zero_add];exact topCell hW (by rw[List.getElem?_toArray];exact hj)
 have HSW:Hid ((Tryz.prog.info? 81).map (·.size)=some CW.length):=by rw[HLW.out];exact Tryz.sizeWr
 have HFn:Hid (∀ i,(Value.slice fp3 R.burnt.L.length fc3).ownBlock=some i->F i/\i ≠ a):=fun i hi=>⟨h3.Ff i hi,fun e=>by
  obtain⟨cc,hcc⟩:=rowBlock h3.fly hi
  exact ne_ty hcc h3.top (by decide) e⟩
 have HFa:Hid (F a):=h3.Fa
 have c2a:(w3.alloc (.cells CW.toArray 81)).cell? ⟨a,2,none⟩=some (.slice fp3 R.burnt.L.length fc3):=(World.grownBy_alloc w3 _ none).cell c2 (by simp)
 have FIN:Hid (∀ g5 cap5 w5,w5.ownsRow 0 81 130 (.slice (some ⟨g5,0,none⟩) (R.burnt.L.length+1) cap5) (R.burnt.L.length+1) (wrow R.burnt.L++wcells ⟨d,k,was,b⟩)->(w3.alloc (.cells CW.toArray 81)).grownBy w5 (Value.slice fp3 R.burnt.L.length fc3).ownBlock->((Value.slice fp3 R.burnt.L.length fc3).ownBlock=some g5\/g5=(w3.alloc (.cells CW.toArray 81)).heap.size) ->
  w5.heap[bk]?=some (.cells CW.toArray 81 (0,0))/\w5.cell? ⟨a,2,none⟩=some (.slice fp3 R.burnt.L.length fc3)/\w5.frozen? ⟨a,2,none⟩=false/\(w5.setCell ⟨a,2,none⟩ (.slice (some ⟨g5,0,none⟩) (R.burnt.L.length+1) cap5)).heap[bk]?=some (.cells CW.toArray 81 (0,0)) /\
   ∃ F',Is F' (w5.setCell ⟨a,2,none⟩ (.slice (some ⟨g5,0,none⟩) (R.burnt.L.length+1) cap5)) a (R.burnt.fly d k b)/\Step F w F' (w5.setCell ⟨a,2,none⟩ (.slice (some ⟨g5,0,none⟩) (R.burnt.L.length+1) cap5))):=by
  intro g5 cap5 w5 o5 gr5 hw5
  have gA:w3.grownBy (w3.alloc (.cells CW.toArray 81)) none:=World.grownBy_alloc _ _ none
  have g35:w3.grownBy w5 (Value.slice fp3 R.burnt.L.length fc3).ownBlock:=grown_trans (grown_any gA _) gr5
  have hbk:w5.heap[bk]?=some (.cells CW.toArray 81 (0,0)):=(g35.block bk (Array.getElem?_eq_some_iff.1 H3.out).1 (fun e=>by have:=HFB.out _ (HFn.out bk e.symm).1;omega)).trans H3.out
  have ha5:w5.heap[a]?=w3.heap[a]?:=g35.block a (h3.lt a h3.Fa) (fun e=>(HFn.out a e.symm).2 rfl)
  have hab:a < bk:=HFB.out a HFa.out
  have hlt5:g5 < w5.heap.size:=by
   obtain⟨cc,hcc⟩:=rowBlock o5 (g:=g5) rfl
   exact (Array.getElem?_eq_some_iff.1 hcc).1
  have hokw:(R.burnt.fly d k b).Ok:=h3.ok |> fun _=>AM.Raw.Ok.fly HOK.out HON.out.1 HON.out.2 HBL.out.1 HBL.out.2.2
  have hLies:=h3.flown (F':=fun i=>F i\/i=g5) (w1:=w5) (w':=w5.setCell ⟨a,2,none⟩ (.slice (some ⟨g5,0,none⟩) (R.burnt.L.length+1) cap5)) (fun i h=>.inl h)
   (fun i h=>by rcases h with h | rfl;exact Nat.lt_of_lt_of_le (h3.lt i h) g35.size;exact hlt5) g35 (L':=R.burnt.L++[⟨d,k,was,b⟩]) (fp':=some ⟨g5,0,none⟩) (fc':=cap5)
   (by rw[List.length_append];simpa [wrow] using o5) (fun i h=>.inr (Option.some.inj h).symm) (fun l hl=>by rw[HW.out] at hl;exact hokw.L l hl) (by rw[List.length_append];rfl)
  refine⟨hbk,?_,?_,?_,fun i=>F i\/i=g5,?_,HS3.out.trans ⟨⟨?_,?_,?_,?_,?_⟩,?_⟩⟩
  ·exact topCell (j:=2) (ha5.trans h3.top) rfl
  ·exact topFrozen 2 (ha5.trans h3.top)
  ·rw[Below.heap_setCell _ _ _ _ (by show bk ≠ a;omega)];exact hbk
  ·have e:R.burnt.fly d k b={ R.burnt.lay d k b with L:=R.burnt.L++[⟨d,k,was,b⟩] }:=by rw[HW.out];rfl
   rw[e]
   exact hLies.is
  ·exact g35.os
  ·exact g35.tape
  ·exact g35.output
  ·have:=g35.size;simpa using this
  ·intro i hi hn
   rw[Below.heap_setCell _ _ _ _ (by intro e;rw[e] at hn;exact hn HFa.out)]
   exact g35.block i hi (fun e=>hn (HFn.out i e.symm).1)
  ·intro i hi
   rcases hi with h | rfl
   ·exact .inl h
   ·rcases hw5 with h | h
    ·exact .inl (HFn.out _ h).1
    ·exact .inr (by rw[h];simp)
 clear hCW h3 HI3
 go_wp2_with fail
 refine wp_region_noPanic ?_
 refine wp_region_held_drew (S:=fun w'=>w'.rangeAt bk 0 CW) (by kernel_rfl) ?_ (fun hHeld=>?_)
 ·exact HRW.out _ H3.out
 refine wpAnyH_take (i:=0) (v:=?_) rfl (by kernel_rfl) (by kernel_rfl) (by kernel_rfl) (fun _ _ _ h=>h) (Or.inl ⟨by rfl,?_⟩) (by assumption) ?_
 rotate_left
 ·intro w hSw;(try dsimp only at hSw);first | (go_simp;done) | (go_simp;with_reducible rfl)
 simp only[Act.put,lay9]
 refine wpAnyH_take (i:=1) (v:=?_) rfl (by kernel_rfl) (by kernel_rfl) (by kernel_rfl) (fun _ _ _ h=>h) (Or.inl ⟨by rfl,?_⟩) (by assumption) ?_
 rotate_left
 ·intro w hSw;(try dsimp only at hSw);first | (go_simp;done) | (go_simp;with_reducible rfl)
 simp only[Act.put,lay9]
 refine wpAnyH_take (i:=2) (v:=?_) rfl (by kernel_rfl) (by kernel_rfl) (by kernel_rfl) (fun _ _ _ h=>h) (Or.inl ⟨by rfl,?_⟩) (by assumption) ?_
 rotate_left
 ·intro w hSw;(try dsimp only at hSw);first | (go_simp;done) | (go_simp;with_reducible rfl)
 simp only[Act.put,lay9]
 refine wpAnyH_take (i:=3) (v:=?_) rfl (by kernel_rfl) (by kernel_rfl) (by kernel_rfl) (fun _ _ _ h=>h) (Or.inl ⟨by rfl,?_⟩) (by assumption) ?_
 rotate_left
 ·intro w hSw;(try dsimp only at hSw);first | (go_simp;done) | (go_simp;with_reducible rfl)
 simp only[Act.put,lay9]
 refine wpAnyH_take (i:=5) (v:=.agg CW.toArray) rfl (by kernel_rfl) (by kernel_rfl) (by kernel_rfl) (fun _ _ _ h=>h) (yieldsIf_load_mid (by rfl) 81 (.tmp 10) rfl bk 0 rfl CW _ (fun w h=>h) Tryz.underlying81 rfl HSW.out) (by assumption) ?_
 simp only[Act.put,lay9]
 refine wpAnyH_ready (rs:=[4,6]) (by kernel_rfl) (by simp) ?_
 refine AllReadyH.cons rfl (fun K hK=>?_) (AllReadyH.cons rfl (fun K hK=>?_) AllReadyH.nil)
 ·have c2d:w3.drew.cell? ⟨a,2,none⟩=some (.slice fp3 R.burnt.L.length fc3):=c2
  go_simp
  refine hK.out _ _ (HRW.out _ H3.out) (fun hHeld=>?_)
  clear hK K c2d
  refine wpAnyH_ready (rs:=[6]) (by kernel_rfl) (by simp) ?_
  refine AllReadyH.cons rfl (fun K hK=>?_) AllReadyH.nil
  refine step_buildSlice_wr (by rfl) (.tmp 52) (by rfl) (by rfl) (by rw[HCW.out]) HLK.out.1 HBL.out.1 ?_
  refine hK.out _ _ (HRW.out _ (heap_old _ _ H3.out)) (fun hHeld=>?_)
  clear hK K
  simp only[Act.put,lay9]
  refine wpAnyH_ready (rs:=[7]) (by kernel_rfl) (by simp) ?_
  refine AllReadyH.cons rfl (fun K hK=>?_) AllReadyH.nil
  refine step_append_wr (by rfl) _ _ (by rfl) (.slice fp3 R.burnt.L.length fc3) (g:=w3.heap.size) (l:=⟨d,k,was,b⟩) (by rfl) (by rfl) (HFl.out.alloc _) (by rw[<- HCW.out];exact heap_alloc_new w3 _) HLK.out.1 HBL.out.1 hL ?_
  intro g5 cap5 w5 o5 gr5 hw5
  obtain⟨hb5,c5,f5,hb6,hfin⟩:=FIN.out g5 cap5 w5 o5 ⟨gr5.os,gr5.tape,gr5.output,gr5.size,gr5.block⟩ hw5
  have H6:Hid ((w5.setCell ⟨a,2,none⟩ (.slice (some ⟨g5,0,none⟩) (R.burnt.L.length+1) cap5)).heap[bk]?=some (.cells CW.toArray 81 (0,0))):=hb6
  have HFIN:Hid (∃ F',Is F' (w5.setCell ⟨a,2,none⟩ (.slice (some ⟨g5,0,none⟩) (R.burnt.L.length+1) cap5)) a (R.burnt.fly d k b)/\Step F w F' (w5.setCell ⟨a,2,none⟩ (.slice (some ⟨g5,0,none⟩) (R.burnt.L.length+1) cap5))):=hfin
  refine hK.out _ _ (HRW.out _ hb5) (fun hHeld=>?_)
  clear hK K o5 gr5 hw5 hb5 hb6 hfin FIN
  simp only[Act.put,lay9]
  refine wpAnyH_take (i:=8) (v:=?_) rfl (by kernel_rfl) (by kernel_rfl) (by kernel_rfl) (fun _ _ _ h=>h) (Or.inl ⟨by rfl,?_⟩) (by assumption) ?_
  rotate_left
  ·intro w hSw;(try dsimp only at hSw);first | (go_simp;done) | (go_simp;with_reducible rfl)
  simp only[Act.put,lay9]
  refine wpAnyH_take (i:=9) (v:=?_) rfl (by kernel_rfl) (by kernel_rfl) (by kernel_rfl) (fun _ _ _ h=>h) (Or.inl ⟨by rfl,?_⟩) (by assumption) ?_
  rotate_left
  ·intro w hSw;(try dsimp only at hSw);first | (go_simp;done) | (go_simp;with_reducible rfl)
  simp only[Act.put,lay9]
  refine wpAnyH_ready (rs:=[10]) (by kernel_rfl) (by simp) ?_
  refine AllReadyH.cons rfl (fun K hK=>?_) AllReadyH.nil
  go_simp
  refine hK.out _ _ (HRW.out _ H6.out) (fun hHeld=>?_)
  clear hK K
  refine wpAnyH_done (by kernel_rfl) ?_ _
  refine NoPanic.normal ?_
  go_wp2
  go_ret
  exact⟨rfl,HFIN.out⟩
 ·refine step_buildSlice_wr (by rfl) (.tmp 52) (by rfl) (by rfl) (by rw[HCW.out]) HLK.out.1 HBL.out.1 ?_
  refine hK.out _ _ (HRW.out _ (heap_old _ _ H3.out)) (fun hHeld=>?_)
  clear hK K
  refine wpAnyH_ready (rs:=[4]) (by kernel_rfl) (by simp) ?_
  refine AllReadyH.cons rfl (fun K hK=>?_) AllReadyH.nil
  go_simp
  refine hK.out _ _ (HRW.out _ (heap_old _ _ H3.out)) (fun hHeld=>?_)
  clear hK K
  try simp only[Act.put,lay9]
  refine wpAnyH_ready (rs:=[7]) (by kernel_rfl) (by simp) ?_
  refine AllReadyH.cons rfl (fun K hK=>?_) AllReadyH.nil
  refine step_append_wr (by rfl) _ _ (by rfl) (.slice fp3 R.burnt.L.length fc3) (g:=w3.heap.size) (l:=⟨d,k,was,b⟩) (by rfl) (by rfl) (HFl.out.alloc _) (by rw[<- HCW.out];exact heap_alloc_new w3 _) HLK.out.1 HBL.out.1 hL ?_
  intro g5 cap5 w5 o5 gr5 hw5
  obtain⟨hb5,c5,f5,hb6,hfin⟩:=FIN.out g5 cap5 w5 o5 ⟨gr5.os,gr5.tape,gr5.output,gr5.size,gr5.block⟩ hw5
  have H6:Hid ((w5.setCell ⟨a,2,none⟩ (.slice (some ⟨g5,0,none⟩) (R.burnt.L.length+1) cap5)).heap[bk]?=some (.cells CW.toArray 81 (0,0))):=hb6
  have HFIN:Hid (∃ F',Is F' (w5.setCell ⟨a,2,none⟩ (.slice (some ⟨g5,0,none⟩) (R.burnt.L.length+1) cap5)) a (R.burnt.fly d k b)/\Step F w F' (w5.setCell ⟨a,2,none⟩ (.slice (some ⟨g5,0,none⟩) (R.burnt.L.length+1) cap5))):=hfin
  refine hK.out _ _ (HRW.out _ hb5) (fun hHeld=>?_)
  clear hK K o5 gr5 hw5 hb5 hb6 hfin FIN
  simp only[Act.put,lay9]
  refine wpAnyH_take (i:=8) (v:=?_) rfl (by kernel_rfl) (by kernel_rfl) (by kernel_rfl) (fun _ _ _ h=>h) (Or.inl ⟨by rfl,?_⟩) (by assumption) ?_
  rotate_left
  ·intro w hSw;(try dsimp only at hSw);first | (go_simp;done) | (go_simp;with_reducible rfl)
  simp only[Act.put,lay9]
  refine wpAnyH_take (i:=9) (v:=?_) rfl (by kernel_rfl) (by kernel_rfl) (by kernel_rfl) (fun _ _ _ h=>h) (Or.inl ⟨by rfl,?_⟩) (by assumption) ?_
  rotate_left
  ·intro w hSw;(try dsimp only at hSw);first | (go_simp;done) | (go_simp;with_reducible rfl)
  simp only[Act.put,lay9]
  refine wpAnyH_ready (rs:=[10]) (by kernel_rfl) (by simp) ?_
  refine AllReadyH.cons rfl (fun K hK=>?_) AllReadyH.nil
  go_simp
  refine hK.out _ _ (HRW.out _ H6.out) (fun hHeld=>?_)
  clear hK K
  refine wpAnyH_done (by kernel_rfl) ?_ _
  refine NoPanic.normal ?_
  go_wp2
  go_ret
  exact⟨rfl,HFIN.out⟩
end
section
variable {F:Nat->Prop} {w:World} {a:Nat} {R:AM.Raw}
theorem write_no (h:Is F w a R) {d k:Int} {v:Value} (hr:R.reach d k ≠ 0):Calls Tryz.prog 72 #[ptr a,.int .i64 d,.int .i64 k,v] w fun e w'=>e=.returned (.int .i64 (R.reach d k:Int))/\w'=w:=by
 have HC:Hid (Calls Tryz.prog 88 #[ptr a,.int .i64 d,.int .i64 k] w fun e w'=>e=.returned (.int .i64 (R.reach d k:Int))/\w'=w):=reach_yes h d k
 have hne:¬ (R.reach d k:Int)=0:=by omega
 clear h hr
 generalize (R.reach d k:Int)=z at *
 go_enter Tryz.func72,Tryz.ntmps72
 go_wp2_with (go_at_call 88;refine HC.out.mono ?_;rintro e w1 ⟨rfl,hw⟩;obtain rfl:=hw.symm;clear hw)
 go_ret
 exact⟨rfl,rfl⟩
theorem write_arg (h:Is F w a R) {d k:Int} {v:Value} {b:List Nat} (hr:R.reach d k=0) (hv:Vec w v b) (hb:b.length ≠ 64):Calls Tryz.prog 72 #[ptr a,.int .i64 d,.int .i64 k,v] w fun e w'=>e=.returned (.int .i64 1)/\w'=w:=by
 have HC:Hid (Calls Tryz.prog 88 #[ptr a,.int .i64 d,.int .i64 k] w fun e w'=>e=.returned (.int .i64 0)/\w'=w):=by have:=reach_yes h d k;rw[hr] at this;exact this
 obtain⟨p,n,cap,rfl,hn⟩:=hv.opened
 have hne:¬ (n:Int)=64:=by omega
 clear h hr hv hb hn
 go_enter Tryz.func72,Tryz.ntmps72
 go_wp2_with (go_at_call 88;refine HC.out.mono ?_;rintro e w1 ⟨rfl,hw⟩;obtain rfl:=hw.symm;clear hw)
 go_ret
 exact⟨rfl,rfl⟩
theorem write_off (h:Is F w a R) {d k:Int} {v:Value} {b:List Nat} (hr:R.reach d k=0) (hv:Vec w v b) (hb:b.length=64) (hbu:R.burns=true):Calls Tryz.prog 72 #[ptr a,.int .i64 d,.int .i64 k,v] w fun e w'=>e=.returned (.int .i64 8)/\Is F w' a R.burnt/\Step F w F w':=by
 have HC:Hid (Calls Tryz.prog 88 #[ptr a,.int .i64 d,.int .i64 k] w fun e w'=>e=.returned (.int .i64 0)/\w'=w):=by have:=reach_yes h d k;rw[hr] at this;exact this
 have HB:Hid (Calls Tryz.prog 37 #[ptr a] w fun e w'=>e=.returned (.bool true)/\Is F w' a R.burnt/\Step F w F w'):=by have:=burns_yes h (AM.reach_zero hr).1;rw[hbu] at this;exact this
 obtain⟨p,n,cap,rfl,hn⟩:=hv.opened
 obtain rfl:n=64:=by omega
 clear h hr hv hb hn hbu
 go_enter Tryz.func72,Tryz.ntmps72
 go_wp2_with (first
  | (go_at_call 88;refine HC.out.mono ?_;rintro e w1 ⟨rfl,hw⟩;obtain rfl:=hw.symm;clear hw)
  | (go_at_call 37;refine HB.out.mono ?_;rintro e w1 ⟨rfl,hi1,hs1⟩;have HI1:Hid (Is F w1 a R.burnt/\Step F w F w1):=⟨hi1,hs1⟩;clear hi1 hs1))
 go_ret
 exact⟨rfl,HI1.out⟩
theorem write_any (h:Is F w a R) (d k:Int) {v:Value} {b:List Nat} (hv:Vec w v b) (hvF:b ≠ []->∀ g,v.ownBlock=some g->¬ F g) (hL:R.L.length<=1000000) :
 Calls Tryz.prog 72 #[ptr a,.int .i64 d,.int .i64 k,v] w fun e w'=>e=.returned (.int .i64 ((R.writes d k b).1:Int))/\∃ F',Is F' w' a (R.writes d k b).2/\Step F w F' w':=by
 by_cases hr:R.reach d k=0
 ·by_cases hb:b.length=64
  ·cases hbu:R.burns with
   | true =>
     refine (write_off h hr hv hb hbu).mono ?_
     rintro e w' ⟨rfl,h1,h2⟩
     simp only[AM.Raw.writes,hr,hb,hbu]
     exact⟨rfl,F,h1,h2⟩
   | false =>
     obtain⟨_,d1,_,k1,_,_⟩:=AM.reach_zero hr
     obtain⟨D,rfl⟩:∃ D:Nat,d=(D:Int):=⟨d.toNat,by omega⟩
     obtain⟨K,rfl⟩:∃ K:Nat,k=(K:Int):=⟨k.toNat,by omega⟩
     refine (write_fly h hr hv hvF hb hbu hL).mono ?_
     rintro e w' ⟨rfl,F',h1,h2⟩
     simp only[AM.Raw.writes,hr,hb,hbu]
     exact⟨rfl,F',h1,h2⟩
  ·refine (write_arg h hr hv hb).mono ?_
   rintro e w' ⟨rfl,rfl⟩
   simp only[AM.Raw.writes,hr]
   rw[if_neg (by simp),if_pos hb]
   exact⟨rfl,F,h,Step.refl F w'⟩
 ·refine (write_no h hr).mono ?_
  rintro e w' ⟨rfl,rfl⟩
  simp only[AM.Raw.writes,if_pos hr]
  exact⟨trivial,F,h,Step.refl F w'⟩
theorem zeroSec:(Tryz.prog.info? 79).map (fun i=>(i.zero,i.size,i.bytes))=some (some (.agg (rowOf (AM.zs 64))),64,64):=by kernel_rfl
theorem made_rowOf (n:Nat):madeCells (rowOf (AM.zs 64)) (n * 64)=rowOf (AM.zs (n * 64)):=by
 apply Array.ext_getElem?
 intro i
 by_cases hi:i < n * 64
 ·rw[rowOf_get _ (by rw[AM.zs_len];exact hi)]
  have hm:i % 64 < 64:=Nat.mod_lt _ (by decide)
  have hz:(rowOf (AM.zs 64))[i % 64]! = .int .u8 0:=by
   have h1:=rowOf_get (AM.zs 64) (i:=i % 64) (by rw[AM.zs_len];exact hm)
   have h2:(AM.zs 64).getD (i % 64) 0=0:=by
    have:∀ j,j < 64->(AM.zs 64).getD j 0=0:=fun j hj=>by unfold AM.zs;rw[List.getD,List.getElem?_replicate,if_pos hj];rfl
    exact this _ hm
   rw[h2] at h1
   rw[getElem!_def,h1]
   rfl
  have hd:(AM.zs (n * 64)).getD i 0=0:=by simp[AM.zs,List.getD,hi]
  simp only[madeCells,rowOf_size,AM.zs_len,Array.getElem?_map,hd]
  rw[Array.getElem?_range,if_pos hi]
  simp[hz]
 ·rw[Array.getElem?_eq_none (by simp[madeCells];omega),Array.getElem?_eq_none (by rw[rowOf_size,AM.zs_len];omega)]
theorem run_make_drv (W:World) {n:Nat} (hn:n<=4096):(Instr.makeSlice 72 (.int .i64 (n:Int)) (.int .i64 (n:Int))).run Tryz.prog W=.ok (.slice (some ⟨W.heap.size,0,none⟩) n n) (W.alloc (.cells (rowOf (AM.zs (n * 64))) 79)):=by
 obtain⟨i,hi,h0,h1,h2⟩:=info_parts zeroSec
 have hr:=run_make (P:=Tryz.prog) W 72 79 i _ Tryz.underlying72 hi h0 .i64 .i64 n n (by omega) (Int.le_refl _) (by rw[h2];omega) (by omega)
 rw[h1] at hr
 simp only[Int.toNat_natCast,Value.cells] at hr
 rw[hr,made_rowOf]
theorem blank_row {W:World} {n:Nat} (hn:n<=4096) {g:Nat} (h:W.heap[g]?=some (.cells (rowOf (AM.zs (n * 64))) 79 (0,0))):W.ownsRow 0 79 64 (.slice (some ⟨g,0,none⟩) n n) n ((AM.zs (n * 64)).map bv):=by
 refine⟨by rw[List.length_map,AM.zs_len],.inr ⟨g,n,_,rfl,Nat.zero_le _,h,Nat.le_refl _,by unfold maxLen;omega,by rw[rowOf_size,AM.zs_len],?_⟩⟩
 rw[List.take_of_length_le (by simp[rowOf,AM.zs_len])]
 simp[rowOf]
set_option maxHeartbeats 800000 in
theorem replace_blank (h:Is F w a R) {d:Nat} (hd:d < R.C.length) (hoff:R.C[d]?=some none):Calls Tryz.prog 14 #[ptr a,.int .i64 (d:Int)] w fun e w'=>e=.returned (.int .i64 0)/\∃ F',Is F' w' a (R.blank d)/\Step F w F' w':=by
 have hfi:R.find (d:Int)=0:=by simp[AM.Raw.find];omega
 have hon:R.on (d:Int)=false:=by simp[AM.Raw.on,List.getD,hoff]
 have HC:Hid (Calls Tryz.prog 30 #[ptr a,.int .i64 (d:Int)] w fun e w'=>e=.returned (.int .i64 0)/\w'=w):=by have:=find_yes h (d:Int);rw[hfi] at this;exact this
 have HO:Hid (Calls Tryz.prog 17 #[ptr a,.int .i64 (d:Int)] w fun e w'=>e=.returned (.bool false)/\w'=w):=by have:=on_yes h (d:Int);rw[hon] at this;exact this
 have hok:=h.ok.blank d
 obtain⟨dg,dv,fp,fc,h⟩:=h
 have hn2:=h.ok.n2
 have hN:=h.ok.d2
 have c0:w.cell? ⟨a,0,none⟩=some (.slice (some ⟨dg,0,none⟩) R.C.length R.C.length):=topCell (j:=0) h.top rfl
 have c1:w.cell? ⟨a,1,none⟩=some (.int .i64 (R.n:Int)):=topCell (j:=1) h.top rfl
 have hdl:d < dv.length:=by rw[h.len];exact hd
 have hdv:dv[d]?=some dv[d]:=List.getElem?_eq_getElem hdl
 have cd:w.cell? ⟨dg,d,none⟩=some dv[d]:=topCell h.dsk (by rw[List.getElem?_toArray];exact hdv)
 have fd:=topFrozen d h.dsk
 obtain⟨N,hNe⟩:∃ N,N=R.C.length:=⟨_,rfl⟩
 obtain⟨M,hMe⟩:∃ M,M=R.n:=⟨_,rfl⟩
 have hmk:∀ W:World,(Instr.makeSlice 72 (.int .i64 (M:Int)) (.int .i64 (M:Int))).run Tryz.prog W=.ok (.slice (some ⟨W.heap.size,0,none⟩) M M) (W.alloc (.cells (rowOf (AM.zs (M * 64))) 79)):=fun W=>run_make_drv W (by rw[hMe];exact hn2)
 have FIN:Hid (∃ F',Is F' ((w.drew.alloc (.cells (rowOf (AM.zs (M * 64))) 79)).setCell ⟨dg,d,none⟩ (.slice (some ⟨w.heap.size,0,none⟩) M M)) a (R.blank d)/\Step F w F' ((w.drew.alloc (.cells (rowOf (AM.zs (M * 64))) 79)).setCell ⟨dg,d,none⟩ (.slice (some ⟨w.heap.size,0,none⟩) M M))):=by
  have g1:w.grownBy (w.drew.alloc (.cells (rowOf (AM.zs (M * 64))) 79)) none:=gb_alloc (gb_drew (World.grownBy.refl w none)) _
  have hrow:(w.drew.alloc (.cells (rowOf (AM.zs (M * 64))) 79)).ownsRow 0 79 64 (.slice (some ⟨w.heap.size,0,none⟩) R.n R.n) R.n ((AM.zs (R.n * 64)).map bv):=by
   rw[hMe]
   exact blank_row hn2 (heap_alloc_new w.drew _)
  have hl:=h.drove (F':=fun i=>F i\/i=w.heap.size) (w1:=w.drew.alloc (.cells (rowOf (AM.zs (M * 64))) 79)) (w':=(w.drew.alloc (.cells (rowOf (AM.zs (M * 64))) 79)).setCell ⟨dg,d,none⟩ (.slice (some ⟨w.heap.size,0,none⟩) R.n R.n)) (fun i h=>.inl h)
   (fun i hi=>by
     rcases hi with hi | rfl
     ·exact Nat.lt_of_lt_of_le (h.lt i hi) g1.size
     ·simp) g1 hd (D:=some (AM.zs (R.n * 64))) (.inr ⟨_,rfl,hrow⟩) (fun g hg=>by
     obtain rfl:w.heap.size=g:=Option.some.inj hg
     exact⟨.inr rfl,fun hf=>Nat.lt_irrefl _ (h.lt _ hf)⟩) hok rfl
  rw[hMe] at hl ⊢
  refine⟨_,hl.is,⟨⟨rfl,rfl,rfl,by simp,fun i hi hn=>?_⟩,fun i hi=>?_⟩⟩
  ·rw[Below.heap_setCell _ _ _ _ (by intro e;rw[e] at hn;exact hn h.Fd)]
   rw[hMe] at g1
   exact g1.block i hi (by simp)
  ·rcases hi with hi | rfl
   ·exact .inl hi
   ·exact .inr (Nat.le_refl _)
 have HNE:Hid (a ≠ dg/\a < w.heap.size):=⟨h.a_dg,h.lt a h.Fa⟩
 rw[<- hNe] at c0 hN hd
 rw[<- hMe] at c1 hn2
 have hdi:(d:Int) < (N:Int):=by omega
 obtain⟨ov,hov⟩:∃ ov,ov=dv[d]:=⟨_,rfl⟩
 rw[<- hov] at cd
 have hlt:dg < w.heap.size:=h.lt dg h.Fd
 have cd1:(w.alloc (.cells (rowOf (AM.zs (M * 64))) 79)).cell? ⟨dg,d,none⟩=some ov:=(World.grownBy_alloc w _ none).cell cd (by simp)
 have fd1:(w.alloc (.cells (rowOf (AM.zs (M * 64))) 79)).frozen? ⟨dg,d,none⟩=false:=by rw[World.frozen?_of_block (w:=w) ((World.grownBy_alloc w _ none).block dg hlt (by simp))];exact fd
 have HS:Hid (w.cell? ⟨a,0,none⟩=some (.slice (some ⟨dg,0,none⟩) N N)/\w.cell? ⟨a,1,none⟩=some (.int .i64 (M:Int))):=⟨c0,c1⟩
 have HK1:Hid ((w.alloc (.cells (rowOf (AM.zs (M * 64))) 79)).cell? ⟨a,0,none⟩=some (.slice (some ⟨dg,0,none⟩) N N)/\(w.alloc (.cells (rowOf (AM.zs (M * 64))) 79)).cell? ⟨a,1,none⟩=some (.int .i64 (M:Int))):=⟨(World.grownBy_alloc w _ none).cell c0 (by simp),(World.grownBy_alloc w _ none).cell c1 (by simp)⟩
 have HK2:Hid (∀ v,((w.alloc (.cells (rowOf (AM.zs (M * 64))) 79)).setCell ⟨dg,d,none⟩ v).cell? ⟨a,0,none⟩=some (.slice (some ⟨dg,0,none⟩) N N)/\((w.alloc (.cells (rowOf (AM.zs (M * 64))) 79)).setCell ⟨dg,d,none⟩ v).cell? ⟨a,1,none⟩=some (.int .i64 (M:Int))):=fun v=>⟨by rw[World.cell?_setCell_far _ _ _ _ (Ne.symm HNE.out.1)];exact HK1.out.1,by rw[World.cell?_setCell_far _ _ _ _ (Ne.symm HNE.out.1)];exact HK1.out.2⟩
 clear h hok hon hfi hoff hdv hov hdl hNe hMe cd fd hlt
 go_enter Tryz.func14,Tryz.ntmps14
 go_wp2_with (first
  | (go_at_call 30;refine HC.out.mono ?_;rintro e w1 ⟨rfl,hw⟩;obtain rfl:=hw.symm;clear hw)
  | (go_at_call 17;refine HO.out.mono ?_;rintro e w1 ⟨rfl,hw⟩;obtain rfl:=hw.symm;clear hw))
 go_region_held3 (fun w'=>w'.cell? ⟨a,0,none⟩=some (.slice (some ⟨dg,0,none⟩) N N)/\w'.cell? ⟨a,1,none⟩=some (.int .i64 (M:Int))) (first | exact HS.out | exact HK1.out | exact HK2.out _) (fail)
 go_wp2
 go_ret
 exact⟨rfl,FIN.out⟩
theorem replace_any (h:Is F w a R) (d:Int):Calls Tryz.prog 14 #[ptr a,.int .i64 d] w fun e w'=>e=.returned (.int .i64 ((R.replace d).1:Int))/\∃ F',Is F' w' a (R.replace d).2/\Step F w F' w':=by
 by_cases hf:R.find d=0
 ·have hb:0<=d/\d < (R.C.length:Int):=by
   refine Classical.byContradiction fun c=>?_
   simp[AM.Raw.find,c] at hf
  cases ho:R.on d with
  | true =>
    have HC:Hid (Calls Tryz.prog 30 #[ptr a,.int .i64 d] w fun e w'=>e=.returned (.int .i64 0)/\w'=w):=by have:=find_yes h d;rw[hf] at this;exact this
    have HO:Hid (Calls Tryz.prog 17 #[ptr a,.int .i64 d] w fun e w'=>e=.returned (.bool true)/\w'=w):=by have:=on_yes h d;rw[ho] at this;exact this
    have HI:Hid (Is F w a R):=h
    have HR:Hid (R.replace d=(1,R)):=by show _=_;simp[AM.Raw.replace,hf,ho]
    clear h hb hf ho
    go_enter Tryz.func14,Tryz.ntmps14
    go_wp2_with (first
     | (go_at_call 30;refine HC.out.mono ?_;rintro e w1 ⟨rfl,hw⟩;obtain rfl:=hw.symm;clear hw)
     | (go_at_call 17;refine HO.out.mono ?_;rintro e w1 ⟨rfl,hw⟩;obtain rfl:=hw.symm;clear hw))
    go_ret
    exact⟨by rw[HR.out];rfl,F,by rw[HR.out];exact HI.out,Step.refl F w⟩
  | false =>
    obtain⟨D,rfl⟩:∃ D:Nat,d=(D:Int):=⟨d.toNat,by omega⟩
    have hlt:D < R.C.length:=by omega
    have hn:R.C[D]?=some none:=by
     rw[List.getElem?_eq_getElem hlt]
     cases hq:R.C[D] with
     | none=>rfl
     | some xs=>simp[AM.Raw.on,List.getD,List.getElem?_eq_getElem hlt,hq] at ho;omega
    refine (replace_blank h hlt hn).mono ?_
    rintro e w' ⟨rfl,h2⟩
    simp only[AM.Raw.replace,hf,ho]
    exact⟨rfl,h2⟩
 ·have HC:Hid (Calls Tryz.prog 30 #[ptr a,.int .i64 d] w fun e w'=>e=.returned (.int .i64 (R.find d:Int))/\w'=w):=find_yes h d
  have hne:¬ (R.find d:Int)=0:=by omega
  have HI:Hid (Is F w a R):=h
  have HR:Hid (R.replace d=(R.find d,R)):=by show _=_;simp[AM.Raw.replace,hf]
  rw[HR.out]
  clear h hf HR
  show Calls Tryz.prog 14 #[ptr a,.int .i64 d] w fun e w'=>e=.returned (.int .i64 (R.find d:Int))/\∃ F',Is F' w' a R/\Step F w F' w'
  generalize (R.find d:Int)=z at *
  go_enter Tryz.func14,Tryz.ntmps14
  go_wp2_with (go_at_call 30;refine HC.out.mono ?_;rintro e w1 ⟨rfl,hw⟩;obtain rfl:=hw.symm;clear hw)
  go_ret
  exact⟨rfl,F,HI.out,Step.refl F w⟩
end
end Go.Proofs.YtlklmhojadlncaaGreat
