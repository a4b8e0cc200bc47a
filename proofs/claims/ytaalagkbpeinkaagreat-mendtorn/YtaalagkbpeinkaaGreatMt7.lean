/- Packed: Write6, Repl6, New6, Base6, SMath, KMath. -/
import Derived.Test.YtaalagkbpeinkaaGreatMt6
import GoSem.Op.String
set_option linter.unusedSimpArgs false
set_option linter.unusedVariables false
set_option maxRecDepth 100000
namespace Go.Proofs.YtaalagkbpeinkaaGreat
open Go.RowKit
section
variable {F:Nat -> Prop} {w:World} {a:Nat} {R:AM.Raw}
theorem wfill (d k:Nat) (was b:List Nat) (hw:was.length = 64) (hb:b.length = 64):((wcells ⟨d,k,was,AM.zs 64⟩).toArray.toList.take 66 ++ b.map bv ++ (wcells ⟨d,k,was,AM.zs 64⟩).toArray.toList.drop (66 + b.length)).toArray = (wcells ⟨d,k,was,b⟩).toArray:=by
 have h1:(was.map bv).length = 64:=by simpa using hw
 have h2:((AM.zs 64).map bv).length = 64:=by rw [List.length_map,AM.zs_len]
 unfold wcells
 simp only [hb]
 generalize was.map bv = A at *
 generalize (AM.zs 64).map bv = Z at *
 congr 1
 simp [h1,h2]
theorem now_vec {w:World} {bk d k:Nat} {was b:List Nat} (h:w.heap[bk]? = some (.cells (wcells ⟨d,k,was,b⟩).toArray 110 (0,0))) (hw:was.length = 64) (hb:b.length = 64) (hs:∀ x ∈ b,x < 256):Vec w (.slice (some ⟨bk,66,none⟩) 64 64) b:=by
 refine ⟨hs,by omega,_,_,by rw [hb],by omega,by decide,fun _=>⟨bk,66,rfl,fun j hj=>?_⟩⟩
 refine topCell h ?_
 rw [List.getElem?_toArray]
 have h1:(was.map bv).length = 64:=by simpa using hw
 have e:66 + j = 2 + (64 + j):=by omega
 rw [e,Nat.add_comm 2]
 unfold wcells
 rw [List.getElem?_cons_succ,List.getElem?_cons_succ]
 show (List.map bv was ++ List.map bv b)[64 + j]? = _
 rw [List.getElem?_append_right (by omega),h1,Nat.add_sub_cancel_left,getD_map_bv b j hj]
set_option maxHeartbeats 1600000 in
set_option maxRecDepth 100000 in
theorem write_fly (h:Is F w a R) {d k:Nat} {v:Value} {b:List Nat} (hr:R.reach d k = 0) (hv:Vec w v b) (hvF:b ≠ [] -> ∀ g,v.ownBlock = some g -> ¬ F g) (hb:b.length = 64) (hbu:R.burns = false) (hL:R.L.length <= 1000000) :
 Calls Tryz.prog 101 #[ptr a,.int .i64 (d:Int),.int .i64 (k:Int),v] w fun e w'=>e = .returned (.int .i64 0) /\ ∃ F',Is F' w' a (R.burnt.fly d k b) /\ Step F w F' w':=by
 have HC:Hid (Calls Tryz.prog 96 #[ptr a,.int .i64 (d:Int),.int .i64 (k:Int)] w fun e w'=>e = .returned (.int .i64 0) /\ w' = w):=by have:=reach_yes h (d:Int) (k:Int);rw [hr] at this;exact this
 obtain ⟨hoff,_,d2,_,k2,xs,hon⟩:=AM.reach_zero hr
 rw [Int.toNat_natCast] at hon
 have HB:Hid (Calls Tryz.prog 62 #[ptr a] w fun e w'=>e = .returned (.bool false) /\ Is F w' a R.burnt /\ Step F w F w'):=by have:=burns_yes h hoff;rw [hbu] at this;exact this
 have eC:R.burnt.C = R.C:=by unfold AM.Raw.burnt;split <;> rfl
 have en:R.burnt.n = R.n:=by unfold AM.Raw.burnt;split <;> rfl
 have eL:R.burnt.L = R.L:=by unfold AM.Raw.burnt;split <;> rfl
 rw [<- eC] at hon d2
 rw [<- en] at k2
 rw [<- eL] at hL
 obtain ⟨p,n,cap,rfl,hn⟩:=hv.opened
 obtain rfl:n = 64:=by omega
 have HV:Hid (∀ w',Upd F w w' -> Vec w' (.slice p 64 cap) b):=fun w' u=>hv.upd u hvF
 have HBL:Hid (b.length = 64 /\ b ≠ [] /\ ∀ x ∈ b,x < 256):=⟨hb,(by intro e;rw [e] at hb;cases hb),hv.small⟩
 clear h hr hv hvF hb hbu eC en eL hoff hn
 go_enter Tryz.func101,Tryz.ntmps101
 go_wp2_with (go_at_call 96;refine HC.out.mono ?_;rintro e w1 ⟨rfl,hw⟩;obtain rfl:=hw.symm;clear hw)
 refine HB.out.mono ?_
 rintro e w1 ⟨rfl,hi1,hs1⟩
 have hok:=hi1.ok
 obtain ⟨dg,dv,fp,fc,h1⟩:=hi1
 obtain ⟨g,c,hdv,cd,hrow,hxl,hxs,ga,gd,hdl⟩:=h1.drive hon
 have c0:w1.cell? ⟨a,0,none⟩ = some (.slice (some ⟨dg,0,none⟩) R.burnt.C.length R.burnt.C.length):=topCell (j:=0) h1.top rfl
 have hN:=hok.d2
 have hn2:=hok.n2
 have hkn:k < R.burnt.n:=by omega
 have hsv:=sector_vec hrow hxs hxl hkn
 rw [<- AM.look_at k hon] at hsv
 have hlk:=AM.look_ok hok.C ⟨xs,hon⟩ hkn
 have HRG:Hid (w1.rangeAt g (k * 64) ((AM.look R.burnt.C d k).map bv)):=fun j u hj=>by
  obtain ⟨x,hx,rfl⟩:=bv_map_get hj
  have hjl:j < (AM.look R.burnt.C d k).length:=(List.getElem?_eq_some_iff.1 hx).1
  obtain ⟨b',o',e',hcell,_⟩:=hsv.spot hjl
  injection e' with e'
  injection e' with e1 e2
  subst e1
  subst e2
  rw [hcell]
  simp [List.getD,hx]
 have HLK:Hid ((AM.look R.burnt.C d k).length = 64 /\ ∀ x ∈ AM.look R.burnt.C d k,x < 256):=hlk
 have HI1:Hid (Is F w1 a R.burnt):=h1.is
 have HS1:Hid (Step F w F w1):=hs1
 have HOK:Hid (R.burnt.Ok):=hok
 have HON:Hid ((∃ xs,R.burnt.C[d]? = some (some xs)) /\ k < R.burnt.n):=⟨⟨xs,hon⟩,hkn⟩
 have zW:=run_zeroW
 obtain ⟨was,hwas⟩:∃ was,was = AM.look R.burnt.C d k:=⟨_,rfl⟩
 rw [<- hwas] at HRG HLK
 have HW:Hid (was = AM.look R.burnt.C d k):=hwas
 obtain ⟨N,hNe⟩:∃ N,N = R.burnt.C.length:=⟨_,rfl⟩
 obtain ⟨M,hMe⟩:∃ M,M = R.burnt.n:=⟨_,rfl⟩
 rw [<- hNe] at c0 hN hdl d2
 rw [<- hMe] at cd hkn hn2 k2
 have hsz1:(Tryz.prog.info? 108).map (·.size) = some (was.map bv).length:=by rw [List.length_map,HLK.out.1];exact Tryz.sizeSec
 have HSZ:Hid ((Tryz.prog.info? 108).map (·.size) = some (was.map bv).length):=hsz1
 obtain ⟨AR,hAR⟩:∃ AR,AR = (wcells ⟨d,k,was,AM.zs 64⟩).toArray:=⟨_,rfl⟩
 have HARL:Hid (AR.size = 130 /\ AR.all (·.oneCell') = true):=by
  rw [hAR]
  exact ⟨by rw [List.size_toArray,wcells_len (by exact HLK.out.1) (AM.zs_len _)],all_oneCell_toArray (wcells_one _)⟩
 have HAR:Hid (AR = (wcells ⟨d,k,was,AM.zs 64⟩).toArray):=hAR
 obtain ⟨ZR,hZR⟩:∃ ZR,ZR = (wcells ⟨0,0,AM.zs 64,AM.zs 64⟩).toArray:=⟨_,rfl⟩
 rw [<- hZR] at zW
 have HINF:Hid ((Tryz.prog.info? 110).map (·.size) = some AR.size):=by rw [HARL.out.1];exact Tryz.sizeWr
 have HZR:Hid (ZR.size = 130):=by show _ = _;rw [hZR,List.size_toArray,wcells_len (AM.zs_len _) (AM.zs_len _)]
 clear hs1 hdv hrow hxl hxs ga gd hsv hlk hok h1 hwas hNe hMe hsz1 hAR hon xs HB HC hZR
 go_wp2_with (first
  | (refine wpList_load_mid rfl 108 (.tmp 33) rfl g (k * 64) rfl (was.map bv) _ HRG.out Tryz.underlying108 rfl HSZ.out ?_)
  | (refine wpList_build_wr rfl (.tmp 23) (.tmp 24) (.tmp 34) rfl rfl rfl rfl HLK.out.1 HAR.out ?_)
  | (refine wpList_store_row rfl 110 (.tmp 10) (.tmp 35) rfl w1.heap.size AR rfl rfl 110 ZR (heap_alloc_new w1 _) HINF.out (by rw [HZR.out,HARL.out.1]) HARL.out.2 ?_;rw [World.setRow_alloc_new];have HBK:Hid ((w1.alloc (.cells AR 110)).heap[w1.heap.size]? = some (.cells AR 110 (0,0)) /\ Step F w F (w1.alloc (.cells AR 110)) /\ Is F (w1.alloc (.cells AR 110)) a R.burnt /\ (∀ i,F i -> i < w1.heap.size) /\ w.heap.size <= w1.heap.size):=⟨heap_alloc_new w1 _,HS1.out.trans (Step.new (World.grownBy_alloc _ _ none)),HI1.out.keep (World.grownBy_alloc _ _ none),HI1.out.lt,HS1.out.upd.size⟩;clear HS1 HI1;generalize w1.alloc (.cells AR 110) = W at *;have HFB:Hid (∀ i,F i -> i < w1.heap.size):=HBK.out.2.2.2.1;generalize w1.heap.size = bk at *)
  | (refine wpList_copy_cells rfl _ _ rfl _ (T:=110) (g:=bk) (f:=66) (cur:=AR) (ys:=b) rfl rfl HBK.out.1 (HV.out _ HBK.out.2.1.upd) HBL.out.2.1 (by rw [HBL.out.1];exact Nat.le_refl _) (by rw [HBL.out.1,HARL.out.1];exact Nat.le_refl _) ?_;intro w2 h2 g2;rw [HAR.out,wfill d k was b HLK.out.1 HBL.out.1] at h2;have H2:Hid (w2.heap[bk]? = some (.cells (wcells ⟨d,k,was,b⟩).toArray 110 (0,0))):=h2;have e0:w2.cell? ⟨bk,0,none⟩ = some (.int .i64 (d:Int)):=topCell h2 rfl;have e1:w2.cell? ⟨bk,1,none⟩ = some (.int .i64 (k:Int)):=topCell h2 rfl;have HI2:Hid (Is F w2 a R.burnt /\ Step F w F w2):=⟨HBK.out.2.2.1.apart g2 (fun hf=>Nat.lt_irrefl _ (HBK.out.2.2.2.1 _ hf)),HBK.out.2.1.fresh g2 HBK.out.2.2.2.2⟩;have HV2:Hid (Vec w2 (.slice (some ⟨bk,66,none⟩) 64 64) b):=now_vec h2 HLK.out.1 HBL.out.1 HBL.out.2.2;clear h2 g2 HBK)
  | (go_at_call 79;refine (lay_yes HI2.out.1 HON.out.1 HON.out.2 HV2.out HBL.out.1).mono ?_;rintro e w3 ⟨rfl,hi3,hs3,g3,c3,hg3,ht3⟩;have H3:Hid (w3.heap[bk]? = some (.cells (wcells ⟨d,k,was,b⟩).toArray 110 (0,0))):=(hg3.block bk (Array.getElem?_eq_some_iff.1 H2.out).1 (fun e=>ne_ty H2.out ht3 (by decide) (Option.some.inj e))).trans H2.out;have HI3:Hid (Is F w3 a (R.burnt.lay d k b)):=hi3;have HS3:Hid (Step F w F w3):=HI2.out.2.trans hs3;clear hi3 hs3 hg3 ht3 H2 HI2 HV2)
  | fail)
 obtain ⟨dg3,dv3,fp3,fc3,h3⟩:=HI3.out
 have HL3:Hid (Lies F w3 a dg3 dv3 fp3 fc3 (R.burnt.lay d k b)):=h3
 have HT:Hid (w3.heap[a]? = some (.cells #[.slice (some ⟨dg3,0,none⟩) (R.burnt.lay d k b).C.length (R.burnt.lay d k b).C.length,.int .i64 ((R.burnt.lay d k b).n:Int),.slice fp3 R.burnt.L.length fc3,.int .i64 ((R.burnt.lay d k b).fuse:Int),.bool (R.burnt.lay d k b).off] 103 (0,0))):=h3.top
 have HFl:Hid (w3.ownsRow 0 110 130 (.slice fp3 R.burnt.L.length fc3) R.burnt.L.length (wrow R.burnt.L)):=h3.fly
 have c2:w3.cell? ⟨a,2,none⟩ = some (.slice fp3 R.burnt.L.length fc3):=topCell (j:=2) h3.top rfl
 have HLW:Hid ((wcells ⟨d,k,was,b⟩).length = 130):=wcells_len HLK.out.1 HBL.out.1
 obtain ⟨CW,hCW⟩:∃ CW,CW = wcells ⟨d,k,was,b⟩:=⟨_,rfl⟩
 have HCW:Hid (CW = wcells ⟨d,k,was,b⟩):=hCW
 rw [<- hCW] at H3 HLW
 have HRW:Hid (∀ W:World,W.heap[bk]? = some (.cells CW.toArray 110 (0,0)) -> W.rangeAt bk 0 CW):=fun W hW j u hj=>by rw [Nat.zero_add];exact topCell hW (by rw [List.getElem?_toArray];exact hj)
 have HSW:Hid ((Tryz.prog.info? 110).map (·.size) = some CW.length):=by rw [HLW.out];exact Tryz.sizeWr
 have HFn:Hid (∀ i,(Value.slice fp3 R.burnt.L.length fc3).ownBlock = some i -> F i /\ i ≠ a):=fun i hi=>⟨h3.Ff i hi,fun e=>by
  obtain ⟨cc,hcc⟩:=rowBlock h3.fly hi
  exact ne_ty hcc h3.top (by decide) e⟩
 have HFa:Hid (F a):=h3.Fa
 have c2a:(w3.alloc (.cells CW.toArray 110)).cell? ⟨a,2,none⟩ = some (.slice fp3 R.burnt.L.length fc3):=(World.grownBy_alloc w3 _ none).cell c2 (by simp)
 have FIN:Hid (∀ g5 cap5 w5,w5.ownsRow 0 110 130 (.slice (some ⟨g5,0,none⟩) (R.burnt.L.length + 1) cap5) (R.burnt.L.length + 1) (wrow R.burnt.L ++ wcells ⟨d,k,was,b⟩) -> (w3.alloc (.cells CW.toArray 110)).grownBy w5 (Value.slice fp3 R.burnt.L.length fc3).ownBlock -> ((Value.slice fp3 R.burnt.L.length fc3).ownBlock = some g5 \/ g5 = (w3.alloc (.cells CW.toArray 110)).heap.size) ->
  w5.heap[bk]? = some (.cells CW.toArray 110 (0,0)) /\ w5.cell? ⟨a,2,none⟩ = some (.slice fp3 R.burnt.L.length fc3) /\ w5.frozen? ⟨a,2,none⟩ = false /\ (w5.setCell ⟨a,2,none⟩ (.slice (some ⟨g5,0,none⟩) (R.burnt.L.length + 1) cap5)).heap[bk]? = some (.cells CW.toArray 110 (0,0)) /\
   ∃ F',Is F' (w5.setCell ⟨a,2,none⟩ (.slice (some ⟨g5,0,none⟩) (R.burnt.L.length + 1) cap5)) a (R.burnt.fly d k b) /\ Step F w F' (w5.setCell ⟨a,2,none⟩ (.slice (some ⟨g5,0,none⟩) (R.burnt.L.length + 1) cap5))):=by
  intro g5 cap5 w5 o5 gr5 hw5
  have gA:w3.grownBy (w3.alloc (.cells CW.toArray 110)) none:=World.grownBy_alloc _ _ none
  have g35:w3.grownBy w5 (Value.slice fp3 R.burnt.L.length fc3).ownBlock:=grown_trans (grown_any gA _) gr5
  have hbk:w5.heap[bk]? = some (.cells CW.toArray 110 (0,0)):=(g35.block bk (Array.getElem?_eq_some_iff.1 H3.out).1 (fun e=>by have:=HFB.out _ (HFn.out bk e.symm).1;omega)).trans H3.out
  have ha5:w5.heap[a]? = w3.heap[a]?:=g35.block a (h3.lt a h3.Fa) (fun e=>(HFn.out a e.symm).2 rfl)
  have hab:a < bk:=HFB.out a HFa.out
  have hlt5:g5 < w5.heap.size:=by
   obtain ⟨cc,hcc⟩:=rowBlock o5 (g:=g5) rfl
   exact (Array.getElem?_eq_some_iff.1 hcc).1
  have hokw:(R.burnt.fly d k b).Ok:=h3.ok |> fun _=>AM.Raw.Ok.fly HOK.out HON.out.1 HON.out.2 HBL.out.1 HBL.out.2.2
  have hLies:=h3.flown (F':=fun i=>F i \/ i = g5) (w1:=w5) (w':=w5.setCell ⟨a,2,none⟩ (.slice (some ⟨g5,0,none⟩) (R.burnt.L.length + 1) cap5)) (fun i h=>.inl h)
   (fun i h=>by rcases h with h | rfl;exact Nat.lt_of_lt_of_le (h3.lt i h) g35.size;exact hlt5) g35 (L':=R.burnt.L ++ [⟨d,k,was,b⟩]) (fp':=some ⟨g5,0,none⟩) (fc':=cap5)
   (by rw [List.length_append];simpa [wrow] using o5) (fun i h=>.inr (Option.some.inj h).symm) (fun l hl=>by rw [HW.out] at hl;exact hokw.L l hl) (by rw [List.length_append];rfl)
  refine ⟨hbk,?_,?_,?_,fun i=>F i \/ i = g5,?_,HS3.out.trans ⟨⟨?_,?_,?_,?_,?_⟩,?_⟩⟩
  ·exact topCell (j:=2) (ha5.trans h3.top) rfl
  ·exact topFrozen 2 (ha5.trans h3.top)
  ·rw [Below.heap_setCell _ _ _ _ (by show bk ≠ a;omega)];exact hbk
  ·have e:R.burnt.fly d k b = { R.burnt.lay d k b with L:=R.burnt.L ++ [⟨d,k,was,b⟩] }:=by rw [HW.out];rfl
   rw [e]
   exact hLies.is
  ·exact g35.os
  ·exact g35.tape
  ·exact g35.output
  ·have:=g35.size;simpa using this
  ·intro i hi hn
   rw [Below.heap_setCell _ _ _ _ (by intro e;rw [e] at hn;exact hn HFa.out)]
   exact g35.block i hi (fun e=>hn (HFn.out i e.symm).1)
  ·intro i hi
   rcases hi with h | rfl
   ·exact .inl h
   ·rcases hw5 with h | h
    ·exact .inl (HFn.out _ h).1
    ·exact .inr (by rw [h];simp)
 clear hCW h3 HI3
 go_wp2_with fail
 refine wp_region_noPanic ?_
 refine wp_region_held_drew (S:=fun w'=>w'.rangeAt bk 0 CW) (by kernel_rfl) ?_ (fun hHeld=>?_)
 ·exact HRW.out _ H3.out
 refine wpAnyH_take (i:=0) (v:=?_) rfl (by kernel_rfl) (by kernel_rfl) (by kernel_rfl) (fun _ _ _ h=>h) (Or.inl ⟨by rfl,?_⟩) (by assumption) ?_
 rotate_left
 ·intro w hSw;(try dsimp only at hSw);first | (go_simp;done) | (go_simp;with_reducible rfl)
 simp only [Act.put,lay9]
 refine wpAnyH_take (i:=1) (v:=?_) rfl (by kernel_rfl) (by kernel_rfl) (by kernel_rfl) (fun _ _ _ h=>h) (Or.inl ⟨by rfl,?_⟩) (by assumption) ?_
 rotate_left
 ·intro w hSw;(try dsimp only at hSw);first | (go_simp;done) | (go_simp;with_reducible rfl)
 simp only [Act.put,lay9]
 refine wpAnyH_take (i:=2) (v:=?_) rfl (by kernel_rfl) (by kernel_rfl) (by kernel_rfl) (fun _ _ _ h=>h) (Or.inl ⟨by rfl,?_⟩) (by assumption) ?_
 rotate_left
 ·intro w hSw;(try dsimp only at hSw);first | (go_simp;done) | (go_simp;with_reducible rfl)
 simp only [Act.put,lay9]
 refine wpAnyH_take (i:=3) (v:=?_) rfl (by kernel_rfl) (by kernel_rfl) (by kernel_rfl) (fun _ _ _ h=>h) (Or.inl ⟨by rfl,?_⟩) (by assumption) ?_
 rotate_left
 ·intro w hSw;(try dsimp only at hSw);first | (go_simp;done) | (go_simp;with_reducible rfl)
 simp only [Act.put,lay9]
 refine wpAnyH_take (i:=5) (v:=.agg CW.toArray) rfl (by kernel_rfl) (by kernel_rfl) (by kernel_rfl) (fun _ _ _ h=>h) (yieldsIf_load_mid (by rfl) 110 (.tmp 10) rfl bk 0 rfl CW _ (fun w h=>h) Tryz.underlying110 rfl HSW.out) (by assumption) ?_
 simp only [Act.put,lay9]
 refine wpAnyH_ready (rs:=[4,6]) (by kernel_rfl) (by simp) ?_
 refine AllReadyH.cons rfl (fun K hK=>?_) (AllReadyH.cons rfl (fun K hK=>?_) AllReadyH.nil)
 ·have c2d:w3.drew.cell? ⟨a,2,none⟩ = some (.slice fp3 R.burnt.L.length fc3):=c2
  go_simp
  refine hK.out _ _ (HRW.out _ H3.out) (fun hHeld=>?_)
  clear hK K c2d
  refine wpAnyH_ready (rs:=[6]) (by kernel_rfl) (by simp) ?_
  refine AllReadyH.cons rfl (fun K hK=>?_) AllReadyH.nil
  refine step_buildSlice_wr (by rfl) (.tmp 52) (by rfl) (by rfl) (by rw [HCW.out]) HLK.out.1 HBL.out.1 ?_
  refine hK.out _ _ (HRW.out _ (heap_old _ _ H3.out)) (fun hHeld=>?_)
  clear hK K
  simp only [Act.put,lay9]
  refine wpAnyH_ready (rs:=[7]) (by kernel_rfl) (by simp) ?_
  refine AllReadyH.cons rfl (fun K hK=>?_) AllReadyH.nil
  refine step_append_wr (by rfl) _ _ (by rfl) (.slice fp3 R.burnt.L.length fc3) (g:=w3.heap.size) (l:=⟨d,k,was,b⟩) (by rfl) (by rfl) (HFl.out.alloc _) (by rw [<- HCW.out];exact heap_alloc_new w3 _) HLK.out.1 HBL.out.1 hL ?_
  intro g5 cap5 w5 o5 gr5 hw5
  obtain ⟨hb5,c5,f5,hb6,hfin⟩:=FIN.out g5 cap5 w5 o5 ⟨gr5.os,gr5.tape,gr5.output,gr5.size,gr5.block⟩ hw5
  have H6:Hid ((w5.setCell ⟨a,2,none⟩ (.slice (some ⟨g5,0,none⟩) (R.burnt.L.length + 1) cap5)).heap[bk]? = some (.cells CW.toArray 110 (0,0))):=hb6
  have HFIN:Hid (∃ F',Is F' (w5.setCell ⟨a,2,none⟩ (.slice (some ⟨g5,0,none⟩) (R.burnt.L.length + 1) cap5)) a (R.burnt.fly d k b) /\ Step F w F' (w5.setCell ⟨a,2,none⟩ (.slice (some ⟨g5,0,none⟩) (R.burnt.L.length + 1) cap5))):=hfin
  refine hK.out _ _ (HRW.out _ hb5) (fun hHeld=>?_)
  clear hK K o5 gr5 hw5 hb5 hb6 hfin FIN
  simp only [Act.put,lay9]
  refine wpAnyH_take (i:=8) (v:=?_) rfl (by kernel_rfl) (by kernel_rfl) (by kernel_rfl) (fun _ _ _ h=>h) (Or.inl ⟨by rfl,?_⟩) (by assumption) ?_
  rotate_left
  ·intro w hSw;(try dsimp only at hSw);first | (go_simp;done) | (go_simp;with_reducible rfl)
  simp only [Act.put,lay9]
  refine wpAnyH_take (i:=9) (v:=?_) rfl (by kernel_rfl) (by kernel_rfl) (by kernel_rfl) (fun _ _ _ h=>h) (Or.inl ⟨by rfl,?_⟩) (by assumption) ?_
  rotate_left
  ·intro w hSw;(try dsimp only at hSw);first | (go_simp;done) | (go_simp;with_reducible rfl)
  simp only [Act.put,lay9]
  refine wpAnyH_ready (rs:=[10]) (by kernel_rfl) (by simp) ?_
  refine AllReadyH.cons rfl (fun K hK=>?_) AllReadyH.nil
  go_simp
  refine hK.out _ _ (HRW.out _ H6.out) (fun hHeld=>?_)
  clear hK K
  refine wpAnyH_done (by kernel_rfl) ?_ _
  refine NoPanic.normal ?_
  go_wp2
  go_ret
  exact ⟨rfl,HFIN.out⟩
 ·refine step_buildSlice_wr (by rfl) (.tmp 52) (by rfl) (by rfl) (by rw [HCW.out]) HLK.out.1 HBL.out.1 ?_
  refine hK.out _ _ (HRW.out _ (heap_old _ _ H3.out)) (fun hHeld=>?_)
  clear hK K
  refine wpAnyH_ready (rs:=[4]) (by kernel_rfl) (by simp) ?_
  refine AllReadyH.cons rfl (fun K hK=>?_) AllReadyH.nil
  go_simp
  refine hK.out _ _ (HRW.out _ (heap_old _ _ H3.out)) (fun hHeld=>?_)
  clear hK K
  try simp only [Act.put,lay9]
  refine wpAnyH_ready (rs:=[7]) (by kernel_rfl) (by simp) ?_
  refine AllReadyH.cons rfl (fun K hK=>?_) AllReadyH.nil
  refine step_append_wr (by rfl) _ _ (by rfl) (.slice fp3 R.burnt.L.length fc3) (g:=w3.heap.size) (l:=⟨d,k,was,b⟩) (by rfl) (by rfl) (HFl.out.alloc _) (by rw [<- HCW.out];exact heap_alloc_new w3 _) HLK.out.1 HBL.out.1 hL ?_
  intro g5 cap5 w5 o5 gr5 hw5
  obtain ⟨hb5,c5,f5,hb6,hfin⟩:=FIN.out g5 cap5 w5 o5 ⟨gr5.os,gr5.tape,gr5.output,gr5.size,gr5.block⟩ hw5
  have H6:Hid ((w5.setCell ⟨a,2,none⟩ (.slice (some ⟨g5,0,none⟩) (R.burnt.L.length + 1) cap5)).heap[bk]? = some (.cells CW.toArray 110 (0,0))):=hb6
  have HFIN:Hid (∃ F',Is F' (w5.setCell ⟨a,2,none⟩ (.slice (some ⟨g5,0,none⟩) (R.burnt.L.length + 1) cap5)) a (R.burnt.fly d k b) /\ Step F w F' (w5.setCell ⟨a,2,none⟩ (.slice (some ⟨g5,0,none⟩) (R.burnt.L.length + 1) cap5))):=hfin
  refine hK.out _ _ (HRW.out _ hb5) (fun hHeld=>?_)
  clear hK K o5 gr5 hw5 hb5 hb6 hfin FIN
  simp only [Act.put,lay9]
  refine wpAnyH_take (i:=8) (v:=?_) rfl (by kernel_rfl) (by kernel_rfl) (by kernel_rfl) (fun _ _ _ h=>h) (Or.inl ⟨by rfl,?_⟩) (by assumption) ?_
  rotate_left
  ·intro w hSw;(try dsimp only at hSw);first | (go_simp;done) | (go_simp;with_reducible rfl)
  simp only [Act.put,lay9]
  refine wpAnyH_take (i:=9) (v:=?_) rfl (by kernel_rfl) (by kernel_rfl) (by kernel_rfl) (fun _ _ _ h=>h) (Or.inl ⟨by rfl,?_⟩) (by assumption) ?_
  rotate_left
  ·intro w hSw;(try dsimp only at hSw);first | (go_simp;done) | (go_simp;with_reducible rfl)
  simp only [Act.put,lay9]
  refine wpAnyH_ready (rs:=[10]) (by kernel_rfl) (by simp) ?_
  refine AllReadyH.cons rfl (fun K hK=>?_) AllReadyH.nil
  go_simp
  refine hK.out _ _ (HRW.out _ H6.out) (fun hHeld=>?_)
  clear hK K
  refine wpAnyH_done (by kernel_rfl) ?_ _
  refine NoPanic.normal ?_
  go_wp2
  go_ret
  exact ⟨rfl,HFIN.out⟩
end
section
variable {F:Nat -> Prop} {w:World} {a:Nat} {R:AM.Raw}
theorem write_no (h:Is F w a R) {d k:Int} {v:Value} (hr:R.reach d k ≠ 0):Calls Tryz.prog 101 #[ptr a,.int .i64 d,.int .i64 k,v] w fun e w'=>e = .returned (.int .i64 (R.reach d k:Int)) /\ w' = w:=by
 have HC:Hid (Calls Tryz.prog 96 #[ptr a,.int .i64 d,.int .i64 k] w fun e w'=>e = .returned (.int .i64 (R.reach d k:Int)) /\ w' = w):=reach_yes h d k
 have hne:¬ (R.reach d k:Int) = 0:=by omega
 clear h hr
 generalize (R.reach d k:Int) = z at *
 go_enter Tryz.func101,Tryz.ntmps101
 go_wp2_with (go_at_call 96;refine HC.out.mono ?_;rintro e w1 ⟨rfl,hw⟩;obtain rfl:=hw.symm;clear hw)
 go_ret
 exact ⟨rfl,rfl⟩
theorem write_arg (h:Is F w a R) {d k:Int} {v:Value} {b:List Nat} (hr:R.reach d k = 0) (hv:Vec w v b) (hb:b.length ≠ 64):Calls Tryz.prog 101 #[ptr a,.int .i64 d,.int .i64 k,v] w fun e w'=>e = .returned (.int .i64 1) /\ w' = w:=by
 have HC:Hid (Calls Tryz.prog 96 #[ptr a,.int .i64 d,.int .i64 k] w fun e w'=>e = .returned (.int .i64 0) /\ w' = w):=by have:=reach_yes h d k;rw [hr] at this;exact this
 obtain ⟨p,n,cap,rfl,hn⟩:=hv.opened
 have hne:¬ (n:Int) = 64:=by omega
 clear h hr hv hb hn
 go_enter Tryz.func101,Tryz.ntmps101
 go_wp2_with (go_at_call 96;refine HC.out.mono ?_;rintro e w1 ⟨rfl,hw⟩;obtain rfl:=hw.symm;clear hw)
 go_ret
 exact ⟨rfl,rfl⟩
theorem write_off (h:Is F w a R) {d k:Int} {v:Value} {b:List Nat} (hr:R.reach d k = 0) (hv:Vec w v b) (hb:b.length = 64) (hbu:R.burns = true):Calls Tryz.prog 101 #[ptr a,.int .i64 d,.int .i64 k,v] w fun e w'=>e = .returned (.int .i64 8) /\ Is F w' a R.burnt /\ Step F w F w':=by
 have HC:Hid (Calls Tryz.prog 96 #[ptr a,.int .i64 d,.int .i64 k] w fun e w'=>e = .returned (.int .i64 0) /\ w' = w):=by have:=reach_yes h d k;rw [hr] at this;exact this
 have HB:Hid (Calls Tryz.prog 62 #[ptr a] w fun e w'=>e = .returned (.bool true) /\ Is F w' a R.burnt /\ Step F w F w'):=by have:=burns_yes h (AM.reach_zero hr).1;rw [hbu] at this;exact this
 obtain ⟨p,n,cap,rfl,hn⟩:=hv.opened
 obtain rfl:n = 64:=by omega
 clear h hr hv hb hn hbu
 go_enter Tryz.func101,Tryz.ntmps101
 go_wp2_with (first
  | (go_at_call 96;refine HC.out.mono ?_;rintro e w1 ⟨rfl,hw⟩;obtain rfl:=hw.symm;clear hw)
  | (go_at_call 62;refine HB.out.mono ?_;rintro e w1 ⟨rfl,hi1,hs1⟩;have HI1:Hid (Is F w1 a R.burnt /\ Step F w F w1):=⟨hi1,hs1⟩;clear hi1 hs1))
 go_ret
 exact ⟨rfl,HI1.out⟩
theorem write_any (h:Is F w a R) (d k:Int) {v:Value} {b:List Nat} (hv:Vec w v b) (hvF:b ≠ [] -> ∀ g,v.ownBlock = some g -> ¬ F g) (hL:R.L.length <= 1000000) :
 Calls Tryz.prog 101 #[ptr a,.int .i64 d,.int .i64 k,v] w fun e w'=>e = .returned (.int .i64 ((R.writes d k b).1:Int)) /\ ∃ F',Is F' w' a (R.writes d k b).2 /\ Step F w F' w':=by
 by_cases hr:R.reach d k = 0
 ·by_cases hb:b.length = 64
  ·cases hbu:R.burns with
   | true =>
     refine (write_off h hr hv hb hbu).mono ?_
     rintro e w' ⟨rfl,h1,h2⟩
     simp only [AM.Raw.writes,hr,hb,hbu]
     exact ⟨rfl,F,h1,h2⟩
   | false =>
     obtain ⟨_,d1,_,k1,_,_⟩:=AM.reach_zero hr
     obtain ⟨D,rfl⟩:∃ D:Nat,d = (D:Int):=⟨d.toNat,by omega⟩
     obtain ⟨K,rfl⟩:∃ K:Nat,k = (K:Int):=⟨k.toNat,by omega⟩
     refine (write_fly h hr hv hvF hb hbu hL).mono ?_
     rintro e w' ⟨rfl,F',h1,h2⟩
     simp only [AM.Raw.writes,hr,hb,hbu]
     exact ⟨rfl,F',h1,h2⟩
  ·refine (write_arg h hr hv hb).mono ?_
   rintro e w' ⟨rfl,rfl⟩
   simp only [AM.Raw.writes,hr]
   rw [if_neg (by simp),if_pos hb]
   exact ⟨rfl,F,h,Step.refl F w'⟩
 ·refine (write_no h hr).mono ?_
  rintro e w' ⟨rfl,rfl⟩
  simp only [AM.Raw.writes,if_pos hr]
  exact ⟨trivial,F,h,Step.refl F w'⟩
theorem zeroSec:(Tryz.prog.info? 108).map (fun i=>(i.zero,i.size,i.bytes)) = some (some (.agg (rowOf (AM.zs 64))),64,64):=by kernel_rfl
theorem made_rowOf (n:Nat):madeCells (rowOf (AM.zs 64)) (n * 64) = rowOf (AM.zs (n * 64)):=by
 apply Array.ext_getElem?
 intro i
 by_cases hi:i < n * 64
 ·rw [rowOf_get _ (by rw [AM.zs_len];exact hi)]
  have hm:i % 64 < 64:=Nat.mod_lt _ (by decide)
  have hz:(rowOf (AM.zs 64))[i % 64]! = .int .u8 0:=by
   have h1:=rowOf_get (AM.zs 64) (i:=i % 64) (by rw [AM.zs_len];exact hm)
   have h2:(AM.zs 64).getD (i % 64) 0 = 0:=by
    have:∀ j,j < 64 -> (AM.zs 64).getD j 0 = 0:=fun j hj=>by unfold AM.zs;rw [List.getD,List.getElem?_replicate,if_pos hj];rfl
    exact this _ hm
   rw [h2] at h1
   rw [getElem!_def,h1]
   rfl
  have hd:(AM.zs (n * 64)).getD i 0 = 0:=by simp [AM.zs,List.getD,hi]
  simp only [madeCells,rowOf_size,AM.zs_len,Array.getElem?_map,hd]
  rw [Array.getElem?_range,if_pos hi]
  simp [hz]
 ·rw [Array.getElem?_eq_none (by simp [madeCells];omega),Array.getElem?_eq_none (by rw [rowOf_size,AM.zs_len];omega)]
theorem run_make_drv (W:World) {n:Nat} (hn:n <= 4096):(Instr.makeSlice 105 (.int .i64 (n:Int)) (.int .i64 (n:Int))).run Tryz.prog W = .ok (.slice (some ⟨W.heap.size,0,none⟩) n n) (W.alloc (.cells (rowOf (AM.zs (n * 64))) 108)):=by
 obtain ⟨i,hi,h0,h1,h2⟩:=info_parts zeroSec
 have hr:=run_make (P:=Tryz.prog) W 105 108 i _ Tryz.underlying105 hi h0 .i64 .i64 n n (by omega) (Int.le_refl _) (by rw [h2];omega) (by omega)
 rw [h1] at hr
 simp only [Int.toNat_natCast,Value.cells] at hr
 rw [hr,made_rowOf]
theorem blank_row {W:World} {n:Nat} (hn:n <= 4096) {g:Nat} (h:W.heap[g]? = some (.cells (rowOf (AM.zs (n * 64))) 108 (0,0))):W.ownsRow 0 108 64 (.slice (some ⟨g,0,none⟩) n n) n ((AM.zs (n * 64)).map bv):=by
 refine ⟨by rw [List.length_map,AM.zs_len],.inr ⟨g,n,_,rfl,Nat.zero_le _,h,Nat.le_refl _,by unfold maxLen;omega,by rw [rowOf_size,AM.zs_len],?_⟩⟩
 rw [List.take_of_length_le (by simp [rowOf,AM.zs_len])]
 simp [rowOf]
set_option maxHeartbeats 800000 in
theorem replace_blank (h:Is F w a R) {d:Nat} (hd:d < R.C.length) (hoff:R.C[d]? = some none):Calls Tryz.prog 17 #[ptr a,.int .i64 (d:Int)] w fun e w'=>e = .returned (.int .i64 0) /\ ∃ F',Is F' w' a (R.blank d) /\ Step F w F' w':=by
 have hfi:R.find (d:Int) = 0:=by simp [AM.Raw.find];omega
 have hon:R.on (d:Int) = false:=by simp [AM.Raw.on,List.getD,hoff]
 have HC:Hid (Calls Tryz.prog 63 #[ptr a,.int .i64 (d:Int)] w fun e w'=>e = .returned (.int .i64 0) /\ w' = w):=by have:=find_yes h (d:Int);rw [hfi] at this;exact this
 have HO:Hid (Calls Tryz.prog 51 #[ptr a,.int .i64 (d:Int)] w fun e w'=>e = .returned (.bool false) /\ w' = w):=by have:=on_yes h (d:Int);rw [hon] at this;exact this
 have hok:=h.ok.blank d
 obtain ⟨dg,dv,fp,fc,h⟩:=h
 have hn2:=h.ok.n2
 have hN:=h.ok.d2
 have c0:w.cell? ⟨a,0,none⟩ = some (.slice (some ⟨dg,0,none⟩) R.C.length R.C.length):=topCell (j:=0) h.top rfl
 have c1:w.cell? ⟨a,1,none⟩ = some (.int .i64 (R.n:Int)):=topCell (j:=1) h.top rfl
 have hdl:d < dv.length:=by rw [h.len];exact hd
 have hdv:dv[d]? = some dv[d]:=List.getElem?_eq_getElem hdl
 have cd:w.cell? ⟨dg,d,none⟩ = some dv[d]:=topCell h.dsk (by rw [List.getElem?_toArray];exact hdv)
 have fd:=topFrozen d h.dsk
 obtain ⟨N,hNe⟩:∃ N,N = R.C.length:=⟨_,rfl⟩
 obtain ⟨M,hMe⟩:∃ M,M = R.n:=⟨_,rfl⟩
 have hmk:∀ W:World,(Instr.makeSlice 105 (.int .i64 (M:Int)) (.int .i64 (M:Int))).run Tryz.prog W = .ok (.slice (some ⟨W.heap.size,0,none⟩) M M) (W.alloc (.cells (rowOf (AM.zs (M * 64))) 108)):=fun W=>run_make_drv W (by rw [hMe];exact hn2)
 have FIN:Hid (∃ F',Is F' ((w.drew.alloc (.cells (rowOf (AM.zs (M * 64))) 108)).setCell ⟨dg,d,none⟩ (.slice (some ⟨w.heap.size,0,none⟩) M M)) a (R.blank d) /\ Step F w F' ((w.drew.alloc (.cells (rowOf (AM.zs (M * 64))) 108)).setCell ⟨dg,d,none⟩ (.slice (some ⟨w.heap.size,0,none⟩) M M))):=by
  have g1:w.grownBy (w.drew.alloc (.cells (rowOf (AM.zs (M * 64))) 108)) none:=gb_alloc (gb_drew (World.grownBy.refl w none)) _
  have hrow:(w.drew.alloc (.cells (rowOf (AM.zs (M * 64))) 108)).ownsRow 0 108 64 (.slice (some ⟨w.heap.size,0,none⟩) R.n R.n) R.n ((AM.zs (R.n * 64)).map bv):=by
   rw [hMe]
   exact blank_row hn2 (heap_alloc_new w.drew _)
  have hl:=h.drove (F':=fun i=>F i \/ i = w.heap.size) (w1:=w.drew.alloc (.cells (rowOf (AM.zs (M * 64))) 108)) (w':=(w.drew.alloc (.cells (rowOf (AM.zs (M * 64))) 108)).setCell ⟨dg,d,none⟩ (.slice (some ⟨w.heap.size,0,none⟩) R.n R.n)) (fun i h=>.inl h)
   (fun i hi=>by
     rcases hi with hi | rfl
     ·exact Nat.lt_of_lt_of_le (h.lt i hi) g1.size
     ·simp) g1 hd (D:=some (AM.zs (R.n * 64))) (.inr ⟨_,rfl,hrow⟩) (fun g hg=>by
     obtain rfl:w.heap.size = g:=Option.some.inj hg
     exact ⟨.inr rfl,fun hf=>Nat.lt_irrefl _ (h.lt _ hf)⟩) hok rfl
  rw [hMe] at hl ⊢
  refine ⟨_,hl.is,⟨⟨rfl,rfl,rfl,by simp,fun i hi hn=>?_⟩,fun i hi=>?_⟩⟩
  ·rw [Below.heap_setCell _ _ _ _ (by intro e;rw [e] at hn;exact hn h.Fd)]
   rw [hMe] at g1
   exact g1.block i hi (by simp)
  ·rcases hi with hi | rfl
   ·exact .inl hi
   ·exact .inr (Nat.le_refl _)
 have HNE:Hid (a ≠ dg /\ a < w.heap.size):=⟨h.a_dg,h.lt a h.Fa⟩
 rw [<- hNe] at c0 hN hd
 rw [<- hMe] at c1 hn2
 have hdi:(d:Int) < (N:Int):=by omega
 obtain ⟨ov,hov⟩:∃ ov,ov = dv[d]:=⟨_,rfl⟩
 rw [<- hov] at cd
 have hlt:dg < w.heap.size:=h.lt dg h.Fd
 have cd1:(w.alloc (.cells (rowOf (AM.zs (M * 64))) 108)).cell? ⟨dg,d,none⟩ = some ov:=(World.grownBy_alloc w _ none).cell cd (by simp)
 have fd1:(w.alloc (.cells (rowOf (AM.zs (M * 64))) 108)).frozen? ⟨dg,d,none⟩ = false:=by rw [World.frozen?_of_block (w:=w) ((World.grownBy_alloc w _ none).block dg hlt (by simp))];exact fd
 have HS:Hid (w.cell? ⟨a,0,none⟩ = some (.slice (some ⟨dg,0,none⟩) N N) /\ w.cell? ⟨a,1,none⟩ = some (.int .i64 (M:Int))):=⟨c0,c1⟩
 have HK1:Hid ((w.alloc (.cells (rowOf (AM.zs (M * 64))) 108)).cell? ⟨a,0,none⟩ = some (.slice (some ⟨dg,0,none⟩) N N) /\ (w.alloc (.cells (rowOf (AM.zs (M * 64))) 108)).cell? ⟨a,1,none⟩ = some (.int .i64 (M:Int))):=⟨(World.grownBy_alloc w _ none).cell c0 (by simp),(World.grownBy_alloc w _ none).cell c1 (by simp)⟩
 have HK2:Hid (∀ v,((w.alloc (.cells (rowOf (AM.zs (M * 64))) 108)).setCell ⟨dg,d,none⟩ v).cell? ⟨a,0,none⟩ = some (.slice (some ⟨dg,0,none⟩) N N) /\ ((w.alloc (.cells (rowOf (AM.zs (M * 64))) 108)).setCell ⟨dg,d,none⟩ v).cell? ⟨a,1,none⟩ = some (.int .i64 (M:Int))):=fun v=>⟨by rw [World.cell?_setCell_far _ _ _ _ (Ne.symm HNE.out.1)];exact HK1.out.1,by rw [World.cell?_setCell_far _ _ _ _ (Ne.symm HNE.out.1)];exact HK1.out.2⟩
 clear h hok hon hfi hoff hdv hov hdl hNe hMe cd fd hlt
 go_enter Tryz.func17,Tryz.ntmps17
 go_wp2_with (first
  | (go_at_call 63;refine HC.out.mono ?_;rintro e w1 ⟨rfl,hw⟩;obtain rfl:=hw.symm;clear hw)
  | (go_at_call 51;refine HO.out.mono ?_;rintro e w1 ⟨rfl,hw⟩;obtain rfl:=hw.symm;clear hw))
 go_region_held3 (fun w'=>w'.cell? ⟨a,0,none⟩ = some (.slice (some ⟨dg,0,none⟩) N N) /\ w'.cell? ⟨a,1,none⟩ = some (.int .i64 (M:Int))) (first | exact HS.out | exact HK1.out | exact HK2.out _) (fail)
 go_wp2
 go_ret
 exact ⟨rfl,FIN.out⟩
theorem replace_any (h:Is F w a R) (d:Int):Calls Tryz.prog 17 #[ptr a,.int .i64 d] w fun e w'=>e = .returned (.int .i64 ((R.replace d).1:Int)) /\ ∃ F',Is F' w' a (R.replace d).2 /\ Step F w F' w':=by
 by_cases hf:R.find d = 0
 ·have hb:0 <= d /\ d < (R.C.length:Int):=by
   refine Classical.byContradiction fun c=>?_
   simp [AM.Raw.find,c] at hf
  cases ho:R.on d with
  | true =>
    have HC:Hid (Calls Tryz.prog 63 #[ptr a,.int .i64 d] w fun e w'=>e = .returned (.int .i64 0) /\ w' = w):=by have:=find_yes h d;rw [hf] at this;exact this
    have HO:Hid (Calls Tryz.prog 51 #[ptr a,.int .i64 d] w fun e w'=>e = .returned (.bool true) /\ w' = w):=by have:=on_yes h d;rw [ho] at this;exact this
    have HI:Hid (Is F w a R):=h
    have HR:Hid (R.replace d = (1,R)):=by show _ = _;simp [AM.Raw.replace,hf,ho]
    clear h hb hf ho
    go_enter Tryz.func17,Tryz.ntmps17
    go_wp2_with (first
     | (go_at_call 63;refine HC.out.mono ?_;rintro e w1 ⟨rfl,hw⟩;obtain rfl:=hw.symm;clear hw)
     | (go_at_call 51;refine HO.out.mono ?_;rintro e w1 ⟨rfl,hw⟩;obtain rfl:=hw.symm;clear hw))
    go_ret
    exact ⟨by rw [HR.out];rfl,F,by rw [HR.out];exact HI.out,Step.refl F w⟩
  | false =>
    obtain ⟨D,rfl⟩:∃ D:Nat,d = (D:Int):=⟨d.toNat,by omega⟩
    have hlt:D < R.C.length:=by omega
    have hn:R.C[D]? = some none:=by
     rw [List.getElem?_eq_getElem hlt]
     cases hq:R.C[D] with
     | none=>rfl
     | some xs=>simp [AM.Raw.on,List.getD,List.getElem?_eq_getElem hlt,hq] at ho;omega
    refine (replace_blank h hlt hn).mono ?_
    rintro e w' ⟨rfl,h2⟩
    simp only [AM.Raw.replace,hf,ho]
    exact ⟨rfl,h2⟩
 ·have HC:Hid (Calls Tryz.prog 63 #[ptr a,.int .i64 d] w fun e w'=>e = .returned (.int .i64 (R.find d:Int)) /\ w' = w):=find_yes h d
  have hne:¬ (R.find d:Int) = 0:=by omega
  have HI:Hid (Is F w a R):=h
  have HR:Hid (R.replace d = (R.find d,R)):=by show _ = _;simp [AM.Raw.replace,hf]
  rw [HR.out]
  clear h hf HR
  show Calls Tryz.prog 17 #[ptr a,.int .i64 d] w fun e w'=>e = .returned (.int .i64 (R.find d:Int)) /\ ∃ F',Is F' w' a R /\ Step F w F' w'
  generalize (R.find d:Int) = z at *
  go_enter Tryz.func17,Tryz.ntmps17
  go_wp2_with (go_at_call 63;refine HC.out.mono ?_;rintro e w1 ⟨rfl,hw⟩;obtain rfl:=hw.symm;clear hw)
  go_ret
  exact ⟨rfl,F,HI.out,Step.refl F w⟩
end
def newTo (N n i:Nat):AM.Raw:=⟨List.replicate i (some (AM.zs (n * 64))) ++ List.replicate (N - i) none,n,[],0,false⟩
theorem newTo_len {N n i:Nat} (h:i <= N):(newTo N n i).C.length = N:=by simp [newTo];omega
theorem newTo_all (N n:Nat):newTo N n N = AM.Raw.new N n:=by simp [newTo,AM.Raw.new]
theorem newTo_step {N n i:Nat} (h:i < N):(newTo N n i).C.set i (some (AM.zs (n * 64))) = (newTo N n (i + 1)).C:=by
 simp only [newTo]
 rw [List.set_append_right _ _ (by simp)]
 have e:N - i = (N - (i + 1)) + 1:=by omega
 rw [e,List.replicate_succ,List.length_replicate,Nat.sub_self,List.set_cons_zero,List.replicate_succ',List.append_assoc]
 rfl
theorem newTo_ok {N n i:Nat} (h:i <= N) (h1:1 <= N) (h2:N <= 255) (h3:1 <= n) (h4:n <= 4096):(newTo N n i).Ok:=by
 refine ⟨by rw [newTo_len h];exact h1,by rw [newTo_len h];exact h2,h3,h4,fun d xs hx=>?_,fun l hl=>by simp [newTo] at hl,by simp [newTo]⟩
 have hm:=List.mem_of_getElem? hx
 simp only [newTo,List.mem_append,List.mem_replicate] at hm
 rcases hm with ⟨_,hm⟩ | ⟨_,hm⟩
 ·injection hm with hm
  subst hm
  exact ⟨AM.zs_len _,AM.zs_small _⟩
 ·cases hm
theorem Tryz.infoDrv:(Tryz.prog.info? 105).map (fun i=>(i.zero,i.size,i.bytes)) = some (some (.slice none 0 0),1,24):=by kernel_rfl
theorem run_make_drvs (W:World) {n:Nat} (hn:n <= 255):(Instr.makeSlice 100 (.int .i64 (n:Int)) (.int .i64 (n:Int))).run Tryz.prog W = .ok (.slice (some ⟨W.heap.size,0,none⟩) n n) (W.alloc (.cells (List.replicate n (Value.slice none 0 0)).toArray 105)):=by
 have h:=run_make_row' (P:=Tryz.prog) 100 105 _ 24 Tryz.underlying100 Tryz.infoDrv rfl .i64 .i64 n (by omega) (by omega) W
 rw [h]
 congr 3
 apply Array.ext'
 have:=made_list (.slice none 0 0) n
 rw [List.take_of_length_le (by simp [madeCells])] at this
 rw [this]
theorem new_start {w:World} {N n:Nat} (h1:1 <= N) (h2:N <= 255) (h3:1 <= n) (h4:n <= 4096) :
 Lies (fun i=>i = w.heap.size + 1 \/ i = w.heap.size) ((w.alloc (.cells (List.replicate N (Value.slice none 0 0)).toArray 105)).alloc (.cells #[.slice (some ⟨w.heap.size,0,none⟩) N N,.int .i64 (n:Int),.slice none 0 0,.int .i64 0,.bool false] 103)) (w.heap.size + 1) w.heap.size (List.replicate N (.slice none 0 0)) none 0 (newTo N n 0):=by
 have hl:(newTo N n 0).C.length = N:=newTo_len (Nat.zero_le _)
 refine ⟨newTo_ok (Nat.zero_le _) h1 h2 h3 h4,fun i hi=>by rcases hi with rfl | rfl <;> simp <;> omega,?_,?_,by simp [hl],?_,?_,.inl rfl,.inr rfl,?_,?_,?_⟩
 ·rw [hl]
  exact heap_new _ _ _ (by simp)
 ·exact heap_old _ _ (heap_alloc_new w _)
 ·intro i v hv
  have hm:=(List.mem_replicate.1 (List.mem_of_getElem? hv)).2
  have hlt:i < N:=by simpa using (List.getElem?_eq_some_iff.1 hv).1
  exact .inl ⟨by simp [newTo,hlt],hm⟩
 ·exact World.ownsRow_nil _ 0 110 130
 ·intro i v hv g hg
  rw [(List.mem_replicate.1 (List.mem_of_getElem? hv)).2] at hg
  cases hg
 ·intro g hg;cases hg
 ·intro i j u v hu hv g hg
  rw [(List.mem_replicate.1 (List.mem_of_getElem? hu)).2] at hg
  cases hg
set_option maxHeartbeats 800000 in
theorem new_yes {w:World} {N n:Nat} (h1:1 <= N) (h2:N <= 255) (h3:1 <= n) (h4:n <= 4096) :
 Calls Tryz.prog 27 #[.int .i64 (N:Int),.int .i64 (n:Int)] w fun e w'=>∃ a,e = .returned (.tuple #[ptr a,.int .i64 0]) /\ (∃ F,Is F w' a (AM.Raw.new N n) /\ ∀ i,F i -> w.heap.size <= i) /\ w.grownBy w' none:=by
 have hmd:∀ W:World,(Instr.makeSlice 100 (.int .i64 (N:Int)) (.int .i64 (N:Int))).run Tryz.prog W = .ok (.slice (some ⟨W.heap.size,0,none⟩) N N) (W.alloc (.cells (List.replicate N (Value.slice none 0 0)).toArray 105)):=fun W=>run_make_drvs W h2
 have HL0:=new_start (w:=w) h1 h2 h3 h4
 have G0:Hid (w.grownBy ((w.alloc (.cells (List.replicate N (Value.slice none 0 0)).toArray 105)).alloc (.cells #[.slice (some ⟨w.heap.size,0,none⟩) N N,.int .i64 (n:Int),.slice none 0 0,.int .i64 0,.bool false] 103)) none):=gb_alloc (gb_alloc (World.grownBy.refl _ _) _) _
 have H0:Hid (Lies (fun i=>i = w.heap.size + 1 \/ i = w.heap.size) ((w.alloc (.cells (List.replicate N (Value.slice none 0 0)).toArray 105)).alloc (.cells #[.slice (some ⟨w.heap.size,0,none⟩) N N,.int .i64 (n:Int),.slice none 0 0,.int .i64 0,.bool false] 103)) (w.heap.size + 1) w.heap.size (List.replicate N (.slice none 0 0)) none 0 (newTo N n 0)):=HL0
 have HLO:Hid (∀ i,(i = w.heap.size + 1 \/ i = w.heap.size) -> w.heap.size <= i):=fun i hi=>by omega
 clear HL0
 obtain ⟨ZD,hZD⟩:∃ ZD,ZD = (List.replicate N (Value.slice none 0 0)).toArray:=⟨_,rfl⟩
 rw [<- hZD] at hmd H0 G0
 clear hZD
 have j1:¬ (N:Int) < 1:=by omega
 have j2:¬ (255:Int) < (N:Int):=by omega
 have j3:¬ (n:Int) < 1:=by omega
 have j4:¬ (4096:Int) < (n:Int):=by omega
 go_enter Tryz.func27,Tryz.ntmps27
 go_wp2
 generalize w.heap.size + 1 = a at *
 generalize (w.alloc (.cells ZD 105)).alloc (.cells #[.slice (some ⟨w.heap.size,0,none⟩) N N,.int .i64 (n:Int),.slice none 0 0,.int .i64 0,.bool false] 103) = W0 at *
 clear hmd
 have hmk:∀ W:World,(Instr.makeSlice 105 (.int .i64 (n:Int)) (.int .i64 (n:Int))).run Tryz.prog W = .ok (.slice (some ⟨W.heap.size,0,none⟩) n n) (W.alloc (.cells (rowOf (AM.zs (n * 64))) 108)):=fun W=>run_make_drv W h4
 go_loopw [32] (fun ti wr=>∃ i:Nat,i <= N /\ ti = .int .i64 (i:Int) /\ Hid (∃ F dv,Lies F wr a w.heap.size dv none 0 (newTo N n i) /\ (∀ i,F i -> w.heap.size <= i)) /\ Hid (w.grownBy wr none)) (fun ti _=>N - (intOf ti).toNat)
 case atStart=>exact ⟨0,by omega,rfl,⟨_,_,H0.out,HLO.out⟩,G0⟩
 case round =>
  clear H0 G0 HLO
  obtain ⟨i,hi,rfl,OK,GK⟩:=hrel
  by_cases hlt:i < N
  ·have i1:(i:Int) < (N:Int):=by omega
   obtain ⟨F,dv,h,hF⟩:=OK.out
   have hCl:(newTo N n i).C.length = N:=newTo_len hi
   have hdl:i < dv.length:=by rw [h.len,hCl];exact hlt
   have hdv:dv[i]? = some dv[i]:=List.getElem?_eq_getElem hdl
   have c0:wr.cell? ⟨a,0,none⟩ = some (.slice (some ⟨w.heap.size,0,none⟩) N N):=by
    have h0:wr.cell? ⟨a,0,none⟩ = some (.slice (some ⟨w.heap.size,0,none⟩) (newTo N n i).C.length (newTo N n i).C.length):=topCell (j:=0) h.top rfl
    rw [hCl] at h0
    exact h0
   have cd:wr.cell? ⟨w.heap.size,i,none⟩ = some dv[i]:=topCell h.dsk (by rw [List.getElem?_toArray];exact hdv)
   have fd:=topFrozen i h.dsk
   have hla:w.heap.size < wr.heap.size:=h.lt _ h.Fd
   have cd1:(wr.alloc (.cells (rowOf (AM.zs (n * 64))) 108)).cell? ⟨w.heap.size,i,none⟩ = some dv[i]:=(World.grownBy_alloc wr _ none).cell cd (by simp)
   have fd1:(wr.alloc (.cells (rowOf (AM.zs (n * 64))) 108)).frozen? ⟨w.heap.size,i,none⟩ = false:=by rw [World.frozen?_of_block (w:=wr) ((World.grownBy_alloc wr _ none).block _ hla (by simp))];exact fd
   have HS:Hid (wr.cell? ⟨a,0,none⟩ = some (.slice (some ⟨w.heap.size,0,none⟩) N N)):=c0
   have HK1:Hid ((wr.alloc (.cells (rowOf (AM.zs (n * 64))) 108)).cell? ⟨a,0,none⟩ = some (.slice (some ⟨w.heap.size,0,none⟩) N N)):=(World.grownBy_alloc wr _ none).cell c0 (by simp)
   have HK2:Hid (∀ v,((wr.alloc (.cells (rowOf (AM.zs (n * 64))) 108)).setCell ⟨w.heap.size,i,none⟩ v).cell? ⟨a,0,none⟩ = some (.slice (some ⟨w.heap.size,0,none⟩) N N)):=fun v=>by rw [World.cell?_setCell_far _ _ _ _ (Ne.symm h.a_dg)];exact HK1.out
   have g1:wr.grownBy (wr.drew.alloc (.cells (rowOf (AM.zs (n * 64))) 108)) none:=gb_alloc (gb_drew (World.grownBy.refl wr none)) _
   have hrow:(wr.drew.alloc (.cells (rowOf (AM.zs (n * 64))) 108)).ownsRow 0 108 64 (.slice (some ⟨wr.heap.size,0,none⟩) n n) n ((AM.zs (n * 64)).map bv):=blank_row h4 (heap_alloc_new wr.drew _)
   have hl:=h.drove (F':=fun i=>F i \/ i = wr.heap.size) (w1:=wr.drew.alloc (.cells (rowOf (AM.zs (n * 64))) 108)) (w':=(wr.drew.alloc (.cells (rowOf (AM.zs (n * 64))) 108)).setCell ⟨w.heap.size,i,none⟩ (.slice (some ⟨wr.heap.size,0,none⟩) n n)) (fun i h=>.inl h)
    (fun i hi=>by
      rcases hi with hi | rfl
      ·exact Nat.lt_of_lt_of_le (h.lt i hi) g1.size
      ·simp) g1 (d:=i) (by rw [hCl];exact hlt) (D:=some (AM.zs (n * 64))) (.inr ⟨_,rfl,hrow⟩) (fun g hg=>by
      obtain rfl:wr.heap.size = g:=Option.some.inj hg
      exact ⟨.inr rfl,fun hf=>Nat.lt_irrefl _ (h.lt _ hf)⟩) (by rw [newTo_step hlt];exact newTo_ok (by omega) h1 h2 h3 h4) rfl
   have HN:Hid (∃ F dv,Lies F ((wr.drew.alloc (.cells (rowOf (AM.zs (n * 64))) 108)).setCell ⟨w.heap.size,i,none⟩ (.slice (some ⟨wr.heap.size,0,none⟩) n n)) a w.heap.size dv none 0 (newTo N n (i + 1)) /\ (∀ i,F i -> w.heap.size <= i)):=by
    rw [newTo_step hlt] at hl
    refine ⟨_,_,hl,fun j hj=>?_⟩
    rcases hj with hj | rfl
    ·exact hF j hj
    ·omega
   have HG:Hid (w.grownBy ((wr.drew.alloc (.cells (rowOf (AM.zs (n * 64))) 108)).setCell ⟨w.heap.size,i,none⟩ (.slice (some ⟨wr.heap.size,0,none⟩) n n)) none):=gb_setCell (gb_alloc (gb_drew GK.out) _) (Nat.le_refl _) _
   obtain ⟨ov,hov⟩:∃ ov,ov = dv[i]:=⟨_,rfl⟩
   rw [<- hov] at cd1
   clear hl hrow g1 cd fd hla hdv hCl OK GK h hF hov
   go_wp2_with fail
   go_region_held3 (fun w'=>w'.cell? ⟨a,0,none⟩ = some (.slice (some ⟨w.heap.size,0,none⟩) N N)) (first | exact HS.out | exact HK1.out | exact HK2.out _) (fail)
   go_wp2
   go_roundw
   case rel=>exact ⟨i + 1,by omega,by go_num,HN,HG⟩
   case measure=>simp [intOf];omega
  ·have i1:¬ (i:Int) < (N:Int):=by omega
   have e:i = N:=by omega
   have HE:Hid (∃ F,Is F wr a (AM.Raw.new N n) /\ ∀ i,F i -> w.heap.size <= i):=by
    obtain ⟨F,dv,h,hF⟩:=OK.out
    rw [e,newTo_all] at h
    exact ⟨F,h.is,hF⟩
   clear OK e
   go_wp2
   go_ret2
   exact ⟨a,rfl,HE.out,GK.out⟩
structure Aw (F:Nat -> Prop) (w:World) (v:Value) (xs:List Nat):Prop where
 vec:Vec w v xs
 off:xs ≠ [] -> ∀ g,v.ownBlock = some g -> ¬ F g
structure Base (w0:World) (F:Nat -> Prop) (w:World):Prop where
 grown:w0.grownBy w none
 lo:∀ i,F i -> w0.heap.size <= i
theorem Vec.block {w:World} {v:Value} {xs:List Nat} (h:Vec w v xs) (hx:xs ≠ []) {g:Nat} (hg:v.ownBlock = some g):g < w.heap.size:=by
 obtain ⟨p,cap,rfl,_,_,h5⟩:=h.form
 obtain ⟨b,off,rfl,hc⟩:=h5 hx
 obtain rfl:b = g:=Option.some.inj hg
 have h0:0 < xs.length:=List.length_pos_iff.2 hx
 exact World.block_lt_of_cell? w _ (hc 0 h0)
theorem Aw.step {F F':Nat -> Prop} {w w':World} {v:Value} {xs:List Nat} (h:Aw F w v xs) (s:Step F w F' w'):Aw F' w' v xs :=
 ⟨h.vec.upd s.upd h.off,fun hx g hg hf=>by
   rcases s.sub g hf with h1 | h1
   ·exact h.off hx g hg h1
   ·have:=h.vec.block hx hg;omega⟩
theorem Aw.keep {F:Nat -> Prop} {w w':World} {v:Value} {xs:List Nat} (h:Aw F w v xs) (g:w.grownBy w' none):Aw F w' v xs:=h.step (Step.new g)
theorem Part_a.aw {F:Nat -> Prop} {w w':World} {v:Value} {xs:List Nat} (h:Part_a w.heap.size w' v xs) (hF:∀ i,F i -> i < w.heap.size):Aw F w' v xs :=
 ⟨h.vec,fun _ g hg hf=>by have h1:=(h.lt hg).1;have h2:=hF g hf;omega⟩
theorem Own.aw {F:Nat -> Prop} {w w':World} {v:Value} {xs:List Nat} (h:Own w.heap.size w' v xs) (hF:∀ i,F i -> i < w.heap.size):Aw F w' v xs:=h.part.aw hF
theorem Base.aw {w0 w:World} {F:Nat -> Prop} {v:Value} {xs:List Nat} (h:Base w0 F w) (hv:Vec w0 v xs):Aw F w v xs :=
 ⟨hv.keep h.grown,fun hx g hg hf=>by have h1:=h.lo g hf;have h2:=hv.block hx hg;omega⟩
theorem Base.step {w0 w w':World} {F F':Nat -> Prop} (h:Base w0 F w) (s:Step F w F' w'):Base w0 F' w':=by
 obtain ⟨h1,h2⟩:=s.low h.grown h.lo
 exact ⟨h1,h2⟩
theorem Base.keep {w0 w w':World} {F:Nat -> Prop} (h:Base w0 F w) (g:w.grownBy w' none):Base w0 F w':=h.step (Step.new g)
section
variable {F:Nat -> Prop} {w:World} {a:Nat} {R:AM.Raw}
theorem write_at (h:Is F w a R) {d k:Int} {v:Value} {b:List Nat} (hv:Aw F w v b) (hL:R.L.length <= 1000000) {c:Int} {R':AM.Raw} (h1:((R.writes d k b).1:Int) = c) (h2:(R.writes d k b).2 = R') :
 Calls Tryz.prog 101 #[ptr a,.int .i64 d,.int .i64 k,v] w fun e w'=>e = .returned (.int .i64 c) /\ ∃ F',Is F' w' a R' /\ Step F w F' w':=by
 subst h1
 subst h2
 exact write_any h d k hv.vec hv.off hL
theorem crash_at (h:Is F w a R) (hL:R.L.length <= 1000000) {v:Value} {ps:List Nat} (hv:Aw F w v ps) {R':AM.Raw} (h2:R.crash ps = R') :
 Calls Tryz.prog 25 #[ptr a,v] w fun e w'=>e = .returned (.tuple #[]) /\ ∃ F',Is F' w' a R' /\ Step F w F' w':=by
 subst h2
 refine (crash_yes h hL hv.vec hv.off).mono ?_
 rintro e w' ⟨rfl,h3,h4⟩
 exact ⟨rfl,F,h3,h4⟩
theorem lose_at (h:Is F w a R) {d:Int} (hL:R.L.length <= 1000000) {c:Int} {R':AM.Raw} (h1:((R.lose d).1:Int) = c) (h2:(R.lose d).2 = R') :
 Calls Tryz.prog 16 #[ptr a,.int .i64 d] w fun e w'=>e = .returned (.int .i64 c) /\ ∃ F',Is F' w' a R' /\ Step F w F' w':=by
 subst h1
 subst h2
 refine (lose_any h d hL).mono ?_
 rintro e w' ⟨rfl,h3,h4⟩
 exact ⟨rfl,F,h3,h4⟩
theorem replace_at (h:Is F w a R) {d:Int} {c:Int} {R':AM.Raw} (h1:((R.replace d).1:Int) = c) (h2:(R.replace d).2 = R') :
 Calls Tryz.prog 17 #[ptr a,.int .i64 d] w fun e w'=>e = .returned (.int .i64 c) /\ ∃ F',Is F' w' a R' /\ Step F w F' w':=by
 subst h1
 subst h2
 exact replace_any h d
theorem barrier_at (h:Is F w a R) {c:Int} {R':AM.Raw} (h1:(R.barrier.1:Int) = c) (h2:R.barrier.2 = R') :
 Calls Tryz.prog 14 #[ptr a] w fun e w'=>e = .returned (.int .i64 c) /\ ∃ F',Is F' w' a R' /\ Step F w F' w':=by
 subst h1
 subst h2
 refine (barrier_yes h).mono ?_
 rintro e w' ⟨rfl,h3,h4⟩
 exact ⟨rfl,F,h3,h4⟩
theorem fuse_at (h:Is F w a R) {n:Int} (hn:n < 9223372036854775808) {R':AM.Raw} (h2:R.fused n = R') :
 Calls Tryz.prog 23 #[ptr a,.int .i64 n] w fun e w'=>e = .returned (.tuple #[]) /\ ∃ F',Is F' w' a R' /\ Step F w F' w':=by
 subst h2
 refine (fuse_yes h hn).mono ?_
 rintro e w' ⟨rfl,h3,h4⟩
 exact ⟨rfl,F,h3,h4⟩
end
theorem new_at {w:World} {N n:Nat} (h1:1 <= N) (h2:N <= 255) (h3:1 <= n) (h4:n <= 4096) {c d:Int} (hc:(N:Int) = c) (hd:(n:Int) = d) :
 Calls Tryz.prog 27 #[.int .i64 c,.int .i64 d] w fun e w'=>∃ a,e = .returned (.tuple #[ptr a,.int .i64 0]) /\ ∃ F,Is F w' a (AM.Raw.new N n) /\ Base w F w':=by
 subst hc
 subst hd
 refine (new_yes h1 h2 h3 h4).mono ?_
 rintro e w' ⟨a,rfl,⟨F,h5,h6⟩,h7⟩
 exact ⟨a,rfl,F,h5,h7,h6⟩
end Go.Proofs.YtaalagkbpeinkaaGreat
namespace Go.Proofs.YtaalagkbpeinkaaGreat
namespace SM
def z (n:Nat):List Nat:=List.replicate n 0
theorem z_len (n:Nat):(z n).length = n:=by simp [z]
theorem z_small (n:Nat):∀ x ∈ z n,x < 256:=fun x hx=>by rw [(List.mem_replicate.1 hx).2];decide
theorem z_drop (n k:Nat):(z n).drop k = z (n - k):=by simp [z]
def mk (n:Nat):List Nat:=(List.range 8).map fun i=>n / 256 ^ (7 - i) % 256
def val (xs:List Nat):Nat -> Nat
 | 0=>0
 | k + 1=>256 * val xs k + xs.getD k 0
def sec (n:Nat) (ld:List Nat):List Nat:=mk n ++ (ld ++ z (56 - ld.length))
theorem mk_len (n:Nat):(mk n).length = 8:=by simp [mk]
theorem mk_small (n:Nat):∀ x ∈ mk n,x < 256:=fun x hx=>by
 obtain ⟨i,_,rfl⟩:=List.mem_map.1 hx
 exact Nat.mod_lt _ (by decide)
theorem mk_get (n:Nat) {i:Nat} (h:i < 8):(mk n).getD i 0 = n / 256 ^ (7 - i) % 256:=by simp [mk,List.getD,h]
theorem sec_len {n:Nat} {ld:List Nat} (h:ld.length <= 56):(sec n ld).length = 64:=by simp [sec,mk_len,z_len];omega
theorem sec_small {n:Nat} {ld:List Nat} (h:∀ x ∈ ld,x < 256):∀ x ∈ sec n ld,x < 256:=fun x hx=>by
 rcases List.mem_append.1 hx with h1 | h1
 ·exact mk_small n x h1
 ·rcases List.mem_append.1 h1 with h2 | h2
  ·exact h x h2
  ·exact z_small _ x h2
theorem getD_lt {xs:List Nat} (h:∀ x ∈ xs,x < 256) (k:Nat):xs.getD k 0 < 256:=by
 by_cases hk:k < xs.length
 ·exact h _ (by simp [List.getD,hk])
 ·simp [List.getD,hk]
theorem ext_getD {xs ys:List Nat} (hl:xs.length = ys.length) (h:∀ i,i < xs.length -> xs.getD i 0 = ys.getD i 0):xs = ys:=by
 apply List.ext_getElem hl
 intro i h1 h2
 have:=h i h1
 simpa [List.getD,h1,h2] using this
theorem val_lt {xs:List Nat} (h:∀ x ∈ xs,x < 256):∀ k,val xs k < 256 ^ k
 | 0=>by simp [val]
 | k + 1=>by
   have h1:=val_lt h k
   have h2:=getD_lt h k
   show 256 * val xs k + xs.getD k 0 < _
   rw [Nat.pow_succ]
   omega
theorem val_app (xs ys:List Nat):∀ k,k <= xs.length -> val (xs ++ ys) k = val xs k
 | 0,_=>rfl
 | k + 1,h=>by
   show 256 * val (xs ++ ys) k + (xs ++ ys).getD k 0 = 256 * val xs k + xs.getD k 0
   rw [val_app xs ys k (by omega)]
   have:(xs ++ ys).getD k 0 = xs.getD k 0:=by
    have hk:k < xs.length:=by omega
    simp only [List.getD]
    rw [List.getElem?_append_left hk]
   rw [this]
theorem val_mkTo {n:Nat} (h:n < 256 ^ 8):∀ k,k <= 8 -> val (mk n) k = n / 256 ^ (8 - k)
 | 0,_=>by
   show 0 = n / 256 ^ 8
   exact (Nat.div_eq_of_lt h).symm
 | k + 1,hk=>by
   show 256 * val (mk n) k + (mk n).getD k 0 = _
   rw [val_mkTo h k (by omega),mk_get n (by omega)]
   have e1:8 - k = (7 - k) + 1:=by omega
   have e2:8 - (k + 1) = 7 - k:=by omega
   rw [e1,e2,Nat.pow_succ,<- Nat.div_div_eq_div_mul]
   omega
theorem val_mk {n:Nat} (h:n < 256 ^ 8):val (mk n) 8 = n:=by
 rw [val_mkTo h 8 (Nat.le_refl _)];simp
theorem val_sec {n:Nat} (h:n < 256 ^ 8) (ld:List Nat):val (sec n ld) 8 = n:=by
 unfold sec
 rw [val_app _ _ 8 (by rw [mk_len];exact Nat.le_refl _),val_mk h]
end SM
namespace CM
def ld (xs:List Nat) (i:Nat):List Nat:=(xs.drop (56 * i)).take 56
def secs (n:Nat) (xs:List Nat) (m:Nat):List (List Nat):=(List.range m).map fun i=>SM.sec n (ld xs i)
def fit (n:Nat) (xs:List Nat):Bool:=decide (n ≠ 0) && (decide (0 < xs.length) && (decide (xs.length % 56 = 0) && decide (xs.length <= 3584)))
def putS (n:Nat) (xs:List Nat):List (List Nat):=if fit n xs then secs n xs (xs.length / 56) else []
def putE (n:Nat) (xs:List Nat):Int:=if n = 0 then 1 else if xs.length = 0 \/ xs.length % 56 ≠ 0 then 4 else if 3584 < xs.length then 3 else 0
def okTo (X:List (List Nat)) (k:Nat):Prop:=∀ j,j < k -> (X.getD j []).length = 64 /\ SM.val (X.getD j []) 8 = SM.val (X.getD 0 []) 8 /\ SM.val (X.getD j []) 8 ≠ 0
def okB (X:List (List Nat)) (k:Nat):Bool:=(List.range k).all fun j=>((X.getD j []).length == 64) && ((SM.val (X.getD j []) 8 == SM.val (X.getD 0 []) 8) && (SM.val (X.getD j []) 8 != 0))
theorem okB_iff (X:List (List Nat)) (k:Nat):okB X k = true ↔ okTo X k:=by
 simp only [okB,okTo,List.all_eq_true,List.mem_range,Bool.and_eq_true,beq_iff_eq,bne_iff_ne]
def yes (X:List (List Nat)):Bool:=decide (1 <= X.length) && (decide (X.length <= 64) && okB X X.length)
def tN (X:List (List Nat)):Nat:=if yes X then SM.val (X.getD 0 []) 8 else 0
def loads (X:List (List Nat)) (k:Nat):List Nat:=((X.take k).map fun x=>x.drop 8).flatten
def tL (X:List (List Nat)):List Nat:=if yes X then loads X X.length else []
theorem ld_len {xs:List Nat} {i:Nat} (h:56 * i + 56 <= xs.length):(ld xs i).length = 56:=by simp [ld];omega
theorem ld_small {xs:List Nat} (h:∀ x ∈ xs,x < 256) (i:Nat):∀ x ∈ ld xs i,x < 256:=fun x hx=>h x (List.mem_of_mem_drop (List.mem_of_mem_take hx))
theorem secs_len (n:Nat) (xs:List Nat) (m:Nat):(secs n xs m).length = m:=by simp [secs]
theorem secs_get (n:Nat) (xs:List Nat) {m j:Nat} (h:j < m):(secs n xs m).getD j [] = SM.sec n (ld xs j):=by simp [secs,List.getD,h]
theorem fit_iff {n:Nat} {xs:List Nat}:fit n xs = true ↔ n ≠ 0 /\ 0 < xs.length /\ xs.length % 56 = 0 /\ xs.length <= 3584:=by simp [fit]
theorem putE_fit (n:Nat) (xs:List Nat):putE n xs = 0 ↔ fit n xs = true:=by
 rw [fit_iff]
 unfold putE
 by_cases h1:n = 0
 ·simp [h1]
 ·rw [if_neg h1]
  by_cases h2:xs.length = 0 \/ xs.length % 56 ≠ 0
  ·rw [if_pos h2];simp only [Int.reduceEq,false_iff];omega
  ·rw [if_neg h2]
   by_cases h3:3584 < xs.length
   ·rw [if_pos h3];simp only [Int.reduceEq,false_iff];omega
   ·rw [if_neg h3];simp only [true_iff];omega
theorem yes_iff {X:List (List Nat)}:yes X = true ↔ 1 <= X.length /\ X.length <= 64 /\ okTo X X.length:=by
 rw [<- okB_iff];simp [yes]
theorem loads_zero (X:List (List Nat)):loads X 0 = []:=by simp [loads]
theorem loads_succ (X:List (List Nat)) {k:Nat} (h:k < X.length):loads X (k + 1) = loads X k ++ (X.getD k []).drop 8:=by
 have e:X[k] = X.getD k []:=by simp [List.getD,h]
 simp [loads,List.take_succ_eq_append_getElem h,e]
theorem loads_len {X:List (List Nat)}:∀ {k:Nat},k <= X.length -> (∀ j,j < k -> (X.getD j []).length = 64) -> (loads X k).length = 56 * k
 | 0,_,_=>by simp [loads]
 | k + 1,h,h2=>by
   rw [loads_succ X (by omega),List.length_append,loads_len (by omega) (fun j hj=>h2 j (by omega)),List.length_drop,h2 k (by omega)]
   omega
theorem loads_secs (n:Nat) (xs:List Nat) (m:Nat) (h:56 * m <= xs.length):∀ k,k <= m -> loads (secs n xs m) k = xs.take (56 * k)
 | 0,_=>by simp [loads]
 | k + 1,hk=>by
   rw [loads_succ _ (by rw [secs_len];omega),loads_secs n xs m h k (by omega),secs_get n xs (by omega)]
   have e1:(SM.sec n (ld xs k)).drop 8 = ld xs k:=by
    unfold SM.sec
    rw [ld_len (by omega)]
    simp [SM.mk_len,SM.z]
   rw [e1]
   unfold ld
   have e2:56 * (k + 1) = 56 * k + 56:=by omega
   rw [e2,List.take_add]
theorem okTo_secs {n:Nat} (h0:n ≠ 0) (hn:n < 256 ^ 8) (xs:List Nat) (m:Nat) (h:56 * m <= xs.length):okTo (secs n xs m) m:=fun j hj=>by
 rw [secs_get n xs hj,secs_get n xs (j:=0) (by omega)]
 exact ⟨SM.sec_len (by rw [ld_len (by omega)];exact Nat.le_refl _),by rw [SM.val_sec hn,SM.val_sec hn],by rw [SM.val_sec hn];exact h0⟩
theorem put_take {n:Nat} {xs:List Nat} (hn:n < 256 ^ 8) (h:fit n xs = true):yes (putS n xs) = true /\ tN (putS n xs) = n /\ tL (putS n xs) = xs:=by
 obtain ⟨h0,h1,h2,h3⟩:=fit_iff.1 h
 have e:putS n xs = secs n xs (xs.length / 56):=by simp [putS,h]
 rw [e]
 have hl:56 * (xs.length / 56) = xs.length:=by omega
 have hy:yes (secs n xs (xs.length / 56)) = true:=by
  rw [yes_iff,secs_len]
  exact ⟨by omega,by omega,okTo_secs h0 hn xs _ (by omega)⟩
 refine ⟨hy,?_,?_⟩
 ·unfold tN
  rw [if_pos hy,secs_get n xs (by omega),SM.val_sec hn]
 ·unfold tL
  rw [if_pos hy,loads_secs n xs _ (by omega) _ (by rw [secs_len];exact Nat.le_refl _),secs_len,hl,List.take_of_length_le (Nat.le_refl _)]
def mix (c:List Bool) (x y:List (List Nat)) (k:Nat):List (List Nat):=(List.range k).map fun i=>if c.getD i false = true then y.getD i [] else x.getD i []
def cnt (c:List Bool) (k:Nat):Nat:=((List.range k).filter fun i=>c.getD i false).length
theorem mix_len (c:List Bool) (x y:List (List Nat)) (k:Nat):(mix c x y k).length = k:=by simp [mix]
theorem mix_get (c:List Bool) (x y:List (List Nat)) {k j:Nat} (h:j < k):(mix c x y k).getD j [] = if c.getD j false = true then y.getD j [] else x.getD j []:=by simp [mix,List.getD,h];rfl
theorem cnt_succ (c:List Bool) (k:Nat):cnt c (k + 1) = cnt c k + if c.getD k false = true then 1 else 0:=by
 simp only [cnt,List.range_succ,List.filter_append,List.length_append]
 split <;> simp_all
theorem cnt_le (c:List Bool):∀ k,cnt c k <= k
 | 0=>by simp [cnt]
 | k + 1=>by have:=cnt_le c k;rw [cnt_succ];split <;> omega
theorem cnt_none (c:List Bool):∀ {k:Nat},cnt c k = 0 -> ∀ j,j < k -> c.getD j false = false
 | 0,_,j,hj=>by omega
 | k + 1,h,j,hj=>by
   rw [cnt_succ] at h
   by_cases e:j = k
   ·subst e
    cases hc:c.getD j false with
    | false=>rfl
    | true=>rw [hc] at h;simp at h
   ·exact cnt_none c (k:=k) (by omega) j (by omega)
theorem cnt_all (c:List Bool):∀ {k:Nat},cnt c k = k -> ∀ j,j < k -> c.getD j false = true
 | 0,_,j,hj=>by omega
 | k + 1,h,j,hj=>by
   rw [cnt_succ] at h
   have h2:=cnt_le c k
   by_cases e:j = k
   ·subst e
    cases hc:c.getD j false with
    | true=>rfl
    | false=>rw [hc] at h;simp at h;omega
   ·refine cnt_all c (k:=k) ?_ j (by omega)
    split at h <;> omega
theorem mix_none {c:List Bool} {x y:List (List Nat)} {k:Nat} (h:cnt c k = 0) (hx:x.length = k):mix c x y k = x:=by
 apply List.ext_getElem
 ·rw [mix_len,hx]
 ·intro i h1 h2
  have e1:(mix c x y k)[i] = (mix c x y k).getD i []:=by simp [List.getD,h1]
  have e2:x[i] = x.getD i []:=by simp [List.getD,h2]
  rw [e1,e2,mix_get c x y (by omega),cnt_none c h i (by omega)]
  simp
theorem mix_all {c:List Bool} {x y:List (List Nat)} {k:Nat} (h:cnt c k = k) (hy:y.length = k):mix c x y k = y:=by
 apply List.ext_getElem
 ·rw [mix_len,hy]
 ·intro i h1 h2
  have e1:(mix c x y k)[i] = (mix c x y k).getD i []:=by simp [List.getD,h1]
  have e2:y[i] = y.getD i []:=by simp [List.getD,h2]
  rw [e1,e2,mix_get c x y (by omega),cnt_all c h i (by omega)]
  simp
theorem some_of {c:List Bool} {k:Nat} (h0:cnt c k ≠ 0) (hk:cnt c k ≠ k):(∃ i,i < k /\ c.getD i false = true) /\ ∃ j,j < k /\ c.getD j false = false:=by
 constructor
 ·refine Classical.byContradiction fun hn=>h0 ?_
  have:∀ i,i < k -> c.getD i false = false:=fun i hi=>by
   cases e:c.getD i false with
   | false=>rfl
   | true=>exact absurd ⟨i,hi,e⟩ hn
  clear hn h0 hk
  induction k with
  | zero=>simp [cnt]
  | succ k ih=>rw [cnt_succ,ih (fun i hi=>this i (by omega)),this k (by omega)];simp
 ·refine Classical.byContradiction fun hn=>hk ?_
  have:∀ i,i < k -> c.getD i false = true:=fun i hi=>by
   cases e:c.getD i false with
   | true=>rfl
   | false=>exact absurd ⟨i,hi,e⟩ hn
  clear hn h0 hk
  induction k with
  | zero=>simp [cnt]
  | succ k ih=>rw [cnt_succ,ih (fun i hi=>this i (by omega)),this k (by omega)];simp
theorem mix_yes {c:List Bool} {n m k:Nat} {xa xb:List Nat} (hn:n < 256 ^ 8) (hm:m < 256 ^ 8) (m0:m ≠ 0) (h1:1 <= k) (h64:k <= 64) (ha:56 * k <= xa.length) (hb:56 * k <= xb.length) (h0:cnt c k ≠ 0) (hk:cnt c k ≠ k) :
 yes (mix c (secs n xa k) (secs m xb k) k) = decide (n = m):=by
 have hv:∀ j,j < k -> SM.val ((mix c (secs n xa k) (secs m xb k) k).getD j []) 8 = if c.getD j false = true then m else n:=fun j hj=>by
  rw [mix_get c _ _ hj]
  split
  ·rw [secs_get m xb hj,SM.val_sec hm]
  ·rw [secs_get n xa hj,SM.val_sec hn]
 have hl:∀ j,j < k -> ((mix c (secs n xa k) (secs m xb k) k).getD j []).length = 64:=fun j hj=>by
  rw [mix_get c _ _ hj]
  split
  ·rw [secs_get m xb hj,SM.sec_len (by rw [ld_len (by omega)];exact Nat.le_refl _)]
  ·rw [secs_get n xa hj,SM.sec_len (by rw [ld_len (by omega)];exact Nat.le_refl _)]
 rw [Bool.eq_iff_iff,decide_eq_true_eq,yes_iff,mix_len]
 constructor
 ·rintro ⟨_,_,ok⟩
  obtain ⟨⟨i,hi,ei⟩,j,hj,ej⟩:=some_of h0 hk
  have h2:=(ok i hi).2.1
  have h3:=(ok j hj).2.1
  rw [hv i hi,ei] at h2
  rw [hv j hj,ej] at h3
  simp at h2 h3
  exact h3.trans h2.symm
 ·rintro rfl
  refine ⟨h1,h64,fun j hj=>⟨hl j hj,?_,?_⟩⟩
  ·rw [hv j hj,hv 0 (by omega)];split <;> split <;> rfl
  ·rw [hv j hj];split <;> assumption
end CM
end Go.Proofs.YtaalagkbpeinkaaGreat
