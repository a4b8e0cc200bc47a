/- Packed: Rep8, RefId, Mark5, Put5, All5, Rows7. -/
import Derived.Laws.Rows
import Derived.Test.YtlklmhojadlncaaGreatTk11
import Derived.Laws.BitsAllLaws
import Derived.Laws.MakeOwn
set_option linter.unusedSimpArgs false
set_option linter.unusedVariables false
set_option maxRecDepth 100000
namespace Go.Proofs.YtlklmhojadlncaaGreat
open Go.RowKit
abbrev geoV (g:SP.Geo):Value:=.agg #[.int .i64 (g.k:Int),.int .i64 (g.n:Int),.int .i64 (g.s:Int)]
structure SI (F:Nat->Prop) (w:World) (s a:Nat) (g:SP.Geo) (R:AM.Raw):Prop where
 i:Is F w a R
 top:w.heap[s]?=some (.cells #[ptr a,.int .i64 (g.k:Int),.int .i64 (g.n:Int),.int .i64 (g.s:Int),.int .i64 (g.f:Int)] 70 (0,0))
 nf:¬ F s
 ok:g.Ok R
section
variable {F F':Nat->Prop} {w w':World} {s a:Nat} {g:SP.Geo} {R R':AM.Raw}
theorem SI.lt (h:SI F w s a g R):s < w.heap.size:=(Array.getElem?_eq_some_iff.1 h.top).1
theorem SI.step (h:SI F w s a g R) (hi:Is F' w' a R') (st:Step F w F' w') (ok:g.Ok R'):SI F' w' s a g R' :=
 ⟨hi,by rw[st.upd.block s h.lt h.nf];exact h.top,fun hf=>by
   rcases st.sub s hf with h1 | h1
   ·exact h.nf h1
   ·have:=h.lt;omega,ok⟩
theorem SI.keep (h:SI F w s a g R) (gr:w.grownBy w' none):SI F w' s a g R:=h.step (h.i.keep gr) (Step.new gr) h.ok
theorem SI.at1 (h:SI F w s a g R):w.cell? ⟨s,0,none⟩=some (ptr a):=topCell (j:=0) h.top rfl
theorem SI.at2 (h:SI F w s a g R):w.cell? ⟨s,1,none⟩=some (.int .i64 (g.k:Int)):=topCell (j:=1) h.top rfl
theorem SI.at3 (h:SI F w s a g R):w.cell? ⟨s,2,none⟩=some (.int .i64 (g.n:Int)):=topCell (j:=2) h.top rfl
theorem SI.at4 (h:SI F w s a g R):w.cell? ⟨s,3,none⟩=some (.int .i64 (g.s:Int)):=topCell (j:=3) h.top rfl
theorem SI.at5 (h:SI F w s a g R):w.cell? ⟨s,4,none⟩=some (.int .i64 (g.f:Int)):=topCell (j:=4) h.top rfl
theorem smade_yes (h:SI F w s a g R):Calls Tryz.prog 28 #[ptr s] w fun e w'=>e=.returned (.bool true)/\w'=w:=by
 have c0:=h.at1
 clear h
 go_enter Tryz.func28,Tryz.ntmps28
 go_wp2
 go_ret
 exact⟨rfl,rfl⟩
theorem sarray_yes (h:SI F w s a g R):Calls Tryz.prog 11 #[ptr s] w fun e w'=>e=.returned (ptr a)/\w'=w:=by
 have c0:=h.at1
 have H:Hid (SI F w s a g R):=h
 clear h
 go_enter Tryz.func11,Tryz.ntmps11
 go_wp2_with (go_at_call 28;refine (smade_yes H.out).mono ?_;rintro e w1 ⟨rfl,hw⟩;obtain rfl:=hw.symm;clear hw)
 go_ret
 exact⟨rfl,rfl⟩
theorem Tryz.sizeGeo:(Tryz.prog.info? 57).map (·.size)=some 3:=by kernel_rfl
theorem sgeo_yes (h:SI F w s a g R):Calls Tryz.prog 34 #[ptr s] w fun e w'=>e=.returned (geoV g)/\w.grownBy w' none:=by
 have H:Hid (∀ w',w.grownBy w' none->SI F w' s a g R):=fun w' gr=>h.keep gr
 have G0:∀ V T,w.grownBy (w.alloc (.cells V T)) none:=fun V T=>World.grownBy_alloc w _ none
 have HG0:Hid (∀ V T,w.grownBy (w.alloc (.cells V T)) none):=G0
 clear h G0
 go_enter Tryz.func34,Tryz.ntmps34
 go_wp2_with (go_at_call 28;refine (smade_yes (H.out _ (HG0.out _ _))).mono ?_;rintro e w1 ⟨rfl,hw⟩;obtain rfl:=hw.symm;clear hw;have c1:=(H.out _ (HG0.out #[.int .i64 0,.int .i64 0,.int .i64 0] 57)).at2;have c2:=(H.out _ (HG0.out #[.int .i64 0,.int .i64 0,.int .i64 0] 57)).at3;have c3:=(H.out _ (HG0.out #[.int .i64 0,.int .i64 0,.int .i64 0] 57)).at4)
 exact bodyPost_ret (results_cell_row rfl _ _ w.heap.size 57 #[.int .i64 (g.k:Int),.int .i64 (g.n:Int),.int .i64 (g.s:Int)] (0,0) _ rfl (heap_alloc_new w _) Tryz.underlying57 rfl Tryz.sizeGeo) rfl ⟨rfl,HG0.out _ _⟩
theorem sreach_yes (h:SI F w s a g R) (slot:Int):Calls Tryz.prog 42 #[ptr s,.int .i64 slot] w fun e w'=>e=.returned (.int .i64 (SP.why R g slot:Int))/\w'=w:=by
 have c0:=h.at1
 have c3:=h.at4
 have H:Hid (SI F w s a g R):=h
 clear h
 obtain⟨b,hb⟩:∃ b,b=R.off:=⟨_,rfl⟩
 have HB:Hid (b=R.off):=hb
 have HO:Hid (Calls Tryz.prog 33 #[ptr a] w fun e w'=>e=.returned (.bool b)/\w'=w):=by rw[hb];exact off_yes H.out.i
 obtain⟨y,hy⟩:∃ y,y=SP.why R g slot:=⟨_,rfl⟩
 rw[<- hy]
 unfold SP.why at hy
 rw[<- hb] at hy
 clear hb
 cases b
 ·simp only[Bool.false_eq_true,if_false] at hy
  by_cases h1:slot < 0
  ·rw[if_neg (by omega)] at hy
   subst hy
   go_enter Tryz.func42,Tryz.ntmps42
   go_wp2_with (first
    | (go_at_call 28;refine (smade_yes H.out).mono ?_;rintro e w1 ⟨rfl,hw⟩;obtain rfl:=hw.symm;clear hw)
    | (go_at_call 33;refine HO.out.mono ?_;rintro e w1 ⟨rfl,hw⟩;obtain rfl:=hw.symm;clear hw))
   go_ret
   exact⟨rfl,rfl⟩
  ·by_cases h2:slot < (g.s:Int)
   ·have h3:¬ (g.s:Int)<=slot:=by omega
    rw[if_pos ⟨by omega,h2⟩] at hy
    subst hy
    go_enter Tryz.func42,Tryz.ntmps42
    go_wp2_with (first
     | (go_at_call 28;refine (smade_yes H.out).mono ?_;rintro e w1 ⟨rfl,hw⟩;obtain rfl:=hw.symm;clear hw)
     | (go_at_call 33;refine HO.out.mono ?_;rintro e w1 ⟨rfl,hw⟩;obtain rfl:=hw.symm;clear hw))
    go_ret
    exact⟨rfl,rfl⟩
   ·have h3:(g.s:Int)<=slot:=by omega
    rw[if_neg (by omega)] at hy
    subst hy
    go_enter Tryz.func42,Tryz.ntmps42
    go_wp2_with (first
     | (go_at_call 28;refine (smade_yes H.out).mono ?_;rintro e w1 ⟨rfl,hw⟩;obtain rfl:=hw.symm;clear hw)
     | (go_at_call 33;refine HO.out.mono ?_;rintro e w1 ⟨rfl,hw⟩;obtain rfl:=hw.symm;clear hw))
    go_ret
    exact⟨rfl,rfl⟩
 ·simp only[if_true] at hy
  subst hy
  go_enter Tryz.func42,Tryz.ntmps42
  go_wp2_with (first
   | (go_at_call 28;refine (smade_yes H.out).mono ?_;rintro e w1 ⟨rfl,hw⟩;obtain rfl:=hw.symm;clear hw)
   | (go_at_call 33;refine HO.out.mono ?_;rintro e w1 ⟨rfl,hw⟩;obtain rfl:=hw.symm;clear hw))
  go_ret
  exact⟨rfl,rfl⟩
theorem sreach_at (h:SI F w s a g R) {slot c:Int} (hc:(SP.why R g slot:Int)=c):Calls Tryz.prog 42 #[ptr s,.int .i64 slot] w fun e w'=>e=.returned (.int .i64 c)/\w'=w:=by
 subst hc
 exact sreach_yes h slot
theorem sreachD_yes (h:SI F w s a g R) (d slot:Int):Calls Tryz.prog 84 #[ptr s,.int .i64 d,.int .i64 slot] w fun e w'=>e=.returned (.int .i64 (SP.whyD R g d slot:Int))/\w'=w:=by
 have c2:=h.at3
 have H:Hid (SI F w s a g R):=h
 clear h
 obtain⟨b,hb⟩:∃ b,b=SP.why R g slot:=⟨_,rfl⟩
 have HO:Hid (Calls Tryz.prog 42 #[ptr s,.int .i64 slot] w fun e w'=>e=.returned (.int .i64 (b:Int))/\w'=w):=by rw[hb];exact sreach_yes H.out slot
 obtain⟨y,hy⟩:∃ y,y=SP.whyD R g d slot:=⟨_,rfl⟩
 rw[<- hy]
 unfold SP.whyD at hy
 rw[<- hb] at hy
 clear hb H
 by_cases h0:b=0
 ·subst h0
  rw[if_neg (by omega)] at hy
  by_cases h1:d < 0
  ·rw[if_neg (by omega)] at hy
   subst hy
   go_enter Tryz.func84,Tryz.ntmps84
   go_wp2_with (go_at_call 42;refine HO.out.mono ?_;rintro e w1 ⟨rfl,hw⟩;obtain rfl:=hw.symm;clear hw)
   go_ret
   exact⟨rfl,rfl⟩
  ·by_cases h2:d < (g.n:Int)
   ·have h3:¬ (g.n:Int)<=d:=by omega
    rw[if_pos ⟨by omega,h2⟩] at hy
    subst hy
    go_enter Tryz.func84,Tryz.ntmps84
    go_wp2_with (go_at_call 42;refine HO.out.mono ?_;rintro e w1 ⟨rfl,hw⟩;obtain rfl:=hw.symm;clear hw)
    go_ret
    exact⟨rfl,rfl⟩
   ·have h3:(g.n:Int)<=d:=by omega
    rw[if_neg (by omega)] at hy
    subst hy
    go_enter Tryz.func84,Tryz.ntmps84
    go_wp2_with (go_at_call 42;refine HO.out.mono ?_;rintro e w1 ⟨rfl,hw⟩;obtain rfl:=hw.symm;clear hw)
    go_ret
    exact⟨rfl,rfl⟩
 ·rw[if_pos h0] at hy
  subst hy
  have hne:((y:Int) != 0)=true:=by simp;omega
  go_enter Tryz.func84,Tryz.ntmps84
  go_wp2_with (go_at_call 42;refine HO.out.mono ?_;rintro e w1 ⟨rfl,hw⟩;obtain rfl:=hw.symm;clear hw)
  go_ret
  exact⟨rfl,rfl⟩
theorem sbegin_yes (h:SI F w s a g R) {slot:Nat} (hs:slot < g.s):Calls Tryz.prog 73 #[ptr s,.int .i64 (slot:Int)] w fun e w'=>e=.returned (.int .i64 ((g.f+8 * slot:Nat):Int))/\w'=w:=by
 have c4:=h.at5
 have h1:=h.ok.room
 have h2:=h.i.ok.n2
 have i1:IntKind.i64.wrap (8 * (slot:Int))=8 * (slot:Int):=IntWalk.i64_in _ (by omega)
 have i2:IntKind.i64.wrap ((g.f:Int)+8 * (slot:Int))=((g.f+8 * slot:Nat):Int):=by
  have e:(g.f:Int)+8 * (slot:Int)=((g.f+8 * slot:Nat):Int):=by omega
  rw[e]
  exact IntWalk.i64_in _ (by omega)
 clear h h1 h2
 go_enter Tryz.func73,Tryz.ntmps73
 go_wp2
 go_ret
 exact⟨by first | rfl | (congr 2;omega),rfl⟩
end
theorem cell_new1 {W:World} {g:Nat} (x:Value) (t:TypeId) (h:g=W.heap.size):(W.alloc (.cells #[x] t)).cell? ⟨g,0,none⟩=some x:=by
 subst h
 have h:=heap_alloc_new W (.cells #[x] t)
 unfold World.cell?
 rw[h];rfl
def markTo (n j:Nat):List Nat:=(List.range 8).map fun i=>if 8 - j<=i then n / 256 ^ (7 - i) % 256 else 0
theorem markTo_len (n j:Nat):(markTo n j).length=8:=by simp[markTo]
theorem markTo_zero (n:Nat):markTo n 0=SM.z 8:=by
 simp only[markTo,SM.z]
 rw[List.eq_replicate_iff]
 refine⟨by simp,fun b hb=>?_⟩
 obtain⟨i,hi,rfl⟩:=List.mem_map.1 hb
 rw[if_neg (by have:=List.mem_range.1 hi;omega)]
theorem markTo_all (n:Nat):markTo n 8=SM.mk n:=by simp[markTo,SM.mk]
theorem markTo_set (n j:Nat) (h:j < 8):(markTo n j).set (7 - j) (n / 256 ^ j % 256)=markTo n (j+1):=by
 apply SM.ext_getD (by simp[markTo])
 intro i hi
 have hi':i < 8:=by simpa [markTo] using hi
 by_cases e:7 - j=i
 ·subst e
  have e2:7 - (7 - j)=j:=by omega
  simp[markTo,List.getD,hi',e2]
  omega
 ·have e3:(7<=i+j)=(8<=i+j):=by apply propext;omega
  simp[markTo,List.getD,hi',e,e3]
theorem pow_256 (j:Nat):2 ^ (8 * j)=256 ^ j:=by rw[Nat.pow_mul]
theorem byte_cast (n j:Nat):((n:Int) / 2 ^ (8 * j) % 256)=((n / 256 ^ j % 256:Nat):Int):=by
 rw[<- pow_256];simp
theorem or_bytes {v y:Nat} (hv:v < 72057594037927936) (hy:y < 256):bits .or .u64 ((v:Int) * 256) (y:Int)=((256 * v+y:Nat):Int):=by
 have e:(v:Int) * 256=((256 * v:Nat):Int):=by omega
 rw[e,u64_or_nat _ _ (by omega) (by omega)]
 have:=Nat.two_pow_add_eq_or_of_lt (i:=8) hy v
 rw[show 2 ^ 8=256 by rfl] at this
 rw[this]
theorem zeroM (w:World):(zeroValue 165).run Tryz.prog w=.ok (.agg (rowOf (SM.z 8))) w:=by
 have h:(Tryz.prog.info? 165).map (fun i=>(i.zero,i.size))=some (some (.agg (rowOf (SM.z 8))),8):=by kernel_rfl
 cases hq:Tryz.prog.info? 165 with
 | none=>simp[hq] at h
 | some i=>simp[hq] at h;simp[zeroValue,typeInfo,hq,h.1]
theorem infoM {xs:List Nat} (h:xs.length=8):(Tryz.prog.info? 165).map (·.size)=some (rowOf xs).size:=by rw[rowOf_size,h];kernel_rfl
set_option maxHeartbeats 800000 in
theorem marked_any (n:Nat) (w:World) :
 Calls Tryz.prog 105 #[.int .u64 (n:Int)] w fun e w'=>e=.returned (.agg (rowOf (SM.mk n)))/\w.grownBy w' none:=by
 have zM:=zeroM
 go_enter Tryz.func105,Tryz.ntmps105
 go_wp2
 clear zM
 go_loopw [4] (fun ti wr=>∃ j:Nat,j<=8/\ti=.int .i64 j/\Hid (wr.heap[w.heap.size]?=some (.cells (rowOf (markTo n j)) 165 (0,0)))/\Hid (w.grownBy wr none)) (fun ti _=>8 - (intOf ti).toNat)
 case atStart =>
  refine⟨0,by omega,rfl,?_,gb_alloc (World.grownBy.refl _ _) _⟩
  rw[markTo_zero]
  exact heap_alloc_new w _
 case round =>
  obtain⟨j,hj,rfl,HM,HG⟩:=hrel
  by_cases hlt:j < 8
  ·have i1:(j:Int) < 8:=by omega
   have hc:wr.cell? ⟨w.heap.size,7 - j,none⟩=some (.int .u8 (((markTo n j).getD (7 - j) 0:Nat):Int)):=by rw[cell_of_row _ _ _ _ _ _ HM.out,rowOf_get _ (by rw[markTo_len];omega)]
   have hf:wr.frozen? ⟨w.heap.size,7 - j,none⟩=false:=frozen_of_row _ _ _ _ _ HM.out
   have HP:Hid ((wr.setCell ⟨w.heap.size,7 - j,none⟩ (.int .u8 ((n / 256 ^ j % 256:Nat):Int))).heap[w.heap.size]?=some (.cells (rowOf (markTo n (j+1))) 165 (0,0))):=by
    show _=_
    rw[heap_setCell_same _ _ _ _ _ _ HM.out,rowOf_set,markTo_set n j hlt]
   have HGN:Hid (w.grownBy (wr.setCell ⟨w.heap.size,7 - j,none⟩ (.int .u8 ((n / 256 ^ j % 256:Nat):Int))) none):=gb_setCell HG.out (by simp) _
   rw[<- byte_cast] at HP HGN
   clear HM HG
   go_wp2
   go_roundw
   case rel=>exact⟨j+1,by omega,by go_num,HP,HGN⟩
   case measure=>simp[intOf];omega
  ·have i1:¬ (j:Int) < 8:=by omega
   have HM':wr.heap[w.heap.size]?=some (.cells (rowOf (SM.mk n)) 165 (0,0)):=by
    have e:j=8:=by omega
    rw[<- markTo_all,<- e];exact HM.out
   clear HM
   have HI:Hid ((Tryz.prog.info? 165).map (·.size)=some (rowOf (SM.mk n)).size):=infoM (SM.mk_len n)
   have HP:Hid (wr.heap[w.heap.size]?=some (.cells (rowOf (SM.mk n)) 165 (0,0))):=HM'
   have H1:Hid ((rowOf (SM.mk n)).all (·.oneCell')=true):=rowOf_one _
   have HSR:Hid (wr.setRow w.heap.size (rowOf (SM.mk n))=wr):=setRow_self wr w.heap.size _ _ _ HM'
   clear HM'
   obtain⟨AR,hAR⟩:∃ AR,AR=rowOf (SM.mk n):=⟨_,rfl⟩
   rw[<- hAR] at HI HP H1 HSR
   have HAR:Hid (AR=rowOf (SM.mk n)):=hAR
   clear hAR
   go_wp2_with (first
    | refine wpList_load_row rfl 165 (.tmp 2) rfl w.heap.size rfl 165 AR (0,0) _ HP.out Tryz.underlying165 rfl HI.out ?_
    | (refine wpList_store_row rfl 165 (.tmp 2) (.tmp 16) rfl w.heap.size AR rfl rfl 165 AR HP.out HI.out rfl H1.out ?_;rw[HSR.out]))
   exact bodyPost_ret (results_cell_row rfl _ _ w.heap.size 165 AR (0,0) _ rfl HP.out Tryz.underlying165 rfl HI.out) rfl ⟨by rw[HAR.out],HG.out⟩
set_option maxHeartbeats 800000 in
theorem stampOf_any {w:World} {v:Value} {xs:List Nat} (hv:Vec w v xs) (h8:8<=xs.length) :
 Calls Tryz.prog 97 #[v] w fun e w'=>e=.returned (.int .u64 ((SM.val xs 8:Nat):Int))/\w'=w:=by
 obtain⟨q,N,cap,rfl,hN⟩:=hv.opened
 obtain⟨b,off,rfl,_⟩:=hv.spot (k:=0) (by omega)
 have hcap:N<=cap:=by
  obtain⟨p',cap',e,h3,_⟩:=hv.form
  injection e with e1 e2 e3
  omega
 have hN8:8<=N:=by omega
 have HV:Hid (Vec w (.slice (some ⟨b,off,none⟩) N cap) xs):=hv
 have HS:Hid (∀ x ∈ xs,x < 256):=hv.small
 clear hv hN
 go_enter Tryz.func97,Tryz.ntmps97
 go_wp2
 go_loop [3,9] (fun ts ti=>∃ k:Nat,k<=8/\ti=.int .i64 k/\ts=.int .u64 ((SM.val xs k:Nat):Int)) (fun _ ti=>8 - (intOf ti).toNat)
 case atStart=>exact⟨0,by omega,rfl,rfl⟩
 case round =>
  obtain⟨k,hk,rfl,rfl⟩:=hrel
  by_cases hlt:k < 8
  ·have i1:(k:Int) < 8:=by omega
   obtain⟨b',off',e,hc,h256⟩:=HV.out.spot (k:=k) (by omega)
   injection e with e
   injection e with e1 e2
   subst e1
   subst e2
   have h7:SM.val xs k < 72057594037927936:=by
    have h1:=SM.val_lt HS.out k
    have h2:256 ^ k<=256 ^ 7:=Nat.pow_le_pow_right (by decide) (by omega)
    have h3:256 ^ 7=72057594037927936:=by decide
    omega
   have HOR:Hid (bits .or .u64 (((SM.val xs k:Nat):Int) * 256) ((xs.getD k 0:Nat):Int)=((SM.val xs (k+1):Nat):Int)):=or_bytes h7 h256
   generalize xs.getD k 0=y at *
   go_wp2
   go_round
   case rel=>exact⟨k+1,by omega,by go_num,by rw[HOR.out]⟩
   case measure=>simp[intOf];omega
  ·have i1:¬ (k:Int) < 8:=by omega
   have HE:Hid (SM.val xs k=SM.val xs 8):=by
    have e:k=8:=by omega
    show _=_
    rw[e]
   go_wp2
   go_ret
   exact⟨by rw[HE.out];rfl,rfl⟩
theorem zeroS (w:World):(zeroValue 78).run Tryz.prog w=.ok (.agg (rowOf (SM.z 64))) w:=by
 have h:(Tryz.prog.info? 78).map (fun i=>(i.zero,i.size))=some (some (.agg (rowOf (SM.z 64))),64):=by kernel_rfl
 cases hq:Tryz.prog.info? 78 with
 | none=>simp[hq] at h
 | some i=>simp[hq] at h;simp[zeroValue,typeInfo,hq,h.1]
abbrev Sect (B:Nat) (w:World) (v:Value) (xs:List Nat):Prop:=Arr 78 B w v xs
theorem sec_cur (n:Nat) (ld:List Nat) (h:ld.length<=56):(SM.mk n++SM.z 56).take 8++ld++(SM.mk n++SM.z 56).drop (8+ld.length)=SM.sec n ld:=by
 have e1:(SM.mk n++SM.z 56).take 8=SM.mk n:=by rw[List.take_append_of_le_length (by rw[SM.mk_len];exact Nat.le_refl _),List.take_of_length_le (by rw[SM.mk_len];exact Nat.le_refl _)]
 have e2:(SM.mk n++SM.z 56).drop (8+ld.length)=SM.z (56 - ld.length):=by
  rw[List.drop_append,SM.mk_len,List.drop_eq_nil_of_le (by rw[SM.mk_len];omega),List.nil_append,SM.z_drop,Nat.add_sub_cancel_left]
 rw[e1,e2,SM.sec,List.append_assoc]
set_option maxHeartbeats 1600000 in
theorem put_yes {w:World} {n:Nat} {v:Value} {ld:List Nat} (hv:Vec w v ld) (hl:ld.length<=56) :
 Calls Tryz.prog 96 #[.int .u64 (n:Int),v] w fun e w'=>∃ p,e=.returned (.tuple #[.slice p 64 64,.int .i64 0])/\Sect w.heap.size w' (.slice p 64 64) (SM.sec n ld)/\w.grownBy w' none:=by
 obtain⟨q,N,cap,rfl,hN⟩:=hv.opened
 have i1:¬ (56:Int) < (N:Int):=by omega
 have HN:Hid (N=ld.length):=hN
 have HV:Hid (∀ w',w.grownBy w' none->Vec w' (.slice q N cap) ld):=fun w' g=>hv.keep g
 clear hv hN
 have zS:=zeroS
 have zM:=zeroM
 go_enter Tryz.func96,Tryz.ntmps96
 go_wp2_with (first
  | (go_at_call 105;refine (marked_any n _).mono ?_;rintro e w2 ⟨rfl,g2⟩)
  | (refine wpList_store_row rfl 165 (.tmp 7) (.tmp 12) rfl w2.heap.size (rowOf (SM.mk n)) rfl rfl 165 (rowOf (SM.z 8)) (heap_alloc_new w2 _) (infoM (SM.mk_len n)) (by rw[rowOf_size,rowOf_size,SM.mk_len,SM.z_len]) (rowOf_one _) ?_))
 clear zS zM
 have HA:Hid (((w2.alloc (.cells (rowOf (SM.z 8)) 165)).setRow w2.heap.size (rowOf (SM.mk n))).heap[w.heap.size]?=some (.cells (rowOf (SM.z 64)) 78 (0,0))):=by
  have hlt:w.heap.size < w2.heap.size:=by have:=g2.size;simp at this;omega
  show _=_
  rw[setRow_other _ _ _ _ (by omega)]
  refine heap_old _ _ ?_
  rw[g2.block _ (by simp) (by simp)]
  exact heap_alloc_new w _
 have HB:Hid (((w2.alloc (.cells (rowOf (SM.z 8)) 165)).setRow w2.heap.size (rowOf (SM.mk n))).heap[w2.heap.size]?=some (.cells (rowOf (SM.mk n)) 165 (0,0))):=setRow_heap _ _ _ _ _ _ (heap_alloc_new w2 _)
 have HG:Hid (w.grownBy ((w2.alloc (.cells (rowOf (SM.z 8)) 165)).setRow w2.heap.size (rowOf (SM.mk n))) none):=gb_setRow (gb_alloc (grown_trans (gb_alloc (World.grownBy.refl _ _) _) g2) _) (by have:=g2.size;simp at this;omega) _
 have HLT:Hid (w.heap.size < w2.heap.size):=by have:=g2.size;simp at this;show _ < _;omega
 clear g2
 generalize (w2.alloc (.cells (rowOf (SM.z 8)) 165)).setRow w2.heap.size (rowOf (SM.mk n))=W at *
 generalize w2.heap.size=h2 at *
 go_wp2_with fail
 have VB:Hid (Vec W.drew (.slice (some ⟨h2,0,none⟩) 8 8) (SM.mk n)):=((Arr.whole (B:=0) (n:=8) HB.out (Nat.zero_le _) (by rw[SM.mk_len]) (SM.mk_small n) (by rw[SM.mk_len];decide)).vec.keep (grown_drewN W 1))
 go_region_held3 (fun w'=>w.grownBy w' none) (first | exact gb_drew HG.out | exact HG4.out)
  ((refine step_copy_part (T:=78) (cur:=SM.z 64) (ys:=SM.mk n) (by rfl) _ _ (by rfl) _ (by rfl) (by rfl) HA.out VB.out (by rw[SM.mk_len];decide) (by rw[SM.mk_len,SM.z_len];decide) ?_;intro w4 h4 g4;have HG4:Hid (w.grownBy w4 none):=grown_new (gb_drew HG.out) g4 (fun i e=>by have:=Option.some.inj e;omega)))
 have H4:Hid (w4.heap[w.heap.size]?=some (.cells (rowOf (SM.mk n++SM.z 56)) 78 (0,0))):=by
  show _=_
  rw[h4,List.take_zero,List.nil_append,SM.mk_len,SM.z_drop]
 clear h4 g4 VB HA HB HG HLT
 have hS:Hid ((SM.mk n++SM.z 56).take 8++ld++(SM.mk n++SM.z 56).drop (8+ld.length)=SM.sec n ld):=sec_cur n ld hl
 have HL:Hid ((SM.mk n++SM.z 56).length=64):=by show _=_;rw[List.length_append,SM.mk_len,SM.z_len]
 have VL:Hid (∀ x ∈ ld,x < 256):=(HV.out _ HG4.out).small
 generalize SM.mk n++SM.z 56=cur at *
 go_wp2_with (refine wpList_copy_part rfl _ _ rfl _ (cur:=cur) (ys:=ld) rfl rfl H4.out (HV.out _ HG4.out) hl (by rw[HL.out];omega) ?_;intro w5 h5 g5)
 go_ret2
 rw[hS.out] at h5
 exact⟨_,rfl,Arr.whole h5 (Nat.le_refl _) (SM.sec_len hl).symm (SM.sec_small VL.out) (by rw[SM.sec_len hl];decide),grown_new HG4.out g5 (fun i e=>by have:=Option.some.inj e;omega)⟩
theorem take_short {w:World} {v:Value} {xs:List Nat} (hv:Vec w v xs) (hl:xs.length < 64) :
 Calls Tryz.prog 90 #[v] w fun e w'=>e=.returned (.tuple #[.int .u64 0,.slice none 0 0,.int .i64 4])/\w'=w:=by
 obtain⟨q,N,cap,rfl,hN⟩:=hv.opened
 have i1:(N:Int) < 64:=by omega
 clear hv hN
 go_enter Tryz.func90,Tryz.ntmps90
 go_wp2
 go_ret3
 exact⟨rfl,rfl⟩
theorem take_long {w:World} {v:Value} {xs:List Nat} (hv:Vec w v xs) (hl:64 < xs.length) :
 Calls Tryz.prog 90 #[v] w fun e w'=>e=.returned (.tuple #[.int .u64 0,.slice none 0 0,.int .i64 3])/\w'=w:=by
 obtain⟨q,N,cap,rfl,hN⟩:=hv.opened
 have i1:(64:Int) < (N:Int):=by omega
 clear hv hN
 go_enter Tryz.func90,Tryz.ntmps90
 go_wp2
 go_ret3
 exact⟨rfl,rfl⟩
set_option maxHeartbeats 800000 in
theorem take_yes {w:World} {v:Value} {xs:List Nat} (hv:Vec w v xs) (hl:xs.length=64) :
 Calls Tryz.prog 90 #[v] w fun e w'=>∃ p,e=.returned (.tuple #[.int .u64 ((SM.val xs 8:Nat):Int),.slice p 56 56,.int .i64 0])/\Own w.heap.size w' (.slice p 56 56) (xs.drop 8)/\w.grownBy w' none:=by
 obtain⟨q,N,cap,rfl,hN⟩:=hv.opened
 obtain rfl:N=64:=by omega
 obtain⟨b,off,rfl,_⟩:=hv.spot (k:=0) (by omega)
 have hcap:64<=cap:=by
  obtain⟨p',cap',e,h3,_⟩:=hv.form
  injection e with e1 e2 e3
  omega
 have hcm:cap<=maxLen:=by
  obtain⟨p',cap',e,_,h4,_⟩:=hv.form
  injection e with e1 e2 e3
  omega
 have HV:Hid (∀ w',w.grownBy w' none->Vec w' (.slice (some ⟨b,off,none⟩) 64 cap) xs):=fun w' g=>hv.keep g
 have HT:Hid (∀ w',w.grownBy w' none->Vec w' (.slice (some ⟨b,off+8,none⟩) 56 (cap - 8)) (xs.drop 8)):=fun w' g=>(hv.keep g).tail_a (by omega)
 clear hv hN
 unfold maxLen at hcm
 go_enter Tryz.func90,Tryz.ntmps90
 go_wp2_with (first
  | (at_make;refine wpList_make_vec rfl _ _ rfl 56 rfl rfl (by decide) ?_;intro w1 p ou g1;have OU:Hid (Own w.heap.size w1 (.slice p 56 56) (SM.z 56)):=ou;have G1:Hid (w.grownBy w1 none):=g1;clear ou g1)
  | (refine wpList_copy_vec rfl _ _ rfl _ _ rfl rfl OU.out (HT.out _ G1.out) (by rw[SM.z_len,List.length_drop,hl]) ?_;intro w2 o2 g2;have O2:Hid (Own w.heap.size w2 (.slice p 56 56) (xs.drop 8)):=o2;have G2:Hid (w.grownBy w2 none):=grown_new G1.out g2 (fun i e=>OU.out.lo i e);clear o2 g2)
  | (go_at_call 97;refine (stampOf_any (HV.out _ G2.out) (by omega)).mono ?_;rintro e w3 ⟨rfl,hw⟩;obtain rfl:=hw.symm;clear hw))
 go_ret3
 exact⟨p,rfl,O2.out,G2.out⟩
def takeN (xs:List Nat):Nat:=if xs.length=64 then SM.val xs 8 else 0
def takeL (xs:List Nat):List Nat:=if xs.length=64 then xs.drop 8 else []
def takeE (xs:List Nat):Int:=if xs.length=64 then 0 else if xs.length < 64 then 4 else 3
theorem take_all {w:World} {v:Value} {xs:List Nat} (hv:Vec w v xs) :
 Calls Tryz.prog 90 #[v] w fun e w'=>∃ p k,e=.returned (.tuple #[.int .u64 ((takeN xs:Nat):Int),.slice p k k,.int .i64 (takeE xs)])/\Own w.heap.size w' (.slice p k k) (takeL xs)/\w.grownBy w' none:=by
 unfold takeN takeL takeE
 by_cases hl:xs.length=64
 ·rw[if_pos hl,if_pos hl,if_pos hl]
  exact (take_yes hv hl).mono fun e w' ⟨p,h⟩=>⟨p,56,h⟩
 ·rw[if_neg hl,if_neg hl,if_neg hl]
  by_cases h2:xs.length < 64
  ·rw[if_pos h2]
   exact (take_short hv h2).mono fun e w' ⟨h1,h2⟩=>⟨none,0,h1,Own.nil _ _,by rw[h2];exact World.grownBy.refl _ _⟩
  ·rw[if_neg h2]
   exact (take_long hv (by omega)).mono fun e w' ⟨h1,h2⟩=>⟨none,0,h1,Own.nil _ _,by rw[h2];exact World.grownBy.refl _ _⟩
theorem mat_n {w:World} {p:Option Addr} {n c:Nat} {us:List Value} {X:List (List Nat)} (h:Mat w (.slice p n c) us X):us.length=n/\X.length=n:=by
 have hs:=h.same
 obtain⟨p',n',c',e',h'⟩:=h.row.opened
 injection e' with e1 e2 e3
 omega
theorem Mat.nil (w:World):Mat w (.slice none 0 0) [] []:=⟨⟨by simp,none,0,rfl,Nat.le_refl _,by decide,fun h=>absurd rfl h⟩,rfl,by simp⟩
structure RMat (T:TypeId) (B:Nat) (w:World) (v:Value) (us:List Value) (X:List (List Nat)):Prop where
 len:us.length * 24<=140737488351232
 row:w.ownsRow B 26 1 v us.length us
 same:us.length=X.length
 vec:∀ j,j < X.length->Arr T B w (us.getD j undef) (X.getD j [])
theorem RMat.nil (T:TypeId) (B:Nat) (w:World):RMat T B w (.slice none 0 0) [] []:=⟨by simp,World.ownsRow_nil w B 26 1,rfl,by simp⟩
theorem RMat.lo {T:TypeId} {B:Nat} {w:World} {v:Value} {us:List Value} {X:List (List Nat)} (h:RMat T B w v us X):Lo B v:=fun k hk=>(h.row.lt k hk).1
theorem RMat.keep {T:TypeId} {B:Nat} {w w':World} {v:Value} {us:List Value} {X:List (List Nat)} (h:RMat T B w v us X) (g:w.grownBy w' none):RMat T B w' v us X :=
 ⟨h.len,h.row.kept g (by cases h:v.ownBlock <;> simp),h.same,fun j hj=>(h.vec j hj).keep g⟩
theorem RMat.kept {T:TypeId} {B:Nat} {w w':World} {v:Value} {us:List Value} {X:List (List Nat)} {row:Option Nat} (h:RMat T B w v us X) (g:w.grownBy w' row) (hr:∀ r,row=some r->∀ c f,w.heap[r]? ≠ some (.cells c 26 f)/\w.heap[r]? ≠ some (.cells c T f)):RMat T B w' v us X:=by
 refine⟨h.len,h.row.kept g ?_,h.same,fun j hj=>(h.vec j hj).kept g ?_⟩
 ·rcases h.row.2 with ⟨e,_⟩ | ⟨b,cap,cur,e,_,hg,_⟩
  ·subst e;exact .inl rfl
  ·subst e
   exact .inr fun e=>(hr b (by simpa [Value.ownBlock] using e.symm) cur (0,0)).1 hg
 ·rcases (h.vec j hj).row.2 with ⟨e,_⟩ | ⟨b,cap,cur,e,_,hg,_⟩
  ·rw[e];exact .inl rfl
  ·rw[e]
   exact .inr fun e=>(hr b (by simpa [Value.ownBlock] using e.symm) cur (0,0)).2 hg
theorem RMat.apart {T T':TypeId} (hT:T' ≠ 26) {B B':Nat} {w:World} {v u:Value} {us:List Value} {X:List (List Nat)} {xs:List Nat} (h:RMat T B w v us X) (hu:Arr T' B' w u xs):u.ownBlock=none\/u.ownBlock ≠ v.ownBlock:=by
 rcases hu.row.2 with ⟨rfl,_⟩ | ⟨g,cap,cur,rfl,_,hg,_⟩
 ·exact .inl rfl
 ·rcases h.row.2 with ⟨rfl,_⟩ | ⟨g',cap',cur',rfl,_,hg',_⟩
  ·exact .inr (by simp[Value.ownBlock])
  ·refine .inr fun e=>?_
   simp only[Value.ownBlock,Option.some.injEq] at e
   subst e
   rw[hg] at hg'
   simp at hg'
   exact hT hg'.2
theorem RMat.more {T:TypeId} (hT:T ≠ 26) {B:Nat} {w w2:World} {v v' u:Value} {us:List Value} {X:List (List Nat)} {xs:List Nat} (h:RMat T B w v us X) (hu:Arr T B w u xs)
 (hl:(us.length+1) * 24<=140737488351232) (hr:w2.ownsRow B 26 1 v' (us.length+1) (us++[u])) (hg:w.grownBy w2 v.ownBlock):RMat T B w2 v' (us++[u]) (X++[xs]):=by
 refine⟨by simpa using hl,by simpa using hr,by simp[h.same],fun j hj=>?_⟩
 have hs:=h.same
 by_cases hj':j < X.length
 ·have e1:(us++[u]).getD j undef=us.getD j undef:=by simp[List.getD,List.getElem?_append,show j < us.length from by omega]
  have e2:(X++[xs]).getD j []=X.getD j []:=by simp[List.getD,List.getElem?_append,hj']
  rw[e1,e2]
  exact (h.vec j hj').kept hg (h.apart hT (h.vec j hj'))
 ·have hj2:j=X.length:=by simp at hj;omega
  have e1:(us++[u]).getD j undef=u:=by simp[List.getD,hj2,<- hs]
  have e2:(X++[xs]).getD j []=xs:=by simp[List.getD,hj2]
  rw[e1,e2]
  exact hu.kept hg (h.apart hT hu)
theorem RMat.mat {T:TypeId} {B:Nat} {w:World} {v:Value} {us:List Value} {X:List (List Nat)} (h:RMat T B w v us X):Mat w v us X:=by
 refine⟨⟨h.len,?_⟩,h.same,fun j hj=>(h.vec j hj).vec⟩
 have hr:=h.row
 rcases h.row.2 with ⟨rfl,hn⟩ | ⟨g,cap,cur,rfl,hb,hg,hc,hm,hs,ht⟩
 ·have:us=[]:=List.eq_nil_of_length_eq_zero hn
  subst this
  exact⟨none,0,rfl,Nat.le_refl _,by decide,fun h=>absurd rfl h⟩
 ·refine⟨some ⟨g,0,none⟩,cap,rfl,hc,hm,fun _=>⟨g,0,rfl,fun j hj=>?_⟩⟩
  have:=hr.cells (g:=g) rfl j (us.getD j undef) (by simp[List.getD,hj])
  rwa [add_at] at this
theorem run_append_row {B:Nat} {w:World} {dv:Value} {us:List Value} (hd:w.ownsRow B 26 1 dv us.length us) (ad:Addr) {u:Value} (hu:w.cell? ad=some u) (h1:u.oneCell'=true) (hB:B<=w.heap.size) (hl:(us.length+1) * 24<=140737488351232) (ty:TypeId) :
 ∃ v' w',(Builtin.append_ #[88,88] ty #[dv,.slice (some ad) 1 1]).run Tryz.prog w=.ok v' w'/\w'.ownsRow B 26 1 v' (us.length+1) (us++[u])/\w.grownBy w' dv.ownBlock/\(v'.ownBlock=dv.ownBlock\/v'.ownBlock=some w.heap.size):=by
 obtain⟨i0,hi,hz0,hz1,hz2⟩:=info_parts Tryz.info22
 obtain⟨v',w',r1,r2,r3,_,r5⟩:=run_append_own_at (P:=Tryz.prog) w B 88 ty 26 i0 (.slice none 0 0) 1 24 Tryz.underlying88 hi hz0 hz1 hz2 rfl (by decide) dv us.length us hd ad 1 1 [u] (by simp)
  (fun j v hj=>by
    match j,hj with
    | 0,hj=>simp at hj;subst hj;simpa [Addr.add] using hu)
  (fun v hv=>by simp at hv;subst hv;exact h1) (by unfold maxLen;omega) (by omega) hB
 exact⟨v',w',r1,by simpa using r2,r3,r5⟩
theorem wpList_append_row {w:World} {ops:Array Oper} {rest:List Oper} {o:Oper} {a:Act} {Q:Exit->Act->World->Prop} (hgd:o.guard=none) (d s:Operand)
 (ho:o.op=.call { callee:=.builtin .append,args:=#[d,s],argTypes:=#[88,88] }) (dv:Value) (ad:Addr) (hed:a.eval d=dv) (hes:a.eval s=.slice (some ad) 1 1)
 {B:Nat} {us:List Value} {u:Value} (hd:w.ownsRow B 26 1 dv us.length us) (hu:w.cell? ad=some u) (h1:u.oneCell'=true) (hB:B<=w.heap.size) (hl:(us.length+1) * 24<=140737488351232)
 (h:∀ v' w',w'.ownsRow B 26 1 v' (us.length+1) (us++[u])->w.grownBy w' dv.ownBlock->(v'.ownBlock=dv.ownBlock\/v'.ownBlock=some w.heap.size)->wpList Tryz.prog ops Q rest (a.put o.dst v') w'):wpList Tryz.prog ops Q (o :: rest) a w:=by
 refine wpList_plain hgd fun K hK=>?_
 obtain⟨v',w',hrun,r1,r2,r3⟩:=run_append_row hd ad hu h1 hB hl o.type
 unfold Oper.wp
 simp[execOp,ho,resolve,invoke,builtin,hed,hes,hrun,Result.andThen]
 exact hK _ _ (h _ _ r1 r2 r3)
theorem step_append_row {ops:Array Oper} {o:Oper} {a:Act} {w:World} {K:Act->World->Prop} {Q:Exit->Act->World->Prop} {E:Prop} (hgd:o.guard=none) (d s:Operand)
 (ho:o.op=.call { callee:=.builtin .append,args:=#[d,s],argTypes:=#[88,88] }) (dv:Value) (ad:Addr) (hed:a.eval d=dv) (hes:a.eval s=.slice (some ad) 1 1)
 {B:Nat} {us:List Value} {u:Value} (hd:w.ownsRow B 26 1 dv us.length us) (hu:w.cell? ad=some u) (h1:u.oneCell'=true) (hB:B<=w.heap.size) (hl:(us.length+1) * 24<=140737488351232)
 (h:∀ v' w',w'.ownsRow B 26 1 v' (us.length+1) (us++[u])->w.grownBy w' dv.ownBlock->(v'.ownBlock=dv.ownBlock\/v'.ownBlock=some w.heap.size)->K (a.put o.dst v') w') :
 if Region.wanted o (yielded ops a.tmps)=true then Oper.wp Tryz.prog o a w K Q else E:=by
 have hw:Region.wanted o (yielded ops a.tmps)=true:=by simp[Region.wanted,hgd]
 rw[if_pos hw]
 obtain⟨v',w',hrun,r1,r2,r3⟩:=run_append_row hd ad hu h1 hB hl o.type
 unfold Oper.wp
 simp[execOp,ho,resolve,invoke,builtin,hed,hes,hrun,Result.andThen]
 exact h _ _ r1 r2 r3
theorem run_make_room (W:World) {n:Nat} (hn:n<=140737488351232):∃ w',(Instr.makeSlice 26 (.int .i64 0) (.int .i64 (n:Int))).run Tryz.prog W=.ok (.slice (some ⟨W.heap.size,0,none⟩) 0 n) w'/\Own W.heap.size w' (.slice (some ⟨W.heap.size,0,none⟩) 0 n) []/\W.grownBy w' none:=by
 obtain⟨i0,hi,hz0,hz1,hz2⟩:=info_parts Tryz.info5
 obtain⟨w',h1,h2,h3⟩:=run_make_own (P:=Tryz.prog) W W.heap.size 26 5 i0 (.int .u8 0) 1 Tryz.underlying26 hi hz0 hz1 .i64 .i64 n (by rw[hz2];omega) (by unfold maxLen;omega) (Nat.le_refl _)
 exact⟨w',h1,⟨by simp,by simp,by simpa using h2⟩,h3⟩
theorem wpList_make_room {w:World} {ops:Array Oper} {rest:List Oper} {o:Oper} {a:Act} {Q:Exit->Act->World->Prop} (hgd:o.guard=none) (l c:Operand)
 (ho:o.op=Op.makeSlice 26 l c) (n:Nat) (hel:a.eval l=.int .i64 0) (hec:a.eval c=.int .i64 (n:Int)) (hn:n<=140737488351232)
 (h:∀ w1,Own w.heap.size w1 (.slice (some ⟨w.heap.size,0,none⟩) 0 n) []->w.grownBy w1 none->wpList Tryz.prog ops Q rest (a.put o.dst (.slice (some ⟨w.heap.size,0,none⟩) 0 n)) w1):wpList Tryz.prog ops Q (o :: rest) a w:=by
 refine wpList_plain hgd fun K hK=>?_
 obtain⟨w',hrun,r1,r2⟩:=run_make_room w hn
 unfold Oper.wp
 simp[execOp,ho,hel,hec,hrun,Result.andThen]
 exact hK _ _ (h _ r1 r2)
theorem run_make_rows0 (W:World) {n:Nat} (hn:n * 24<=140737488351232):∃ w',(Instr.makeSlice 88 (.int .i64 0) (.int .i64 (n:Int))).run Tryz.prog W=.ok (.slice (some ⟨W.heap.size,0,none⟩) 0 n) w'/\w'.ownsRow W.heap.size 26 1 (.slice (some ⟨W.heap.size,0,none⟩) 0 n) 0 []/\W.grownBy w' none:=by
 obtain⟨i0,hi,hz0,hz1,hz2⟩:=info_parts Tryz.info22
 exact run_make_own (P:=Tryz.prog) W W.heap.size 88 26 i0 (.slice none 0 0) 1 Tryz.underlying88 hi hz0 hz1 .i64 .i64 n (by rw[hz2];omega) (by unfold maxLen;omega) (Nat.le_refl _)
end Go.Proofs.YtlklmhojadlncaaGreat
