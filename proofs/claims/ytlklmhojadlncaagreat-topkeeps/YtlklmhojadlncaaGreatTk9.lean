/- Packed: Del6, Lose6. -/
import Derived.Test.YtlklmhojadlncaaGreatTk8
set_option linter.unusedSimpArgs false
set_option linter.unusedVariables false
set_option maxRecDepth 100000
namespace Go.Proofs.YtlklmhojadlncaaGreat
open Go.RowKit
theorem heap_setCells {g:Nat} {t:TypeId}:∀ (vs:List Value) (o:Nat) (w:World) (cur:Array Value),w.heap[g]?=some (.cells cur t (0,0))->∃ cur',(w.setCells g o vs).heap[g]?=some (.cells cur' t (0,0))/\cur'.size=cur.size/\(∀ j,(j < o\/o+vs.length<=j)->cur'[j]?=cur[j]?)/\(o+vs.length<=cur.size->∀ j,j < vs.length->cur'[o+j]?=vs[j]?):=by
 intro vs
 induction vs with
 | nil=>intro o w cur h;exact⟨cur,h,rfl,fun _ _=>rfl,fun _ j hj=>by cases hj⟩
 | cons v r ih =>
   intro o w cur h
   obtain⟨c',h1,h2,h3,h4⟩:=ih (o+1) (w.setCell ⟨g,o,none⟩ v) (cur.setIfInBounds o v) (by rw[heap_setCell_same _ _ _ _ _ _ h])
   rw[Array.size_setIfInBounds] at h2 h4
   refine⟨c',h1,h2,fun j hj=>?_,fun hs j hj=>?_⟩
   ·rw[h3 j (by simp at hj;omega),Array.getElem?_setIfInBounds_ne (by simp at hj;omega)]
   ·simp only[List.length_cons] at hs hj
    cases j with
    | zero =>
      rw[Nat.add_zero,h3 o (by omega),Array.getElem?_setIfInBounds_self,if_pos (by omega)]
      rfl
    | succ j =>
      rw[show o+(j+1)=o+1+j by omega,h4 (by omega) j (by omega)]
      rfl
theorem grown_setCells (g:Nat):∀ (vs:List Value) (o:Nat) (w:World),w.grownBy (w.setCells g o vs) (some g):=by
 intro vs
 induction vs with
 | nil=>intro o w;exact World.grownBy.refl w _
 | cons v r ih=>intro o w;exact grown_trans (grown_set_a w g o v) (ih (o+1) _)
structure Mid_a (w:World) (fg fc:Nat) (L K:List AM.Wr) (k:Nat):Prop where
 ex:∃ cur,w.heap[fg]?=some (.cells cur 81 (0,0))/\cur.size=fc * 130/\(∀ j,j < K.length * 130->cur[j]?=(wrow K)[j]?)/\(∀ (i:Nat) (hi:i < L.length),k<=i->∀ t,t < 130->cur[i * 130+t]?=(wcells L[i])[t]?)
theorem wrow_len {L:List AM.Wr} (hl:∀ l ∈ L,(wcells l).length=130):(wrow L).length=L.length * 130:=by
 unfold wrow
 induction L with
 | nil=>rfl
 | cons l r ih =>
   rw[List.flatMap_cons,List.length_append,hl l (List.mem_cons_self ..),ih (fun x hx=>hl x (List.mem_cons_of_mem _ hx)),List.length_cons]
   omega
theorem Mid_a.start {w:World} {fg fc:Nat} {L:List AM.Wr} (h:w.ownsRow 0 81 130 (.slice (some ⟨fg,0,none⟩) L.length fc) L.length (wrow L)) (hl:∀ l ∈ L,(wcells l).length=130) {k:Nat} (hk:k<=L.length):Mid_a w fg fc L (L.take k) k:=by
 rcases h.2 with ⟨e,_⟩ | ⟨g,cap,cur,e,_,hg,h1,h2,h3,h4⟩
 ·cases e
 ·injection e with e1 e2 e3
  injection e1 with e1
  injection e1 with e1
  subst e1
  subst e3
  have hw:(wrow L).length=L.length * 130:=wrow_len hl
  have hget:∀ j,j < L.length * 130->cur[j]?=(wrow L)[j]?:=fun j hj=>by
   rw[<- h4,List.getElem?_take,if_pos hj,Array.getElem?_toList]
  refine⟨cur,hg,h3,fun j hj=>?_,fun i hi hki t ht=>?_⟩
  ·have hm:(L.take k).length=k:=by simp;omega
   rw[hm] at hj
   have hkl:k * 130<=L.length * 130:=Nat.mul_le_mul_right _ hk
   rw[hget j (by omega)]
   have e:wrow L=wrow (L.take k)++wrow (L.drop k):=by
    unfold wrow
    rw[<- List.flatMap_append,List.take_append_drop]
   rw[e,List.getElem?_append_left (by rw[wrow_len (fun x hx=>hl x (List.mem_of_mem_take hx)),hm];exact hj)]
  ·have hkl:(i+1) * 130<=L.length * 130:=Nat.mul_le_mul_right _ hi
   rw[hget _ (by omega)]
   exact flat_get ht hl hi
theorem Mid_a.range {w:World} {fg fc:Nat} {L K:List AM.Wr} {k:Nat} (h:Mid_a w fg fc L K k) (hl:∀ l ∈ L,(wcells l).length=130) (hk:k < L.length):w.rangeAt fg (k * 130) (wcells L[k]):=fun j v hv=>by
 obtain⟨cur,hg,_,_,h2⟩:=h.ex
 have hj:j < 130:=by rw[<- hl _ (List.getElem_mem hk)];exact (List.getElem?_eq_some_iff.1 hv).1
 exact topCell hg (by rw[h2 k hk (Nat.le_refl _) j hj];exact hv)
theorem Mid_a.there {w:World} {fg fc:Nat} {L K:List AM.Wr} {k:Nat} (h:Mid_a w fg fc L K k) (hK:K.length < fc):w.there fg (K.length * 130) 130:=fun j hj=>by
 obtain⟨cur,hg,hs,_,_⟩:=h.ex
 have:(K.length+1) * 130<=fc * 130:=Nat.mul_le_mul_right _ hK
 have hlt:K.length * 130+j < cur.size:=by omega
 refine⟨?_,topFrozen _ hg⟩
 rw[topCell hg (Array.getElem?_eq_getElem hlt)];rfl
theorem Mid_a.skip {w:World} {fg fc:Nat} {L K:List AM.Wr} {k:Nat} (h:Mid_a w fg fc L K k):Mid_a w fg fc L K (k+1):=by
 obtain⟨cur,hg,hs,h1,h2⟩:=h.ex
 exact⟨cur,hg,hs,h1,fun i hi hk=>h2 i hi (by omega)⟩
theorem Mid_a.same {w w':World} {fg fc:Nat} {L K:List AM.Wr} {k:Nat} (h:Mid_a w fg fc L K k) (hb:w'.heap[fg]?=w.heap[fg]?):Mid_a w' fg fc L K k:=by
 obtain⟨cur,hg,hr⟩:=h.ex
 exact⟨cur,by rw[hb];exact hg,hr⟩
theorem Mid_a.lt {w:World} {fg fc:Nat} {L K:List AM.Wr} {k:Nat} (h:Mid_a w fg fc L K k):fg < w.heap.size:=by
 obtain⟨cur,hg,_⟩:=h.ex
 exact (Array.getElem?_eq_some_iff.1 hg).1
theorem Mid_a.keep {w w':World} {fg fc:Nat} {L K:List AM.Wr} {k:Nat} (h:Mid_a w fg fc L K k) (g:w.grownBy w' none):Mid_a w' fg fc L K k:=h.same (g.block _ h.lt (by simp))
theorem Mid_a.put {w:World} {fg fc:Nat} {L K:List AM.Wr} {k:Nat} (h:Mid_a w fg fc L K k) (hl:∀ l ∈ L,(wcells l).length=130) (hk:k < L.length) (hKk:K.length<=k) (hKl:∀ l ∈ K,(wcells l).length=130) (hfc:L.length<=fc):Mid_a (w.setCells fg (K.length * 130) (wcells L[k])) fg fc L (K++[L[k]]) (k+1):=by
 obtain⟨cur,hg,hs,h1,h2⟩:=h.ex
 obtain⟨cur',hg',hs',h3,h4⟩:=heap_setCells (wcells L[k]) (K.length * 130) w cur hg
 have hlk:=hl _ (List.getElem_mem hk)
 have hb1:(K.length+1) * 130<=fc * 130:=Nat.mul_le_mul_right _ (by omega)
 have hb2:K.length * 130<=k * 130:=Nat.mul_le_mul_right _ hKk
 rw[hlk] at h3 h4
 have hKw:=wrow_len hKl
 refine⟨cur',hg',by rw[hs',hs],fun j hj=>?_,fun i hi hki t ht=>?_⟩
 ·rw[List.length_append,List.length_singleton] at hj
  have e:wrow (K++[L[k]])=wrow K++wcells L[k]:=by simp[wrow]
  rw[e]
  by_cases c:j < K.length * 130
  ·rw[h3 j (.inl c),h1 j c,List.getElem?_append_left (by rw[hKw];exact c)]
  ·obtain⟨i,rfl⟩:∃ i,j=K.length * 130+i:=⟨j - K.length * 130,by omega⟩
   rw[h4 (by omega) i (by omega),List.getElem?_append_right (by rw[hKw];omega),hKw,Nat.add_sub_cancel_left]
 ·have hb3:(k+1) * 130<=i * 130:=Nat.mul_le_mul_right _ hki
  rw[h3 _ (.inr (by omega))]
  exact h2 i hi (by omega) t ht
theorem Mid_a.fin {w:World} {fg fc:Nat} {L K:List AM.Wr} {k:Nat} (h:Mid_a w fg fc L K k) (vs:List Value) (hKl:∀ l ∈ K,(wcells l).length=130) (hK:K.length<=fc) (hfc:fc<=maxLen):(w.setCells fg (K.length * 130) vs).ownsRow 0 81 130 (.slice (some ⟨fg,0,none⟩) K.length fc) K.length (wrow K):=by
 obtain⟨cur,hg,hs,h1,h2⟩:=h.ex
 obtain⟨cur',hg',hs',h3,h4⟩:=heap_setCells vs (K.length * 130) w cur hg
 have hKw:=wrow_len hKl
 refine⟨hKw,.inr ⟨fg,fc,cur',rfl,Nat.zero_le _,hg',hK,hfc,by rw[hs',hs],?_⟩⟩
 apply List.ext_getElem?
 intro i
 rw[List.getElem?_take]
 split
 ·rename_i c
  rw[Array.getElem?_toList,h3 i (.inl c),h1 i c]
 ·rw[List.getElem?_eq_none (by omega)]
theorem slice_lo {fg N fc p:Nat} (h:p<=N) (hN:N<=fc) (hp:p < fc) (W:World):(Instr.slice 74 (.slice (some ⟨fg,0,none⟩) N fc) (some (.int .i64 (p:Int))) none none).run Tryz.prog W=.ok (.slice (some ⟨fg,p * 130,none⟩) (N - p) (fc - p)) W:=by
 obtain⟨i0,hi,hz0,hz1,hz2⟩:=info_parts zeroW
 have h1:(Instr.sliceBound (.int .i64 (p:Int)) N .sliceB).run Tryz.prog W=.ok p W:=by
  have:=run_sliceBound (P:=Tryz.prog) W .i64 (p:Int) N .sliceB (by omega) (by omega)
  simpa using this
 have e:¬ fc=p:=by omega
 simp[Instr.slice,run_underlying Tryz.underlying74,Instr.sliceBounds,h1,sizeOf,typeInfo,hi,hz1,e,add_off]
theorem slice_hi {fg N fc p:Nat} (h:p<=N) (hN:N<=fc) (W:World):(Instr.slice 74 (.slice (some ⟨fg,0,none⟩) N fc) none (some (.int .i64 (p:Int))) none).run Tryz.prog W=.ok (.slice (some ⟨fg,0,none⟩) p fc) W:=by
 obtain⟨i0,hi,hz0,hz1,hz2⟩:=info_parts zeroW
 have h1:(Instr.sliceBound (.int .i64 (p:Int)) fc .sliceAcap).run Tryz.prog W=.ok p W:=by
  have:=run_sliceBound (P:=Tryz.prog) W .i64 (p:Int) fc .sliceAcap (by omega) (by omega)
  simpa using this
 simp[Instr.slice,run_underlying Tryz.underlying74,Instr.sliceBounds,h1,sizeOf,typeInfo,hi,hz1,add_off]
theorem run_clear_wr {w:World} {fg o n c:Nat} {cur:Array Value} (hg:w.heap[fg]?=some (.cells cur 81 (0,0))) (hn:0 < n) (hs:o+n * 130<=cur.size) :
 ∃ vs,∀ ty,(Builtin.clear_ #[74] ty #[.slice (some ⟨fg,o,none⟩) n c]).run Tryz.prog w=.ok (.tuple #[]) (w.setCells fg o vs):=by
 have hz:(zeroValue 81).run Tryz.prog w=.ok (.agg (wcells ⟨0,0,AM.zs 64,AM.zs 64⟩).toArray) w:=run_zeroW w
 have hzs:(wcells ⟨0,0,AM.zs 64,AM.zs 64⟩).toArray.size=130:=by rw[List.size_toArray,wcells_len (AM.zs_len _) (AM.zs_len _)]
 have hz1:∀ v ∈ (wcells ⟨0,0,AM.zs 64,AM.zs 64⟩).toArray,v.oneCell'=true:=fun v hv=>wcells_one _ v (by simpa using hv)
 generalize (wcells ⟨0,0,AM.zs 64,AM.zs 64⟩).toArray=Z at hz hzs hz1
 refine⟨(Builtin.zeroCells Z n).toList,fun ty=>?_⟩
 have hlen:(Builtin.zeroCells Z n).toList.length=n * 130:=by rw[Array.length_toList,size_zeroCells,hzs]
 have h1:=run_storeCells_cells (P:=Tryz.prog) fg o (Builtin.zeroCells Z n).toList 0 w (fun j hj=>by
  rw[topCell hg (Array.getElem?_eq_getElem (by rw[hlen] at hj;omega))];rfl) (fun j hj=>topFrozen _ hg) (fun v hv=>by
  obtain⟨i,hi,rfl⟩:=List.getElem_of_mem hv
  simp only[Builtin.zeroCells,Array.getElem_toList,Array.getElem_map,Array.getElem_range]
  refine hz1 _ ?_
  rw[getElem!_pos _ _ (by rw[hzs];exact Nat.mod_lt _ (by decide))]
  exact Array.getElem_mem _)
 obtain⟨n,rfl⟩:∃ m,n=m+1:=⟨n - 1,by omega⟩
 simp[Builtin.clear_,run_underlying Tryz.underlying74,hz,Value.cells,h1]
def kept (L:List AM.Wr) (D k:Nat):List AM.Wr:=(L.take k).filter (fun l=>!(l.d==D))
theorem kept_lt {L:List AM.Wr} {D j k:Nat} (hj:j < L.length) (hd:L[j].d=D) (hjk:j < k) (hk:k<=L.length):(kept L D k).length < k:=by
 have h1:(kept L D k).length < (L.take k).length:=by
  refine List.length_filter_lt_length_iff_exists.2 ⟨L[j],?_,by simp[hd]⟩
  rw[List.mem_take_iff_getElem]
  exact⟨j,by omega,rfl⟩
 simp at h1
 omega
theorem kept_in {L:List AM.Wr} {D k:Nat} {l:AM.Wr} (h:l ∈ kept L D k):l ∈ L:=List.mem_of_mem_take (List.mem_filter.1 h).1
theorem kept_yes {L:List AM.Wr} {D k:Nat} (hk:k < L.length) (h:¬ L[k].d=D):kept L D (k+1)=kept L D k++[L[k]]:=by
 unfold kept
 rw[List.take_succ_eq_append_getElem hk,List.filter_append]
 simp[h]
theorem kept_no {L:List AM.Wr} {D k:Nat} (hk:k < L.length) (h:L[k].d=D):kept L D (k+1)=kept L D k:=by
 unfold kept
 rw[List.take_succ_eq_append_getElem hk,List.filter_append]
 simp[h]
theorem kept_all {L:List AM.Wr} {D:Nat}:kept L D L.length=L.filter (fun l=>!(l.d==D)):=by simp[kept]
theorem kept_before {L:List AM.Wr} {D j:Nat} (hj:j < L.length) (hd:L[j].d=D) (hb:∀ (i:Nat) (hi:i < L.length),i < j->L[i].d ≠ D):kept L D (j+1)=L.take j:=by
 rw[kept_no hj hd]
 unfold kept
 refine List.filter_eq_self.2 (fun l hl=>?_)
 obtain⟨i,hi,rfl⟩:=List.mem_take_iff_getElem.1 hl
 have:=hb i (by omega) (by omega)
 simp[this]
set_option maxHeartbeats 1600000 in
theorem del_any {w:World} {fp:Option Addr} {fc cb D:Nat} {L:List AM.Wr} (h:w.ownsRow 0 81 130 (.slice fp L.length fc) L.length (wrow L)) (hl:∀ l ∈ L,l.was.length=64/\l.now.length=64) (hL:L.length<=1000000)
 (hc:w.cell? ⟨cb,0,none⟩=some (.int .i64 (D:Int))) (hcb:∀ g,(Value.slice fp L.length fc).ownBlock=some g->g ≠ cb) :
 Calls Tryz.prog 31 #[.slice fp L.length fc,.func (.func 32) #[] #[.pointer (some ⟨cb,0,none⟩)]] w fun e w'=>e=.returned (.slice fp (L.filter (fun l=>!(l.d==D))).length fc)/\w'.ownsRow 0 81 130 (.slice fp (L.filter (fun l=>!(l.d==D))).length fc) (L.filter (fun l=>!(l.d==D))).length (wrow (L.filter (fun l=>!(l.d==D))))/\w.grownBy w' (Value.slice fp L.length fc).ownBlock:=by
 have HIDX:Hid (Calls Tryz.prog 56 #[.slice fp L.length fc,.func (.func 32) #[] #[.pointer (some ⟨cb,0,none⟩)]] w fun e w'=>∃ r,e=.returned (.int .i64 r)/\FirstAt L D r/\w.grownBy w' none):=idxF_any h hl hL hc
 have hlen:∀ l ∈ L,(wcells l).length=130:=fun l hm=>wcells_len (hl l hm).1 (hl l hm).2
 have HROW:Hid (w.ownsRow 0 81 130 (.slice fp L.length fc) L.length (wrow L)):=h
 have HLEN:Hid (∀ l ∈ L,(wcells l).length=130):=hlen
 have HCB:Hid (∀ g,(Value.slice fp L.length fc).ownBlock=some g->g ≠ cb):=hcb
 have HC:Hid (w.cell? ⟨cb,0,none⟩=some (.int .i64 (D:Int))):=hc
 obtain⟨N,hN⟩:∃ N,N=L.length:=⟨_,rfl⟩
 have HN:Hid (N=L.length):=hN
 rw[<- hN] at HIDX hL
 rw[show (#[Value.slice fp L.length fc,Value.func (.func 32) #[] #[.pointer (some ⟨cb,0,none⟩)]]:Array Value)=#[.slice fp N fc,.func (.func 32) #[] #[.pointer (some ⟨cb,0,none⟩)]] by rw[hN]]
 clear h hl hc hcb hlen hN
 go_enter Tryz.func31,Tryz.ntmps31
 go_wp2_with fail
 refine HIDX.out.mono ?_
 rintro e w1 ⟨r,rfl,hf,hg1⟩
 have HG1:Hid (w.grownBy w1 none):=hg1
 have HROW1:Hid (w1.ownsRow 0 81 130 (.slice fp L.length fc) L.length (wrow L)):=ownsRow_same HROW.out (fun b hb=>by
  obtain⟨c,hc⟩:=rowBlock HROW.out hb
  exact hg1.block b (Array.getElem?_eq_some_iff.1 hc).1 (by simp))
 have HC1:Hid (w1.cell? ⟨cb,0,none⟩=some (.int .i64 (D:Int))):=hg1.cell HC.out (by simp)
 clear hg1 HIDX HROW HC
 rcases hf with ⟨rfl,hall⟩ | ⟨j,hj,rfl,hjd,hbef⟩
 ·have HALL:Hid (L.filter (fun l=>!(l.d==D))=L):=List.filter_eq_self.2 (fun l hl=>by have:=hall l hl;simp[this])
  clear hall
  go_wp2
  go_ret
  refine⟨?_,?_,grown_any HG1.out _⟩
  ·rw[HALL.out,<- HN.out];rfl
  ·rw[HALL.out];exact HROW1.out
 ·obtain⟨fg,rfl⟩:∃ fg,fp=some ⟨fg,0,none⟩:=by
   rcases HROW1.out.2 with ⟨e,h0⟩ | ⟨g,cap,cur,e,_⟩
   ·omega
   ·injection e with e;exact⟨g,e⟩
  have HM0:Hid (Mid_a w1 fg fc L (kept L D (j+1)) (j+1)):=by
   rw[show Hid (Mid_a w1 fg fc L (kept L D (j+1)) (j+1))=Mid_a w1 fg fc L (kept L D (j+1)) (j+1) from rfl,kept_before hj hjd hbef]
   exact (Mid_a.start HROW1.out HLEN.out (k:=j) (by omega)).skip
  have HK0:Hid ((kept L D (j+1)).length=j):=by show _=_;rw[kept_before hj hjd hbef,List.length_take];omega
  have HKL:Hid (∀ k,j < k->k<=L.length->(kept L D k).length < k):=fun k h1 h2=>kept_lt hj hjd h1 h2
  have hfc:L.length<=fc/\fc<=maxLen:=by
   rcases HROW1.out.2 with ⟨e,h0⟩ | ⟨g,cap,cur,e,_,_,h1,h2,_⟩
   ·cases e
   ·injection e with e1 e2 e3;subst e3;exact⟨h1,h2⟩
  have HFC:Hid (L.length<=fc/\fc<=maxLen):=hfc
  have hNfc:N<=fc:=by have:=HN.out;omega
  have hjN:j < N:=by have:=HN.out;omega
  have hne:fg ≠ cb:=HCB.out fg rfl
  clear hjd hbef hfc HROW1 HCB hj
  have hnm:¬ (j:Int)=-1:=by omega
  go_wp2
  go_loopw [5,6] (fun ti tj wr=>∃ k:Nat,j < k/\k<=N/\ti=.int .i64 ((kept L D k).length:Int)/\tj=.int .i64 (k:Int)/\Hid (Mid_a wr fg fc L (kept L D k) k)/\Hid (w.grownBy wr (some fg)/\wr.cell? ⟨cb,0,none⟩=some (.int .i64 (D:Int)))) (fun _ tj _=>N - (intOf tj).toNat)
  case atStart=>exact⟨j+1,by omega,by omega,by rw[HK0.out],by go_num,HM0,grown_any HG1.out _,HC1.out⟩
  case round =>
   clear HM0 HK0 HG1 HC1
   obtain⟨k,hjk,hkN,rfl,rfl,HM,HG⟩:=hrel
   have hq:(kept L D k).length < k:=HKL.out k hjk (by have:=HN.out;omega)
   by_cases hlt:k < N
   ·have hkL:k < L.length:=by have:=HN.out;omega
    have HRG:Hid (wr.rangeAt fg (k * 130) (wcells L[k])):=HM.out.range HLEN.out hkL
    have HLK:Hid ((wcells L[k]).length=130):=HLEN.out _ (List.getElem_mem hkL)
    have HONE:Hid ((wcells L[k]).toArray.all (·.oneCell')=true):=all_oneCell_toArray (wcells_one _)
    have HCALL:Hid (∀ W:World,W.cell? ⟨cb,0,none⟩=some (.int .i64 (D:Int))->Calls Tryz.prog 32 #[.agg (wcells L[k]).toArray,.pointer (some ⟨cb,0,none⟩)] W fun e w'=>e=.returned (.bool (decide (L[k].d=D)))/\W.grownBy w' none):=fun W hW=>lose1_any hW
    have HPUT:Hid (∀ w':World,wr.grownBy w' none->¬ L[k].d=D->Mid_a (w'.setCells fg ((kept L D k).length * 130) (wcells L[k])) fg fc L (kept L D (k+1)) (k+1)/\(kept L D (k+1)).length=(kept L D k).length+1):=fun w' g hd=>by
     rw[kept_yes hkL hd,List.length_append]
     exact⟨(HM.out.keep g).put HLEN.out hkL (by omega) (fun l hl=>HLEN.out l (kept_in hl)) HFC.out.1,rfl⟩
    have HSKIP:Hid (∀ w':World,wr.grownBy w' none->L[k].d=D->Mid_a w' fg fc L (kept L D (k+1)) (k+1)/\(kept L D (k+1)).length=(kept L D k).length):=fun w' g hd=>by
     rw[kept_no hkL hd]
     exact⟨(HM.out.keep g).skip,rfl⟩
    have HTH:Hid (∀ w':World,wr.grownBy w' none->w'.there fg ((kept L D k).length * 130) 130):=fun w' g=>(HM.out.keep g).there (by omega)
    obtain⟨q,hqe⟩:∃ q,q=(kept L D k).length:=⟨_,rfl⟩
    rw[<- hqe] at hq HPUT HSKIP HTH ⊢
    obtain⟨x,hx⟩:∃ x,x=L[k].d:=⟨_,rfl⟩
    rw[<- hx] at HCALL HPUT HSKIP
    obtain⟨CW,hCW⟩:∃ CW,CW=wcells L[k]:=⟨_,rfl⟩
    rw[<- hCW] at HRG HLK HONE HCALL HPUT
    have HSZ:Hid ((Tryz.prog.info? 81).map (·.size)=some CW.length):=by show _=_;rw[HLK.out];exact Tryz.sizeWr
    have HSZA:Hid ((Tryz.prog.info? 81).map (·.size)=some CW.toArray.size):=by show _=_;rw[List.size_toArray,HLK.out];exact Tryz.sizeWr
    have zW:=run_zeroW
    obtain⟨ZR,hZR⟩:∃ ZR,ZR=(wcells ⟨0,0,AM.zs 64,AM.zs 64⟩).toArray:=⟨_,rfl⟩
    rw[<- hZR] at zW
    have HZR:Hid (ZR.size=CW.toArray.size):=by show _=_;rw[hZR,List.size_toArray,wcells_len (AM.zs_len _) (AM.zs_len _),List.size_toArray,HLK.out]
    have i1:(k:Int) < (N:Int):=by omega
    have i2:(q:Int) < (N:Int):=by omega
    have gA:wr.grownBy (wr.alloc (.cells CW.toArray 81)) none:=World.grownBy_alloc _ _ none
    have HGA:Hid (wr.grownBy (wr.alloc (.cells CW.toArray 81)) none):=gA
    have HCA:Hid ((wr.alloc (.cells CW.toArray 81)).cell? ⟨cb,0,none⟩=some (.int .i64 (D:Int))):=gA.cell HG.out.2 (by simp)
    have HRW:Hid (∀ W:World,W.heap[wr.heap.size]?=some (.cells CW.toArray 81 (0,0))->W.rangeAt wr.heap.size 0 CW):=fun W hW j u hj=>by rw[Nat.zero_add];exact topCell hW (by rw[List.getElem?_toArray];exact hj)
    have HB1:Hid ((wr.alloc (.cells CW.toArray 81)).rangeAt wr.heap.size 0 CW):=HRW.out _ (heap_alloc_new wr _)
    clear hqe hx hCW hZR gA HM
    by_cases hd:x=D
    ·have HC2:Hid (Calls Tryz.prog 32 #[.agg CW.toArray,.pointer (some ⟨cb,0,none⟩)] (wr.alloc (.cells CW.toArray 81)) fun e w'=>e=.returned (.bool true)/\(wr.alloc (.cells CW.toArray 81)).grownBy w' none):=by
      have:=HCALL.out _ HCA.out;rw[decide_eq_true hd] at this;exact this
     clear HCALL HPUT HTH
     go_wp2_with (first
      | (refine wpList_load_mid rfl 81 (.tmp 24) rfl fg (k * 130) rfl CW _ HRG.out Tryz.underlying81 rfl HSZ.out ?_)
      | (refine wpList_store_row rfl 81 (.tmp 7) (.tmp 25) rfl wr.heap.size CW.toArray rfl rfl 81 ZR (heap_alloc_new wr _) HSZA.out HZR.out HONE.out ?_;rw[World.setRow_alloc_new])
      | (refine wpList_load_mid rfl 81 (.tmp 7) rfl wr.heap.size 0 rfl CW _ HB1.out Tryz.underlying81 rfl HSZ.out ?_)
      | (go_at_call 32;refine HC2.out.mono ?_;rintro e w2 ⟨rfl,hg2⟩;have HG2:Hid (wr.grownBy w2 none):=grown_trans HGA.out hg2;clear hg2))
     have HSK:=HSKIP.out _ HG2.out hd
     go_roundw
     case rel =>
      repeat apply Exists.intro
      refine⟨?_,rfl⟩
      exact⟨k+1,by omega,by omega,by rw[HSK.2],by go_num,HSK.1,grown_trans HG.out.1 (grown_any HG2.out _),HG2.out.cell HG.out.2 (by simp)⟩
     case measure=>simp[intOf];omega
    ·have HC2:Hid (Calls Tryz.prog 32 #[.agg CW.toArray,.pointer (some ⟨cb,0,none⟩)] (wr.alloc (.cells CW.toArray 81)) fun e w'=>e=.returned (.bool false)/\(wr.alloc (.cells CW.toArray 81)).grownBy w' none):=by
      have:=HCALL.out _ HCA.out;rw[decide_eq_false hd] at this;exact this
     clear HCALL HSKIP
     go_wp2_with (first
      | (refine wpList_load_mid rfl 81 (.tmp 24) rfl fg (k * 130) rfl CW _ HRG.out Tryz.underlying81 rfl HSZ.out ?_)
      | (refine wpList_store_row rfl 81 (.tmp 7) (.tmp 25) rfl wr.heap.size CW.toArray rfl rfl 81 ZR (heap_alloc_new wr _) HSZA.out HZR.out HONE.out ?_;rw[World.setRow_alloc_new])
      | (refine wpList_load_mid rfl 81 (.tmp 7) rfl wr.heap.size 0 rfl CW _ HB1.out Tryz.underlying81 rfl HSZ.out ?_)
      | (go_at_call 32;refine HC2.out.mono ?_;rintro e w2 ⟨rfl,hg2⟩;have HG2:Hid (wr.grownBy w2 none):=grown_trans HGA.out hg2;have HB2:Hid (w2.rangeAt wr.heap.size 0 CW):=HRW.out _ ((hg2.block _ (by simp) (by simp)).trans (heap_alloc_new wr _));have HT2:Hid (w2.there fg (q * 130) CW.toArray.size):=(by show World.there _ _ _ _;rw[List.size_toArray,HLK.out];exact HTH.out _ HG2.out);clear hg2)
      | (refine wpList_load_mid rfl 81 (.tmp 7) rfl wr.heap.size 0 rfl CW _ HB2.out Tryz.underlying81 rfl HSZ.out ?_)
      | (refine wpList_store_mid rfl 81 (.tmp 33) (.tmp 32) rfl fg (q * 130) CW.toArray rfl rfl HT2.out HSZA.out HONE.out ?_;rw[List.toList_toArray]))
     have HP:=HPUT.out _ HG2.out hd
     go_roundw
     case rel =>
      repeat apply Exists.intro
      refine⟨?_,rfl⟩
      exact⟨k+1,by omega,by omega,by rw[HP.2];go_num,by go_num,HP.1,grown_trans HG.out.1 (grown_trans (grown_any HG2.out _) (grown_setCells fg _ _ _)),by rw[World.cell?_setCells_out _ _ _ _ _ (fun e _=>absurd e.symm hne)];exact HG2.out.cell HG.out.2 (by simp)⟩
     case measure=>simp[intOf];omega
   ·have ek:k=L.length:=by have:=HN.out;omega
    have hmid:=HM.out
    obtain⟨cur,hcur,hcs,hr1,hr2⟩:=hmid.ex
    have hb:N * 130<=fc * 130:=Nat.mul_le_mul_right _ hNfc
    have hqN:(kept L D k).length < N:=by omega
    have hb2:(kept L D k).length * 130+(N - (kept L D k).length) * 130=N * 130:=by rw[<- Nat.add_mul];congr 1;omega
    obtain⟨vs,hclr⟩:=run_clear_wr (c:=fc - (kept L D k).length) (o:=(kept L D k).length * 130) (n:=N - (kept L D k).length) hcur (by omega) (by omega)
    have hlo:=fun W=>slice_lo (fg:=fg) (N:=N) (fc:=fc) (p:=(kept L D k).length) (by omega) hNfc (by omega) W
    have hhi:=fun W=>slice_hi (fg:=fg) (N:=N) (fc:=fc) (p:=(kept L D k).length) (by omega) hNfc W
    have HFIN:Hid ((wr.setCells fg ((kept L D k).length * 130) vs).ownsRow 0 81 130 (.slice (some ⟨fg,0,none⟩) (L.filter (fun l=>!(l.d==D))).length fc) (L.filter (fun l=>!(l.d==D))).length (wrow (L.filter (fun l=>!(l.d==D))))):=by
     have:=hmid.fin vs (fun l hl=>HLEN.out l (kept_in hl)) (by omega) HFC.out.2
     rw[ek,kept_all] at this
     rw[ek,kept_all]
     exact this
    have HEQ:Hid ((kept L D k).length=(L.filter (fun l=>!(l.d==D))).length):=by show _=_;rw[ek,kept_all]
    have HGF:Hid (w.grownBy (wr.setCells fg ((kept L D k).length * 130) vs) (some fg)):=grown_trans HG.out.1 (grown_setCells fg _ _ _)
    have i1:¬ (k:Int) < (N:Int):=by omega
    generalize (kept L D k).length=q at *
    generalize N - q=m at *
    generalize fc - q=c' at *
    clear hmid HM hcur hcs hb hb2 ek hr1 hr2 cur
    go_wp2
    go_ret
    exact⟨by rw[<- HEQ.out];rfl,HFIN.out,HGF.out⟩
section
variable {F:Nat->Prop} {w:World} {a:Nat} {R:AM.Raw}
theorem Lies.gone {dg:Nat} {dv:List Value} {fp:Option Addr} {fc:Nat} (h:Lies F w a dg dv fp fc R) {d:Nat} (hd:d < R.C.length) {w':World} (hsz:∀ i,F i->i < w'.heap.size)
 (hoth:∀ i,F i->i ≠ a->i ≠ dg->(Value.slice fp R.L.length fc).ownBlock ≠ some i->w'.heap[i]?=w.heap[i]?)
 (ha:w'.heap[a]?=some (.cells #[.slice (some ⟨dg,0,none⟩) R.C.length R.C.length,.int .i64 (R.n:Int),.slice fp (R.lost d).L.length fc,.int .i64 (R.fuse:Int),.bool R.off] 76 (0,0)))
 (hdg:w'.heap[dg]?=some (.cells (dv.set d (.slice none 0 0)).toArray 72 (0,0)))
 (hrow:w'.ownsRow 0 81 130 (.slice fp (R.lost d).L.length fc) (R.lost d).L.length (wrow (R.lost d).L)):Lies F w' a dg (dv.set d (.slice none 0 0)) fp fc (R.lost d):=by
 have hdl:d < dv.length:=by rw[h.len];exact hd
 have hlen:(R.lost d).C.length=R.C.length:=by simp[AM.Raw.lost]
 have hsplit:∀ (i:Nat) (u:Value),(dv.set d (.slice none 0 0))[i]?=some u->(i=d/\u=.slice none 0 0)\/(i ≠ d/\dv[i]?=some u):=fun i u hu=>by
  by_cases c:d=i
  ·subst c
   rw[List.getElem?_set,if_pos rfl,if_pos hdl] at hu
   exact .inl ⟨rfl,(Option.some.inj hu).symm⟩
  ·rw[List.getElem?_set,if_neg c] at hu
   exact .inr ⟨Ne.symm c,hu⟩
 have hfb:∀ L':List AM.Wr,(Value.slice fp L'.length fc).ownBlock=(Value.slice fp R.L.length fc).ownBlock:=fun L'=>by cases fp <;> rfl
 refine⟨h.ok.lost d,hsz,by rw[hlen];exact ha,hdg,by rw[hlen,List.length_set];exact h.len,?_,hrow,h.Fa,h.Fd,?_,fun g hg=>h.Ff g (by rw[<- hfb];exact hg),?_⟩
 ·intro i u hu
  rcases hsplit i u hu with ⟨rfl,rfl⟩ | ⟨hne,hu⟩
  ·exact .inl ⟨by show (R.C.set i none)[i]?=_;rw[List.getElem?_set,if_pos rfl,if_pos hd],rfl⟩
  ·have e:(R.lost d).C[i]?=R.C[i]?:=by show (R.C.set d none)[i]?=_;rw[List.getElem?_set,if_neg (Ne.symm hne)]
   rcases h.drv i u hu with ⟨h1,h2⟩ | ⟨xs,h1,h2⟩
   ·exact .inl ⟨by rw[e];exact h1,h2⟩
   ·refine .inr ⟨xs,by rw[e];exact h1,ownsRow_same h2 (fun g hg=>?_)⟩
    obtain⟨c,hc⟩:=h.drvBlock hu hg
    refine hoth g (h.Fv i u hu g hg) (ne_ty hc h.top (by decide)) (ne_ty hc h.dsk (by decide)) (fun e=>?_)
    obtain⟨c',hc'⟩:=rowBlock h.fly e
    exact ne_ty hc hc' (by decide) rfl
 ·intro i u hu g hg
  rcases hsplit i u hu with ⟨rfl,rfl⟩ | ⟨hne,hu⟩
  ·cases hg
  ·exact h.Fv i u hu g hg
 ·intro i j u v hu hv g hg hg'
  rcases hsplit i u hu with ⟨rfl,rfl⟩ | ⟨hne,hi⟩
  ·cases hg
  ·rcases hsplit j v hv with ⟨rfl,rfl⟩ | ⟨hne',hj⟩
   ·cases hg'
   ·exact h.ap i j u v hi hj g hg hg'
set_option maxHeartbeats 1600000 in
theorem lose_on (h:Is F w a R) {d:Nat} (hon:R.on (d:Int)=true) (hL:R.L.length<=1000000):Calls Tryz.prog 13 #[ptr a,.int .i64 (d:Int)] w fun e w'=>e=.returned (.int .i64 0)/\Is F w' a (R.lost d)/\Step F w F w':=by
 obtain⟨_,hd,xs,hx⟩:=AM.on_iff hon
 have hd:d < R.C.length:=by omega
 have hfi:R.find (d:Int)=0:=by simp[AM.Raw.find];omega
 have gB:w.grownBy (w.alloc (.cells #[.int .i64 (d:Int)] 3)) none:=World.grownBy_alloc _ _ none
 have hB:=h.keep gB
 have HC:Hid (Calls Tryz.prog 30 #[ptr a,.int .i64 (d:Int)] (w.alloc (.cells #[.int .i64 (d:Int)] 3)) fun e w'=>e=.returned (.int .i64 0)/\w'=(w.alloc (.cells #[.int .i64 (d:Int)] 3))):=by have:=find_yes hB (d:Int);rw[hfi] at this;exact this
 have HO:Hid (Calls Tryz.prog 17 #[ptr a,.int .i64 (d:Int)] (w.alloc (.cells #[.int .i64 (d:Int)] 3)) fun e w'=>e=.returned (.bool true)/\w'=(w.alloc (.cells #[.int .i64 (d:Int)] 3))):=by have:=on_yes hB (d:Int);rw[hon] at this;exact this
 obtain⟨dg,dv,fp,fc,h⟩:=h
 have hN:=h.ok.d2
 have c0:w.cell? ⟨a,0,none⟩=some (.slice (some ⟨dg,0,none⟩) R.C.length R.C.length):=topCell (j:=0) h.top rfl
 have hdl:d < dv.length:=by rw[h.len];exact hd
 have hdv:dv[d]?=some dv[d]:=List.getElem?_eq_getElem hdl
 have cd:w.cell? ⟨dg,d,none⟩=some dv[d]:=topCell h.dsk (by rw[List.getElem?_toArray];exact hdv)
 have fd:=topFrozen d h.dsk
 have hdlt:dg < w.heap.size:=h.lt dg h.Fd
 have halt:a < w.heap.size:=h.lt a h.Fa
 obtain⟨WA,hWA⟩:∃ WA,WA=(w.drew.alloc (.cells #[.int .i64 (d:Int)] 3)).setCell ⟨dg,d,none⟩ (.slice none 0 0):=⟨_,rfl⟩
 have gA:w.grownBy WA (some dg):=by
  rw[hWA]
  exact grown_trans (grown_any (gb_alloc (gb_drew (World.grownBy.refl w none)) _) _) (grown_set_a _ dg d _)
 have hblk:∀ i,i < w.heap.size->i ≠ dg->WA.heap[i]?=w.heap[i]?:=fun i hi hne=>gA.block i hi (fun e=>hne (Option.some.inj e))
 have hdA:WA.heap[dg]?=some (.cells (dv.set d (.slice none 0 0)).toArray 72 (0,0)):=by
  rw[hWA,heap_setCell_same _ _ _ _ _ _ (show (w.drew.alloc (.cells #[.int .i64 (d:Int)] 3)).heap[dg]?=some (.cells dv.toArray 72 (0,0)) from ((gb_alloc (gb_drew (World.grownBy.refl w none)) _:w.grownBy (w.drew.alloc (.cells #[.int .i64 (d:Int)] 3)) none).block dg hdlt (by simp)).trans h.dsk)]
  simp
 have hfA:WA.ownsRow 0 81 130 (.slice fp R.L.length fc) R.L.length (wrow R.L):=ownsRow_same h.fly (fun g hg=>by
  obtain⟨c,hc⟩:=rowBlock h.fly hg
  exact hblk g (h.lt g (h.Ff g hg)) (ne_ty hc h.dsk (by decide)))
 have htA:WA.heap[a]?=some (.cells #[.slice (some ⟨dg,0,none⟩) R.C.length R.C.length,.int .i64 (R.n:Int),.slice fp R.L.length fc,.int .i64 (R.fuse:Int),.bool R.off] 76 (0,0)):=by rw[hblk a halt h.a_dg];exact h.top
 have hcA:WA.cell? ⟨w.heap.size,0,none⟩=some (.int .i64 (d:Int)):=by
  rw[hWA,World.cell?_setCell_far _ _ _ _ (by show dg ≠ w.heap.size;omega)]
  exact topCell (heap_alloc_new w.drew _) rfl
 have HD:Hid (Calls Tryz.prog 31 #[.slice fp R.L.length fc,.func (.func 32) #[] #[.pointer (some ⟨w.heap.size,0,none⟩)]] WA fun e w'=>e=.returned (.slice fp (R.lost d).L.length fc)/\w'.ownsRow 0 81 130 (.slice fp (R.lost d).L.length fc) (R.lost d).L.length (wrow (R.lost d).L)/\WA.grownBy w' (Value.slice fp R.L.length fc).ownBlock) :=
  del_any hfA (fun l hl=>⟨(h.ok.L l hl).was,(h.ok.L l hl).now⟩) hL hcA (fun g hg e=>by have:=h.lt g (h.Ff g hg);omega)
 have c2A:WA.cell? ⟨a,2,none⟩=some (.slice fp R.L.length fc):=topCell (j:=2) htA rfl
 have FIN:Hid (∀ w3:World,w3.ownsRow 0 81 130 (.slice fp (R.lost d).L.length fc) (R.lost d).L.length (wrow (R.lost d).L)->WA.grownBy w3 (Value.slice fp R.L.length fc).ownBlock ->
  w3.cell? ⟨a,2,none⟩=some (.slice fp R.L.length fc)/\w3.frozen? ⟨a,2,none⟩=false/\Is F (w3.setCell ⟨a,2,none⟩ (.slice fp (R.lost d).L.length fc)) a (R.lost d)/\Step F w F (w3.setCell ⟨a,2,none⟩ (.slice fp (R.lost d).L.length fc))):=fun w3 hr3 g3=>by
  have hAs:w.heap.size<=WA.heap.size:=gA.size
  have hna:∀ i c,w.heap[i]?=some c->∀ t cc,c=.cells cc t (0,0)->t ≠ 81->some i ≠ (Value.slice fp R.L.length fc).ownBlock:=fun i c hi t cc hc ht e=>by
   obtain⟨c',hc'⟩:=rowBlock h.fly e.symm
   rw[hc] at hi
   exact ne_ty hi hc' ht rfl
  have ht3:w3.heap[a]?=some (.cells #[.slice (some ⟨dg,0,none⟩) R.C.length R.C.length,.int .i64 (R.n:Int),.slice fp R.L.length fc,.int .i64 (R.fuse:Int),.bool R.off] 76 (0,0)):=(g3.block a (by omega) (hna a _ h.top _ _ rfl (by decide))).trans htA
  have hd3:w3.heap[dg]?=some (.cells (dv.set d (.slice none 0 0)).toArray 72 (0,0)):=(g3.block dg (by omega) (hna dg _ h.dsk _ _ rfl (by decide))).trans hdA
  have hb4:∀ i,i ≠ a->(w3.setCell ⟨a,2,none⟩ (.slice fp (R.lost d).L.length fc)).heap[i]?=w3.heap[i]?:=fun i hne=>Below.heap_setCell _ _ _ _ hne
  have g34:WA.heap.size<=w3.heap.size:=g3.size
  refine⟨topCell (j:=2) ht3 rfl,topFrozen 2 ht3,Lies.is (h.gone hd (fun i hi=>?_) (fun i hi h1 h2 h3=>?_) ?_ ?_ ?_),⟨⟨?_,?_,?_,?_,?_⟩,fun _ h=>.inl h⟩⟩
  ·have:=h.lt i hi;simp;omega
  ·rw[hb4 i h1,g3.block i (by have:=h.lt i hi;omega) (Ne.symm h3),hblk i (h.lt i hi) h2]
  ·rw[heap_setCell_same _ _ _ _ _ _ ht3];rfl
  ·rw[hb4 dg (Ne.symm h.a_dg)];exact hd3
  ·refine ownsRow_same hr3 (fun g hg=>hb4 g ?_)
   obtain⟨c,hc⟩:=rowBlock hr3 hg
   exact ne_ty hc ht3 (by decide)
  ·exact g3.os.trans gA.os
  ·exact g3.tape.trans gA.tape
  ·exact g3.output.trans gA.output
  ·simp;omega
  ·intro i hi hn
   rw[hb4 i (fun e=>hn (by rw[e];exact h.Fa)),g3.block i (by omega) (fun e=>hn (h.Ff i e.symm)),hblk i hi (fun e=>hn (by rw[e];exact h.Fd))]
 obtain⟨N,hNe⟩:∃ N,N=R.C.length:=⟨_,rfl⟩
 have HS:Hid ((w.alloc (.cells #[.int .i64 (d:Int)] 3)).cell? ⟨a,0,none⟩=some (.slice (some ⟨dg,0,none⟩) N N)/\(w.alloc (.cells #[.int .i64 (d:Int)] 3)).cell? ⟨w.heap.size,0,none⟩=some (.int .i64 (d:Int))):=⟨by rw[hNe];exact gB.cell c0 (by simp),topCell (heap_alloc_new w _) rfl⟩
 have HK2:Hid (∀ v,((w.alloc (.cells #[.int .i64 (d:Int)] 3)).setCell ⟨dg,d,none⟩ v).cell? ⟨a,0,none⟩=some (.slice (some ⟨dg,0,none⟩) N N)/\((w.alloc (.cells #[.int .i64 (d:Int)] 3)).setCell ⟨dg,d,none⟩ v).cell? ⟨w.heap.size,0,none⟩=some (.int .i64 (d:Int))):=fun v=>⟨by rw[World.cell?_setCell_far _ _ _ _ (by show dg ≠ a;exact Ne.symm h.a_dg)];exact HS.out.1,by rw[World.cell?_setCell_far _ _ _ _ (by show dg ≠ w.heap.size;omega)];exact HS.out.2⟩
 have cB:(w.alloc (.cells #[.int .i64 (d:Int)] 3)).cell? ⟨w.heap.size,0,none⟩=some (.int .i64 (d:Int)):=HS.out.2
 obtain⟨ov,hov⟩:∃ ov,ov=dv[d]:=⟨_,rfl⟩
 rw[<- hov] at cd
 have cd1:(w.alloc (.cells #[.int .i64 (d:Int)] 3)).cell? ⟨dg,d,none⟩=some ov:=gB.cell cd (by simp)
 have fd1:(w.alloc (.cells #[.int .i64 (d:Int)] 3)).frozen? ⟨dg,d,none⟩=false:=by rw[World.frozen?_of_block (w:=w) (gB.block dg hdlt (by simp))];exact fd
 rw[<- hNe] at hN hd
 have hdi:(d:Int) < (N:Int):=by omega
 obtain⟨M,hM⟩:∃ M,M=R.L.length:=⟨_,rfl⟩
 obtain⟨K,hK⟩:∃ K,K=(R.lost d).L.length:=⟨_,rfl⟩
 rw[<- hM] at c2A hL
 have HD2:Hid (Calls Tryz.prog 31 #[.slice fp M fc,.func (.func 32) #[] #[.pointer (some ⟨w.heap.size,0,none⟩)]] WA fun e w'=>e=.returned (.slice fp K fc)/\w'.cell? ⟨a,2,none⟩=some (.slice fp M fc)/\w'.frozen? ⟨a,2,none⟩=false/\Is F (w'.setCell ⟨a,2,none⟩ (.slice fp K fc)) a (R.lost d)/\Step F w F (w'.setCell ⟨a,2,none⟩ (.slice fp K fc))):=by
  rw[hM,hK]
  refine HD.out.mono ?_
  rintro e w3 ⟨rfl,hr3,g3⟩
  obtain⟨f1,f2,f3,f4⟩:=FIN.out w3 hr3 g3
  exact⟨rfl,f1,f2,f3,f4⟩
 clear h hov hdv hdl hNe cd fd hdlt halt gA hblk hdA hfA htA hcA HD FIN hB gB hM hK hon hfi hx c0 xs
 go_enter Tryz.func13,Tryz.ntmps13
 go_wp2_with (first
  | (go_at_call 30;refine HC.out.mono ?_;rintro e w1 ⟨rfl,hw⟩;obtain rfl:=hw.symm;clear hw)
  | (go_at_call 17;refine HO.out.mono ?_;rintro e w1 ⟨rfl,hw⟩;obtain rfl:=hw.symm;clear hw))
 go_region_held3 (fun w'=>w'.cell? ⟨a,0,none⟩=some (.slice (some ⟨dg,0,none⟩) N N)/\w'.cell? ⟨w.heap.size,0,none⟩=some (.int .i64 (d:Int))) (first | exact HS.out | exact HK2.out _) (fail)
 have eWA:((w.alloc (.cells #[.int .i64 (d:Int)] 3)).setCell ⟨dg,d,none⟩ (.slice none 0 0)).drew=WA:=by rw[hWA];rfl
 rw[eWA]
 clear eWA hWA HS HK2 HC HO cB cd1 fd1
 go_wp2_with (go_at_call 31;refine HD2.out.mono ?_;rintro e w3 ⟨rfl,f1,f2,f3,f4⟩;have HF3:Hid (Is F (w3.setCell ⟨a,2,none⟩ (.slice fp K fc)) a (R.lost d)):=f3;have HF4:Hid (Step F w F (w3.setCell ⟨a,2,none⟩ (.slice fp K fc))):=f4;clear f3 f4)
 go_ret
 exact⟨rfl,HF3.out,HF4.out⟩
theorem lose_any (h:Is F w a R) (d:Int) (hL:R.L.length<=1000000):Calls Tryz.prog 13 #[ptr a,.int .i64 d] w fun e w'=>e=.returned (.int .i64 ((R.lose d).1:Int))/\Is F w' a (R.lose d).2/\Step F w F w':=by
 by_cases hf:R.find d=0
 ·by_cases hon:R.on d=true
  ·obtain⟨h0,_,_⟩:=AM.on_iff hon
   obtain⟨n,rfl⟩:∃ n:Nat,d=(n:Int):=⟨d.toNat,by omega⟩
   refine (lose_on h hon hL).mono ?_
   rintro e w' ⟨rfl,h1,h2⟩
   have e:R.lose (n:Int)=(0,R.lost n):=by simp[AM.Raw.lose,hf,hon]
   rw[e]
   exact⟨rfl,h1,h2⟩
  ·have hon:R.on d=false:=by simpa using hon
   have e:R.lose d=(9,R):=by simp[AM.Raw.lose,hf,hon]
   rw[e]
   have gB:w.grownBy (w.alloc (.cells #[.int .i64 d] 3)) none:=World.grownBy_alloc _ _ none
   have hB:=h.keep gB
   have HI:Hid (Is F (w.alloc (.cells #[.int .i64 d] 3)) a R):=hB
   have HG:Hid (Step F w F (w.alloc (.cells #[.int .i64 d] 3))):=Step.new gB
   have HC:Hid (Calls Tryz.prog 30 #[ptr a,.int .i64 d] (w.alloc (.cells #[.int .i64 d] 3)) fun e w'=>e=.returned (.int .i64 0)/\w'=(w.alloc (.cells #[.int .i64 d] 3))):=by have:=find_yes hB d;rw[hf] at this;exact this
   have HO:Hid (Calls Tryz.prog 17 #[ptr a,.int .i64 d] (w.alloc (.cells #[.int .i64 d] 3)) fun e w'=>e=.returned (.bool false)/\w'=(w.alloc (.cells #[.int .i64 d] 3))):=by have:=on_yes hB d;rw[hon] at this;exact this
   have cB:(w.alloc (.cells #[.int .i64 d] 3)).cell? ⟨w.heap.size,0,none⟩=some (.int .i64 d):=topCell (heap_alloc_new w _) rfl
   clear h hB gB e hf hon
   go_enter Tryz.func13,Tryz.ntmps13
   go_wp2_with (first
    | (go_at_call 30;refine HC.out.mono ?_;rintro e w1 ⟨rfl,hw⟩;obtain rfl:=hw.symm;clear hw)
    | (go_at_call 17;refine HO.out.mono ?_;rintro e w1 ⟨rfl,hw⟩;obtain rfl:=hw.symm;clear hw))
   go_ret
   exact⟨rfl,HI.out,HG.out⟩
 ·have e:R.lose d=(R.find d,R):=by simp[AM.Raw.lose,hf]
  rw[e]
  have gB:w.grownBy (w.alloc (.cells #[.int .i64 d] 3)) none:=World.grownBy_alloc _ _ none
  have hB:=h.keep gB
  have HI:Hid (Is F (w.alloc (.cells #[.int .i64 d] 3)) a R):=hB
  have HG:Hid (Step F w F (w.alloc (.cells #[.int .i64 d] 3))):=Step.new gB
  have HC:Hid (Calls Tryz.prog 30 #[ptr a,.int .i64 d] (w.alloc (.cells #[.int .i64 d] 3)) fun e w'=>e=.returned (.int .i64 (R.find d:Int))/\w'=(w.alloc (.cells #[.int .i64 d] 3))):=find_yes hB d
  have cB:(w.alloc (.cells #[.int .i64 d] 3)).cell? ⟨w.heap.size,0,none⟩=some (.int .i64 d):=topCell (heap_alloc_new w _) rfl
  have hfi:¬ (R.find d:Int)=0:=by omega
  clear h hB gB e hf
  generalize R.find d=q at *
  go_enter Tryz.func13,Tryz.ntmps13
  go_wp2_with (go_at_call 30;refine HC.out.mono ?_;rintro e w1 ⟨rfl,hw⟩;obtain rfl:=hw.symm;clear hw)
  go_ret
  exact⟨rfl,HI.out,HG.out⟩
end
end Go.Proofs.YtlklmhojadlncaaGreat
