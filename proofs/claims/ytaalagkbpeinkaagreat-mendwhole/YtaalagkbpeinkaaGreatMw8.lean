/- Packed: Put5, All5, Rows7, Sec8, RTake7, Iter7, Cut7, Tak7. -/
import Derived.Test.YtaalagkbpeinkaaGreatMw7
import Derived.Laws.MakeOwn
import Derived.RangeFuncNested
import Derived.RangeFuncBound
import Derived.RangeFuncCalls
import Derived.RangeFuncLeaves
import Derived.RangeFuncBox
import Derived.Shelf.Abstract
import Derived.OwnWalkIn
import Derived.TacticsInMore
import Derived.LoopNIn
import Derived.LoopIn
import Derived.Maps.OwnIn
set_option maxRecDepth 100000
namespace Go.Proofs.YtaalagkbpeinkaaGreat
open Go.RowKit
theorem zeroS (w:World):(zeroValue 107).run Tryz.prog w = .ok (.agg (rowOf (SM.z 64))) w:=by
 have h:(Tryz.prog.info? 107).map (fun i=>(i.zero,i.size)) = some (some (.agg (rowOf (SM.z 64))),64):=by kernel_rfl
 cases hq:Tryz.prog.info? 107 with
 | none=>simp [hq] at h
 | some i=>simp [hq] at h;simp [zeroValue,typeInfo,hq,h.1]
abbrev Sect (B:Nat) (w:World) (v:Value) (xs:List Nat):Prop:=Arr 107 B w v xs
theorem sec_cur (n:Nat) (ld:List Nat) (h:ld.length <= 56):(SM.mk n ++ SM.z 56).take 8 ++ ld ++ (SM.mk n ++ SM.z 56).drop (8 + ld.length) = SM.sec n ld:=by
 have e1:(SM.mk n ++ SM.z 56).take 8 = SM.mk n:=by rw [List.take_append_of_le_length (by rw [SM.mk_len];exact Nat.le_refl _),List.take_of_length_le (by rw [SM.mk_len];exact Nat.le_refl _)]
 have e2:(SM.mk n ++ SM.z 56).drop (8 + ld.length) = SM.z (56 - ld.length):=by
  rw [List.drop_append,SM.mk_len,List.drop_eq_nil_of_le (by rw [SM.mk_len];omega),List.nil_append,SM.z_drop,Nat.add_sub_cancel_left]
 rw [e1,e2,SM.sec,List.append_assoc]
set_option maxHeartbeats 1600000 in
theorem put_yes {w:World} {n:Nat} {v:Value} {ld:List Nat} (hv:Vec w v ld) (hl:ld.length <= 56) :
 Calls Tryz.prog 143 #[.int .u64 (n:Int),v] w fun e w'=>∃ p,e = .returned (.tuple #[.slice p 64 64,.int .i64 0]) /\ Sect w.heap.size w' (.slice p 64 64) (SM.sec n ld) /\ w.grownBy w' none:=by
 obtain ⟨q,N,cap,rfl,hN⟩:=hv.opened
 have i1:¬ (56:Int) < (N:Int):=by omega
 have HN:Hid (N = ld.length):=hN
 have HV:Hid (∀ w',w.grownBy w' none -> Vec w' (.slice q N cap) ld):=fun w' g=>hv.keep g
 clear hv hN
 have zS:=zeroS
 have zM:=zeroM
 go_enter Tryz.func143,Tryz.ntmps143
 go_wp2_with (first
  | (go_at_call 155;refine (marked_any n _).mono ?_;rintro e w2 ⟨rfl,g2⟩)
  | (refine wpList_store_row rfl 205 (.tmp 7) (.tmp 12) rfl w2.heap.size (rowOf (SM.mk n)) rfl rfl 205 (rowOf (SM.z 8)) (heap_alloc_new w2 _) (infoM (SM.mk_len n)) (by rw [rowOf_size,rowOf_size,SM.mk_len,SM.z_len]) (rowOf_one _) ?_))
 clear zS zM
 have HA:Hid (((w2.alloc (.cells (rowOf (SM.z 8)) 205)).setRow w2.heap.size (rowOf (SM.mk n))).heap[w.heap.size]? = some (.cells (rowOf (SM.z 64)) 107 (0,0))):=by
  have hlt:w.heap.size < w2.heap.size:=by have:=g2.size;simp at this;omega
  show _ = _
  rw [setRow_other _ _ _ _ (by omega)]
  refine heap_old _ _ ?_
  rw [g2.block _ (by simp) (by simp)]
  exact heap_alloc_new w _
 have HB:Hid (((w2.alloc (.cells (rowOf (SM.z 8)) 205)).setRow w2.heap.size (rowOf (SM.mk n))).heap[w2.heap.size]? = some (.cells (rowOf (SM.mk n)) 205 (0,0))):=setRow_heap _ _ _ _ _ _ (heap_alloc_new w2 _)
 have HG:Hid (w.grownBy ((w2.alloc (.cells (rowOf (SM.z 8)) 205)).setRow w2.heap.size (rowOf (SM.mk n))) none):=gb_setRow (gb_alloc (grown_trans (gb_alloc (World.grownBy.refl _ _) _) g2) _) (by have:=g2.size;simp at this;omega) _
 have HLT:Hid (w.heap.size < w2.heap.size):=by have:=g2.size;simp at this;show _ < _;omega
 clear g2
 generalize (w2.alloc (.cells (rowOf (SM.z 8)) 205)).setRow w2.heap.size (rowOf (SM.mk n)) = W at *
 generalize w2.heap.size = h2 at *
 go_wp2_with fail
 have VB:Hid (Vec W.drew (.slice (some ⟨h2,0,none⟩) 8 8) (SM.mk n)):=((Arr.whole (B:=0) (n:=8) HB.out (Nat.zero_le _) (by rw [SM.mk_len]) (SM.mk_small n) (by rw [SM.mk_len];decide)).vec.keep (grown_drewN W 1))
 go_region_held3 (fun w'=>w.grownBy w' none) (first | exact gb_drew HG.out | exact HG4.out)
  ((refine step_copy_part (T:=107) (cur:=SM.z 64) (ys:=SM.mk n) (by rfl) _ _ (by rfl) _ (by rfl) (by rfl) HA.out VB.out (by rw [SM.mk_len];decide) (by rw [SM.mk_len,SM.z_len];decide) ?_;intro w4 h4 g4;have HG4:Hid (w.grownBy w4 none):=grown_new (gb_drew HG.out) g4 (fun i e=>by have:=Option.some.inj e;omega)))
 have H4:Hid (w4.heap[w.heap.size]? = some (.cells (rowOf (SM.mk n ++ SM.z 56)) 107 (0,0))):=by
  show _ = _
  rw [h4,List.take_zero,List.nil_append,SM.mk_len,SM.z_drop]
 clear h4 g4 VB HA HB HG HLT
 have hS:Hid ((SM.mk n ++ SM.z 56).take 8 ++ ld ++ (SM.mk n ++ SM.z 56).drop (8 + ld.length) = SM.sec n ld):=sec_cur n ld hl
 have HL:Hid ((SM.mk n ++ SM.z 56).length = 64):=by show _ = _;rw [List.length_append,SM.mk_len,SM.z_len]
 have VL:Hid (∀ x ∈ ld,x < 256):=(HV.out _ HG4.out).small
 generalize SM.mk n ++ SM.z 56 = cur at *
 go_wp2_with (refine wpList_copy_part rfl _ _ rfl _ (cur:=cur) (ys:=ld) rfl rfl H4.out (HV.out _ HG4.out) hl (by rw [HL.out];omega) ?_;intro w5 h5 g5)
 go_ret2
 rw [hS.out] at h5
 exact ⟨_,rfl,Arr.whole h5 (Nat.le_refl _) (SM.sec_len hl).symm (SM.sec_small VL.out) (by rw [SM.sec_len hl];decide),grown_new HG4.out g5 (fun i e=>by have:=Option.some.inj e;omega)⟩
theorem take_short {w:World} {v:Value} {xs:List Nat} (hv:Vec w v xs) (hl:xs.length < 64) :
 Calls Tryz.prog 144 #[v] w fun e w'=>e = .returned (.tuple #[.int .u64 0,.slice none 0 0,.int .i64 4]) /\ w' = w:=by
 obtain ⟨q,N,cap,rfl,hN⟩:=hv.opened
 have i1:(N:Int) < 64:=by omega
 clear hv hN
 go_enter Tryz.func144,Tryz.ntmps144
 go_wp2
 go_ret3
 exact ⟨rfl,rfl⟩
theorem take_long {w:World} {v:Value} {xs:List Nat} (hv:Vec w v xs) (hl:64 < xs.length) :
 Calls Tryz.prog 144 #[v] w fun e w'=>e = .returned (.tuple #[.int .u64 0,.slice none 0 0,.int .i64 3]) /\ w' = w:=by
 obtain ⟨q,N,cap,rfl,hN⟩:=hv.opened
 have i1:(64:Int) < (N:Int):=by omega
 clear hv hN
 go_enter Tryz.func144,Tryz.ntmps144
 go_wp2
 go_ret3
 exact ⟨rfl,rfl⟩
set_option maxHeartbeats 800000 in
theorem take_yes {w:World} {v:Value} {xs:List Nat} (hv:Vec w v xs) (hl:xs.length = 64) :
 Calls Tryz.prog 144 #[v] w fun e w'=>∃ p,e = .returned (.tuple #[.int .u64 ((SM.val xs 8:Nat):Int),.slice p 56 56,.int .i64 0]) /\ Own w.heap.size w' (.slice p 56 56) (xs.drop 8) /\ w.grownBy w' none:=by
 obtain ⟨q,N,cap,rfl,hN⟩:=hv.opened
 obtain rfl:N = 64:=by omega
 obtain ⟨b,off,rfl,_⟩:=hv.spot (k:=0) (by omega)
 have hcap:64 <= cap:=by
  obtain ⟨p',cap',e,h3,_⟩:=hv.form
  injection e with e1 e2 e3
  omega
 have hcm:cap <= maxLen:=by
  obtain ⟨p',cap',e,_,h4,_⟩:=hv.form
  injection e with e1 e2 e3
  omega
 have HV:Hid (∀ w',w.grownBy w' none -> Vec w' (.slice (some ⟨b,off,none⟩) 64 cap) xs):=fun w' g=>hv.keep g
 have HT:Hid (∀ w',w.grownBy w' none -> Vec w' (.slice (some ⟨b,off + 8,none⟩) 56 (cap - 8)) (xs.drop 8)):=fun w' g=>(hv.keep g).tail_a (by omega)
 clear hv hN
 unfold maxLen at hcm
 go_enter Tryz.func144,Tryz.ntmps144
 go_wp2_with (first
  | (at_make;refine wpList_make_vec rfl _ _ rfl 56 rfl rfl (by decide) ?_;intro w1 p ou g1;have OU:Hid (Own w.heap.size w1 (.slice p 56 56) (SM.z 56)):=ou;have G1:Hid (w.grownBy w1 none):=g1;clear ou g1)
  | (refine wpList_copy_vec rfl _ _ rfl _ _ rfl rfl OU.out (HT.out _ G1.out) (by rw [SM.z_len,List.length_drop,hl]) ?_;intro w2 o2 g2;have O2:Hid (Own w.heap.size w2 (.slice p 56 56) (xs.drop 8)):=o2;have G2:Hid (w.grownBy w2 none):=grown_new G1.out g2 (fun i e=>OU.out.lo i e);clear o2 g2)
  | (go_at_call 156;refine (stampOf_any (HV.out _ G2.out) (by omega)).mono ?_;rintro e w3 ⟨rfl,hw⟩;obtain rfl:=hw.symm;clear hw))
 go_ret3
 exact ⟨p,rfl,O2.out,G2.out⟩
def takeN (xs:List Nat):Nat:=if xs.length = 64 then SM.val xs 8 else 0
def takeL (xs:List Nat):List Nat:=if xs.length = 64 then xs.drop 8 else []
def takeE (xs:List Nat):Int:=if xs.length = 64 then 0 else if xs.length < 64 then 4 else 3
theorem take_all {w:World} {v:Value} {xs:List Nat} (hv:Vec w v xs) :
 Calls Tryz.prog 144 #[v] w fun e w'=>∃ p k,e = .returned (.tuple #[.int .u64 ((takeN xs:Nat):Int),.slice p k k,.int .i64 (takeE xs)]) /\ Own w.heap.size w' (.slice p k k) (takeL xs) /\ w.grownBy w' none:=by
 unfold takeN takeL takeE
 by_cases hl:xs.length = 64
 ·rw [if_pos hl,if_pos hl,if_pos hl]
  exact (take_yes hv hl).mono fun e w' ⟨p,h⟩=>⟨p,56,h⟩
 ·rw [if_neg hl,if_neg hl,if_neg hl]
  by_cases h2:xs.length < 64
  ·rw [if_pos h2]
   exact (take_short hv h2).mono fun e w' ⟨h1,h2⟩=>⟨none,0,h1,Own.nil _ _,by rw [h2];exact World.grownBy.refl _ _⟩
  ·rw [if_neg h2]
   exact (take_long hv (by omega)).mono fun e w' ⟨h1,h2⟩=>⟨none,0,h1,Own.nil _ _,by rw [h2];exact World.grownBy.refl _ _⟩
theorem mat_n {w:World} {p:Option Addr} {n c:Nat} {us:List Value} {X:List (List Nat)} (h:Mat w (.slice p n c) us X):us.length = n /\ X.length = n:=by
 have hs:=h.same
 obtain ⟨p',n',c',e',h'⟩:=h.row.opened
 injection e' with e1 e2 e3
 omega
theorem Mat.nil (w:World):Mat w (.slice none 0 0) [] []:=⟨⟨by simp,none,0,rfl,Nat.le_refl _,by decide,fun h=>absurd rfl h⟩,rfl,by simp⟩
structure RMat (T:TypeId) (B:Nat) (w:World) (v:Value) (us:List Value) (X:List (List Nat)):Prop where
 len:us.length * 24 <= 140737488351232
 row:w.ownsRow B 31 1 v us.length us
 same:us.length = X.length
 vec:∀ j,j < X.length -> Arr T B w (us.getD j undef) (X.getD j [])
theorem RMat.nil (T:TypeId) (B:Nat) (w:World):RMat T B w (.slice none 0 0) [] []:=⟨by simp,World.ownsRow_nil w B 31 1,rfl,by simp⟩
theorem RMat.lo {T:TypeId} {B:Nat} {w:World} {v:Value} {us:List Value} {X:List (List Nat)} (h:RMat T B w v us X):Lo B v:=fun k hk=>(h.row.lt k hk).1
theorem RMat.keep {T:TypeId} {B:Nat} {w w':World} {v:Value} {us:List Value} {X:List (List Nat)} (h:RMat T B w v us X) (g:w.grownBy w' none):RMat T B w' v us X :=
 ⟨h.len,h.row.kept g (by cases h:v.ownBlock <;> simp),h.same,fun j hj=>(h.vec j hj).keep g⟩
theorem RMat.kept {T:TypeId} {B:Nat} {w w':World} {v:Value} {us:List Value} {X:List (List Nat)} {row:Option Nat} (h:RMat T B w v us X) (g:w.grownBy w' row) (hr:∀ r,row = some r -> ∀ c f,w.heap[r]? ≠ some (.cells c 31 f) /\ w.heap[r]? ≠ some (.cells c T f)):RMat T B w' v us X:=by
 refine ⟨h.len,h.row.kept g ?_,h.same,fun j hj=>(h.vec j hj).kept g ?_⟩
 ·rcases h.row.2 with ⟨e,_⟩ | ⟨b,cap,cur,e,_,hg,_⟩
  ·subst e;exact .inl rfl
  ·subst e
   exact .inr fun e=>(hr b (by simpa [Value.ownBlock] using e.symm) cur (0,0)).1 hg
 ·rcases (h.vec j hj).row.2 with ⟨e,_⟩ | ⟨b,cap,cur,e,_,hg,_⟩
  ·rw [e];exact .inl rfl
  ·rw [e]
   exact .inr fun e=>(hr b (by simpa [Value.ownBlock] using e.symm) cur (0,0)).2 hg
theorem RMat.apart {T T':TypeId} (hT:T' ≠ 31) {B B':Nat} {w:World} {v u:Value} {us:List Value} {X:List (List Nat)} {xs:List Nat} (h:RMat T B w v us X) (hu:Arr T' B' w u xs):u.ownBlock = none \/ u.ownBlock ≠ v.ownBlock:=by
 rcases hu.row.2 with ⟨rfl,_⟩ | ⟨g,cap,cur,rfl,_,hg,_⟩
 ·exact .inl rfl
 ·rcases h.row.2 with ⟨rfl,_⟩ | ⟨g',cap',cur',rfl,_,hg',_⟩
  ·exact .inr (by simp [Value.ownBlock])
  ·refine .inr fun e=>?_
   simp only [Value.ownBlock,Option.some.injEq] at e
   subst e
   rw [hg] at hg'
   simp at hg'
   exact hT hg'.2
theorem RMat.more {T:TypeId} (hT:T ≠ 31) {B:Nat} {w w2:World} {v v' u:Value} {us:List Value} {X:List (List Nat)} {xs:List Nat} (h:RMat T B w v us X) (hu:Arr T B w u xs)
 (hl:(us.length + 1) * 24 <= 140737488351232) (hr:w2.ownsRow B 31 1 v' (us.length + 1) (us ++ [u])) (hg:w.grownBy w2 v.ownBlock):RMat T B w2 v' (us ++ [u]) (X ++ [xs]):=by
 refine ⟨by simpa using hl,by simpa using hr,by simp [h.same],fun j hj=>?_⟩
 have hs:=h.same
 by_cases hj':j < X.length
 ·have e1:(us ++ [u]).getD j undef = us.getD j undef:=by simp [List.getD,List.getElem?_append,show j < us.length from by omega]
  have e2:(X ++ [xs]).getD j [] = X.getD j []:=by simp [List.getD,List.getElem?_append,hj']
  rw [e1,e2]
  exact (h.vec j hj').kept hg (h.apart hT (h.vec j hj'))
 ·have hj2:j = X.length:=by simp at hj;omega
  have e1:(us ++ [u]).getD j undef = u:=by simp [List.getD,hj2,<- hs]
  have e2:(X ++ [xs]).getD j [] = xs:=by simp [List.getD,hj2]
  rw [e1,e2]
  exact hu.kept hg (h.apart hT hu)
theorem RMat.mat {T:TypeId} {B:Nat} {w:World} {v:Value} {us:List Value} {X:List (List Nat)} (h:RMat T B w v us X):Mat w v us X:=by
 refine ⟨⟨h.len,?_⟩,h.same,fun j hj=>(h.vec j hj).vec⟩
 have hr:=h.row
 rcases h.row.2 with ⟨rfl,hn⟩ | ⟨g,cap,cur,rfl,hb,hg,hc,hm,hs,ht⟩
 ·have:us = []:=List.eq_nil_of_length_eq_zero hn
  subst this
  exact ⟨none,0,rfl,Nat.le_refl _,by decide,fun h=>absurd rfl h⟩
 ·refine ⟨some ⟨g,0,none⟩,cap,rfl,hc,hm,fun _=>⟨g,0,rfl,fun j hj=>?_⟩⟩
  have:=hr.cells (g:=g) rfl j (us.getD j undef) (by simp [List.getD,hj])
  rwa [add_at] at this
theorem run_append_row {B:Nat} {w:World} {dv:Value} {us:List Value} (hd:w.ownsRow B 31 1 dv us.length us) (ad:Addr) {u:Value} (hu:w.cell? ad = some u) (h1:u.oneCell' = true) (hB:B <= w.heap.size) (hl:(us.length + 1) * 24 <= 140737488351232) (ty:TypeId) :
 ∃ v' w',(Builtin.append_ #[95,95] ty #[dv,.slice (some ad) 1 1]).run Tryz.prog w = .ok v' w' /\ w'.ownsRow B 31 1 v' (us.length + 1) (us ++ [u]) /\ w.grownBy w' dv.ownBlock /\ (v'.ownBlock = dv.ownBlock \/ v'.ownBlock = some w.heap.size):=by
 obtain ⟨i0,hi,hz0,hz1,hz2⟩:=info_parts Tryz.info22
 obtain ⟨v',w',r1,r2,r3,_,r5⟩:=run_append_own_at (P:=Tryz.prog) w B 95 ty 31 i0 (.slice none 0 0) 1 24 Tryz.underlying95 hi hz0 hz1 hz2 rfl (by decide) dv us.length us hd ad 1 1 [u] (by simp)
  (fun j v hj=>by
    match j,hj with
    | 0,hj=>simp at hj;subst hj;simpa [Addr.add] using hu)
  (fun v hv=>by simp at hv;subst hv;exact h1) (by unfold maxLen;omega) (by omega) hB
 exact ⟨v',w',r1,by simpa using r2,r3,r5⟩
theorem wpList_append_row {w:World} {ops:Array Oper} {rest:List Oper} {o:Oper} {a:Act} {Q:Exit -> Act -> World -> Prop} (hgd:o.guard = none) (d s:Operand)
 (ho:o.op = .call { callee:=.builtin .append,args:=#[d,s],argTypes:=#[95,95] }) (dv:Value) (ad:Addr) (hed:a.eval d = dv) (hes:a.eval s = .slice (some ad) 1 1)
 {B:Nat} {us:List Value} {u:Value} (hd:w.ownsRow B 31 1 dv us.length us) (hu:w.cell? ad = some u) (h1:u.oneCell' = true) (hB:B <= w.heap.size) (hl:(us.length + 1) * 24 <= 140737488351232)
 (h:∀ v' w',w'.ownsRow B 31 1 v' (us.length + 1) (us ++ [u]) -> w.grownBy w' dv.ownBlock -> (v'.ownBlock = dv.ownBlock \/ v'.ownBlock = some w.heap.size) -> wpList Tryz.prog ops Q rest (a.put o.dst v') w'):wpList Tryz.prog ops Q (o :: rest) a w:=by
 refine wpList_plain hgd fun K hK=>?_
 obtain ⟨v',w',hrun,r1,r2,r3⟩:=run_append_row hd ad hu h1 hB hl o.type
 unfold Oper.wp
 simp [execOp,ho,resolve,invoke,builtin,hed,hes,hrun,Result.andThen]
 exact hK _ _ (h _ _ r1 r2 r3)
theorem step_append_row {ops:Array Oper} {o:Oper} {a:Act} {w:World} {K:Act -> World -> Prop} {Q:Exit -> Act -> World -> Prop} {E:Prop} (hgd:o.guard = none) (d s:Operand)
 (ho:o.op = .call { callee:=.builtin .append,args:=#[d,s],argTypes:=#[95,95] }) (dv:Value) (ad:Addr) (hed:a.eval d = dv) (hes:a.eval s = .slice (some ad) 1 1)
 {B:Nat} {us:List Value} {u:Value} (hd:w.ownsRow B 31 1 dv us.length us) (hu:w.cell? ad = some u) (h1:u.oneCell' = true) (hB:B <= w.heap.size) (hl:(us.length + 1) * 24 <= 140737488351232)
 (h:∀ v' w',w'.ownsRow B 31 1 v' (us.length + 1) (us ++ [u]) -> w.grownBy w' dv.ownBlock -> (v'.ownBlock = dv.ownBlock \/ v'.ownBlock = some w.heap.size) -> K (a.put o.dst v') w') :
 if Region.wanted o (yielded ops a.tmps) = true then Oper.wp Tryz.prog o a w K Q else E:=by
 have hw:Region.wanted o (yielded ops a.tmps) = true:=by simp [Region.wanted,hgd]
 rw [if_pos hw]
 obtain ⟨v',w',hrun,r1,r2,r3⟩:=run_append_row hd ad hu h1 hB hl o.type
 unfold Oper.wp
 simp [execOp,ho,resolve,invoke,builtin,hed,hes,hrun,Result.andThen]
 exact h _ _ r1 r2 r3
theorem run_make_room (W:World) {n:Nat} (hn:n <= 140737488351232):∃ w',(Instr.makeSlice 31 (.int .i64 0) (.int .i64 (n:Int))).run Tryz.prog W = .ok (.slice (some ⟨W.heap.size,0,none⟩) 0 n) w' /\ Own W.heap.size w' (.slice (some ⟨W.heap.size,0,none⟩) 0 n) [] /\ W.grownBy w' none:=by
 obtain ⟨i0,hi,hz0,hz1,hz2⟩:=info_parts Tryz.info5
 obtain ⟨w',h1,h2,h3⟩:=run_make_own (P:=Tryz.prog) W W.heap.size 31 5 i0 (.int .u8 0) 1 Tryz.underlying31 hi hz0 hz1 .i64 .i64 n (by rw [hz2];omega) (by unfold maxLen;omega) (Nat.le_refl _)
 exact ⟨w',h1,⟨by simp,by simp,by simpa using h2⟩,h3⟩
theorem wpList_make_room {w:World} {ops:Array Oper} {rest:List Oper} {o:Oper} {a:Act} {Q:Exit -> Act -> World -> Prop} (hgd:o.guard = none) (l c:Operand)
 (ho:o.op = Op.makeSlice 31 l c) (n:Nat) (hel:a.eval l = .int .i64 0) (hec:a.eval c = .int .i64 (n:Int)) (hn:n <= 140737488351232)
 (h:∀ w1,Own w.heap.size w1 (.slice (some ⟨w.heap.size,0,none⟩) 0 n) [] -> w.grownBy w1 none -> wpList Tryz.prog ops Q rest (a.put o.dst (.slice (some ⟨w.heap.size,0,none⟩) 0 n)) w1):wpList Tryz.prog ops Q (o :: rest) a w:=by
 refine wpList_plain hgd fun K hK=>?_
 obtain ⟨w',hrun,r1,r2⟩:=run_make_room w hn
 unfold Oper.wp
 simp [execOp,ho,hel,hec,hrun,Result.andThen]
 exact hK _ _ (h _ r1 r2)
theorem run_make_rows0 (W:World) {n:Nat} (hn:n * 24 <= 140737488351232):∃ w',(Instr.makeSlice 95 (.int .i64 0) (.int .i64 (n:Int))).run Tryz.prog W = .ok (.slice (some ⟨W.heap.size,0,none⟩) 0 n) w' /\ w'.ownsRow W.heap.size 31 1 (.slice (some ⟨W.heap.size,0,none⟩) 0 n) 0 [] /\ W.grownBy w' none:=by
 obtain ⟨i0,hi,hz0,hz1,hz2⟩:=info_parts Tryz.info22
 exact run_make_own (P:=Tryz.prog) W W.heap.size 95 31 i0 (.slice none 0 0) 1 Tryz.underlying95 hi hz0 hz1 .i64 .i64 n (by rw [hz2];omega) (by unfold maxLen;omega) (Nat.le_refl _)
set_option linter.unusedSimpArgs false
set_option linter.unusedVariables false
section
variable {F F':Nat -> Prop} {w w':World} {s a:Nat} {g:SP.Geo} {R R':AM.Raw}
theorem sread_on (h:SI F w s a g R) (h0:R.off = false) {d slot i:Nat} (hd:d < g.n) (hs:slot < g.s) (hi:i < 8) (ho:R.on (d:Int) = true) :
 Calls Tryz.prog 53 #[ptr a,.int .i64 (d:Int),.int .i64 ((g.f + 8 * slot + i:Nat):Int)] w fun e w'=>∃ p,e = .returned (.tuple #[.slice p 64 64,.int .i64 0]) /\ Own w.heap.size w' (.slice p 64 64) (AM.look R.C d (g.f + 8 * slot + i)) /\ w.grownBy w' none:=by
 have hr:=SP.reach_on h.ok h0 hs hi hd
 rw [if_pos ho] at hr
 have:=read_yes h.i hr
 exact this
theorem sread_off (h:SI F w s a g R) (h0:R.off = false) {d slot i:Nat} (hd:d < g.n) (hs:slot < g.s) (hi:i < 8) (ho:R.on (d:Int) = false) :
 Calls Tryz.prog 53 #[ptr a,.int .i64 (d:Int),.int .i64 ((g.f + 8 * slot + i:Nat):Int)] w fun e w'=>e = .returned (.tuple #[.slice none 0 0,.int .i64 9]) /\ w' = w:=by
 have hr:=SP.reach_on h.ok h0 hs hi hd
 rw [ho] at hr
 have:=read_no h.i (d:=(d:Int)) (k:=((g.f + 8 * slot + i:Nat):Int)) (by rw [hr];decide)
 rw [hr] at this
 exact this
set_option maxHeartbeats 1600000 in
theorem ssectors_on (h:SI F w s a g R) (h0:R.off = false) {d slot:Nat} (hd:d < g.n) (hs:slot < g.s) (ho:R.on (d:Int) = true) :
 Calls Tryz.prog 109 #[ptr s,.int .i64 (d:Int),.int .i64 (slot:Int)] w fun e w'=>∃ v us,e = .returned v /\ RMat 5 w.heap.size w' v us (SP.sectTo R g slot d 8) /\ w.grownBy w' none:=by
 have H:Hid (SI F w s a g R):=h
 have HN:Hid (R.off = false /\ d < g.n /\ slot < g.s /\ R.on (d:Int) = true /\ g.f + 8 * slot + 8 <= 4096):=⟨h0,hd,hs,ho,by have:=h.ok.room;have:=h.i.ok.n2;omega⟩
 obtain ⟨w1,hmk0,hrow,g1⟩:=run_make_rows0 w (n:=8) (by omega)
 have hmk:(Instr.makeSlice 95 (.int .i64 0) (.int .i64 8)).run Tryz.prog w = .ok (.slice (some ⟨w.heap.size,0,none⟩) 0 8) w1:=hmk0
 clear hmk0
 have HR:Hid (w1.ownsRow w.heap.size 31 1 (.slice (some ⟨w.heap.size,0,none⟩) 0 8) 0 []):=hrow
 have HG:Hid (w.grownBy w1 none):=g1
 clear h h0 hd hs ho hrow g1
 go_enter Tryz.func109,Tryz.ntmps109
 go_wp2_with fail
 clear hmk
 go_loopw [7,12] (fun tl ti wr=>∃ k:Nat,k <= 8 /\ ti = .int .i64 k /\ Hid (∃ us,RMat 5 w.heap.size wr tl us (SP.sectTo R g slot d k)) /\ Hid (w.grownBy wr none)) (fun _ ti _=>8 - (intOf ti).toNat)
 case atStart=>exact ⟨0,by omega,rfl,⟨[],⟨by simp,HR.out,rfl,by simp [SP.sectTo]⟩⟩,HG⟩
 case round =>
  obtain ⟨k,hk,rfl,OK,GK⟩:=hrel
  obtain ⟨us,OM⟩:=OK.out
  have MK:Hid (RMat 5 w.heap.size wr u7 us (SP.sectTo R g slot d k)):=OM
  have HL:Hid ((us.length + 1) * 24 <= 140737488351232):=by show _ <= _;rw [OM.same,SP.sectTo_len];omega
  clear OM OK
  by_cases hlt:k < 8
  ·have i4:(k:Int) < 8:=by omega
   have GD:Hid (w.grownBy (wr.drewN 1) none):=grown_trans GK.out (grown_drewN wr 1)
   have HC:Hid (∀ w',wr.grownBy w' none -> w'.cell? ⟨s,0,none⟩ = some (ptr a)):=fun w' g'=>(H.out.keep (grown_trans GK.out g')).at1
   obtain ⟨b,hb⟩:∃ b,b = g.f + 8 * slot:=⟨_,rfl⟩
   obtain ⟨q,hq⟩:∃ q,q = g.f + 8 * slot + k:=⟨_,rfl⟩
   have HB:Hid (Calls Tryz.prog 102 #[ptr s,.int .i64 (slot:Int)] (wr.drewN 1) fun e w'=>e = .returned (.int .i64 (b:Int)) /\ w' = wr.drewN 1):=by
    rw [hb];exact sbegin_yes (H.out.keep GD.out) HN.out.2.2.1
   have RD:Hid (Calls Tryz.prog 53 #[ptr a,.int .i64 (d:Int),.int .i64 (q:Int)] (wr.drewN 1) fun e w'=>∃ p,e = .returned (.tuple #[.slice p 64 64,.int .i64 0]) /\ Own (wr.drewN 1).heap.size w' (.slice p 64 64) (AM.look R.C d q) /\ (wr.drewN 1).grownBy w' none):=by
    rw [hq];exact sread_on (H.out.keep GD.out) HN.out.1 HN.out.2.1 HN.out.2.2.1 hlt HN.out.2.2.2.1
   have hw:IntKind.i64.wrap ((b:Int) + (k:Int)) = (q:Int):=by
    have e:(b:Int) + (k:Int) = (q:Int):=by omega
    have:=HN.out.2.2.2.2
    rw [e]
    exact IntWalk.i64_in _ (by omega)
   have HS:Hid (SP.sectTo R g slot d (k + 1) = SP.sectTo R g slot d k ++ [AM.look R.C d q]):=by rw [hq];exact SP.sectTo_succ R g slot d k
   clear hb hq
   generalize SP.sectTo R g slot d k = XK at *
   generalize AM.look R.C d q = SK at *
   go_wp2_with fail
   go_region_held3 (fun w'=>w'.cell? ⟨s,0,none⟩ = some (ptr a)) (first | exact HC.out _ (grown_drewN _ 1) | exact HC.out _ (grown_trans (grown_drewN _ 1) G1.out))
    ((first
      | (go_at_call 102;refine HB.out.mono ?_;rintro e w9 ⟨rfl,hw9⟩;obtain rfl:=hw9.symm;clear hw9)
      | (go_at_call 53;refine RD.out.mono ?_;rintro e w2 ⟨p,rfl,op,g2⟩;have G1:Hid ((wr.drewN 1).grownBy w2 none):=g2;have OP:Hid (Arr 5 w.heap.size w2 (.slice p 64 64) SK):=op.arr.down GD.out.size;clear op g2)))
   have M1:Hid (RMat 5 w.heap.size w2 u7 us XK):=(MK.out.keep (grown_drewN wr 1)).keep G1.out
   have G2:Hid (w.grownBy w2 none):=grown_trans GD.out G1.out
   clear HB RD hw GD G1 MK
   go_wp2_with (at_builtin;refine wpList_append_row rfl _ _ rfl _ ⟨w2.heap.size,0,none⟩ rfl rfl (M1.out.keep (World.grownBy_alloc w2 _ none)).row (cell_new1 _ _ rfl) rfl (gb_alloc G2.out _).size HL.out ?_;intro v3 w3 r3 g3 at3;have M3:Hid (RMat 5 w.heap.size w3 v3 (us ++ [.slice p 64 64]) (XK ++ [SK])):=(M1.out.keep (World.grownBy_alloc w2 _ none)).more (by decide) (OP.out.keep (World.grownBy_alloc w2 _ none)) HL.out r3 g3;have G3:Hid (w.grownBy w3 none):=grown_new (gb_alloc G2.out _) g3 (fun i e=>M1.out.lo i e);clear r3 g3 at3)
   go_roundw
   case rel=>exact ⟨k + 1,by omega,by go_num,⟨_,by rw [HS.out];exact M3.out⟩,G3⟩
   case measure=>simp [intOf];omega
  ·obtain rfl:k = 8:=by omega
   go_wp2
   go_ret
   exact ⟨_,_,rfl,MK.out,GK.out⟩
set_option maxHeartbeats 1600000 in
theorem ssectors_off (h:SI F w s a g R) (h0:R.off = false) {d slot:Nat} (hd:d < g.n) (hs:slot < g.s) (ho:R.on (d:Int) = false) :
 Calls Tryz.prog 109 #[ptr s,.int .i64 (d:Int),.int .i64 (slot:Int)] w fun e w'=>e = .returned (.slice none 0 0) /\ w.grownBy w' none:=by
 have H:Hid (SI F w s a g R):=h
 have HN:Hid (R.off = false /\ d < g.n /\ slot < g.s /\ R.on (d:Int) = false /\ g.f + 8 * slot + 8 <= 4096):=⟨h0,hd,hs,ho,by have:=h.ok.room;have:=h.i.ok.n2;omega⟩
 obtain ⟨w1,hmk0,hrow,g1⟩:=run_make_rows0 w (n:=8) (by omega)
 have hmk:(Instr.makeSlice 95 (.int .i64 0) (.int .i64 8)).run Tryz.prog w = .ok (.slice (some ⟨w.heap.size,0,none⟩) 0 8) w1:=hmk0
 clear hmk0
 have HG:Hid (w.grownBy w1 none):=g1
 clear h h0 hd hs ho hrow g1
 go_enter Tryz.func109,Tryz.ntmps109
 go_wp2_with fail
 clear hmk
 go_loopw [7,12] (fun tl ti wr=>ti = .int .i64 0 /\ tl = .slice (some ⟨w.heap.size,0,none⟩) 0 8 /\ Hid (w.grownBy wr none)) (fun _ ti _=>8 - (intOf ti).toNat)
 case atStart=>exact ⟨rfl,rfl,HG⟩
 case round =>
  obtain ⟨rfl,rfl,GK⟩:=hrel
  have GD:Hid (w.grownBy (wr.drewN 1) none):=grown_trans GK.out (grown_drewN wr 1)
  have HC:Hid (∀ w',wr.grownBy w' none -> w'.cell? ⟨s,0,none⟩ = some (ptr a)):=fun w' g'=>(H.out.keep (grown_trans GK.out g')).at1
  obtain ⟨b,hb⟩:∃ b,b = g.f + 8 * slot:=⟨_,rfl⟩
  have HB:Hid (Calls Tryz.prog 102 #[ptr s,.int .i64 (slot:Int)] (wr.drewN 1) fun e w'=>e = .returned (.int .i64 (b:Int)) /\ w' = wr.drewN 1):=by
   rw [hb];exact sbegin_yes (H.out.keep GD.out) HN.out.2.2.1
  have RD:Hid (Calls Tryz.prog 53 #[ptr a,.int .i64 (d:Int),.int .i64 (b:Int)] (wr.drewN 1) fun e w'=>e = .returned (.tuple #[.slice none 0 0,.int .i64 9]) /\ w' = wr.drewN 1):=by
   rw [hb];exact sread_off (i:=0) (H.out.keep GD.out) HN.out.1 HN.out.2.1 HN.out.2.2.1 (by omega) HN.out.2.2.2.1
  have hw:IntKind.i64.wrap (b:Int) = (b:Int):=by
   have:=HN.out.2.2.2.2
   exact IntWalk.i64_in _ (by omega)
  clear hb
  go_wp2_with fail
  go_region_held3 (fun w'=>w'.cell? ⟨s,0,none⟩ = some (ptr a)) (exact HC.out _ (grown_drewN _ 1))
   ((first
     | (go_at_call 102;refine HB.out.mono ?_;rintro e w9 ⟨rfl,hw9⟩;obtain rfl:=hw9.symm;clear hw9)
     | (go_at_call 53;refine RD.out.mono ?_;rintro e w2 ⟨rfl,hw2⟩;obtain rfl:=hw2.symm;clear hw2)))
  go_wp2
  go_ret
  exact ⟨rfl,GD.out⟩
theorem ssectors_any (h:SI F w s a g R) (h0:R.off = false) {d slot:Nat} (hd:d < g.n) (hs:slot < g.s) :
 Calls Tryz.prog 109 #[ptr s,.int .i64 (d:Int),.int .i64 (slot:Int)] w fun e w'=>∃ v us,e = .returned v /\ Mat w' v us (SP.sects R g slot d) /\ w.grownBy w' none:=by
 cases ho:R.on (d:Int)
 ·rw [SP.sects_off ho]
  refine (ssectors_off h h0 hd hs ho).mono ?_
  rintro e w' ⟨rfl,g1⟩
  exact ⟨_,_,rfl,Mat.nil _,g1⟩
 ·rw [SP.sects_on ho]
  refine (ssectors_on h h0 hd hs ho).mono ?_
  rintro e w' ⟨v,us,rfl,m,g1⟩
  exact ⟨_,_,rfl,m.mat,g1⟩
end
theorem eqb_no {a b:Nat} (h:a ≠ b):((a:Int) == (b:Int)) = false:=by simp;omega
theorem eqb_yes {a b:Nat} (h:a = b):((a:Int) == (b:Int)) = true:=by simp;omega
theorem neb_yes {a b:Nat} (h:a ≠ b):((a:Int) != (b:Int)) = true:=by simp;omega
theorem neb_no {a b:Nat} (h:a = b):((a:Int) != (b:Int)) = false:=by simp;omega
theorem tN_no {X:List (List Nat)} (h:CM.yes X = false):CM.tN X = 0:=by simp [CM.tN,h]
theorem tL_no {X:List (List Nat)} (h:CM.yes X = false):CM.tL X = []:=by simp [CM.tL,h]
def stAt (X:List (List Nat)) (k:Nat):Nat:=if k = 0 then 0 else SM.val (X.getD 0 []) 8
theorem okTo_more {X:List (List Nat)} {k:Nat} (h:CM.okTo X k) (h1:(X.getD k []).length = 64) (h2:SM.val (X.getD k []) 8 ≠ 0) (h3:k = 0 \/ SM.val (X.getD k []) 8 = SM.val (X.getD 0 []) 8):CM.okTo X (k + 1):=fun j hj=>by
 by_cases e:j = k
 ·subst e
  refine ⟨h1,?_,h2⟩
  rcases h3 with h3 | h3
  ·subst h3;rfl
  ·exact h3
 ·exact h j (by omega)
theorem stAt_next {X:List (List Nat)} {k:Nat} (h3:k = 0 \/ SM.val (X.getD k []) 8 = SM.val (X.getD 0 []) 8):stAt X (k + 1) = SM.val (X.getD k []) 8:=by
 unfold stAt
 rw [if_neg (by omega)]
 rcases h3 with h3 | h3
 ·subst h3;rfl
 ·exact h3.symm
end Go.Proofs.YtaalagkbpeinkaaGreat
namespace Go.Proofs.YtaalagkbpeinkaaGreat
open Go.RowKit Go.Shelf
attribute [local go_sem] Oper.semAt_some
def cl (m x:Nat):Nat:=min x (m - 1)
theorem cl_lt {m x:Nat} (h:0 < m):cl m x < m:=by unfold cl;omega
theorem cl_self {m x:Nat} (h:x < m):cl m x = x:=by unfold cl;omega
def encL_c (b off m x:Nat):Array Value:=#[.slice (some ⟨b,off + 56 * cl m x,none⟩) 56 56]
def Kp7 (Bs Bn:Nat) (W W':World):Prop:=W'.heap[Bs]? = W.heap[Bs]? /\ W'.heap[Bn]? = W.heap[Bn]?
theorem chunk_any (w:World) (p:Option Addr) (n c:Nat) :
 Calls Tryz.prog 105 #[.slice p n c,.int .i64 56] w fun e w'=>e = .returned (.func (.func 128) #[] #[.pointer (some ⟨w.heap.size,0,none⟩),.pointer (some ⟨w.heap.size + 1,0,none⟩)]) /\ w' = (w.alloc (.cells #[.slice p n c] 31)).alloc (.cells #[.int .i64 56] 3):=by
 go_enter Tryz.func105,Tryz.ntmps105
 go_wp2
 go_ret
 exact ⟨rfl,rfl⟩
theorem slice_lo7 {b off n c lo:Nat} (h3:lo < n) (hc:n <= c) (W:World):(Instr.slice 31 (.slice (some ⟨b,off,none⟩) n c) (some (.int .i64 (lo:Int))) none none).run Tryz.prog W = .ok (.slice (some ⟨b,off + lo,none⟩) (n - lo) (c - lo)) W:=by
 obtain ⟨i0,hi0,hz0,hz1,hz2⟩:=info_parts Tryz.info5
 have e2:(Instr.sliceBound (.int .i64 (lo:Int)) n .sliceB).run Tryz.prog W = .ok lo W:=by
  have:=run_sliceBound (P:=Tryz.prog) W .i64 (lo:Int) n .sliceB (by omega) (by omega)
  simpa using this
 have h4:¬ c = lo:=by omega
 simp [Instr.slice,run_underlying Tryz.underlying31,Instr.sliceBounds,e2,sizeOf,typeInfo,hi0,hz1,h4,add_off]
theorem slice_lhm {b off n c lo hi:Nat} (h2:hi <= c) (h3:lo < hi) (W:World):(Instr.slice 31 (.slice (some ⟨b,off,none⟩) n c) (some (.int .i64 (lo:Int))) (some (.int .i64 (hi:Int))) (some (.int .i64 (hi:Int)))).run Tryz.prog W = .ok (.slice (some ⟨b,off + lo,none⟩) (hi - lo) (hi - lo)) W:=by
 obtain ⟨i0,hi0,hz0,hz1,hz2⟩:=info_parts Tryz.info5
 have e0:(Instr.sliceBound (.int .i64 (hi:Int)) c .slice3Acap).run Tryz.prog W = .ok hi W:=by
  have:=run_sliceBound (P:=Tryz.prog) W .i64 (hi:Int) c .slice3Acap (by omega) (by omega)
  simpa using this
 have e1:(Instr.sliceBound (.int .i64 (hi:Int)) hi .slice3B).run Tryz.prog W = .ok hi W:=by
  have:=run_sliceBound (P:=Tryz.prog) W .i64 (hi:Int) hi .slice3B (by omega) (by omega)
  simpa using this
 have e2:(Instr.sliceBound (.int .i64 (lo:Int)) hi .slice3C).run Tryz.prog W = .ok lo W:=by
  have:=run_sliceBound (P:=Tryz.prog) W .i64 (lo:Int) hi .slice3C (by omega) (by omega)
  simpa using this
 have h4:¬ hi = lo:=by omega
 simp [Instr.slice,run_underlying Tryz.underlying31,Instr.sliceBounds,e0,e1,e2,sizeOf,typeInfo,hi0,hz1,h4,add_off]
set_option maxRecDepth 100000 in
set_option maxHeartbeats 2000000 in
theorem chunk1_in (n:Nat) (hn:1 <= n) (l Bs Bn b off N cap m:Nat) (hN:N = 56 * m) (hm:m <= 64) (hcap:N <= cap) (J Jx:List Nat -> World -> Prop)
 (hY:∀ pre x W,J pre W -> pre.length < m -> YieldAt Fence.wide (n - 1) Tryz.prog l (encL_c b off m x) W fun e W' =>
   (e = .returned (.bool true) /\ J (pre ++ [x]) W' /\ Kp7 Bs Bn W W') \/ (e = .returned (.bool false) /\ Jx (pre ++ [x]) W'))
 (W:World) (hBs:Boxed W Bs 31 (.slice (some ⟨b,off,none⟩) N cap)) (hBn:Boxed W Bn 3 (.int .i64 56)) (hJd:∀ pre W,J pre W -> J pre W.drew) (h0:J [] W) :
 CallsIn Fence.wide n Tryz.prog 128 #[.func (.yield l) #[] #[],.pointer (some ⟨Bs,0,none⟩),.pointer (some ⟨Bn,0,none⟩)] W fun e W'=>(∃ v,e = .returned v) /\
  ((∃ ys,ys = List.range m /\ J ys W') \/ (∃ pre,(∃ k,k <= m /\ pre = List.range k) /\ Jx pre W')):=by
 have HN:Hid (N = 56 * m /\ N <= cap):=⟨hN,hcap⟩
 have HY:Hid _:=hY
 clear hN hcap hY
 refine callsIn_of_wp Tryz.func128 rfl trivial ?_ rfl
 simp only [Tryz.ntmps128,List.size_toArray,List.length_cons,List.length_nil,Nat.reduceAdd,Nat.reduceSub,Array.replicate_succ,Array.replicate_zero,List.push_toArray,List.append_toArray,List.nil_append,List.cons_append]
 gi_wp2
 gi_loopw [4] (fun i wr=>∃ k:Nat,k <= m /\ i = .int .i64 (56 * (k:Int)) /\ Hid (J (List.range k) wr) /\ Hid (Boxed wr Bs 31 (.slice (some ⟨b,off,none⟩) N cap) /\ Boxed wr Bn 3 (.int .i64 56)))
  (fun i _=>56 * m - (intOf i).toNat)
 case atStart=>exact ⟨0,Nat.zero_le _,rfl,h0,hBs,hBn⟩
 case round =>
  clear hBs hBn h0
  obtain ⟨k,hk,rfl,hJs,hB⟩:=hrel
  have c1:=hB.out.1.cell
  by_cases hlt:k < m
  ·have i1:56 * (k:Int) < (N:Int):=by have:=HN.out;omega
   have HY2:Hid (YieldAt Fence.wide (n - 1) Tryz.prog l (encL_c b off m k) wr.drew fun e W'=>(e = .returned (.bool true) /\ J (List.range k ++ [k]) W' /\ Kp7 Bs Bn wr.drew W') \/ (e = .returned (.bool false) /\ Jx (List.range k ++ [k]) W')):=HY.out _ _ _ (hJd _ _ hJs.out) (by simpa using hlt)
   have s1:=fun W=>slice_lo7 (b:=b) (off:=off) (n:=N) (c:=cap) (lo:=56 * k) (by have:=HN.out;omega) HN.out.2 W
   rw [show ((56 * k:Nat):Int) = 56 * (k:Int) by omega] at s1
   obtain ⟨R,hR⟩:∃ R,R = N - 56 * k:=⟨_,rfl⟩
   rw [<- hR] at s1
   have iR:¬ (R:Int) < 56:=by have:=HN.out;omega
   have HB:Hid (∀ w',wr.grownBy w' none -> w'.cell? ⟨Bs,0,none⟩ = some (.slice (some ⟨b,off,none⟩) N cap) /\ w'.cell? ⟨Bn,0,none⟩ = some (.int .i64 56)):=fun w' g=>⟨g.cell hB.out.1.cell (by simp),g.cell hB.out.2.cell (by simp)⟩
   clear hR hJs
   gi_wp2
   refine wpIn_wide.2 ?_
   go_region_held3 (fun w'=>w'.cell? ⟨Bs,0,none⟩ = some (.slice (some ⟨b,off,none⟩) N cap) /\ w'.cell? ⟨Bn,0,none⟩ = some (.int .i64 56)) (first | exact HB.out _ (grown_drewN _ 1)) (fail)
   clear s1 i1
   have eL:encL_c b off m k = #[.slice (some ⟨b,off + 56 * k,none⟩) 56 56]:=by simp [encL_c,cl_self hlt]
   rw [eL] at HY2
   obtain ⟨fn,tmps,assign,body,hy,hR⟩:=HY2.out
   have s2:=fun W=>slice_lhm (b:=b) (off:=off) (n:=N) (c:=cap) (lo:=56 * k) (hi:=56 * k + 56) (by have:=HN.out;omega) (by omega) W
   rw [show ((56 * k + 56:Nat):Int) = 56 * (k:Int) + 56 by omega,show ((56 * k:Nat):Int) = 56 * (k:Int) by omega,show 56 * k + 56 - 56 * k = 56 by omega] at s2
   have d1:wr.drew.cell? ⟨Bs,0,none⟩ = some (.slice (some ⟨b,off,none⟩) N cap):=c1
   clear HY2 eL c1
   gi_wp2
   refine hR.mono ?_
   rintro e W3 (⟨rfl,hJ3,hk3⟩ | ⟨rfl,hJx3⟩)
   ·have HJ3:Hid (J (List.range k ++ [k]) W3):=hJ3
    have hB3:Hid (Boxed W3 Bs 31 (.slice (some ⟨b,off,none⟩) N cap) /\ Boxed W3 Bn 3 (.int .i64 56)):=⟨hk3.1.trans hB.out.1,hk3.2.trans hB.out.2⟩
    have c3:=hB3.out.2.cell
    clear hJ3 hk3 hy hR s2 d1
    gi_wp2
    go_roundw
    case rel=>exact ⟨k + 1,by omega,by go_num,by rw [List.range_succ];exact HJ3,hB3⟩
    case measure=>simp [intOf];omega
   ·have HJ3:Hid (Jx (List.range k ++ [k]) W3):=hJx3
    clear hJx3 hy hR s2 d1
    gi_wp2
    refine bodyPost_ret (results_none rfl _ _ _) rfl ?_
    exact ⟨⟨_,rfl⟩,.inr ⟨_,⟨k + 1,by omega,(List.range_succ).symm⟩,HJ3.out⟩⟩
  ·obtain rfl:k = m:=by omega
   have i1:¬ 56 * (k:Int) < (N:Int):=by have:=HN.out;omega
   gi_wp2
   go_end0
   exact ⟨⟨_,rfl⟩,.inl hJs.out⟩
attribute [local go_sem] Oper.semAt_some
theorem chunk_stops (n:Nat) (hn:1 <= n) (Bs Bn b off N cap m:Nat) (hN:N = 56 * m) (hm:m <= 64) (hcap:N <= cap) (w:World) (hBs:Boxed w Bs 31 (.slice (some ⟨b,off,none⟩) N cap)) (hBn:Boxed w Bn 3 (.int .i64 56)) :
 SeqStopsK Fence.wide n Tryz.prog 128 #[.pointer (some ⟨Bs,0,none⟩),.pointer (some ⟨Bn,0,none⟩)] (fun x:Nat=>encL_c b off m x) (Kp7 Bs Bn) (fun ys=>ys = List.range m) (fun pre=>∃ k,k <= m /\ pre = List.range k) m w:=fun l J Jx W hW hJ _ hY h0 =>
 chunk1_in n hn l Bs Bn b off N cap m hN hm hcap J Jx hY W ((hW.block Bs hBs.lt).trans hBs) ((hW.block Bn hBn.lt).trans hBn) (fun pre W h=>hJ pre W _ none h (grown_drewN W 1) (by simp)) h0
def rowsOf (n:Nat) (xs:List Nat) (m:Nat) (pre:List Nat):List (List Nat):=pre.map fun i=>SM.sec n (CM.ld xs (cl m i))
theorem rowsOf_all (n:Nat) (xs:List Nat) (m:Nat):rowsOf n xs m (List.range m) = CM.secs n xs m:=by
 unfold rowsOf CM.secs
 refine List.map_congr_left fun i hi=>?_
 rw [cl_self (List.mem_range.1 hi)]
structure CutI (w:World) (n m:Nat) (xs:List Nat) (M b off N cap:Nat) (pre:List Nat) (W:World) (dv:Value) (us:List Value):Prop where
 made:Boxed W M 95 dv
 mat:RMat 107 w.heap.size W dv us (rowsOf n xs m pre)
 num:Boxed W w.heap.size 30 (.int .u64 (n:Int))
 bs:Boxed W (M + 1) 31 (.slice (some ⟨b,off,none⟩) N cap)
 bn:Boxed W (M + 2) 3 (.int .i64 56)
 ne:dv.ownBlock ≠ some (M + 1)
 lM:w.heap.size <= M
 gr:w.grownBy W none
theorem CutI.kept {w:World} {n m:Nat} {xs:List Nat} {M b off N cap:Nat} {pre:List Nat} {W W':World} {dv:Value} {us:List Value} {row:Option Nat} (h:CutI w n m xs M b off N cap pre W dv us) (g:W.grownBy W' row)
 (hr:∀ r,row = some r -> w.heap.size <= r /\ ∃ o:Obj,W.heap[r]? = some o /\ o.isCells = false):CutI w n m xs M b off N cap pre W' dv us:=by
 have bx:∀ {B:Nat} {t:TypeId} {v:Value},Boxed W B t v -> Boxed W' B t v:=fun hb=>hb.kept g fun e=>by
  obtain ⟨_,o,ho,hc⟩:=hr _ e.symm
  rw [show W.heap[_]? = _ from hb] at ho
  cases ho;cases hc
 refine ⟨bx h.made,h.mat.kept g (fun r e c f=>?_),bx h.num,bx h.bs,bx h.bn,h.ne,h.lM,grown_new h.gr g (fun r e=>(hr r e).1)⟩
 obtain ⟨_,o,ho,hc⟩:=hr r e
 rw [ho]
 constructor <;> (intro e2;injection e2 with e2;subst e2;cases hc)
theorem CutI.own (w:World) (n m:Nat) (xs:List Nat) (M b off N cap B:Nat) (hB:w.heap.size <= B):OwnFrom B (fun (pre:List Nat) W=>∃ dv us,CutI w n m xs M b off N cap pre W dv us) :=
 fun _ _ _ _ ⟨dv,us,h⟩ g hr=>⟨dv,us,h.kept g fun r e=>⟨Nat.le_trans hB (hr r e).1,(hr r e).2⟩⟩
theorem RMat.notBox {T t:TypeId} (h1:t ≠ 31) {B D:Nat} {w:World} {v u:Value} {us:List Value} {X:List (List Nat)} (h:RMat T B w v us X) (hb:Boxed w D t u):some D ≠ v.ownBlock:=hb.not_row h1 h.row
theorem CutI.more {w:World} {n m:Nat} {xs:List Nat} {M b off N cap:Nat} {pre:List Nat} {W w5:World} {dv v' u:Value} {us:List Value} {x:Nat} (C:CutI w n m xs M b off N cap pre W dv us)
 (o:Arr 107 w.heap.size W u (SM.sec n (CM.ld xs (cl m x)))) (hl:(us.length + 1) * 24 <= 140737488351232) (r5:w5.ownsRow w.heap.size 31 1 v' (us.length + 1) (us ++ [u])) (g5:W.grownBy w5 dv.ownBlock) (at5:v'.ownBlock = dv.ownBlock \/ v'.ownBlock = some W.heap.size) :
 Boxed w5 M 95 dv /\ CutI w n m xs M b off N cap (pre ++ [x]) (w5.setCell ⟨M,0,none⟩ v') v' (us ++ [u]) /\ KeepsOthers W (w5.setCell ⟨M,0,none⟩ v'):=by
 have b1:Boxed w5 M 95 dv:=C.made.kept g5 (C.mat.notBox (by decide) C.made)
 have m5:=C.mat.more (by decide) o hl r5 g5
 have gs:=grownBy_setCell' w5 M v'
 have lm:=C.bs.lt
 have ln:=C.lM
 refine ⟨b1,⟨b1.set _,?_,((C.num.kept g5 (C.mat.notBox (by decide) C.num)).kept gs ?_),((C.bs.kept g5 (fun e=>C.ne e.symm)).kept gs (by simp)),((C.bn.kept g5 (C.mat.notBox (by decide) C.bn)).kept gs (by simp)),?_,C.lM,?_⟩,?_⟩
 ·have e:rowsOf n xs m (pre ++ [x]) = rowsOf n xs m pre ++ [SM.sec n (CM.ld xs (cl m x))]:=by simp [rowsOf]
  rw [e]
  refine m5.kept gs (fun r e c f=>?_)
  obtain rfl:=Option.some.inj e
  rw [show w5.heap[M]? = _ from b1]
  constructor <;> (intro e2;simp at e2)
 ·intro e
  have h1:=Option.some.inj e
  have h2:=C.num
  rw [h1] at h2
  have h3:=(show W.heap[M]? = _ from h2).symm.trans (show W.heap[M]? = _ from C.made)
  simp at h3
 ·rcases at5 with e | e
  ·rw [e];exact C.ne
  ·rw [e];intro e2;have:=Option.some.inj e2;omega
 ·exact grown_new (grown_new C.gr g5 C.mat.lo) gs (fun i e=>by have:=Option.some.inj e;omega)
 ·refine (KeepsOthers.of_grownBy g5 fun j o' ej hj=>?_).trans (KeepsOthers.setCell _ _ _)
  rcases C.mat.row.2 with ⟨rfl,_⟩ | ⟨g,cp,cur,rfl,_,hgb,_⟩
  ·simp [Value.ownBlock] at ej
  ·obtain rfl:g = j:=by simpa [Value.ownBlock] using ej
   rw [hgb] at hj;cases hj;rfl
theorem Vec.room {w:World} {p:Option Addr} {n c c':Nat} {xs:List Nat} (h:Vec w (.slice p n c) xs) (h1:n <= c') (h2:c' <= maxLen):Vec w (.slice p n c') xs:=by
 obtain ⟨a1,a2,p',cap',e,a3,a4,a5⟩:=h
 injection e with e1 e2 e3
 subst e1
 subst e2
 exact ⟨a1,a2,p,c',rfl,h1,h2,a5⟩
set_option maxRecDepth 100000 in
set_option maxHeartbeats 2000000 in
theorem cut_any {w:World} {n m b off N cap:Nat} {xs:List Nat} (hv:Vec w (.slice (some ⟨b,off,none⟩) N cap) xs) (hN:N = 56 * m) (hx:xs.length = 56 * m) (hm0:0 < m) (hm:m <= 64) (hcap:N <= cap) :
 Calls Tryz.prog 125 #[.int .u64 (n:Int),.slice (some ⟨b,off,none⟩) N cap] w fun e w'=>∃ u us,e = .returned u /\ RMat 107 w.heap.size w' u us (CM.secs n xs m) /\ w.grownBy w' none:=by
 have HN:Hid (N = 56 * m /\ xs.length = 56 * m /\ 0 < m /\ m <= 64 /\ N <= cap):=⟨hN,hx,hm0,hm,hcap⟩
 have hq:(N:Int) / 56 = (m:Int):=by omega
 obtain ⟨w1,hmk,hrow,g1⟩:=run_make_rows0 (w.alloc (.cells #[.int .u64 (n:Int)] 30)) (n:=m) (by omega)
 have HR:Hid (w1.ownsRow (w.alloc (.cells #[.int .u64 (n:Int)] 30)).heap.size 31 1 (.slice (some ⟨(w.alloc (.cells #[.int .u64 (n:Int)] 30)).heap.size,0,none⟩) 0 m) 0 []):=hrow
 have HG:Hid ((w.alloc (.cells #[.int .u64 (n:Int)] 30)).grownBy w1 none):=g1
 have HV:Hid (Vec w (.slice (some ⟨b,off,none⟩) N cap) xs):=hv
 clear hv hN hx hm0 hcap hrow g1
 rw [World.size_alloc] at hmk
 refine (callsIn_wide (n:=5)).1 ?_
 refine callsIn_of_wp_marks Tryz.func125 rfl trivial ?_ rfl
 simp only [Tryz.ntmps125,List.size_toArray,List.length_cons,List.length_nil,Nat.reduceAdd,Nat.reduceSub,Array.replicate_succ,Array.replicate_zero,List.push_toArray,List.append_toArray,List.nil_append,List.cons_append]
 gi_wp2_with (refine ⟨trivial,?_⟩;gi_at_call 105;refine (callsIn_wide.2 (chunk_any _ _ _ _)).mono ?_;rintro e w2 ⟨rfl,rfl⟩)
 have I0:CutI w n m xs w1.heap.size b off N cap [] (((w1.alloc (.cells #[.slice (some ⟨w.heap.size + 1,0,none⟩) 0 m] 95)).alloc (.cells #[.slice (some ⟨b,off,none⟩) N cap] 31)).alloc (.cells #[.int .i64 56] 3)) (.slice (some ⟨w.heap.size + 1,0,none⟩) 0 m) []:=by
  have hR:=HR.out
  rw [World.size_alloc] at hR
  have hlt:=hR.lt (w.heap.size + 1) rfl
  have hsz:=HG.out.size
  have ga:=World.grownBy_alloc w1 (.cells #[.slice (some ⟨w.heap.size + 1,0,none⟩) 0 m] 95) none
  have gb:=gb_alloc ga (.cells #[.slice (some ⟨b,off,none⟩) N cap] 31)
  have gc:=gb_alloc gb (.cells #[.int .i64 56] 3)
  refine ⟨((Boxed.new w1 _ _).alloc _).alloc _,⟨by simp,?_,rfl,by simp [rowsOf]⟩,(((Boxed.new w 30 (.int .u64 (n:Int))).kept HG.out (by simp)).kept gc (by simp)),?_,?_,?_,?_,grown_trans (grown_trans (World.grownBy_alloc w _ none) HG.out) gc⟩
  ·have h1:=hR.kept gc (.inr (by simp [Value.ownBlock]))
   exact ⟨h1.1,by
    rcases h1.2 with h | ⟨g,cp,cur,a1,a2,a3⟩
    ·exact .inl h
    ·exact .inr ⟨g,cp,cur,a1,by omega,a3⟩⟩
  ·have h1:=Boxed.new (w1.alloc (.cells #[.slice (some ⟨w.heap.size + 1,0,none⟩) 0 m] 95)) 31 (.slice (some ⟨b,off,none⟩) N cap)
   rw [World.size_alloc] at h1
   exact h1.alloc _
  ·have h1:=Boxed.new ((w1.alloc (.cells #[.slice (some ⟨w.heap.size + 1,0,none⟩) 0 m] 95)).alloc (.cells #[.slice (some ⟨b,off,none⟩) N cap] 31)) 3 (.int .i64 56)
   rw [World.size_alloc,World.size_alloc] at h1
   exact h1
  ·simp only [Value.ownBlock];intro e;have:=Option.some.inj e;omega
  ·simp at hsz;omega
 have HI0:Hid (CutI w n m xs w1.heap.size b off N cap [] (((w1.alloc (.cells #[.slice (some ⟨w.heap.size + 1,0,none⟩) 0 m] 95)).alloc (.cells #[.slice (some ⟨b,off,none⟩) N cap] 31)).alloc (.cells #[.int .i64 56] 3)) (.slice (some ⟨w.heap.size + 1,0,none⟩) 0 m) []):=I0
 clear I0 hmk HR HG
 generalize w1.heap.size = M at *
 generalize ((w1.alloc (.cells #[.slice (some ⟨w.heap.size + 1,0,none⟩) 0 m] 95)).alloc (.cells #[.slice (some ⟨b,off,none⟩) N cap] 31)).alloc (.cells #[.int .i64 56] 3) = W0 at *
 have hWs:w.heap.size <= W0.heap.size:=HI0.out.gr.size
 refine wpIn_rangeFunc_ownG rfl (by decide) (gf:=128) (lb:=#[.pointer (some ⟨M + 1,0,none⟩),.pointer (some ⟨M + 2,0,none⟩)]) rfl trivial (enters_of Tryz.func128 (by kernel_rfl) rfl)
  (chunk_stops 4 (by decide) (M + 1) (M + 2) b off N cap m HN.out.1 HN.out.2.2.2.1 HN.out.2.2.2.2 W0 HI0.out.bs HI0.out.bn)
  (fun h k=>⟨k.1.trans h.1,k.2.trans h.2⟩) (fun W l o o' hl h _ _=>⟨World.putObj_heap_other (by have:=HI0.out.bs.lt;omega),World.putObj_heap_other (by have:=HI0.out.bn.lt;omega)⟩) (Below.refl _ _) (fun _=>rfl)
  (fun pre W=>∃ dv us,CutI w n m xs M b off N cap pre W dv us) (fun _ _ _=>False)
  (CutI.own w n m xs M b off N cap _ hWs) (fun _ _ _ _ _ hs _ _=>hs) ⟨_,_,HI0.out⟩
  (fun x=>{ tmps:=#[.int .u64 (n:Int),.slice (some ⟨b,off,none⟩) N cap,.pointer (some ⟨w.heap.size,0,none⟩),undef,.slice none 0 0,.pointer (some ⟨M,0,none⟩),.slice (some ⟨b,off + 56 * cl m x,none⟩) 56 56,undef,undef,
    .slice (some ⟨b,off,none⟩) N cap,.int .i64 (N:Int),.int .i64 (m:Int),.slice (some ⟨w.heap.size + 1,0,none⟩) 0 m,.slice (some ⟨b,off,none⟩) N cap,
    .func (.func 128) #[] #[.pointer (some ⟨M + 1,0,none⟩),.pointer (some ⟨M + 1 + 1,0,none⟩)],.slice (some ⟨b,off + 56 * cl m x,none⟩) 56 56,undef,undef,undef,undef,undef,undef,undef,undef,undef,undef,undef],defers:=[] }) ?assign ?body ?done ?stop
 case assign =>
  intro l x W K hK
  dsimp only [encL_c]
  gi_wp2
  exact hK
 case body =>
  rintro l pre x W ⟨dv,us,C⟩ hlen
  obtain ⟨i0,hi,hz0,hz1,hz2⟩:=info_parts Tryz.info22
  have hd:1 <= 5 - 1 - 1:=by decide
  have cN:=C.num.cell
  have HC:Hid (CutI w n m xs M b off N cap pre W dv us):=C
  have hxm:=cl_lt (x:=x) HN.out.2.2.1
  have VL:Hid (Vec W (.slice (some ⟨b,off + 56 * cl m x,none⟩) 56 56) (CM.ld xs (cl m x))):=by
   have h1:=((HV.out.keep C.gr).tail_a (n:=56 * cl m x) (by have:=HN.out;omega)).cut (n:=56) (by rw [List.length_drop];have:=HN.out;omega)
   exact h1.room (Nat.le_refl _) (by decide)
  have LL:Hid ((CM.ld xs (cl m x)).length <= 56 /\ (us.length + 1) * 24 <= 140737488351232 /\ w.heap.size <= W.heap.size):=⟨by rw [CM.ld_len (by have:=HN.out;omega)];exact Nat.le_refl _,by
   have h1:=C.mat.same
   simp only [rowsOf,List.length_map] at h1
   have:=HN.out
   omega,C.gr.size⟩
  clear C hxm
  gi_wp2_with (first
   | (refine ⟨trivial,?_⟩;gi_at_call 143;refine (CallsIn.inRound l (callsIn_wide.2 (put_yes (n:=n) VL.out LL.out.1))).mono ?_;rintro e w4 ⟨p,rfl,op,g4⟩;have HO:Hid (Arr 107 w.heap.size w4 (.slice p 64 64) (SM.sec n (CM.ld xs (cl m x)))):=op.down LL.out.2.2;have C4:Hid (CutI w n m xs M b off N cap pre w4 dv us):=HC.out.kept g4 (by simp);have G4:Hid (W.grownBy w4 none):=g4;have cM:=C4.out.made.cell;clear op g4)
   | (gi_at_builtin;refine wpListIn_append_own_at _ rfl _ _ 95 rfl w.heap.size 31 i0 (.slice none 0 0) 1 24 Tryz.underlying95 hi hz0 hz1 hz2 rfl (by decide) dv us.length us rfl (C4.out.kept (World.grownBy_alloc w4 (.cells #[.slice p 64 64] 31) none) (by simp)).mat.row ⟨w4.heap.size,0,none⟩ 1 1 [.slice p 64 64] rfl rfl (cell_one_new _ _ _) (by simp [Value.oneCell']) (by have:=LL.out.2.1;unfold maxLen;omega) (by have:=LL.out.2.1;omega) (by have:=LL.out.2.2;have:=G4.out.size;simp;omega) ?_;intro v' w5 r5 g5 hz5 at5;obtain ⟨g',cap',rfl⟩:=ownsRow_succ r5;clear hz5
      obtain ⟨k1,k2,k3⟩:=CutI.more (x:=x) (C4.out.kept (World.grownBy_alloc w4 (.cells #[.slice p 64 64] 31) none) (by simp)) (HO.out.keep (World.grownBy_alloc w4 (.cells #[.slice p 64 64] 31) none)) LL.out.2.1 r5 g5 at5
      have K2:Hid (CutI w n m xs M b off N cap (pre ++ [x]) (w5.setCell ⟨M,0,none⟩ (.slice (some ⟨g',0,none⟩) (us.length + 1) cap')) (.slice (some ⟨g',0,none⟩) (us.length + 1) cap') (us ++ [.slice p 64 64])):=k2
      have K3:Hid (KeepsOthers W (w5.setCell ⟨M,0,none⟩ (.slice (some ⟨g',0,none⟩) (us.length + 1) cap'))):=((KeepsOthers.of_grownBy G4.out (fun j o e _=>by cases e)).trans (KeepsOthers.alloc _ _)).trans k3
      have c5:=k1.cell
      have f5:=k1.frozen
      clear r5 g5 at5 k1 k2 k3))
  exact ⟨K3.out.from _,⟨K2.out.bs.trans HC.out.bs.symm,K2.out.bn.trans HC.out.bn.symm⟩,_,_,K2.out⟩
 case done =>
  rintro D ys W hD rfl ⟨dv,us,C⟩ hK
  have cM:=C.made.cell
  have HC:Hid (CutI w n m xs M b off N cap (List.range m) W dv us):=C
  have HD:Hid (w.heap.size <= D):=Nat.le_trans hWs hD
  have HK:Hid (W.heap[D]? = some (.deferred (some []))):=hK
  clear C
  gi_wp2
  refine ⟨by simp,.inl ⟨_,_,rfl,run_takeDeferred HK.out,?_⟩⟩
  have gp:=grownBy_putObj' W D (.deferred none)
  refine ⟨_,results_tmp rfl _ _ _,_,us,rfl,?_,grown_new HC.out.gr gp (fun i e=>by have:=Option.some.inj e;have:=HD.out;omega)⟩
  rw [<- rowsOf_all]
  exact (HC.out.kept gp (fun r e=>by have:=Option.some.inj e;subst this;exact ⟨HD.out,_,HK.out,rfl⟩)).mat
 case stop =>
  rintro D c pre W _ _ h _
  exact h.elim
end Go.Proofs.YtaalagkbpeinkaaGreat
namespace Go.Proofs.YtaalagkbpeinkaaGreat
open Go.RowKit
structure Tak (w0:World) (A D:Nat) (w:World) (a:Nat) (dv:Value) (cur:List Nat):Prop where
 ca:Boxed w A 30 (.int .u64 (a:Int))
 cd:Boxed w D 31 dv
 own:Own w0.heap.size w dv cur
 lA:w0.heap.size <= A
 lD:w0.heap.size <= D
 gr:w0.grownBy w none
theorem Own.notBox {B D:Nat} {w:World} {v u:Value} {xs:List Nat} {T:TypeId} (hT:T ≠ 5) (h:Own B w v xs) (hb:Boxed w D T u):v.ownBlock = none \/ v.ownBlock ≠ some D:=by
 rcases h.row.2 with ⟨rfl,_⟩ | ⟨g,cap,cur,rfl,_,hg,_⟩
 ·exact .inl rfl
 ·refine .inr fun e=>?_
  obtain rfl:g = D:=by simpa [Value.ownBlock] using e
  rw [show w.heap[g]? = _ from hb] at hg
  simp at hg
  exact hT hg.2
theorem Tak.keep {w0 w w':World} {A D a:Nat} {dv:Value} {cur:List Nat} (h:Tak w0 A D w a dv cur) (g:w.grownBy w' none):Tak w0 A D w' a dv cur :=
 ⟨h.ca.kept g (by simp),h.cd.kept g (by simp),h.own.keep g,h.lA,h.lD,grown_trans h.gr g⟩
theorem Tak.ne {w0 w:World} {A D a:Nat} {dv:Value} {cur:List Nat} (h:Tak w0 A D w a dv cur):A ≠ D:=fun e=>by
 have h1:=h.ca
 have h2:=h.cd
 subst e
 have h3:=(show w.heap[A]? = _ from h1).symm.trans (show w.heap[A]? = _ from h2)
 simp at h3
theorem Tak.setA {w0 w:World} {A D a:Nat} {dv:Value} {cur:List Nat} (h:Tak w0 A D w a dv cur) (n:Nat):Tak w0 A D (w.setCell ⟨A,0,none⟩ (.int .u64 (n:Int))) n dv cur :=
 ⟨h.ca.set _,h.cd.kept (grownBy_setCell' w A _) (fun e=>h.ne (Option.some.inj e).symm),h.own.kept (grownBy_setCell' w A _) (h.own.notBox (by decide) h.ca),h.lA,h.lD,grown_new h.gr (grownBy_setCell' w A _) (fun i e=>by have:=Option.some.inj e;have:=h.lA;omega)⟩
theorem Tak.grow {w0 w w':World} {A D a:Nat} {dv:Value} {cur:List Nat} (h:Tak w0 A D w a dv cur) (g:w.grownBy w' dv.ownBlock) :
 Boxed w' A 30 (.int .u64 (a:Int)) /\ Boxed w' D 31 dv /\ w0.grownBy w' none :=
 ⟨h.ca.kept g (fun e=>by rcases h.own.notBox (by decide) h.ca with h1 | h1 <;> simp_all),h.cd.kept g (fun e=>by rcases h.own.notBox (by decide) h.cd with h1 | h1 <;> simp_all),grown_new h.gr g h.own.lo⟩
theorem Tak.setD {w0 w':World} {A D a:Nat} {dv dv':Value} {cur':List Nat} (lA:w0.heap.size <= A) (lD:w0.heap.size <= D) (ne:A ≠ D) (o:Own w0.heap.size w' dv' cur') (hA:Boxed w' A 30 (.int .u64 (a:Int))) (hD:Boxed w' D 31 dv) (gr:w0.grownBy w' none) :
 Tak w0 A D (w'.setCell ⟨D,0,none⟩ dv') a dv' cur' :=
 ⟨hA.kept (grownBy_setCell' w' D _) (fun e=>ne (Option.some.inj e)),hD.set _,o.kept (grownBy_setCell' w' D _) (o.notBox (by decide) hD),lA,lD,grown_new gr (grownBy_setCell' w' D _) (fun i e=>by have:=Option.some.inj e;omega)⟩
set_option maxHeartbeats 1600000 in
theorem tk_yes {w0 w:World} {A D a n B:Nat} {dv v:Value} {cur ld:List Nat} (T:Tak w0 A D w a dv cur) (hv:Own B w v ld) (hl:cur.length + ld.length <= 140737488351232) (hn:n ≠ 0) (ha:a = 0 \/ a = n) :
 Calls Tryz.prog 130 #[.int .u64 (n:Int),v,.pointer (some ⟨A,0,none⟩),.pointer (some ⟨D,0,none⟩)] w fun e w'=>e = .returned (.bool true) /\ ∃ dv',Tak w0 A D w' n dv' (cur ++ ld):=by
 have hn0:((n:Int) != 0) = true:=neb_yes (b:=0) hn
 have hnn:((n:Int) == (n:Int)) = true:=eqb_yes rfl
 have cA:=T.ca.cell
 have fA:=T.ca.frozen
 obtain ⟨dp,dn,dc,rfl,hd0⟩:=T.own.vec.opened
 clear hd0
 have LL:Hid (w0.heap.size <= A /\ w0.heap.size <= D /\ A ≠ D /\ cur.length + ld.length <= 140737488351232):=⟨T.lA,T.lD,T.ne,hl⟩
 by_cases h0:a = 0
 ·have i0:((a:Int) == 0) = true:=eqb_yes (b:=0) h0
  have T1:Hid (Tak w0 A D (w.setCell ⟨A,0,none⟩ (.int .u64 (n:Int))) n (.slice dp dn dc) cur):=T.setA n
  have HV:Hid (Vec (w.setCell ⟨A,0,none⟩ (.int .u64 (n:Int))) v ld):=(hv.kept (grownBy_setCell' w A _) (hv.notBox (by decide) T.ca)).vec
  have cD:=T1.out.cd.cell
  have fD:=T1.out.cd.frozen
  clear T hv hl hn ha h0
  go_enter Tryz.func130,Tryz.ntmps130
  go_wp2_with (at_builtin;refine wpList_append_vec rfl _ _ rfl _ _ rfl rfl T1.out.own HV.out T1.out.gr.size LL.out.2.2.2 ?_;intro v2 w2 o2 g2;obtain ⟨k1,k2,k3⟩:=T1.out.grow g2;have T2:Hid (Tak w0 A D (w2.setCell ⟨D,0,none⟩ v2) n v2 (cur ++ ld)):=Tak.setD LL.out.1 LL.out.2.1 LL.out.2.2.1 o2 k1 k2 k3;obtain ⟨q2,n2,c2,rfl,hz2⟩:=o2.vec.opened;clear hz2;have kc:=k2.cell;have kf:=k2.frozen;have ka:=T2.out.ca.cell;clear k1 k2 k3 o2 g2)
  go_ret
  exact ⟨rfl,_,T2.out⟩
 ·have i0:((a:Int) == 0) = false:=eqb_no (b:=0) h0
  obtain rfl:a = n:=by omega
  have T1:Hid (Tak w0 A D w a (.slice dp dn dc) cur):=T
  have HV:Hid (Vec w v ld):=hv.vec
  have cD:=T1.out.cd.cell
  have fD:=T1.out.cd.frozen
  clear T hv hl hn ha h0
  go_enter Tryz.func130,Tryz.ntmps130
  go_wp2_with (at_builtin;refine wpList_append_vec rfl _ _ rfl _ _ rfl rfl T1.out.own HV.out T1.out.gr.size LL.out.2.2.2 ?_;intro v2 w2 o2 g2;obtain ⟨k1,k2,k3⟩:=T1.out.grow g2;have T2:Hid (Tak w0 A D (w2.setCell ⟨D,0,none⟩ v2) a v2 (cur ++ ld)):=Tak.setD LL.out.1 LL.out.2.1 LL.out.2.2.1 o2 k1 k2 k3;obtain ⟨q2,n2,c2,rfl,hz2⟩:=o2.vec.opened;clear hz2;have kc:=k2.cell;have kf:=k2.frozen;have ka:=T2.out.ca.cell;clear k1 k2 k3 o2 g2)
  go_ret
  exact ⟨rfl,_,T2.out⟩
set_option maxHeartbeats 1600000 in
theorem tk_no {w0 w:World} {A D a n B:Nat} {dv v:Value} {cur ld:List Nat} (T:Tak w0 A D w a dv cur) (hv:Own B w v ld) (hl:cur.length + ld.length <= 140737488351232) (hn:n = 0 \/ (a ≠ 0 /\ a ≠ n)) :
 Calls Tryz.prog 130 #[.int .u64 (n:Int),v,.pointer (some ⟨A,0,none⟩),.pointer (some ⟨D,0,none⟩)] w fun e w'=>e = .returned (.bool false) /\ w0.grownBy w' none:=by
 have cA:=T.ca.cell
 have fA:=T.ca.frozen
 obtain ⟨dp,dn,dc,rfl,hd0⟩:=T.own.vec.opened
 clear hd0
 have LL:Hid (w0.heap.size <= A /\ w0.heap.size <= D /\ A ≠ D /\ cur.length + ld.length <= 140737488351232):=⟨T.lA,T.lD,T.ne,hl⟩
 by_cases h0:a = 0
 ·have hz:n = 0:=by omega
  have i0:((a:Int) == 0) = true:=eqb_yes (b:=0) h0
  have i1:((n:Int) != 0) = false:=neb_no (b:=0) hz
  have T1:Hid (Tak w0 A D (w.setCell ⟨A,0,none⟩ (.int .u64 (n:Int))) n (.slice dp dn dc) cur):=T.setA n
  have HV:Hid (Vec (w.setCell ⟨A,0,none⟩ (.int .u64 (n:Int))) v ld):=(hv.kept (grownBy_setCell' w A _) (hv.notBox (by decide) T.ca)).vec
  have cD:=T1.out.cd.cell
  have fD:=T1.out.cd.frozen
  clear T hv hl hn h0 hz
  go_enter Tryz.func130,Tryz.ntmps130
  go_wp2_with (at_builtin;refine wpList_append_vec rfl _ _ rfl _ _ rfl rfl T1.out.own HV.out T1.out.gr.size LL.out.2.2.2 ?_;intro v2 w2 o2 g2;obtain ⟨k1,k2,k3⟩:=T1.out.grow g2;have T2:Hid (Tak w0 A D (w2.setCell ⟨D,0,none⟩ v2) n v2 (cur ++ ld)):=Tak.setD LL.out.1 LL.out.2.1 LL.out.2.2.1 o2 k1 k2 k3;obtain ⟨q2,n2,c2,rfl,hz2⟩:=o2.vec.opened;clear hz2;have kc:=k2.cell;have kf:=k2.frozen;have ka:=T2.out.ca.cell;clear k1 k2 k3 o2 g2)
  go_ret
  exact ⟨rfl,T2.out.gr⟩
 ·have i0:((a:Int) == 0) = false:=eqb_no (b:=0) h0
  have T1:Hid (Tak w0 A D w a (.slice dp dn dc) cur):=T
  have HV:Hid (Vec w v ld):=hv.vec
  have cD:=T1.out.cd.cell
  have fD:=T1.out.cd.frozen
  by_cases hz:n = 0
  ·have i1:((n:Int) != 0) = false:=neb_no (b:=0) hz
   clear T hv hl hn h0 hz
   go_enter Tryz.func130,Tryz.ntmps130
   go_wp2_with (at_builtin;refine wpList_append_vec rfl _ _ rfl _ _ rfl rfl T1.out.own HV.out T1.out.gr.size LL.out.2.2.2 ?_;intro v2 w2 o2 g2;obtain ⟨k1,k2,k3⟩:=T1.out.grow g2;have T2:Hid (Tak w0 A D (w2.setCell ⟨D,0,none⟩ v2) a v2 (cur ++ ld)):=Tak.setD LL.out.1 LL.out.2.1 LL.out.2.2.1 o2 k1 k2 k3;obtain ⟨q2,n2,c2,rfl,hz2⟩:=o2.vec.opened;clear hz2;have kc:=k2.cell;have kf:=k2.frozen;have ka:=T2.out.ca.cell;clear k1 k2 k3 o2 g2)
   go_ret
   exact ⟨rfl,T2.out.gr⟩
  ·have i1:((n:Int) != 0) = true:=neb_yes (b:=0) hz
   have i2:((n:Int) == (a:Int)) = false:=eqb_no (by omega)
   clear T hv hl hn h0 hz
   go_enter Tryz.func130,Tryz.ntmps130
   go_wp2_with (at_builtin;refine wpList_append_vec rfl _ _ rfl _ _ rfl rfl T1.out.own HV.out T1.out.gr.size LL.out.2.2.2 ?_;intro v2 w2 o2 g2;obtain ⟨k1,k2,k3⟩:=T1.out.grow g2;have T2:Hid (Tak w0 A D (w2.setCell ⟨D,0,none⟩ v2) a v2 (cur ++ ld)):=Tak.setD LL.out.1 LL.out.2.1 LL.out.2.2.1 o2 k1 k2 k3;obtain ⟨q2,n2,c2,rfl,hz2⟩:=o2.vec.opened;clear hz2;have kc:=k2.cell;have kf:=k2.frozen;have ka:=T2.out.ca.cell;clear k1 k2 k3 o2 g2)
   go_ret
   exact ⟨rfl,T2.out.gr⟩
end Go.Proofs.YtaalagkbpeinkaaGreat
