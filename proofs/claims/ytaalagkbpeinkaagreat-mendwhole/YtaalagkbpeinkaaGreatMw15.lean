/- Packed: Iter9, Parts8, Cut9, RBlk6, RNew6, Two6. -/
import Derived.Test.YtaalagkbpeinkaaGreatMw13
set_option linter.unusedSimpArgs false
set_option linter.unusedVariables false
set_option maxRecDepth 100000
namespace Go.Proofs.YtaalagkbpeinkaaGreat
open Go.RowKit Go.Shelf
attribute [local go_sem] Oper.semAt_some
def encP_c (b off m x:Nat):Array Value:=#[.slice (some ⟨b,off + 448 * cl m x,none⟩) 448 448]
theorem chunk9_any (w:World) (p:Option Addr) (n c:Nat) :
 Calls Tryz.prog 105 #[.slice p n c,.int .i64 448] w fun e w'=>e = .returned (.func (.func 128) #[] #[.pointer (some ⟨w.heap.size,0,none⟩),.pointer (some ⟨w.heap.size + 1,0,none⟩)]) /\ w' = (w.alloc (.cells #[.slice p n c] 31)).alloc (.cells #[.int .i64 448] 3):=by
 go_enter Tryz.func105,Tryz.ntmps105
 go_wp2
 go_ret
 exact ⟨rfl,rfl⟩
set_option maxRecDepth 100000 in
set_option maxHeartbeats 2000000 in
theorem chunk19_in (n:Nat) (hn:1 <= n) (l Bs Bn b off N cap m:Nat) (hN:N = 448 * m) (hm:m <= 255) (hcap:N <= cap) (J Jx:List Nat -> World -> Prop)
 (hY:∀ pre x W,J pre W -> pre.length < m -> YieldAt Fence.wide (n - 1) Tryz.prog l (encP_c b off m x) W fun e W' =>
   (e = .returned (.bool true) /\ J (pre ++ [x]) W' /\ Kp7 Bs Bn W W') \/ (e = .returned (.bool false) /\ Jx (pre ++ [x]) W'))
 (W:World) (hBs:Boxed W Bs 31 (.slice (some ⟨b,off,none⟩) N cap)) (hBn:Boxed W Bn 3 (.int .i64 448)) (hJd:∀ pre W,J pre W -> J pre W.drew) (h0:J [] W) :
 CallsIn Fence.wide n Tryz.prog 128 #[.func (.yield l) #[] #[],.pointer (some ⟨Bs,0,none⟩),.pointer (some ⟨Bn,0,none⟩)] W fun e W'=>(∃ v,e = .returned v) /\
  ((∃ ys,ys = List.range m /\ J ys W') \/ (∃ pre,(∃ k,k <= m /\ pre = List.range k) /\ Jx pre W')):=by
 have HN:Hid (N = 448 * m /\ N <= cap):=⟨hN,hcap⟩
 have HY:Hid _:=hY
 clear hN hcap hY
 refine callsIn_of_wp Tryz.func128 rfl trivial ?_ rfl
 simp only [Tryz.ntmps128,List.size_toArray,List.length_cons,List.length_nil,Nat.reduceAdd,Nat.reduceSub,Array.replicate_succ,Array.replicate_zero,List.push_toArray,List.append_toArray,List.nil_append,List.cons_append]
 gi_wp2
 gi_loopw [4] (fun i wr=>∃ k:Nat,k <= m /\ i = .int .i64 (448 * (k:Int)) /\ Hid (J (List.range k) wr) /\ Hid (Boxed wr Bs 31 (.slice (some ⟨b,off,none⟩) N cap) /\ Boxed wr Bn 3 (.int .i64 448)))
  (fun i _=>448 * m - (intOf i).toNat)
 case atStart=>exact ⟨0,Nat.zero_le _,rfl,h0,hBs,hBn⟩
 case round =>
  clear hBs hBn h0
  obtain ⟨k,hk,rfl,hJs,hB⟩:=hrel
  have c1:=hB.out.1.cell
  by_cases hlt:k < m
  ·have i1:448 * (k:Int) < (N:Int):=by have:=HN.out;omega
   have HY2:Hid (YieldAt Fence.wide (n - 1) Tryz.prog l (encP_c b off m k) wr.drew fun e W'=>(e = .returned (.bool true) /\ J (List.range k ++ [k]) W' /\ Kp7 Bs Bn wr.drew W') \/ (e = .returned (.bool false) /\ Jx (List.range k ++ [k]) W')):=HY.out _ _ _ (hJd _ _ hJs.out) (by simpa using hlt)
   have s1:=fun W=>slice_lo7 (b:=b) (off:=off) (n:=N) (c:=cap) (lo:=448 * k) (by have:=HN.out;omega) HN.out.2 W
   rw [show ((448 * k:Nat):Int) = 448 * (k:Int) by omega] at s1
   obtain ⟨R,hR⟩:∃ R,R = N - 448 * k:=⟨_,rfl⟩
   rw [<- hR] at s1
   have iR:¬ (R:Int) < 448:=by have:=HN.out;omega
   have HB:Hid (∀ w',wr.grownBy w' none -> w'.cell? ⟨Bs,0,none⟩ = some (.slice (some ⟨b,off,none⟩) N cap) /\ w'.cell? ⟨Bn,0,none⟩ = some (.int .i64 448)):=fun w' g=>⟨g.cell hB.out.1.cell (by simp),g.cell hB.out.2.cell (by simp)⟩
   clear hR hJs
   gi_wp2
   refine wpIn_wide.2 ?_
   go_region_held3 (fun w'=>w'.cell? ⟨Bs,0,none⟩ = some (.slice (some ⟨b,off,none⟩) N cap) /\ w'.cell? ⟨Bn,0,none⟩ = some (.int .i64 448)) (first | exact HB.out _ (grown_drewN _ 1)) (fail)
   clear s1 i1
   have eL:encP_c b off m k = #[.slice (some ⟨b,off + 448 * k,none⟩) 448 448]:=by simp [encP_c,cl_self hlt]
   rw [eL] at HY2
   obtain ⟨fn,tmps,assign,body,hy,hR⟩:=HY2.out
   have s2:=fun W=>slice_lhm (b:=b) (off:=off) (n:=N) (c:=cap) (lo:=448 * k) (hi:=448 * k + 448) (by have:=HN.out;omega) (by omega) W
   rw [show ((448 * k + 448:Nat):Int) = 448 * (k:Int) + 448 by omega,show ((448 * k:Nat):Int) = 448 * (k:Int) by omega,show 448 * k + 448 - 448 * k = 448 by omega] at s2
   have d1:wr.drew.cell? ⟨Bs,0,none⟩ = some (.slice (some ⟨b,off,none⟩) N cap):=c1
   clear HY2 eL c1
   gi_wp2
   refine hR.mono ?_
   rintro e W3 (⟨rfl,hJ3,hk3⟩ | ⟨rfl,hJx3⟩)
   ·have HJ3:Hid (J (List.range k ++ [k]) W3):=hJ3
    have hB3:Hid (Boxed W3 Bs 31 (.slice (some ⟨b,off,none⟩) N cap) /\ Boxed W3 Bn 3 (.int .i64 448)):=⟨hk3.1.trans hB.out.1,hk3.2.trans hB.out.2⟩
    have c3:=hB3.out.2.cell
    clear hJ3 hk3 hy hR s2 d1
    gi_wp2
    go_roundw
    case rel=>exact ⟨k + 1,by omega,by go_num,by rw [List.range_succ];exact HJ3,hB3⟩
    case measure=>simp [intOf];omega
   ·have HJ3:Hid (Jx (List.range k ++ [k]) W3):=hJx3
    clear hJx3 hy hR s2 d1
    gi_wp2
    refine bodyPost_ret (results_none rfl _ _ _) rfl ?_
    exact ⟨⟨_,rfl⟩,.inr ⟨_,⟨k + 1,by omega,(List.range_succ).symm⟩,HJ3.out⟩⟩
  ·obtain rfl:k = m:=by omega
   have i1:¬ 448 * (k:Int) < (N:Int):=by have:=HN.out;omega
   gi_wp2
   go_end0
   exact ⟨⟨_,rfl⟩,.inl hJs.out⟩
end Go.Proofs.YtaalagkbpeinkaaGreat
namespace Go.Proofs.YtaalagkbpeinkaaGreat
open Go.RowKit
theorem slice_lhh {b off n c lo hi:Nat} (h1:lo <= hi) (h2:hi <= c) (h3:lo < hi) (W:World):(Instr.slice 31 (.slice (some ⟨b,off,none⟩) n c) (some (.int .i64 (lo:Int))) (some (.int .i64 (hi:Int))) (some (.int .i64 (hi:Int)))).run Tryz.prog W = .ok (.slice (some ⟨b,off + lo,none⟩) (hi - lo) (hi - lo)) W:=by
 obtain ⟨i0,hi0,hz0,hz1,hz2⟩:=info_parts Tryz.info5
 have e0:(Instr.sliceBound (.int .i64 (hi:Int)) c .slice3Acap).run Tryz.prog W = .ok hi W:=by
  have:=run_sliceBound (P:=Tryz.prog) W .i64 (hi:Int) c .slice3Acap (by omega) (by omega)
  simpa using this
 have e1:(Instr.sliceBound (.int .i64 (hi:Int)) hi .slice3B).run Tryz.prog W = .ok hi W:=by
  have:=run_sliceBound (P:=Tryz.prog) W .i64 (hi:Int) hi .slice3B (by omega) (by omega)
  simpa using this
 have e2:(Instr.sliceBound (.int .i64 (lo:Int)) hi .slice3C).run Tryz.prog W = .ok lo W:=by
  have:=run_sliceBound (P:=Tryz.prog) W .i64 (lo:Int) hi .slice3C (by omega) (by omega)
  simpa using this
 have h4:¬ hi = lo:=by omega
 simp [Instr.slice,run_underlying Tryz.underlying31,Instr.sliceBounds,e0,e1,e2,sizeOf,typeInfo,hi0,hz1,h4,add_off]
def cutsAt (b off j:Nat):List Value:=(List.range j).map fun i=>.slice (some ⟨b,off + 448 * i,none⟩) 448 448
theorem cutsAt_len (b off j:Nat):(cutsAt b off j).length = j:=by simp [cutsAt]
theorem cutsAt_succ (b off j:Nat):cutsAt b off (j + 1) = cutsAt b off j ++ [.slice (some ⟨b,off + 448 * j,none⟩) 448 448]:=by simp [cutsAt,List.range_succ]
theorem Vec.part {w:World} {b off n c i:Nat} {xs:List Nat} (h:Vec w (.slice (some ⟨b,off,none⟩) n c) xs) (hi:448 * i + 448 <= xs.length):Vec w (.slice (some ⟨b,off + 448 * i,none⟩) 448 448) ((xs.drop (448 * i)).take 448):=by
 have hl:((xs.drop (448 * i)).take 448).length = 448:=by simp;omega
 refine ⟨fun x hx=>h.small x (List.mem_of_mem_drop (List.mem_of_mem_take hx)),by omega,some ⟨b,off + 448 * i,none⟩,448,by rw [hl],by omega,by decide,fun _=>⟨b,off + 448 * i,rfl,fun j hj=>?_⟩⟩
 rw [hl] at hj
 obtain ⟨p',cap',e,h3,h4,h5⟩:=h.form
 injection e with e1 e2 e3
 obtain ⟨b',off',e',hc⟩:=h5 (fun e=>by subst e;simp at hi)
 rw [<- e1] at e'
 injection e' with e'
 injection e' with e3 e4
 subst e3
 subst e4
 rw [Nat.add_assoc,hc (448 * i + j) (by omega)]
 simp [List.getD,hj]
theorem cuts_mat {w:World} {B b off n c k:Nat} {v:Value} {xs:List Nat} (h:Vec w (.slice (some ⟨b,off,none⟩) n c) xs) (hl:xs.length = k * 448) (o:Out B w v (cutsAt b off k)):Mat w v (cutsAt b off k) (SP.parts xs k) :=
 ⟨o.cells,by rw [cutsAt_len,SP.parts_len],fun j hj=>by
   rw [SP.parts_len] at hj
   rw [SP.parts_get xs hj,show (cutsAt b off k).getD j undef = .slice (some ⟨b,off + 448 * j,none⟩) 448 448 from by simp [cutsAt,List.getD,hj]]
   exact h.part (by have:(j + 1) * 448 <= k * 448:=Nat.mul_le_mul_right _ hj
                    omega)⟩
set_option maxHeartbeats 3200000 in
theorem sparts_yes {w:World} {v:Value} {xs:List Nat} {k:Nat} (hv:Vec w v xs) (hk:1 <= k) (hk2:k <= 255) (hl:xs.length = k * 448) :
 Calls Tryz.prog 59 #[v] w fun e w'=>∃ u us,e = .returned u /\ Mat w' u us (SP.parts xs k) /\ w.grownBy w' none:=by
 obtain ⟨q,N,cap,rfl,hN⟩:=hv.opened
 obtain ⟨b,off,rfl,_⟩:=hv.spot (k:=0) (by omega)
 have hcap:N <= cap:=by
  obtain ⟨p',cap',e,h3,_⟩:=hv.form
  injection e with e1 e2 e3
  omega
 have HV:Hid (Vec w (.slice (some ⟨b,off,none⟩) N cap) xs):=hv
 have hq:(N:Int) / 448 = (k:Int):=by omega
 obtain ⟨w1,hmk,hrow,g1⟩:=run_make_rows0 w (n:=k) (by omega)
 have HR:Hid (w1.ownsRow w.heap.size 31 1 (.slice (some ⟨w.heap.size,0,none⟩) 0 k) 0 []):=hrow
 have HG:Hid (w.grownBy w1 none):=g1
 have HN:Hid (N = 448 * k /\ xs.length = k * 448 /\ N <= cap /\ k <= 255):=⟨by omega,hl,hcap,hk2⟩
 clear hv hN hcap hl hrow g1
 go_enter Tryz.func59,Tryz.ntmps59
 go_wp2_with fail
 clear hmk hq
 go_loopw [3,4] (fun tl ti wr=>∃ j:Nat,j <= k /\ ti = .int .i64 ((448 * j:Nat):Int) /\ Hid (Out w.heap.size wr tl (cutsAt b off j)) /\ Hid (w.grownBy wr none)) (fun _ ti _=>448 * k - (intOf ti).toNat)
 case atStart=>exact ⟨0,by omega,rfl,⟨by simp [cutsAt],HR.out⟩,HG⟩
 case round =>
  clear HR HG
  obtain ⟨j,hj,rfl,OK,GK⟩:=hrel
  obtain ⟨t,ht⟩:∃ t,t = 448 * j:=⟨_,rfl⟩
  rw [<- ht]
  have HT:Hid (t = 448 * j):=ht
  by_cases hlt:j < k
  ·have i3:(t:Int) < (N:Int):=by have:=HN.out;omega
   have hn1:(j + 1) * 448 <= k * 448:=Nat.mul_le_mul_right _ hlt
   obtain ⟨t1,ht1⟩:∃ t1,t1 = t + 448:=⟨_,rfl⟩
   have hw:IntKind.i64.wrap ((t:Int) + 448) = (t1:Int):=by
    have e:(t:Int) + 448 = (t1:Int):=by omega
    rw [e]
    exact IntWalk.i64_in _ (by have:=HN.out;omega)
   have hsl:=fun W=>slice_lhh (b:=b) (off:=off) (n:=N) (c:=cap) (lo:=t) (hi:=t1) (by omega) (by have:=HN.out;omega) (by omega) W
   rw [show t1 - t = 448 by omega] at hsl
   have HT1:Hid (t1 = 448 * (j + 1)):=by show _ = _;omega
   have HL:Hid ((((cutsAt b off j).length + 1) * 24 <= 140737488351232)):=by show _ <= _;rw [cutsAt_len];have:=HN.out;omega
   have HS:Hid (cutsAt b off (j + 1) = cutsAt b off j ++ [.slice (some ⟨b,off + t,none⟩) 448 448]):=by rw [ht];exact cutsAt_succ b off j
   have HLN:Hid ((cutsAt b off j).length = j):=cutsAt_len b off j
   clear ht ht1 hn1
   generalize cutsAt b off j = CJ at *
   go_wp2_with (at_builtin;refine wpList_append_row rfl _ _ rfl _ ⟨wr.heap.size,0,none⟩ rfl rfl (OK.out.keep (World.grownBy_alloc wr _ none)).row (cell_new1 _ _ rfl) rfl (gb_alloc GK.out _).size HL.out ?_;intro v3 w3 r3 g3 at3;have M3:Hid (Out w.heap.size w3 v3 (CJ ++ [.slice (some ⟨b,off + t,none⟩) 448 448])):=⟨by have:=HL.out;simpa using this,by simpa using r3⟩;have G3:Hid (w.grownBy w3 none):=grown_new (gb_alloc GK.out _) g3 (fun i e=>OK.out.lo i e);clear r3 g3 at3)
   go_roundw
   case rel=>exact ⟨j + 1,by omega,by rw [HT1.out],by rw [HS.out];exact M3.out,G3⟩
   case measure =>
    have:=HT1.out
    have:=HT.out
    have:=HN.out
    simp [intOf]
    omega
  ·have i3:¬ (t:Int) < (N:Int):=by have:=HN.out;omega
   have hjk:j = k:=by omega
   subst hjk
   clear ht
   go_wp2
   go_ret
   first
    | exact ⟨_,_,rfl,cuts_mat (HV.out.keep GK.out) HN.out.2.1 OK.out,GK.out⟩
    | exact ⟨_,rfl,⟨_,cuts_mat (HV.out.keep GK.out) HN.out.2.1 OK.out⟩,GK.out⟩
end Go.Proofs.YtaalagkbpeinkaaGreat
namespace Go.Proofs.YtaalagkbpeinkaaGreat
open Go.RowKit Go.Shelf
attribute [local go_sem] Oper.semAt_some
theorem chunk9_stops (n:Nat) (hn:1 <= n) (Bs Bn b off N cap m:Nat) (hN:N = 448 * m) (hm:m <= 255) (hcap:N <= cap) (w:World) (hBs:Boxed w Bs 31 (.slice (some ⟨b,off,none⟩) N cap)) (hBn:Boxed w Bn 3 (.int .i64 448)) :
 SeqStopsK Fence.wide n Tryz.prog 128 #[.pointer (some ⟨Bs,0,none⟩),.pointer (some ⟨Bn,0,none⟩)] (fun x:Nat=>encP_c b off m x) (Kp7 Bs Bn) (fun ys=>ys = List.range m) (fun pre=>∃ k,k <= m /\ pre = List.range k) m w:=fun l J Jx W hW hJ _ hY h0 =>
 chunk19_in n hn l Bs Bn b off N cap m hN hm hcap J Jx hY W ((hW.block Bs hBs.lt).trans hBs) ((hW.block Bn hBn.lt).trans hBn) (fun pre W h=>hJ pre W _ none h (grown_drewN W 1) (by simp)) h0
def cutsOf (b off m:Nat) (pre:List Nat):List Value:=pre.map fun i=>.slice (some ⟨b,off + 448 * cl m i,none⟩) 448 448
theorem cutsOf_all (b off m:Nat):cutsOf b off m (List.range m) = cutsAt b off m:=by
 unfold cutsOf cutsAt
 refine List.map_congr_left fun i hi=>?_
 rw [cl_self (List.mem_range.1 hi)]
structure CutP (w:World) (m M b off N cap:Nat) (pre:List Nat) (W:World) (dv:Value):Prop where
 made:Boxed W M 95 dv
 row:W.ownsRow w.heap.size 31 1 dv pre.length (cutsOf b off m pre)
 bs:Boxed W (M + 1) 31 (.slice (some ⟨b,off,none⟩) N cap)
 bn:Boxed W (M + 2) 3 (.int .i64 448)
 ne:dv.ownBlock ≠ some (M + 1)
 lM:w.heap.size <= M
 gr:w.grownBy W none
theorem CutP.kept {w:World} {m M b off N cap:Nat} {pre:List Nat} {W W':World} {dv:Value} {row:Option Nat} (h:CutP w m M b off N cap pre W dv) (g:W.grownBy W' row)
 (hr:∀ r,row = some r -> w.heap.size <= r /\ ∃ o:Obj,W.heap[r]? = some o /\ o.isCells = false):CutP w m M b off N cap pre W' dv:=by
 have bx:∀ {B:Nat} {t:TypeId} {v:Value},Boxed W B t v -> Boxed W' B t v:=fun hb=>hb.kept g fun e=>by
  obtain ⟨_,o,ho,hc⟩:=hr _ e.symm
  rw [show W.heap[_]? = _ from hb] at ho
  cases ho;cases hc
 refine ⟨bx h.made,h.row.kept g ?_,bx h.bs,bx h.bn,h.ne,h.lM,grown_new h.gr g (fun r e=>(hr r e).1)⟩
 rcases h.row.2 with ⟨e,_⟩ | ⟨b',cp,cur,e,_,hg,_⟩
 ·subst e;exact .inl rfl
 ·subst e
  refine .inr fun e=>?_
  obtain ⟨_,o,ho,hc⟩:=hr b' (by simpa [Value.ownBlock] using e.symm)
  rw [hg] at ho
  cases ho;cases hc
theorem CutP.own (w:World) (m M b off N cap B:Nat) (hB:w.heap.size <= B):OwnFrom B (fun (pre:List Nat) W=>∃ dv,CutP w m M b off N cap pre W dv) :=
 fun _ _ _ _ ⟨dv,h⟩ g hr=>⟨dv,h.kept g fun r e=>⟨Nat.le_trans hB (hr r e).1,(hr r e).2⟩⟩
theorem CutP.more {w:World} {m M b off N cap:Nat} {pre:List Nat} {W w5:World} {dv v':Value} {x:Nat} (C:CutP w m M b off N cap pre W dv)
 (r5:w5.ownsRow w.heap.size 31 1 v' (pre.length + 1) (cutsOf b off m pre ++ [.slice (some ⟨b,off + 448 * cl m x,none⟩) 448 448])) (g5:W.grownBy w5 dv.ownBlock) (at5:v'.ownBlock = dv.ownBlock \/ v'.ownBlock = some W.heap.size) :
 Boxed w5 M 95 dv /\ CutP w m M b off N cap (pre ++ [x]) (w5.setCell ⟨M,0,none⟩ v') v' /\ KeepsOthers W (w5.setCell ⟨M,0,none⟩ v'):=by
 have b1:Boxed w5 M 95 dv:=C.made.kept g5 (C.made.not_row (by decide) C.row)
 have gs:=grownBy_setCell' w5 M v'
 have lm:=C.bs.lt
 have ln:=C.lM
 refine ⟨b1,⟨b1.set _,?_,((C.bs.kept g5 (fun e=>C.ne e.symm)).kept gs (by simp)),((C.bn.kept g5 (C.bn.not_row (by decide) C.row)).kept gs (by simp)),?_,C.lM,?_⟩,?_⟩
 ·have e:cutsOf b off m (pre ++ [x]) = cutsOf b off m pre ++ [.slice (some ⟨b,off + 448 * cl m x,none⟩) 448 448]:=by simp [cutsOf]
  rw [e,List.length_append]
  refine r5.kept gs (.inr ?_)
  obtain ⟨g',cap',rfl⟩:=ownsRow_succ r5
  intro e2
  obtain rfl:g' = M:=by simpa [Value.ownBlock] using e2
  exact b1.not_row (by decide) r5 (by simp [Value.ownBlock])
 ·rcases at5 with e | e
  ·rw [e];exact C.ne
  ·rw [e];intro e2;have:=Option.some.inj e2;omega
 ·exact grown_new (grown_new C.gr g5 (fun i e=>(C.row.lt i e).1)) gs (fun i e=>by have:=Option.some.inj e;omega)
 ·refine (KeepsOthers.of_grownBy g5 fun j o' ej hj=>?_).trans (KeepsOthers.setCell _ _ _)
  rcases C.row.2 with ⟨rfl,_⟩ | ⟨g,cp,cur,rfl,_,hgb,_⟩
  ·simp [Value.ownBlock] at ej
  ·obtain rfl:g = j:=by simpa [Value.ownBlock] using ej
   rw [hgb] at hj;cases hj;rfl
set_option maxRecDepth 100000 in
set_option maxHeartbeats 2000000 in
theorem mcut_any {w:World} {m b off N cap:Nat} {xs:List Nat} (hv:Vec w (.slice (some ⟨b,off,none⟩) N cap) xs) (hN:N = 448 * m) (hx:xs.length = m * 448) (hm0:0 < m) (hm:m <= 255) (hcap:N <= cap) :
 Calls Tryz.prog 70 #[.slice (some ⟨b,off,none⟩) N cap] w fun e w'=>∃ u,e = .returned u /\ Out w.heap.size w' u (cutsAt b off m) /\ w.grownBy w' none:=by
 have HN:Hid (N = 448 * m /\ xs.length = m * 448 /\ 0 < m /\ m <= 255 /\ N <= cap):=⟨hN,hx,hm0,hm,hcap⟩
 have hq:(N:Int) / 448 = (m:Int):=by omega
 obtain ⟨w1,hmk,hrow,g1⟩:=run_make_rows0 w (n:=m) (by omega)
 have HR:Hid (w1.ownsRow w.heap.size 31 1 (.slice (some ⟨w.heap.size,0,none⟩) 0 m) 0 []):=hrow
 have HG:Hid (w.grownBy w1 none):=g1
 clear hv hN hx hm0 hcap hrow g1
 refine (callsIn_wide (n:=5)).1 ?_
 refine callsIn_of_wp_marks Tryz.func70 rfl trivial ?_ rfl
 simp only [Tryz.ntmps70,List.size_toArray,List.length_cons,List.length_nil,Nat.reduceAdd,Nat.reduceSub,Array.replicate_succ,Array.replicate_zero,List.push_toArray,List.append_toArray,List.nil_append,List.cons_append]
 gi_wp2_with (refine ⟨trivial,?_⟩;gi_at_call 105;refine (callsIn_wide.2 (chunk9_any _ _ _ _)).mono ?_;rintro e w2 ⟨rfl,rfl⟩)
 have I0:CutP w m w1.heap.size b off N cap [] (((w1.alloc (.cells #[.slice (some ⟨w.heap.size,0,none⟩) 0 m] 95)).alloc (.cells #[.slice (some ⟨b,off,none⟩) N cap] 31)).alloc (.cells #[.int .i64 448] 3)) (.slice (some ⟨w.heap.size,0,none⟩) 0 m):=by
  have hR:=HR.out
  have hlt:=hR.lt w.heap.size rfl
  have hsz:=HG.out.size
  have ga:=World.grownBy_alloc w1 (.cells #[.slice (some ⟨w.heap.size,0,none⟩) 0 m] 95) none
  have gb:=gb_alloc ga (.cells #[.slice (some ⟨b,off,none⟩) N cap] 31)
  have gc:=gb_alloc gb (.cells #[.int .i64 448] 3)
  refine ⟨((Boxed.new w1 _ _).alloc _).alloc _,?_,?_,?_,?_,hsz,grown_trans HG.out gc⟩
  ·exact hR.kept gc (.inr (by simp [Value.ownBlock]))
  ·have h1:=Boxed.new (w1.alloc (.cells #[.slice (some ⟨w.heap.size,0,none⟩) 0 m] 95)) 31 (.slice (some ⟨b,off,none⟩) N cap)
   rw [World.size_alloc] at h1
   exact h1.alloc _
  ·have h1:=Boxed.new ((w1.alloc (.cells #[.slice (some ⟨w.heap.size,0,none⟩) 0 m] 95)).alloc (.cells #[.slice (some ⟨b,off,none⟩) N cap] 31)) 3 (.int .i64 448)
   rw [World.size_alloc,World.size_alloc] at h1
   exact h1
  ·simp only [Value.ownBlock];intro e;have:=Option.some.inj e;omega
 have HI0:Hid (CutP w m w1.heap.size b off N cap [] (((w1.alloc (.cells #[.slice (some ⟨w.heap.size,0,none⟩) 0 m] 95)).alloc (.cells #[.slice (some ⟨b,off,none⟩) N cap] 31)).alloc (.cells #[.int .i64 448] 3)) (.slice (some ⟨w.heap.size,0,none⟩) 0 m)):=I0
 clear I0 hmk HR HG
 generalize w1.heap.size = M at *
 generalize ((w1.alloc (.cells #[.slice (some ⟨w.heap.size,0,none⟩) 0 m] 95)).alloc (.cells #[.slice (some ⟨b,off,none⟩) N cap] 31)).alloc (.cells #[.int .i64 448] 3) = W0 at *
 have hWs:w.heap.size <= W0.heap.size:=HI0.out.gr.size
 refine wpIn_rangeFunc_ownG rfl (by decide) (gf:=128) (lb:=#[.pointer (some ⟨M + 1,0,none⟩),.pointer (some ⟨M + 2,0,none⟩)]) rfl trivial (enters_of Tryz.func128 (by kernel_rfl) rfl)
  (chunk9_stops 4 (by decide) (M + 1) (M + 2) b off N cap m HN.out.1 HN.out.2.2.2.1 HN.out.2.2.2.2 W0 HI0.out.bs HI0.out.bn)
  (fun h k=>⟨k.1.trans h.1,k.2.trans h.2⟩) (fun W l o o' hl h _ _=>⟨World.putObj_heap_other (by have:=HI0.out.bs.lt;omega),World.putObj_heap_other (by have:=HI0.out.bn.lt;omega)⟩) (Below.refl _ _) (fun _=>rfl)
  (fun pre W=>∃ dv,CutP w m M b off N cap pre W dv) (fun _ _ _=>False)
  (CutP.own w m M b off N cap _ hWs) (fun _ _ _ _ _ hs _ _=>hs) ⟨_,HI0.out⟩
  (fun x=>{ tmps:=#[.slice (some ⟨b,off,none⟩) N cap,undef,.slice none 0 0,.pointer (some ⟨M,0,none⟩),.slice (some ⟨b,off + 448 * cl m x,none⟩) 448 448,
    .slice (some ⟨b,off,none⟩) N cap,.int .i64 (N:Int),.int .i64 (m:Int),.slice (some ⟨w.heap.size,0,none⟩) 0 m,.slice (some ⟨b,off,none⟩) N cap,
    .func (.func 128) #[] #[.pointer (some ⟨M + 1,0,none⟩),.pointer (some ⟨M + 1 + 1,0,none⟩)],.slice (some ⟨b,off + 448 * cl m x,none⟩) 448 448,undef,undef,undef,undef,undef],defers:=[] }) ?assign ?body ?done ?stop
 case assign =>
  intro l x W K hK
  dsimp only [encP_c]
  gi_wp2
  exact hK
 case body =>
  rintro l pre x W ⟨dv,C⟩ hlen
  have cM:=C.made.cell
  have HC:Hid (CutP w m M b off N cap pre W dv):=C
  have CA:Hid (CutP w m M b off N cap pre (W.alloc (.cells #[.slice (some ⟨b,off + 448 * cl m x,none⟩) 448 448] 31)) dv):=C.kept (World.grownBy_alloc W _ none) (by simp)
  have LL:Hid ((pre.length + 1) * 24 <= 140737488351232 /\ w.heap.size <= W.heap.size /\ (cutsOf b off m pre).length = pre.length):=⟨by omega,C.gr.size,by simp [cutsOf]⟩
  have cl5:(cutsOf b off m pre).length = pre.length:=LL.out.2.2
  clear C
  obtain ⟨i0,hi,hz0,hz1,hz2⟩:=info_parts Tryz.info22
  gi_wp2_with (gi_at_builtin;refine wpListIn_append_own_at _ rfl _ _ 95 rfl w.heap.size 31 i0 (.slice none 0 0) 1 24 Tryz.underlying95 hi hz0 hz1 hz2 rfl (by decide) dv pre.length (cutsOf b off m pre) rfl CA.out.row ⟨W.heap.size,0,none⟩ 1 1 [.slice (some ⟨b,off + 448 * cl m x,none⟩) 448 448] rfl rfl (cell_one_new _ _ _) (by simp [Value.oneCell']) (by have:=LL.out.1;unfold maxLen;omega) (by have:=LL.out.1;omega) (by have:=LL.out.2.1;simp;omega) ?_;intro v' w5 r5 g5 hz5 at5;obtain ⟨g',cap',rfl⟩:=ownsRow_succ r5;clear hz5;obtain ⟨k1,k2,k3⟩:=CutP.more (x:=x) CA.out r5 g5 at5;have K2:Hid (CutP w m M b off N cap (pre ++ [x]) (w5.setCell ⟨M,0,none⟩ (.slice (some ⟨g',0,none⟩) (pre.length + 1) cap')) (.slice (some ⟨g',0,none⟩) (pre.length + 1) cap')):=k2;have K3:Hid (KeepsOthers W (w5.setCell ⟨M,0,none⟩ (.slice (some ⟨g',0,none⟩) (pre.length + 1) cap'))):=(KeepsOthers.alloc _ _).trans k3;have c5:=k1.cell;have f5:=k1.frozen;clear r5 g5 at5 k1 k2 k3)
  exact ⟨K3.out.from _,⟨K2.out.bs.trans HC.out.bs.symm,K2.out.bn.trans HC.out.bn.symm⟩,_,K2.out⟩
 case done =>
  rintro D ys W hD rfl ⟨dv,C⟩ hK
  have cM:=C.made.cell
  have HC:Hid (CutP w m M b off N cap (List.range m) W dv):=C
  have HD:Hid (w.heap.size <= D):=Nat.le_trans hWs hD
  have HK:Hid (W.heap[D]? = some (.deferred (some []))):=hK
  clear C
  gi_wp2
  refine ⟨by simp,.inl ⟨_,_,rfl,run_takeDeferred HK.out,?_⟩⟩
  have gp:=grownBy_putObj' W D (.deferred none)
  refine ⟨_,results_tmp rfl _ _ _,_,rfl,?_,grown_new HC.out.gr gp (fun i e=>by have:=Option.some.inj e;have:=HD.out;omega)⟩
  rw [<- cutsOf_all]
  have h1:=(HC.out.kept gp (fun r e=>by have:=Option.some.inj e;subst this;exact ⟨HD.out,_,HK.out,rfl⟩)).row
  have hl:(cutsOf b off m (List.range m)).length = (List.range m).length:=by simp [cutsOf]
  exact ⟨by rw [hl];simp;omega,by rw [hl];exact h1⟩
 case stop =>
  rintro D c pre W _ _ h _
  exact h.elim
end Go.Proofs.YtaalagkbpeinkaaGreat
namespace Go.Proofs.YtaalagkbpeinkaaGreat
open Go.RowKit
theorem step_append_rows {ops:Array Oper} {o:Oper} {ac:Act} {w:World} {K:Act -> World -> Prop} {Q:Exit -> Act -> World -> Prop} {E:Prop} (hgd:o.guard = none) (d s:Operand) {B:Nat} {t e:TypeId} {z:Value} {size bytes:Nat}
 (ho:o.op = .call { callee:=.builtin .append,args:=#[d,s],argTypes:=#[t,t] }) (hu:Tryz.prog.underlying t = some (.slice e)) (hinfo:(Tryz.prog.info? e).map (fun i=>(i.zero,i.size,i.bytes)) = some (some z,size,bytes)) (hzs:z.cells.size = size) (hsz:0 < size)
 {v:Value} {n:Nat} {xs:List Value} {a:Addr} {m c:Nat} {news:List Value} (hed:ac.eval d = v) (hes:ac.eval s = .slice (some a) m c) (hown:w.ownsRow B e size v n xs) (hl:news.length = m * size) (hnews:∀ j u,news[j]? = some u -> w.cell? (a.add j) = some u) (h1:∀ u ∈ news,u.oneCell' = true)
 (h63:n + m <= maxLen) (hbytes:(n + m) * bytes <= 140737488355328) (hB:B <= w.heap.size)
 (h:∀ v' w',w'.ownsRow B e size v' (n + m) (xs ++ news) -> w.grownBy w' v.ownBlock -> K (ac.put o.dst v') w'):if Region.wanted o (yielded ops ac.tmps) = true then Oper.wp Tryz.prog o ac w K Q else E:=by
 have hw:Region.wanted o (yielded ops ac.tmps) = true:=by simp [Region.wanted,hgd]
 rw [if_pos hw]
 obtain ⟨v',w',hrun,r1,r2⟩:=run_append_rows (ty:=o.type) (c:=c) hu hinfo hzs hsz hown hl hnews h1 h63 hbytes hB
 unfold Oper.wp
 simp [execOp,ho,resolve,invoke,builtin,hed,hes,hrun,Result.andThen]
 exact h _ _ r1 r2
structure Blk (w0 w:World) (b2 b3 k:Nat) (v:Value) (vs:List Value) (bs:List (List Nat)) (gone:Bool):Prop where
 grown:w0.grownBy w none
 lo2:w0.heap.size <= b2
 lo3:w0.heap.size <= b3
 ne:b2 ≠ b3
 res:w.heap[b2]? = some (.cells #[.slice none 0 0,.bool false] 124 (0,0))
 top:w.heap[b3]? = some (.cells #[v,.bool gone] 124 (0,0))
 row:w.ownsRow w0.heap.size 31 1 v k vs
 len:bs.length = k
 own:∀ (i:Nat) (u:Value) (b:List Nat),vs[i]? = some u -> bs[i]? = some b -> Own w0.heap.size w u b
section
variable {w0 w:World} {b2 b3 k:Nat} {v:Value} {vs:List Value} {bs:List (List Nat)} {gone:Bool}
theorem Own.sameB {B:Nat} {w w':World} {u:Value} {b:List Nat} (h:Own B w u b) (hb:∀ g,u.ownBlock = some g -> w'.heap[g]? = w.heap[g]?):Own B w' u b:=⟨h.small,h.len,ownsRow_same h.row hb⟩
theorem Blk.next (h:Blk w0 w b2 b3 k v vs bs gone) {w1:World} (g1:w.grownBy w1 none) {u:Value} {b:List Nat} (hu:Own w0.heap.size w1 u b) {v':Value} {w5:World} (hr:w5.ownsRow w0.heap.size 31 1 v' (k + 1) (vs ++ [u])) (g5:w1.grownBy w5 v.ownBlock) :
 Blk w0 (w5.setCell ⟨b3,0,none⟩ v') b2 b3 (k + 1) v' (vs ++ [u]) (bs ++ [b]) gone /\ w5.cell? ⟨b3,0,none⟩ = some v /\ w5.frozen? ⟨b3,0,none⟩ = false:=by
 have l3:b3 < w.heap.size:=(Array.getElem?_eq_some_iff.1 h.top).1
 have l2:b2 < w.heap.size:=(Array.getElem?_eq_some_iff.1 h.res).1
 have hty:∀ (i:Nat) (c:Array Value) (t:TypeId),w.heap[i]? = some (.cells c t (0,0)) -> t ≠ 31 -> w5.heap[i]? = w.heap[i]?:=fun i c t hi ht=>by
  have hlt:=(Array.getElem?_eq_some_iff.1 hi).1
  rw [g5.block i (Nat.lt_of_lt_of_le hlt g1.size) (fun e=>by
   obtain ⟨_,_,c',hc'⟩:=rows_blk h.row e.symm
   exact ne_ty hi hc' ht rfl),g1.block i hlt (by simp)]
 have t5:=(hty b3 _ _ h.top (by decide)).trans h.top
 have r5:=(hty b2 _ _ h.res (by decide)).trans h.res
 have g05:w0.grownBy w5 none:=grown_new (grown_trans h.grown g1) g5 (fun i e=>(rows_blk h.row e).1)
 have hs:∀ i,i ≠ b3 -> (w5.setCell ⟨b3,0,none⟩ v').heap[i]? = w5.heap[i]?:=fun i hi=>Below.heap_setCell _ _ _ _ hi
 refine ⟨⟨gb_setCell g05 h.lo3 _,h.lo2,h.lo3,h.ne,by rw [hs b2 h.ne];exact r5,by rw [heap_setCell_same _ _ _ _ _ _ t5];rfl,ownsRow_same hr (fun g hg=>?_),by simp [h.len],fun i x y hx hy=>?_⟩,topCell (j:=0) t5 rfl,topFrozen 0 t5⟩
 ·obtain ⟨_,_,c,hc⟩:=rows_blk hr hg
  exact hs g (ne_ty hc t5 (by decide))
 ·have hvl:vs.length = k:=by have:=h.row.1;omega
  by_cases c:i < k
  ·rw [List.getElem?_append_left (by omega)] at hx
   rw [List.getElem?_append_left (by rw [h.len];exact c)] at hy
   have q:=h.own i x y hx hy
   refine q.sameB (fun g hg=>?_)
   obtain ⟨_,_,c,hc⟩:=rows_blk q.row hg
   have e:=hty g _ _ hc (by decide)
   rw [hs g (ne_ty (e.trans hc) t5 (by decide)),e]
  ·have hi:i = k:=by
    have:=(List.getElem?_eq_some_iff.1 hx).1
    simp at this
    omega
   subst hi
   rw [<- hvl,List.getElem?_append_right (Nat.le_refl _),Nat.sub_self] at hx
   rw [<- h.len,List.getElem?_append_right (Nat.le_refl _),Nat.sub_self] at hy
   obtain rfl:=Option.some.inj hx
   obtain rfl:=Option.some.inj hy
   refine hu.sameB (fun g hg=>?_)
   obtain ⟨_,hlt,c,hc⟩:=rows_blk hu.row hg
   have e:w5.heap[g]? = w1.heap[g]?:=g5.block g hlt (fun e=>by
    obtain ⟨_,_,c',hc'⟩:=rows_blk h.row e.symm
    have hc2:=(g1.block g (by obtain ⟨_,l,_⟩:=rows_blk h.row e.symm;exact l) (by simp)).trans hc'
    exact ne_ty hc hc2 (by decide) rfl)
   rw [hs g (ne_ty (e.trans hc) t5 (by decide)),e]
end
theorem Tryz.infoBys:(Tryz.prog.info? 31).map (fun i=>(i.zero,i.size,i.bytes)) = some (some (.slice none 0 0),1,24):=by kernel_rfl
theorem Tryz.sizeDsk:(Tryz.prog.info? 124).map (·.size) = some 2:=by kernel_rfl
theorem Tryz.infoBy:(Tryz.prog.info? 5).map (fun i=>(i.zero,i.size,i.bytes)) = some (some (.int .u8 0),1,1):=by kernel_rfl
theorem run_make_sec (W:World):(Instr.makeSlice 31 (.int .i64 64) (.int .i64 64)).run Tryz.prog W = .ok (.slice (some ⟨W.heap.size,0,none⟩) 64 64) (W.alloc (.cells (madeCells #[.int .u8 0] 64) 5)) :=
 run_make_row' (P:=Tryz.prog) 31 5 _ 1 Tryz.underlying31 Tryz.infoBy rfl .i64 .i64 64 (by decide) (by decide) W
theorem made_sec (w:World):Own w.heap.size (w.alloc (.cells (madeCells #[.int .u8 0] 64) 5)) (.slice (some ⟨w.heap.size,0,none⟩) 64 64) (AM.zs 64):=made_own (by decide) rfl
set_option maxRecDepth 100000 in
theorem rblank_yes (w:World) {n:Nat} (hn:n <= 4096):Calls Tryz.prog 80 #[.int .i64 (n:Int)] w fun e w'=>∃ p c vs,e = .returned (.agg #[.slice p n c,.bool false]) /\ w'.ownsRow w.heap.size 31 1 (.slice p n c) n vs /\ (∀ (k:Nat) (u:Value),vs[k]? = some u -> Own w.heap.size w' u (AM.zs 64)) /\ w.grownBy w' none:=by
 have hmk:=run_make_sec
 go_enter Tryz.func80,Tryz.ntmps80
 go_wp2
 have h0:Blk w ((w.alloc (.cells #[.slice none 0 0,.bool false] 124)).alloc (.cells #[.slice none 0 0,.bool false] 124)) w.heap.size (w.heap.size + 1) 0 (.slice none 0 0) [] (List.replicate 0 (AM.zs 64)) false :=
  ⟨gb_alloc (gb_alloc (World.grownBy.refl _ _) _) _,Nat.le_refl _,Nat.le_succ _,by omega,heap_old _ _ (heap_alloc_new w _),heap_new _ _ _ (by simp),World.ownsRow_nil _ _ _ _,rfl,fun i u b hu=>by simp at hu⟩
 have H0:Hid (∃ vs,Blk w ((w.alloc (.cells #[.slice none 0 0,.bool false] 124)).alloc (.cells #[.slice none 0 0,.bool false] 124)) w.heap.size (w.heap.size + 1) 0 (.slice none 0 0) vs (List.replicate 0 (AM.zs 64)) false):=⟨[],h0⟩
 clear h0
 generalize (w.alloc (.cells #[.slice none 0 0,.bool false] 124)).alloc (.cells #[.slice none 0 0,.bool false] 124) = W0 at *
 obtain ⟨b3,hb3⟩:∃ b3,b3 = w.heap.size + 1:=⟨_,rfl⟩
 obtain ⟨b2,hb2⟩:∃ b2,b2 = w.heap.size:=⟨_,rfl⟩
 rw [<- hb3,<- hb2] at H0 ⊢
 clear hb3 hb2
 go_loopw [4] (fun ti wr=>∃ k:Nat,k <= n /\ ti = .int .i64 (k:Int) /\ Hid (∃ p c vs,Blk w wr b2 b3 k (.slice p k c) vs (List.replicate k (AM.zs 64)) false)) (fun ti _=>n - (intOf ti).toNat)
 case atStart=>exact ⟨0,by omega,rfl,none,0,H0.out⟩
 case round =>
  clear H0
  obtain ⟨k,hk,rfl,HX⟩:=hrel
  obtain ⟨p,c,vs,h⟩:=HX.out
  by_cases hlt:k < n
  ·have i1:(k:Int) < (n:Int):=by omega
   have H:Hid (Blk w wr b2 b3 k (.slice p k c) vs (List.replicate k (AM.zs 64)) false):=h
   have HC:Hid (wr.cell? ⟨b3,0,none⟩ = some (.slice p k c)):=topCell (j:=0) h.top rfl
   have l3:b3 < wr.heap.size:=(Array.getElem?_eq_some_iff.1 h.top).1
   have G1:Hid (wr.grownBy (wr.drew.alloc (.cells (madeCells #[.int .u8 0] 64) 5)) none):=gb_alloc (gb_drew (World.grownBy.refl _ _)) _
   have G2:Hid (wr.grownBy ((wr.drew.alloc (.cells (madeCells #[.int .u8 0] 64) 5)).alloc (.cells #[.slice (some ⟨wr.heap.size,0,none⟩) 64 64] 31)) none):=gb_alloc G1.out _
   have HCK:Hid (∀ W,wr.grownBy W none -> W.cell? ⟨b3,0,none⟩ = some (.slice p k c)):=fun W g=>g.cell HC.out (by simp)
   have HOU:Hid (Own w.heap.size ((wr.drew.alloc (.cells (madeCells #[.int .u8 0] 64) 5)).alloc (.cells #[.slice (some ⟨wr.heap.size,0,none⟩) 64 64] 31)) (.slice (some ⟨wr.heap.size,0,none⟩) 64 64) (AM.zs 64)):=((made_sec wr.drew).keep (World.grownBy_alloc _ _ none)).down h.grown.size
   have HRW:Hid (((wr.drew.alloc (.cells (madeCells #[.int .u8 0] 64) 5)).alloc (.cells #[.slice (some ⟨wr.heap.size,0,none⟩) 64 64] 31)).ownsRow w.heap.size 31 1 (.slice p k c) k vs):=ownsRow_same h.row (fun g hg=>G2.out.block g (rows_blk h.row hg).2.1 (by simp))
   have HCE:Hid (∀ j u,([.slice (some ⟨wr.heap.size,0,none⟩) 64 64]:List Value)[j]? = some u -> ((wr.drew.alloc (.cells (madeCells #[.int .u8 0] 64) 5)).alloc (.cells #[.slice (some ⟨wr.heap.size,0,none⟩) 64 64] 31)).cell? ((⟨wr.heap.size + 1,0,none⟩:Addr).add j) = some u):=fun j u hj=>by
    rw [add_at,Nat.zero_add]
    exact topCell (heap_new _ _ _ (by simp)) (by simpa using hj)
   have HSZ:Hid (w.heap.size <= ((wr.drew.alloc (.cells (madeCells #[.int .u8 0] 64) 5)).alloc (.cells #[.slice (some ⟨wr.heap.size,0,none⟩) 64 64] 31)).heap.size):=Nat.le_trans h.grown.size G2.out.size
   have HK:Hid (k <= 4096):=Nat.le_trans hk hn
   clear h HX
   go_wp2_with fail
   refine region_late (S:=(fun w'=>w'.cell? ⟨b3,0,none⟩ = some (.slice p k c))) (by simp only [List.pop_toArray,List.dropLast];exact rfl) (by rfl) (by kernel_rfl) (by kernel_rfl) ?_ (fun hHeld=>?_)
   ·exact HC.out
   refine wpAnyH_take (i:=0) (v:=?_) rfl (by kernel_rfl) (by kernel_rfl) (by kernel_rfl) (fun _ _ _ h=>h) (Or.inl ⟨by rfl,?_⟩) (by assumption) ?_
   rotate_left
   ·intro w hSw;(try dsimp only at hSw);first | (go_simp;done) | (go_simp;with_reducible rfl)
   simp only [Act.put,lay9]
   refine wpAnyH_take (i:=1) (v:=?_) rfl (by kernel_rfl) (by kernel_rfl) (by kernel_rfl) (fun _ _ _ h=>h) (Or.inl ⟨by rfl,?_⟩) (by assumption) ?_
   rotate_left
   ·intro w hSw;(try dsimp only at hSw);first | (go_simp;done) | (go_simp;with_reducible rfl)
   simp only [Act.put,lay9]
   refine wpAnyH_ready (rs:=[2]) (by kernel_rfl) (by simp) ?_
   refine AllReadyH.cons rfl (fun K hK=>?_) AllReadyH.nil
   go_simp
   refine hK.out _ _ (HCK.out _ G1.out) (fun hHeld=>?_)
   clear hK K
   (try simp only [Act.put,lay9])
   refine wpAnyH_ready (rs:=[3]) (by kernel_rfl) (by simp) ?_
   refine AllReadyH.cons rfl (fun K hK=>?_) AllReadyH.nil
   go_simp
   refine hK.out _ _ (HCK.out _ G2.out) (fun hHeld=>?_)
   clear hK K
   (try simp only [Act.put,lay9])
   refine wpAnyH_ready (rs:=[4]) (by kernel_rfl) (by simp) ?_
   refine AllReadyH.cons rfl (fun K hK=>?_) AllReadyH.nil
   refine step_append_rows (by rfl) _ _ (by rfl) Tryz.underlying95 Tryz.infoBys rfl (by decide) (by rfl) (by rfl) HRW.out (news:=[.slice (some ⟨wr.heap.size,0,none⟩) 64 64]) rfl HCE.out (by intro u hu;simp at hu;subst hu;rfl) (by have:=HK.out;unfold maxLen;omega) (by have:=HK.out;omega) HSZ.out ?_
   intro v5 w5 o5 g5
   obtain ⟨q1,q2,q3⟩:=H.out.next G2.out HOU.out o5 g5
   obtain ⟨p5,c5,rfl⟩:=rows_slice o5
   have HN:Hid (∃ p c vs,Blk w (w5.setCell ⟨b3,0,none⟩ (.slice p5 (k + 1) c5)) b2 b3 (k + 1) (.slice p (k + 1) c) vs (List.replicate (k + 1) (AM.zs 64)) false):=⟨p5,c5,_,by rw [List.replicate_succ'];exact q1⟩
   clear q1 o5 g5
   refine hK.out _ _ (q2) (fun hHeld=>?_)
   clear hK K
   (try simp only [Act.put,lay9])
   refine wpAnyH_take (i:=5) (v:=?_) rfl (by kernel_rfl) (by kernel_rfl) (by kernel_rfl) (fun _ _ _ h=>h) (Or.inl ⟨by rfl,?_⟩) (by assumption) ?_
   rotate_left
   ·intro w hSw;(try dsimp only at hSw);first | (go_simp;done) | (go_simp;with_reducible rfl)
   simp only [Act.put,lay9]
   refine wpAnyH_done (by kernel_rfl) ?_ _
   refine lastQ_normal ?_
   go_wp2
   go_roundw
   case rel=>exact ⟨k + 1,by omega,by go_num,HN⟩
   case measure=>simp [intOf];omega
  ·have i1:¬ (k:Int) < (n:Int):=by omega
   obtain rfl:k = n:=by omega
   have c30:wr.cell? ⟨b3,0,none⟩ = some (.slice p k c):=topCell (j:=0) h.top rfl
   have c31:wr.cell? ⟨b3,1,none⟩ = some (.bool false):=topCell (j:=1) h.top rfl
   have c20:wr.cell? ⟨b2,0,none⟩ = some (.slice none 0 0):=topCell (j:=0) h.res rfl
   have c21:wr.cell? ⟨b2,1,none⟩ = some (.bool false):=topCell (j:=1) h.res rfl
   have f20:=topFrozen 0 h.res
   have f21:=topFrozen 1 h.res
   have hst:∀ i,i ≠ b2 -> ((wr.setCell ⟨b2,0,none⟩ (.slice p k c)).setCell ⟨b2,1,none⟩ (.bool false)).heap[i]? = wr.heap[i]?:=fun i hi=>by rw [Below.heap_setCell _ _ _ _ hi,Below.heap_setCell _ _ _ _ hi]
   have HF:Hid (((wr.setCell ⟨b2,0,none⟩ (.slice p k c)).setCell ⟨b2,1,none⟩ (.bool false)).ownsRow w.heap.size 31 1 (.slice p k c) k vs /\ (∀ (i:Nat) (u:Value),vs[i]? = some u -> Own w.heap.size ((wr.setCell ⟨b2,0,none⟩ (.slice p k c)).setCell ⟨b2,1,none⟩ (.bool false)) u (AM.zs 64)) /\ w.grownBy ((wr.setCell ⟨b2,0,none⟩ (.slice p k c)).setCell ⟨b2,1,none⟩ (.bool false)) none):=by
    refine ⟨ownsRow_same h.row (fun g hg=>?_),fun i u hu=>?_,gb_setCell (gb_setCell h.grown h.lo2 _) h.lo2 _⟩
    ·obtain ⟨_,_,c,hc⟩:=rows_blk h.row hg
     exact hst g (ne_ty hc h.res (by decide))
    ·have hik:i < k:=by
      have h1:=(List.getElem?_eq_some_iff.1 hu).1
      have h2:=h.row.1
      omega
     have q:=h.own i u (AM.zs 64) hu (by rw [List.getElem?_replicate,if_pos hik])
     refine q.sameB (fun g hg=>?_)
     obtain ⟨_,_,c,hc⟩:=rows_blk q.row hg
     exact hst g (ne_ty hc h.res (by decide))
   have HP:Hid (((wr.setCell ⟨b2,0,none⟩ (.slice p k c)).setCell ⟨b2,1,none⟩ (.bool false)).heap[b2]? = some (.cells #[.slice p k c,.bool false] 124 (0,0))):=by
    show _ = _
    rw [heap_setCell_same _ _ _ _ _ _ (heap_setCell_same _ _ _ _ _ _ h.res)]
    rfl
   clear h HX hst
   go_wp2
   (try simp only [Exit.inBlock,Exit.then])
   exact bodyPost_ret (results_cell_row rfl _ _ b2 124 #[.slice p k c,.bool false] (0,0) _ rfl HP.out Tryz.underlying124 rfl Tryz.sizeDsk) rfl ⟨p,c,rfl,vs,HF.out⟩
theorem step_append_at {ops:Array Oper} {o:Oper} {ac:Act} {w:World} {K:Act -> World -> Prop} {Q:Exit -> Act -> World -> Prop} {E:Prop} (hgd:o.guard = none) (d s:Operand) {t e:TypeId} {z:Value} {size bytes:Nat}
 (ho:o.op = .call { callee:=.builtin .append,args:=#[d,s],argTypes:=#[t,t] }) (hu:Tryz.prog.underlying t = some (.slice e)) (hinfo:(Tryz.prog.info? e).map (fun i=>(i.zero,i.size,i.bytes)) = some (some z,size,bytes)) (hzs:z.cells.size = size) (hsz:0 < size)
 {v:Value} {n:Nat} {xs:List Value} {a:Addr} {m c:Nat} {news:List Value} (hed:ac.eval d = v) (hes:ac.eval s = .slice (some a) m c) (hown:w.ownsRow 0 e size v n xs) (hm:0 < m) (hl:news.length = m * size) (hnews:∀ j u,news[j]? = some u -> w.cell? (a.add j) = some u) (h1:∀ u ∈ news,u.oneCell' = true)
 (h63:n + m <= maxLen) (hbytes:(n + m) * bytes <= 140737488355328)
 (h:∀ g cap w',w'.ownsRow 0 e size (.slice (some ⟨g,0,none⟩) (n + m) cap) (n + m) (xs ++ news) -> w.grownBy w' v.ownBlock -> (v.ownBlock = some g \/ g = w.heap.size) -> K (ac.put o.dst (.slice (some ⟨g,0,none⟩) (n + m) cap)) w'):if Region.wanted o (yielded ops ac.tmps) = true then Oper.wp Tryz.prog o ac w K Q else E:=by
 have hw:Region.wanted o (yielded ops ac.tmps) = true:=by simp [Region.wanted,hgd]
 rw [if_pos hw]
 obtain ⟨g,cap,w',hrun,r1,r2,r3⟩:=run_append_at (ty:=o.type) (c:=c) hu hinfo hzs hsz hown hm hl hnews h1 h63 hbytes
 unfold Oper.wp
 simp [execOp,ho,resolve,invoke,builtin,hed,hes,hrun,Result.andThen]
 exact h _ _ _ r1 r2 r3
theorem zeroDsk:(Tryz.prog.info? 124).map (fun i=>(i.zero,i.size,i.bytes)) = some (some (.agg #[.slice none 0 0,.bool false]),2,32):=by kernel_rfl
theorem run_zeroDsk (w:World):(zeroValue 124).run Tryz.prog w = .ok (.agg #[.slice none 0 0,.bool false]) w:=by
 obtain ⟨i,hi,h0,h1,h2⟩:=info_parts zeroDsk
 simp [zeroValue,typeInfo,hi,h0]
theorem lit_dsk (w:World) (p:Option Addr) (n c:Nat) (b:Bool):(Instr.buildSlice 83 1 #[(0,.agg #[.slice p n c,.bool b])]).run Tryz.prog w = .ok (.slice (some ⟨w.heap.size,0,none⟩) 1 1) (w.alloc (.cells #[.slice p n c,.bool b] 124)):=by
 have hf:∀ z:Array Value,z.size = 2 -> Instr.fill (fun i=>some (i * 2,2)) z [(0,.agg #[.slice p n c,.bool b])] = some #[.slice p n c,.bool b]:=by
  intro z hz
  rw [fill_one (cs:=[.slice p n c,.bool b]) (out:=[.slice p n c,.bool b]) rfl rfl rfl (by simp;omega) (by simp [hz])]
  rfl
 simp [Instr.buildSlice,run_underlying Tryz.underlying83,run_size Tryz.sizeDsk,run_zeroDsk,newRow,hf]
theorem drow_app {ds:List Value} {D:List (Option (List (List Nat)))} (h:ds.length = D.length) (v:Value) (o:Option (List (List Nat))):drow (ds ++ [v]) (D ++ [o]) = drow ds D ++ [v,.bool o.isNone]:=by
 unfold drow
 rw [List.zip_append h,List.flatMap_append]
 rfl
section
variable {G:Nat -> Prop} {w:World} {r:Nat} {A:AM.RA} {dp:Option Addr} {dc:Nat} {ds:List Value} {lp:Option Addr} {lc:Nat} {fs:List Value}
theorem RL.grew (h:RL G w r dp dc ds lp lc fs A) {w1:World} (g1:w.grownBy w1 none) {v:Value} {o:Option (List (List Nat))}
 (ho:(o = none /\ v = .slice none 0 0) \/ ∃ (ss:List (List Nat)) (vs:List Value),o = some ss /\ w1.ownsRow w.heap.size 31 1 v A.n vs /\ ss.length = A.n /\ ∀ (k:Nat) (u:Value) (b:List Nat),vs[k]? = some u -> ss[k]? = some b -> Own w.heap.size w1 u b)
 {dg cap:Nat} {w5:World} (o5:w5.ownsRow 0 124 2 (.slice (some ⟨dg,0,none⟩) (A.D.length + 1) cap) (A.D.length + 1) (drow ds A.D ++ [v,.bool o.isNone])) (g5:w1.grownBy w5 (Value.slice dp A.D.length dc).ownBlock) (hw:(Value.slice dp A.D.length dc).ownBlock = some dg \/ w.heap.size <= dg) (hd:A.D.length + 1 <= 255) :
 w5.cell? ⟨r,0,none⟩ = some (.slice dp A.D.length dc) /\ w5.frozen? ⟨r,0,none⟩ = false /\ ∃ G',RIs G' (w5.setCell ⟨r,0,none⟩ (.slice (some ⟨dg,0,none⟩) (A.D.length + 1) cap)) r { A with D:=A.D ++ [o] } /\ Step G w G' (w5.setCell ⟨r,0,none⟩ (.slice (some ⟨dg,0,none⟩) (A.D.length + 1) cap)):=by
 have gw:w.grownBy w5 (Value.slice dp A.D.length dc).ownBlock:=grown_trans (grown_any g1 _) g5
 have hne:∀ (i:Nat) (c:Array Value) (t:TypeId),w.heap[i]? = some (.cells c t (0,0)) -> t ≠ 124 -> w5.heap[i]? = w.heap[i]?:=fun i c t hi ht=>gw.block i (Array.getElem?_eq_some_iff.1 hi).1 (fun e=>by
  obtain ⟨c',hc'⟩:=rowBlock h.dsk e.symm
  exact ht (heap_ty hi hc'))
 have hnew:∀ i,w.heap.size <= i -> i < w1.heap.size -> w5.heap[i]? = w1.heap[i]?:=fun i hi hl=>g5.block i hl (fun e=>by
  have:=h.lt i (h.Gd i e.symm)
  omega)
 have ht5:=(hne r _ _ h.top (by decide)).trans h.top
 have hs:∀ i,i ≠ r -> (w5.setCell ⟨r,0,none⟩ (.slice (some ⟨dg,0,none⟩) (A.D.length + 1) cap)).heap[i]? = w5.heap[i]?:=fun i hi=>Below.heap_setCell _ _ _ _ hi
 have hlt5:dg < w5.heap.size:=(rows_blk o5 rfl).2.1
 refine ⟨topCell (j:=0) ht5 rfl,topFrozen 0 ht5,fun i=>G i \/ (w.heap.size <= i /\ i < w5.heap.size),⟨some ⟨dg,0,none⟩,cap,ds ++ [v],lp,lc,fs,?_⟩,⟨⟨gw.os,gw.tape,gw.output,by simpa using gw.size,fun i hi hn=>?_⟩,fun i hi=>?_⟩⟩
 ·have hlen:(A.D ++ [o]).length = A.D.length + 1:=by simp
  have hsp:∀ (i:Nat) (u:Value),(ds ++ [v])[i]? = some u -> (i < A.D.length /\ ds[i]? = some u) \/ (i = A.D.length /\ u = v):=fun i u hu=>by
   by_cases c:i < ds.length
   ·rw [List.getElem?_append_left c] at hu
    exact .inl ⟨by rw [<- h.dlen];exact c,hu⟩
   ·have hi:=(List.getElem?_eq_some_iff.1 hu).1
    simp at hi
    have e:i = ds.length:=by omega
    subst e
    rw [List.getElem?_append_right (Nat.le_refl _),Nat.sub_self] at hu
    exact .inr ⟨h.dlen,(Option.some.inj hu).symm⟩
  have hvn:∀ g,v.ownBlock = some g -> w.heap.size <= g /\ g < w1.heap.size:=fun g hg=>by
   rcases ho with ⟨_,rfl⟩ | ⟨ss,vs,_,h2,_⟩
   ·cases hg
   ·exact ⟨(rows_blk h2 hg).1,(rows_blk h2 hg).2.1⟩
  have hto:∀ (i:Nat) (c:Array Value) (t:TypeId),w.heap[i]? = some (.cells c t (0,0)) -> t ≠ 124 -> t ≠ 86 -> (w5.setCell ⟨r,0,none⟩ (.slice (some ⟨dg,0,none⟩) (A.D.length + 1) cap)).heap[i]? = w.heap[i]?:=fun i c t hi h1 h2=>by
   rw [hs i (ne_ty hi h.top h2),hne i c t hi h1]
  have htn:∀ (i:Nat) (c:Array Value) (t:TypeId),w.heap.size <= i -> w1.heap[i]? = some (.cells c t (0,0)) -> (w5.setCell ⟨r,0,none⟩ (.slice (some ⟨dg,0,none⟩) (A.D.length + 1) cap)).heap[i]? = w1.heap[i]?:=fun i c t hl hi=>by
   rw [hs i (by have:=h.lt r h.Gr;omega),hnew i hl (Array.getElem?_eq_some_iff.1 hi).1]
  have hsec:=h.sec_same (w':=w5.setCell ⟨r,0,none⟩ (.slice (some ⟨dg,0,none⟩) (A.D.length + 1) cap)) (fun g c _ hc=>hto g c _ hc (by decide) (by decide)) (fun g c _ hc=>hto g c _ hc (by decide) (by decide))
  refine ⟨fun i hi=>?_,?_,?_,by simp [h.dlen],fun i u hu=>?_,ownsRow_same h.fly (fun g hg=>?_),h.flen,fun i u x hu hx=>⟨(h.fv_same (fun g c _ hc=>hto g c _ hc (by decide) (by decide)) i u x hu hx).1,fun g hg=>.inl ((h.fv i u x hu hx).2 g hg)⟩,.inl h.Gr,fun g hg=>?_,fun i u hu g hg=>?_,fun g hg=>.inl (h.Gl g hg),fun i j u u' hu hu' g hg hg'=>?_,h.left,h.n2,by rw [hlen];exact hd⟩
  ·rcases hi with hi | hi
   ·simpa using Nat.lt_of_lt_of_le (h.lt i hi) gw.size
   ·simpa using hi.2
  ·rw [heap_setCell_same _ _ _ _ _ _ ht5,hlen];rfl
  ·rw [hlen,drow_app h.dlen]
   exact ownsRow_same o5 (fun g hg=>by
    obtain ⟨_,_,c,hc⟩:=rows_blk o5 hg
    exact hs g (ne_ty hc ht5 (by decide)))
  ·rcases hsp i u hu with ⟨hi,hu⟩ | ⟨rfl,rfl⟩
   ·have e:(A.D ++ [o])[i]? = A.D[i]?:=List.getElem?_append_left hi
    rcases hsec i u hu with ⟨h1,h2⟩ | ⟨ss,vs,h1,h2,h3,h4⟩
    ·exact .inl ⟨by rw [<- h1];exact e,h2⟩
    ·exact .inr ⟨ss,vs,by rw [<- h1];exact e,h2,h3,fun k u b hu hb=>⟨(h4 k u b hu hb).1,fun g hg=>.inl ((h4 k u b hu hb).2 g hg)⟩⟩
   ·have e:(A.D ++ [o])[A.D.length]? = some o:=by simp
    rcases ho with ⟨rfl,h2⟩ | ⟨ss,vs,rfl,h2,h3,h4⟩
    ·exact .inl ⟨e,h2⟩
    ·refine .inr ⟨ss,vs,e,ownsRow_down (ownsRow_same h2 (fun g hg=>?_)) (Nat.zero_le _),h3,fun k u b hu hb=>?_⟩
     ·obtain ⟨hlo,_,c,hc⟩:=rows_blk h2 hg
      exact htn g c _ hlo hc
     ·have q:=h4 k u b hu hb
      refine ⟨(q.sameB (fun g hg=>?_)).down (Nat.zero_le _),fun g hg=>.inr ?_⟩
      ·obtain ⟨hlo,_,c,hc⟩:=rows_blk q.row hg
       exact htn g c _ hlo hc
      ·obtain ⟨hlo,hhi,_⟩:=rows_blk q.row hg
       exact ⟨hlo,Nat.lt_of_lt_of_le hhi g5.size⟩
  ·obtain ⟨c,hc⟩:=rowBlock h.fly hg
   exact hto g c _ hc (by decide) (by decide)
  ·rw [hlen] at hg
   obtain rfl:dg = g:=Option.some.inj hg
   rcases hw with hw | hw
   ·exact .inl (h.Gd _ hw)
   ·exact .inr ⟨hw,hlt5⟩
  ·rcases hsp i u hu with ⟨hi,hu⟩ | ⟨rfl,rfl⟩
   ·exact .inl (h.Gs i u hu g hg)
   ·exact .inr ⟨(hvn g hg).1,Nat.lt_of_lt_of_le (hvn g hg).2 g5.size⟩
  ·rcases hsp i u hu with ⟨hi,hu1⟩ | ⟨e1,e2⟩
   ·rcases hsp j u' hu' with ⟨hj,hu2⟩ | ⟨e3,e4⟩
    ·exact h.ap i j u u' hu1 hu2 g hg hg'
    ·have a1:=hvn g (by rw [<- e4];exact hg')
     have a2:=h.lt g (h.Gs i u hu1 g hg)
     omega
   ·rcases hsp j u' hu' with ⟨hj,hu2⟩ | ⟨e3,e4⟩
    ·have a1:=hvn g (by rw [<- e2];exact hg)
     have a2:=h.lt g (h.Gs j u' hu2 g hg')
     omega
    ·omega
 ·rw [hs i (fun e=>hn (by rw [e];exact h.Gr))]
  exact gw.block i hi (fun e=>hn (h.Gd i e.symm))
 ·rcases hi with hi | hi
  ·exact .inl hi
  ·exact .inr hi.1
end
def mkTo (n i:Nat):AM.RA:=⟨List.replicate i (some (List.replicate n (AM.zs 64))),n,[],0,false⟩
theorem mkTo_len (n i:Nat):(mkTo n i).D.length = i:=by simp [mkTo]
theorem mkTo_step (n i:Nat):({ mkTo n i with D:=(mkTo n i).D ++ [some (List.replicate n (AM.zs 64))] }:AM.RA) = mkTo n (i + 1):=by simp [mkTo,List.replicate_succ']
set_option maxRecDepth 100000 in
set_option maxHeartbeats 800000 in
theorem rnew_yes {w:World} {N n:Nat} (h1:1 <= N) (h2:N <= 255) (h3:1 <= n) (h4:n <= 4096):Calls Tryz.prog 28 #[.int .i64 (N:Int),.int .i64 (n:Int)] w fun e w'=>∃ r,e = .returned (.tuple #[rptr r,.int .i64 0]) /\ ∃ G,RIs G w' r (AM.RA.new N n) /\ Base w G w':=by
 have j1:¬ (N:Int) < 1:=by omega
 have j2:¬ (255:Int) < (N:Int):=by omega
 have j3:¬ (n:Int) < 1:=by omega
 have j4:¬ (4096:Int) < (n:Int):=by omega
 have HN4:Hid (n <= 4096):=h4
 have H0:Hid (∃ G,RIs G (w.alloc (.cells #[.slice none 0 0,.int .i64 (n:Int),.slice none 0 0,.int .i64 0,.bool false] 86)) w.heap.size (mkTo n 0) /\ Base w G (w.alloc (.cells #[.slice none 0 0,.int .i64 (n:Int),.slice none 0 0,.int .i64 0,.bool false] 86))) :=
  ⟨fun i=>i = w.heap.size,⟨none,0,[],none,0,[],fun i hi=>(by subst hi;simp),heap_alloc_new w _,World.ownsRow_nil _ _ _ _,rfl,fun i v hv=>(by simp at hv),World.ownsRow_nil _ _ _ _,rfl,fun i u x hu=>(by simp at hu),rfl,fun g hg=>(by cases hg),fun i v hv=>(by simp at hv),fun g hg=>(by cases hg),fun i j u v hu=>(by simp at hu),(by simp [mkTo]),h4,(by simp [mkTo])⟩,World.grownBy_alloc _ _ none,fun i hi=>by omega⟩
 clear h1 h3 h4
 go_enter Tryz.func28,Tryz.ntmps28
 go_wp2_with fail
 clear j1 j2 j3 j4
 generalize w.alloc (.cells #[.slice none 0 0,.int .i64 (n:Int),.slice none 0 0,.int .i64 0,.bool false] 86) = W0 at *
 generalize w.heap.size = r at *
 go_loopw [7] (fun ti wr=>∃ i:Nat,i <= N /\ ti = .int .i64 (i:Int) /\ Hid (∃ G,RIs G wr r (mkTo n i) /\ Base w G wr)) (fun ti _=>N - (intOf ti).toNat)
 case atStart=>exact ⟨0,by omega,rfl,H0.out⟩
 case round =>
  clear H0
  obtain ⟨i,hi,rfl,HX⟩:=hrel
  by_cases hlt:i < N
  ·have i1:(i:Int) < (N:Int):=by omega
   obtain ⟨G,⟨dp,dc,ds,lp,lc,fs,hrl⟩,hb⟩:=HX.out
   have HRL:Hid (RL G wr r dp dc ds lp lc fs (mkTo n i)):=hrl
   have c0:wr.cell? ⟨r,0,none⟩ = some (.slice dp i dc):=by have:=hrl.topCells.1;rw [mkTo_len] at this;exact this
   have HI:Hid (i + 1 <= 255):=by show _ <= _;omega
   have HCK:Hid (∀ W,wr.grownBy W none -> W.cell? ⟨r,0,none⟩ = some (.slice dp i dc)):=fun W g=>g.cell c0 (by simp)
   have HDS:Hid (∀ W,wr.grownBy W none -> W.ownsRow 0 124 2 (.slice dp i dc) i (drow ds (mkTo n i).D)):=fun W g=>by
    have:=(hrl.keep g).dsk
    rw [mkTo_len] at this
    exact this
   have HGR:Hid (∀ (w8:World) (p8:Option Addr) (c8:Nat) (vs8:List Value),wr.grownBy w8 none -> (w8.ownsRow wr.heap.size 31 1 (.slice p8 n c8) n vs8 /\ ∀ (k:Nat) (u:Value),vs8[k]? = some u -> Own wr.heap.size w8 u (AM.zs 64)) -> ∀ (dg cap:Nat) (w5:World),w5.ownsRow 0 124 2 (.slice (some ⟨dg,0,none⟩) (i + 1) cap) (i + 1) (drow ds (mkTo n i).D ++ [.slice p8 n c8,.bool false]) -> (w8.alloc (.cells #[.slice p8 n c8,.bool false] 124)).grownBy w5 (Value.slice dp i dc).ownBlock -> ((Value.slice dp i dc).ownBlock = some dg \/ dg = (w8.alloc (.cells #[.slice p8 n c8,.bool false] 124)).heap.size) ->
    w5.cell? ⟨r,0,none⟩ = some (.slice dp i dc) /\ w5.frozen? ⟨r,0,none⟩ = false /\ ∃ G,RIs G (w5.setCell ⟨r,0,none⟩ (.slice (some ⟨dg,0,none⟩) (i + 1) cap)) r (mkTo n (i + 1)) /\ Base w G (w5.setCell ⟨r,0,none⟩ (.slice (some ⟨dg,0,none⟩) (i + 1) cap))):=fun w8 p8 c8 vs8 g8 hv8 dg cap w5 o5 g5 hw5=>by
    obtain ⟨k1,k2,G',k3,k4⟩:=hrl.grew (dg:=dg) (cap:=cap) (w5:=w5) (w1:=w8.alloc (.cells #[.slice p8 n c8,.bool false] 124)) (gb_alloc g8 _) (v:=.slice p8 n c8) (o:=some (List.replicate n (AM.zs 64))) (.inr ⟨_,vs8,rfl,ownsRow_same hv8.1 (fun g hg=>Below.heap_alloc _ _ _ (rows_blk hv8.1 hg).2.1),by simp [mkTo],fun k u b hu hb=>by
     obtain rfl:b = AM.zs 64:=(List.mem_replicate.1 (List.mem_of_getElem? hb)).2
     exact (hv8.2 k u hu).keep (World.grownBy_alloc _ _ none)⟩) (by rw [mkTo_len];exact o5) (by rw [mkTo_len];exact g5) (by
      rw [mkTo_len]
      rcases hw5 with h | h
      ·exact .inl h
      ·refine .inr ?_
       rw [h]
       exact Nat.le_trans g8.size (by simp)) (by rw [mkTo_len];exact HI.out)
    rw [mkTo_step] at k3
    rw [mkTo_len] at k1 k3 k4
    exact ⟨k1,k2,G',k3,hb.step k4⟩
   clear hrl hb HX
   go_wp2_with fail
   refine region_late (S:=(fun w'=>w'.cell? ⟨r,0,none⟩ = some (.slice dp i dc))) (by simp only [List.pop_toArray,List.dropLast];exact rfl) (by rfl) (by kernel_rfl) (by kernel_rfl) ?_ (fun hHeld=>?_)
   ·exact HCK.out _ (grown_drewN _ 1)
   refine wpAnyH_take (i:=0) (v:=?_) rfl (by kernel_rfl) (by kernel_rfl) (by kernel_rfl) (fun _ _ _ h=>h) (Or.inl ⟨by rfl,?_⟩) (by assumption) ?_
   rotate_left
   ·intro w hSw;(try dsimp only at hSw);first | (go_simp;done) | (go_simp;with_reducible rfl)
   simp only [Act.put,lay9]
   refine wpAnyH_take (i:=1) (v:=?_) rfl (by kernel_rfl) (by kernel_rfl) (by kernel_rfl) (fun _ _ _ h=>h) (Or.inl ⟨by rfl,?_⟩) (by assumption) ?_
   rotate_left
   ·intro w hSw;(try dsimp only at hSw);first | (go_simp;done) | (go_simp;with_reducible rfl)
   simp only [Act.put,lay9]
   refine wpAnyH_take (i:=2) (v:=?_) rfl (by kernel_rfl) (by kernel_rfl) (by kernel_rfl) (fun _ _ _ h=>h) (Or.inl ⟨by rfl,?_⟩) (by assumption) ?_
   rotate_left
   ·intro w hSw;(try dsimp only at hSw);first | (go_simp;done) | (go_simp;with_reducible rfl)
   simp only [Act.put,lay9]
   refine wpAnyH_take (i:=3) (v:=?_) rfl (by kernel_rfl) (by kernel_rfl) (by kernel_rfl) (fun _ _ _ h=>h) (Or.inl ⟨by rfl,?_⟩) (by assumption) ?_
   rotate_left
   ·intro w hSw;(try dsimp only at hSw);first | (go_simp;done) | (go_simp;with_reducible rfl)
   simp only [Act.put,lay9]
   refine wpAnyH_take (i:=4) (v:=?_) rfl (by kernel_rfl) (by kernel_rfl) (by kernel_rfl) (fun _ _ _ h=>h) (Or.inl ⟨by rfl,?_⟩) (by assumption) ?_
   rotate_left
   ·intro w hSw;(try dsimp only at hSw);first | (go_simp;done) | (go_simp;with_reducible rfl)
   simp only [Act.put,lay9]
   refine wpAnyH_take (i:=5) (v:=?_) rfl (by kernel_rfl) (by kernel_rfl) (by kernel_rfl) (fun _ _ _ h=>h) (Or.inl ⟨by rfl,?_⟩) (by assumption) ?_
   rotate_left
   ·intro w hSw;(try dsimp only at hSw);first | (go_simp;done) | (go_simp;with_reducible rfl)
   simp only [Act.put,lay9]
   refine wpAnyH_ready (rs:=[6]) (by kernel_rfl) (by simp) ?_
   refine AllReadyH.cons rfl (fun K hK=>?_) AllReadyH.nil
   go_simp
   refine (rblank_yes wr.drew HN4.out).mono ?_
   rintro e w8 ⟨p8,c8,vs8,rfl,ho8,hs8,hg8⟩
   have G8:Hid (wr.grownBy w8 none):=grown_trans (grown_drewN _ 1) hg8
   have HO8:Hid (w8.ownsRow wr.heap.size 31 1 (.slice p8 n c8) n vs8 /\ ∀ (k:Nat) (u:Value),vs8[k]? = some u -> Own wr.heap.size w8 u (AM.zs 64)):=⟨ho8,hs8⟩
   have G9:Hid (wr.grownBy (w8.alloc (.cells #[.slice p8 n c8,.bool false] 124)) none):=gb_alloc G8.out _
   have hlit:=lit_dsk w8 p8 n c8 false
   clear ho8 hs8 hg8
   refine hK.out _ _ (HCK.out _ G8.out) (fun hHeld=>?_)
   clear hK K
   (try simp only [Act.put,lay9])
   refine wpAnyH_ready (rs:=[7]) (by kernel_rfl) (by simp) ?_
   refine AllReadyH.cons rfl (fun K hK=>?_) AllReadyH.nil
   go_simp
   refine hK.out _ _ (HCK.out _ G9.out) (fun hHeld=>?_)
   clear hK K
   (try simp only [Act.put,lay9])
   refine wpAnyH_ready (rs:=[8]) (by kernel_rfl) (by simp) ?_
   refine AllReadyH.cons rfl (fun K hK=>?_) AllReadyH.nil
   refine step_append_at (by rfl) _ _ (by rfl) Tryz.underlying83 zeroDsk rfl (by decide) (by rfl) (by rfl) (HDS.out _ G9.out) (m:=1) (news:=[.slice p8 n c8,.bool false]) (by decide) rfl (fun j u hj=>by rw [add_at,Nat.zero_add];exact topCell (heap_alloc_new w8 _) (by simpa using hj)) (by intro u hu;simp at hu;rcases hu with rfl | rfl <;> rfl) (by have:=HI.out;unfold maxLen;omega) (by have:=HI.out;omega) ?_
   intro dg5 cap5 w5 o5 g5 hw5
   obtain ⟨k1,k2,k3⟩:=HGR.out w8 p8 c8 vs8 G8.out HO8.out _ _ w5 o5 g5 hw5
   have HX5:Hid (∃ G,RIs G (w5.setCell ⟨r,0,none⟩ (.slice (some ⟨dg5,0,none⟩) (i + 1) cap5)) r (mkTo n (i + 1)) /\ Base w G (w5.setCell ⟨r,0,none⟩ (.slice (some ⟨dg5,0,none⟩) (i + 1) cap5))):=k3
   clear o5 g5 hw5 k3
   refine hK.out _ _ (k1) (fun hHeld=>?_)
   clear hK K
   (try simp only [Act.put,lay9])
   refine wpAnyH_take (i:=9) (v:=?_) rfl (by kernel_rfl) (by kernel_rfl) (by kernel_rfl) (fun _ _ _ h=>h) (Or.inl ⟨by rfl,?_⟩) (by assumption) ?_
   rotate_left
   ·intro w hSw;(try dsimp only at hSw);first | (go_simp;done) | (go_simp;with_reducible rfl)
   simp only [Act.put,lay9]
   refine wpAnyH_take (i:=10) (v:=?_) rfl (by kernel_rfl) (by kernel_rfl) (by kernel_rfl) (fun _ _ _ h=>h) (Or.inl ⟨by rfl,?_⟩) (by assumption) ?_
   rotate_left
   ·intro w hSw;(try dsimp only at hSw);first | (go_simp;done) | (go_simp;with_reducible rfl)
   simp only [Act.put,lay9]
   refine wpAnyH_done (by kernel_rfl) ?_ _
   refine lastQ_normal ?_
   go_wp2
   go_roundw
   case rel=>exact ⟨i + 1,by omega,by go_num,HX5⟩
   case measure=>simp [intOf];omega
  ·have i1:¬ (i:Int) < (N:Int):=by omega
   obtain rfl:i = N:=by omega
   go_wp2
   go_ret2
   exact ⟨r,rfl,HX.out⟩
section
variable {F G F' G':Nat -> Prop} {w0 w w':World} {a r:Nat} {R R':AM.Raw} {A A':AM.RA}
theorem Is.aside (h:Is F w a R) (s:Step G w G' w') (hs:∀ k,F k -> G k -> False):Is F w' a R /\ ∀ k,F k -> G' k -> False:=by
 obtain ⟨h1,h2,h3⟩:=s.other h.lt (fun k hg hf=>hs k hf hg)
 exact ⟨h.same h1 h2,fun k hf hg=>h3 k hg hf⟩
end
end Go.Proofs.YtaalagkbpeinkaaGreat
