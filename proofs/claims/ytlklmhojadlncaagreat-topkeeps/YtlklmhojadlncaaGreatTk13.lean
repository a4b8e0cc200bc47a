/- Packed: Sec8, RTake7, Iter7, Cut7, Tak7. -/
import Derived.Test.YtlklmhojadlncaaGreatTk12
import Derived.RangeFuncNested
import Derived.RangeFuncBound
import Derived.RangeFuncCalls
import Derived.RangeFuncLeaves
import Derived.RangeFuncBox
import Derived.Shelf.Abstract
import Derived.OwnWalkIn
import Derived.TacticsInMore
import Derived.LoopNIn
import Derived.LoopIn
import Derived.Maps.OwnIn
set_option linter.unusedSimpArgs false
set_option linter.unusedVariables false
set_option maxRecDepth 100000
namespace Go.Proofs.YtlklmhojadlncaaGreat
open Go.RowKit
section
variable {F F':Nat->Prop} {w w':World} {s a:Nat} {g:SP.Geo} {R R':AM.Raw}
theorem sread_on (h:SI F w s a g R) (h0:R.off=false) {d slot i:Nat} (hd:d < g.n) (hs:slot < g.s) (hi:i < 8) (ho:R.on (d:Int)=true) :
 Calls Tryz.prog 79 #[ptr a,.int .i64 (d:Int),.int .i64 ((g.f+8 * slot+i:Nat):Int)] w fun e w'=>∃ p,e=.returned (.tuple #[.slice p 64 64,.int .i64 0])/\Own w.heap.size w' (.slice p 64 64) (AM.look R.C d (g.f+8 * slot+i))/\w.grownBy w' none:=by
 have hr:=SP.reach_on h.ok h0 hs hi hd
 rw[if_pos ho] at hr
 have:=read_yes h.i hr
 exact this
theorem sread_off (h:SI F w s a g R) (h0:R.off=false) {d slot i:Nat} (hd:d < g.n) (hs:slot < g.s) (hi:i < 8) (ho:R.on (d:Int)=false) :
 Calls Tryz.prog 79 #[ptr a,.int .i64 (d:Int),.int .i64 ((g.f+8 * slot+i:Nat):Int)] w fun e w'=>e=.returned (.tuple #[.slice none 0 0,.int .i64 9])/\w'=w:=by
 have hr:=SP.reach_on h.ok h0 hs hi hd
 rw[ho] at hr
 have:=read_no h.i (d:=(d:Int)) (k:=((g.f+8 * slot+i:Nat):Int)) (by rw[hr];decide)
 rw[hr] at this
 exact this
set_option maxHeartbeats 1600000 in
theorem ssectors_on (h:SI F w s a g R) (h0:R.off=false) {d slot:Nat} (hd:d < g.n) (hs:slot < g.s) (ho:R.on (d:Int)=true) :
 Calls Tryz.prog 61 #[ptr s,.int .i64 (d:Int),.int .i64 (slot:Int)] w fun e w'=>∃ v us,e=.returned v/\RMat 5 w.heap.size w' v us (SP.sectTo R g slot d 8)/\w.grownBy w' none:=by
 have H:Hid (SI F w s a g R):=h
 have HN:Hid (R.off=false/\d < g.n/\slot < g.s/\R.on (d:Int)=true/\g.f+8 * slot+8<=4096):=⟨h0,hd,hs,ho,by have:=h.ok.room;have:=h.i.ok.n2;omega⟩
 obtain⟨w1,hmk0,hrow,g1⟩:=run_make_rows0 w (n:=8) (by omega)
 have hmk:(Instr.makeSlice 88 (.int .i64 0) (.int .i64 8)).run Tryz.prog w=.ok (.slice (some ⟨w.heap.size,0,none⟩) 0 8) w1:=hmk0
 clear hmk0
 have HR:Hid (w1.ownsRow w.heap.size 26 1 (.slice (some ⟨w.heap.size,0,none⟩) 0 8) 0 []):=hrow
 have HG:Hid (w.grownBy w1 none):=g1
 clear h h0 hd hs ho hrow g1
 go_enter Tryz.func61,Tryz.ntmps61
 go_wp2_with fail
 clear hmk
 go_loopw [7,12] (fun tl ti wr=>∃ k:Nat,k<=8/\ti=.int .i64 k/\Hid (∃ us,RMat 5 w.heap.size wr tl us (SP.sectTo R g slot d k))/\Hid (w.grownBy wr none)) (fun _ ti _=>8 - (intOf ti).toNat)
 case atStart=>exact⟨0,by omega,rfl,⟨[],⟨by simp,HR.out,rfl,by simp[SP.sectTo]⟩⟩,HG⟩
 case round =>
  obtain⟨k,hk,rfl,OK,GK⟩:=hrel
  obtain⟨us,OM⟩:=OK.out
  have MK:Hid (RMat 5 w.heap.size wr u7 us (SP.sectTo R g slot d k)):=OM
  have HL:Hid ((us.length+1) * 24<=140737488351232):=by show _<=_;rw[OM.same,SP.sectTo_len];omega
  clear OM OK
  by_cases hlt:k < 8
  ·have i4:(k:Int) < 8:=by omega
   have GD:Hid (w.grownBy (wr.drewN 1) none):=grown_trans GK.out (grown_drewN wr 1)
   have HC:Hid (∀ w',wr.grownBy w' none->w'.cell? ⟨s,0,none⟩=some (ptr a)):=fun w' g'=>(H.out.keep (grown_trans GK.out g')).at1
   obtain⟨b,hb⟩:∃ b,b=g.f+8 * slot:=⟨_,rfl⟩
   obtain⟨q,hq⟩:∃ q,q=g.f+8 * slot+k:=⟨_,rfl⟩
   have HB:Hid (Calls Tryz.prog 73 #[ptr s,.int .i64 (slot:Int)] (wr.drewN 1) fun e w'=>e=.returned (.int .i64 (b:Int))/\w'=wr.drewN 1):=by
    rw[hb];exact sbegin_yes (H.out.keep GD.out) HN.out.2.2.1
   have RD:Hid (Calls Tryz.prog 79 #[ptr a,.int .i64 (d:Int),.int .i64 (q:Int)] (wr.drewN 1) fun e w'=>∃ p,e=.returned (.tuple #[.slice p 64 64,.int .i64 0])/\Own (wr.drewN 1).heap.size w' (.slice p 64 64) (AM.look R.C d q)/\(wr.drewN 1).grownBy w' none):=by
    rw[hq];exact sread_on (H.out.keep GD.out) HN.out.1 HN.out.2.1 HN.out.2.2.1 hlt HN.out.2.2.2.1
   have hw:IntKind.i64.wrap ((b:Int)+(k:Int))=(q:Int):=by
    have e:(b:Int)+(k:Int)=(q:Int):=by omega
    have:=HN.out.2.2.2.2
    rw[e]
    exact IntWalk.i64_in _ (by omega)
   have HS:Hid (SP.sectTo R g slot d (k+1)=SP.sectTo R g slot d k++[AM.look R.C d q]):=by rw[hq];exact SP.sectTo_succ R g slot d k
   clear hb hq
   generalize SP.sectTo R g slot d k=XK at *
   generalize AM.look R.C d q=SK at *
   go_wp2_with fail
   go_region_held3 (fun w'=>w'.cell? ⟨s,0,none⟩=some (ptr a)) (first | exact HC.out _ (grown_drewN _ 1) | exact HC.out _ (grown_trans (grown_drewN _ 1) G1.out))
    ((first
      | (go_at_call 73;refine HB.out.mono ?_;rintro e w9 ⟨rfl,hw9⟩;obtain rfl:=hw9.symm;clear hw9)
      | (go_at_call 79;refine RD.out.mono ?_;rintro e w2 ⟨p,rfl,op,g2⟩;have G1:Hid ((wr.drewN 1).grownBy w2 none):=g2;have OP:Hid (Arr 5 w.heap.size w2 (.slice p 64 64) SK):=op.arr.down GD.out.size;clear op g2)))
   have M1:Hid (RMat 5 w.heap.size w2 u7 us XK):=(MK.out.keep (grown_drewN wr 1)).keep G1.out
   have G2:Hid (w.grownBy w2 none):=grown_trans GD.out G1.out
   clear HB RD hw GD G1 MK
   go_wp2_with (at_builtin;refine wpList_append_row rfl _ _ rfl _ ⟨w2.heap.size,0,none⟩ rfl rfl (M1.out.keep (World.grownBy_alloc w2 _ none)).row (cell_new1 _ _ rfl) rfl (gb_alloc G2.out _).size HL.out ?_;intro v3 w3 r3 g3 at3;have M3:Hid (RMat 5 w.heap.size w3 v3 (us++[.slice p 64 64]) (XK++[SK])):=(M1.out.keep (World.grownBy_alloc w2 _ none)).more (by decide) (OP.out.keep (World.grownBy_alloc w2 _ none)) HL.out r3 g3;have G3:Hid (w.grownBy w3 none):=grown_new (gb_alloc G2.out _) g3 (fun i e=>M1.out.lo i e);clear r3 g3 at3)
   go_roundw
   case rel=>exact⟨k+1,by omega,by go_num,⟨_,by rw[HS.out];exact M3.out⟩,G3⟩
   case measure=>simp[intOf];omega
  ·obtain rfl:k=8:=by omega
   go_wp2
   go_ret
   exact⟨_,_,rfl,MK.out,GK.out⟩
set_option maxHeartbeats 1600000 in
theorem ssectors_off (h:SI F w s a g R) (h0:R.off=false) {d slot:Nat} (hd:d < g.n) (hs:slot < g.s) (ho:R.on (d:Int)=false) :
 Calls Tryz.prog 61 #[ptr s,.int .i64 (d:Int),.int .i64 (slot:Int)] w fun e w'=>e=.returned (.slice none 0 0)/\w.grownBy w' none:=by
 have H:Hid (SI F w s a g R):=h
 have HN:Hid (R.off=false/\d < g.n/\slot < g.s/\R.on (d:Int)=false/\g.f+8 * slot+8<=4096):=⟨h0,hd,hs,ho,by have:=h.ok.room;have:=h.i.ok.n2;omega⟩
 obtain⟨w1,hmk0,hrow,g1⟩:=run_make_rows0 w (n:=8) (by omega)
 have hmk:(Instr.makeSlice 88 (.int .i64 0) (.int .i64 8)).run Tryz.prog w=.ok (.slice (some ⟨w.heap.size,0,none⟩) 0 8) w1:=hmk0
 clear hmk0
 have HG:Hid (w.grownBy w1 none):=g1
 clear h h0 hd hs ho hrow g1
 go_enter Tryz.func61,Tryz.ntmps61
 go_wp2_with fail
 clear hmk
 go_loopw [7,12] (fun tl ti wr=>ti=.int .i64 0/\tl=.slice (some ⟨w.heap.size,0,none⟩) 0 8/\Hid (w.grownBy wr none)) (fun _ ti _=>8 - (intOf ti).toNat)
 case atStart=>exact⟨rfl,rfl,HG⟩
 case round =>
  obtain⟨rfl,rfl,GK⟩:=hrel
  have GD:Hid (w.grownBy (wr.drewN 1) none):=grown_trans GK.out (grown_drewN wr 1)
  have HC:Hid (∀ w',wr.grownBy w' none->w'.cell? ⟨s,0,none⟩=some (ptr a)):=fun w' g'=>(H.out.keep (grown_trans GK.out g')).at1
  obtain⟨b,hb⟩:∃ b,b=g.f+8 * slot:=⟨_,rfl⟩
  have HB:Hid (Calls Tryz.prog 73 #[ptr s,.int .i64 (slot:Int)] (wr.drewN 1) fun e w'=>e=.returned (.int .i64 (b:Int))/\w'=wr.drewN 1):=by
   rw[hb];exact sbegin_yes (H.out.keep GD.out) HN.out.2.2.1
  have RD:Hid (Calls Tryz.prog 79 #[ptr a,.int .i64 (d:Int),.int .i64 (b:Int)] (wr.drewN 1) fun e w'=>e=.returned (.tuple #[.slice none 0 0,.int .i64 9])/\w'=wr.drewN 1):=by
   rw[hb];exact sread_off (i:=0) (H.out.keep GD.out) HN.out.1 HN.out.2.1 HN.out.2.2.1 (by omega) HN.out.2.2.2.1
  have hw:IntKind.i64.wrap (b:Int)=(b:Int):=by
   have:=HN.out.2.2.2.2
   exact IntWalk.i64_in _ (by omega)
  clear hb
  go_wp2_with fail
  go_region_held3 (fun w'=>w'.cell? ⟨s,0,none⟩=some (ptr a)) (exact HC.out _ (grown_drewN _ 1))
   ((first
     | (go_at_call 73;refine HB.out.mono ?_;rintro e w9 ⟨rfl,hw9⟩;obtain rfl:=hw9.symm;clear hw9)
     | (go_at_call 79;refine RD.out.mono ?_;rintro e w2 ⟨rfl,hw2⟩;obtain rfl:=hw2.symm;clear hw2)))
  go_wp2
  go_ret
  exact⟨rfl,GD.out⟩
theorem ssectors_any (h:SI F w s a g R) (h0:R.off=false) {d slot:Nat} (hd:d < g.n) (hs:slot < g.s) :
 Calls Tryz.prog 61 #[ptr s,.int .i64 (d:Int),.int .i64 (slot:Int)] w fun e w'=>∃ v us,e=.returned v/\Mat w' v us (SP.sects R g slot d)/\w.grownBy w' none:=by
 cases ho:R.on (d:Int)
 ·rw[SP.sects_off ho]
  refine (ssectors_off h h0 hd hs ho).mono ?_
  rintro e w' ⟨rfl,g1⟩
  exact⟨_,_,rfl,Mat.nil _,g1⟩
 ·rw[SP.sects_on ho]
  refine (ssectors_on h h0 hd hs ho).mono ?_
  rintro e w' ⟨v,us,rfl,m,g1⟩
  exact⟨_,_,rfl,m.mat,g1⟩
end
theorem eqb_no {a b:Nat} (h:a ≠ b):((a:Int)==(b:Int))=false:=by simp;omega
theorem eqb_yes {a b:Nat} (h:a=b):((a:Int)==(b:Int))=true:=by simp;omega
theorem neb_yes {a b:Nat} (h:a ≠ b):((a:Int) != (b:Int))=true:=by simp;omega
theorem neb_no {a b:Nat} (h:a=b):((a:Int) != (b:Int))=false:=by simp;omega
theorem tN_no {X:List (List Nat)} (h:CM.yes X=false):CM.tN X=0:=by simp[CM.tN,h]
theorem tL_no {X:List (List Nat)} (h:CM.yes X=false):CM.tL X=[]:=by simp[CM.tL,h]
def stAt (X:List (List Nat)) (k:Nat):Nat:=if k=0 then 0 else SM.val (X.getD 0 []) 8
theorem okTo_more {X:List (List Nat)} {k:Nat} (h:CM.okTo X k) (h1:(X.getD k []).length=64) (h2:SM.val (X.getD k []) 8 ≠ 0) (h3:k=0\/SM.val (X.getD k []) 8=SM.val (X.getD 0 []) 8):CM.okTo X (k+1):=fun j hj=>by
 by_cases e:j=k
 ·subst e
  refine⟨h1,?_,h2⟩
  rcases h3 with h3 | h3
  ·subst h3;rfl
  ·exact h3
 ·exact h j (by omega)
theorem stAt_next {X:List (List Nat)} {k:Nat} (h3:k=0\/SM.val (X.getD k []) 8=SM.val (X.getD 0 []) 8):stAt X (k+1)=SM.val (X.getD k []) 8:=by
 unfold stAt
 rw[if_neg (by omega)]
 rcases h3 with h3 | h3
 ·subst h3;rfl
 ·exact h3.symm
end Go.Proofs.YtlklmhojadlncaaGreat
namespace Go.Proofs.YtlklmhojadlncaaGreat
open Go.RowKit Go.Shelf
attribute [local go_sem] Oper.semAt_some
def cl (m x:Nat):Nat:=min x (m - 1)
theorem cl_lt {m x:Nat} (h:0 < m):cl m x < m:=by unfold cl;omega
theorem cl_self {m x:Nat} (h:x < m):cl m x=x:=by unfold cl;omega
def encL_c (b off m x:Nat):Array Value:=#[.slice (some ⟨b,off+56 * cl m x,none⟩) 56 56]
def Kp7 (Bs Bn:Nat) (W W':World):Prop:=W'.heap[Bs]?=W.heap[Bs]?/\W'.heap[Bn]?=W.heap[Bn]?
theorem chunk_any (w:World) (p:Option Addr) (n c:Nat) :
 Calls Tryz.prog 74 #[.slice p n c,.int .i64 56] w fun e w'=>e=.returned (.func (.func 89) #[] #[.pointer (some ⟨w.heap.size,0,none⟩),.pointer (some ⟨w.heap.size+1,0,none⟩)])/\w'=(w.alloc (.cells #[.slice p n c] 26)).alloc (.cells #[.int .i64 56] 3):=by
 go_enter Tryz.func74,Tryz.ntmps74
 go_wp2
 go_ret
 exact⟨rfl,rfl⟩
theorem slice_lo7 {b off n c lo:Nat} (h3:lo < n) (hc:n<=c) (W:World):(Instr.slice 26 (.slice (some ⟨b,off,none⟩) n c) (some (.int .i64 (lo:Int))) none none).run Tryz.prog W=.ok (.slice (some ⟨b,off+lo,none⟩) (n - lo) (c - lo)) W:=by
 obtain⟨i0,hi0,hz0,hz1,hz2⟩:=info_parts Tryz.info5
 have e2:(Instr.sliceBound (.int .i64 (lo:Int)) n .sliceB).run Tryz.prog W=.ok lo W:=by
  have:=run_sliceBound (P:=Tryz.prog) W .i64 (lo:Int) n .sliceB (by omega) (by omega)
  simpa using this
 have h4:¬ c=lo:=by omega
 simp[Instr.slice,run_underlying Tryz.underlying26,Instr.sliceBounds,e2,sizeOf,typeInfo,hi0,hz1,h4,add_off]
theorem slice_lhm {b off n c lo hi:Nat} (h2:hi<=c) (h3:lo < hi) (W:World):(Instr.slice 26 (.slice (some ⟨b,off,none⟩) n c) (some (.int .i64 (lo:Int))) (some (.int .i64 (hi:Int))) (some (.int .i64 (hi:Int)))).run Tryz.prog W=.ok (.slice (some ⟨b,off+lo,none⟩) (hi - lo) (hi - lo)) W:=by
 obtain⟨i0,hi0,hz0,hz1,hz2⟩:=info_parts Tryz.info5
 have e0:(Instr.sliceBound (.int .i64 (hi:Int)) c .slice3Acap).run Tryz.prog W=.ok hi W:=by
  have:=run_sliceBound (P:=Tryz.prog) W .i64 (hi:Int) c .slice3Acap (by omega) (by omega)
  simpa using this
 have e1:(Instr.sliceBound (.int .i64 (hi:Int)) hi .slice3B).run Tryz.prog W=.ok hi W:=by
  have:=run_sliceBound (P:=Tryz.prog) W .i64 (hi:Int) hi .slice3B (by omega) (by omega)
  simpa using this
 have e2:(Instr.sliceBound (.int .i64 (lo:Int)) hi .slice3C).run Tryz.prog W=.ok lo W:=by
  have:=run_sliceBound (P:=Tryz.prog) W .i64 (lo:Int) hi .slice3C (by omega) (by omega)
  simpa using this
 have h4:¬ hi=lo:=by omega
 simp[Instr.slice,run_underlying Tryz.underlying26,Instr.sliceBounds,e0,e1,e2,sizeOf,typeInfo,hi0,hz1,h4,add_off]
set_option maxRecDepth 100000 in
set_option maxHeartbeats 2000000 in
theorem chunk1_in (n:Nat) (hn:1<=n) (l Bs Bn b off N cap m:Nat) (hN:N=56 * m) (hm:m<=64) (hcap:N<=cap) (J Jx:List Nat->World->Prop)
 (hY:∀ pre x W,J pre W->pre.length < m->YieldAt Fence.wide (n - 1) Tryz.prog l (encL_c b off m x) W fun e W' =>
   (e=.returned (.bool true)/\J (pre++[x]) W'/\Kp7 Bs Bn W W')\/(e=.returned (.bool false)/\Jx (pre++[x]) W'))
 (W:World) (hBs:Boxed W Bs 26 (.slice (some ⟨b,off,none⟩) N cap)) (hBn:Boxed W Bn 3 (.int .i64 56)) (hJd:∀ pre W,J pre W->J pre W.drew) (h0:J [] W) :
 CallsIn Fence.wide n Tryz.prog 89 #[.func (.yield l) #[] #[],.pointer (some ⟨Bs,0,none⟩),.pointer (some ⟨Bn,0,none⟩)] W fun e W'=>(∃ v,e=.returned v) /\
  ((∃ ys,ys=List.range m/\J ys W')\/(∃ pre,(∃ k,k<=m/\pre=List.range k)/\Jx pre W')):=by
 have HN:Hid (N=56 * m/\N<=cap):=⟨hN,hcap⟩
 have HY:Hid _:=hY
 clear hN hcap hY
 refine callsIn_of_wp Tryz.func89 rfl trivial ?_ rfl
 simp only[Tryz.ntmps89,List.size_toArray,List.length_cons,List.length_nil,Nat.reduceAdd,Nat.reduceSub,Array.replicate_succ,Array.replicate_zero,List.push_toArray,List.append_toArray,List.nil_append,List.cons_append]
 gi_wp2
 gi_loopw [4] (fun i wr=>∃ k:Nat,k<=m/\i=.int .i64 (56 * (k:Int))/\Hid (J (List.range k) wr)/\Hid (Boxed wr Bs 26 (.slice (some ⟨b,off,none⟩) N cap)/\Boxed wr Bn 3 (.int .i64 56)))
  (fun i _=>56 * m - (intOf i).toNat)
 case atStart=>exact⟨0,Nat.zero_le _,rfl,h0,hBs,hBn⟩
 case round =>
  clear hBs hBn h0
  obtain⟨k,hk,rfl,hJs,hB⟩:=hrel
  have c1:=hB.out.1.cell
  by_cases hlt:k < m
  ·have i1:56 * (k:Int) < (N:Int):=by have:=HN.out;omega
   have HY2:Hid (YieldAt Fence.wide (n - 1) Tryz.prog l (encL_c b off m k) wr.drew fun e W'=>(e=.returned (.bool true)/\J (List.range k++[k]) W'/\Kp7 Bs Bn wr.drew W')\/(e=.returned (.bool false)/\Jx (List.range k++[k]) W')):=HY.out _ _ _ (hJd _ _ hJs.out) (by simpa using hlt)
   have s1:=fun W=>slice_lo7 (b:=b) (off:=off) (n:=N) (c:=cap) (lo:=56 * k) (by have:=HN.out;omega) HN.out.2 W
   rw[show ((56 * k:Nat):Int)=56 * (k:Int) by omega] at s1
   obtain⟨R,hR⟩:∃ R,R=N - 56 * k:=⟨_,rfl⟩
   rw[<- hR] at s1
   have iR:¬ (R:Int) < 56:=by have:=HN.out;omega
   have HB:Hid (∀ w',wr.grownBy w' none->w'.cell? ⟨Bs,0,none⟩=some (.slice (some ⟨b,off,none⟩) N cap)/\w'.cell? ⟨Bn,0,none⟩=some (.int .i64 56)):=fun w' g=>⟨g.cell hB.out.1.cell (by simp),g.cell hB.out.2.cell (by simp)⟩
   clear hR hJs
   gi_wp2
   refine wpIn_wide.2 ?_
   go_region_held3 (fun w'=>w'.cell? ⟨Bs,0,none⟩=some (.slice (some ⟨b,off,none⟩) N cap)/\w'.cell? ⟨Bn,0,none⟩=some (.int .i64 56)) (first | exact HB.out _ (grown_drewN _ 1)) (fail)
   clear s1 i1
   have eL:encL_c b off m k=#[.slice (some ⟨b,off+56 * k,none⟩) 56 56]:=by simp[encL_c,cl_self hlt]
   rw[eL] at HY2
   obtain⟨fn,tmps,assign,body,hy,hR⟩:=HY2.out
   have s2:=fun W=>slice_lhm (b:=b) (off:=off) (n:=N) (c:=cap) (lo:=56 * k) (hi:=56 * k+56) (by have:=HN.out;omega) (by omega) W
   rw[show ((56 * k+56:Nat):Int)=56 * (k:Int)+56 by omega,show ((56 * k:Nat):Int)=56 * (k:Int) by omega,show 56 * k+56 - 56 * k=56 by omega] at s2
   have d1:wr.drew.cell? ⟨Bs,0,none⟩=some (.slice (some ⟨b,off,none⟩) N cap):=c1
   clear HY2 eL c1
   gi_wp2
   refine hR.mono ?_
   rintro e W3 (⟨rfl,hJ3,hk3⟩ | ⟨rfl,hJx3⟩)
   ·have HJ3:Hid (J (List.range k++[k]) W3):=hJ3
    have hB3:Hid (Boxed W3 Bs 26 (.slice (some ⟨b,off,none⟩) N cap)/\Boxed W3 Bn 3 (.int .i64 56)):=⟨hk3.1.trans hB.out.1,hk3.2.trans hB.out.2⟩
    have c3:=hB3.out.2.cell
    clear hJ3 hk3 hy hR s2 d1
    gi_wp2
    go_roundw
    case rel=>exact⟨k+1,by omega,by go_num,by rw[List.range_succ];exact HJ3,hB3⟩
    case measure=>simp[intOf];omega
   ·have HJ3:Hid (Jx (List.range k++[k]) W3):=hJx3
    clear hJx3 hy hR s2 d1
    gi_wp2
    refine bodyPost_ret (results_none rfl _ _ _) rfl ?_
    exact⟨⟨_,rfl⟩,.inr ⟨_,⟨k+1,by omega,(List.range_succ).symm⟩,HJ3.out⟩⟩
  ·obtain rfl:k=m:=by omega
   have i1:¬ 56 * (k:Int) < (N:Int):=by have:=HN.out;omega
   gi_wp2
   go_end0
   exact⟨⟨_,rfl⟩,.inl hJs.out⟩
attribute [local go_sem] Oper.semAt_some
theorem chunk_stops (n:Nat) (hn:1<=n) (Bs Bn b off N cap m:Nat) (hN:N=56 * m) (hm:m<=64) (hcap:N<=cap) (w:World) (hBs:Boxed w Bs 26 (.slice (some ⟨b,off,none⟩) N cap)) (hBn:Boxed w Bn 3 (.int .i64 56)) :
 SeqStopsK Fence.wide n Tryz.prog 89 #[.pointer (some ⟨Bs,0,none⟩),.pointer (some ⟨Bn,0,none⟩)] (fun x:Nat=>encL_c b off m x) (Kp7 Bs Bn) (fun ys=>ys=List.range m) (fun pre=>∃ k,k<=m/\pre=List.range k) m w:=fun l J Jx W hW hJ _ hY h0 =>
 chunk1_in n hn l Bs Bn b off N cap m hN hm hcap J Jx hY W ((hW.block Bs hBs.lt).trans hBs) ((hW.block Bn hBn.lt).trans hBn) (fun pre W h=>hJ pre W _ none h (grown_drewN W 1) (by simp)) h0
def rowsOf (n:Nat) (xs:List Nat) (m:Nat) (pre:List Nat):List (List Nat):=pre.map fun i=>SM.sec n (CM.ld xs (cl m i))
theorem rowsOf_all (n:Nat) (xs:List Nat) (m:Nat):rowsOf n xs m (List.range m)=CM.secs n xs m:=by
 unfold rowsOf CM.secs
 refine List.map_congr_left fun i hi=>?_
 rw[cl_self (List.mem_range.1 hi)]
structure CutI (w:World) (n m:Nat) (xs:List Nat) (M b off N cap:Nat) (pre:List Nat) (W:World) (dv:Value) (us:List Value):Prop where
 made:Boxed W M 88 dv
 mat:RMat 78 w.heap.size W dv us (rowsOf n xs m pre)
 num:Boxed W w.heap.size 36 (.int .u64 (n:Int))
 bs:Boxed W (M+1) 26 (.slice (some ⟨b,off,none⟩) N cap)
 bn:Boxed W (M+2) 3 (.int .i64 56)
 ne:dv.ownBlock ≠ some (M+1)
 lM:w.heap.size<=M
 gr:w.grownBy W none
theorem CutI.kept {w:World} {n m:Nat} {xs:List Nat} {M b off N cap:Nat} {pre:List Nat} {W W':World} {dv:Value} {us:List Value} {row:Option Nat} (h:CutI w n m xs M b off N cap pre W dv us) (g:W.grownBy W' row)
 (hr:∀ r,row=some r->w.heap.size<=r/\∃ o:Obj,W.heap[r]?=some o/\o.isCells=false):CutI w n m xs M b off N cap pre W' dv us:=by
 have bx:∀ {B:Nat} {t:TypeId} {v:Value},Boxed W B t v->Boxed W' B t v:=fun hb=>hb.kept g fun e=>by
  obtain⟨_,o,ho,hc⟩:=hr _ e.symm
  rw[show W.heap[_]?=_ from hb] at ho
  cases ho;cases hc
 refine⟨bx h.made,h.mat.kept g (fun r e c f=>?_),bx h.num,bx h.bs,bx h.bn,h.ne,h.lM,grown_new h.gr g (fun r e=>(hr r e).1)⟩
 obtain⟨_,o,ho,hc⟩:=hr r e
 rw[ho]
 constructor <;> (intro e2;injection e2 with e2;subst e2;cases hc)
theorem CutI.own (w:World) (n m:Nat) (xs:List Nat) (M b off N cap B:Nat) (hB:w.heap.size<=B):OwnFrom B (fun (pre:List Nat) W=>∃ dv us,CutI w n m xs M b off N cap pre W dv us) :=
 fun _ _ _ _ ⟨dv,us,h⟩ g hr=>⟨dv,us,h.kept g fun r e=>⟨Nat.le_trans hB (hr r e).1,(hr r e).2⟩⟩
theorem RMat.notBox {T t:TypeId} (h1:t ≠ 26) {B D:Nat} {w:World} {v u:Value} {us:List Value} {X:List (List Nat)} (h:RMat T B w v us X) (hb:Boxed w D t u):some D ≠ v.ownBlock:=hb.not_row h1 h.row
theorem CutI.more {w:World} {n m:Nat} {xs:List Nat} {M b off N cap:Nat} {pre:List Nat} {W w5:World} {dv v' u:Value} {us:List Value} {x:Nat} (C:CutI w n m xs M b off N cap pre W dv us)
 (o:Arr 78 w.heap.size W u (SM.sec n (CM.ld xs (cl m x)))) (hl:(us.length+1) * 24<=140737488351232) (r5:w5.ownsRow w.heap.size 26 1 v' (us.length+1) (us++[u])) (g5:W.grownBy w5 dv.ownBlock) (at5:v'.ownBlock=dv.ownBlock\/v'.ownBlock=some W.heap.size) :
 Boxed w5 M 88 dv/\CutI w n m xs M b off N cap (pre++[x]) (w5.setCell ⟨M,0,none⟩ v') v' (us++[u])/\KeepsOthers W (w5.setCell ⟨M,0,none⟩ v'):=by
 have b1:Boxed w5 M 88 dv:=C.made.kept g5 (C.mat.notBox (by decide) C.made)
 have m5:=C.mat.more (by decide) o hl r5 g5
 have gs:=grownBy_setCell' w5 M v'
 have lm:=C.bs.lt
 have ln:=C.lM
 refine⟨b1,⟨b1.set _,?_,((C.num.kept g5 (C.mat.notBox (by decide) C.num)).kept gs ?_),((C.bs.kept g5 (fun e=>C.ne e.symm)).kept gs (by simp)),((C.bn.kept g5 (C.mat.notBox (by decide) C.bn)).kept gs (by simp)),?_,C.lM,?_⟩,?_⟩
 ·have e:rowsOf n xs m (pre++[x])=rowsOf n xs m pre++[SM.sec n (CM.ld xs (cl m x))]:=by simp[rowsOf]
  rw[e]
  refine m5.kept gs (fun r e c f=>?_)
  obtain rfl:=Option.some.inj e
  rw[show w5.heap[M]?=_ from b1]
  constructor <;> (intro e2;simp at e2)
 ·intro e
  have h1:=Option.some.inj e
  have h2:=C.num
  rw[h1] at h2
  have h3:=(show W.heap[M]?=_ from h2).symm.trans (show W.heap[M]?=_ from C.made)
  simp at h3
 ·rcases at5 with e | e
  ·rw[e];exact C.ne
  ·rw[e];intro e2;have:=Option.some.inj e2;omega
 ·exact grown_new (grown_new C.gr g5 C.mat.lo) gs (fun i e=>by have:=Option.some.inj e;omega)
 ·refine (KeepsOthers.of_grownBy g5 fun j o' ej hj=>?_).trans (KeepsOthers.setCell _ _ _)
  rcases C.mat.row.2 with ⟨rfl,_⟩ | ⟨g,cp,cur,rfl,_,hgb,_⟩
  ·simp[Value.ownBlock] at ej
  ·obtain rfl:g=j:=by simpa [Value.ownBlock] using ej
   rw[hgb] at hj;cases hj;rfl
theorem Vec.room {w:World} {p:Option Addr} {n c c':Nat} {xs:List Nat} (h:Vec w (.slice p n c) xs) (h1:n<=c') (h2:c'<=maxLen):Vec w (.slice p n c') xs:=by
 obtain⟨a1,a2,p',cap',e,a3,a4,a5⟩:=h
 injection e with e1 e2 e3
 subst e1
 subst e2
 exact⟨a1,a2,p,c',rfl,h1,h2,a5⟩
set_option maxRecDepth 100000 in
set_option maxHeartbeats 2000000 in
theorem cut_any {w:World} {n m b off N cap:Nat} {xs:List Nat} (hv:Vec w (.slice (some ⟨b,off,none⟩) N cap) xs) (hN:N=56 * m) (hx:xs.length=56 * m) (hm0:0 < m) (hm:m<=64) (hcap:N<=cap) :
 Calls Tryz.prog 87 #[.int .u64 (n:Int),.slice (some ⟨b,off,none⟩) N cap] w fun e w'=>∃ u us,e=.returned u/\RMat 78 w.heap.size w' u us (CM.secs n xs m)/\w.grownBy w' none:=by
 have HN:Hid (N=56 * m/\xs.length=56 * m/\0 < m/\m<=64/\N<=cap):=⟨hN,hx,hm0,hm,hcap⟩
 have hq:(N:Int) / 56=(m:Int):=by omega
 obtain⟨w1,hmk,hrow,g1⟩:=run_make_rows0 (w.alloc (.cells #[.int .u64 (n:Int)] 36)) (n:=m) (by omega)
 have HR:Hid (w1.ownsRow (w.alloc (.cells #[.int .u64 (n:Int)] 36)).heap.size 26 1 (.slice (some ⟨(w.alloc (.cells #[.int .u64 (n:Int)] 36)).heap.size,0,none⟩) 0 m) 0 []):=hrow
 have HG:Hid ((w.alloc (.cells #[.int .u64 (n:Int)] 36)).grownBy w1 none):=g1
 have HV:Hid (Vec w (.slice (some ⟨b,off,none⟩) N cap) xs):=hv
 clear hv hN hx hm0 hcap hrow g1
 rw[World.size_alloc] at hmk
 refine (callsIn_wide (n:=5)).1 ?_
 refine callsIn_of_wp_marks Tryz.func87 rfl trivial ?_ rfl
 simp only[Tryz.ntmps87,List.size_toArray,List.length_cons,List.length_nil,Nat.reduceAdd,Nat.reduceSub,Array.replicate_succ,Array.replicate_zero,List.push_toArray,List.append_toArray,List.nil_append,List.cons_append]
 gi_wp2_with (refine⟨trivial,?_⟩;gi_at_call 74;refine (callsIn_wide.2 (chunk_any _ _ _ _)).mono ?_;rintro e w2 ⟨rfl,rfl⟩)
 have I0:CutI w n m xs w1.heap.size b off N cap [] (((w1.alloc (.cells #[.slice (some ⟨w.heap.size+1,0,none⟩) 0 m] 88)).alloc (.cells #[.slice (some ⟨b,off,none⟩) N cap] 26)).alloc (.cells #[.int .i64 56] 3)) (.slice (some ⟨w.heap.size+1,0,none⟩) 0 m) []:=by
  have hR:=HR.out
  rw[World.size_alloc] at hR
  have hlt:=hR.lt (w.heap.size+1) rfl
  have hsz:=HG.out.size
  have ga:=World.grownBy_alloc w1 (.cells #[.slice (some ⟨w.heap.size+1,0,none⟩) 0 m] 88) none
  have gb:=gb_alloc ga (.cells #[.slice (some ⟨b,off,none⟩) N cap] 26)
  have gc:=gb_alloc gb (.cells #[.int .i64 56] 3)
  refine⟨((Boxed.new w1 _ _).alloc _).alloc _,⟨by simp,?_,rfl,by simp[rowsOf]⟩,(((Boxed.new w 36 (.int .u64 (n:Int))).kept HG.out (by simp)).kept gc (by simp)),?_,?_,?_,?_,grown_trans (grown_trans (World.grownBy_alloc w _ none) HG.out) gc⟩
  ·have h1:=hR.kept gc (.inr (by simp[Value.ownBlock]))
   exact⟨h1.1,by
    rcases h1.2 with h | ⟨g,cp,cur,a1,a2,a3⟩
    ·exact .inl h
    ·exact .inr ⟨g,cp,cur,a1,by omega,a3⟩⟩
  ·have h1:=Boxed.new (w1.alloc (.cells #[.slice (some ⟨w.heap.size+1,0,none⟩) 0 m] 88)) 26 (.slice (some ⟨b,off,none⟩) N cap)
   rw[World.size_alloc] at h1
   exact h1.alloc _
  ·have h1:=Boxed.new ((w1.alloc (.cells #[.slice (some ⟨w.heap.size+1,0,none⟩) 0 m] 88)).alloc (.cells #[.slice (some ⟨b,off,none⟩) N cap] 26)) 3 (.int .i64 56)
   rw[World.size_alloc,World.size_alloc] at h1
   exact h1
  ·simp only[Value.ownBlock];intro e;have:=Option.some.inj e;omega
  ·simp at hsz;omega
 have HI0:Hid (CutI w n m xs w1.heap.size b off N cap [] (((w1.alloc (.cells #[.slice (some ⟨w.heap.size+1,0,none⟩) 0 m] 88)).alloc (.cells #[.slice (some ⟨b,off,none⟩) N cap] 26)).alloc (.cells #[.int .i64 56] 3)) (.slice (some ⟨w.heap.size+1,0,none⟩) 0 m) []):=I0
 clear I0 hmk HR HG
 generalize w1.heap.size=M at *
 generalize ((w1.alloc (.cells #[.slice (some ⟨w.heap.size+1,0,none⟩) 0 m] 88)).alloc (.cells #[.slice (some ⟨b,off,none⟩) N cap] 26)).alloc (.cells #[.int .i64 56] 3)=W0 at *
 have hWs:w.heap.size<=W0.heap.size:=HI0.out.gr.size
 refine wpIn_rangeFunc_ownG rfl (by decide) (gf:=89) (lb:=#[.pointer (some ⟨M+1,0,none⟩),.pointer (some ⟨M+2,0,none⟩)]) rfl trivial (enters_of Tryz.func89 (by kernel_rfl) rfl)
  (chunk_stops 4 (by decide) (M+1) (M+2) b off N cap m HN.out.1 HN.out.2.2.2.1 HN.out.2.2.2.2 W0 HI0.out.bs HI0.out.bn)
  (fun h k=>⟨k.1.trans h.1,k.2.trans h.2⟩) (fun W l o o' hl h _ _=>⟨World.putObj_heap_other (by have:=HI0.out.bs.lt;omega),World.putObj_heap_other (by have:=HI0.out.bn.lt;omega)⟩) (Below.refl _ _) (fun _=>rfl)
  (fun pre W=>∃ dv us,CutI w n m xs M b off N cap pre W dv us) (fun _ _ _=>False)
  (CutI.own w n m xs M b off N cap _ hWs) (fun _ _ _ _ _ hs _ _=>hs) ⟨_,_,HI0.out⟩
  (fun x=>{ tmps:=#[.int .u64 (n:Int),.slice (some ⟨b,off,none⟩) N cap,.pointer (some ⟨w.heap.size,0,none⟩),undef,.slice none 0 0,.pointer (some ⟨M,0,none⟩),.slice (some ⟨b,off+56 * cl m x,none⟩) 56 56,undef,undef,
    .slice (some ⟨b,off,none⟩) N cap,.int .i64 (N:Int),.int .i64 (m:Int),.slice (some ⟨w.heap.size+1,0,none⟩) 0 m,.slice (some ⟨b,off,none⟩) N cap,
    .func (.func 89) #[] #[.pointer (some ⟨M+1,0,none⟩),.pointer (some ⟨M+1+1,0,none⟩)],.slice (some ⟨b,off+56 * cl m x,none⟩) 56 56,undef,undef,undef,undef,undef,undef,undef,undef,undef,undef,undef],defers:=[] }) ?assign ?body ?done ?stop
 case assign =>
  intro l x W K hK
  dsimp only[encL_c]
  gi_wp2
  exact hK
 case body =>
  rintro l pre x W ⟨dv,us,C⟩ hlen
  obtain⟨i0,hi,hz0,hz1,hz2⟩:=info_parts Tryz.info22
  have hd:1<=5 - 1 - 1:=by decide
  have cN:=C.num.cell
  have HC:Hid (CutI w n m xs M b off N cap pre W dv us):=C
  have hxm:=cl_lt (x:=x) HN.out.2.2.1
  have VL:Hid (Vec W (.slice (some ⟨b,off+56 * cl m x,none⟩) 56 56) (CM.ld xs (cl m x))):=by
   have h1:=((HV.out.keep C.gr).tail_a (n:=56 * cl m x) (by have:=HN.out;omega)).cut (n:=56) (by rw[List.length_drop];have:=HN.out;omega)
   exact h1.room (Nat.le_refl _) (by decide)
  have LL:Hid ((CM.ld xs (cl m x)).length<=56/\(us.length+1) * 24<=140737488351232/\w.heap.size<=W.heap.size):=⟨by rw[CM.ld_len (by have:=HN.out;omega)];exact Nat.le_refl _,by
   have h1:=C.mat.same
   simp only[rowsOf,List.length_map] at h1
   have:=HN.out
   omega,C.gr.size⟩
  clear C hxm
  gi_wp2_with (first
   | (refine⟨trivial,?_⟩;gi_at_call 96;refine (CallsIn.inRound l (callsIn_wide.2 (put_yes (n:=n) VL.out LL.out.1))).mono ?_;rintro e w4 ⟨p,rfl,op,g4⟩;have HO:Hid (Arr 78 w.heap.size w4 (.slice p 64 64) (SM.sec n (CM.ld xs (cl m x)))):=op.down LL.out.2.2;have C4:Hid (CutI w n m xs M b off N cap pre w4 dv us):=HC.out.kept g4 (by simp);have G4:Hid (W.grownBy w4 none):=g4;have cM:=C4.out.made.cell;clear op g4)
   | (gi_at_builtin;refine wpListIn_append_own_at _ rfl _ _ 88 rfl w.heap.size 26 i0 (.slice none 0 0) 1 24 Tryz.underlying88 hi hz0 hz1 hz2 rfl (by decide) dv us.length us rfl (C4.out.kept (World.grownBy_alloc w4 (.cells #[.slice p 64 64] 26) none) (by simp)).mat.row ⟨w4.heap.size,0,none⟩ 1 1 [.slice p 64 64] rfl rfl (cell_one_new _ _ _) (by simp[Value.oneCell']) (by have:=LL.out.2.1;unfold maxLen;omega) (by have:=LL.out.2.1;omega) (by have:=LL.out.2.2;have:=G4.out.size;simp;omega) ?_;intro v' w5 r5 g5 hz5 at5;obtain⟨g',cap',rfl⟩:=ownsRow_succ r5;clear hz5
      obtain⟨k1,k2,k3⟩:=CutI.more (x:=x) (C4.out.kept (World.grownBy_alloc w4 (.cells #[.slice p 64 64] 26) none) (by simp)) (HO.out.keep (World.grownBy_alloc w4 (.cells #[.slice p 64 64] 26) none)) LL.out.2.1 r5 g5 at5
      have K2:Hid (CutI w n m xs M b off N cap (pre++[x]) (w5.setCell ⟨M,0,none⟩ (.slice (some ⟨g',0,none⟩) (us.length+1) cap')) (.slice (some ⟨g',0,none⟩) (us.length+1) cap') (us++[.slice p 64 64])):=k2
      have K3:Hid (KeepsOthers W (w5.setCell ⟨M,0,none⟩ (.slice (some ⟨g',0,none⟩) (us.length+1) cap'))):=((KeepsOthers.of_grownBy G4.out (fun j o e _=>by cases e)).trans (KeepsOthers.alloc _ _)).trans k3
      have c5:=k1.cell
      have f5:=k1.frozen
      clear r5 g5 at5 k1 k2 k3))
  exact⟨K3.out.from _,⟨K2.out.bs.trans HC.out.bs.symm,K2.out.bn.trans HC.out.bn.symm⟩,_,_,K2.out⟩
 case done =>
  rintro D ys W hD rfl ⟨dv,us,C⟩ hK
  have cM:=C.made.cell
  have HC:Hid (CutI w n m xs M b off N cap (List.range m) W dv us):=C
  have HD:Hid (w.heap.size<=D):=Nat.le_trans hWs hD
  have HK:Hid (W.heap[D]?=some (.deferred (some []))):=hK
  clear C
  gi_wp2
  refine⟨by simp,.inl ⟨_,_,rfl,run_takeDeferred HK.out,?_⟩⟩
  have gp:=grownBy_putObj' W D (.deferred none)
  refine⟨_,results_tmp rfl _ _ _,_,us,rfl,?_,grown_new HC.out.gr gp (fun i e=>by have:=Option.some.inj e;have:=HD.out;omega)⟩
  rw[<- rowsOf_all]
  exact (HC.out.kept gp (fun r e=>by have:=Option.some.inj e;subst this;exact⟨HD.out,_,HK.out,rfl⟩)).mat
 case stop =>
  rintro D c pre W _ _ h _
  exact h.elim
end Go.Proofs.YtlklmhojadlncaaGreat
namespace Go.Proofs.YtlklmhojadlncaaGreat
open Go.RowKit
structure Tak (w0:World) (A D:Nat) (w:World) (a:Nat) (dv:Value) (cur:List Nat):Prop where
 ca:Boxed w A 36 (.int .u64 (a:Int))
 cd:Boxed w D 26 dv
 own:Own w0.heap.size w dv cur
 lA:w0.heap.size<=A
 lD:w0.heap.size<=D
 gr:w0.grownBy w none
theorem Own.notBox {B D:Nat} {w:World} {v u:Value} {xs:List Nat} {T:TypeId} (hT:T ≠ 5) (h:Own B w v xs) (hb:Boxed w D T u):v.ownBlock=none\/v.ownBlock ≠ some D:=by
 rcases h.row.2 with ⟨rfl,_⟩ | ⟨g,cap,cur,rfl,_,hg,_⟩
 ·exact .inl rfl
 ·refine .inr fun e=>?_
  obtain rfl:g=D:=by simpa [Value.ownBlock] using e
  rw[show w.heap[g]?=_ from hb] at hg
  simp at hg
  exact hT hg.2
theorem Tak.keep {w0 w w':World} {A D a:Nat} {dv:Value} {cur:List Nat} (h:Tak w0 A D w a dv cur) (g:w.grownBy w' none):Tak w0 A D w' a dv cur :=
 ⟨h.ca.kept g (by simp),h.cd.kept g (by simp),h.own.keep g,h.lA,h.lD,grown_trans h.gr g⟩
theorem Tak.ne {w0 w:World} {A D a:Nat} {dv:Value} {cur:List Nat} (h:Tak w0 A D w a dv cur):A ≠ D:=fun e=>by
 have h1:=h.ca
 have h2:=h.cd
 subst e
 have h3:=(show w.heap[A]?=_ from h1).symm.trans (show w.heap[A]?=_ from h2)
 simp at h3
theorem Tak.setA {w0 w:World} {A D a:Nat} {dv:Value} {cur:List Nat} (h:Tak w0 A D w a dv cur) (n:Nat):Tak w0 A D (w.setCell ⟨A,0,none⟩ (.int .u64 (n:Int))) n dv cur :=
 ⟨h.ca.set _,h.cd.kept (grownBy_setCell' w A _) (fun e=>h.ne (Option.some.inj e).symm),h.own.kept (grownBy_setCell' w A _) (h.own.notBox (by decide) h.ca),h.lA,h.lD,grown_new h.gr (grownBy_setCell' w A _) (fun i e=>by have:=Option.some.inj e;have:=h.lA;omega)⟩
theorem Tak.grow {w0 w w':World} {A D a:Nat} {dv:Value} {cur:List Nat} (h:Tak w0 A D w a dv cur) (g:w.grownBy w' dv.ownBlock) :
 Boxed w' A 36 (.int .u64 (a:Int))/\Boxed w' D 26 dv/\w0.grownBy w' none :=
 ⟨h.ca.kept g (fun e=>by rcases h.own.notBox (by decide) h.ca with h1 | h1 <;> simp_all),h.cd.kept g (fun e=>by rcases h.own.notBox (by decide) h.cd with h1 | h1 <;> simp_all),grown_new h.gr g h.own.lo⟩
theorem Tak.setD {w0 w':World} {A D a:Nat} {dv dv':Value} {cur':List Nat} (lA:w0.heap.size<=A) (lD:w0.heap.size<=D) (ne:A ≠ D) (o:Own w0.heap.size w' dv' cur') (hA:Boxed w' A 36 (.int .u64 (a:Int))) (hD:Boxed w' D 26 dv) (gr:w0.grownBy w' none) :
 Tak w0 A D (w'.setCell ⟨D,0,none⟩ dv') a dv' cur' :=
 ⟨hA.kept (grownBy_setCell' w' D _) (fun e=>ne (Option.some.inj e)),hD.set _,o.kept (grownBy_setCell' w' D _) (o.notBox (by decide) hD),lA,lD,grown_new gr (grownBy_setCell' w' D _) (fun i e=>by have:=Option.some.inj e;omega)⟩
set_option maxHeartbeats 1600000 in
theorem tk_yes {w0 w:World} {A D a n B:Nat} {dv v:Value} {cur ld:List Nat} (T:Tak w0 A D w a dv cur) (hv:Own B w v ld) (hl:cur.length+ld.length<=140737488351232) (hn:n ≠ 0) (ha:a=0\/a=n) :
 Calls Tryz.prog 78 #[.int .u64 (n:Int),v,.pointer (some ⟨A,0,none⟩),.pointer (some ⟨D,0,none⟩)] w fun e w'=>e=.returned (.bool true)/\∃ dv',Tak w0 A D w' n dv' (cur++ld):=by
 have hn0:((n:Int) != 0)=true:=neb_yes (b:=0) hn
 have hnn:((n:Int)==(n:Int))=true:=eqb_yes rfl
 have cA:=T.ca.cell
 have fA:=T.ca.frozen
 obtain⟨dp,dn,dc,rfl,hd0⟩:=T.own.vec.opened
 clear hd0
 have LL:Hid (w0.heap.size<=A/\w0.heap.size<=D/\A ≠ D/\cur.length+ld.length<=140737488351232):=⟨T.lA,T.lD,T.ne,hl⟩
 by_cases h0:a=0
 ·have i0:((a:Int)==0)=true:=eqb_yes (b:=0) h0
  have T1:Hid (Tak w0 A D (w.setCell ⟨A,0,none⟩ (.int .u64 (n:Int))) n (.slice dp dn dc) cur):=T.setA n
  have HV:Hid (Vec (w.setCell ⟨A,0,none⟩ (.int .u64 (n:Int))) v ld):=(hv.kept (grownBy_setCell' w A _) (hv.notBox (by decide) T.ca)).vec
  have cD:=T1.out.cd.cell
  have fD:=T1.out.cd.frozen
  clear T hv hl hn ha h0
  go_enter Tryz.func78,Tryz.ntmps78
  go_wp2_with (at_builtin;refine wpList_append_vec rfl _ _ rfl _ _ rfl rfl T1.out.own HV.out T1.out.gr.size LL.out.2.2.2 ?_;intro v2 w2 o2 g2;obtain⟨k1,k2,k3⟩:=T1.out.grow g2;have T2:Hid (Tak w0 A D (w2.setCell ⟨D,0,none⟩ v2) n v2 (cur++ld)):=Tak.setD LL.out.1 LL.out.2.1 LL.out.2.2.1 o2 k1 k2 k3;obtain⟨q2,n2,c2,rfl,hz2⟩:=o2.vec.opened;clear hz2;have kc:=k2.cell;have kf:=k2.frozen;have ka:=T2.out.ca.cell;clear k1 k2 k3 o2 g2)
  go_ret
  exact⟨rfl,_,T2.out⟩
 ·have i0:((a:Int)==0)=false:=eqb_no (b:=0) h0
  obtain rfl:a=n:=by omega
  have T1:Hid (Tak w0 A D w a (.slice dp dn dc) cur):=T
  have HV:Hid (Vec w v ld):=hv.vec
  have cD:=T1.out.cd.cell
  have fD:=T1.out.cd.frozen
  clear T hv hl hn ha h0
  go_enter Tryz.func78,Tryz.ntmps78
  go_wp2_with (at_builtin;refine wpList_append_vec rfl _ _ rfl _ _ rfl rfl T1.out.own HV.out T1.out.gr.size LL.out.2.2.2 ?_;intro v2 w2 o2 g2;obtain⟨k1,k2,k3⟩:=T1.out.grow g2;have T2:Hid (Tak w0 A D (w2.setCell ⟨D,0,none⟩ v2) a v2 (cur++ld)):=Tak.setD LL.out.1 LL.out.2.1 LL.out.2.2.1 o2 k1 k2 k3;obtain⟨q2,n2,c2,rfl,hz2⟩:=o2.vec.opened;clear hz2;have kc:=k2.cell;have kf:=k2.frozen;have ka:=T2.out.ca.cell;clear k1 k2 k3 o2 g2)
  go_ret
  exact⟨rfl,_,T2.out⟩
set_option maxHeartbeats 1600000 in
theorem tk_no {w0 w:World} {A D a n B:Nat} {dv v:Value} {cur ld:List Nat} (T:Tak w0 A D w a dv cur) (hv:Own B w v ld) (hl:cur.length+ld.length<=140737488351232) (hn:n=0\/(a ≠ 0/\a ≠ n)) :
 Calls Tryz.prog 78 #[.int .u64 (n:Int),v,.pointer (some ⟨A,0,none⟩),.pointer (some ⟨D,0,none⟩)] w fun e w'=>e=.returned (.bool false)/\w0.grownBy w' none:=by
 have cA:=T.ca.cell
 have fA:=T.ca.frozen
 obtain⟨dp,dn,dc,rfl,hd0⟩:=T.own.vec.opened
 clear hd0
 have LL:Hid (w0.heap.size<=A/\w0.heap.size<=D/\A ≠ D/\cur.length+ld.length<=140737488351232):=⟨T.lA,T.lD,T.ne,hl⟩
 by_cases h0:a=0
 ·have hz:n=0:=by omega
  have i0:((a:Int)==0)=true:=eqb_yes (b:=0) h0
  have i1:((n:Int) != 0)=false:=neb_no (b:=0) hz
  have T1:Hid (Tak w0 A D (w.setCell ⟨A,0,none⟩ (.int .u64 (n:Int))) n (.slice dp dn dc) cur):=T.setA n
  have HV:Hid (Vec (w.setCell ⟨A,0,none⟩ (.int .u64 (n:Int))) v ld):=(hv.kept (grownBy_setCell' w A _) (hv.notBox (by decide) T.ca)).vec
  have cD:=T1.out.cd.cell
  have fD:=T1.out.cd.frozen
  clear T hv hl hn h0 hz
  go_enter Tryz.func78,Tryz.ntmps78
  go_wp2_with (at_builtin;refine wpList_append_vec rfl _ _ rfl _ _ rfl rfl T1.out.own HV.out T1.out.gr.size LL.out.2.2.2 ?_;intro v2 w2 o2 g2;obtain⟨k1,k2,k3⟩:=T1.out.grow g2;have T2:Hid (Tak w0 A D (w2.setCell ⟨D,0,none⟩ v2) n v2 (cur++ld)):=Tak.setD LL.out.1 LL.out.2.1 LL.out.2.2.1 o2 k1 k2 k3;obtain⟨q2,n2,c2,rfl,hz2⟩:=o2.vec.opened;clear hz2;have kc:=k2.cell;have kf:=k2.frozen;have ka:=T2.out.ca.cell;clear k1 k2 k3 o2 g2)
  go_ret
  exact⟨rfl,T2.out.gr⟩
 ·have i0:((a:Int)==0)=false:=eqb_no (b:=0) h0
  have T1:Hid (Tak w0 A D w a (.slice dp dn dc) cur):=T
  have HV:Hid (Vec w v ld):=hv.vec
  have cD:=T1.out.cd.cell
  have fD:=T1.out.cd.frozen
  by_cases hz:n=0
  ·have i1:((n:Int) != 0)=false:=neb_no (b:=0) hz
   clear T hv hl hn h0 hz
   go_enter Tryz.func78,Tryz.ntmps78
   go_wp2_with (at_builtin;refine wpList_append_vec rfl _ _ rfl _ _ rfl rfl T1.out.own HV.out T1.out.gr.size LL.out.2.2.2 ?_;intro v2 w2 o2 g2;obtain⟨k1,k2,k3⟩:=T1.out.grow g2;have T2:Hid (Tak w0 A D (w2.setCell ⟨D,0,none⟩ v2) a v2 (cur++ld)):=Tak.setD LL.out.1 LL.out.2.1 LL.out.2.2.1 o2 k1 k2 k3;obtain⟨q2,n2,c2,rfl,hz2⟩:=o2.vec.opened;clear hz2;have kc:=k2.cell;have kf:=k2.frozen;have ka:=T2.out.ca.cell;clear k1 k2 k3 o2 g2)
   go_ret
   exact⟨rfl,T2.out.gr⟩
  ·have i1:((n:Int) != 0)=true:=neb_yes (b:=0) hz
   have i2:((n:Int)==(a:Int))=false:=eqb_no (by omega)
   clear T hv hl hn h0 hz
   go_enter Tryz.func78,Tryz.ntmps78
   go_wp2_with (at_builtin;refine wpList_append_vec rfl _ _ rfl _ _ rfl rfl T1.out.own HV.out T1.out.gr.size LL.out.2.2.2 ?_;intro v2 w2 o2 g2;obtain⟨k1,k2,k3⟩:=T1.out.grow g2;have T2:Hid (Tak w0 A D (w2.setCell ⟨D,0,none⟩ v2) a v2 (cur++ld)):=Tak.setD LL.out.1 LL.out.2.1 LL.out.2.2.1 o2 k1 k2 k3;obtain⟨q2,n2,c2,rfl,hz2⟩:=o2.vec.opened;clear hz2;have kc:=k2.cell;have kf:=k2.frozen;have ka:=T2.out.ca.cell;clear k1 k2 k3 o2 g2)
   go_ret
   exact⟨rfl,T2.out.gr⟩
end Go.Proofs.YtlklmhojadlncaaGreat
