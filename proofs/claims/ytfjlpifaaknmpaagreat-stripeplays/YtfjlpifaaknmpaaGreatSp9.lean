/- Packed: Rows7, RTake7, New8, Copy6, RRep6. -/
import Derived.Laws.MakeOwn
import Derived.Test.YtfjlpifaaknmpaaGreatSp8
set_option maxRecDepth 100000
namespace Go.Proofs.YtfjlpifaaknmpaaGreat
open Go.RowKit
theorem mat_n {w:World} {p:Option Addr} {n c:Nat} {us:List Value} {X:List (List Nat)} (h:Mat w (.slice p n c) us X):us.length = n /\ X.length = n:=by
 have hs:=h.same
 obtain ⟨p',n',c',e',h'⟩:=h.row.opened
 injection e' with e1 e2 e3
 omega
theorem Mat.nil (w:World):Mat w (.slice none 0 0) [] []:=⟨⟨by simp,none,0,rfl,Nat.le_refl _,by decide,fun h=>absurd rfl h⟩,rfl,by simp⟩
structure RMat (T:TypeId) (B:Nat) (w:World) (v:Value) (us:List Value) (X:List (List Nat)):Prop where
 len:us.length * 24 <= 140737488351232
 row:w.ownsRow B 40 1 v us.length us
 same:us.length = X.length
 vec:∀ j,j < X.length -> Arr T B w (us.getD j undef) (X.getD j [])
theorem RMat.nil (T:TypeId) (B:Nat) (w:World):RMat T B w (.slice none 0 0) [] []:=⟨by simp,World.ownsRow_nil w B 40 1,rfl,by simp⟩
theorem RMat.lo {T:TypeId} {B:Nat} {w:World} {v:Value} {us:List Value} {X:List (List Nat)} (h:RMat T B w v us X):Lo B v:=fun k hk=>(h.row.lt k hk).1
theorem RMat.keep {T:TypeId} {B:Nat} {w w':World} {v:Value} {us:List Value} {X:List (List Nat)} (h:RMat T B w v us X) (g:w.grownBy w' none):RMat T B w' v us X :=
 ⟨h.len,h.row.kept g (by cases h:v.ownBlock <;> simp),h.same,fun j hj=>(h.vec j hj).keep g⟩
theorem RMat.kept {T:TypeId} {B:Nat} {w w':World} {v:Value} {us:List Value} {X:List (List Nat)} {row:Option Nat} (h:RMat T B w v us X) (g:w.grownBy w' row) (hr:∀ r,row = some r -> ∀ c f,w.heap[r]? ≠ some (.cells c 40 f) /\ w.heap[r]? ≠ some (.cells c T f)):RMat T B w' v us X:=by
 refine ⟨h.len,h.row.kept g ?_,h.same,fun j hj=>(h.vec j hj).kept g ?_⟩
 ·rcases h.row.2 with ⟨e,_⟩ | ⟨b,cap,cur,e,_,hg,_⟩
  ·subst e;exact .inl rfl
  ·subst e
   exact .inr fun e=>(hr b (by simpa [Value.ownBlock] using e.symm) cur (0,0)).1 hg
 ·rcases (h.vec j hj).row.2 with ⟨e,_⟩ | ⟨b,cap,cur,e,_,hg,_⟩
  ·rw [e];exact .inl rfl
  ·rw [e]
   exact .inr fun e=>(hr b (by simpa [Value.ownBlock] using e.symm) cur (0,0)).2 hg
theorem RMat.apart {T T':TypeId} (hT:T' ≠ 40) {B B':Nat} {w:World} {v u:Value} {us:List Value} {X:List (List Nat)} {xs:List Nat} (h:RMat T B w v us X) (hu:Arr T' B' w u xs):u.ownBlock = none \/ u.ownBlock ≠ v.ownBlock:=by
 rcases hu.row.2 with ⟨rfl,_⟩ | ⟨g,cap,cur,rfl,_,hg,_⟩
 ·exact .inl rfl
 ·rcases h.row.2 with ⟨rfl,_⟩ | ⟨g',cap',cur',rfl,_,hg',_⟩
  ·exact .inr (by simp [Value.ownBlock])
  ·refine .inr fun e=>?_
   simp only [Value.ownBlock,Option.some.injEq] at e
   subst e
   rw [hg] at hg'
   simp at hg'
   exact hT hg'.2
theorem RMat.more {T:TypeId} (hT:T ≠ 40) {B:Nat} {w w2:World} {v v' u:Value} {us:List Value} {X:List (List Nat)} {xs:List Nat} (h:RMat T B w v us X) (hu:Arr T B w u xs)
 (hl:(us.length + 1) * 24 <= 140737488351232) (hr:w2.ownsRow B 40 1 v' (us.length + 1) (us ++ [u])) (hg:w.grownBy w2 v.ownBlock):RMat T B w2 v' (us ++ [u]) (X ++ [xs]):=by
 refine ⟨by simpa using hl,by simpa using hr,by simp [h.same],fun j hj=>?_⟩
 have hs:=h.same
 by_cases hj':j < X.length
 ·have e1:(us ++ [u]).getD j undef = us.getD j undef:=by simp [List.getD,List.getElem?_append,show j < us.length from by omega]
  have e2:(X ++ [xs]).getD j [] = X.getD j []:=by simp [List.getD,List.getElem?_append,hj']
  rw [e1,e2]
  exact (h.vec j hj').kept hg (h.apart hT (h.vec j hj'))
 ·have hj2:j = X.length:=by simp at hj;omega
  have e1:(us ++ [u]).getD j undef = u:=by simp [List.getD,hj2,<- hs]
  have e2:(X ++ [xs]).getD j [] = xs:=by simp [List.getD,hj2]
  rw [e1,e2]
  exact hu.kept hg (h.apart hT hu)
theorem RMat.mat {T:TypeId} {B:Nat} {w:World} {v:Value} {us:List Value} {X:List (List Nat)} (h:RMat T B w v us X):Mat w v us X:=by
 refine ⟨⟨h.len,?_⟩,h.same,fun j hj=>(h.vec j hj).vec⟩
 have hr:=h.row
 rcases h.row.2 with ⟨rfl,hn⟩ | ⟨g,cap,cur,rfl,hb,hg,hc,hm,hs,ht⟩
 ·have:us = []:=List.eq_nil_of_length_eq_zero hn
  subst this
  exact ⟨none,0,rfl,Nat.le_refl _,by decide,fun h=>absurd rfl h⟩
 ·refine ⟨some ⟨g,0,none⟩,cap,rfl,hc,hm,fun _=>⟨g,0,rfl,fun j hj=>?_⟩⟩
  have:=hr.cells (g:=g) rfl j (us.getD j undef) (by simp [List.getD,hj])
  rwa [add_at] at this
theorem run_append_row {B:Nat} {w:World} {dv:Value} {us:List Value} (hd:w.ownsRow B 40 1 dv us.length us) (ad:Addr) {u:Value} (hu:w.cell? ad = some u) (h1:u.oneCell' = true) (hB:B <= w.heap.size) (hl:(us.length + 1) * 24 <= 140737488351232) (ty:TypeId) :
 ∃ v' w',(Builtin.append_ #[87,87] ty #[dv,.slice (some ad) 1 1]).run Tryz.prog w = .ok v' w' /\ w'.ownsRow B 40 1 v' (us.length + 1) (us ++ [u]) /\ w.grownBy w' dv.ownBlock /\ (v'.ownBlock = dv.ownBlock \/ v'.ownBlock = some w.heap.size):=by
 obtain ⟨i0,hi,hz0,hz1,hz2⟩:=info_parts Tryz.info22
 obtain ⟨v',w',r1,r2,r3,_,r5⟩:=run_append_own_at (P:=Tryz.prog) w B 87 ty 40 i0 (.slice none 0 0) 1 24 Tryz.underlying87 hi hz0 hz1 hz2 rfl (by decide) dv us.length us hd ad 1 1 [u] (by simp)
  (fun j v hj=>by
    match j,hj with
    | 0,hj=>simp at hj;subst hj;simpa [Addr.add] using hu)
  (fun v hv=>by simp at hv;subst hv;exact h1) (by unfold maxLen;omega) (by omega) hB
 exact ⟨v',w',r1,by simpa using r2,r3,r5⟩
theorem wpList_append_row {w:World} {ops:Array Oper} {rest:List Oper} {o:Oper} {a:Act} {Q:Exit -> Act -> World -> Prop} (hgd:o.guard = none) (d s:Operand)
 (ho:o.op = .call { callee:=.builtin .append,args:=#[d,s],argTypes:=#[87,87] }) (dv:Value) (ad:Addr) (hed:a.eval d = dv) (hes:a.eval s = .slice (some ad) 1 1)
 {B:Nat} {us:List Value} {u:Value} (hd:w.ownsRow B 40 1 dv us.length us) (hu:w.cell? ad = some u) (h1:u.oneCell' = true) (hB:B <= w.heap.size) (hl:(us.length + 1) * 24 <= 140737488351232)
 (h:∀ v' w',w'.ownsRow B 40 1 v' (us.length + 1) (us ++ [u]) -> w.grownBy w' dv.ownBlock -> (v'.ownBlock = dv.ownBlock \/ v'.ownBlock = some w.heap.size) -> wpList Tryz.prog ops Q rest (a.put o.dst v') w'):wpList Tryz.prog ops Q (o :: rest) a w:=by
 refine wpList_plain hgd fun K hK=>?_
 obtain ⟨v',w',hrun,r1,r2,r3⟩:=run_append_row hd ad hu h1 hB hl o.type
 unfold Oper.wp
 simp [execOp,ho,resolve,invoke,builtin,hed,hes,hrun,Result.andThen]
 exact hK _ _ (h _ _ r1 r2 r3)
theorem step_append_row {ops:Array Oper} {o:Oper} {a:Act} {w:World} {K:Act -> World -> Prop} {Q:Exit -> Act -> World -> Prop} {E:Prop} (hgd:o.guard = none) (d s:Operand)
 (ho:o.op = .call { callee:=.builtin .append,args:=#[d,s],argTypes:=#[87,87] }) (dv:Value) (ad:Addr) (hed:a.eval d = dv) (hes:a.eval s = .slice (some ad) 1 1)
 {B:Nat} {us:List Value} {u:Value} (hd:w.ownsRow B 40 1 dv us.length us) (hu:w.cell? ad = some u) (h1:u.oneCell' = true) (hB:B <= w.heap.size) (hl:(us.length + 1) * 24 <= 140737488351232)
 (h:∀ v' w',w'.ownsRow B 40 1 v' (us.length + 1) (us ++ [u]) -> w.grownBy w' dv.ownBlock -> (v'.ownBlock = dv.ownBlock \/ v'.ownBlock = some w.heap.size) -> K (a.put o.dst v') w') :
 if Region.wanted o (yielded ops a.tmps) = true then Oper.wp Tryz.prog o a w K Q else E:=by
 have hw:Region.wanted o (yielded ops a.tmps) = true:=by simp [Region.wanted,hgd]
 rw [if_pos hw]
 obtain ⟨v',w',hrun,r1,r2,r3⟩:=run_append_row hd ad hu h1 hB hl o.type
 unfold Oper.wp
 simp [execOp,ho,resolve,invoke,builtin,hed,hes,hrun,Result.andThen]
 exact h _ _ r1 r2 r3
theorem run_make_room (W:World) {n:Nat} (hn:n <= 140737488351232):∃ w',(Instr.makeSlice 40 (.int .i64 0) (.int .i64 (n:Int))).run Tryz.prog W = .ok (.slice (some ⟨W.heap.size,0,none⟩) 0 n) w' /\ Own W.heap.size w' (.slice (some ⟨W.heap.size,0,none⟩) 0 n) [] /\ W.grownBy w' none:=by
 obtain ⟨i0,hi,hz0,hz1,hz2⟩:=info_parts Tryz.info5
 obtain ⟨w',h1,h2,h3⟩:=run_make_own (P:=Tryz.prog) W W.heap.size 40 5 i0 (.int .u8 0) 1 Tryz.underlying40 hi hz0 hz1 .i64 .i64 n (by rw [hz2];omega) (by unfold maxLen;omega) (Nat.le_refl _)
 exact ⟨w',h1,⟨by simp,by simp,by simpa using h2⟩,h3⟩
theorem wpList_make_room {w:World} {ops:Array Oper} {rest:List Oper} {o:Oper} {a:Act} {Q:Exit -> Act -> World -> Prop} (hgd:o.guard = none) (l c:Operand)
 (ho:o.op = Op.makeSlice 40 l c) (n:Nat) (hel:a.eval l = .int .i64 0) (hec:a.eval c = .int .i64 (n:Int)) (hn:n <= 140737488351232)
 (h:∀ w1,Own w.heap.size w1 (.slice (some ⟨w.heap.size,0,none⟩) 0 n) [] -> w.grownBy w1 none -> wpList Tryz.prog ops Q rest (a.put o.dst (.slice (some ⟨w.heap.size,0,none⟩) 0 n)) w1):wpList Tryz.prog ops Q (o :: rest) a w:=by
 refine wpList_plain hgd fun K hK=>?_
 obtain ⟨w',hrun,r1,r2⟩:=run_make_room w hn
 unfold Oper.wp
 simp [execOp,ho,hel,hec,hrun,Result.andThen]
 exact hK _ _ (h _ r1 r2)
theorem run_make_rows0 (W:World) {n:Nat} (hn:n * 24 <= 140737488351232):∃ w',(Instr.makeSlice 87 (.int .i64 0) (.int .i64 (n:Int))).run Tryz.prog W = .ok (.slice (some ⟨W.heap.size,0,none⟩) 0 n) w' /\ w'.ownsRow W.heap.size 40 1 (.slice (some ⟨W.heap.size,0,none⟩) 0 n) 0 [] /\ W.grownBy w' none:=by
 obtain ⟨i0,hi,hz0,hz1,hz2⟩:=info_parts Tryz.info22
 exact run_make_own (P:=Tryz.prog) W W.heap.size 87 40 i0 (.slice none 0 0) 1 Tryz.underlying87 hi hz0 hz1 .i64 .i64 n (by rw [hz2];omega) (by unfold maxLen;omega) (Nat.le_refl _)
theorem eqb_no {a b:Nat} (h:a ≠ b):((a:Int) == (b:Int)) = false:=by simp;omega
theorem eqb_yes {a b:Nat} (h:a = b):((a:Int) == (b:Int)) = true:=by simp;omega
theorem neb_yes {a b:Nat} (h:a ≠ b):((a:Int) != (b:Int)) = true:=by simp;omega
theorem neb_no {a b:Nat} (h:a = b):((a:Int) != (b:Int)) = false:=by simp;omega
theorem yes_no_at {X:List (List Nat)} {k:Nat} (hk:k < X.length) (h:¬ CM.okTo X (k + 1)):CM.yes X = false:=by
 cases e:CM.yes X with
 | false=>rfl
 | true=>exact absurd (fun j hj=>(CM.yes_iff.1 e).2.2 j (by omega)) h
theorem tN_no {X:List (List Nat)} (h:CM.yes X = false):CM.tN X = 0:=by simp [CM.tN,h]
theorem tL_no {X:List (List Nat)} (h:CM.yes X = false):CM.tL X = []:=by simp [CM.tL,h]
def stAt (X:List (List Nat)) (k:Nat):Nat:=if k = 0 then 0 else SM.val (X.getD 0 []) 8
theorem okTo_more {X:List (List Nat)} {k:Nat} (h:CM.okTo X k) (h1:(X.getD k []).length = 64) (h2:SM.val (X.getD k []) 8 ≠ 0) (h3:k = 0 \/ SM.val (X.getD k []) 8 = SM.val (X.getD 0 []) 8):CM.okTo X (k + 1):=fun j hj=>by
 by_cases e:j = k
 ·subst e
  refine ⟨h1,?_,h2⟩
  rcases h3 with h3 | h3
  ·subst h3;rfl
  ·exact h3
 ·exact h j (by omega)
theorem stAt_next {X:List (List Nat)} {k:Nat} (h3:k = 0 \/ SM.val (X.getD k []) 8 = SM.val (X.getD 0 []) 8):stAt X (k + 1) = SM.val (X.getD k []) 8:=by
 unfold stAt
 rw [if_neg (by omega)]
 rcases h3 with h3 | h3
 ·subst h3;rfl
 ·exact h3.symm
set_option maxHeartbeats 1600000 in
theorem refTake7 {w:World} {r:Value} {us:List Value} {X:List (List Nat)} (mr:Mat w r us X) :
 Calls Tryz.prog 109 #[r] w fun e w'=>∃ u,e = .returned (.tuple #[.int .u64 ((CM.tN X:Nat):Int),u,.bool (CM.yes X)]) /\ Own w.heap.size w' u (CM.tL X) /\ w.grownBy w' none:=by
 obtain ⟨q,N,cap,rfl,hN⟩:=mr.row.opened
 have hs:=mr.same
 have hNl:N <= 140737488351232:=by have:=mr.row.len;omega
 by_cases h0:N < 1
 ·have i1:(N:Int) < 1:=by omega
  have hy:CM.yes X = false:=by unfold CM.yes;rw [show decide (1 <= X.length) = false from decide_eq_false (by omega)];rfl
  rw [hy,tN_no hy,tL_no hy]
  clear h0 hN hs mr hy
  go_enter Tryz.func109,Tryz.ntmps109
  go_wp2
  go_ret3
  exact ⟨_,rfl,Own.nil _ _,World.grownBy.refl _ _⟩
 ·by_cases h1:64 < N
  ·have i1:¬ (N:Int) < 1:=by omega
   have i2:(64:Int) < (N:Int):=by omega
   have hy:CM.yes X = false:=by unfold CM.yes;rw [show decide (X.length <= 64) = false from decide_eq_false (by omega)];simp
   rw [hy,tN_no hy,tL_no hy]
   clear h0 h1 hN hs mr hy
   go_enter Tryz.func109,Tryz.ntmps109
   go_wp2
   go_ret3
   exact ⟨_,rfl,Own.nil _ _,World.grownBy.refl _ _⟩
  ·have i1:¬ (N:Int) < 1:=by omega
   have i2:¬ (64:Int) < (N:Int):=by omega
   have MR:Hid (Mat w (.slice q N cap) us X):=mr
   have HN:Hid (N = us.length /\ N = X.length /\ 1 <= N /\ N <= 64):=⟨hN,by omega,by omega,by omega⟩
   have hn64:N <= 64:=by omega
   clear hN hs mr h0 h1
   go_enter Tryz.func109,Tryz.ntmps109
   go_wp2_with fail
   go_loopw [5,6,7] (fun ts td ti wr=>∃ k:Nat,k <= N /\ ts = .int .u64 ((stAt X k:Nat):Int) /\ ti = .int .i64 k /\ Hid (CM.okTo X k) /\ Hid (Own w.heap.size wr td (CM.loads X k)) /\ Hid (w.grownBy wr none)) (fun _ _ ti _=>N - (intOf ti).toNat)
   case atStart=>exact ⟨0,by omega,rfl,rfl,fun j hj=>by omega,by rw [CM.loads_zero];exact Own.nil _ _,World.grownBy.refl _ _⟩
   case round =>
    obtain ⟨k,hk,rfl,rfl,OK,OD,GK⟩:=hrel
    by_cases hlt:k < N
    ·have i3:(k:Int) < (N:Int):=by omega
     have i4:(0:Int) <= (k:Int):=by omega
     obtain ⟨b,off,rfl,hr⟩:=(MR.out.keep GK.out).row.spot (k:=k) (by have:=HN.out;omega)
     obtain ⟨pk,nk,ck,ek,hnk⟩:=((MR.out.keep GK.out).vec k (by have:=HN.out;omega)).opened
     rw [ek] at hr
     have VX:Hid (Vec wr (.slice pk nk ck) (X.getD k [])):=by rw [<- ek];exact (MR.out.keep GK.out).vec k (by have:=HN.out;omega)
     clear ek hnk
     by_cases h64:(X.getD k []).length = 64
     ·have RT:=refTake_yes VX.out h64
      by_cases hz:SM.val (X.getD k []) 8 = 0
      ·have hy:CM.yes X = false:=yes_no_at (k:=k) (by have:=HN.out;omega) (fun h=>(h k (by omega)).2.2 hz)
       rw [hz] at RT
       have HY:Hid (CM.yes X = false):=hy
       have RT':Hid (Calls Tryz.prog 70 #[.slice pk nk ck] wr fun e w'=>∃ u,e = .returned (.tuple #[.int .u64 0,u,.int .i64 0]) /\ wr.grownBy w' none):=RT.mono fun e w' ⟨u,h1,_,h2⟩=>⟨u,h1,h2⟩
       clear RT hz hy h64
       go_wp2_with (go_at_call 70;refine RT'.out.mono ?_;rintro e w1 ⟨u,rfl,g1⟩)
       go_ret3
       rw [HY.out,tN_no HY.out,tL_no HY.out]
       exact ⟨_,rfl,Own.nil _ _,grown_trans GK.out g1⟩
      ·have hzb:(((SM.val (X.getD k []) 8:Nat):Int) == 0) = false:=eqb_no (b:=0) hz
       by_cases h3:k = 0 \/ SM.val (X.getD k []) 8 = SM.val (X.getD 0 []) 8
       ·have OK':Hid (CM.okTo X (k + 1)):=okTo_more OK.out h64 hz h3
        have SN:Hid (stAt X (k + 1) = SM.val (X.getD k []) 8):=stAt_next h3
        have HL:Hid (CM.loads X (k + 1) = CM.loads X k ++ (X.getD k []).drop 8):=CM.loads_succ X (k:=k) (by have:=HN.out;omega)
        have HLL:Hid ((CM.loads X k).length + ((X.getD k []).drop 8).length <= 140737488351232):=by
         show _ <= _
         rw [CM.loads_len (k:=k) (by have:=HN.out;omega) (fun j hj=>(OK.out j hj).1),List.length_drop,h64];omega
        have RT':Hid (Calls Tryz.prog 70 #[.slice pk nk ck] wr fun e w'=>∃ u,e = .returned (.tuple #[.int .u64 ((SM.val (X.getD k []) 8:Nat):Int),u,.int .i64 0]) /\ Own wr.heap.size w' u ((X.getD k []).drop 8) /\ wr.grownBy w' none):=RT
        have hd:0 < k -> (((SM.val (X.getD k []) 8:Nat):Int) != ((stAt X k:Nat):Int)) = false:=fun hk=>by
         unfold stAt
         rw [if_neg (by omega)]
         rcases h3 with h3 | h3
         ·omega
         ·rw [h3];simp
        clear RT hz h64 h3 OK VX
        generalize SM.val (X.getD k []) 8 = V at *
        generalize stAt X k = S at *
        generalize (X.getD k []).drop 8 = L at *
        generalize CM.loads X k = P at *
        by_cases hk0:0 < k
        ·have hd':=hd hk0
         have i5:(0:Int) < (k:Int):=by omega
         clear hd
         go_wp2_with (first
          | (go_at_call 70;refine RT'.out.mono ?_;rintro e w1 ⟨u,rfl,ou,g1⟩;have OU:Hid (Own wr.heap.size w1 u L):=ou;have OD1:Hid (Own w.heap.size w1 u6 P):=OD.out.keep g1;have G1:Hid (w.grownBy w1 none):=grown_trans GK.out g1;clear ou g1)
          | (at_builtin;refine wpList_append_vec rfl _ _ rfl _ _ rfl rfl OD1.out OU.out.vec G1.out.size HLL.out ?_;intro v2 w2 o2 g2;have O2:Hid (Own w.heap.size w2 v2 (P ++ L)):=o2;have G2:Hid (w.grownBy w2 none):=grown_new G1.out g2 (fun i e=>OD1.out.lo i e);clear o2 g2))
         go_roundw
         case rel=>exact ⟨k + 1,by omega,by rw [SN.out],by go_num,OK',by rw [HL.out];exact O2,G2⟩
         case measure=>simp [intOf];omega
        ·have i5:¬ (0:Int) < (k:Int):=by omega
         clear hd
         go_wp2_with (first
          | (go_at_call 70;refine RT'.out.mono ?_;rintro e w1 ⟨u,rfl,ou,g1⟩;have OU:Hid (Own wr.heap.size w1 u L):=ou;have OD1:Hid (Own w.heap.size w1 u6 P):=OD.out.keep g1;have G1:Hid (w.grownBy w1 none):=grown_trans GK.out g1;clear ou g1)
          | (at_builtin;refine wpList_append_vec rfl _ _ rfl _ _ rfl rfl OD1.out OU.out.vec G1.out.size HLL.out ?_;intro v2 w2 o2 g2;have O2:Hid (Own w.heap.size w2 v2 (P ++ L)):=o2;have G2:Hid (w.grownBy w2 none):=grown_new G1.out g2 (fun i e=>OD1.out.lo i e);clear o2 g2))
         go_roundw
         case rel=>exact ⟨k + 1,by omega,by rw [SN.out],by go_num,OK',by rw [HL.out];exact O2,G2⟩
         case measure=>simp [intOf];omega
       ·have hk0:0 < k:=by omega
        have hy:CM.yes X = false:=yes_no_at (k:=k) (by have:=HN.out;omega) (fun h=>h3 (.inr (h k (by omega)).2.1))
        have i5:(0:Int) < (k:Int):=by omega
        have hd:(((SM.val (X.getD k []) 8:Nat):Int) != ((stAt X k:Nat):Int)) = true:=by
         unfold stAt
         rw [if_neg (by omega)]
         exact neb_yes fun e=>h3 (.inr e)
        have HY:Hid (CM.yes X = false):=hy
        have RT':Hid (Calls Tryz.prog 70 #[.slice pk nk ck] wr fun e w'=>∃ u,e = .returned (.tuple #[.int .u64 ((SM.val (X.getD k []) 8:Nat):Int),u,.int .i64 0]) /\ wr.grownBy w' none):=RT.mono fun e w' ⟨u,h1,_,h2⟩=>⟨u,h1,h2⟩
        clear RT hz hy h64 h3 OK VX
        generalize SM.val (X.getD k []) 8 = V at *
        generalize stAt X k = S at *
        go_wp2_with (go_at_call 70;refine RT'.out.mono ?_;rintro e w1 ⟨u,rfl,g1⟩)
        go_ret3
        rw [HY.out,tN_no HY.out,tL_no HY.out]
        exact ⟨_,rfl,Own.nil _ _,grown_trans GK.out g1⟩
     ·have hy:CM.yes X = false:=yes_no_at (k:=k) (by have:=HN.out;omega) (fun h=>h64 (h k (by omega)).1)
      have HY:Hid (CM.yes X = false):=hy
      have hE:(takeE (X.getD k []) != 0) = true:=by
       unfold takeE
       rw [if_neg h64]
       split <;> decide
      have RT':Hid (Calls Tryz.prog 70 #[.slice pk nk ck] wr fun e w'=>∃ u,e = .returned (.tuple #[.int .u64 ((takeN (X.getD k []):Nat):Int),u,.int .i64 (takeE (X.getD k []))]) /\ wr.grownBy w' none):=(refTake_all VX.out).mono fun e w' ⟨u,h1,_,h2⟩=>⟨u,h1,h2⟩
      clear hy h64 VX
      generalize takeE (X.getD k []) = E at *
      generalize takeN (X.getD k []) = V at *
      go_wp2_with (go_at_call 70;refine RT'.out.mono ?_;rintro e w1 ⟨u,rfl,g1⟩)
      go_ret3
      rw [HY.out,tN_no HY.out,tL_no HY.out]
      exact ⟨_,rfl,Own.nil _ _,grown_trans GK.out g1⟩
    ·have hkN:k = X.length:=by have:=HN.out;omega
     subst hkN
     have hy:CM.yes X = true:=CM.yes_iff.2 ⟨by have:=HN.out;omega,by have:=HN.out;omega,OK.out⟩
     have HT:Hid (CM.yes X = true /\ CM.tN X = stAt X X.length /\ CM.tL X = CM.loads X X.length):=⟨hy,by unfold CM.tN stAt;rw [if_pos hy,if_neg (by have:=HN.out;omega)],by unfold CM.tL;rw [if_pos hy]⟩
     clear hy OK
     generalize stAt X X.length = S at *
     go_wp2
     go_ret3
     rw [HT.out.1,HT.out.2.1,HT.out.2.2]
     exact ⟨_,rfl,OD.out,GK.out⟩
set_option linter.unusedSimpArgs false
set_option linter.unusedVariables false
def SP.okNew (R:AM.Raw) (K N S f:Int):Bool:=mayI K N && (decide (1 <= S) && (decide (S <= 128) && (decide (0 <= f) && (decide ((R.C.length:Int) = N) && decide (f <= (R.n:Int) - 8 * S)))))
theorem SP.okNew_iff {R:AM.Raw} {K N S f:Int}:SP.okNew R K N S f = true ↔ (1 <= K /\ K < N /\ N <= 255) /\ 1 <= S /\ S <= 128 /\ 0 <= f /\ (R.C.length:Int) = N /\ f <= (R.n:Int) - 8 * S:=by
 unfold SP.okNew
 simp only [Bool.and_eq_true,decide_eq_true_eq,mayI_iff]
section
variable {F F':Nat -> Prop} {w w':World} {s a:Nat} {g:SP.Geo} {R R':AM.Raw}
set_option maxHeartbeats 6400000 in
theorem sfits_any (h:Is F w a R) {K N S f:Int} (hS:1 <= S) (hS2:S <= 128) :
 Calls Tryz.prog 92 #[ptr a,.agg #[.int .i64 K,.int .i64 N,.int .i64 S],.int .i64 f] w fun e w'=>e = .returned (.bool (decide ((R.C.length:Int) = N) && decide (f <= (R.n:Int) - 8 * S))) /\ w.grownBy w' none:=by
 have hn2:=h.ok.n2
 obtain ⟨L,hL⟩:∃ L,L = R.C.length:=⟨_,rfl⟩
 obtain ⟨n,hn⟩:∃ n,n = R.n:=⟨_,rfl⟩
 have GA:Hid (w.grownBy (w.alloc (.cells #[.int .i64 K,.int .i64 N,.int .i64 S] 32)) none):=World.grownBy_alloc w _ none
 have Q1:Hid (∀ w1,w.grownBy w1 none -> Calls Tryz.prog 84 #[ptr a] w1 fun e w'=>e = .returned (.int .i64 (L:Int)) /\ w' = w1):=fun w1 g1=>by rw [hL];exact disks_yes (h.keep g1)
 have Q2:Hid (∀ w1,w.grownBy w1 none -> Calls Tryz.prog 85 #[ptr a] w1 fun e w'=>e = .returned (.int .i64 (n:Int)) /\ w' = w1):=fun w1 g1=>by rw [hn];exact sectors_yes (h.keep g1)
 rw [<- hL,<- hn]
 have hw1:IntKind.i64.wrap (8 * S) = 8 * S:=IntWalk.i64_in _ (by omega)
 have hw2:IntKind.i64.wrap ((n:Int) - 8 * S) = (n:Int) - 8 * S:=IntWalk.i64_in _ (by omega)
 clear h hn2 hL hn hS hS2
 by_cases h1:(L:Int) = N
 ·have i1:((L:Int) == N) = true:=by simp [h1]
  rw [decide_eq_true h1,Bool.true_and]
  clear h1
  go_enter Tryz.func92,Tryz.ntmps92
  go_wp2_with fail
  go_quiet ((first
   | (go_at_call 84;exact Calls.quiet_of_same (Q1.out _ (grown_trans GA.out (grown_drewN _ _))))
   | (go_at_call 85;exact Calls.quiet_of_same (Q2.out _ (grown_trans GA.out (grown_drewN _ _))))))
  go_wp2
  go_ret
  exact ⟨rfl,by first | exact grown_trans GA.out (grown_drewN _ _) | exact GA.out | exact gb_drew GA.out⟩
 ·have i1:((L:Int) == N) = false:=by simp [h1]
  rw [decide_eq_false h1,Bool.false_and]
  clear h1
  go_enter Tryz.func92,Tryz.ntmps92
  go_wp2_with fail
  go_quiet ((first
   | (go_at_call 84;exact Calls.quiet_of_same (Q1.out _ (grown_trans GA.out (grown_drewN _ _))))
   | (go_at_call 85;exact Calls.quiet_of_same (Q2.out _ (grown_trans GA.out (grown_drewN _ _))))))
  go_wp2
  go_ret
  exact ⟨rfl,by first | exact grown_trans GA.out (grown_drewN _ _) | exact GA.out | exact gb_drew GA.out⟩
set_option maxHeartbeats 6400000 in
theorem snew_yes (h:Is F w a R) (hg:g.Ok R) :
 Calls Tryz.prog 40 #[ptr a,geoV g,.int .i64 (g.f:Int)] w fun e w'=>∃ s,e = .returned (.tuple #[ptr s,.int .i64 0]) /\ SI F w' s a g R /\ w.heap.size <= s /\ w.grownBy w' none:=by
 have hk:mayI (g.k:Int) (g.n:Int) = true:=mayI_iff.2 ⟨by have:=hg.k1;omega,by have:=hg.kn;omega,by have:=hg.n255;omega⟩
 have i1:¬ (g.s:Int) < 1:=by have:=hg.s1;omega
 have i2:¬ (128:Int) < (g.s:Int):=by have:=hg.s2;omega
 have i3:¬ (g.f:Int) < 0:=by omega
 have FI:Hid (∀ w',w.grownBy w' none -> Calls Tryz.prog 92 #[ptr a,geoV g,.int .i64 (g.f:Int)] w' fun e w''=>e = .returned (.bool true) /\ w'.grownBy w'' none):=fun w' g1=>by
  refine (sfits_any (h.keep g1) (K:=(g.k:Int)) (N:=(g.n:Int)) (S:=(g.s:Int)) (f:=(g.f:Int)) (by have:=hg.s1;omega) (by have:=hg.s2;omega)).mono ?_
  rintro e w'' ⟨rfl,g2⟩
  refine ⟨?_,g2⟩
  rw [decide_eq_true (show (R.C.length:Int) = (g.n:Int) by have:=hg.len;omega),decide_eq_true (show (g.f:Int) <= (R.n:Int) - 8 * (g.s:Int) by have:=hg.room;omega)]
  rfl
 have MA:Hid (∀ w',Calls Tryz.prog 91 #[.int .i64 (g.k:Int),.int .i64 (g.n:Int)] w' fun e w''=>e = .returned (.bool true) /\ w'' = w'):=fun w'=>by
  have:=codeMay_any (g.k:Int) (g.n:Int) w'
  rwa [hk] at this
 have H:Hid (Is F w a R /\ g.Ok R):=⟨h,hg⟩
 have GA:Hid (w.grownBy (w.alloc (.cells #[.int .i64 (g.k:Int),.int .i64 (g.n:Int),.int .i64 (g.s:Int)] 32)) none):=World.grownBy_alloc w _ none
 have GC:Hid (∀ w',(w.alloc (.cells #[.int .i64 (g.k:Int),.int .i64 (g.n:Int),.int .i64 (g.s:Int)] 32)).grownBy w' none -> w'.cell? ⟨w.heap.size,0,none⟩ = some (.int .i64 (g.k:Int)) /\ w'.cell? ⟨w.heap.size,1,none⟩ = some (.int .i64 (g.n:Int)) /\ w'.cell? ⟨w.heap.size,2,none⟩ = some (.int .i64 (g.s:Int))):=fun w' g1=>by
  have h0:=heap_alloc_new w (.cells #[.int .i64 (g.k:Int),.int .i64 (g.n:Int),.int .i64 (g.s:Int)] 32)
  exact ⟨g1.cell (cell_of_row _ _ 0 _ _ _ h0) (by simp),g1.cell (cell_of_row _ _ 1 _ _ _ h0) (by simp),g1.cell (cell_of_row _ _ 2 _ _ _ h0) (by simp)⟩
 clear h hg hk
 go_enter Tryz.func40,Tryz.ntmps40
 go_wp2_with (first
  | (go_at_call 91;refine (MA.out _).mono ?_;rintro e w9 ⟨rfl,hw9⟩;obtain rfl:=hw9.symm;clear hw9)
  | (go_at_call 92;refine (FI.out _ GA.out).mono ?_;rintro e w2 ⟨rfl,g2⟩;have G2:Hid (w.grownBy w2 none):=grown_trans GA.out g2;obtain ⟨hb1,hb2,hb3⟩:=GC.out w2 g2;clear g2))
 go_ret2
 have g3:=gb_alloc G2.out (.cells #[ptr a,.int .i64 (g.k:Int),.int .i64 (g.n:Int),.int .i64 (g.s:Int),.int .i64 (g.f:Int)] 86)
 exact ⟨_,rfl,⟨H.out.1.keep g3,heap_alloc_new w2 _,fun hf=>(by have h1:=H.out.1.lt _ hf;have h2:=G2.out.size;omega),H.out.2⟩,G2.out.size,g3⟩
end
theorem run_append_rows {w:World} {B:Nat} {t ty e:TypeId} {z:Value} {size bytes:Nat} (hu:Tryz.prog.underlying t = some (.slice e)) (hinfo:(Tryz.prog.info? e).map (fun i=>(i.zero,i.size,i.bytes)) = some (some z,size,bytes)) (hzs:z.cells.size = size) (hsz:0 < size)
 {v:Value} {n:Nat} {xs:List Value} (hown:w.ownsRow B e size v n xs) {a:Addr} {m c:Nat} {news:List Value} (hl:news.length = m * size) (hnews:∀ j u,news[j]? = some u -> w.cell? (a.add j) = some u) (h1:∀ u ∈ news,u.oneCell' = true)
 (h63:n + m <= maxLen) (hbytes:(n + m) * bytes <= 140737488355328) (hB:B <= w.heap.size) :
 ∃ v' w',(Builtin.append_ #[t,t] ty #[v,.slice (some a) m c]).run Tryz.prog w = .ok v' w' /\ w'.ownsRow B e size v' (n + m) (xs ++ news) /\ w.grownBy w' v.ownBlock:=by
 obtain ⟨i,hi,hz0,hz1,hz2⟩:=info_parts hinfo
 obtain ⟨v',w',hr,h2,h3,_⟩:=run_append_own (P:=Tryz.prog) w B t ty e i z size bytes hu hi hz0 hz1 hz2 hzs hsz v n xs hown a m c news hl hnews h1 h63 hbytes hB
 exact ⟨v',w',hr,h2,h3⟩
theorem wpList_append_rows {w:World} {ops:Array Oper} {rest:List Oper} {o:Oper} {ac:Act} {Q:Exit -> Act -> World -> Prop} (hgd:o.guard = none) (d s:Operand) {B:Nat} {t e:TypeId} {z:Value} {size bytes:Nat}
 (ho:o.op = .call { callee:=.builtin .append,args:=#[d,s],argTypes:=#[t,t] }) (hu:Tryz.prog.underlying t = some (.slice e)) (hinfo:(Tryz.prog.info? e).map (fun i=>(i.zero,i.size,i.bytes)) = some (some z,size,bytes)) (hzs:z.cells.size = size) (hsz:0 < size)
 {v:Value} {n:Nat} {xs:List Value} {a:Addr} {m c:Nat} {news:List Value} (hed:ac.eval d = v) (hes:ac.eval s = .slice (some a) m c) (hown:w.ownsRow B e size v n xs) (hl:news.length = m * size) (hnews:∀ j u,news[j]? = some u -> w.cell? (a.add j) = some u) (h1:∀ u ∈ news,u.oneCell' = true)
 (h63:n + m <= maxLen) (hbytes:(n + m) * bytes <= 140737488355328) (hB:B <= w.heap.size)
 (h:∀ v' w',w'.ownsRow B e size v' (n + m) (xs ++ news) -> w.grownBy w' v.ownBlock -> wpList Tryz.prog ops Q rest (ac.put o.dst v') w'):wpList Tryz.prog ops Q (o :: rest) ac w:=by
 refine wpList_plain hgd fun K hK=>?_
 obtain ⟨v',w',hrun,r1,r2⟩:=run_append_rows (ty:=o.type) (c:=c) hu hinfo hzs hsz hown hl hnews h1 h63 hbytes hB
 unfold Oper.wp
 simp [execOp,ho,resolve,invoke,builtin,hed,hes,hrun,Result.andThen]
 exact hK _ _ (h _ _ r1 r2)
theorem rows_lit (w:World) {B:Nat} (e size:Nat) (hB:B <= w.heap.size):(w.alloc (.cells #[] e)).ownsRow B e size (.slice (some ⟨w.heap.size,0,none⟩) 0 0) 0 [] :=
 ⟨by simp,.inr ⟨w.heap.size,0,#[],rfl,hB,heap_alloc_new w _,Nat.le_refl _,by decide,by simp,by simp⟩⟩
theorem rows_slice {w:World} {B e size n:Nat} {v:Value} {xs:List Value} (h:w.ownsRow B e size v n xs):∃ p c,v = .slice p n c:=by
 rcases h.2 with ⟨rfl,hn⟩ | ⟨g,cap,cur,rfl,_⟩
 ·subst hn;exact ⟨_,_,rfl⟩
 ·exact ⟨_,_,rfl⟩
theorem run_zeroSec (w:World):(zeroValue 124).run Tryz.prog w = .ok (.agg (rowOf (AM.zs 64))) w:=by
 obtain ⟨i,hi,h0,h1,h2⟩:=info_parts zeroSec
 simp [zeroValue,typeInfo,hi,h0]
theorem lit_drv (w:World):(Instr.buildSlice 117 0 #[]).run Tryz.prog w = .ok (.slice (some ⟨w.heap.size,0,none⟩) 0 0) (w.alloc (.cells #[] 124)):=by
 simp [Instr.buildSlice,run_underlying Tryz.underlying117,run_size Tryz.sizeSec,run_zeroSec,newRow,Instr.fill,Array.range]
theorem lit_wrs (w:World):(Instr.buildSlice 119 0 #[]).run Tryz.prog w = .ok (.slice (some ⟨w.heap.size,0,none⟩) 0 0) (w.alloc (.cells #[] 126)):=by
 simp [Instr.buildSlice,run_underlying Tryz.underlying119,run_size Tryz.sizeWr,run_zeroW,newRow,Instr.fill,Array.range]
theorem eq_drv_nil (W:World):(binOp BinOp.eql 117 (.slice none 0 0) (.slice none 0 0)).run Tryz.prog W = .ok (.bool true) W:=by kernel_rfl
theorem eq_drv_no (g n c:Nat) (W:World):(binOp BinOp.eql 117 (.slice (some ⟨g,0,none⟩) n c) (.slice none 0 0)).run Tryz.prog W = .ok (.bool false) W:=by kernel_rfl
theorem eq_wrs_nil (W:World):(binOp BinOp.eql 119 (.slice none 0 0) (.slice none 0 0)).run Tryz.prog W = .ok (.bool true) W:=by kernel_rfl
theorem eq_wrs_no (g n c:Nat) (W:World):(binOp BinOp.eql 119 (.slice (some ⟨g,0,none⟩) n c) (.slice none 0 0)).run Tryz.prog W = .ok (.bool false) W:=by kernel_rfl
set_option maxRecDepth 100000 in
theorem clone_drv_nil (w:World):Calls Tryz.prog 118 #[.slice none 0 0] w fun e w'=>e = .returned (.slice none 0 0) /\ w' = w:=by
 have heq:=eq_drv_nil
 go_enter Tryz.func118,Tryz.ntmps118
 go_wp2
 go_ret
 exact ⟨rfl,rfl⟩
set_option maxRecDepth 100000 in
theorem clone_wr_nil (w:World):Calls Tryz.prog 119 #[.slice none 0 0] w fun e w'=>e = .returned (.slice none 0 0) /\ w' = w:=by
 have heq:=eq_wrs_nil
 go_enter Tryz.func119,Tryz.ntmps119
 go_wp2
 go_ret
 exact ⟨rfl,rfl⟩
set_option maxRecDepth 100000 in
theorem clone_drv_yes {w:World} {g0 n c0:Nat} {xs:List Nat} (h:w.ownsRow 0 124 64 (.slice (some ⟨g0,0,none⟩) n c0) n (xs.map bv)) (hn:n <= 4096):Calls Tryz.prog 118 #[.slice (some ⟨g0,0,none⟩) n c0] w fun e w'=>∃ p c,e = .returned (.slice p n c) /\ w'.ownsRow w.heap.size 124 64 (.slice p n c) n (xs.map bv) /\ w.grownBy w' none:=by
 have HG:Hid (w.grownBy (w.alloc (.cells #[] 124)) none):=World.grownBy_alloc _ _ none
 have HE:Hid ((w.alloc (.cells #[] 124)).ownsRow w.heap.size 124 64 (.slice (some ⟨w.heap.size,0,none⟩) 0 0) 0 []):=rows_lit w _ _ (Nat.le_refl _)
 have HL:Hid ((xs.map bv).length = n * 64):=h.1
 have HC:Hid (∀ j u,(xs.map bv)[j]? = some u -> (w.alloc (.cells #[] 124)).cell? ((⟨g0,0,none⟩:Addr).add j) = some u):=fun j u hj=>by
  have h1:=h.cells (g:=g0) rfl j u hj
  exact HG.out.cell h1 (by simp)
 have HN:Hid (n <= 4096):=hn
 have HO:Hid (∀ u ∈ xs.map bv,u.oneCell' = true):=fun u hu=>by obtain ⟨x,_,rfl⟩:=List.mem_map.1 hu;rfl
 clear h hn
 generalize xs.map bv = ys at *
 have hbs:=lit_drv
 have heq:=eq_drv_no g0 n c0
 go_enter Tryz.func118,Tryz.ntmps118
 go_wp2_with (first | (at_builtin;refine wpList_append_rows rfl _ _ rfl Tryz.underlying117 zeroSec (by rw [Value.cells,rowOf_size,AM.zs_len]) (by decide) rfl rfl HE.out HL.out HC.out HO.out (by have:=HN.out;unfold maxLen;omega) (by have:=HN.out;omega) (by simp) ?_;intro v9 w9 ho hg;rw [Nat.zero_add,List.nil_append] at ho;have HO9:Hid (w9.ownsRow w.heap.size 124 64 v9 n ys):=ho;have HG9:Hid (w.grownBy w9 none):=grown_new HG.out hg (fun i e=>by have e2:w.heap.size = i:=Option.some.inj e;omega);clear ho hg) | fail)
 go_ret
 obtain ⟨p9,c9,rfl⟩:=rows_slice HO9.out
 exact ⟨p9,c9,rfl,HO9.out,HG9.out⟩
set_option maxRecDepth 100000 in
theorem clone_wr_yes {w:World} {g0 n c0:Nat} {ys:List Value} (h:w.ownsRow 0 126 130 (.slice (some ⟨g0,0,none⟩) n c0) n ys) (hn:n <= 1000000) (ho:∀ u ∈ ys,u.oneCell' = true):Calls Tryz.prog 119 #[.slice (some ⟨g0,0,none⟩) n c0] w fun e w'=>∃ p c,e = .returned (.slice p n c) /\ w'.ownsRow w.heap.size 126 130 (.slice p n c) n ys /\ w.grownBy w' none:=by
 have HG:Hid (w.grownBy (w.alloc (.cells #[] 126)) none):=World.grownBy_alloc _ _ none
 have HE:Hid ((w.alloc (.cells #[] 126)).ownsRow w.heap.size 126 130 (.slice (some ⟨w.heap.size,0,none⟩) 0 0) 0 []):=rows_lit w _ _ (Nat.le_refl _)
 have HL:Hid (ys.length = n * 130):=h.1
 have HC:Hid (∀ j u,ys[j]? = some u -> (w.alloc (.cells #[] 126)).cell? ((⟨g0,0,none⟩:Addr).add j) = some u):=fun j u hj=>by
  have h1:=h.cells (g:=g0) rfl j u hj
  exact HG.out.cell h1 (by simp)
 have HN:Hid (n <= 1000000):=hn
 have HO:Hid (∀ u ∈ ys,u.oneCell' = true):=ho
 clear h hn ho
 have hbs:=lit_wrs
 have heq:=eq_wrs_no g0 n c0
 go_enter Tryz.func119,Tryz.ntmps119
 go_wp2_with (first | (at_builtin;refine wpList_append_rows rfl _ _ rfl Tryz.underlying119 zeroW (by simp [Value.cells,wcells,AM.zs_len]) (by decide) rfl rfl HE.out HL.out HC.out HO.out (by have:=HN.out;unfold maxLen;omega) (by have:=HN.out;omega) (by simp) ?_;intro v9 w9 ho hg;rw [Nat.zero_add,List.nil_append] at ho;have HO9:Hid (w9.ownsRow w.heap.size 126 130 v9 n ys):=ho;have HG9:Hid (w.grownBy w9 none):=grown_new HG.out hg (fun i e=>by have e2:w.heap.size = i:=Option.some.inj e;omega);clear ho hg) | fail)
 go_ret
 obtain ⟨p9,c9,rfl⟩:=rows_slice HO9.out
 exact ⟨p9,c9,rfl,HO9.out,HG9.out⟩
namespace AM
structure Fl where
 d:Nat
 k:Nat
 b:List Nat
structure RA where
 D:List (Option (List (List Nat)))
 n:Nat
 L:List Fl
 left:Nat
 dark:Bool
end AM
def drow (ds:List Value) (D:List (Option (List (List Nat)))):List Value:=(ds.zip D).flatMap (fun x=>[x.1,.bool x.2.isNone])
def frow (fs:List Value) (L:List AM.Fl):List Value:=(fs.zip L).flatMap (fun x=>[.int .i64 (x.2.d:Int),.int .i64 (x.2.k:Int),x.1])
structure RL (G:Nat -> Prop) (w:World) (r:Nat) (dp:Option Addr) (dc:Nat) (ds:List Value) (lp:Option Addr) (lc:Nat) (fs:List Value) (A:AM.RA):Prop where
 lt:∀ i,G i -> i < w.heap.size
 top:w.heap[r]? = some (.cells #[.slice dp A.D.length dc,.int .i64 (A.n:Int),.slice lp A.L.length lc,.int .i64 (A.left:Int),.bool A.dark] 131 (0,0))
 dsk:w.ownsRow 0 133 2 (.slice dp A.D.length dc) A.D.length (drow ds A.D)
 dlen:ds.length = A.D.length
 sec:∀ (i:Nat) (v:Value),ds[i]? = some v -> (A.D[i]? = some none /\ v = .slice none 0 0) \/ ∃ (ss:List (List Nat)) (vs:List Value),A.D[i]? = some (some ss) /\ w.ownsRow 0 40 1 v A.n vs /\ ss.length = A.n /\ ∀ (k:Nat) (u:Value) (b:List Nat),vs[k]? = some u -> ss[k]? = some b -> Own 0 w u b /\ ∀ g,u.ownBlock = some g -> G g
 fly:w.ownsRow 0 135 3 (.slice lp A.L.length lc) A.L.length (frow fs A.L)
 flen:fs.length = A.L.length
 fv:∀ (i:Nat) (u:Value) (x:AM.Fl),fs[i]? = some u -> A.L[i]? = some x -> Own 0 w u x.b /\ ∀ g,u.ownBlock = some g -> G g
 Gr:G r
 Gd:∀ g,(Value.slice dp A.D.length dc).ownBlock = some g -> G g
 Gs:∀ (i:Nat) (v:Value),ds[i]? = some v -> ∀ g,v.ownBlock = some g -> G g
 Gl:∀ g,(Value.slice lp A.L.length lc).ownBlock = some g -> G g
 ap:∀ (i j:Nat) (u v:Value),ds[i]? = some u -> ds[j]? = some v -> ∀ g,u.ownBlock = some g -> v.ownBlock = some g -> i = j
 left:A.left < 9223372036854775808
 n2:A.n <= 4096
 d2:A.D.length <= 255
def RIs (G:Nat -> Prop) (w:World) (r:Nat) (A:AM.RA):Prop:=∃ dp dc ds lp lc fs,RL G w r dp dc ds lp lc fs A
section
variable {G:Nat -> Prop} {w:World} {r:Nat} {dp:Option Addr} {dc:Nat} {ds:List Value} {lp:Option Addr} {lc:Nat} {fs:List Value} {A:AM.RA}
theorem RL.is (h:RL G w r dp dc ds lp lc fs A):RIs G w r A:=⟨dp,dc,ds,lp,lc,fs,h⟩
theorem Own.same0 {w w':World} {u:Value} {b:List Nat} (h:Own 0 w u b) (hb:∀ g,u.ownBlock = some g -> w'.heap[g]? = w.heap[g]?):Own 0 w' u b:=⟨h.small,h.len,ownsRow_same h.row hb⟩
theorem RL.sec_same (h:RL G w r dp dc ds lp lc fs A) {w':World} (hS:∀ g c,G g -> w.heap[g]? = some (.cells c 40 (0,0)) -> w'.heap[g]? = w.heap[g]?) (hB:∀ g c,G g -> w.heap[g]? = some (.cells c 5 (0,0)) -> w'.heap[g]? = w.heap[g]?) :
 ∀ (i:Nat) (v:Value),ds[i]? = some v -> (A.D[i]? = some none /\ v = .slice none 0 0) \/ ∃ (ss:List (List Nat)) (vs:List Value),A.D[i]? = some (some ss) /\ w'.ownsRow 0 40 1 v A.n vs /\ ss.length = A.n /\ ∀ (k:Nat) (u:Value) (b:List Nat),vs[k]? = some u -> ss[k]? = some b -> Own 0 w' u b /\ ∀ g,u.ownBlock = some g -> G g:=fun i v hv=>by
 rcases h.sec i v hv with h1 | ⟨ss,vs,h1,h2,h3,h4⟩
 ·exact .inl h1
 ·refine .inr ⟨ss,vs,h1,ownsRow_same h2 (fun g hg=>?_),h3,fun k u b hu hb=>⟨(h4 k u b hu hb).1.same0 (fun g hg=>?_),(h4 k u b hu hb).2⟩⟩
  ·obtain ⟨c,hc⟩:=rowBlock h2 hg
   exact hS g c (h.Gs i v hv g hg) hc
  ·obtain ⟨c,hc⟩:=rowBlock (h4 k u b hu hb).1.row hg
   exact hB g c ((h4 k u b hu hb).2 g hg) hc
theorem RL.fv_same (h:RL G w r dp dc ds lp lc fs A) {w':World} (hB:∀ g c,G g -> w.heap[g]? = some (.cells c 5 (0,0)) -> w'.heap[g]? = w.heap[g]?) :
 ∀ (i:Nat) (u:Value) (x:AM.Fl),fs[i]? = some u -> A.L[i]? = some x -> Own 0 w' u x.b /\ ∀ g,u.ownBlock = some g -> G g:=fun i u x hu hx=>⟨(h.fv i u x hu hx).1.same0 (fun g hg=>by
 obtain ⟨c,hc⟩:=rowBlock (h.fv i u x hu hx).1.row hg
 exact hB g c ((h.fv i u x hu hx).2 g hg) hc),(h.fv i u x hu hx).2⟩
theorem RL.same (h:RL G w r dp dc ds lp lc fs A) {w':World} (hb:∀ i,G i -> w'.heap[i]? = w.heap[i]?) (hl:∀ i,G i -> i < w'.heap.size):RL G w' r dp dc ds lp lc fs A :=
 ⟨hl,by rw [hb r h.Gr];exact h.top,ownsRow_same h.dsk (fun g hg=>hb g (h.Gd g hg)),h.dlen,h.sec_same (fun g c hg _=>hb g hg) (fun g c hg _=>hb g hg),ownsRow_same h.fly (fun g hg=>hb g (h.Gl g hg)),h.flen,h.fv_same (fun g c hg _=>hb g hg),h.Gr,h.Gd,h.Gs,h.Gl,h.ap,h.left,h.n2,h.d2⟩
theorem RIs.lt (h:RIs G w r A):∀ i,G i -> i < w.heap.size:=by obtain ⟨_,_,_,_,_,_,h⟩:=h;exact h.lt
theorem RIs.same (h:RIs G w r A) {w':World} (hb:∀ i,G i -> w'.heap[i]? = w.heap[i]?) (hl:∀ i,G i -> i < w'.heap.size):RIs G w' r A:=by
 obtain ⟨dp,dc,ds,lp,lc,fs,h⟩:=h
 exact (h.same hb hl).is
theorem RIs.keep (h:RIs G w r A) {w':World} (g:w.grownBy w' none):RIs G w' r A:=h.same (fun i hi=>g.block i (h.lt i hi) (by simp)) (fun i hi=>Nat.lt_of_lt_of_le (h.lt i hi) g.size)
theorem RL.keep (h:RL G w r dp dc ds lp lc fs A) {w':World} (g:w.grownBy w' none):RL G w' r dp dc ds lp lc fs A:=h.same (fun i hi=>g.block i (h.lt i hi) (by simp)) (fun i hi=>Nat.lt_of_lt_of_le (h.lt i hi) g.size)
theorem RIs.other (h:RIs G w r A) {F F':Nat -> Prop} {w':World} (s:Step F w F' w') (hs:∀ i,F i -> G i -> False):RIs G w' r A /\ ∀ i,F' i -> G i -> False:=by
 obtain ⟨h1,h2,h3⟩:=s.other h.lt hs
 exact ⟨h.same h1 h2,h3⟩
theorem RL.topCells (h:RL G w r dp dc ds lp lc fs A):w.cell? ⟨r,0,none⟩ = some (.slice dp A.D.length dc) /\ w.cell? ⟨r,1,none⟩ = some (.int .i64 (A.n:Int)) /\ w.cell? ⟨r,2,none⟩ = some (.slice lp A.L.length lc) /\ w.cell? ⟨r,3,none⟩ = some (.int .i64 (A.left:Int)) /\ w.cell? ⟨r,4,none⟩ = some (.bool A.dark) :=
 ⟨topCell (j:=0) h.top rfl,topCell (j:=1) h.top rfl,topCell (j:=2) h.top rfl,topCell (j:=3) h.top rfl,topCell (j:=4) h.top rfl⟩
theorem RL.turn (h:RL G w r dp dc ds lp lc fs A) {w':World} (g:w.grownBy w' (some r)) {l':Nat} {k':Bool} (hl:l' < 9223372036854775808)
 (ht:w'.heap[r]? = some (.cells #[.slice dp A.D.length dc,.int .i64 (A.n:Int),.slice lp A.L.length lc,.int .i64 (l':Int),.bool k'] 131 (0,0))):RL G w' r dp dc ds lp lc fs { A with left:=l',dark:=k' }:=by
 have hb:∀ (i:Nat) (c:Array Value) (t:TypeId),G i -> w.heap[i]? = some (.cells c t (0,0)) -> t ≠ 131 -> w'.heap[i]? = w.heap[i]?:=fun i c t hi hc hn=>g.block i (h.lt i hi) (fun e=>by
  obtain rfl:=Option.some.inj e
  exact hn (heap_ty hc h.top))
 refine ⟨fun i hi=>Nat.lt_of_lt_of_le (h.lt i hi) g.size,ht,ownsRow_same h.dsk (fun b hb'=>?_),h.dlen,h.sec_same (fun b c hb' hc=>hb b c _ hb' hc (by decide)) (fun b c hb' hc=>hb b c _ hb' hc (by decide)),ownsRow_same h.fly (fun b hb'=>?_),h.flen,h.fv_same (fun b c hb' hc=>hb b c _ hb' hc (by decide)),h.Gr,h.Gd,h.Gs,h.Gl,h.ap,hl,h.n2,h.d2⟩
 ·obtain ⟨c,hc⟩:=rowBlock h.dsk hb'
  exact hb b c _ (h.Gd b hb') hc (by decide)
 ·obtain ⟨c,hc⟩:=rowBlock h.fly hb'
  exact hb b c _ (h.Gl b hb') hc (by decide)
theorem RL.flown (h:RL G w r dp dc ds lp lc fs A) {G':Nat -> Prop} {w1 w':World} (hG:∀ i,G i -> G' i) (hlt:∀ i,G' i -> i < w1.heap.size) {old:Option Nat} (g1:w.grownBy w1 old) (ho:∀ g,old = some g -> (Value.slice lp A.L.length lc).ownBlock = some g) {L':List AM.Fl} {fs':List Value} {lp':Option Addr} {lc':Nat}
 (hrow:w1.ownsRow 0 135 3 (.slice lp' L'.length lc') L'.length (frow fs' L')) (hfl:fs'.length = L'.length) (hGl:∀ g,(Value.slice lp' L'.length lc').ownBlock = some g -> G' g)
 (hfv:∀ (i:Nat) (u:Value) (x:AM.Fl),fs'[i]? = some u -> L'[i]? = some x -> Own 0 w1 u x.b /\ ∀ g,u.ownBlock = some g -> G' g) (e:w' = w1.setCell ⟨r,2,none⟩ (.slice lp' L'.length lc')):RL G' w' r dp dc ds lp' lc' fs' { A with L:=L' }:=by
 have hb1:∀ (i:Nat) (c:Array Value) (t:TypeId),G i -> w.heap[i]? = some (.cells c t (0,0)) -> t ≠ 135 -> w1.heap[i]? = w.heap[i]?:=fun i c t hi hc hn=>g1.block i (h.lt i hi) (fun e=>by
  obtain ⟨c',hc'⟩:=rowBlock h.fly (ho i e.symm)
  exact hn (heap_ty hc hc'))
 have ht1:=(hb1 r _ _ h.Gr h.top (by decide)).trans h.top
 have hb2:∀ (i:Nat) (c:Array Value) (t:TypeId),w1.heap[i]? = some (.cells c t (0,0)) -> t ≠ 131 -> w'.heap[i]? = w1.heap[i]?:=fun i c t hc hn=>by
  rw [e]
  exact Below.heap_setCell _ _ _ _ (fun e'=>by
   have e':i = r:=e'
   subst e'
   exact hn (heap_ty hc ht1))
 have hb:∀ (i:Nat) (c:Array Value) (t:TypeId),G i -> w.heap[i]? = some (.cells c t (0,0)) -> t ≠ 135 -> t ≠ 131 -> w'.heap[i]? = w.heap[i]?:=fun i c t hi hc h1 h2=>by
  have:=hb1 i c t hi hc h1
  rw [hb2 i c t (this.trans hc) h2,this]
 have hsz:w'.heap.size = w1.heap.size:=by rw [e];simp
 refine ⟨fun i hi=>by rw [hsz];exact hlt i hi,?_,ownsRow_same h.dsk (fun b hb'=>?_),h.dlen,fun i v hv=>?_,ownsRow_same hrow (fun b hb'=>?_),hfl,fun i u x hu hx=>⟨(hfv i u x hu hx).1.same0 (fun b hb'=>?_),(hfv i u x hu hx).2⟩,hG r h.Gr,fun g hg=>hG g (h.Gd g hg),fun i v hv g hg=>hG g (h.Gs i v hv g hg),hGl,h.ap,h.left,h.n2,h.d2⟩
 ·rw [e,heap_setCell_same _ _ _ _ _ _ ht1];rfl
 ·obtain ⟨c,hc⟩:=rowBlock h.dsk hb'
  exact hb b c _ (h.Gd b hb') hc (by decide) (by decide)
 ·rcases h.sec_same (w':=w') (fun b c hb' hc=>hb b c _ hb' hc (by decide) (by decide)) (fun b c hb' hc=>hb b c _ hb' hc (by decide) (by decide)) i v hv with h1 | ⟨ss,vs,h1,h2,h3,h4⟩
  ·exact .inl h1
  ·exact .inr ⟨ss,vs,h1,h2,h3,fun k u b hu hb=>⟨(h4 k u b hu hb).1,fun g hg=>hG g ((h4 k u b hu hb).2 g hg)⟩⟩
 ·obtain ⟨c,hc⟩:=rowBlock hrow hb'
  exact hb2 b c _ hc (by decide)
 ·obtain ⟨c,hc⟩:=rowBlock (hfv i u x hu hx).1.row hb'
  exact hb2 b c _ hc (by decide)
end
end Go.Proofs.YtfjlpifaaknmpaaGreat
