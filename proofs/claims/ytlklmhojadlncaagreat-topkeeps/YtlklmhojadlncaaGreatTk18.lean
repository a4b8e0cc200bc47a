/- Packed: Line4, Unr4, Sol4. -/
import Derived.Test.YtlklmhojadlncaaGreatTk17
set_option linter.unusedVariables false
set_option maxRecDepth 100000
namespace Go.Proofs.YtlklmhojadlncaaGreat
open Go.RowKit
def cnt (p:Nat->Bool) (n:Nat):Nat:=((List.range n).filter p).length
theorem cnt_succ (p:Nat->Bool) (n:Nat):cnt p (n+1)=cnt p n+if p n then 1 else 0:=by
 unfold cnt
 rw[List.range_succ,List.filter_append,List.length_append]
 by_cases h:p n=true
 ·simp[h]
 ·simp[h]
theorem cnt_yes {p:Nat->Bool} {n:Nat} (h:p n=true):cnt p (n+1)=cnt p n+1:=by rw[cnt_succ,if_pos h]
theorem cnt_no {p:Nat->Bool} {n:Nat} (h:p n=false):cnt p (n+1)=cnt p n:=by rw[cnt_succ,h];simp
theorem cnt_le (p:Nat->Bool) (a:Nat):∀ b,cnt p (a+b)<=cnt p a+b
 | 0=>Nat.le_refl _
 | b+1=>by
   have:=cnt_le p a b
   rw[show a+(b+1)=(a+b)+1 from by omega,cnt_succ]
   split <;> omega
theorem cnt_none (p:Nat->Bool) (a:Nat):∀ b,(∀ x,a<=x->x < a+b->p x=false)->cnt p (a+b)=cnt p a
 | 0,_=>rfl
 | b+1,h=>by
   rw[show a+(b+1)=(a+b)+1 from by omega,cnt_no (h (a+b) (by omega) (by omega))]
   exact cnt_none p a b fun x h1 h2=>h x h1 (by omega)
structure Lined (p:Nat->Bool) (k:Nat) (f:Nat->Nat) (j:Nat):Prop where
 yes:∀ i,i < j->p (f i)=true
 lt:∀ i,i < j->f i < 255
 own:∀ i,i < j->f i=i\/k<=f i
 inj:∀ i i',i < j->i' < j->f i=f i'->i=i'
theorem gap_has {p:Nat->Bool} {k j s:Nat} (hall:k<=cnt p 255) (hjk:j < k) (hs:s<=255) (hc:cnt p j+cnt p s=j+cnt p k) (hj:p j=false):∃ x,s<=x/\x < 255/\p x=true:=by
 refine Classical.byContradiction fun hno=>?_
 have h1:=cnt_none p s (255 - s) fun x a b=>by
  rcases e:p x with _ | _
  ·rfl
  ·exact absurd ⟨x,a,by omega,e⟩ hno
 rw[show s+(255 - s)=255 from by omega] at h1
 have h2:=cnt_le p (j+1) (k - (j+1))
 rw[show j+1+(k - (j+1))=k from by omega,cnt_no hj] at h2
 omega
theorem wh_count {n:Nat} {ls:List Int} {k:Nat} (hn:n<=255) (hg:goodAt n ls ls.length) (hk:k<=ls.length):k<=cnt (lk (wh ls ls.length) k) 255:=by
 have h:=MX.nodup_len ((List.range k).map fun i=>(ls.getD i 0).toNat) ((List.range 255).filter (lk (wh ls ls.length) k)) (MX.nodup_map fun i j hi hj e=>by
  have a:=hg i (by omega)
  have b:=hg j (by omega)
  rcases Nat.lt_trichotomy i j with c | c | c
  ·exact absurd (by omega) (b.2.2 i c)
  ·exact c
  ·exact absurd (by omega) (a.2.2 j c)) (by
  intro a ha
  obtain⟨i,hi,rfl⟩:=List.mem_map.1 ha
  have hi':=List.mem_range.1 hi
  have hr:=hg i (by omega)
  have e:wh ls ls.length (ls.getD i 0).toNat=i+1:=wh_at hg (by omega) (by omega)
  refine List.mem_filter.2 ⟨List.mem_range.2 (by omega),?_⟩
  unfold lk
  rw[e]
  simp
  omega)
 rw[List.length_map,List.length_range] at h
 exact h
theorem IOwn.down {B B':Nat} {w:World} {v:Value} {ls:List Int} (h:IOwn B' w v ls) (hB:B<=B'):IOwn B w v ls :=
 ⟨h.len,⟨h.row.1,by
   rcases h.row.2 with h | ⟨g,cp,cur,a1,a2,a3⟩
   ·exact .inl h
   ·exact .inr ⟨g,cp,cur,a1,by omega,a3⟩⟩⟩
def intsOf (f:Nat->Nat) (k j:Nat):List Int:=(List.range k).map fun i=>if i < j then ((f i:Nat):Int) else 0
theorem intsOf_len (f:Nat->Nat) (k j:Nat):(intsOf f k j).length=k:=by simp[intsOf]
theorem intsOf_zero (f:Nat->Nat) (k:Nat):intsOf f k 0=List.replicate k 0:=by
 apply List.ext_getElem
 ·simp[intsOf]
 ·intro i h1 h2
  simp[intsOf]
theorem intsOf_set (f:Nat->Nat) (k j x:Nat):(intsOf f k j).set j (x:Int)=intsOf (fun i=>if i=j then x else f i) k (j+1):=by
 apply List.ext_getElem
 ·simp[intsOf]
 ·intro i h1 h2
  by_cases e:j=i
  ·subst e;simp[intsOf]
  ·by_cases l:i < j
   ·simp[intsOf,e,l,show i < j+1 from by omega,show ¬ i=j from fun c=>e c.symm]
   ·simp[intsOf,e,l,show ¬ i < j+1 from by omega]
theorem Lined.next {p:Nat->Bool} {k:Nat} {f:Nat->Nat} {j x:Nat} (h:Lined p k f j) (hp:p x=true) (hx:x < 255) (ho:x=j\/k<=x) (hne:∀ i,i < j->f i ≠ x):Lined p k (fun i=>if i=j then x else f i) (j+1):=by
 refine⟨fun i hi=>?_,fun i hi=>?_,fun i hi=>?_,fun i i' hi hi' e=>?_⟩
 ·show p (if i=j then x else f i)=true
  by_cases c:i=j
  ·rw[if_pos c];exact hp
  ·rw[if_neg c];exact h.yes i (by omega)
 ·show (if i=j then x else f i) < 255
  by_cases c:i=j
  ·rw[if_pos c];exact hx
  ·rw[if_neg c];exact h.lt i (by omega)
 ·show (if i=j then x else f i)=i\/k<=(if i=j then x else f i)
  by_cases c:i=j
  ·rw[if_pos c,c];exact ho
  ·rw[if_neg c];exact h.own i (by omega)
 ·change (if i=j then x else f i)=(if i'=j then x else f i') at e
  by_cases c:i=j
  ·by_cases c':i'=j
   ·omega
   ·rw[if_pos c,if_neg c'] at e
    exact absurd e.symm (hne i' (by omega))
  ·by_cases c':i'=j
   ·rw[if_neg c,if_pos c'] at e
    exact absurd e (hne i (by omega))
   ·rw[if_neg c,if_neg c'] at e
    exact h.inj i i' (by omega) (by omega) e
theorem line_put {w wr w3:World} {g k j x:Nat} {F:Nat->Nat} {AR:Array Value} (OK:IOwn w.heap.size wr (.slice (some ⟨g,0,none⟩) k k) (intsOf F k j)) (hj:j < k) (AK:wr.heap[w.heap.size]?=some (.cells AR 117 (0,0))) (GK:w.grownBy wr none) (g3:wr.grownBy w3 none) :
 ∃ z:Int,w3.cell? ⟨g,j,none⟩=some (.int .i64 z)/\w3.frozen? ⟨g,j,none⟩=false/\IOwn w.heap.size (w3.setCell ⟨g,j,none⟩ (.int .i64 (x:Int))) (.slice (some ⟨g,0,none⟩) k k) (intsOf (fun i=>if i=j then x else F i) k (j+1))/\(w3.setCell ⟨g,j,none⟩ (.int .i64 (x:Int))).heap[w.heap.size]?=some (.cells AR 117 (0,0))/\w.grownBy (w3.setCell ⟨g,j,none⟩ (.int .i64 (x:Int))) none:=by
 have o3:=OK.keep g3
 have a3:=heap_grown g3 AK
 obtain⟨g',e',hb,hc,hf,hset,hgr⟩:=o3.place (k:=j) (by rw[intsOf_len];exact hj)
 obtain rfl:g=g':=(by injection e' with e';injection e' with e')
 have hne:w.heap.size ≠ g:=by
  rcases o3.row.2 with ⟨e,_⟩ | ⟨g'',cap,cur,e,_,hg,_⟩
  ·cases e
  ·injection e with e1 e2 e3
   injection e1 with e1
   injection e1 with e1
   subst e1
   intro c
   rw[c,hg] at a3
   injection a3 with a3
   injection a3 with _ a4
   exact absurd a4 (by decide)
 refine⟨_,hc,hf,by rw[<- intsOf_set];exact hset x,by rw[heap_setCell_other _ _ _ _ hne];exact a3,grown_new (grown_trans GK g3) (hgr _) (fun i e=>by have:=Option.some.inj e;omega)⟩
set_option maxHeartbeats 3200000 in
set_option maxRecDepth 100000 in
theorem lineUp_any {w:World} {f:Nat->Nat} {k:Nat} (h1:1<=k) (h2:k < 255) (hall:k<=cnt (lk f k) 255) :
 Calls Tryz.prog 64 #[.int .i64 (k:Int),.agg (placesOf f)] w fun e w'=>∃ p n c F,e=.returned (.slice p n c)/\IOwn w.heap.size w' (.slice p n c) (intsOf F k k)/\Lined (lk f k) k F k/\w.grownBy w' none:=by
 have LK:Hid (∀ w (x:Nat),x < 255->Calls Tryz.prog 80 #[.agg (placesOf f),.int .i64 (x:Int),.int .i64 (k:Int)] w fun e w'=>e=.returned (.bool (lk f k x))/\w.grownBy w' none):=fun w x hx=>looked_any hx
 have pL:=placesOf_size f
 have HI:Hid ((Tryz.prog.info? 117).map (·.size)=some (placesOf f).size):=infoL _
 have HALL:Hid (k<=cnt (lk f k) 255):=hall
 have HBX:Hid (∀ w:World,(w.alloc (.cells (placesOf f) 117)).heap[w.heap.size]?=some (.cells (placesOf f) 117 (0,0))):=fun w=>heap_alloc_new w _
 clear hall
 generalize placesOf f=AR at *
 go_enter Tryz.func64,Tryz.ntmps64
 go_wp2_with (at_make;refine wpList_make_ints rfl _ _ rfl k rfl rfl (by omega) ?_;intro w1 p om g1;have OM:Hid (IOwn w.heap.size w1 (.slice p k k) (intsOf (fun _=>0) k 0)/\w1.heap[w.heap.size]?=some (.cells AR 117 (0,0))/\w.grownBy w1 none):=(by rw[intsOf_zero];exact⟨om.down (by simp),heap_grown g1 (HBX.out w),grown_trans (World.grownBy_alloc _ _ none) g1⟩);clear om g1)
 clear HBX
 go_loopw [6,13] (fun ts ti wr=>∃ (j s:Nat) (F:Nat->Nat),j<=k/\k<=s/\s<=255/\ti=.int .i64 j/\ts=.int .i64 s/\Hid (IOwn w.heap.size wr (.slice p k k) (intsOf F k j))/\Hid (wr.heap[w.heap.size]?=some (.cells AR 117 (0,0)))/\Hid (w.grownBy wr none)/\Hid (Lined (lk f k) k F j/\(∀ i,i < j->F i < k\/F i < s)/\cnt (lk f k) j+cnt (lk f k) s=j+cnt (lk f k) k)) (fun _ ti _=>k - (intOf ti).toNat)
 case atStart=>exact⟨0,k,fun _=>0,by omega,by omega,by omega,rfl,rfl,OM.out.1,OM.out.2.1,OM.out.2.2,⟨fun i hi=>by omega,fun i hi=>by omega,fun i hi=>by omega,fun i i' hi=>by omega⟩,fun i hi=>by omega,by simp[cnt]⟩
 case round =>
  clear OM
  obtain⟨j,s,F,hj,hks,hs,rfl,rfl,OK,AK,GK,LN⟩:=hrel
  obtain⟨wa,hwa⟩:∃ wa,wa=wr:=⟨wr,rfl⟩
  subst hwa
  by_cases hlt:j < k
  ·have i1:(j:Int) < (k:Int):=by omega
   have i3:(0:Int)<=(j:Int):=by omega
   have LJ:Hid (Calls Tryz.prog 80 #[.agg AR,.int .i64 (j:Int),.int .i64 (k:Int)] wa fun e w'=>e=.returned (.bool (lk f k j))/\wa.grownBy w' none):=LK.out wa j (by omega)
   have ak:=AK.out
   rcases hb:lk f k j with _ | _
   ·rw[hb] at LJ
    go_wp2
    refine wp_load_row 117 (.tmp 3) rfl w.heap.size rfl 117 AR (0,0) _ ak Tryz.underlying117 rfl HI.out ?_
    clear ak
    go_wp2_with (go_at_call 80;refine LJ.out.mono ?_;rintro e w2 ⟨rfl,g2⟩;have G2:Hid (wa.grownBy w2 none):=g2;clear g2)
    have GX:Hid (∃ x,s<=x/\x < 255/\lk f k x=true):=gap_has HALL.out hlt hs LN.out.2.2 hb
    have F2:Hid (IOwn w.heap.size w2 (.slice p k k) (intsOf F k j)/\w2.heap[w.heap.size]?=some (.cells AR 117 (0,0))/\w.grownBy w2 none):=⟨OK.out.keep G2.out,heap_grown G2.out AK.out,grown_trans GK.out G2.out⟩
    clear OK AK GK G2 LJ
    go_loopw [6] (fun ts wr=>∃ s':Nat,s<=s'/\s' < 255/\ts=.int .i64 s'/\Hid (IOwn w.heap.size wr (.slice p k k) (intsOf F k j))/\Hid (wr.heap[w.heap.size]?=some (.cells AR 117 (0,0)))/\Hid (w.grownBy wr none)/\Hid (cnt (lk f k) s'=cnt (lk f k) s/\∃ x,s'<=x/\x < 255/\lk f k x=true)) (fun ts _=>255 - (intOf ts).toNat)
    case atStart=>exact⟨s,by omega,by obtain⟨x,a,b,_⟩:=GX.out;omega,rfl,F2.out.1,F2.out.2.1,F2.out.2.2,rfl,GX.out⟩
    case round =>
     clear F2 GX
     obtain⟨t,hst,ht,rfl,OK,AK,GK,CX⟩:=hrel
     have LT:Hid (Calls Tryz.prog 80 #[.agg AR,.int .i64 (t:Int),.int .i64 (k:Int)] wr fun e w'=>e=.returned (.bool (lk f k t))/\wr.grownBy w' none):=LK.out wr t ht
     have ak:=AK.out
     rcases hbt:lk f k t with _ | _
     ·rw[hbt] at LT
      go_wp2
      refine wp_load_row 117 (.tmp 3) rfl w.heap.size rfl 117 AR (0,0) _ ak Tryz.underlying117 rfl HI.out ?_
      clear ak
      have R:Hid (∀ w3,wr.grownBy w3 none->IOwn w.heap.size w3 (.slice p k k) (intsOf F k j)/\w3.heap[w.heap.size]?=some (.cells AR 117 (0,0))/\w.grownBy w3 none):=fun w3 g=>⟨OK.out.keep g,heap_grown g AK.out,grown_trans GK.out g⟩
      have C2:Hid (t+1 < 255/\cnt (lk f k) (t+1)=cnt (lk f k) s/\∃ x,t+1<=x/\x < 255/\lk f k x=true):=by
       obtain⟨c1,x,a,b,c⟩:=CX.out
       have hne:x ≠ t:=fun e=>by rw[e,hbt] at c;cases c
       exact⟨by omega,by rw[cnt_no hbt];exact c1,x,by omega,b,c⟩
      clear OK AK GK CX hbt
      go_wp2_with (go_at_call 80;refine LT.out.mono ?_;rintro e w3 ⟨rfl,g3⟩;have R3:Hid _:=R.out w3 g3;clear g3)
      go_roundw
      case rel=>exact⟨t+1,by omega,C2.out.1,by go_num,R3.out.1,R3.out.2.1,R3.out.2.2,C2.out.2⟩
      case measure=>simp[intOf];omega
     ·rw[hbt] at LT
      go_wp2
      refine wp_load_row 117 (.tmp 3) rfl w.heap.size rfl 117 AR (0,0) _ ak Tryz.underlying117 rfl HI.out ?_
      clear ak
      obtain⟨g,rfl,_⟩:=OK.out.place (k:=j) (by rw[intsOf_len];exact hlt)
      have R:Hid (∀ w3,wr.grownBy w3 none->∃ z:Int,w3.cell? ⟨g,j,none⟩=some (.int .i64 z)/\w3.frozen? ⟨g,j,none⟩=false/\IOwn w.heap.size (w3.setCell ⟨g,j,none⟩ (.int .i64 (t:Int))) (.slice (some ⟨g,0,none⟩) k k) (intsOf (fun i=>if i=j then t else F i) k (j+1))/\(w3.setCell ⟨g,j,none⟩ (.int .i64 (t:Int))).heap[w.heap.size]?=some (.cells AR 117 (0,0))/\w.grownBy (w3.setCell ⟨g,j,none⟩ (.int .i64 (t:Int))) none):=fun w3 g3=>line_put OK.out hlt AK.out GK.out g3
      have C2:Hid (Lined (lk f k) k (fun i=>if i=j then t else F i) (j+1)/\(∀ i,i < j+1->(fun i=>if i=j then t else F i) i < k\/(fun i=>if i=j then t else F i) i < t+1)/\cnt (lk f k) (j+1)+cnt (lk f k) (t+1)=j+1+cnt (lk f k) k):=by
       obtain⟨c1,c2,c3⟩:=LN.out
       refine⟨c1.next hbt ht (by omega) (fun i hi e=>?_),fun i hi=>?_,?_⟩
       ·rcases c2 i hi with c | c <;> omega
       ·show (if i=j then t else F i) < k\/(if i=j then t else F i) < t+1
        by_cases e:i=j
        ·rw[if_pos e];omega
        ·rw[if_neg e]
         rcases c2 i (by omega) with c | c <;> omega
       ·rw[cnt_no hb,cnt_yes hbt,CX.out.1]
        omega
      clear OK AK GK CX hbt LN
      go_wp2_with (go_at_call 80;refine LT.out.mono ?_;rintro e w3 ⟨rfl,g3⟩;obtain⟨z,hcz,hfz,r1⟩:=R.out w3 g3;have R3:Hid _:=r1;clear g3 r1)
      go_roundw
      case rel=>exact⟨j+1,t+1,fun i=>if i=j then t else F i,by omega,by omega,by omega,by go_num,by go_num,R3.out.1,R3.out.2.1,R3.out.2.2,C2.out⟩
      case measure=>simp[intOf];omega
   ·rw[hb] at LJ
    go_wp2
    refine wp_load_row 117 (.tmp 3) rfl w.heap.size rfl 117 AR (0,0) _ ak Tryz.underlying117 rfl HI.out ?_
    clear ak
    obtain⟨g,rfl,_⟩:=OK.out.place (k:=j) (by rw[intsOf_len];exact hlt)
    have R:Hid (∀ w3,wa.grownBy w3 none->∃ z:Int,w3.cell? ⟨g,j,none⟩=some (.int .i64 z)/\w3.frozen? ⟨g,j,none⟩=false/\IOwn w.heap.size (w3.setCell ⟨g,j,none⟩ (.int .i64 (j:Int))) (.slice (some ⟨g,0,none⟩) k k) (intsOf (fun i=>if i=j then j else F i) k (j+1))/\(w3.setCell ⟨g,j,none⟩ (.int .i64 (j:Int))).heap[w.heap.size]?=some (.cells AR 117 (0,0))/\w.grownBy (w3.setCell ⟨g,j,none⟩ (.int .i64 (j:Int))) none):=fun w3 g3=>line_put OK.out hlt AK.out GK.out g3
    have C2:Hid (Lined (lk f k) k (fun i=>if i=j then j else F i) (j+1)/\(∀ i,i < j+1->(fun i=>if i=j then j else F i) i < k\/(fun i=>if i=j then j else F i) i < s)/\cnt (lk f k) (j+1)+cnt (lk f k) s=j+1+cnt (lk f k) k):=by
     obtain⟨c1,c2,c3⟩:=LN.out
     refine⟨c1.next hb (by omega) (.inl rfl) (fun i hi e=>?_),fun i hi=>?_,?_⟩
     ·rcases c1.own i hi with c | c <;> omega
     ·show (if i=j then j else F i) < k\/(if i=j then j else F i) < s
      by_cases e:i=j
      ·rw[if_pos e];omega
      ·rw[if_neg e]
       exact c2 i (by omega)
     ·rw[cnt_yes hb]
      omega
    clear OK AK GK LN
    go_wp2_with (go_at_call 80;refine LJ.out.mono ?_;rintro e w3 ⟨rfl,g3⟩;obtain⟨z,hcz,hfz,r1⟩:=R.out w3 g3;have R3:Hid _:=r1;clear g3 r1)
    go_roundw
    case rel=>exact⟨j+1,s,fun i=>if i=j then j else F i,by omega,by omega,by omega,by go_num,rfl,R3.out.1,R3.out.2.1,R3.out.2.2,C2.out⟩
    case measure=>simp[intOf];omega
  ·obtain rfl:j=k:=by omega
   go_wp2
   go_ret
   exact⟨p,j,j,F,rfl,OK.out,LN.out.1,GK.out⟩
structure IsMax (ls:List Int) (m:Int) (k:Nat):Prop where
 up:∀ j,j < k->ls.getD j 0<=m
 is:∃ j,j < k/\m=ls.getD j 0
set_option maxHeartbeats 1600000 in
theorem max_any {w:World} {v:Value} {ls:List Int} (hv:IVec w v ls) (h1:1<=ls.length) :
 Calls Tryz.prog 91 #[v] w fun e w'=>∃ m:Int,e=.returned (.int .i64 m)/\IsMax ls m ls.length/\w.grownBy w' none:=by
 obtain⟨q,N,cap,rfl,hN⟩:=hv.opened
 have hNl:N<=140737488351232:=by rw[hN];exact hv.len
 have HN:Hid (N=ls.length):=hN
 have KV:Hid (∀ w',w.grownBy w' none->IVec w' (.slice q N cap) ls):=fun w' g=>hv.keep g
 have hN1:(1:Int)<=(N:Int):=by omega
 have hN2:0 < N:=by omega
 have hN3:¬ (N:Int) < 1:=by omega
 have hN4:(0:Int) < (N:Int):=by omega
 obtain⟨b,off,rfl,hc⟩:=hv.spot (k:=0) (by omega)
 rw[Nat.add_zero] at hc
 clear hN hv h1
 have H0:Hid (ls.getD 0 0=ls.getD 0 0):=rfl
 have HS:Hid (IsMax ls (ls.getD 0 0) 1):=⟨fun j hj=>by rw[show j=0 from by omega];exact Int.le_refl _,0,by omega,rfl⟩
 generalize hz:ls.getD 0 0=z0 at *
 clear hz H0
 go_enter Tryz.func91,Tryz.ntmps91
 go_wp2
 go_loopw [3,4] (fun tm ti wr=>∃ (j:Nat) (m:Int),1<=j/\j<=N/\ti=.int .i64 j/\tm=.int .i64 m/\Hid (IsMax ls m j)/\Hid (w.grownBy wr none)) (fun _ ti _=>N - (intOf ti).toNat)
 case atStart=>exact⟨1,z0,by omega,by omega,rfl,rfl,HS,World.grownBy.refl _ _⟩
 case round =>
  clear HS hc
  obtain⟨j,m,hj1,hj,rfl,rfl,HM,GK⟩:=hrel
  by_cases hlt:j < N
  ·have i1:(j:Int) < (N:Int):=by omega
   have i3:(0:Int)<=(j:Int):=by omega
   obtain⟨b1,o1,e1,hr⟩:=(KV.out _ GK.out).spot (k:=j) (by have:=HN.out;omega)
   obtain⟨rfl,rfl⟩:b=b1/\off=o1:=by
    injection e1 with e1
    injection e1 with e2 e3
    exact⟨e2,e3⟩
   have HM':Hid (IsMax ls (if m < ls.getD j 0 then ls.getD j 0 else m) (j+1)):=by
    obtain⟨u,i,hi,e⟩:=HM.out
    refine⟨fun t ht=>?_,?_⟩
    ·by_cases c:t=j
     ·subst c;split <;> omega
     ·have:=u t (by omega);split <;> omega
    ·by_cases c:m < ls.getD j 0
     ·exact⟨j,by omega,if_pos c⟩
     ·exact⟨i,by omega,by rw[if_neg c];exact e⟩
   generalize ls.getD j 0=z at *
   clear e1 HM
   go_wp2
   go_roundw
   case rel=>exact⟨j+1,_,by omega,by omega,by go_num,rfl,HM',GK⟩
   case measure=>simp[intOf];omega
  ·obtain rfl:j=N:=by omega
   go_wp2
   go_ret
   exact⟨m,rfl,by have h:=HM.out;rw[HN.out] at h;exact h,GK.out⟩
def lineRows (k:Nat) (F:Nat->Nat):List (List Nat):=(List.range k).map fun i=>genRow k (F i)
theorem lineRows_shape (k:Nat) (F:Nat->Nat):Shape (lineRows k F) k k:=⟨by simp[lineRows],fun j hj=>by simp[lineRows,List.getD,hj,genRow_len]⟩
theorem lineRows_at {k:Nat} {F:Nat->Nat} {i j:Nat} (hi:i < k) (hj:j < k):at2 (lineRows k F) i j=MX.gen k (F i) j:=by
 have e:(lineRows k F).getD i []=genRow k (F i):=by simp[lineRows,List.getD,hi]
 unfold at2
 rw[e,genRow_get hj]
theorem lineRows_inv {k:Nat} {F:Nat->Nat} (h2:k<=255) (lt:∀ i,i < k->F i < 255) (inj:∀ i i',i < k->i' < k->F i=F i'->i=i'):¬ NoInv k (at2 (lineRows k F)):=by
 obtain⟨c,hc⟩:=MX.gen_inv (n:=255) (Nat.le_refl _) h2 F lt inj
 intro h
 exact h ⟨c,hc.sb,(MX.mm_congr (MX.Eq2.refl _ _ _) (fun i j hi hj=>lineRows_at hi hj)).trans hc.l⟩
theorem lineRows_one {k:Nat} {F:Nat->Nat} (h:∀ i,i < k->F i=i):MX.Inv k (at2 (lineRows k F)) (at2 (lineRows k F)):=by
 have e:MX.Eq2 k k (at2 (lineRows k F)) MX.one:=fun i j hi hj=>by
  rw[lineRows_at hi hj,h i hi]
  unfold MX.gen
  rw[if_pos hi]
 have s:MX.Small k k (at2 (lineRows k F)):=fun i j hi hj=>by rw[lineRows_at hi hj];exact MX.gen_lt _ _ _
 have m:MX.Eq2 k k (MX.mm k (at2 (lineRows k F)) (at2 (lineRows k F))) MX.one:=(MX.mm_congr e e).trans (MX.mm_one (MX.one_small k k))
 exact⟨s,s,m,m⟩
theorem intsOf_get {F:Nat->Nat} {k j:Nat} (h:j < k):(intsOf F k k).getD j 0=(F j:Int):=by simp[intsOf,List.getD,h]
set_option maxHeartbeats 3200000 in
theorem unravel_any {w:World} {v:Value} {F:Nat->Nat} {k:Nat} (hv:IVec w v (intsOf F k k)) (h1:1<=k) (h2:k < 255) (lt:∀ i,i < k->F i < 255) (own:∀ i,i < k->F i=i\/k<=F i) (inj:∀ i i',i < k->i' < k->F i=F i'->i=i') :
 Calls Tryz.prog 81 #[v] w fun e w'=>∃ p n c us Y,e=.returned (.tuple #[.slice p n c,.int .i64 0])/\OwnMat w.heap.size w' (.slice p n c) us Y/\Shape Y k k/\MX.Inv k (at2 (lineRows k F)) (at2 Y)/\w.grownBy w' none:=by
 obtain⟨q,N,cap,rfl,hN⟩:=hv.opened
 obtain rfl:N=k:=by rw[intsOf_len] at hN;exact hN
 have KV:Hid (∀ w',w.grownBy w' none->IVec w' (.slice q N cap) (intsOf F N N)):=fun w' g=>hv.keep g
 have HP:Hid ((∀ i,i < N->F i < 255)/\(∀ i,i < N->F i=i\/N<=F i)/\∀ i i',i < N->i' < N->F i=F i'->i=i'):=⟨lt,own,inj⟩
 clear hN hv lt own inj
 go_enter Tryz.func81,Tryz.ntmps81
 go_wp2_with (at_make;refine wpList_make_rows rfl _ _ rfl N rfl rfl (by omega) ?_;intro w1 p om g1;have OM:Hid (OwnMat w.heap.size w1 (.slice p N N) (List.replicate N (.slice none 0 0)) (upTo (fun i=>genRow N (F i)) N 0)):=(by rw[upTo_zero];exact om);have G1:Hid (w.grownBy w1 none):=g1;clear om g1)
 go_loopw [14] (fun ti wr=>∃ (j:Nat) (us:List Value),j<=N/\ti=.int .i64 j/\Hid (OwnMat w.heap.size wr (.slice p N N) us (upTo (fun i=>genRow N (F i)) N j))/\Hid (Sep us)/\Hid (w.grownBy wr none)) (fun ti _=>N - (intOf ti).toNat)
 case atStart=>exact⟨0,_,by omega,rfl,OM,Sep.nils N,G1⟩
 case round =>
  clear OM G1
  obtain⟨j,us,hj,rfl,OK,SK,GK⟩:=hrel
  by_cases hlt:j < N
  ·have i1:(j:Int) < (N:Int):=by omega
   have i3:(0:Int)<=(j:Int):=by omega
   obtain⟨bl,ol,rfl,hcl⟩:=(KV.out _ GK.out).spot (k:=j) (by rw[intsOf_len];exact hlt)
   rw[intsOf_get hlt] at hcl
   have HX:Hid ((upTo (fun i=>genRow N (F i)) N j).set j (genRow N (F j))=upTo (fun i=>genRow N (F i)) N (j+1)):=upTo_set (fun i=>genRow N (F i)) _ _
   have HL:Hid (j < (upTo (fun i=>genRow N (F i)) N j).length):=by show _ < _;rw[upTo_len];exact hlt
   have CJ:Hid (Calls Tryz.prog 86 #[.int .i64 (N:Int),.int .i64 (F j:Int)] wr fun e w''=>∃ p n c,e=.returned (.slice p n c)/\Own wr.heap.size w'' (.slice p n c) (genRow N (F j))/\wr.grownBy w'' none):=row_any N (F j) wr (by omega) (by have:=HP.out.1 j hlt;omega)
   generalize upTo (fun i=>genRow N (F i)) N j=XK at *
   generalize genRow N (F j)=YK at *
   generalize F j=fj at *
   obtain⟨g,rfl,_⟩:=OK.out.place (k:=j) HL.out
   go_wp2_with (go_at_call 86;refine CJ.out.mono ?_;rintro e w2 ⟨p2,n2,c2,rfl,o2,g2⟩;obtain⟨g',e',hb,hc,hf,hput,hown,hgr⟩:=(OK.out.keep g2).place (k:=j) HL.out;obtain rfl:g=g':=(by injection e' with e';injection e' with e');have OU:Hid (Own wr.heap.size w2 (.slice p2 n2 c2) YK):=o2;have G2:Hid (wr.grownBy w2 none):=g2;have PUT:Hid _:=hput;have GR:Hid _:=hgr;have HB:Hid (w.heap.size<=g):=hb;clear o2 g2 e' hput hgr hown hb)
   have R:Hid (OwnMat w.heap.size (w2.setCell ⟨g,j,none⟩ (.slice p2 n2 c2)) (.slice (some ⟨g,0,none⟩) N N) (us.set j (.slice p2 n2 c2)) (upTo (fun i=>genRow N (F i)) N (j+1))/\Sep (us.set j (.slice p2 n2 c2))/\w.grownBy (w2.setCell ⟨g,j,none⟩ (.slice p2 n2 c2)) none):=by
    refine⟨?_,SK.out.put (H:=wr.heap.size) (OK.out.hiRow) OU.out.lo j,?_⟩
    ·rw[<- HX.out]
     exact PUT.out _ _ (OU.out.down GK.out.size)
    ·exact grown_new (grown_trans GK.out G2.out) (GR.out _) (fun i e=>by have:=Option.some.inj e;have:=HB.out;omega)
   clear OK SK GK OU G2 PUT GR HX HL HB CJ hcl
   go_roundw
   case rel=>exact⟨j+1,us.set j (.slice p2 n2 c2),by omega,by go_num,R.out.1,R.out.2.1,R.out.2.2⟩
   case measure=>simp[intOf];omega
  ·obtain rfl:j=N:=by omega
   have OK':Hid (OwnMat w.heap.size wr (.slice p j j) us (lineRows j F)):=by
    have h:=OK.out
    rw[upTo_all] at h
    exact h
   have MXC:Hid (Calls Tryz.prog 91 #[.slice q j cap] wr fun e w'=>∃ m:Int,e=.returned (.int .i64 m)/\IsMax (intsOf F j j) m (intsOf F j j).length/\wr.grownBy w' none):=max_any (KV.out _ GK.out) (by rw[intsOf_len];exact h1)
   clear OK SK
   go_wp2_with fail
   refine MXC.out.mono ?_
   rintro e w3 ⟨m,rfl,im,g3⟩
   rw[intsOf_len] at im
   have G3:Hid (w.grownBy w3 none):=grown_trans GK.out g3
   have O3:Hid (OwnMat w.heap.size w3 (.slice p j j) us (lineRows j F)):=OK'.out.keep g3
   clear g3 OK' GK MXC
   by_cases hm:m < (j:Int)
   ·have HO:Hid (∀ i,i < j->F i=i):=fun i hi=>by
     have a:=im.up i hi
     rw[intsOf_get hi] at a
     rcases HP.out.2.1 i hi with c | c
     ·exact c
     ·omega
    clear im
    go_wp2
    go_ret2
    exact⟨p,j,j,us,_,rfl,O3.out,lineRows_shape j F,lineRows_one HO.out,G3.out⟩
   ·have sh:=lineRows_shape j F
    have IV:Hid (Calls Tryz.prog 92 #[.slice p j j] w3 fun e w'=>∃ p' k c us' Y,e=.returned (.tuple #[.slice p' k c,.int .i64 0])/\Ans (lineRows j F).length (lineRows j F) w3 w' (.slice p' k c) us' Y):=invert_yes O3.out.mat (may_of sh h1 (by omega) h1 (by omega)) (by rw[sh.len,sh.row 0 (by omega)]) (by rw[sh.len];exact lineRows_inv (by omega) HP.out.1 HP.out.2.2)
    have SL:Hid ((lineRows j F).length=j):=sh.len
    clear im sh
    go_wp2_with (go_at_call 92;refine IV.out.mono ?_;rintro e w4 ⟨p4,n4,c4,u4,Y,rfl,an⟩;have AN:Hid _:=an;clear an)
    go_ret2
    have an:=AN.out
    rw[SL.out] at an
    exact⟨p4,n4,c4,u4,Y,rfl,an.om.down G3.out.size,an.shape,an.inv,grown_trans G3.out an.grown⟩
def Told (F:Nat->Nat) (k L:Nat) (T D:List (List Nat)):Prop :=
 ∀ D',Shape D' k L->(∀ i j,at2 D' i j < 256)->(∀ i t,i < k->t < L->codeAt D' k (F i) t=at2 T i t)->D'=D
def solRow (F:Nat->Nat) (k L:Nat) (T Y:List (List Nat)) (j:Nat):List Nat:=if F j=j then T.getD j [] else combTo (Y.getD j []) T L k
theorem codeRow_at {X:List (List Nat)} {k L i t:Nat} (h:t < L):(codeRow X k L i).getD t 0=codeAt X k i t:=gd_map _ h
theorem row_ext {xs ys:List Nat} {L:Nat} (hx:xs.length=L) (hy:ys.length=L) (h:∀ t,t < L->xs.getD t 0=ys.getD t 0):xs=ys:=by
 apply List.ext_getElem
 ·omega
 ·intro i h1 h2
  have:=h i (by omega)
  rwa [gd_of xs h1,gd_of ys h2] at this
theorem solved {F:Nat->Nat} {k L:Nat} {T Y:List (List Nat)} (hT:Shape T k L) (hY:Shape Y k k) (iv:MX.Inv k (at2 (lineRows k F)) (at2 Y)):Told F k L T ((List.range k).map (solRow F k L T Y)):=by
 intro D' hD sm hc
 apply list_ext
 ·rw[hD.len];simp
 ·intro j hj
  rw[hD.len] at hj
  rw[show ((List.range k).map (solRow F k L T Y)).getD j []=solRow F k L T Y j from by simp[List.getD,hj]]
  unfold solRow
  by_cases e:F j=j
  ·rw[if_pos e]
   refine row_ext (hD.row j hj) (hT.row j hj) fun t ht=>?_
   have h1:=hc j t hj ht
   rw[e] at h1
   have h2:=code_low hD sm hj
   rw[<- h2,codeRow_at ht,h1]
   rfl
  ·rw[if_neg e]
   refine row_ext (hD.row j hj) (combTo_len _ _ _ _) fun t ht=>?_
   rw[combTo_get ht]
   have sD:MX.Small k L (at2 D'):=fun i j _ _=>sm i j
   have a1:=MX.mm_assoc (a:=at2 Y) (b:=at2 (lineRows k F)) (c:=at2 D') iv.sb iv.sa sD j t hj ht
   have a2:=(MX.mm_congr (m:=L) iv.l (MX.Eq2.refl k L (at2 D'))) j t hj ht
   have a3:=MX.one_mm sD j t hj ht
   have a4:MX.mm k (at2 Y) (MX.mm k (at2 (lineRows k F)) (at2 D')) j t=MX.xs (fun i=>M.mul ((Y.getD j []).getD i 0) (at2 T i t)) k:=by
    refine MX.xs_congr fun i hi=>?_
    show M.mul (at2 Y j i) (MX.mm k (at2 (lineRows k F)) (at2 D') i t)=M.mul (at2 Y j i) (at2 T i t)
    rw[<- hc i t hi ht]
    congr 1
    refine MX.xs_congr fun l hl=>?_
    rw[lineRows_at hi hl]
   rw[<- a4,<- a1,a2,a3]
   rfl
theorem solRow_len {F:Nat->Nat} {k L:Nat} {T Y:List (List Nat)} (hT:Shape T k L) {j:Nat} (hj:j < k):(solRow F k L T Y j).length=L:=by
 unfold solRow
 split
 ·exact hT.row j hj
 ·exact combTo_len _ _ _ _
set_option maxHeartbeats 3200000 in
theorem solve4_any {w:World} {vl vt:Value} {F:Nat->Nat} {k L:Nat} {ts:List Value} {T:List (List Nat)} (hl:IVec w vl (intsOf F k k)) (mt:Mat w vt ts T) (hT:Shape T k L) (h1:1<=k) (h2:k < 255) (lt:∀ i,i < k->F i < 255) (own:∀ i,i < k->F i=i\/k<=F i) (inj:∀ i i',i < k->i' < k->F i=F i'->i=i') :
 Calls Tryz.prog 65 #[vl,vt] w fun e w'=>∃ p n c us D,e=.returned (.tuple #[.slice p n c,.int .i64 0])/\OwnMat w.heap.size w' (.slice p n c) us D/\Sep us/\Shape D k L/\Told F k L T D/\w.grownBy w' none:=by
 have UU:Hid (Calls Tryz.prog 81 #[vl] w fun e w'=>∃ p n c us Y,e=.returned (.tuple #[.slice p n c,.int .i64 0])/\OwnMat w.heap.size w' (.slice p n c) us Y/\Shape Y k k/\MX.Inv k (at2 (lineRows k F)) (at2 Y)/\w.grownBy w' none):=unravel_any hl h1 h2 lt own inj
 obtain⟨q,N,cap,rfl,hN⟩:=hl.opened
 obtain rfl:N=k:=by rw[intsOf_len] at hN;exact hN
 obtain⟨qt,Nt,ct,rfl,hNt⟩:=mt.row.opened
 have hs:=mt.same
 have hNt':Nt=N:=by rw[hNt,hs,hT.len]
 subst hNt'
 have KV:Hid (∀ w',w.grownBy w' none->IVec w' (.slice q Nt cap) (intsOf F Nt Nt)):=fun w' g=>hl.keep g
 have KT:Hid (∀ w',w.grownBy w' none->Mat w' (.slice qt Nt ct) ts T):=fun w' g=>mt.keep g
 have HT:Hid (Shape T Nt L):=hT
 clear hN hl mt hT hs hNt lt own inj
 go_enter Tryz.func65,Tryz.ntmps65
 go_wp2_with fail
 refine UU.out.mono ?_
 rintro e w1 ⟨py,ny,cy,uy,Y,rfl,om,hY,iv,g1⟩
 obtain⟨rfl,_⟩:ny=Nt/\True:=by
  obtain⟨_,_,_,e,hn⟩:=om.mat.row.opened
  injection e with _ e2 _
  have:=om.same
  rw[hY.len] at this
  exact⟨by omega,trivial⟩
 have KY:Hid (∀ w',w1.grownBy w' none->Mat w' (.slice py ny cy) uy Y):=fun w' g=>om.mat.keep g
 have IV:Hid (Shape Y ny ny/\MX.Inv ny (at2 (lineRows ny F)) (at2 Y)):=⟨hY,iv⟩
 have G1:Hid (w.grownBy w1 none):=g1
 clear om hY iv g1 UU
 go_wp2_with (at_make;refine wpList_make_chunks rfl _ _ rfl ny rfl rfl (by omega) ?_;intro w2 p om g2;have OM:Hid (OwnMat w1.heap.size w2 (.slice p ny ny) (List.replicate ny (.slice none 0 0)) (upTo (solRow F ny L T Y) ny 0)):=(by rw[upTo_zero];exact om);have G2:Hid (w1.grownBy w2 none):=g2;clear om g2)
 go_loopw [24] (fun ti wr=>∃ (j:Nat) (us:List Value),j<=ny/\ti=.int .i64 j/\Hid (OwnMat w1.heap.size wr (.slice p ny ny) us (upTo (solRow F ny L T Y) ny j))/\Hid (Sep us)/\Hid (w1.grownBy wr none)) (fun ti _=>ny - (intOf ti).toNat)
 case atStart=>exact⟨0,_,by omega,rfl,OM,Sep.nils ny,G2⟩
 case round =>
  clear OM G2
  obtain⟨j,us,hj,rfl,OK,SK,GK⟩:=hrel
  by_cases hlt:j < ny
  ·have i1:(j:Int) < (ny:Int):=by omega
   have i3:(0:Int)<=(j:Int):=by omega
   have GW:Hid (w.grownBy wr none):=grown_trans G1.out GK.out
   obtain⟨bl,ol,rfl,hcl⟩:=(KV.out _ GW.out).spot (k:=j) (by rw[intsOf_len];exact hlt)
   rw[intsOf_get hlt] at hcl
   have HX:Hid ((upTo (solRow F ny L T Y) ny j).set j (solRow F ny L T Y j)=upTo (solRow F ny L T Y) ny (j+1)):=upTo_set _ _ _
   have HL:Hid (j < (upTo (solRow F ny L T Y) ny j).length):=by show _ < _;rw[upTo_len];exact hlt
   obtain⟨g,rfl,_⟩:=OK.out.place (k:=j) HL.out
   have MT:=KT.out _ GW.out
   have MY:=KY.out _ GK.out
   have PUT:Hid (∀ w2 p2 n2 c2,Own wr.heap.size w2 (.slice p2 n2 c2) (solRow F ny L T Y j)->wr.grownBy w2 none->∃ u,w2.cell? ⟨g,j,none⟩=some u/\w2.frozen? ⟨g,j,none⟩=false/\OwnMat w1.heap.size (w2.setCell ⟨g,j,none⟩ (.slice p2 n2 c2)) (.slice (some ⟨g,0,none⟩) ny ny) (us.set j (.slice p2 n2 c2)) (upTo (solRow F ny L T Y) ny (j+1))/\Sep (us.set j (.slice p2 n2 c2))/\w1.grownBy (w2.setCell ⟨g,j,none⟩ (.slice p2 n2 c2)) none):=fun w2 p2 n2 c2 o2 g2=>by
    obtain⟨g',e',hb,hc,hf,hput,hown,hgr⟩:=(OK.out.keep g2).place (k:=j) HL.out
    obtain rfl:g=g':=(by injection e' with e';injection e' with e')
    refine⟨_,hc,hf,?_,SK.out.put (H:=wr.heap.size) (OK.out.hiRow) o2.lo j,grown_new (grown_trans GK.out g2) (hgr _) (fun i e=>by have:=Option.some.inj e;omega)⟩
    rw[<- HX.out]
    exact hput _ _ (o2.down GK.out.size)
   clear OK SK HX HL
   by_cases hf:F j=j
   ·have hv:=MT.vec j (by rw[HT.out.len];exact hlt)
    obtain⟨bt,ot,rfl,hct⟩:=MT.row.spot (k:=j) (by rw[MT.same,HT.out.len];exact hlt)
    obtain⟨pj,nj,cj,ej,hnj⟩:=hv.opened
    rw[ej] at hct hv
    have CC:Hid (Calls Tryz.prog 82 #[.slice pj nj cj] wr fun e w'=>∃ p n c,e=.returned (.slice p n c)/\Own wr.heap.size w' (.slice p n c) (solRow F ny L T Y j)/\wr.grownBy w' none):=by
     rw[show solRow F ny L T Y j=T.getD j [] from if_pos hf]
     exact copied_any hv
    rw[hf] at hcl
    clear hv ej hnj MT MY hf
    generalize solRow F ny L T Y j=SR at *
    go_wp2_with (go_at_call 82;refine CC.out.mono ?_;rintro e w2 ⟨p2,n2,c2,rfl,o2,g2⟩;obtain⟨u,hc,hfz,r⟩:=PUT.out w2 p2 n2 c2 o2 g2;have R:Hid _:=r;clear o2 g2 r)
    go_roundw
    case rel=>exact⟨j+1,us.set j (.slice p2 n2 c2),by omega,by go_num,R.out.1,R.out.2.1,R.out.2.2⟩
    case measure=>simp[intOf];omega
   ·have hvy:=MY.vec j (by rw[IV.out.1.len];exact hlt)
    obtain⟨bt,ot,rfl,hct⟩:=MY.row.spot (k:=j) (by rw[MY.same,IV.out.1.len];exact hlt)
    obtain⟨pj,nj,cj,ej,hnj⟩:=hvy.opened
    rw[ej] at hct hvy
    have CC:Hid (Calls Tryz.prog 83 #[.slice pj nj cj,.slice qt ny ct] wr fun e w'=>∃ p n c,e=.returned (.slice p n c)/\Own wr.heap.size w' (.slice p n c) (solRow F ny L T Y j)/\wr.grownBy w' none):=by
     have hlen:(Y.getD j []).length=ny:=IV.out.1.row j hlt
     have h:=combine_any (L:=L) hvy MT (by rw[HT.out.len];exact HT.out) (by rw[hlen,HT.out.len]) (by rw[HT.out.len];omega)
     rw[hlen] at h
     rw[show solRow F ny L T Y j=combTo (Y.getD j []) T L ny from if_neg hf]
     exact h
    have hne:((F j:Int)==(j:Int))=false:=by simp;omega
    have hne2:¬ ((F j:Int)=(j:Int)):=by omega
    clear hvy ej hnj MT MY hf
    generalize solRow F ny L T Y j=SR at *
    generalize F j=fj at *
    go_wp2_with (go_at_call 83;refine CC.out.mono ?_;rintro e w2 ⟨p2,n2,c2,rfl,o2,g2⟩;obtain⟨u,hc,hfz,r⟩:=PUT.out w2 p2 n2 c2 o2 g2;have R:Hid _:=r;clear o2 g2 r)
    go_roundw
    case rel=>exact⟨j+1,us.set j (.slice p2 n2 c2),by omega,by go_num,R.out.1,R.out.2.1,R.out.2.2⟩
    case measure=>simp[intOf];omega
  ·obtain rfl:j=ny:=by omega
   go_wp2
   go_ret2
   have h:=OK.out
   rw[upTo_all] at h
   exact⟨p,j,j,us,_,rfl,h.down G1.out.size,SK.out,⟨by simp,fun i hi=>by rw[show ((List.range j).map (solRow F j L T Y)).getD i []=solRow F j L T Y i from by simp[List.getD,hi]];exact solRow_len HT.out hi⟩,solved HT.out IV.out.1 IV.out.2,grown_trans G1.out GK.out⟩
end Go.Proofs.YtlklmhojadlncaaGreat
