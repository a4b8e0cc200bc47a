/- Packed: AddT, MulM, InvMath, Beside. -/
import Derived.Test.YtlklmhojadlncaaGreatTk2
import Derived.Laws.CopyRow
set_option maxRecDepth 100000
namespace Go.Proofs.YtlklmhojadlncaaGreat
open Go.RowKit
def addAt (xs ys:List Nat) (o c:Nat):List Nat:=(List.range xs.length).map fun j=>if o<=j then xs.getD j 0 ^^^ M.mul c (ys.getD (j - o) 0) else xs.getD j 0
def addTo (xs ys:List Nat) (o c k:Nat):List Nat:=(List.range xs.length).map fun j=>if o<=j/\j < o+k then xs.getD j 0 ^^^ M.mul c (ys.getD (j - o) 0) else xs.getD j 0
theorem addTo_len (xs ys:List Nat) (o c k:Nat):(addTo xs ys o c k).length=xs.length:=by simp[addTo]
theorem addTo_zero (xs ys:List Nat) (o c:Nat):addTo xs ys o c 0=xs:=by
 apply List.ext_getElem
 ·simp[addTo]
 ·intro i h1 h2
  simp[addTo,List.getD,h2]
  omega
theorem addTo_get (xs ys:List Nat) (o c k:Nat) (h:o+k < xs.length):(addTo xs ys o c k).getD (o+k) 0=xs.getD (o+k) 0:=by simp[addTo,List.getD,h]
theorem addTo_set (xs ys:List Nat) (o c k:Nat):(addTo xs ys o c k).set (o+k) (xs.getD (o+k) 0 ^^^ M.mul c (ys.getD k 0))=addTo xs ys o c (k+1):=by
 apply List.ext_getElem
 ·simp[addTo]
 ·intro i h1 h2
  by_cases e:o+k=i
  ·subst e
   simp[addTo]
  ·by_cases l:o<=i/\i < o+k
   ·simp[addTo,e,l,show i < o+(k+1) from by omega]
   ·simp[addTo,e,l,show ¬ (o<=i/\i < o+(k+1)) from by omega]
theorem addTo_all (xs ys:List Nat) (o c:Nat) (h:o+ys.length=xs.length):addTo xs ys o c ys.length=addAt xs ys o c:=by
 apply List.map_congr_left
 intro j hj
 have:=List.mem_range.1 hj
 by_cases l:o<=j
 ·simp[l,show j < o+ys.length from by omega]
 ·simp[l]
theorem addAt_none (xs ys:List Nat) (o:Nat):addAt xs ys o 0=xs:=by
 apply List.ext_getElem
 ·simp[addAt]
 ·intro i h1 h2
  simp[addAt,List.getD,h2,M.zero_mul]
set_option maxHeartbeats 3200000 in
theorem addTimes_any {B:Nat} {w:World} {g N cap o n c':Nat} {s:Value} {xs ys:List Nat} {c:Nat} (hc:c < 256) (hd:Own B w (.slice (some ⟨g,0,none⟩) N cap) xs) (hs:Vec w s ys) (hl:o+ys.length=xs.length)
 (hn:n=ys.length) (ap:s.ownBlock=none\/s.ownBlock ≠ some g) :
 Calls Tryz.prog 110 #[.slice (some ⟨g,o,none⟩) n c',s,.int .u8 (c:Int)] w fun e w'=>e=.returned (.tuple #[])/\Own B w' (.slice (some ⟨g,0,none⟩) N cap) (addAt xs ys o c)/\w.grownBy w' (some g):=by
 by_cases h0:c=0
 ·subst h0
  go_enter Tryz.func110,Tryz.ntmps110
  go_wp2
  first
   | go_end0
   | refine bodyPost_ret (results_none rfl _ _ _) rfl ?_
  exact⟨rfl,by rw[addAt_none];exact hd,World.grownBy.refl _ _⟩
 ·have hne:((c:Int)==0)=false:=by simp;omega
  obtain⟨q,n2,cp',rfl,hn'⟩:=hs.opened
  have hnl:n2<=140737488351232:=by rw[hn'];exact hs.len
  have HN:Hid (n=n2/\n2=ys.length/\o+ys.length=xs.length):=⟨by omega,hn',hl⟩
  have HV:Hid (∀ w',w.grownBy w' (some g)->Vec w' (.slice q n2 cp') ys):=fun w' g=>hs.kept g ap
  clear hn hn' hl h0
  go_enter Tryz.func110,Tryz.ntmps110
  go_wp2_with fail
  go_loopw [12] (fun ti wr=>∃ k:Nat,k<=n2/\ti=.int .i64 k/\Own B wr (.slice (some ⟨g,0,none⟩) N cap) (addTo xs ys o c k)/\Hid (w.grownBy wr (some g))) (fun ti _=>n2 - (intOf ti).toNat)
  case atStart=>exact⟨0,by omega,rfl,by rw[addTo_zero];exact hd,World.grownBy.refl _ _⟩
  case round =>
   clear hd hs
   obtain⟨k,hk,rfl,ok,GK⟩:=hrel
   by_cases hlt:k < n2
   ·have hkx:o+k < xs.length:=by have:=HN.out;omega
    obtain⟨b,off,rfl,hcs,h2⟩:=(HV.out _ GK.out).spot (k:=k) (by have:=HN.out;omega)
    obtain⟨g',e',hnn,hcc,hf,h1,hset,hgrow⟩:=ok.spot (k:=o+k) (by rw[addTo_len];exact hkx)
    obtain rfl:g=g':=(by injection e' with e';injection e' with e')
    rw[addTo_get _ _ _ _ _ hkx] at hcc h1
    have hm:M.mul c (ys.getD k 0) < 256:=M.mul_lt _ hc
    have hx:=M.xor_lt h1 hm
    have HS:Hid _:=hset _ hx
    have HG:Hid _:=hgrow (.int .u8 ((xs.getD (o+k) 0 ^^^ M.mul c (ys.getD k 0):Nat):Int))
    have HM:Hid ((addTo xs ys o c k).set (o+k) (xs.getD (o+k) 0 ^^^ M.mul c (ys.getD k 0))=addTo xs ys o c (k+1)):=addTo_set _ _ _ _ _
    have i2:(k:Int) < (n:Int):=by have:=HN.out;omega
    clear hset hgrow ok hkx hnn e'
    generalize addTo xs ys o c k=L at *
    generalize xs.getD (o+k) 0=x at *
    generalize ys.getD k 0=z at *
    have MM:Hid (∀ w,Calls Tryz.prog 102 #[.int .u8 (c:Int),.int .u8 (z:Int)] w fun e w'=>e=.returned (.int .u8 ((M.mul c z:Nat):Int))/\w'=w):=fun w=>mul_any _ _ w (by omega) (by omega) (by omega) (by omega)
    have AA:Hid (∀ w,Calls Tryz.prog 94 #[.int .u8 (x:Int),.int .u8 ((M.mul c z:Nat):Int)] w fun e w'=>e=.returned (.int .u8 ((x ^^^ M.mul c z:Nat):Int))/\w'=w):=fun w=>add_any _ _ w (by omega) (by omega) (by omega) (by omega)
    generalize M.mul c z=y at *
    generalize x ^^^ y=r at *
    have i1:(k:Int) < (n2:Int):=by omega
    have i3:(0:Int)<=(k:Int):=by omega
    go_wp2_with fail
    go_region_with (first
     | (go_at_call 102;refine (MM.out _).mono ?_;rintro e w1 ⟨rfl,hw⟩;obtain rfl:=hw.symm;clear hw)
     | (go_at_call 94;refine (AA.out _).mono ?_;rintro e w1 ⟨rfl,hw⟩;obtain rfl:=hw.symm;clear hw))
    all_goals
     go_wp2
     go_roundw
     case rel=>exact⟨k+1,by omega,by go_num,by rw[<- HM.out];exact HS.out.keep (grown_drewN _ 1),grown_trans (grown_trans GK.out HG.out) (grown_any (grown_drewN _ 1) _)⟩
     case measure=>simp[intOf];omega
   ·go_wp2
    go_end0
    have hkn:k=ys.length:=by have:=HN.out;omega
    exact⟨rfl,by rw[<- addTo_all _ _ _ _ HN.out.2.2,<- hkn];exact ok,GK.out⟩
def at2 (X:List (List Nat)) (i j:Nat):Nat:=(X.getD i []).getD j 0
structure Shape (X:List (List Nat)) (n m:Nat):Prop where
 len:X.length=n
 row:∀ j,j < n->(X.getD j []).length=m
theorem may_spec {X:List (List Nat)} (h:mayB X=true):1<=X.length/\X.length<=255/\1<=(X.getD 0 []).length/\(X.getD 0 []).length<=255/\Shape X X.length (X.getD 0 []).length:=by
 unfold mayB mayTo at h
 simp only[Bool.and_eq_true,decide_eq_true_eq,List.all_eq_true,List.mem_range,beq_iff_eq] at h
 exact⟨h.1,h.2.1,h.2.2.1,h.2.2.2.1,rfl,h.2.2.2.2⟩
theorem may_of {X:List (List Nat)} {n m:Nat} (h:Shape X n m) (n1:1<=n) (n2:n<=255) (m1:1<=m) (m2:m<=255):mayB X=true:=by
 have h0:=h.row 0 (by omega)
 unfold mayB mayTo
 simp only[Bool.and_eq_true,decide_eq_true_eq,List.all_eq_true,List.mem_range,beq_iff_eq]
 rw[h.len,h0]
 exact⟨n1,n2,m1,m2,h.row⟩
theorem Vec.hi {w:World} {v:Value} {xs:List Nat} (h:Vec w v xs) (hx:0 < xs.length):Hi w.heap.size v:=by
 obtain⟨b,off,cap,rfl,hc,_⟩:=h.at hx
 intro k hk
 have:=World.block_lt_of_cell? w _ hc
 simp only[Value.ownBlock,Option.some.injEq] at hk
 subst hk
 exact this
theorem Mat.small {w:World} {v:Value} {us:List Value} {X:List (List Nat)} (h:Mat w v us X) (i j:Nat):at2 X i j < 256:=by
 unfold at2
 by_cases hi:i < X.length
 ·exact getD_small (h.vec i hi).small j
 ·simp[List.getD,hi]
theorem MX.Struck.congr {n:Nat} {m a b a' b':Nat->Nat->Nat} (h:MX.Struck n m a b) (ha:MX.Eq2 n n a a') (hb:MX.Eq2 n n b b'):MX.Struck n m a' b' :=
 h.step (MX.Inv.one n) (ha.symm.trans (MX.one_mm h.sa).symm) (hb.symm.trans (MX.one_mm (by obtain⟨c,hc⟩:=h.inv;exact hc.sa)).symm)
theorem MX.Low.congr {n i:Nat} {a a':Nat->Nat->Nat} (h:MX.Low n i a) (hi:i<=n) (e:MX.Eq2 n n a a'):MX.Low n i a':=fun k j hk hj=>by rw[<- e k j hk (by omega)];exact h k j hk hj
theorem at2_set {X:List (List Nat)} {k:Nat} (hk:k < X.length) (ys:List Nat) (r j:Nat):at2 (X.set k ys) r j=if r=k then ys.getD j 0 else at2 X r j:=by
 unfold at2
 by_cases e:k=r
 ·subst e;rw[getD_set_self _ _ _ _ hk];simp
 ·rw[getD_set_ne _ _ _ e,if_neg (fun x=>e x.symm)]
theorem Shape.set {X:List (List Nat)} {n m k:Nat} (h:Shape X n m) {ys:List Nat} (hy:ys.length=m):Shape (X.set k ys) n m:=⟨by simpa using h.len,fun j hj=>by
 by_cases e:k=j
 ·subst e;rw[getD_set_self _ _ _ _ (by rw[h.len];exact hj)];exact hy
 ·rw[getD_set_ne _ _ _ e];exact h.row j hj⟩
theorem gd_out (xs:List Nat) {j:Nat} (h:xs.length<=j):xs.getD j 0=0:=by simp[List.getD,List.getElem?_eq_none h]
theorem gd_map {m j:Nat} (f:Nat->Nat) (h:j < m):((List.range m).map f).getD j 0=f j:=by simp[List.getD,h]
theorem gd_left (xs ys:List Nat) {j:Nat} (h:j < xs.length):(xs++ys).getD j 0=xs.getD j 0:=by simp[List.getD,List.getElem?_append_left h]
theorem gd_right (xs ys:List Nat) {j:Nat} (h:xs.length<=j):(xs++ys).getD j 0=ys.getD (j - xs.length) 0:=by simp[List.getD,List.getElem?_append_right h]
theorem at2_out {X:List (List Nat)} {n m:Nat} (h:Shape X n m) {i j:Nat} (hi:i < n) (hj:m<=j):at2 X i j=0:=by
 unfold at2
 exact gd_out _ (by rw[h.row i hi];exact hj)
theorem addAt_get (xs ys:List Nat) (o c j:Nat) (h:j < xs.length):(addAt xs ys o c).getD j 0=if o<=j then xs.getD j 0 ^^^ M.mul c (ys.getD (j - o) 0) else xs.getD j 0:=by
 simp[addAt,List.getD,h]
theorem addAt_len (xs ys:List Nat) (o c:Nat):(addAt xs ys o c).length=xs.length:=by simp[addAt]
theorem drop_getD (xs:List Nat) (o j:Nat):(xs.drop o).getD j 0=xs.getD (o+j) 0:=by simp[List.getD]
structure Work (n:Nat) (m:Nat->Nat->Nat) (k:Nat) (X:List (List Nat)):Prop where
 shape:Shape X n (2 * n)
 st:MX.Struck n m (at2 X) (fun i j=>at2 X i (n+j))
 low:MX.Low n k (at2 X)
 kn:k<=n
structure Mid (n:Nat) (m:Nat->Nat->Nat) (k t:Nat) (X:List (List Nat)):Prop where
 shape:Shape X n (2 * n)
 st:MX.Struck n m (at2 X) (fun i j=>at2 X i (n+j))
 low:MX.Low n k (at2 X)
 kn:k < n
 one:at2 X k k=1
 nought:∀ r,r < t->r < n->r ≠ k->at2 X r k=0
theorem Mid.work {n:Nat} {m:Nat->Nat->Nat} {k:Nat} {X:List (List Nat)} (h:Mid n m k n X):Work n m (k+1) X :=
 ⟨h.shape,h.st,h.low.next fun r hr=>by
   unfold MX.one
   by_cases e:r=k
   ·subst e;rw[if_pos rfl];exact h.one
   ·rw[if_neg e];exact h.nought r hr hr e,h.kn⟩
theorem Mid.skip {n:Nat} {m:Nat->Nat->Nat} {k:Nat} {X:List (List Nat)} (h:Mid n m k k X):Mid n m k (k+1) X :=
 ⟨h.shape,h.st,h.low,h.kn,h.one,fun r hr hn hne=>h.nought r (by omega) hn hne⟩
theorem Work.small {n:Nat} {m:Nat->Nat->Nat} {k:Nat} {X:List (List Nat)} (h:Work n m k X) {i j:Nat} (hi:i < n):at2 X i j < 256:=by
 by_cases h1:j < n
 ·exact h.st.sa i j hi h1
 ·by_cases h2:j < 2 * n
  ·obtain⟨c,hc⟩:=h.st.inv
   have:=hc.sa i (j - n) hi (by omega)
   simp only[show n+(j - n)=j from by omega] at this
   exact this
  ·rw[at2_out h.shape hi (by omega)];decide
theorem Mid.small {n:Nat} {m:Nat->Nat->Nat} {k t:Nat} {X:List (List Nat)} (h:Mid n m k t X) {i j:Nat} (hi:i < n):at2 X i j < 256 :=
 Work.small ⟨h.shape,h.st,h.low,Nat.le_of_lt h.kn⟩ hi
def struck (X:List (List Nat)) (t k:Nat):List (List Nat):=X.set t (addAt (X.getD t []) ((X.getD k []).drop k) k (at2 X t k))
theorem struck_at {n:Nat} {X:List (List Nat)} (h:Shape X n (2 * n)) {t k:Nat} (ht:t < n) (hz:∀ j,j < k->at2 X k j=0) {r j:Nat} (hj:j < 2 * n) :
 at2 (struck X t k) r j=if r=t then at2 X t j ^^^ M.mul (at2 X t k) (at2 X k j) else at2 X r j:=by
 unfold struck
 rw[at2_set (by rw[h.len];exact ht)]
 by_cases e:r=t
 ·subst e
  simp only[if_true]
  rw[addAt_get _ _ _ _ _ (by rw[h.row r ht];exact hj)]
  by_cases l:k<=j
  ·rw[if_pos l,drop_getD,show k+(j - k)=j from by omega];rfl
  ·rw[if_neg l,hz j (by omega),M.mul_zero,Nat.xor_zero];rfl
 ·rw[if_neg e,if_neg e]
theorem Mid.strike {n:Nat} {m:Nat->Nat->Nat} {k t:Nat} {X:List (List Nat)} (h:Mid n m k t X) (ht:t < n) (hne:t ≠ k):Mid n m k (t+1) (struck X t k):=by
 have hz:∀ j,j < k->at2 X k j=0:=fun j hj=>h.low.nought h.kn (Nat.le_refl _) hj
 have key:∀ r j,j < 2 * n->at2 (struck X t k) r j=if r=t then at2 X t j ^^^ M.mul (at2 X t k) (at2 X k j) else at2 X r j:=fun r j hj=>struck_at h.shape ht hz hj
 have hs:at2 X t k < 256:=h.small ht
 refine⟨h.shape.set (by rw[addAt_len];exact h.shape.row t ht),?_,?_,h.kn,?_,?_⟩
 ·refine (h.st.strike hs ht h.kn hne).congr (fun i j hi hj=>?_) (fun i j hi hj=>?_)
  ·rw[key i j (by omega)]
  ·show _=at2 (struck X t k) i (n+j)
   rw[key i (n+j) (by omega)]
 ·refine (h.low.strike (k:=t) (y:=at2 X t k) h.kn (Nat.le_refl _)).congr (Nat.le_of_lt h.kn) (fun i j hi hj=>?_)
  rw[key i j (by omega)]
 ·rw[key k k (by have:=h.kn;omega),if_neg (fun e=>hne e.symm)];exact h.one
 ·intro r hr hn hrk
  rw[key r k (by have:=h.kn;omega)]
  by_cases e:r=t
  ·subst e
   simp only[if_true]
   rw[h.one,M.mul_one hs,Nat.xor_self]
  ·rw[if_neg e];exact h.nought r (by omega) hn hrk
def raised (X:List (List Nat)) (k i:Nat):List (List Nat) :=
 ((X.set k (X.getD i [])).set i (X.getD k [])).set k ((List.range (X.getD i []).length).map fun j=>M.mul (M.inv (at2 X i k)) ((X.getD i []).getD j 0))
structure Pivot (n:Nat) (X:List (List Nat)) (k i:Nat):Prop where
 ki:k<=i
 i_n:i < n
 ne:at2 X i k ≠ 0
 first:∀ j,k<=j->j < i->at2 X j k=0
theorem pivot_or (n:Nat) (X:List (List Nat)) (k:Nat):(∃ i,Pivot n X k i)\/∀ j,k<=j->j < n->at2 X j k=0:=by
 have key:∀ d,k+d<=n->(∃ i,Pivot n X k i)\/∀ j,k<=j->j < k+d->at2 X j k=0:=by
  intro d
  induction d with
  | zero=>exact fun _=>.inr fun j h1 h2=>by omega
  | succ d ih =>
    intro hd
    rcases ih (by omega) with h | h
    ·exact .inl h
    ·by_cases e:at2 X (k+d) k=0
     ·exact .inr fun j h1 h2=>by
       by_cases e2:j=k+d
       ·rw[e2];exact e
       ·exact h j h1 (by omega)
     ·exact .inl ⟨k+d,by omega,by omega,e,fun j h1 h2=>h j h1 h2⟩
 by_cases h:k<=n
 ·have:=key (n - k) (by omega)
  rw[show k+(n - k)=n from by omega] at this
  exact this
 ·exact .inr fun j h1 h2=>by omega
theorem raised_at {n:Nat} {X:List (List Nat)} (h:Shape X n (2 * n)) {k i:Nat} (hk:k < n) (hi:i < n) {r j:Nat} (hj:j < 2 * n) :
 at2 (raised X k i) r j=if r=k then M.mul (M.inv (at2 X i k)) (at2 X i j) else at2 X (if r=i then k else r) j:=by
 unfold raised
 rw[at2_set (by simp[h.len];exact hk)]
 by_cases e:r=k
 ·subst e
  simp only[if_true]
  rw[gd_map _ (by rw[h.row i hi];exact hj)];rfl
 ·rw[if_neg e,if_neg e,at2_set (by simp[h.len];exact hi)]
  by_cases e2:r=i
  ·subst e2;simp only[if_true];rfl
  ·rw[if_neg e2,if_neg e2,at2_set (by rw[h.len];exact hk),if_neg e]
theorem Work.raise {n:Nat} {m:Nat->Nat->Nat} {k i:Nat} {X:List (List Nat)} (h:Work n m k X) (hk:k < n) (p:Pivot n X k i):Mid n m k 0 (raised X k i):=by
 have key:∀ r j,j < 2 * n->at2 (raised X k i) r j=if r=k then M.mul (M.inv (at2 X i k)) (at2 X i j) else at2 X (if r=i then k else r) j:=fun r j hj=>raised_at h.shape hk p.i_n hj
 have hs:at2 X i k < 256:=h.small p.i_n
 have hp:0 < at2 X i k:=Nat.pos_of_ne_zero p.ne
 have hiv:=M.inv_lt (at2 X i k)
 have hm:M.mul (M.inv (at2 X i k)) (at2 X i k)=1:=by rw[M.mul_comm hiv hs];exact M.mul_inv hs hp
 have e1:∀ r j,(if r=k then M.mul (M.inv (at2 X i k)) (at2 X (if k=k then i else if k=i then k else k) j) else at2 X (if r=k then i else if r=i then k else r) j)=if r=k then M.mul (M.inv (at2 X i k)) (at2 X i j) else at2 X (if r=i then k else r) j:=by
  intro r j
  by_cases e:r=k
  ·simp[e]
  ·simp[e]
 refine⟨?_,?_,?_,hk,?_,fun r hr=>by omega⟩
 ·refine ((h.shape.set (h.shape.row i p.i_n)).set (h.shape.row k hk)).set ?_
  rw[List.length_map,List.length_range];exact h.shape.row i p.i_n
 ·refine ((h.st.swap (k:=k) (s:=i) hk p.i_n).scale (k:=k) hiv hs hm).congr (fun r j hr hj=>?_) (fun r j hr hj=>?_)
  ·rw[key r j (by omega)];exact e1 r j
  ·show _=at2 (raised X k i) r (n+j)
   rw[key r (n+j) (by omega)];exact e1 r (n+j)
 ·refine ((h.low.swap (k:=k) (s:=i) hk p.i_n (Nat.le_refl _) p.ki).scale (k:=k) (x:=M.inv (at2 X i k)) (Nat.le_refl _)).congr (Nat.le_of_lt hk) (fun r j hr hj=>?_)
  rw[key r j (by omega)];exact e1 r j
 ·rw[key k k (by omega),if_pos rfl];exact hm
def NoInv (n:Nat) (m:Nat->Nat->Nat):Prop:=¬ ∃ c,MX.Small n n c/\MX.Eq2 n n (MX.mm n c m) MX.one
theorem Work.none {n:Nat} {m:Nat->Nat->Nat} {k:Nat} {X:List (List Nat)} (h:Work n m k X) (hk:k < n) (z:∀ j,k<=j->j < n->at2 X j k=0):NoInv n m :=
 h.st.none hk h.low z
def besList (X:List (List Nat)) (n:Nat):List (List Nat):=(List.range n).map fun i=>X.getD i []++idRow n i
def halfList (X:List (List Nat)) (n:Nat):List (List Nat):=(List.range n).map fun i=>(X.getD i []).drop n
theorem idRow_get (n i j:Nat) (hj:j < n):(idRow n i).getD j 0=MX.one i j:=by simp[idRow,List.getD,hj,MX.one]
theorem idRow_len (n i:Nat):(idRow n i).length=n:=by simp[idRow]
theorem Work.start {X:List (List Nat)} {n:Nat} (h:Shape X n n) (hs:∀ i j,at2 X i j < 256):Work n (at2 X) 0 (besList X n):=by
 have sm:MX.Small n n (at2 X):=fun i j _ _=>hs i j
 have row:∀ i,i < n->(besList X n).getD i []=X.getD i []++idRow n i:=fun i hi=>by simp[besList,List.getD,hi]
 refine⟨⟨by simp[besList],fun j hj=>by rw[row j hj,List.length_append,h.row j hj,idRow_len];omega⟩,?_,MX.Low.zero _ _,Nat.zero_le _⟩
 refine (MX.Struck.start sm).congr (fun i j hi hj=>?_) (fun i j hi hj=>?_)
 ·unfold at2
  rw[row i hi,gd_left _ _ (by rw[h.row i hi];exact hj)]
 ·show _=at2 (besList X n) i (n+j)
  unfold at2
  rw[row i hi,gd_right _ _ (by rw[h.row i hi];omega),h.row i hi,show n+j - n=j from by omega,idRow_get n i j hj]
theorem half_at (X:List (List Nat)) (n i j:Nat) (hi:i < n):at2 (halfList X n) i j=at2 X i (n+j):=by
 unfold at2 halfList
 rw[show ((List.range n).map fun i=>(X.getD i []).drop n).getD i []=(X.getD i []).drop n from by simp[List.getD,hi],drop_getD]
theorem half_shape {X:List (List Nat)} {n:Nat} (h:Shape X n (2 * n)):Shape (halfList X n) n n:=⟨by simp[halfList],fun j hj=>by
 rw[show (halfList X n).getD j []=(X.getD j []).drop n from by simp[halfList,List.getD,hj],List.length_drop,h.row j hj];omega⟩
theorem Work.done {X:List (List Nat)} {n:Nat} {m:Nat->Nat->Nat} (h:Work n m n X):MX.Inv n m (at2 (halfList X n)):=by
 have h1:=h.st.done h.low.all
 have e:MX.Eq2 n n (at2 (halfList X n)) (fun i j=>at2 X i (n+j)):=fun i j hi _=>half_at X n i j hi
 exact⟨h1.sa,fun i j hi hj=>by rw[e i j hi hj];exact h1.sb i j hi hj,(MX.mm_congr e (MX.Eq2.refl n n m)).trans h1.l,(MX.mm_congr (MX.Eq2.refl n n m) e).trans h1.r⟩
theorem Tryz.size5:(Tryz.prog.info? 5).map (·.size)=some 1:=by kernel_rfl
theorem run_copy_into {B:Nat} {w:World} {d s:Value} {xs ys:List Nat} (hd:Own B w d xs) (hs:Vec w s ys) (hl:ys.length<=xs.length) (h0:0 < ys.length) (ty:TypeId) :
 ∃ w',(Builtin.copy_ #[26,26] ty #[d,s]).run Tryz.prog w=.ok (goInt ys.length) w'/\Own B w' d (ys++xs.drop ys.length)/\w.grownBy w' d.ownBlock:=by
 obtain⟨s1,s2,p,cap,rfl,s3,s4,s5⟩:=hs
 have hy:ys ≠ []:=fun e=>by simp[e] at h0
 obtain⟨b,off,rfl,hc⟩:=s5 hy
 rcases hd.row.2 with ⟨rfl,hn⟩ | ⟨g,dcap,cur,rfl,hb,hg,hcc,hm,hcs,ht⟩
 ·omega
 ·have hr:=run_copy_row (P:=Tryz.prog) w 26 26 ty 5 g 0 xs.length dcap ⟨b,off,none⟩ ys.length cap cur 5 (ys.map bv) Tryz.underlying26 Tryz.size5 hg (by rw[List.length_map];exact (Nat.min_eq_left hl).symm)
   (fun j v hj=>by
     have hj':j < ys.length:=by
      have:=(List.getElem?_eq_some_iff.1 hj).1
      simpa using this
     rw[getD_map_bv ys j hj'] at hj
     rw[add_off,hc j hj'];exact hj) (by simp;omega) (fun v hv=>by obtain⟨x,_,rfl⟩:=List.mem_map.1 hv;rfl)
  have hlen:(ys++xs.drop ys.length).length=xs.length:=by simp;omega
  refine⟨w.setRow g (ys.map bv++cur.toList.drop ys.length).toArray,by rw[hr];simp,⟨fun x hx=>?_,by rw[hlen];exact hd.len,by simp,.inr ⟨g,dcap,_,by rw[hlen],hb,setRow_heap w g cur _ 5 _ hg,by omega,hm,?_,?_⟩⟩,⟨rfl,rfl,rfl,by simp,fun k _ hk=>setRow_other w g k _ (fun e=>hk (by simp[Value.ownBlock,e]))⟩⟩
  ·rcases List.mem_append.1 hx with h | h
   ·exact s1 x h
   ·exact hd.small x (List.mem_of_mem_drop h)
  ·simp;omega
  ·have ht':cur.toList.take xs.length=xs.map bv:=by simpa using ht
   rw[hlen,Nat.mul_one,List.map_append,List.map_drop,<- ht']
   apply List.ext_getElem?
   intro j
   by_cases h1:j < ys.length
   ·simp[List.getElem?_append,h1,show j < xs.length from by omega]
   ·simp[List.getElem?_take,List.getElem?_append,h1,List.getElem?_drop]
    by_cases h2:j < xs.length
    ·simp[h2,show ys.length+(j - ys.length)=j from by omega]
    ·simp[h2,show ¬ ys.length+(j - ys.length) < xs.length from by omega]
theorem wpList_copy_into {w:World} {ops:Array Oper} {rest:List Oper} {o:Oper} {a:Act} {Q:Exit->Act->World->Prop} (hgd:o.guard=none) (d s:Operand)
 (ho:o.op=.call { callee:=.builtin .copy,args:=#[d,s],argTypes:=#[26,26] }) (dv sv:Value) (hed:a.eval d=dv) (hes:a.eval s=sv)
 {B:Nat} {xs ys:List Nat} (hd:Own B w dv xs) (hs:Vec w sv ys) (hl:ys.length<=xs.length) (h0:0 < ys.length)
 (h:∀ w',Own B w' dv (ys++xs.drop ys.length)->w.grownBy w' dv.ownBlock->wpList Tryz.prog ops Q rest (a.put o.dst (goInt ys.length)) w'):wpList Tryz.prog ops Q (o :: rest) a w:=by
 refine wpList_plain hgd fun K hK=>?_
 obtain⟨w',hrun,r1,r2⟩:=run_copy_into hd hs hl h0 o.type
 unfold Oper.wp
 simp[execOp,ho,resolve,invoke,builtin,hed,hes,hrun,Result.andThen]
 exact hK _ _ (h _ r1 r2)
theorem step_copy_into {ops:Array Oper} {o:Oper} {a:Act} {w:World} {K:Act->World->Prop} {Q:Exit->Act->World->Prop} {E:Prop} (hgd:o.guard=none) (d s:Operand)
 (ho:o.op=.call { callee:=.builtin .copy,args:=#[d,s],argTypes:=#[26,26] }) (dv sv:Value) (hed:a.eval d=dv) (hes:a.eval s=sv)
 {B:Nat} {xs ys:List Nat} (hd:Own B w dv xs) (hs:Vec w sv ys) (hl:ys.length<=xs.length) (h0:0 < ys.length)
 (h:∀ w',Own B w' dv (ys++xs.drop ys.length)->w.grownBy w' dv.ownBlock->K (a.put o.dst (goInt ys.length)) w') :
 if Region.wanted o (yielded ops a.tmps)=true then Oper.wp Tryz.prog o a w K Q else E:=by
 have hw:Region.wanted o (yielded ops a.tmps)=true:=by simp[Region.wanted,hgd]
 rw[if_pos hw]
 obtain⟨w',hrun,h1,h2⟩:=run_copy_into hd hs hl h0 o.type
 unfold Oper.wp
 simp[execOp,ho,resolve,invoke,builtin,hed,hes,hrun,Result.andThen]
 exact h _ h1 h2
theorem Vec.tail {w:World} {b off n cap k:Nat} {xs:List Nat} (h:Vec w (.slice (some ⟨b,off,none⟩) n cap) xs) (hk:k<=n):Vec w (.slice (some ⟨b,off+k,none⟩) (n - k) (cap - k)) (xs.drop k):=by
 obtain⟨h1,h2,p,cp,e,h3,h4,h5⟩:=h
 injection e with e1 e2 e3
 subst e2 e3
 refine⟨fun x hx=>h1 x (List.mem_of_mem_drop hx),by simp;omega,some ⟨b,off+k,none⟩,cap - k,by simp,by simp;omega,by omega,fun hne=>⟨b,off+k,rfl,fun j hj=>?_⟩⟩
 have hx:xs ≠ []:=fun e=>hne (by rw[e];simp)
 obtain⟨b',off',e',hc⟩:=h5 hx
 rw[<- e1] at e'
 injection e' with e'
 injection e' with e2 e3
 subst e2 e3
 simp only[List.length_drop] at hj
 have:=hc (k+j) (by omega)
 rw[drop_getD]
 rw[show off+k+j=off+(k+j) from by omega]
 exact this
def besTo (X:List (List Nat)) (n k:Nat):List (List Nat):=(List.range n).map fun i=>if i < k then X.getD i []++idRow n i else List.replicate (2 * n) 0
theorem besTo_len (X:List (List Nat)) (n k:Nat):(besTo X n k).length=n:=by simp[besTo]
theorem besTo_zero (X:List (List Nat)) (n:Nat):besTo X n 0=List.replicate n (List.replicate (2 * n) 0):=by
 apply List.ext_getElem
 ·simp[besTo]
 ·intro i h1 h2
  simp[besTo]
theorem besTo_all (X:List (List Nat)) (n:Nat):besTo X n n=besList X n:=List.map_congr_left fun i hi=>by simp[List.mem_range.1 hi]
theorem besTo_get (X:List (List Nat)) (n k:Nat) (h:k < n):(besTo X n k).getD k []=List.replicate (2 * n) 0:=by simp[besTo,List.getD,h]
theorem besTo_set (X:List (List Nat)) (n k:Nat):(besTo X n k).set k (X.getD k []++idRow n k)=besTo X n (k+1):=by
 apply List.ext_getElem
 ·simp[besTo]
 ·intro i h1 h2
  by_cases e:k=i
  ·subst e;simp[besTo]
  ·by_cases l:i < k
   ·simp[besTo,e,l,show i < k+1 from by omega]
   ·simp[besTo,e,l,show ¬ i < k+1 from by omega]
set_option maxHeartbeats 3200000 in
theorem beside_any {w:World} {m:Value} {vs:List Value} {X:List (List Nat)} {n:Nat} (mr:Mat w m vs X) (hs:Shape X n n) (h1:1<=n) (h2:n<=255) :
 Calls Tryz.prog 108 #[m] w fun e w'=>∃ v us,e=.returned v/\OwnMat w.heap.size w' v us (besList X n)/\Sep us/\w.grownBy w' none:=by
 obtain⟨q,N,cap,rfl,hN⟩:=mr.row.opened
 have hsm:=mr.same
 have hlen:=hs.len
 have hNn:N=n:=by omega
 subst hNn
 have MR:Hid (Mat w (.slice q N cap) vs X):=mr
 have HS:Hid (Shape X N N/\vs.length=N/\X.length=N):=⟨hs,by omega,hlen⟩
 have BL:Hid (∀ (x:Int) w,x=2 * (N:Int)->Calls Tryz.prog 111 #[.int .i64 (N:Int),.int .i64 x] w fun e w'=>∃ v us,e=.returned v/\OwnMat w.heap.size w' v us (List.replicate N (List.replicate (2 * N) 0))/\Sep us/\w.grownBy w' none):=fun x w hx=>by
  obtain rfl:x=((2 * N:Nat):Int):=by omega
  exact blank_any N (2 * N) w (by omega) (by omega)
 clear hN hsm hlen hs mr
 go_enter Tryz.func108,Tryz.ntmps108
 go_wp2_with (go_at_call 111;refine (BL.out _ _ (by first | rfl | (unfold wrap64;omega) | omega)).mono ?_;rintro e w1 ⟨v,us,rfl,om,sp,g1⟩;have OM:Hid (OwnMat w.heap.size w1 v us (List.replicate N (List.replicate (2 * N) 0))):=om;have SP:Hid (Sep us):=sp;have G1:Hid (w.grownBy w1 none):=g1;clear om sp g1)
 obtain⟨p,N2,cap2,rfl,hN2⟩:=OM.out.mat.row.opened
 have HN2:Hid (N2=N):=by have:=OM.out.same;simp at this;show _=_;omega
 clear hN2 BL
 go_loopw [15] (fun ti wr=>∃ (k:Nat),k<=N/\ti=.int .i64 k/\Hid (OwnMat w.heap.size wr (.slice p N2 cap2) us (besTo X N k))/\Hid (w.grownBy wr none)) (fun ti _=>N - (intOf ti).toNat)
 case atStart=>exact⟨0,by omega,rfl,by have h:=OM.out;rw[<- besTo_zero X N] at h;exact h,G1.out⟩
 case round =>
  clear OM G1
  obtain⟨k,hk,rfl,OK,GK⟩:=hrel
  by_cases hlt:k < N
  ·have i1:(k:Int) < (N:Int):=by omega
   have i3:(0:Int)<=(k:Int):=by omega
   have i4:(k:Int) < (N2:Int):=by have:=HN2.out;omega
   obtain⟨b0,off,rfl,hr⟩:=(MR.out.keep GK.out).row.spot (k:=k) (by have:=HS.out.2.1;omega)
   obtain⟨pk,nk,ck,ek,hnk⟩:=((MR.out.keep GK.out).vec k (by have:=HS.out.2.2;omega)).opened
   have KV:Hid (∀ w',w.grownBy w' none->Vec w' (.slice pk nk ck) (X.getD k [])):=fun w' g=>by rw[<- ek];exact (MR.out.keep g).vec k (by have:=HS.out.2.2;omega)
   rw[ek] at hr
   have hkX:k < (besTo X N k).length:=by rw[besTo_len];exact hlt
   obtain⟨g,rfl,hb,hc,hf,q1,q2,q3⟩:=OK.out.place (k:=k) hkX
   clear q1 q2 q3
   have ov:=OK.out.vec k hkX
   rw[besTo_get _ _ _ hlt] at ov
   obtain⟨pu,nu,cu,eu,hnu⟩:=ov.vec.opened
   rw[eu] at hc ov
   simp only[List.length_replicate] at hnu
   obtain⟨gu,rfl,q1,q2,q3,q4,q5,q6⟩:=ov.spot (k:=0) (by simp;omega)
   clear q1 q2 q3 q4 q5 q6
   have hlo:=ov.lo gu rfl
   have hXk:=HS.out.1.row k hlt
   have OV:Hid (Own w.heap.size wr (.slice (some ⟨gu,0,none⟩) nu cu) (List.replicate (2 * N) 0)):=ov
   have ST:Hid (∀ w2,Own w.heap.size w2 (.slice (some ⟨gu,0,none⟩) nu cu) (X.getD k []++(List.replicate (2 * N) 0).drop (X.getD k []).length)->wr.grownBy w2 (some gu) ->
    w2.cell? ⟨g,k,none⟩=some (.slice (some ⟨gu,0,none⟩) nu cu)/\(∃ x:Nat,w2.cell? ⟨gu,N+k,none⟩=some (.int .u8 (x:Int)))/\w2.frozen? ⟨gu,N+k,none⟩=false /\
    OwnMat w.heap.size (w2.setCell ⟨gu,N+k,none⟩ (.int .u8 1)) (.slice (some ⟨g,0,none⟩) N2 cap2) us (besTo X N (k+1))/\w.grownBy (w2.setCell ⟨gu,N+k,none⟩ (.int .u8 1)) none):=fun w2 o2 g2=>by
    have om2:=OK.out.rowSet SP.out hkX (by rw[eu];exact o2) (by rw[eu];exact g2)
    obtain⟨g',e',_,hc',_,_,_,_⟩:=om2.place (k:=k) (by simpa using hkX)
    obtain rfl:g=g':=(by injection e' with e';injection e' with e')
    rw[eu] at hc'
    have hd:(List.replicate (2 * N) 0).drop (X.getD k []).length=List.replicate N 0:=by rw[hXk,List.drop_replicate,show 2 * N - N=N from by omega]
    rw[hd] at o2 om2
    obtain⟨gu',e2,_,hcx,hfx,_,hset,hgrow⟩:=o2.spot (k:=N+k) (by rw[List.length_append,hXk,List.length_replicate];omega)
    obtain rfl:gu=gu':=(by injection e2 with e2;injection e2 with e2)
    have hs1:=hset 1 (by decide)
    rw[List.set_append_right _ _ (by omega),hXk,show N+k - N=k from by omega,idRow_set] at hs1
    have om3:=om2.rowSet SP.out (k:=k) (by simpa using hkX) (by rw[eu];exact hs1) (by rw[eu];exact hgrow _)
    rw[List.set_set,besTo_set] at om3
    exact⟨hc',⟨_,hcx⟩,hfx,om3,grown_new (grown_new GK.out g2 (fun i e=>by have:=Option.some.inj e;omega)) (hgrow _) (fun i e=>by have:=Option.some.inj e;omega)⟩
   have HXK:Hid ((X.getD k []).length=N):=hXk
   have i5:((N:Int)+(k:Int)) < (nu:Int):=by omega
   have hnu510:nu<=510:=by omega
   clear OK eu ov hkX hlo hb hf hXk ek hnk hnu
   go_wp2_with (refine wpList_copy_into rfl _ _ rfl _ _ rfl rfl OV.out (KV.out _ GK.out) (by rw[HXK.out];simp;omega) (by rw[HXK.out];omega) ?_;intro w2 o2 g2;obtain⟨hc2,⟨x2,hx2⟩,hf2,hom,hgg⟩:=ST.out w2 o2 g2;have OM2:Hid (OwnMat w.heap.size (w2.setCell ⟨gu,N+k,none⟩ (.int .u8 1)) (.slice (some ⟨g,0,none⟩) N2 cap2) us (besTo X N (k+1))):=hom;have GG2:Hid (w.grownBy (w2.setCell ⟨gu,N+k,none⟩ (.int .u8 1)) none):=hgg;clear o2 g2 hom hgg hc hr)
   go_roundw
   case rel=>exact⟨k+1,by omega,by go_num,OM2.out,GG2.out⟩
   case measure=>simp[intOf];omega
  ·have hkn:N=k:=by omega
   subst hkn
   go_wp2
   go_ret
   exact⟨_,us,rfl,by have h:=OK.out;rw[besTo_all] at h;exact h,SP.out,GK.out⟩
end Go.Proofs.YtlklmhojadlncaaGreat
