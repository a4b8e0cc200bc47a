/- Packed: Enc4, RefGen4, Times4, RefEnc4, RowsM. -/
import Derived.Test.YtaalagkbpeinkaaGreatMp16
set_option linter.unusedVariables false
set_option maxRecDepth 100000
namespace Go.Proofs.YtaalagkbpeinkaaGreat
open Go.RowKit
def codeAt (X:List (List Nat)) (k i t:Nat):Nat:=MX.xs (fun j=>M.mul (MX.gen k i j) (at2 X j t)) k
def codeRow (X:List (List Nat)) (k L i:Nat):List Nat:=(List.range L).map (codeAt X k i)
def codeList (X:List (List Nat)) (k n L:Nat):List (List Nat):=(List.range n).map (codeRow X k L)
def genList (k n:Nat):List (List Nat):=(List.range n).map (genRow k)
theorem code_of_gen (X:List (List Nat)) (k L i:Nat):combTo (genRow k i) X L k=codeRow X k L i:=by
 refine List.map_congr_left fun t _=>MX.xs_congr fun j hj=>?_
 rw[genRow_get hj]
theorem code_low {X:List (List Nat)} {k L i:Nat} (hX:Shape X k L) (hs:∀ i j,at2 X i j < 256) (hi:i < k):codeRow X k L i=X.getD i []:=by
 have hl:=hX.row i hi
 apply List.ext_getElem
 ·simp only[codeRow,List.length_map,List.length_range];exact hl.symm
 ·intro t h1 h2
  have e:codeAt X k i t=at2 X i t:=by
   unfold codeAt
   rw[MX.xs_one (p:=i) hi (fun j _ hne=>by unfold MX.gen;rw[if_pos hi];unfold MX.one;rw[if_neg (fun c=>hne c.symm),M.zero_mul])]
   unfold MX.gen
   rw[if_pos hi]
   unfold MX.one
   rw[if_pos rfl,M.one_mul (hs i t)]
  simp only[codeRow,List.getElem_map,List.getElem_range,e]
  exact gd_of _ h2
theorem mat_small {w:World} {r:Value} {vs:List Value} {X:List (List Nat)} (mr:Mat w r vs X) (i j:Nat):at2 X i j < 256:=by
 unfold at2
 by_cases h:i < X.length
 ·exact getD_small (mr.vec i h).small j
 ·have e:X.getD i []=[]:=by simp[List.getD,List.getElem?_eq_none (by omega:X.length<=i)]
  rw[e];simp
def upTo (f:Nat->List Nat) (n k:Nat):List (List Nat):=(List.range n).map fun i=>if i < k then f i else []
theorem upTo_len (f:Nat->List Nat) (n k:Nat):(upTo f n k).length=n:=by simp[upTo]
theorem upTo_zero (f:Nat->List Nat) (n:Nat):upTo f n 0=List.replicate n []:=by
 apply List.ext_getElem
 ·simp[upTo]
 ·intro i h1 h2
  simp[upTo]
theorem upTo_all (f:Nat->List Nat) (n:Nat):upTo f n n=(List.range n).map f:=List.map_congr_left fun i hi=>if_pos (List.mem_range.1 hi)
theorem upTo_set (f:Nat->List Nat) (n k:Nat):(upTo f n k).set k (f k)=upTo f n (k+1):=by
 apply List.ext_getElem
 ·simp[upTo]
 ·intro i h1 h2
  by_cases e:k=i
  ·subst e;simp[upTo]
  ·by_cases l:i < k
   ·simp[upTo,e,l,show i < k+1 from by omega]
   ·simp[upTo,e,l,show ¬ i < k+1 from by omega]
theorem wpList_make_chunks {w:World} {ops:Array Oper} {rest:List Oper} {o:Oper} {a:Act} {Q:Exit->Act->World->Prop} (hgd:o.guard=none) (l c:Operand)
 (ho:o.op=Op.makeSlice 95 l c) (n:Nat) (hel:a.eval l=.int .i64 (n:Int)) (hec:a.eval c=.int .i64 (n:Int)) (hn:n * 24<=140737488351232)
 (h:∀ w1 p,OwnMat w.heap.size w1 (.slice p n n) (List.replicate n (.slice none 0 0)) (List.replicate n [])->w.grownBy w1 none->wpList Tryz.prog ops Q rest (a.put o.dst (.slice p n n)) w1):wpList Tryz.prog ops Q (o :: rest) a w:=by
 obtain⟨i0,hi,hz0,hz1,hz2⟩:=info_parts Tryz.info22
 refine wpList_make_row _ hgd l c 95 ho 31 i0 (.slice none 0 0) Tryz.underlying95 hi hz0 hz1 rfl _ _ n hel hec (by rw[hz2];omega) (by omega) ?_
 exact h _ _ (made_rows hn rfl) (World.grownBy_alloc _ _ none)
set_option maxHeartbeats 1600000 in
theorem coded_any {w:World} {r:Value} {vs:List Value} {X:List (List Nat)} {k L i:Nat} (mr:Mat w r vs X) (hX:Shape X k L) (h1:1<=k) (h2:k<=255) (hi:i < 256) :
 Calls Tryz.prog 99 #[.int .i64 (i:Int),r] w fun e w'=>∃ p n c,e=.returned (.slice p n c)/\Own w.heap.size w' (.slice p n c) (codeRow X k L i)/\w.grownBy w' none:=by
 have hk:=hX.len
 obtain⟨q,N,cap,rfl,hN⟩:=mr.row.opened
 have hs:=mr.same
 obtain rfl:N=k:=by omega
 by_cases hlow:i < N
 ·obtain⟨b,off,rfl,hc⟩:=mr.row.spot (k:=i) (by omega)
  have hv:=mr.vec i (by omega)
  have HE:Hid (codeRow X N L i=X.getD i []):=code_low hX (mat_small mr) hlow
  obtain⟨pi,ni,ci,ei,hni⟩:=hv.opened
  rw[ei] at hc hv
  have CC:Hid (Calls Tryz.prog 122 #[.slice pi ni ci] w fun e w'=>∃ p n c,e=.returned (.slice p n c)/\Own w.heap.size w' (.slice p n c) (codeRow X N L i)/\w.grownBy w' none):=by
   rw[HE.out]
   exact copied_any hv
  have i1:(i:Int) < (N:Int):=by omega
  have i3:(0:Int)<=(i:Int):=by omega
  clear hv ei hni hs mr hX hN HE hk
  go_enter Tryz.func99,Tryz.ntmps99
  go_wp2_with (go_at_call 122;refine CC.out.mono ?_;rintro e w1 ⟨p1,n1,c1,rfl,o1,g1⟩;have O1:Hid _:=o1;have G1:Hid _:=g1;clear o1 g1)
  go_ret
  exact⟨p1,n1,c1,rfl,O1.out,G1.out⟩
 ·have i1:¬ (i:Int) < (N:Int):=by omega
  have RR:Hid (∀ w,Calls Tryz.prog 124 #[.int .i64 (N:Int),.int .i64 (i:Int)] w fun e w'=>∃ p n c,e=.returned (.slice p n c)/\Own w.heap.size w' (.slice p n c) (genRow N i)/\w.grownBy w' none):=fun w=>row_any N i w h2 hi
  have CC:Hid (∀ w' v,w.grownBy w' none->Own w.heap.size w' v (genRow N i)->Calls Tryz.prog 123 #[v,.slice q N cap] w' fun e w''=>∃ p n c,e=.returned (.slice p n c)/\Own w.heap.size w'' (.slice p n c) (codeRow X N L i)/\w.grownBy w'' none):=fun w' v g o =>
   (combine_any (L:=L) o.vec (mr.keep g) (by rw[hk];exact hX) (by rw[genRow_len,hk]) (by omega)).mono fun e w'' ⟨p,n,c,he,ho,hg⟩=>⟨p,n,c,he,by rw[genRow_len,code_of_gen] at ho;exact ho.down g.size,grown_trans g hg⟩
  have hNl:N<=140737488351232:=by omega
  clear hs mr hX hN hk
  go_enter Tryz.func99,Tryz.ntmps99
  go_wp2_with (first
   | (go_at_call 124;refine (RR.out _).mono ?_;rintro e w1 ⟨p1,n1,c1,rfl,o1,g1⟩;have O1:Hid _:=o1;have G1:Hid _:=g1;clear o1 g1)
   | (go_at_call 123;refine (CC.out _ _ G1.out O1.out).mono ?_;rintro e w2 ⟨p2,n2,c2,rfl,o2,g2⟩;have O2:Hid _:=o2;have G2:Hid _:=g2;clear o2 g2))
  go_ret
  exact⟨p2,n2,c2,rfl,O2.out,G2.out⟩
def Made (w:World) (Y:List (List Nat)) (er:Int) (e:Ending) (w':World):Prop :=
 ∃ p n c us,e=.returned (.tuple #[.slice p n c,.int .i64 er])/\OwnMat w.heap.size w' (.slice p n c) us Y/\Sep us/\w.grownBy w' none
set_option maxHeartbeats 3200000 in
theorem encode_yes {w:World} {r:Value} {vs:List Value} {X:List (List Nat)} {k n L:Nat} (mr:Mat w r vs X) (hX:Shape X k L) (h1:1<=k) (hkn:k < n) (hn:n<=255) :
 Calls Tryz.prog 58 #[.int .i64 (k:Int),.int .i64 (n:Int),r] w (Made w (codeList X k n L) 0):=by
 unfold Made
 have FF:Hid (Calls Tryz.prog 98 #[.int .i64 (k:Int),.int .i64 (n:Int),r] w fun e w'=>e=.returned (.bool true)/\w'=w):=by
  have h:=fits_any (k:=(k:Int)) (n:=(n:Int)) mr
  rw[show fitsB k n X=true from fitsB_iff.2 ⟨by omega,by rw[hX.len],evenB_iff.2 fun j hj=>by rw[hX.row j (by rw[<- hX.len];exact hj),hX.row 0 (by omega)]⟩] at h
  exact h
 have CC:Hid (∀ w' (i:Nat),w.grownBy w' none->i < 256->Calls Tryz.prog 99 #[.int .i64 (i:Int),r] w' fun e w''=>∃ p n c,e=.returned (.slice p n c)/\Own w'.heap.size w'' (.slice p n c) (codeRow X k L i)/\w'.grownBy w'' none):=fun w' i g hi=>coded_any (mr.keep g) hX h1 (by omega) hi
 clear mr hX
 go_enter Tryz.func58,Tryz.ntmps58
 go_wp2_with (first
  | (go_at_call 98;refine FF.out.mono ?_;rintro e w1 ⟨rfl,hw⟩;obtain rfl:=hw.symm;clear hw)
  | (at_make;refine wpList_make_chunks rfl _ _ rfl n rfl rfl (by omega) ?_;intro w1 p om g1;have OM:Hid (OwnMat w.heap.size w1 (.slice p n n) (List.replicate n (.slice none 0 0)) (upTo (codeRow X k L) n 0)):=(by rw[upTo_zero];exact om);have G1:Hid (w.grownBy w1 none):=g1;clear om g1))
 clear FF
 go_loopw [19] (fun ti wr=>∃ (j:Nat) (us:List Value),j<=n/\ti=.int .i64 j/\Hid (OwnMat w.heap.size wr (.slice p n n) us (upTo (codeRow X k L) n j))/\Hid (Sep us)/\Hid (w.grownBy wr none)) (fun ti _=>n - (intOf ti).toNat)
 case atStart=>exact⟨0,_,by omega,rfl,OM,Sep.nils n,G1⟩
 case round =>
  clear OM G1
  obtain⟨j,us,hj,rfl,OK,SK,GK⟩:=hrel
  by_cases hlt:j < n
  ·have i1:(j:Int) < (n:Int):=by omega
   have i3:(0:Int)<=(j:Int):=by omega
   have HX:Hid ((upTo (codeRow X k L) n j).set j (codeRow X k L j)=upTo (codeRow X k L) n (j+1)):=upTo_set _ _ _
   have HL:Hid (j < (upTo (codeRow X k L) n j).length):=by show _ < _;rw[upTo_len];exact hlt
   have CJ:Hid (Calls Tryz.prog 99 #[.int .i64 (j:Int),r] wr fun e w''=>∃ p n c,e=.returned (.slice p n c)/\Own wr.heap.size w'' (.slice p n c) (codeRow X k L j)/\wr.grownBy w'' none):=CC.out wr j GK.out (by omega)
   generalize upTo (codeRow X k L) n j=XK at *
   generalize codeRow X k L j=YK at *
   obtain⟨g,rfl,_⟩:=OK.out.place (k:=j) HL.out
   go_wp2_with (go_at_call 99;refine CJ.out.mono ?_;rintro e w2 ⟨p2,n2,c2,rfl,o2,g2⟩;obtain⟨g',e',hb,hc,hf,hput,hown,hgr⟩:=(OK.out.keep g2).place (k:=j) HL.out;obtain rfl:g=g':=(by injection e' with e';injection e' with e');have OU:Hid (Own wr.heap.size w2 (.slice p2 n2 c2) YK):=o2;have G2:Hid (wr.grownBy w2 none):=g2;have PUT:Hid _:=hput;have GR:Hid _:=hgr;have HB:Hid (w.heap.size<=g):=hb;clear o2 g2 e' hput hgr hown hb)
   have R:Hid (OwnMat w.heap.size (w2.setCell ⟨g,j,none⟩ (.slice p2 n2 c2)) (.slice (some ⟨g,0,none⟩) n n) (us.set j (.slice p2 n2 c2)) (upTo (codeRow X k L) n (j+1))/\Sep (us.set j (.slice p2 n2 c2))/\w.grownBy (w2.setCell ⟨g,j,none⟩ (.slice p2 n2 c2)) none):=by
    refine⟨?_,SK.out.put (H:=wr.heap.size) (OK.out.hiRow) OU.out.lo j,?_⟩
    ·rw[<- HX.out]
     exact PUT.out _ _ (OU.out.down GK.out.size)
    ·exact grown_new (grown_trans GK.out G2.out) (GR.out _) (fun i e=>by have:=Option.some.inj e;have:=HB.out;omega)
   clear OK SK GK OU G2 PUT GR HX HL HB CJ
   go_roundw
   case rel=>exact⟨j+1,us.set j (.slice p2 n2 c2),by omega,by go_num,R.out.1,R.out.2.1,R.out.2.2⟩
   case measure=>simp[intOf];omega
  ·have hjn:n=j:=by omega
   subst hjn
   go_wp2
   go_ret2
   have h0:=OK.out
   rw[upTo_all] at h0
   exact⟨p,n,n,us,rfl,h0,SK.out,GK.out⟩
theorem encode_no {w:World} {r:Value} {vs:List Value} {X:List (List Nat)} {k n:Int} (mr:Mat w r vs X) (hf:fitsB k n X=false) :
 Calls Tryz.prog 58 #[.int .i64 k,.int .i64 n,r] w fun e w'=>e=.returned (.tuple #[.slice none 0 0,.int .i64 1])/\w'=w:=by
 have FF:Hid (Calls Tryz.prog 98 #[.int .i64 k,.int .i64 n,r] w fun e w'=>e=.returned (.bool false)/\w'=w):=by
  have h:=fits_any (k:=k) (n:=n) mr
  rw[hf] at h
  exact h
 clear mr hf
 go_enter Tryz.func58,Tryz.ntmps58
 go_wp2_with (go_at_call 98;refine FF.out.mono ?_;rintro e w1 ⟨rfl,hw⟩;obtain rfl:=hw.symm;clear hw)
 go_ret2
 exact⟨rfl,rfl⟩
theorem one_yes {w:World} {r:Value} {vs:List Value} {X:List (List Nat)} {k n L i:Nat} (mr:Mat w r vs X) (hX:Shape X k L) (h1:1<=k) (hkn:k < n) (hn:n<=255) (hi:i < n) :
 Calls Tryz.prog 106 #[.int .i64 (k:Int),.int .i64 (n:Int),.int .i64 (i:Int),r] w fun e w'=>∃ p m c,e=.returned (.tuple #[.slice p m c,.int .i64 0])/\Own w.heap.size w' (.slice p m c) (codeRow X k L i)/\w.grownBy w' none:=by
 have FF:Hid (Calls Tryz.prog 98 #[.int .i64 (k:Int),.int .i64 (n:Int),r] w fun e w'=>e=.returned (.bool true)/\w'=w):=by
  have h:=fits_any (k:=(k:Int)) (n:=(n:Int)) mr
  rw[show fitsB k n X=true from fitsB_iff.2 ⟨by omega,by rw[hX.len],evenB_iff.2 fun j hj=>by rw[hX.row j (by rw[<- hX.len];exact hj),hX.row 0 (by omega)]⟩] at h
  exact h
 have CC:Hid (Calls Tryz.prog 99 #[.int .i64 (i:Int),r] w fun e w''=>∃ p n c,e=.returned (.slice p n c)/\Own w.heap.size w'' (.slice p n c) (codeRow X k L i)/\w.grownBy w'' none):=coded_any mr hX h1 (by omega) (by omega)
 have i1:¬ (i:Int) < 0:=by omega
 have i2:¬ (n:Int)<=(i:Int):=by omega
 clear mr hX
 go_enter Tryz.func106,Tryz.ntmps106
 go_wp2_with (first
  | (go_at_call 98;refine FF.out.mono ?_;rintro e w1 ⟨rfl,hw⟩;obtain rfl:=hw.symm;clear hw)
  | (go_at_call 99;refine CC.out.mono ?_;rintro e w1 ⟨p1,n1,c1,rfl,o1,g1⟩;have O1:Hid _:=o1;have G1:Hid _:=g1;clear o1 g1))
 go_ret2
 exact⟨p1,n1,c1,rfl,O1.out,G1.out⟩
theorem one_no {w:World} {r:Value} {vs:List Value} {X:List (List Nat)} {k n i:Int} (mr:Mat w r vs X) (hf:fitsB k n X=false\/i < 0\/n<=i) :
 Calls Tryz.prog 106 #[.int .i64 k,.int .i64 n,.int .i64 i,r] w fun e w'=>e=.returned (.tuple #[.slice none 0 0,.int .i64 1])/\w'=w:=by
 have FF:Hid (Calls Tryz.prog 98 #[.int .i64 k,.int .i64 n,r] w fun e w'=>e=.returned (.bool (fitsB k n X))/\w'=w):=fits_any (k:=k) (n:=n) mr
 clear mr
 generalize fitsB k n X=bf at *
 cases bf
 ·clear hf
  go_enter Tryz.func106,Tryz.ntmps106
  go_wp2_with (go_at_call 98;refine FF.out.mono ?_;rintro e w1 ⟨rfl,hw⟩;obtain rfl:=hw.symm;clear hw)
  go_ret2
  exact⟨rfl,rfl⟩
 ·by_cases h0:i < 0
  ·clear hf
   go_enter Tryz.func106,Tryz.ntmps106
   go_wp2_with (go_at_call 98;refine FF.out.mono ?_;rintro e w1 ⟨rfl,hw⟩;obtain rfl:=hw.symm;clear hw)
   go_ret2
   exact⟨rfl,rfl⟩
  ·have h2:n<=i:=by rcases hf with h | h | h <;> first | (simp at h;done) | omega
   clear hf
   go_enter Tryz.func106,Tryz.ntmps106
   go_wp2_with (go_at_call 98;refine FF.out.mono ?_;rintro e w1 ⟨rfl,hw⟩;obtain rfl:=hw.symm;clear hw)
   go_ret2
   exact⟨rfl,rfl⟩
def genUp (k i:Nat):List (List Nat):=(List.range i).map (genRow k)
theorem genUp_next (k i:Nat):genUp k i++[genRow k i]=genUp k (i+1):=by simp[genUp,List.range_succ]
theorem genUp_low (k:Nat):idList k=genUp k k:=by
 refine List.map_congr_left fun i hi=>?_
 have hi':=List.mem_range.1 hi
 apply List.ext_getElem
 ·rw[idRow_len,genRow_len]
 ·intro j h1 h2
  rw[<- gd_of _ h1,<- gd_of _ h2]
  rw[idRow_len] at h1
  rw[idRow_get _ _ _ h1,genRow_get h1]
  unfold MX.gen
  rw[if_pos hi']
def rowUp (k i j:Nat):List Nat:=(List.range j).map (MX.gen k i)
theorem rowUp_next (k i j:Nat):rowUp k i j++[MX.gen k i j]=rowUp k i (j+1):=by simp[rowUp,List.range_succ]
set_option maxHeartbeats 3200000 in
theorem refGen_yes (k n:Nat) (w:World) (h1:1<=k) (hkn:k < n) (hn:n<=255) :
 Calls Tryz.prog 116 #[.int .i64 (k:Int),.int .i64 (n:Int)] w (Made w (genList k n) 0):=by
 unfold Made
 have FF:Hid (∀ w,Calls Tryz.prog 83 #[.int .i64 (k:Int),.int .i64 (n:Int)] w fun e w'=>e=.returned (.bool true)/\w'=w):=fun w=>by
  have h:=refMay4_any (k:Int) (n:Int) w
  rw[show mayI k n=true from mayI_iff.2 (by omega)] at h
  exact h
 have ID:Hid (∀ w,Calls Tryz.prog 133 #[.int .i64 (k:Int)] w fun e w'=>∃ v us,e=.returned (.tuple #[v,.int .i64 0])/\OwnMat w.heap.size w' v us (genUp k k)/\Sep us/\w.grownBy w' none):=fun w=>by
  have h:=refIdent_any k w h1 (by omega)
  rw[genUp_low] at h
  exact h
 go_enter Tryz.func116,Tryz.ntmps116
 go_wp2_with (first
  | (go_at_call 83;refine (FF.out _).mono ?_;rintro e w1 ⟨rfl,hw⟩;obtain rfl:=hw.symm;clear hw)
  | (go_at_call 133;refine (ID.out _).mono ?_;rintro e w1 ⟨v1,us1,rfl,om,sp,g1⟩;have OM:Hid (OwnMat w.heap.size w1 v1 us1 (genUp k k)):=om;have SP:Hid (Sep us1):=sp;have G1:Hid (w.grownBy w1 none):=g1;clear om sp g1))
 clear FF ID
 go_loopw [6,8] (fun tv ti wr=>∃ (i:Nat) (us:List Value),k<=i/\i<=n/\ti=.int .i64 i/\Hid (us.length=i)/\Hid (OwnMat w.heap.size wr tv us (genUp k i))/\Hid (Sep us)/\Hid (w.grownBy wr none)) (fun _ ti _=>n - (intOf ti).toNat)
 case atStart=>exact⟨k,us1,by omega,by omega,rfl,by show _=_;rw[OM.out.same];simp[genUp],OM,SP,G1⟩
 case round =>
  clear OM SP G1
  obtain⟨i,us,hki,hin,rfl,HU,OM,SP,GK⟩:=hrel
  obtain⟨wa,hwa⟩:∃ wa,wa=wr:=⟨wr,rfl⟩
  subst hwa
  by_cases hlt:i < n
  ·have i1:(i:Int) < (n:Int):=by omega
   go_wp2_with fail
   go_loopw [9,10] (fun tr tj wr=>∃ j:Nat,j<=k/\tj=.int .i64 j/\Hid (Own wa.heap.size wr tr (rowUp k i j))/\Hid (wa.grownBy wr none)) (fun _ tj _=>k - (intOf tj).toNat)
   case atStart=>exact⟨0,by omega,rfl,Own.nil _ _,World.grownBy.refl _ _⟩
   case round =>
    obtain⟨j,hj,rfl,OR,GR⟩:=hrel
    by_cases hjl:j < k
    ·have j1:(j:Int) < (k:Int):=by omega
     have hx:bits .xor .u8 (i:Int) (j:Int)=((i ^^^ j:Nat):Int):=u8_xor_nat i j (by omega) (by omega)
     have hxl:i ^^^ j < 256:=M.xor_lt (by omega) (by omega)
     have hx0:0 < i ^^^ j:=MX.xor_ne (by omega)
     have HGEN:Hid (rowUp k i j++[M.inv (i ^^^ j)]=rowUp k i (j+1)):=by
      show _=_
      rw[<- rowUp_next]
      unfold MX.gen
      rw[if_neg (by omega)]
     have II:Hid (∀ w,Calls Tryz.prog 134 #[.int .u8 ((i ^^^ j:Nat):Int)] w fun e w'=>e=.returned (.tuple #[.int .u8 ((M.inv (i ^^^ j):Nat):Int),.int .i64 0])/\w'=w):=fun w=>refInv_any _ w hx0 hxl
     have hI:M.inv (i ^^^ j) < 256:=M.inv_lt _
     have HLn:Hid ((rowUp k i j).length+1<=140737488351232):=by show _<=_;simp[rowUp];omega
     generalize M.inv (i ^^^ j)=y at *
     generalize i ^^^ j=x at *
     go_wp2_with (first
      | (go_at_call 134;refine (II.out _).mono ?_;rintro e w1 ⟨rfl,hw⟩;obtain rfl:=hw.symm;clear hw)
      | (at_builtin;refine wpList_append_vec rfl _ _ rfl _ _ rfl rfl (OR.out.keep (World.grownBy_alloc _ _ none)) (lit_row (w:=wr) [y] (by simp[hI]) (by simp)).vec (Nat.le_trans GR.out.size (by simp)) (by simpa using HLn.out) ?_;intro v' w2 ow gw;have OW:Hid (Own wa.heap.size w2 v' (rowUp k i j++[y])):=ow;have GW:Hid (wa.grownBy w2 none):=grown_new (grown_trans GR.out (World.grownBy_alloc _ _ none)) gw OR.out.lo;clear ow gw))
     go_roundw
     case rel=>exact⟨j+1,by omega,by go_num,by rw[<- HGEN.out];exact OW,GW⟩
     case measure=>simp[intOf];omega
    ·obtain rfl:j=k:=by omega
     obtain⟨pr,nr,cr,rfl,hnr⟩:=OR.out.vec.opened
     clear hnr
     have HB:Hid (w.heap.size<=wr.heap.size):=Nat.le_trans GK.out.size GR.out.size
     have HR:Hid (rowUp j i j=genRow j i):=rfl
     go_wp2_with (at_builtin;refine wpList_append_out rfl _ _ rfl u6 ⟨wr.heap.size,0,none⟩ rfl rfl (B:=w.heap.size) (us:=us) (u:=.slice pr nr cr) ((OM.out.keep (grown_trans GR.out (World.grownBy_alloc _ _ none))).out) (cell_new1 _ _ rfl) rfl (by have h1:=HB.out;simp;omega) (by have:=HU.out;omega) ?_;intro v' w2 oo gg at2;have HO:Hid (Out w.heap.size w2 v' (us++[.slice pr nr cr])):=oo;have HG:Hid ((wr.alloc (.cells #[.slice pr nr cr] 31)).grownBy w2 u6.ownBlock):=gg;clear oo gg at2)
     have R:Hid (OwnMat w.heap.size w2 v' (us++[.slice pr nr cr]) (genUp j (i+1))/\Sep (us++[.slice pr nr cr])/\w.grownBy w2 none):=by
      rw[<- genUp_next]
      refine⟨(OM.out.keep (grown_trans GR.out (World.grownBy_alloc _ _ none))).more ((OR.out.down GK.out.size).keep (World.grownBy_alloc _ _ none)) (by have:=HU.out;omega) (by simpa using HO.out.row) HG.out,SP.out.more (H:=wa.heap.size) OM.out.hiRow OR.out.lo,?_⟩
      exact grown_new (grown_trans GK.out (grown_trans GR.out (World.grownBy_alloc _ _ none))) HG.out OM.out.lo
     clear HO HG OM OR HB SP
     go_roundw
     case rel=>exact⟨i+1,us++[Value.slice pr nr cr],by omega,by omega,by go_num,show _=_ by simpa using HU.out,R.out.1,R.out.2.1,R.out.2.2⟩
     case measure=>simp[intOf];omega
  ·obtain rfl:i=n:=by omega
   obtain⟨pm,nm,cm,rfl,hnm⟩:=OM.out.mat.row.opened
   clear hnm
   go_wp2
   go_ret2
   exact⟨pm,nm,cm,us,rfl,OM.out,SP.out,GK.out⟩
def combUp (G X:List (List Nat)) (L k i:Nat):List (List Nat):=(List.range i).map fun i=>combTo (G.getD i []) X L k
theorem combUp_next (G X:List (List Nat)) (L k i:Nat):combUp G X L k i++[combTo (G.getD i []) X L k]=combUp G X L k (i+1):=by simp[combUp,List.range_succ]
theorem mix_self (F:Nat->Nat) {L t:Nat} (h:t < L):(mix F (List.replicate L 0) t).set t 0=mix F (List.replicate L 0) t:=by
 apply List.ext_getElem
 ·simp
 ·intro i h1 h2
  by_cases e:t=i
  ·subst e
   have h:=mix_get F (List.replicate L 0) t (by simpa using h)
   rw[gd_of _ h2,getD_replicate _ _ _ _ (by assumption)] at h
   simp[h]
  ·simp[e]
theorem mix_comb (G X:List (List Nat)) (L k i:Nat):mix (fun t=>MX.xs (fun s=>M.mul (at2 G i s) (at2 X s t)) k) (List.replicate L 0) L=combTo (G.getD i []) X L k:=by
 have h:=mix_all (fun t=>MX.xs (fun s=>M.mul (at2 G i s) (at2 X s t)) k) (List.replicate L 0)
 rw[List.length_replicate] at h
 rw[h]
 rfl
set_option maxHeartbeats 8000000 in
set_option maxRecDepth 100000 in
theorem refTimes_any {w0:World} {g x:Value} {vg vx:List Value} {G X:List (List Nat)} {n k L:Nat} (ma:Mat w0 g vg G) (mb:Mat w0 x vx X) (sG:Shape G n k) (sX:Shape X k L) (hn1:1<=n) (hn:n<=255) (hk1:1<=k) (hk:k<=255) (hL1:1<=L) :
 Calls Tryz.prog 139 #[g,x] w0 fun e w'=>∃ p m c us,e=.returned (.slice p m c)/\OwnMat w0.heap.size w' (.slice p m c) us (combUp G X L k n)/\Sep us/\w0.grownBy w' none:=by
 obtain⟨q,N,cap,rfl,hN⟩:=ma.row.opened
 obtain⟨q',N',cap',rfl,hN'⟩:=mb.row.opened
 have hsa:=ma.same
 have hsb:=mb.same
 have hGl:=sG.len
 have hXl:=sX.len
 obtain rfl:n=N:=by omega
 obtain rfl:k=N':=by omega
 obtain⟨bx,ox,rfl,hd⟩:=mb.row.spot (k:=0) (by omega)
 obtain⟨p1,m,c1,e1,hm⟩:=(mb.vec 0 (by omega)).opened
 have hLl:L<=140737488351232:=by have:=(mb.vec 0 (by omega)).len;rw[sX.row 0 (by omega)] at this;exact this
 obtain rfl:L=m:=by rw[hm];exact (sX.row 0 (by omega)).symm
 rw[e1,Nat.add_zero] at hd
 obtain⟨bg,og,rfl,_⟩:=ma.row.spot (k:=0) (by omega)
 have KG:Hid (∀ w',w0.grownBy w' none->Mat w' (.slice (some ⟨bg,og,none⟩) n cap) vg G):=fun w' g=>ma.keep g
 have KX:Hid (∀ w',w0.grownBy w' none->Mat w' (.slice (some ⟨bx,ox,none⟩) k cap') vx X):=fun w' g=>mb.keep g
 have KD:Hid (∀ w',w0.grownBy w' none->w'.cell? ⟨bx,ox,none⟩=some (.slice p1 L c1)):=fun w' g=>g.cell (show w0.cell? ⟨bx,ox,none⟩=some (.slice p1 L c1) from hd) (by simp)
 have HS:Hid (Shape G n k/\Shape X k L):=⟨sG,sX⟩
 have hpos1:(0:Int) < (k:Int):=by omega
 clear hN hN' hsa hsb hGl hXl hd e1 hm ma mb sG sX
 go_enter Tryz.func139,Tryz.ntmps139
 go_wp2_with fail
 go_loopw [5,6] (fun tv ti wr=>∃ (i:Nat) (us:List Value),i<=n/\ti=.int .i64 i/\Hid (us.length=i)/\Hid (OwnMat w0.heap.size wr tv us (combUp G X L k i))/\Hid (Sep us)/\Hid (w0.grownBy wr none)) (fun _ ti _=>n - (intOf ti).toNat)
 case atStart=>exact⟨0,[],by omega,rfl,rfl,OwnMat.nil _ _,(fun i j hi=>by simp at hi),World.grownBy.refl _ _⟩
 case round =>
  obtain⟨i,us,hi,rfl,HU,OM,SP,GK⟩:=hrel
  obtain⟨wa,hwa⟩:∃ wa,wa=wr:=⟨wr,rfl⟩
  subst hwa
  by_cases hlt:i < n
  ·have i1:(i:Int) < (n:Int):=by omega
   have i3:(0:Int)<=(i:Int):=by omega
   have hd0:=KD.out _ GK.out
   go_wp2_with (at_make;refine wpList_make_vec rfl _ _ rfl L rfl rfl hLl ?_;intro w1 p ou g1;have OU:Hid (Own wa.heap.size w1 (.slice p L L) (List.replicate L 0)):=ou;have G1':Hid (wa.grownBy w1 none):=g1;clear ou g1)
   clear hd0
   obtain⟨gu,rfl,q1,q2,q3,q4,q5,q6⟩:=OU.out.spot (k:=0) (by simp;omega)
   clear q1 q2 q3 q4 q5 q6
   go_loopw [8] (fun ti wr=>∃ (t:Nat),t<=L/\ti=.int .i64 t/\Hid (Own wa.heap.size wr (.slice (some ⟨gu,0,none⟩) L L) (mix (fun t=>MX.xs (fun s=>M.mul (at2 G i s) (at2 X s t)) k) (List.replicate L 0) t))/\Hid (wa.grownBy wr none)) (fun ti _=>L - (intOf ti).toNat)
   case atStart=>exact⟨0,by omega,rfl,by rw[mix_zero];exact OU,G1'⟩
   case round =>
    clear OU G1'
    obtain⟨t,ht,rfl,OJ,GJ⟩:=hrel
    by_cases htl:t < L
    ·have j1:(t:Int) < (L:Int):=by omega
     have j3:(0:Int)<=(t:Int):=by omega
     go_wp2_with fail
     go_loopw [9] (fun tj wr=>∃ (j:Nat),j<=k/\tj=.int .i64 j/\Hid (Own wa.heap.size wr (.slice (some ⟨gu,0,none⟩) L L) ((mix (fun t=>MX.xs (fun s=>M.mul (at2 G i s) (at2 X s t)) k) (List.replicate L 0) t).set t (MX.xs (fun s=>M.mul (at2 G i s) (at2 X s t)) j)))/\Hid (wa.grownBy wr none)) (fun tj _=>k - (intOf tj).toNat)
     case atStart=>exact⟨0,by omega,rfl,by have h:=OJ.out;rw[<- mix_self (fun t=>MX.xs (fun s=>M.mul (at2 G i s) (at2 X s t)) k) htl] at h;exact h,GJ⟩
     case round =>
      obtain⟨j,hj,rfl,OS,GS⟩:=hrel
      by_cases hjl:j < k
      ·have s1:(j:Int) < (k:Int):=by omega
       have s3:(0:Int)<=(j:Int):=by omega
       have GW:w0.grownBy wr.drew none:=grown_trans (grown_trans GK.out GS.out) (grown_drewN _ 1)
       have mg:=KG.out _ GW
       have mx:=KX.out _ GW
       have hgl:=mg.same
       have hxl:=mx.same
       have hGl:=HS.out.1.len
       have hXl:=HS.out.2.len
       obtain⟨b2,o2,e2,hra⟩:=mg.row.spot (k:=i) (by omega)
       obtain⟨rfl,rfl⟩:bg=b2/\og=o2:=by
        injection e2 with e2
        injection e2 with e3 e4
        exact⟨e3,e4⟩
       have va':=mg.vec i (by omega)
       obtain⟨pk,nk,ck,ek,hnk⟩:=va'.opened
       rw[ek] at hra va'
       have hXr:=HS.out.1.row i hlt
       obtain⟨bk,ok,rfl,hax,hx256⟩:=va'.spot (k:=j) (by omega)
       obtain⟨b3,o3,e3,hrb⟩:=mx.row.spot (k:=j) (by omega)
       obtain⟨rfl,rfl⟩:bx=b3/\ox=o3:=by
        injection e3 with e3
        injection e3 with e4 e5
        exact⟨e4,e5⟩
       have vb':=mx.vec j (by omega)
       obtain⟨pt,nt,ct,et,hnt⟩:=vb'.opened
       rw[et] at hrb vb'
       have hYr:=HS.out.2.row j hjl
       obtain⟨bt,ot,rfl,hbx,hy256⟩:=vb'.spot (k:=t) (by omega)
       have s4:(j:Int) < (nk:Int):=by omega
       have s5:(t:Int) < (nt:Int):=by omega
       have hS:MX.xs (fun s=>M.mul (at2 G i s) (at2 X s t)) j < 256:=MX.xs_lt fun s _=>M.mul_lt _ (mat_small mg i s)
       have hm256:M.mul ((G.getD i []).getD j 0) ((X.getD j []).getD t 0) < 256:=M.mul_lt _ hx256
       have hxe:=u8_xor_nat (MX.xs (fun s=>M.mul (at2 G i s) (at2 X s t)) j) (M.mul ((G.getD i []).getD j 0) ((X.getD j []).getD t 0)) hS hm256
       obtain⟨g',e',hz,hcs,hf,hz2,hset,hgr⟩:=OS.out.spot (k:=t) (by rw[List.length_set,mix_len];simp;omega)
       obtain rfl:gu=g':=(by injection e' with e';injection e' with e')
       rw[getD_set_self _ _ _ _ (by rw[mix_len];simp;omega)] at hcs
       have hnew:=M.xor_lt hS hm256
       have HN:Hid (Own wa.heap.size (wr.setCell ⟨gu,t,none⟩ (.int .u8 ((MX.xs (fun s=>M.mul (at2 G i s) (at2 X s t)) j ^^^ M.mul ((G.getD i []).getD j 0) ((X.getD j []).getD t 0):Nat):Int))).drew (.slice (some ⟨gu,0,none⟩) L L) ((mix (fun t=>MX.xs (fun s=>M.mul (at2 G i s) (at2 X s t)) k) (List.replicate L 0) t).set t (MX.xs (fun s=>M.mul (at2 G i s) (at2 X s t)) (j+1)))):=by
        have h:=(hset _ hnew).keep (grown_drewN _ 1)
        rw[List.set_set] at h
        exact h
       have HGN:Hid (wa.grownBy (wr.setCell ⟨gu,t,none⟩ (.int .u8 ((MX.xs (fun s=>M.mul (at2 G i s) (at2 X s t)) j ^^^ M.mul ((G.getD i []).getD j 0) ((X.getD j []).getD t 0):Nat):Int))).drew none):=grown_trans (grown_new GS.out (hgr _) (fun r e=>OS.out.lo r e)) (grown_drewN _ 1)
       have K4:Hid (∀ W,w0.grownBy W none->W.cell? ⟨bg,og+i,none⟩=some (.slice (some ⟨bk,ok,none⟩) nk ck)/\W.cell? ⟨bk,ok+j,none⟩=some (.int .u8 (((G.getD i []).getD j 0:Nat):Int))/\W.cell? ⟨bx,ox+j,none⟩=some (.slice (some ⟨bt,ot,none⟩) nt ct)/\W.cell? ⟨bt,ot+t,none⟩=some (.int .u8 (((X.getD j []).getD t 0:Nat):Int))):=fun W gW=>by
        have mg:=KG.out _ gW
        have mx:=KX.out _ gW
        obtain⟨b2,o2,e2,r1⟩:=mg.row.spot (k:=i) (by omega)
        injection e2 with e2
        injection e2 with e2 e2'
        subst e2 e2'
        have va':=mg.vec i (by omega)
        rw[ek] at r1 va'
        obtain⟨b4,o4,e4,r2,_⟩:=va'.spot (k:=j) (by omega)
        injection e4 with e4
        injection e4 with e4 e4'
        subst e4 e4'
        obtain⟨b3,o3,e3,r3⟩:=mx.row.spot (k:=j) (by omega)
        injection e3 with e3
        injection e3 with e3 e3'
        subst e3 e3'
        have vb':=mx.vec j (by omega)
        rw[et] at r3 vb'
        obtain⟨b5,o5,e5,r4,_⟩:=vb'.spot (k:=t) (by omega)
        injection e5 with e5
        injection e5 with e5 e5'
        subst e5 e5'
        exact⟨r1,r2,r3,r4⟩
       generalize hNL:(mix (fun t=>MX.xs (fun s=>M.mul (at2 G i s) (at2 X s t)) k) (List.replicate L 0) t).set t (MX.xs (fun s=>M.mul (at2 G i s) (at2 X s t)) (j+1))=NL at *
       have HNL:Hid ((mix (fun t=>MX.xs (fun s=>M.mul (at2 G i s) (at2 X s t)) k) (List.replicate L 0) t).set t (MX.xs (fun s=>M.mul (at2 G i s) (at2 X s t)) (j+1))=NL):=hNL
       clear hNL
       have HGD:Hid (w0.grownBy wr.drew none):=GW
       have HGD2:Hid (w0.grownBy (wr.setCell ⟨gu,t,none⟩ (.int .u8 ((MX.xs (fun s=>M.mul (at2 G i s) (at2 X s t)) j ^^^ M.mul ((G.getD i []).getD j 0) ((X.getD j []).getD t 0):Nat):Int))).drew none):=grown_trans GK.out HGN.out
       clear hset hgr hz hz2 e' OS GS mg mx hgl hxl hGl hXl hra hax hrb hbx
       generalize MX.xs (fun s=>M.mul (at2 G i s) (at2 X s t)) j=S0 at *
       generalize (G.getD i []).getD j 0=x at *
       generalize (X.getD j []).getD t 0=y at *
       have MM:Hid (∀ w',Calls Tryz.prog 117 #[.int .u8 (x:Int),.int .u8 (y:Int)] w' fun e w''=>e=.returned (.int .u8 ((M.mul x y:Nat):Int))/\w''=w'):=fun w'=>refMul_any _ _ w' (by omega) (by omega) (by omega) (by omega)
       generalize M.mul x y=z at *
       generalize S0 ^^^ z=r at *
       clear GW e2 e3 ek et va' vb' hnk hnt hXr hYr
       have j6:t < L:=htl
       go_wp2_with fail
       obtain⟨hra,hax,hrb,hbx⟩:=K4.out _ HGD.out
       clear K4 HGD HGD2
       go_region_with (go_at_call 117;refine (MM.out _).mono ?_;rintro e w3 ⟨rfl,hw⟩;obtain rfl:=hw.symm;clear hw)
       all_goals
        go_wp2
        go_roundw
        case rel=>exact⟨j+1,by omega,by go_num,by rw[HNL.out];exact HN,HGN⟩
        case measure=>simp[intOf];omega
      ·obtain rfl:j=k:=by omega
       have OS':Hid (Own wa.heap.size wr (.slice (some ⟨gu,0,none⟩) L L) (mix (fun t=>MX.xs (fun s=>M.mul (at2 G i s) (at2 X s t)) j) (List.replicate L 0) (t+1))):=by
        have h:=OS.out
        rw[mix_set (fun t=>MX.xs (fun s=>M.mul (at2 G i s) (at2 X s t)) j)] at h
        exact h
       clear OS
       go_wp2
       go_roundw
       case rel=>exact⟨t+1,by omega,by go_num,OS',GS⟩
       case measure=>simp[intOf];omega
    ·obtain rfl:t=L:=by omega
     have OJ':Hid (Own wa.heap.size wr (.slice (some ⟨gu,0,none⟩) t t) (combTo (G.getD i []) X t k)):=by
      have h:=OJ.out
      rw[mix_comb] at h
      exact h
     have HB:Hid (w0.heap.size<=wr.heap.size):=Nat.le_trans GK.out.size GJ.out.size
     clear OJ
     go_wp2_with (at_builtin;refine wpList_append_out rfl _ _ rfl u5 ⟨wr.heap.size,0,none⟩ rfl rfl (B:=w0.heap.size) (us:=us) (u:=.slice (some ⟨gu,0,none⟩) t t) ((OM.out.keep (grown_trans GJ.out (World.grownBy_alloc _ _ none))).out) (cell_new1 _ _ rfl) rfl (by have h1:=HB.out;simp;omega) (by have:=HU.out;omega) ?_;intro v' w2 oo gg at2;have HO:Hid (Out w0.heap.size w2 v' (us++[.slice (some ⟨gu,0,none⟩) t t])):=oo;have HG:Hid ((wr.alloc (.cells #[.slice (some ⟨gu,0,none⟩) t t] 31)).grownBy w2 u5.ownBlock):=gg;clear oo gg at2)
     have R:Hid (OwnMat w0.heap.size w2 v' (us++[.slice (some ⟨gu,0,none⟩) t t]) (combUp G X t k (i+1))/\Sep (us++[.slice (some ⟨gu,0,none⟩) t t])/\w0.grownBy w2 none):=by
      rw[<- combUp_next]
      refine⟨(OM.out.keep (grown_trans GJ.out (World.grownBy_alloc _ _ none))).more ((OJ'.out.down GK.out.size).keep (World.grownBy_alloc _ _ none)) (by have:=HU.out;omega) (by simpa using HO.out.row) HG.out,SP.out.more (H:=wa.heap.size) OM.out.hiRow OJ'.out.lo,?_⟩
      exact grown_new (grown_trans GK.out (grown_trans GJ.out (World.grownBy_alloc _ _ none))) HG.out OM.out.lo
     clear HO HG OM OJ' HB SP
     go_roundw
     case rel=>exact⟨i+1,us++[Value.slice (some ⟨gu,0,none⟩) t t],by omega,by go_num,show _=_ by simpa using HU.out,R.out.1,R.out.2.1,R.out.2.2⟩
     case measure=>simp[intOf];omega
  ·obtain rfl:i=n:=by omega
   obtain⟨pm,nm,cm,rfl,hnm⟩:=OM.out.mat.row.opened
   clear hnm
   go_wp2
   go_ret
   exact⟨pm,nm,cm,us,rfl,OM.out,SP.out,GK.out⟩
theorem enc_comb (X:List (List Nat)) (k n L:Nat):combUp (genList k n) X L k n=codeList X k n L:=by
 refine List.map_congr_left fun i hi=>?_
 rw[show (genList k n).getD i []=genRow k i from by simp[genList,List.getD,List.mem_range.1 hi],code_of_gen]
theorem code_none (X:List (List Nat)) (k n:Nat):codeList X k n 0=List.replicate n []:=by
 apply List.ext_getElem
 ·simp[codeList]
 ·intro i h1 h2
  simp[codeList,codeRow]
theorem genList_shape (k n:Nat):Shape (genList k n) n k:=⟨by simp[genList],fun j hj=>by simp[genList,List.getD,hj,genRow_len]⟩
set_option maxHeartbeats 8000000 in
set_option maxRecDepth 100000 in
theorem refEncode_yes {w:World} {x:Value} {vx:List Value} {X:List (List Nat)} {k n L:Nat} (mb:Mat w x vx X) (sX:Shape X k L) (hk1:1<=k) (hkn:k < n) (hn:n<=255) :
 Calls Tryz.prog 85 #[.int .i64 (k:Int),.int .i64 (n:Int),x] w (Made w (codeList X k n L) 0):=by
 unfold Made
 have FF:Hid (∀ w,Calls Tryz.prog 83 #[.int .i64 (k:Int),.int .i64 (n:Int)] w fun e w'=>e=.returned (.bool true)/\w'=w):=fun w=>by
  have h:=refMay4_any (k:Int) (n:Int) w
  rw[show mayI k n=true from mayI_iff.2 (by omega)] at h
  exact h
 have EE:Hid (Calls Tryz.prog 115 #[x] w fun e w'=>e=.returned (.bool true)/\w.grownBy w' none):=by
  have h:=refEven_any mb
  rw[show evenB X=true from evenB_iff.2 fun j hj=>by rw[sX.row j (by rw[<- sX.len];exact hj),sX.row 0 (by omega)]] at h
  exact h
 have GG:Hid (∀ w,Calls Tryz.prog 116 #[.int .i64 (k:Int),.int .i64 (n:Int)] w (Made w (genList k n) 0)):=fun w=>refGen_yes k n w hk1 hkn hn
 unfold Made at GG
 obtain⟨q',N',cap',rfl,hN'⟩:=mb.row.opened
 have hsb:=mb.same
 have hXl:=sX.len
 obtain rfl:k=N':=by omega
 obtain⟨bx,ox,rfl,hd⟩:=mb.row.spot (k:=0) (by omega)
 obtain⟨p1,m,c1,e1,hm⟩:=(mb.vec 0 (by omega)).opened
 have hLl:L<=140737488351232:=by have:=(mb.vec 0 (by omega)).len;rw[sX.row 0 (by omega)] at this;exact this
 obtain rfl:L=m:=by rw[hm];exact (sX.row 0 (by omega)).symm
 rw[e1,Nat.add_zero] at hd
 have KXw:Hid (∀ w',w.grownBy w' none->Mat w' (.slice (some ⟨bx,ox,none⟩) k cap') vx X):=fun w' g=>mb.keep g
 have KDw:Hid (∀ w',w.grownBy w' none->w'.cell? ⟨bx,ox,none⟩=some (.slice p1 L c1)):=fun w' g=>g.cell (show w.cell? ⟨bx,ox,none⟩=some (.slice p1 L c1) from hd) (by simp)
 have HSX:Hid (Shape X k L):=sX
 have hpos1:(0:Int) < (k:Int):=by omega
 clear hN' hsb hXl hd e1 hm mb sX
 by_cases hL0:L=0
 ·subst hL0
  go_enter Tryz.func85,Tryz.ntmps85
  go_wp2_with (first
   | (go_at_call 83;refine (FF.out _).mono ?_;rintro e w1 ⟨rfl,hw⟩;obtain rfl:=hw.symm;clear hw)
   | (go_at_call 115;refine EE.out.mono ?_;rintro e we ⟨rfl,ge⟩;have hd0:=KDw.out _ ge;have GE:Hid (w.grownBy we none):=ge;clear ge)
   | (at_make;refine wpList_make_chunks rfl _ _ rfl n rfl rfl (by omega) ?_;intro w2 p om g2;have OM:Hid (OwnMat we.heap.size w2 (.slice p n n) (List.replicate n (.slice none 0 0)) (List.replicate n [])):=om;have G2:Hid (w.grownBy w2 none):=grown_trans GE.out g2;clear om g2))
  go_ret2
  exact⟨p,n,n,_,rfl,by rw[code_none];exact OM.out.down GE.out.size,Sep.nils n,G2.out⟩
 ·have hL1:1<=L:=by omega
  have hLe:((L:Int)==0)=false:=by simp;omega
  have hLe2:¬ ((L:Int)=0):=by omega
  clear hL0
  go_enter Tryz.func85,Tryz.ntmps85
  go_wp2_with (first
   | (go_at_call 83;refine (FF.out _).mono ?_;rintro e w1 ⟨rfl,hw⟩;obtain rfl:=hw.symm;clear hw)
   | (go_at_call 115;refine EE.out.mono ?_;rintro e we ⟨rfl,ge⟩;have hd0:=KDw.out _ ge;have GE:Hid (w.grownBy we none):=ge;clear ge))
  refine (GG.out _).mono ?_
  rintro e w0 ⟨pg,ng,cg,vg,rfl,om,sp,g0⟩
  obtain⟨G,hG⟩:∃ G,G=genList k n:=⟨_,rfl⟩
  rw[<- hG] at om
  have HGE:Hid (G=genList k n):=hG
  have sG:Shape G n k:=by rw[hG];exact genList_shape k n
  obtain rfl:n=ng:=by
   obtain⟨_,_,_,e,hn'⟩:=om.mat.row.opened
   injection e with _ e2 _
   have:=om.same
   have:=sG.len
   omega
  obtain⟨bg,og,rfl,_⟩:=om.mat.row.spot (k:=0) (by have:=om.same;have:=sG.len;omega)
  have G0:Hid (w.grownBy w0 none):=grown_trans GE.out g0
  have KG:Hid (∀ w',w0.grownBy w' none->Mat w' (.slice (some ⟨bg,og,none⟩) n cg) vg G):=fun w' g=>om.mat.keep g
  have KX:Hid (∀ w',w0.grownBy w' none->Mat w' (.slice (some ⟨bx,ox,none⟩) k cap') vx X):=fun w' g=>KXw.out _ (grown_trans G0.out g)
  have KD:Hid (∀ w',w0.grownBy w' none->w'.cell? ⟨bx,ox,none⟩=some (.slice p1 L c1)):=fun w' g=>KDw.out _ (grown_trans G0.out g)
  have HS:Hid (Shape G n k/\Shape X k L):=⟨sG,HSX.out⟩
  have hk:k<=255:=by omega
  clear hG om sp g0 sG hd0 GE KXw KDw HSX GG FF EE
  go_wp2_with fail
  go_loopw [10,11] (fun tv ti wr=>∃ (i:Nat) (us:List Value),i<=n/\ti=.int .i64 i/\Hid (us.length=i)/\Hid (OwnMat w0.heap.size wr tv us (combUp G X L k i))/\Hid (Sep us)/\Hid (w0.grownBy wr none)) (fun _ ti _=>n - (intOf ti).toNat)
  case atStart=>exact⟨0,[],by omega,rfl,rfl,OwnMat.nil _ _,(fun i j hi=>by simp at hi),World.grownBy.refl _ _⟩
  case round =>
   obtain⟨i,us,hi,rfl,HU,OM,SP,GK⟩:=hrel
   obtain⟨wa,hwa⟩:∃ wa,wa=wr:=⟨wr,rfl⟩
   subst hwa
   by_cases hlt:i < n
   ·have i1:(i:Int) < (n:Int):=by omega
    have i3:(0:Int)<=(i:Int):=by omega
    have hd0:=KD.out _ GK.out
    go_wp2_with (at_make;refine wpList_make_vec rfl _ _ rfl L rfl rfl hLl ?_;intro w1 p ou g1;have OU:Hid (Own wa.heap.size w1 (.slice p L L) (List.replicate L 0)):=ou;have G1':Hid (wa.grownBy w1 none):=g1;clear ou g1)
    clear hd0
    obtain⟨gu,rfl,q1,q2,q3,q4,q5,q6⟩:=OU.out.spot (k:=0) (by simp;omega)
    clear q1 q2 q3 q4 q5 q6
    go_loopw [13] (fun ti wr=>∃ (t:Nat),t<=L/\ti=.int .i64 t/\Hid (Own wa.heap.size wr (.slice (some ⟨gu,0,none⟩) L L) (mix (fun t=>MX.xs (fun s=>M.mul (at2 G i s) (at2 X s t)) k) (List.replicate L 0) t))/\Hid (wa.grownBy wr none)) (fun ti _=>L - (intOf ti).toNat)
    case atStart=>exact⟨0,by omega,rfl,by rw[mix_zero];exact OU,G1'⟩
    case round =>
     clear OU G1'
     obtain⟨t,ht,rfl,OJ,GJ⟩:=hrel
     by_cases htl:t < L
     ·have j1:(t:Int) < (L:Int):=by omega
      have j3:(0:Int)<=(t:Int):=by omega
      go_wp2_with fail
      go_loopw [14] (fun tj wr=>∃ (j:Nat),j<=k/\tj=.int .i64 j/\Hid (Own wa.heap.size wr (.slice (some ⟨gu,0,none⟩) L L) ((mix (fun t=>MX.xs (fun s=>M.mul (at2 G i s) (at2 X s t)) k) (List.replicate L 0) t).set t (MX.xs (fun s=>M.mul (at2 G i s) (at2 X s t)) j)))/\Hid (wa.grownBy wr none)) (fun tj _=>k - (intOf tj).toNat)
      case atStart=>exact⟨0,by omega,rfl,by have h:=OJ.out;rw[<- mix_self (fun t=>MX.xs (fun s=>M.mul (at2 G i s) (at2 X s t)) k) htl] at h;exact h,GJ⟩
      case round =>
       obtain⟨j,hj,rfl,OS,GS⟩:=hrel
       by_cases hjl:j < k
       ·have s1:(j:Int) < (k:Int):=by omega
        have s3:(0:Int)<=(j:Int):=by omega
        have GW:w0.grownBy wr.drew none:=grown_trans (grown_trans GK.out GS.out) (grown_drewN _ 1)
        have mg:=KG.out _ GW
        have mx:=KX.out _ GW
        have hgl:=mg.same
        have hxl:=mx.same
        have hGl:=HS.out.1.len
        have hXl:=HS.out.2.len
        obtain⟨b2,o2,e2,hra⟩:=mg.row.spot (k:=i) (by omega)
        obtain⟨rfl,rfl⟩:bg=b2/\og=o2:=by
         injection e2 with e2
         injection e2 with e3 e4
         exact⟨e3,e4⟩
        have va':=mg.vec i (by omega)
        obtain⟨pk,nk,ck,ek,hnk⟩:=va'.opened
        rw[ek] at hra va'
        have hXr:=HS.out.1.row i hlt
        obtain⟨bk,ok,rfl,hax,hx256⟩:=va'.spot (k:=j) (by omega)
        obtain⟨b3,o3,e3,hrb⟩:=mx.row.spot (k:=j) (by omega)
        obtain⟨rfl,rfl⟩:bx=b3/\ox=o3:=by
         injection e3 with e3
         injection e3 with e4 e5
         exact⟨e4,e5⟩
        have vb':=mx.vec j (by omega)
        obtain⟨pt,nt,ct,et,hnt⟩:=vb'.opened
        rw[et] at hrb vb'
        have hYr:=HS.out.2.row j hjl
        obtain⟨bt,ot,rfl,hbx,hy256⟩:=vb'.spot (k:=t) (by omega)
        have s4:(j:Int) < (nk:Int):=by omega
        have s5:(t:Int) < (nt:Int):=by omega
        have hS:MX.xs (fun s=>M.mul (at2 G i s) (at2 X s t)) j < 256:=MX.xs_lt fun s _=>M.mul_lt _ (mat_small mg i s)
        have hm256:M.mul ((G.getD i []).getD j 0) ((X.getD j []).getD t 0) < 256:=M.mul_lt _ hx256
        have hxe:=u8_xor_nat (MX.xs (fun s=>M.mul (at2 G i s) (at2 X s t)) j) (M.mul ((G.getD i []).getD j 0) ((X.getD j []).getD t 0)) hS hm256
        obtain⟨g',e',hz,hcs,hf,hz2,hset,hgr⟩:=OS.out.spot (k:=t) (by rw[List.length_set,mix_len];simp;omega)
        obtain rfl:gu=g':=(by injection e' with e';injection e' with e')
        rw[getD_set_self _ _ _ _ (by rw[mix_len];simp;omega)] at hcs
        have hnew:=M.xor_lt hS hm256
        have HN:Hid (Own wa.heap.size (wr.setCell ⟨gu,t,none⟩ (.int .u8 ((MX.xs (fun s=>M.mul (at2 G i s) (at2 X s t)) j ^^^ M.mul ((G.getD i []).getD j 0) ((X.getD j []).getD t 0):Nat):Int))).drew (.slice (some ⟨gu,0,none⟩) L L) ((mix (fun t=>MX.xs (fun s=>M.mul (at2 G i s) (at2 X s t)) k) (List.replicate L 0) t).set t (MX.xs (fun s=>M.mul (at2 G i s) (at2 X s t)) (j+1)))):=by
         have h:=(hset _ hnew).keep (grown_drewN _ 1)
         rw[List.set_set] at h
         exact h
        have HGN:Hid (wa.grownBy (wr.setCell ⟨gu,t,none⟩ (.int .u8 ((MX.xs (fun s=>M.mul (at2 G i s) (at2 X s t)) j ^^^ M.mul ((G.getD i []).getD j 0) ((X.getD j []).getD t 0):Nat):Int))).drew none):=grown_trans (grown_new GS.out (hgr _) (fun r e=>OS.out.lo r e)) (grown_drewN _ 1)
        have K4:Hid (∀ W,w0.grownBy W none->W.cell? ⟨bg,og+i,none⟩=some (.slice (some ⟨bk,ok,none⟩) nk ck)/\W.cell? ⟨bk,ok+j,none⟩=some (.int .u8 (((G.getD i []).getD j 0:Nat):Int))/\W.cell? ⟨bx,ox+j,none⟩=some (.slice (some ⟨bt,ot,none⟩) nt ct)/\W.cell? ⟨bt,ot+t,none⟩=some (.int .u8 (((X.getD j []).getD t 0:Nat):Int))):=fun W gW=>by
         have mg:=KG.out _ gW
         have mx:=KX.out _ gW
         obtain⟨b2,o2,e2,r1⟩:=mg.row.spot (k:=i) (by omega)
         injection e2 with e2
         injection e2 with e2 e2'
         subst e2 e2'
         have va':=mg.vec i (by omega)
         rw[ek] at r1 va'
         obtain⟨b4,o4,e4,r2,_⟩:=va'.spot (k:=j) (by omega)
         injection e4 with e4
         injection e4 with e4 e4'
         subst e4 e4'
         obtain⟨b3,o3,e3,r3⟩:=mx.row.spot (k:=j) (by omega)
         injection e3 with e3
         injection e3 with e3 e3'
         subst e3 e3'
         have vb':=mx.vec j (by omega)
         rw[et] at r3 vb'
         obtain⟨b5,o5,e5,r4,_⟩:=vb'.spot (k:=t) (by omega)
         injection e5 with e5
         injection e5 with e5 e5'
         subst e5 e5'
         exact⟨r1,r2,r3,r4⟩
        generalize hNL:(mix (fun t=>MX.xs (fun s=>M.mul (at2 G i s) (at2 X s t)) k) (List.replicate L 0) t).set t (MX.xs (fun s=>M.mul (at2 G i s) (at2 X s t)) (j+1))=NL at *
        have HNL:Hid ((mix (fun t=>MX.xs (fun s=>M.mul (at2 G i s) (at2 X s t)) k) (List.replicate L 0) t).set t (MX.xs (fun s=>M.mul (at2 G i s) (at2 X s t)) (j+1))=NL):=hNL
        clear hNL
        have HGD:Hid (w0.grownBy wr.drew none):=GW
        have HGD2:Hid (w0.grownBy (wr.setCell ⟨gu,t,none⟩ (.int .u8 ((MX.xs (fun s=>M.mul (at2 G i s) (at2 X s t)) j ^^^ M.mul ((G.getD i []).getD j 0) ((X.getD j []).getD t 0):Nat):Int))).drew none):=grown_trans GK.out HGN.out
        clear hset hgr hz hz2 e' OS GS mg mx hgl hxl hGl hXl hra hax hrb hbx
        generalize MX.xs (fun s=>M.mul (at2 G i s) (at2 X s t)) j=S0 at *
        generalize (G.getD i []).getD j 0=x at *
        generalize (X.getD j []).getD t 0=y at *
        have MM:Hid (∀ w',Calls Tryz.prog 117 #[.int .u8 (x:Int),.int .u8 (y:Int)] w' fun e w''=>e=.returned (.int .u8 ((M.mul x y:Nat):Int))/\w''=w'):=fun w'=>refMul_any _ _ w' (by omega) (by omega) (by omega) (by omega)
        generalize M.mul x y=z at *
        generalize S0 ^^^ z=r at *
        clear GW e2 e3 ek et va' vb' hnk hnt hXr hYr
        have j6:t < L:=htl
        go_wp2_with fail
        obtain⟨hra,hax,hrb,hbx⟩:=K4.out _ HGD.out
        clear K4 HGD HGD2
        go_region_with (go_at_call 117;refine (MM.out _).mono ?_;rintro e w3 ⟨rfl,hw⟩;obtain rfl:=hw.symm;clear hw)
        all_goals
         go_wp2
         go_roundw
         case rel=>exact⟨j+1,by omega,by go_num,by rw[HNL.out];exact HN,HGN⟩
         case measure=>simp[intOf];omega
       ·obtain rfl:j=k:=by omega
        have OS':Hid (Own wa.heap.size wr (.slice (some ⟨gu,0,none⟩) L L) (mix (fun t=>MX.xs (fun s=>M.mul (at2 G i s) (at2 X s t)) j) (List.replicate L 0) (t+1))):=by
         have h:=OS.out
         rw[mix_set (fun t=>MX.xs (fun s=>M.mul (at2 G i s) (at2 X s t)) j)] at h
         exact h
        clear OS
        go_wp2
        go_roundw
        case rel=>exact⟨t+1,by omega,by go_num,OS',GS⟩
        case measure=>simp[intOf];omega
     ·obtain rfl:t=L:=by omega
      have OJ':Hid (Own wa.heap.size wr (.slice (some ⟨gu,0,none⟩) t t) (combTo (G.getD i []) X t k)):=by
       have h:=OJ.out
       rw[mix_comb] at h
       exact h
      have HB:Hid (w0.heap.size<=wr.heap.size):=Nat.le_trans GK.out.size GJ.out.size
      clear OJ
      go_wp2_with (at_builtin;refine wpList_append_out rfl _ _ rfl u10 ⟨wr.heap.size,0,none⟩ rfl rfl (B:=w0.heap.size) (us:=us) (u:=.slice (some ⟨gu,0,none⟩) t t) ((OM.out.keep (grown_trans GJ.out (World.grownBy_alloc _ _ none))).out) (cell_new1 _ _ rfl) rfl (by have h1:=HB.out;simp;omega) (by have:=HU.out;omega) ?_;intro v' w2 oo gg at2;have HO:Hid (Out w0.heap.size w2 v' (us++[.slice (some ⟨gu,0,none⟩) t t])):=oo;have HG:Hid ((wr.alloc (.cells #[.slice (some ⟨gu,0,none⟩) t t] 31)).grownBy w2 u10.ownBlock):=gg;clear oo gg at2)
      have R:Hid (OwnMat w0.heap.size w2 v' (us++[.slice (some ⟨gu,0,none⟩) t t]) (combUp G X t k (i+1))/\Sep (us++[.slice (some ⟨gu,0,none⟩) t t])/\w0.grownBy w2 none):=by
       rw[<- combUp_next]
       refine⟨(OM.out.keep (grown_trans GJ.out (World.grownBy_alloc _ _ none))).more ((OJ'.out.down GK.out.size).keep (World.grownBy_alloc _ _ none)) (by have:=HU.out;omega) (by simpa using HO.out.row) HG.out,SP.out.more (H:=wa.heap.size) OM.out.hiRow OJ'.out.lo,?_⟩
       exact grown_new (grown_trans GK.out (grown_trans GJ.out (World.grownBy_alloc _ _ none))) HG.out OM.out.lo
      clear HO HG OM OJ' HB SP
      go_roundw
      case rel=>exact⟨i+1,us++[Value.slice (some ⟨gu,0,none⟩) t t],by omega,by go_num,show _=_ by simpa using HU.out,R.out.1,R.out.2.1,R.out.2.2⟩
      case measure=>simp[intOf];omega
   ·obtain rfl:i=n:=by omega
    obtain⟨pm,nm,cm,rfl,hnm⟩:=OM.out.mat.row.opened
    clear hnm
    go_wp2
    go_ret2
    have h:=OM.out.down G0.out.size
    rw[HGE.out,enc_comb] at h
    exact⟨pm,nm,cm,us,rfl,h,SP.out,grown_trans G0.out GK.out⟩
structure IVec (w:World) (v:Value) (ls:List Int):Prop where
 len:ls.length<=140737488351232
 form:∃ p cap,v=.slice p ls.length cap/\ls.length<=cap/\cap<=maxLen /\
  (ls ≠ []->∃ b off,p=some ⟨b,off,none⟩/\∀ j,j < ls.length->w.cell? ⟨b,off+j,none⟩=some (.int .i64 (ls.getD j 0)))
theorem IVec.opened {w:World} {v:Value} {ls:List Int} (h:IVec w v ls):∃ p n cap,v=.slice p n cap/\n=ls.length:=by
 obtain⟨p,cap,e,_⟩:=h.form
 exact⟨p,_,cap,e,rfl⟩
theorem IVec.spot {w:World} {p:Option Addr} {n cap:Nat} {ls:List Int} (h:IVec w (.slice p n cap) ls) {k:Nat} (hk:k < ls.length) :
 ∃ b off,p=some ⟨b,off,none⟩/\w.cell? ⟨b,off+k,none⟩=some (.int .i64 (ls.getD k 0)):=by
 obtain⟨p',c',e,_,_,h5⟩:=h.form
 injection e with e1 e2 e3
 subst e1
 obtain⟨b,off,rfl,hc⟩:=h5 (fun e=>by subst e;simp at hk)
 exact⟨b,off,rfl,hc k hk⟩
theorem IVec.keep {w w':World} {v:Value} {ls:List Int} (h:IVec w v ls) (g:w.grownBy w' none):IVec w' v ls:=by
 obtain⟨h2,p,cap,rfl,h3,h4,h5⟩:=h
 refine⟨h2,p,cap,rfl,h3,h4,fun hx=>?_⟩
 obtain⟨b,off,rfl,hc⟩:=h5 hx
 exact⟨b,off,rfl,fun j hj=>g.cell (hc j hj) (by simp)⟩
def rowsOK (X:List (List Nat)) (ls:List Int):Prop:=mayB X=true/\1<=ls.length/\ls.length<=255/\∀ j,j < ls.length->0<=ls.getD j 0/\ls.getD j 0 < X.length
def rowsList (X:List (List Nat)) (ls:List Int):List (List Nat):=ls.map fun i=>X.getD i.toNat []
def rowsTo (X:List (List Nat)) (ls:List Int) (k:Nat):List (List Nat):=(List.range ls.length).map fun j=>if j < k then X.getD (ls.getD j 0).toNat [] else []
theorem rowsTo_all (X:List (List Nat)) (ls:List Int):rowsTo X ls ls.length=rowsList X ls:=by
 apply List.ext_getElem
 ·simp[rowsTo,rowsList]
 ·intro i h1 h2
  have hi:i < ls.length:=by simpa [rowsTo] using h1
  simp[rowsTo,rowsList,hi]
def RowsEnd (X:List (List Nat)) (ls:List Int) (w:World) (e:Ending) (w':World):Prop :=
 w.grownBy w' none/\((rowsOK X ls/\∃ p n c us,e=.returned (.tuple #[.slice p n c,.int .i64 0])/\OwnMat w.heap.size w' (.slice p n c) us (rowsList X ls))\/(¬ rowsOK X ls/\e=.returned (.tuple #[.slice none 0 0,.int .i64 1])))
end Go.Proofs.YtaalagkbpeinkaaGreat
