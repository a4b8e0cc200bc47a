/- Packed: Enc4, RowsM, Lift, Ints, Own4, Loc4. -/
import Derived.Test.YtlklmhojadlncaaGreatTk16
import Derived.Test.YtlklmhojadlncaaGreatRows
import Derived.ProofKit
import Derived.OpenShut
import Derived.ChangeOld
import Derived.Below
import Derived.SizedLaws
import Derived.Deep.Matrix
set_option linter.unusedVariables false
set_option maxRecDepth 100000
namespace Go.Proofs.YtlklmhojadlncaaGreat
open Go.RowKit
def codeAt (X:List (List Nat)) (k i t:Nat):Nat:=MX.xs (fun j=>M.mul (MX.gen k i j) (at2 X j t)) k
def codeRow (X:List (List Nat)) (k L i:Nat):List Nat:=(List.range L).map (codeAt X k i)
def codeList (X:List (List Nat)) (k n L:Nat):List (List Nat):=(List.range n).map (codeRow X k L)
theorem code_of_gen (X:List (List Nat)) (k L i:Nat):combTo (genRow k i) X L k=codeRow X k L i:=by
 refine List.map_congr_left fun t _=>MX.xs_congr fun j hj=>?_
 rw[genRow_get hj]
theorem code_low {X:List (List Nat)} {k L i:Nat} (hX:Shape X k L) (hs:∀ i j,at2 X i j < 256) (hi:i < k):codeRow X k L i=X.getD i []:=by
 have hl:=hX.row i hi
 apply List.ext_getElem
 ·simp only[codeRow,List.length_map,List.length_range];exact hl.symm
 ·intro t h1 h2
  have e:codeAt X k i t=at2 X i t:=by
   unfold codeAt
   rw[MX.xs_one (p:=i) hi (fun j _ hne=>by unfold MX.gen;rw[if_pos hi];unfold MX.one;rw[if_neg (fun c=>hne c.symm),M.zero_mul])]
   unfold MX.gen
   rw[if_pos hi]
   unfold MX.one
   rw[if_pos rfl,M.one_mul (hs i t)]
  simp only[codeRow,List.getElem_map,List.getElem_range,e]
  exact gd_of _ h2
theorem mat_small {w:World} {r:Value} {vs:List Value} {X:List (List Nat)} (mr:Mat w r vs X) (i j:Nat):at2 X i j < 256:=by
 unfold at2
 by_cases h:i < X.length
 ·exact getD_small (mr.vec i h).small j
 ·have e:X.getD i []=[]:=by simp[List.getD,List.getElem?_eq_none (by omega:X.length<=i)]
  rw[e];simp
def upTo (f:Nat->List Nat) (n k:Nat):List (List Nat):=(List.range n).map fun i=>if i < k then f i else []
theorem upTo_len (f:Nat->List Nat) (n k:Nat):(upTo f n k).length=n:=by simp[upTo]
theorem upTo_zero (f:Nat->List Nat) (n:Nat):upTo f n 0=List.replicate n []:=by
 apply List.ext_getElem
 ·simp[upTo]
 ·intro i h1 h2
  simp[upTo]
theorem upTo_all (f:Nat->List Nat) (n:Nat):upTo f n n=(List.range n).map f:=List.map_congr_left fun i hi=>if_pos (List.mem_range.1 hi)
theorem upTo_set (f:Nat->List Nat) (n k:Nat):(upTo f n k).set k (f k)=upTo f n (k+1):=by
 apply List.ext_getElem
 ·simp[upTo]
 ·intro i h1 h2
  by_cases e:k=i
  ·subst e;simp[upTo]
  ·by_cases l:i < k
   ·simp[upTo,e,l,show i < k+1 from by omega]
   ·simp[upTo,e,l,show ¬ i < k+1 from by omega]
theorem wpList_make_chunks {w:World} {ops:Array Oper} {rest:List Oper} {o:Oper} {a:Act} {Q:Exit->Act->World->Prop} (hgd:o.guard=none) (l c:Operand)
 (ho:o.op=Op.makeSlice 88 l c) (n:Nat) (hel:a.eval l=.int .i64 (n:Int)) (hec:a.eval c=.int .i64 (n:Int)) (hn:n * 24<=140737488351232)
 (h:∀ w1 p,OwnMat w.heap.size w1 (.slice p n n) (List.replicate n (.slice none 0 0)) (List.replicate n [])->w.grownBy w1 none->wpList Tryz.prog ops Q rest (a.put o.dst (.slice p n n)) w1):wpList Tryz.prog ops Q (o :: rest) a w:=by
 obtain⟨i0,hi,hz0,hz1,hz2⟩:=info_parts Tryz.info22
 refine wpList_make_row _ hgd l c 88 ho 26 i0 (.slice none 0 0) Tryz.underlying88 hi hz0 hz1 rfl _ _ n hel hec (by rw[hz2];omega) (by omega) ?_
 exact h _ _ (made_rows hn rfl) (World.grownBy_alloc _ _ none)
set_option maxHeartbeats 1600000 in
theorem coded_any {w:World} {r:Value} {vs:List Value} {X:List (List Nat)} {k L i:Nat} (mr:Mat w r vs X) (hX:Shape X k L) (h1:1<=k) (h2:k<=255) (hi:i < 256) :
 Calls Tryz.prog 70 #[.int .i64 (i:Int),r] w fun e w'=>∃ p n c,e=.returned (.slice p n c)/\Own w.heap.size w' (.slice p n c) (codeRow X k L i)/\w.grownBy w' none:=by
 have hk:=hX.len
 obtain⟨q,N,cap,rfl,hN⟩:=mr.row.opened
 have hs:=mr.same
 obtain rfl:N=k:=by omega
 by_cases hlow:i < N
 ·obtain⟨b,off,rfl,hc⟩:=mr.row.spot (k:=i) (by omega)
  have hv:=mr.vec i (by omega)
  have HE:Hid (codeRow X N L i=X.getD i []):=code_low hX (mat_small mr) hlow
  obtain⟨pi,ni,ci,ei,hni⟩:=hv.opened
  rw[ei] at hc hv
  have CC:Hid (Calls Tryz.prog 82 #[.slice pi ni ci] w fun e w'=>∃ p n c,e=.returned (.slice p n c)/\Own w.heap.size w' (.slice p n c) (codeRow X N L i)/\w.grownBy w' none):=by
   rw[HE.out]
   exact copied_any hv
  have i1:(i:Int) < (N:Int):=by omega
  have i3:(0:Int)<=(i:Int):=by omega
  clear hv ei hni hs mr hX hN HE hk
  go_enter Tryz.func70,Tryz.ntmps70
  go_wp2_with (go_at_call 82;refine CC.out.mono ?_;rintro e w1 ⟨p1,n1,c1,rfl,o1,g1⟩;have O1:Hid _:=o1;have G1:Hid _:=g1;clear o1 g1)
  go_ret
  exact⟨p1,n1,c1,rfl,O1.out,G1.out⟩
 ·have i1:¬ (i:Int) < (N:Int):=by omega
  have RR:Hid (∀ w,Calls Tryz.prog 86 #[.int .i64 (N:Int),.int .i64 (i:Int)] w fun e w'=>∃ p n c,e=.returned (.slice p n c)/\Own w.heap.size w' (.slice p n c) (genRow N i)/\w.grownBy w' none):=fun w=>row_any N i w h2 hi
  have CC:Hid (∀ w' v,w.grownBy w' none->Own w.heap.size w' v (genRow N i)->Calls Tryz.prog 83 #[v,.slice q N cap] w' fun e w''=>∃ p n c,e=.returned (.slice p n c)/\Own w.heap.size w'' (.slice p n c) (codeRow X N L i)/\w.grownBy w'' none):=fun w' v g o =>
   (combine_any (L:=L) o.vec (mr.keep g) (by rw[hk];exact hX) (by rw[genRow_len,hk]) (by omega)).mono fun e w'' ⟨p,n,c,he,ho,hg⟩=>⟨p,n,c,he,by rw[genRow_len,code_of_gen] at ho;exact ho.down g.size,grown_trans g hg⟩
  have hNl:N<=140737488351232:=by omega
  clear hs mr hX hN hk
  go_enter Tryz.func70,Tryz.ntmps70
  go_wp2_with (first
   | (go_at_call 86;refine (RR.out _).mono ?_;rintro e w1 ⟨p1,n1,c1,rfl,o1,g1⟩;have O1:Hid _:=o1;have G1:Hid _:=g1;clear o1 g1)
   | (go_at_call 83;refine (CC.out _ _ G1.out O1.out).mono ?_;rintro e w2 ⟨p2,n2,c2,rfl,o2,g2⟩;have O2:Hid _:=o2;have G2:Hid _:=g2;clear o2 g2))
  go_ret
  exact⟨p2,n2,c2,rfl,O2.out,G2.out⟩
def Made (w:World) (Y:List (List Nat)) (er:Int) (e:Ending) (w':World):Prop :=
 ∃ p n c us,e=.returned (.tuple #[.slice p n c,.int .i64 er])/\OwnMat w.heap.size w' (.slice p n c) us Y/\Sep us/\w.grownBy w' none
set_option maxHeartbeats 3200000 in
theorem encode_yes {w:World} {r:Value} {vs:List Value} {X:List (List Nat)} {k n L:Nat} (mr:Mat w r vs X) (hX:Shape X k L) (h1:1<=k) (hkn:k < n) (hn:n<=255) :
 Calls Tryz.prog 53 #[.int .i64 (k:Int),.int .i64 (n:Int),r] w (Made w (codeList X k n L) 0):=by
 unfold Made
 have FF:Hid (Calls Tryz.prog 69 #[.int .i64 (k:Int),.int .i64 (n:Int),r] w fun e w'=>e=.returned (.bool true)/\w'=w):=by
  have h:=fits_any (k:=(k:Int)) (n:=(n:Int)) mr
  rw[show fitsB k n X=true from fitsB_iff.2 ⟨by omega,by rw[hX.len],evenB_iff.2 fun j hj=>by rw[hX.row j (by rw[<- hX.len];exact hj),hX.row 0 (by omega)]⟩] at h
  exact h
 have CC:Hid (∀ w' (i:Nat),w.grownBy w' none->i < 256->Calls Tryz.prog 70 #[.int .i64 (i:Int),r] w' fun e w''=>∃ p n c,e=.returned (.slice p n c)/\Own w'.heap.size w'' (.slice p n c) (codeRow X k L i)/\w'.grownBy w'' none):=fun w' i g hi=>coded_any (mr.keep g) hX h1 (by omega) hi
 clear mr hX
 go_enter Tryz.func53,Tryz.ntmps53
 go_wp2_with (first
  | (go_at_call 69;refine FF.out.mono ?_;rintro e w1 ⟨rfl,hw⟩;obtain rfl:=hw.symm;clear hw)
  | (at_make;refine wpList_make_chunks rfl _ _ rfl n rfl rfl (by omega) ?_;intro w1 p om g1;have OM:Hid (OwnMat w.heap.size w1 (.slice p n n) (List.replicate n (.slice none 0 0)) (upTo (codeRow X k L) n 0)):=(by rw[upTo_zero];exact om);have G1:Hid (w.grownBy w1 none):=g1;clear om g1))
 clear FF
 go_loopw [19] (fun ti wr=>∃ (j:Nat) (us:List Value),j<=n/\ti=.int .i64 j/\Hid (OwnMat w.heap.size wr (.slice p n n) us (upTo (codeRow X k L) n j))/\Hid (Sep us)/\Hid (w.grownBy wr none)) (fun ti _=>n - (intOf ti).toNat)
 case atStart=>exact⟨0,_,by omega,rfl,OM,Sep.nils n,G1⟩
 case round =>
  clear OM G1
  obtain⟨j,us,hj,rfl,OK,SK,GK⟩:=hrel
  by_cases hlt:j < n
  ·have i1:(j:Int) < (n:Int):=by omega
   have i3:(0:Int)<=(j:Int):=by omega
   have HX:Hid ((upTo (codeRow X k L) n j).set j (codeRow X k L j)=upTo (codeRow X k L) n (j+1)):=upTo_set _ _ _
   have HL:Hid (j < (upTo (codeRow X k L) n j).length):=by show _ < _;rw[upTo_len];exact hlt
   have CJ:Hid (Calls Tryz.prog 70 #[.int .i64 (j:Int),r] wr fun e w''=>∃ p n c,e=.returned (.slice p n c)/\Own wr.heap.size w'' (.slice p n c) (codeRow X k L j)/\wr.grownBy w'' none):=CC.out wr j GK.out (by omega)
   generalize upTo (codeRow X k L) n j=XK at *
   generalize codeRow X k L j=YK at *
   obtain⟨g,rfl,_⟩:=OK.out.place (k:=j) HL.out
   go_wp2_with (go_at_call 70;refine CJ.out.mono ?_;rintro e w2 ⟨p2,n2,c2,rfl,o2,g2⟩;obtain⟨g',e',hb,hc,hf,hput,hown,hgr⟩:=(OK.out.keep g2).place (k:=j) HL.out;obtain rfl:g=g':=(by injection e' with e';injection e' with e');have OU:Hid (Own wr.heap.size w2 (.slice p2 n2 c2) YK):=o2;have G2:Hid (wr.grownBy w2 none):=g2;have PUT:Hid _:=hput;have GR:Hid _:=hgr;have HB:Hid (w.heap.size<=g):=hb;clear o2 g2 e' hput hgr hown hb)
   have R:Hid (OwnMat w.heap.size (w2.setCell ⟨g,j,none⟩ (.slice p2 n2 c2)) (.slice (some ⟨g,0,none⟩) n n) (us.set j (.slice p2 n2 c2)) (upTo (codeRow X k L) n (j+1))/\Sep (us.set j (.slice p2 n2 c2))/\w.grownBy (w2.setCell ⟨g,j,none⟩ (.slice p2 n2 c2)) none):=by
    refine⟨?_,SK.out.put (H:=wr.heap.size) (OK.out.hiRow) OU.out.lo j,?_⟩
    ·rw[<- HX.out]
     exact PUT.out _ _ (OU.out.down GK.out.size)
    ·exact grown_new (grown_trans GK.out G2.out) (GR.out _) (fun i e=>by have:=Option.some.inj e;have:=HB.out;omega)
   clear OK SK GK OU G2 PUT GR HX HL HB CJ
   go_roundw
   case rel=>exact⟨j+1,us.set j (.slice p2 n2 c2),by omega,by go_num,R.out.1,R.out.2.1,R.out.2.2⟩
   case measure=>simp[intOf];omega
  ·have hjn:n=j:=by omega
   subst hjn
   go_wp2
   go_ret2
   have h0:=OK.out
   rw[upTo_all] at h0
   exact⟨p,n,n,us,rfl,h0,SK.out,GK.out⟩
theorem encode_no {w:World} {r:Value} {vs:List Value} {X:List (List Nat)} {k n:Int} (mr:Mat w r vs X) (hf:fitsB k n X=false) :
 Calls Tryz.prog 53 #[.int .i64 k,.int .i64 n,r] w fun e w'=>e=.returned (.tuple #[.slice none 0 0,.int .i64 1])/\w'=w:=by
 have FF:Hid (Calls Tryz.prog 69 #[.int .i64 k,.int .i64 n,r] w fun e w'=>e=.returned (.bool false)/\w'=w):=by
  have h:=fits_any (k:=k) (n:=n) mr
  rw[hf] at h
  exact h
 clear mr hf
 go_enter Tryz.func53,Tryz.ntmps53
 go_wp2_with (go_at_call 69;refine FF.out.mono ?_;rintro e w1 ⟨rfl,hw⟩;obtain rfl:=hw.symm;clear hw)
 go_ret2
 exact⟨rfl,rfl⟩
theorem one_yes {w:World} {r:Value} {vs:List Value} {X:List (List Nat)} {k n L i:Nat} (mr:Mat w r vs X) (hX:Shape X k L) (h1:1<=k) (hkn:k < n) (hn:n<=255) (hi:i < n) :
 Calls Tryz.prog 75 #[.int .i64 (k:Int),.int .i64 (n:Int),.int .i64 (i:Int),r] w fun e w'=>∃ p m c,e=.returned (.tuple #[.slice p m c,.int .i64 0])/\Own w.heap.size w' (.slice p m c) (codeRow X k L i)/\w.grownBy w' none:=by
 have FF:Hid (Calls Tryz.prog 69 #[.int .i64 (k:Int),.int .i64 (n:Int),r] w fun e w'=>e=.returned (.bool true)/\w'=w):=by
  have h:=fits_any (k:=(k:Int)) (n:=(n:Int)) mr
  rw[show fitsB k n X=true from fitsB_iff.2 ⟨by omega,by rw[hX.len],evenB_iff.2 fun j hj=>by rw[hX.row j (by rw[<- hX.len];exact hj),hX.row 0 (by omega)]⟩] at h
  exact h
 have CC:Hid (Calls Tryz.prog 70 #[.int .i64 (i:Int),r] w fun e w''=>∃ p n c,e=.returned (.slice p n c)/\Own w.heap.size w'' (.slice p n c) (codeRow X k L i)/\w.grownBy w'' none):=coded_any mr hX h1 (by omega) (by omega)
 have i1:¬ (i:Int) < 0:=by omega
 have i2:¬ (n:Int)<=(i:Int):=by omega
 clear mr hX
 go_enter Tryz.func75,Tryz.ntmps75
 go_wp2_with (first
  | (go_at_call 69;refine FF.out.mono ?_;rintro e w1 ⟨rfl,hw⟩;obtain rfl:=hw.symm;clear hw)
  | (go_at_call 70;refine CC.out.mono ?_;rintro e w1 ⟨p1,n1,c1,rfl,o1,g1⟩;have O1:Hid _:=o1;have G1:Hid _:=g1;clear o1 g1))
 go_ret2
 exact⟨p1,n1,c1,rfl,O1.out,G1.out⟩
theorem one_no {w:World} {r:Value} {vs:List Value} {X:List (List Nat)} {k n i:Int} (mr:Mat w r vs X) (hf:fitsB k n X=false\/i < 0\/n<=i) :
 Calls Tryz.prog 75 #[.int .i64 k,.int .i64 n,.int .i64 i,r] w fun e w'=>e=.returned (.tuple #[.slice none 0 0,.int .i64 1])/\w'=w:=by
 have FF:Hid (Calls Tryz.prog 69 #[.int .i64 k,.int .i64 n,r] w fun e w'=>e=.returned (.bool (fitsB k n X))/\w'=w):=fits_any (k:=k) (n:=n) mr
 clear mr
 generalize fitsB k n X=bf at *
 cases bf
 ·clear hf
  go_enter Tryz.func75,Tryz.ntmps75
  go_wp2_with (go_at_call 69;refine FF.out.mono ?_;rintro e w1 ⟨rfl,hw⟩;obtain rfl:=hw.symm;clear hw)
  go_ret2
  exact⟨rfl,rfl⟩
 ·by_cases h0:i < 0
  ·clear hf
   go_enter Tryz.func75,Tryz.ntmps75
   go_wp2_with (go_at_call 69;refine FF.out.mono ?_;rintro e w1 ⟨rfl,hw⟩;obtain rfl:=hw.symm;clear hw)
   go_ret2
   exact⟨rfl,rfl⟩
  ·have h2:n<=i:=by rcases hf with h | h | h <;> first | (simp at h;done) | omega
   clear hf
   go_enter Tryz.func75,Tryz.ntmps75
   go_wp2_with (go_at_call 69;refine FF.out.mono ?_;rintro e w1 ⟨rfl,hw⟩;obtain rfl:=hw.symm;clear hw)
   go_ret2
   exact⟨rfl,rfl⟩
structure IVec (w:World) (v:Value) (ls:List Int):Prop where
 len:ls.length<=140737488351232
 form:∃ p cap,v=.slice p ls.length cap/\ls.length<=cap/\cap<=maxLen /\
  (ls ≠ []->∃ b off,p=some ⟨b,off,none⟩/\∀ j,j < ls.length->w.cell? ⟨b,off+j,none⟩=some (.int .i64 (ls.getD j 0)))
theorem IVec.opened {w:World} {v:Value} {ls:List Int} (h:IVec w v ls):∃ p n cap,v=.slice p n cap/\n=ls.length:=by
 obtain⟨p,cap,e,_⟩:=h.form
 exact⟨p,_,cap,e,rfl⟩
theorem IVec.spot {w:World} {p:Option Addr} {n cap:Nat} {ls:List Int} (h:IVec w (.slice p n cap) ls) {k:Nat} (hk:k < ls.length) :
 ∃ b off,p=some ⟨b,off,none⟩/\w.cell? ⟨b,off+k,none⟩=some (.int .i64 (ls.getD k 0)):=by
 obtain⟨p',c',e,_,_,h5⟩:=h.form
 injection e with e1 e2 e3
 subst e1
 obtain⟨b,off,rfl,hc⟩:=h5 (fun e=>by subst e;simp at hk)
 exact⟨b,off,rfl,hc k hk⟩
theorem IVec.keep {w w':World} {v:Value} {ls:List Int} (h:IVec w v ls) (g:w.grownBy w' none):IVec w' v ls:=by
 obtain⟨h2,p,cap,rfl,h3,h4,h5⟩:=h
 refine⟨h2,p,cap,rfl,h3,h4,fun hx=>?_⟩
 obtain⟨b,off,rfl,hc⟩:=h5 hx
 exact⟨b,off,rfl,fun j hj=>g.cell (hc j hj) (by simp)⟩
end Go.Proofs.YtlklmhojadlncaaGreat
namespace Go.Proofs.YtlklmhojadlncaaGreat
open Go.ChangeShapes Go.WideShapes Go.ChangeAt Go.RowKit
theorem Tryz.laidOut:laidOutB Tryz.prog=true:=by kernel_rfl
theorem Tryz.own:ownKnob Tryz.prog.godebug=none:=by kernel_rfl
theorem Tryz.cells5:Tryz.prog.cellsOf 5=1:=by kernel_rfl
theorem Tryz.cells22:Tryz.prog.cellsOf 26=1:=by kernel_rfl
theorem Tryz.bytes5:Tryz.prog.bytesOf 5=1:=by kernel_rfl
theorem byte_wf {n:Int} (h:(Lit.int .u8 n).wf=true):0<=n/\n < 256:=by
 have:0<=n/\n<=255:=by simpa [Lit.wf,IntKind.min,IntKind.max,IntKind.signed,IntKind.bits] using h
 omega
theorem vec_of {W:World} {p:Option Addr} {len cap:Nat} {zs:List Int} (hl:len<=cap) (hm:cap<=maxLen) (hz:len<=zs.length) (hb:len<=140737488351232)
 (hw:∀ n ∈ zs,(Lit.int .u8 n).wf=true) (hp:p=none->len=0) (hc:∀ a,p=some a->∀ c,c < len->W.cell? (a.add c)=some (.int .u8 (zs.getD c 0))) :
 Vec W (.slice p len cap) ((zs.take len).map Int.toNat):=by
 have hlen:((zs.take len).map Int.toNat).length=len:=by simp;omega
 have hget:∀ j,j < len->((((zs.take len).map Int.toNat).getD j 0:Nat):Int)=zs.getD j 0:=fun j hj=>by
  have hj':j < zs.length:=by omega
  have h0:=byte_wf (hw zs[j] (List.getElem_mem _))
  simp[List.getD,hj,hj']
  omega
 refine⟨fun x hx=>?_,by omega,p,cap,by rw[hlen],by omega,hm,fun hne=>?_⟩
 ·obtain⟨y,hy,rfl⟩:=List.mem_map.1 hx
  have:=byte_wf (hw y (List.mem_of_mem_take hy))
  omega
 ·have hpos:0 < len:=by
   rcases Nat.eq_zero_or_pos len with h | h
   ·subst h;simp at hne
   ·exact h
  cases p with
  | none=>exact absurd (hp rfl) (by omega)
  | some a =>
    obtain⟨b,off,spot⟩:=a
    have h0:=hc _ rfl 0 hpos
    have hspot:spot=none:=by simpa [Addr.add] using World.cell?_spot h0
    subst hspot
    refine⟨b,off,rfl,fun j hj=>?_⟩
    have hj':j < len:=by omega
    have:=hc _ rfl j hj'
    rw[add_off] at this
    rw[this,bv,hget j hj']
section
variable {H:Type} {enc:TypeId × Value->H}
end
theorem Tryz.infoI:(Tryz.prog.info? 3).map (fun i=>(i.zero,i.size,i.bytes))=some (some (.int .i64 0),1,8):=by kernel_rfl
section
variable {H:Type} {enc:TypeId × Value->H}
end
end Go.Proofs.YtlklmhojadlncaaGreat
namespace Go.Proofs.YtlklmhojadlncaaGreat
open Go.RowKit
theorem row_place {B:Nat} {w:World} {t:TypeId} {p:Option Addr} {n cap m:Nat} {us:List Value} (h:w.ownsRow B t 1 (.slice p n cap) m us) (hm':m=us.length) {k:Nat} (hk:k < us.length) :
 ∃ g,p=some ⟨g,0,none⟩/\n=us.length/\B<=g/\w.cell? ⟨g,k,none⟩=some (us.getD k undef)/\w.frozen? ⟨g,k,none⟩=false /\
   (∀ u,(w.setCell ⟨g,k,none⟩ u).ownsRow B t 1 (.slice (some ⟨g,0,none⟩) n cap) m (us.set k u))/\∀ u,w.grownBy (w.setCell ⟨g,k,none⟩ u) (some g):=by
 subst hm'
 have hr:=h
 rcases h.2 with ⟨e,hn⟩ | ⟨g,cap',cur,e,hb,hg,hc,hm,hs,ht⟩
 ·omega
 ·injection e with e1 e2 e3
  subst e1
  subst e2
  subst e3
  have hcell:w.cell? ⟨g,k,none⟩=some (us.getD k undef):=by
   have:=hr.cells (g:=g) rfl k (us.getD k undef) (by simp[List.getD,hk])
   rwa [add_at,Nat.zero_add] at this
  refine⟨g,rfl,rfl,hb,hcell,by simp[World.frozen?,hg],fun u=>⟨by simp,.inr ⟨g,cap,cur.setIfInBounds k u,rfl,hb,?_,by simpa using hc,hm,by simpa using hs,?_⟩⟩,fun u=>⟨rfl,rfl,rfl,by simp,fun i hi hne=>Below.heap_setCell _ _ _ _ (by simpa using hne)⟩⟩
  ·rw[setCell_eq_setRow w g k cur t (0,0) _ hg]
   exact setRow_heap w g cur _ t _ hg
  ·simp only[Array.toList_setIfInBounds]
   rw[List.take_set,ht]
structure IOwn (B:Nat) (w:World) (v:Value) (ls:List Int):Prop where
 len:ls.length * 8<=140737488351232
 row:w.ownsRow B 3 1 v ls.length (ls.map (Value.int .i64))
theorem IOwn.keep {B:Nat} {w w':World} {v:Value} {ls:List Int} (h:IOwn B w v ls) (g:w.grownBy w' none):IOwn B w' v ls:=⟨h.len,h.row.kept g (Classical.em _)⟩
theorem IOwn.lo {B:Nat} {w:World} {v:Value} {ls:List Int} (h:IOwn B w v ls):Lo B v:=fun k hk=>(h.row.lt k hk).1
theorem IOwn.ivec {B:Nat} {w:World} {v:Value} {ls:List Int} (h:IOwn B w v ls):IVec w v ls:=by
 have hl:=h.len
 refine⟨by omega,?_⟩
 rcases h.row.2 with ⟨e,hn⟩ | ⟨g,cap',cur,e,hb,hg,hc,hm,hs,ht⟩
 ·exact⟨none,0,by rw[e,hn],by omega,by decide,fun hne=>absurd (List.eq_nil_of_length_eq_zero hn) hne⟩
 ·refine⟨some ⟨g,0,none⟩,cap',e,hc,hm,fun hne=>⟨g,0,rfl,fun j hj=>?_⟩⟩
  have hr:=h.row
  have:=hr.cells (g:=g) (by rw[e];rfl) j (.int .i64 (ls.getD j 0)) (by simp[List.getD,hj])
  rwa [add_at] at this
theorem IOwn.place {B:Nat} {w:World} {p:Option Addr} {n cap:Nat} {ls:List Int} (h:IOwn B w (.slice p n cap) ls) {k:Nat} (hk:k < ls.length) :
 ∃ g,p=some ⟨g,0,none⟩/\B<=g/\w.cell? ⟨g,k,none⟩=some (.int .i64 (ls.getD k 0))/\w.frozen? ⟨g,k,none⟩=false /\
   (∀ z:Int,IOwn B (w.setCell ⟨g,k,none⟩ (.int .i64 z)) (.slice (some ⟨g,0,none⟩) n cap) (ls.set k z))/\∀ u,w.grownBy (w.setCell ⟨g,k,none⟩ u) (some g):=by
 obtain⟨g,e,hn,hb,hc,hf,hset,hgr⟩:=row_place h.row (by simp) (k:=k) (by simpa using hk)
 refine⟨g,e,hb,by rw[hc];simp[List.getD,hk],hf,fun z=>⟨by simpa using h.len,?_⟩,hgr⟩
 have:=hset (.int .i64 z)
 simpa [List.map_set] using this
theorem made_ints {w w':World} {n:Nat} (hn:n * 8<=140737488351232) (e:w'=w.alloc (.cells (madeCells #[.int .i64 0] n) 3)):IOwn w.heap.size w' (.slice (some ⟨w.heap.size,0,none⟩) n n) (List.replicate n 0):=by
 subst e
 refine⟨by simpa using hn,⟨by simp,.inr ⟨w.heap.size,n,_,by simp,Nat.le_refl _,heap_alloc_new w _,by simp,by unfold maxLen;omega,?_,?_⟩⟩⟩
 ·simp[madeCells]
 ·rw[Nat.mul_one,List.length_replicate,made_list _ n];simp
theorem wpList_make_ints {w:World} {ops:Array Oper} {rest:List Oper} {o:Oper} {a:Act} {Q:Exit->Act->World->Prop} (hgd:o.guard=none) (l c:Operand)
 (ho:o.op=Op.makeSlice 87 l c) (n:Nat) (hel:a.eval l=.int .i64 (n:Int)) (hec:a.eval c=.int .i64 (n:Int)) (hn:n * 8<=140737488351232)
 (h:∀ w1 p,IOwn w.heap.size w1 (.slice p n n) (List.replicate n 0)->w.grownBy w1 none->wpList Tryz.prog ops Q rest (a.put o.dst (.slice p n n)) w1):wpList Tryz.prog ops Q (o :: rest) a w:=by
 obtain⟨i0,hi,hz0,hz1,hz2⟩:=info_parts Tryz.infoI
 refine wpList_make_row _ hgd l c 87 ho 3 i0 (.int .i64 0) Tryz.underlying87 hi hz0 hz1 rfl _ _ n hel hec (by rw[hz2];omega) (by omega) ?_
 exact h _ _ (made_ints hn rfl) (World.grownBy_alloc _ _ none)
theorem Out.place {B:Nat} {w:World} {p:Option Addr} {n cap:Nat} {us:List Value} (h:Out B w (.slice p n cap) us) {k:Nat} (hk:k < us.length) :
 ∃ g,p=some ⟨g,0,none⟩/\B<=g/\w.cell? ⟨g,k,none⟩=some (us.getD k undef)/\w.frozen? ⟨g,k,none⟩=false /\
   (∀ u,Out B (w.setCell ⟨g,k,none⟩ u) (.slice (some ⟨g,0,none⟩) n cap) (us.set k u))/\∀ u,w.grownBy (w.setCell ⟨g,k,none⟩ u) (some g):=by
 obtain⟨g,e,hn,hb,hc,hf,hset,hgr⟩:=row_place h.row rfl (k:=k) hk
 exact⟨g,e,hb,hc,hf,fun u=>⟨by simpa using h.len,by have:=hset u;simpa using this⟩,hgr⟩
theorem wpList_make_out {w:World} {ops:Array Oper} {rest:List Oper} {o:Oper} {a:Act} {Q:Exit->Act->World->Prop} (hgd:o.guard=none) (l c:Operand)
 (ho:o.op=Op.makeSlice 88 l c) (n:Nat) (hel:a.eval l=.int .i64 (n:Int)) (hec:a.eval c=.int .i64 (n:Int)) (hn:n * 24<=140737488351232)
 (h:∀ w1 p,Out w.heap.size w1 (.slice p n n) (List.replicate n (.slice none 0 0))->w.grownBy w1 none->wpList Tryz.prog ops Q rest (a.put o.dst (.slice p n n)) w1):wpList Tryz.prog ops Q (o :: rest) a w :=
 wpList_make_chunks hgd l c ho n hel hec hn fun w1 p om g=>h w1 p ⟨om.len,om.row⟩ g
def wh (ls:List Int):Nat->Nat->Nat
 | 0,_=>0
 | j+1,x=>if ls.getD j 0=(x:Int) then j+1 else wh ls j x
theorem wh_pos {ls:List Int}:∀ {j x:Nat},wh ls j x ≠ 0->wh ls j x - 1 < j/\ls.getD (wh ls j x - 1) 0=(x:Int)
 | 0,x,h=>absurd rfl h
 | j+1,x,h=>by
   unfold wh at h ⊢
   split
   ·exact⟨by omega,by simpa using ‹ls.getD j 0=(x:Int)›⟩
   ·rename_i e
    rw[if_neg e] at h
    have:=wh_pos h
    exact⟨by omega,this.2⟩
def goodAt (n:Nat) (ls:List Int) (j:Nat):Prop:=∀ i,i < j->0<=ls.getD i 0/\ls.getD i 0 < n/\∀ i',i' < i->ls.getD i' 0 ≠ ls.getD i 0
theorem wh_at {n:Nat} {ls:List Int}:∀ {j i x:Nat},goodAt n ls j->i < j->ls.getD i 0=(x:Int)->wh ls j x=i+1
 | 0,_,_,_,h,_=>absurd h (by omega)
 | j+1,i,x,hg,hi,he=>by
   unfold wh
   by_cases e:i=j
   ·subst e;rw[if_pos he]
   ·have hij:i < j:=by omega
    rw[if_neg (fun c=>(hg j (by omega)).2.2 i hij (by rw[he,c]))]
    exact wh_at (fun a ha=>hg a (by omega)) hij he
def placesOf (f:Nat->Nat):Array Value:=Array.ofFn (n:=255) fun i=>.int .i64 ((f i.1:Nat):Int)
theorem placesOf_size (f:Nat->Nat):(placesOf f).size=255:=by simp[placesOf]
theorem placesOf_get (f:Nat->Nat) (i:Nat) (h:i < 255):(placesOf f)[i]?=some (.int .i64 ((f i:Nat):Int)):=by simp[placesOf,h]
theorem placesOf_set (ls:List Int) (j x:Nat) (hx:x < 255) (he:ls.getD j 0=(x:Int)):(placesOf (wh ls j)).setIfInBounds x (.int .i64 ((j:Int)+1))=placesOf (wh ls (j+1)):=by
 apply Array.ext_getElem?
 intro i
 by_cases h:i < 255
 ·rw[placesOf_get _ _ h,Array.getElem?_setIfInBounds]
  by_cases e:x=i
  ·subst e
   rw[if_pos rfl,if_pos (by rw[placesOf_size];exact hx)]
   have:wh ls (j+1) x=j+1:=by
    show (if ls.getD j 0=(x:Int) then j+1 else wh ls j x)=_
    rw[if_pos he]
   rw[this]
   simp
  ·rw[if_neg e,placesOf_get _ _ h]
   have:wh ls (j+1) i=wh ls j i:=by
    show (if ls.getD j 0=(i:Int) then j+1 else wh ls j i)=_
    rw[if_neg (by rw[he];omega)]
   rw[this]
 ·have h1:((placesOf (wh ls j)).setIfInBounds x (.int .i64 ((j:Int)+1)))[i]?=none:=by simp[placesOf_size];omega
  have h2:(placesOf (wh ls (j+1)))[i]?=none:=by simp[placesOf_size];omega
  rw[h1,h2]
theorem placesOf_one (f:Nat->Nat):(placesOf f).all (·.oneCell')=true:=by
 rw[Array.all_eq_true_iff_forall_mem]
 intro v hv
 obtain⟨i,_,rfl⟩:=Array.mem_ofFn.1 hv
 rfl
theorem infoL (f:Nat->Nat):(Tryz.prog.info? 117).map (·.size)=some (placesOf f).size:=by rw[placesOf_size];kernel_rfl
theorem zeroL (w:World):(zeroValue 117).run Tryz.prog w=.ok (.agg (placesOf (fun _=>0))) w:=by
 have h:(Tryz.prog.info? 117).map (fun i=>(i.zero,i.size))=some (some (.agg (placesOf (fun _=>0))),255):=by kernel_rfl
 cases hq:Tryz.prog.info? 117 with
 | none=>simp[hq] at h
 | some i=>simp[hq] at h;simp[zeroValue,typeInfo,hq,h.1]
theorem results_row_tmp {P:Program} {fn:Func} {p q:Tmp} {ty:TypeId} (h:fn.results=#[.cell p ty,.tmp q]) (tmps:Array Value) (w:World) (g:Nat) (t:TypeId) (cs:Array Value) (fr:Nat × Nat) (d:TypeDesc) (v:Value)
 (hp:tmps.getD p undef=.pointer (some ⟨g,0,none⟩)) (hq:tmps.getD q undef=v) (hg:w.heap[g]?=some (.cells cs t fr))
 (hu:P.underlying ty=some d) (hd:(match d with | .struct _ | .array _ _=>true | _=>false)=true) (hi:(P.info? ty).map (·.size)=some cs.size) :
 (results fn tmps).run P w=.ok (.tuple #[.agg cs,v]) w:=by
 have hp':tmps[p]?.getD undef=.pointer (some ⟨g,0,none⟩):=by simpa using hp
 have hq':tmps[q]?.getD undef=v:=by simpa using hq
 simp[results,h,hp',hq',asAddr,run_loadVar_row w g t ty cs fr d hg hu hd hi]
theorem storeL {w:World} {g:Nat} {f f':Nat->Nat} (h:w.heap[g]?=some (.cells (placesOf f) 117 (0,0))):(storeCells ⟨g,0,none⟩ (placesOf f').toList).run Tryz.prog w=.ok () (w.setRow g (placesOf f')):=by
 have:=run_storeCells_from (P:=Tryz.prog) g 117 (placesOf f').toList 0 (placesOf f) w h (by simp[placesOf_size]) (mem_one (placesOf_one f'))
 simpa using this
set_option maxHeartbeats 1600000 in
set_option maxRecDepth 100000 in
theorem locate_all {w:World} {v:Value} {ls:List Int} {n:Nat} (hv:IVec w v ls) (hn:n<=255) :
 Calls Tryz.prog 63 #[.int .i64 (n:Int),v] w fun e w'=>w.grownBy w' none/\((goodAt n ls ls.length/\e=.returned (.tuple #[.agg (placesOf (wh ls ls.length)),.bool true]))\/(¬ goodAt n ls ls.length/\e=.returned (.tuple #[.agg (placesOf (fun _=>0)),.bool false]))):=by
 obtain⟨q,N,cap,rfl,hN⟩:=hv.opened
 have hNl:N<=140737488351232:=by rw[hN];exact hv.len
 have HN:Hid (N=ls.length):=hN
 have KV:Hid (∀ w',w.grownBy w' none->IVec w' (.slice q N cap) ls):=fun w' g=>hv.keep g
 clear hN hv
 have zL:=zeroL
 go_enter Tryz.func63,Tryz.ntmps63
 go_wp2
 clear zL
 go_loopw [10] (fun ti wr=>∃ j:Nat,j<=N/\ti=.int .i64 j/\Hid (wr.heap[w.heap.size]?=some (.cells (placesOf (wh ls j)) 117 (0,0)))/\Hid (w.grownBy wr none)/\Hid (goodAt n ls j)) (fun ti _=>N - (intOf ti).toNat)
 case atStart=>exact⟨0,by omega,rfl,heap_alloc_new w _,gb_alloc (World.grownBy.refl _ _) _,fun i hi=>by omega⟩
 case round =>
  obtain⟨j,hj,rfl,HM,HG,HA⟩:=hrel
  by_cases hlt:j < N
  ·have i1:(j:Int) < (N:Int):=by omega
   have i3:(0:Int)<=(j:Int):=by omega
   obtain⟨b,off,rfl,hc⟩:=(KV.out _ HG.out).spot (k:=j) (by have:=HN.out;omega)
   by_cases c1:0<=ls.getD j 0/\ls.getD j 0 < n
   ·obtain⟨x,hx⟩:=Int.eq_ofNat_of_zero_le c1.1
    have hx':ls.getD j 0=(x:Int):=hx
    rw[hx'] at hc
    have hxn:x < n:=by omega
    have j1:¬ (x:Int) < 0:=by omega
    have j2:¬ (n:Int)<=(x:Int):=by omega
    have j3:(x:Int) < 255:=by omega
    have hcx:wr.cell? ⟨w.heap.size,x,none⟩=some (.int .i64 ((wh ls j x:Nat):Int)):=by rw[cell_of_row _ _ _ _ _ _ HM.out,placesOf_get _ _ (by omega)]
    have hfx:wr.frozen? ⟨w.heap.size,x,none⟩=false:=frozen_of_row _ _ _ _ _ HM.out
    by_cases c2:wh ls j x=0
    ·rw[c2] at hcx
     have HA':Hid (goodAt n ls (j+1)):=fun i hi=>by
      by_cases e:i=j
      ·subst e
       refine⟨c1.1,c1.2,fun i' hi' he=>?_⟩
       have:=wh_at (x:=x) HA.out hi' (by rw[he,hx'])
       omega
      ·exact HA.out i (by omega)
     have HP:Hid ((wr.setCell ⟨w.heap.size,x,none⟩ (.int .i64 ((j:Int)+1))).heap[w.heap.size]?=some (.cells (placesOf (wh ls (j+1))) 117 (0,0))):=by
      show _=_
      rw[heap_setCell_same _ _ _ _ _ _ HM.out,placesOf_set ls j x (by omega) hx']
     have HGN:Hid (w.grownBy (wr.setCell ⟨w.heap.size,x,none⟩ (.int .i64 ((j:Int)+1))) none):=gb_setCell HG.out (by simp) _
     clear c1 hx hx' c2 HM HG HA
     go_wp2
     go_roundw
     case rel=>exact⟨j+1,by omega,by go_num,HP,HGN,HA'⟩
     case measure=>simp[intOf];omega
    ·have hne:(((wh ls j x:Nat):Int) != 0)=true:=by simp;omega
     have NG:Hid (¬ goodAt n ls ls.length):=fun hg=>by
      have h1:=wh_pos c2
      exact (hg j (by have:=HN.out;omega)).2.2 _ h1.1 (by rw[h1.2,hx'])
     generalize wh ls j x=y at *
     have sL:=storeL (f':=fun _=>0) HM.out
     have pL:=placesOf_size (fun _=>0)
     have zL:=zeroL
     have HR:Hid ((wr.setRow w.heap.size (placesOf fun _=>0)).heap[w.heap.size]?=some (.cells (placesOf fun _=>0) 117 (0,0))):=setRow_heap _ _ _ _ _ _ HM.out
     have HGR:Hid (w.grownBy (wr.setRow w.heap.size (placesOf fun _=>0)) none):=grown_new HG.out (row:=some w.heap.size) ⟨rfl,rfl,rfl,by simp,fun k _ hk=>setRow_other wr w.heap.size k _ (fun e=>hk (by simp[e]))⟩ (fun i e=>by have:=Option.some.inj e;omega)
     have HI:Hid ((Tryz.prog.info? 117).map (·.size)=some (placesOf fun _=>0).size):=infoL _
     clear c1 hx hx' HM HG HA
     go_wp2
     exact bodyPost_ret (results_row_tmp rfl _ _ w.heap.size 117 (placesOf fun _=>0) (0,0) _ _ rfl rfl HR.out Tryz.underlying117 rfl HI.out) rfl ⟨HGR.out,.inr ⟨NG.out,rfl⟩⟩
   ·have NG:Hid (¬ goodAt n ls ls.length):=fun hg=>by
     have h1:=hg j (by have:=HN.out;omega)
     exact c1 ⟨h1.1,h1.2.1⟩
    generalize ls.getD j 0=z at *
    by_cases c2:z < 0
    ·have sL:=storeL (f':=fun _=>0) HM.out
     have pL:=placesOf_size (fun _=>0)
     have zL:=zeroL
     have HR:Hid ((wr.setRow w.heap.size (placesOf fun _=>0)).heap[w.heap.size]?=some (.cells (placesOf fun _=>0) 117 (0,0))):=setRow_heap _ _ _ _ _ _ HM.out
     have HGR:Hid (w.grownBy (wr.setRow w.heap.size (placesOf fun _=>0)) none):=grown_new HG.out (row:=some w.heap.size) ⟨rfl,rfl,rfl,by simp,fun k _ hk=>setRow_other wr w.heap.size k _ (fun e=>hk (by simp[e]))⟩ (fun i e=>by have:=Option.some.inj e;omega)
     have HI:Hid ((Tryz.prog.info? 117).map (·.size)=some (placesOf fun _=>0).size):=infoL _
     clear c1 HM HG HA
     go_wp2
     exact bodyPost_ret (results_row_tmp rfl _ _ w.heap.size 117 (placesOf fun _=>0) (0,0) _ _ rfl rfl HR.out Tryz.underlying117 rfl HI.out) rfl ⟨HGR.out,.inr ⟨NG.out,rfl⟩⟩
    ·have c3:(n:Int)<=z:=by omega
     have sL:=storeL (f':=fun _=>0) HM.out
     have pL:=placesOf_size (fun _=>0)
     have zL:=zeroL
     have HR:Hid ((wr.setRow w.heap.size (placesOf fun _=>0)).heap[w.heap.size]?=some (.cells (placesOf fun _=>0) 117 (0,0))):=setRow_heap _ _ _ _ _ _ HM.out
     have HGR:Hid (w.grownBy (wr.setRow w.heap.size (placesOf fun _=>0)) none):=grown_new HG.out (row:=some w.heap.size) ⟨rfl,rfl,rfl,by simp,fun k _ hk=>setRow_other wr w.heap.size k _ (fun e=>hk (by simp[e]))⟩ (fun i e=>by have:=Option.some.inj e;omega)
     have HI:Hid ((Tryz.prog.info? 117).map (·.size)=some (placesOf fun _=>0).size):=infoL _
     clear c1 HM HG HA
     go_wp2
     exact bodyPost_ret (results_row_tmp rfl _ _ w.heap.size 117 (placesOf fun _=>0) (0,0) _ _ rfl rfl HR.out Tryz.underlying117 rfl HI.out) rfl ⟨HGR.out,.inr ⟨NG.out,rfl⟩⟩
  ·obtain rfl:j=N:=by omega
   have HM':wr.heap[w.heap.size]?=some (.cells (placesOf (wh ls ls.length)) 117 (0,0)):=by rw[<- HN.out];exact HM.out
   have HA':Hid (goodAt n ls ls.length):=by show goodAt _ _ _;rw[<- HN.out];exact HA.out
   clear HM HA
   go_wp2
   refine wp_load_row 117 (.tmp 4) rfl w.heap.size rfl 117 (placesOf (wh ls ls.length)) (0,0) _ HM' Tryz.underlying117 rfl (infoL _) ?_
   have sL:(storeCells ⟨w.heap.size,0,none⟩ (placesOf (wh ls ls.length)).toList).run Tryz.prog wr=.ok () wr:=by
    have:=storeL (f':=wh ls ls.length) HM'
    rwa [setRow_self wr w.heap.size _ _ _ HM'] at this
   have pL:=placesOf_size (wh ls ls.length)
   have HP:Hid (wr.heap[w.heap.size]?=some (.cells (placesOf (wh ls ls.length)) 117 (0,0))):=HM'
   have HI:Hid ((Tryz.prog.info? 117).map (·.size)=some (placesOf (wh ls ls.length)).size):=infoL _
   clear HM'
   obtain⟨AR,hAR⟩:∃ AR,AR=placesOf (wh ls ls.length):=⟨_,rfl⟩
   rw[<- hAR] at sL pL HP HI
   rw[<- hAR]
   have HAR:Hid (AR=placesOf (wh ls ls.length)):=hAR
   clear hAR
   go_wp2
   exact bodyPost_ret (results_row_tmp rfl _ _ w.heap.size 117 AR (0,0) _ _ rfl rfl HP.out Tryz.underlying117 rfl HI.out) rfl ⟨HG.out,.inl ⟨HA'.out,by rw[HAR.out];rfl⟩⟩
theorem locate_yes {w:World} {v:Value} {ls:List Int} {n:Nat} (hv:IVec w v ls) (hn:n<=255) (h:goodAt n ls ls.length) :
 Calls Tryz.prog 63 #[.int .i64 (n:Int),v] w fun e w'=>e=.returned (.tuple #[.agg (placesOf (wh ls ls.length)),.bool true])/\w.grownBy w' none :=
 (locate_all hv hn).mono fun e w' ⟨g,k⟩=>by
   rcases k with ⟨_,k⟩ | ⟨k,_⟩
   ·exact⟨k,g⟩
   ·exact absurd h k
theorem locate_no {w:World} {v:Value} {ls:List Int} {n:Nat} (hv:IVec w v ls) (hn:n<=255) (h:¬ goodAt n ls ls.length) :
 Calls Tryz.prog 63 #[.int .i64 (n:Int),v] w fun e w'=>e=.returned (.tuple #[.agg (placesOf (fun _=>0)),.bool false])/\w.grownBy w' none :=
 (locate_all hv hn).mono fun e w' ⟨g,k⟩=>by
   rcases k with ⟨k,_⟩ | ⟨_,k⟩
   ·exact absurd k h
   ·exact⟨k,g⟩
def lk (f:Nat->Nat) (k x:Nat):Bool:=decide (1<=f x)&&decide (f x<=k)
set_option maxRecDepth 100000 in
theorem looked_any {w:World} {f:Nat->Nat} {x k:Nat} (hx:x < 255) :
 Calls Tryz.prog 80 #[.agg (placesOf f),.int .i64 (x:Int),.int .i64 (k:Int)] w fun e w'=>e=.returned (.bool (lk f k x))/\w.grownBy w' none:=by
 have j3:(x:Int) < 255:=by omega
 have j4:(0:Int)<=(x:Int):=by omega
 have pL:=placesOf_size f
 have hcx:(w.alloc (.cells (placesOf f) 117)).cell? ⟨w.heap.size,x,none⟩=some (.int .i64 ((f x:Nat):Int)):=by rw[cell_of_row _ _ _ _ _ _ (heap_alloc_new w _),placesOf_get _ _ hx]
 have HL:Hid (lk f k x=(decide (1<=f x)&&decide (f x<=k))):=rfl
 have HGA:Hid (w.grownBy (w.alloc (.cells (placesOf f) 117)) none):=gb_alloc (World.grownBy.refl _ _) _
 generalize lk f k x=bl at *
 generalize f x=y at *
 generalize placesOf f=AR at *
 by_cases c:1<=y
 ·go_enter Tryz.func80,Tryz.ntmps80
  go_wp2
  go_ret
  exact⟨by rw[HL.out,decide_eq_true c];rfl,HGA.out⟩
 ·go_enter Tryz.func80,Tryz.ntmps80
  go_wp2
  go_ret
  exact⟨by rw[HL.out,decide_eq_false c];rfl,HGA.out⟩
end Go.Proofs.YtlklmhojadlncaaGreat
