/- Packed: Solve, Inver, Invert, Wakes. -/
import Derived.Test.YtlklmhojadlncaaGreatTk15
import Derived.Defers
import Derived.Recover
import Derived.Laws.Pointers
set_option maxRecDepth 100000
namespace Go.Proofs.YtlklmhojadlncaaGreat
open Go.RowKit
def halfTo (X:List (List Nat)) (n k:Nat):List (List Nat):=(List.range n).map fun i=>if i < k then (X.getD i []).drop n else List.replicate n 0
theorem halfTo_len (X:List (List Nat)) (n k:Nat):(halfTo X n k).length=n:=by simp[halfTo]
theorem halfTo_zero (X:List (List Nat)) (n:Nat):halfTo X n 0=List.replicate n (List.replicate n 0):=by
 apply List.ext_getElem
 ·simp[halfTo]
 ·intro i h1 h2
  simp[halfTo]
theorem halfTo_all (X:List (List Nat)) (n:Nat):halfTo X n n=halfList X n:=List.map_congr_left fun i hi=>by simp[List.mem_range.1 hi]
theorem halfTo_get (X:List (List Nat)) (n k:Nat) (h:k < n):(halfTo X n k).getD k []=List.replicate n 0:=by simp[halfTo,List.getD,h]
theorem halfTo_set (X:List (List Nat)) (n k:Nat):(halfTo X n k).set k ((X.getD k []).drop n)=halfTo X n (k+1):=by
 apply List.ext_getElem
 ·simp[halfTo]
 ·intro i h1 h2
  by_cases e:k=i
  ·subst e;simp[halfTo]
  ·by_cases l:i < k
   ·simp[halfTo,e,l,show i < k+1 from by omega]
   ·simp[halfTo,e,l,show ¬ i < k+1 from by omega]
abbrev noInverseChain:List PanicEntry:=[{ v:=.iface 169 (.agg #[]),recovered:=false }]
def Solved (n:Nat) (X:List (List Nat)) (w:World) (e:Ending) (w':World):Prop :=
 w.grownBy w' none/\((∃ v us Y,e=.returned v/\OwnMat w.heap.size w' v us Y/\Sep us/\Shape Y n n/\MX.Inv n (at2 X) (at2 Y))\/(e=.panicked noInverseChain/\NoInv n (at2 X)))
set_option maxHeartbeats 6400000 in
theorem solve_any {w:World} {m:Value} {vs:List Value} {X:List (List Nat)} {n:Nat} (mr:Mat w m vs X) (hs:Shape X n n) (h1:1<=n) (h2:n<=255) :
 Calls Tryz.prog 101 #[m] w (Solved n X w):=by
 obtain⟨q,N,cap,rfl,hN⟩:=mr.row.opened
 have hsm:=mr.same
 have hlen:=hs.len
 have hNn:N=n:=by omega
 subst hNn
 have W0:Hid (Work N (at2 X) 0 (besList X N)):=Work.start hs mr.small
 have BE:Hid (∀ r,r=Value.slice q N cap->Calls Tryz.prog 108 #[r] w fun e w'=>∃ v us,e=.returned v/\OwnMat w.heap.size w' v us (besList X N)/\Sep us/\w.grownBy w' none):=fun r e=>e ▸ beside_any mr hs h1 h2
 clear hN hsm hlen hs mr
 go_enter Tryz.func101,Tryz.ntmps101
 go_wp2_with (go_at_call 108;refine (BE.out _ (by with_reducible rfl)).mono ?_;rintro e w1 ⟨v,us,rfl,om,sp,g1⟩;have OM:Hid (OwnMat w.heap.size w1 v us (besList X N)):=om;have SP:Hid (Sep us):=sp;have G1:Hid (w.grownBy w1 none):=g1;clear om sp g1)
 obtain⟨p,N2,cap2,rfl,hN2⟩:=OM.out.mat.row.opened
 have hN3:N2=N:=by have:=OM.out.same;have:=W0.out.shape.len;omega
 subst hN3
 obtain⟨g,rfl,hb,q1,q2,q3,q4,q5⟩:=OM.out.place (k:=0) (by have:=W0.out.shape.len;omega)
 clear q1 q2 q3 q4 q5 hN2 BE
 have HB:Hid (w.heap.size<=g):=hb
 clear hb
 go_loopw [16] (fun ti wr=>∃ (k:Nat) (us:List Value) (X':List (List Nat)),k<=N2/\ti=.int .i64 k/\Hid (OwnMat w.heap.size wr (.slice (some ⟨g,0,none⟩) N2 cap2) us X')/\Hid (Sep us)/\Hid (Work N2 (at2 X) k X')/\Hid (w.grownBy wr none)) (fun ti _=>N2 - (intOf ti).toNat)
 case atStart=>exact⟨0,us,besList X N2,by omega,rfl,OM.out,SP.out,W0.out,G1.out⟩
 case round =>
  clear OM SP W0 G1 us
  obtain⟨k,us,X1,hk,rfl,OK,SP,WK,GK⟩:=hrel
  by_cases hlt:k < N2
  ·have i1:(k:Int) < (N2:Int):=by omega
   have i3:(0:Int)<=(k:Int):=by omega
   rcases pivot_or N2 X1 k with ⟨i,pv⟩ | hz
   ·have RY:Hid (∀ r1 r2,r1=Value.slice (some ⟨g,0,none⟩) N2 cap2->r2=Value.int .i64 (k:Int)->Calls Tryz.prog 109 #[r1,r2] wr fun e w'=>∃ us',e=.returned (.tuple #[])/\OwnMat w.heap.size w' (.slice (some ⟨g,0,none⟩) N2 cap2) us' (raised X1 k i)/\Sep us'/\w.grownBy w' none):=fun r1 r2 e1 e2=>by
     subst e1 e2
     exact raise_yes OK.out SP.out WK.out.shape h2 pv GK.out
    have MI:Hid (Mid N2 (at2 X) k 0 (raised X1 k i)):=WK.out.raise hlt pv
    clear OK SP WK GK pv
    generalize raised X1 k i=X2 at *
    go_wp2_with (go_at_call 109;refine (RY.out _ _ (by with_reducible rfl) (by with_reducible rfl)).mono ?_;rintro e w2 ⟨us2,rfl,om,sp,g2⟩;have OK:Hid (OwnMat w.heap.size w2 (.slice (some ⟨g,0,none⟩) N2 cap2) us2 X2):=om;have SP:Hid (Sep us2):=sp;have GK:Hid (w.grownBy w2 none):=g2;clear om sp g2)
    clear RY
    go_loopw [24] (fun ti wr=>∃ (t:Nat) (X3:List (List Nat)),t<=N2/\ti=.int .i64 t/\Hid (OwnMat w.heap.size wr (.slice (some ⟨g,0,none⟩) N2 cap2) us2 X3)/\Hid (Mid N2 (at2 X) k t X3)/\Hid (w.grownBy wr none)) (fun ti _=>N2 - (intOf ti).toNat)
    case atStart=>exact⟨0,X2,by omega,rfl,OK.out,MI.out,GK.out⟩
    case round =>
     clear OK MI GK
     obtain⟨t,X3,ht,rfl,OK,MI,GK⟩:=hrel
     by_cases htl:t < N2
     ·have i4:(t:Int) < (N2:Int):=by omega
      have i5:(0:Int)<=(t:Int):=by omega
      have htX:t < X3.length:=by rw[MI.out.shape.len];exact htl
      have hkX:k < X3.length:=by rw[MI.out.shape.len];exact hlt
      obtain⟨g1,e1,z1,hct,z0,z2,z3,z4⟩:=OK.out.place (k:=t) htX
      obtain rfl:g=g1:=(by injection e1 with e1;injection e1 with e1)
      clear z0 z1 z2 z3 z4 e1
      obtain⟨g1,e1,z1,hck,z0,z2,z3,z4⟩:=OK.out.place (k:=k) hkX
      obtain rfl:g=g1:=(by injection e1 with e1;injection e1 with e1)
      clear z0 z1 z2 z3 z4 e1
      have ot:=OK.out.vec t htX
      obtain⟨pt,nt,ct,et,hnt⟩:=ot.vec.opened
      rw[et] at hct ot
      rw[MI.out.shape.row t htl] at hnt
      by_cases hne:t=k
      ·have hnn:((t:Int) != (k:Int))=false:=by simp[hne]
       have MI':Hid (Mid N2 (at2 X) k (t+1) X3):=by subst hne;exact MI.out.skip
       clear hne hck et hnt ot htX hkX
       go_wp2_with fail
       go_roundw
       case rel=>exact⟨t+1,X3,by omega,by go_num,OK.out,MI'.out,GK.out⟩
       case measure=>simp[intOf];omega
      ·have hnn:((t:Int) != (k:Int))=true:=by simp;omega
       have ok:=OK.out.vec k hkX
       obtain⟨pk,nk,ck,ek,hnk⟩:=ok.vec.opened
       rw[ek] at hck ok
       rw[MI.out.shape.row k hlt] at hnk
       obtain⟨gt,rfl,z1,hcx,z2,hx256,z3,z4⟩:=ot.spot (k:=k) (by rw[MI.out.shape.row t htl];omega)
       clear z1 z2 z3 z4
       obtain⟨gk,rfl,z1,z2,z3,z4,z5,z6⟩:=ok.spot (k:=0) (by rw[MI.out.shape.row k hlt];omega)
       clear z1 z2 z3 z4 z5 z6
       have ap:=SP.out k t (by have:=OK.out.same;omega) (by have:=OK.out.same;omega) (fun e=>hne e.symm)
       rw[ek,et] at ap
       have MI':Hid (Mid N2 (at2 X) k (t+1) (struck X3 t k)):=MI.out.strike htl hne
       have hlo:=ot.lo gt rfl
       have AD:Hid (∀ r1 r2 r3 w',r1=Value.slice (some ⟨gt,k,none⟩) (nt - k) (ct - k)->r2=Value.slice (some ⟨gk,k,none⟩) (nk - k) (ck - k)->r3=Value.int .u8 (((X3.getD t []).getD k 0:Nat):Int)->wr.grownBy w' none->Calls Tryz.prog 110 #[r1,r2,r3] w' fun e w''=>e=.returned (.tuple #[]) /\
        OwnMat w.heap.size w'' (.slice (some ⟨g,0,none⟩) N2 cap2) us2 (struck X3 t k)/\w.grownBy w'' none):=fun r1 r2 r3 w' e1 e2 e3 g'=>by
        subst e1 e2 e3
        have hv:=(ok.keep g').vec.tail (k:=k) (by omega)
        rw[Nat.zero_add] at hv
        have hr1:=MI.out.shape.row t htl
        have hr2:=MI.out.shape.row k hlt
        refine (addTimes_any (o:=k) (n:=nt - k) hx256 (ot.keep g') hv (by rw[List.length_drop];omega) (by rw[List.length_drop];omega) ap).mono ?_
        rintro e w'' ⟨rfl,ho,hg⟩
        refine⟨rfl,?_,grown_new (grown_trans GK.out g') hg (fun i e=>by have:=Option.some.inj e;omega)⟩
        refine (OK.out.keep g').rowSet SP.out htX ?_ ?_
        ·rw[et];exact ho
        ·rw[et];exact hg
       generalize struck X3 t k=X4 at *
       generalize (X3.getD t []).getD k 0=x at *
       have j1:(k:Int) < (nt:Int):=by omega
       have j2:(k:Int)<=(nt:Int):=by omega
       have j3:(k:Int)<=(nk:Int):=by omega
       have j6:(k:Int) < (nk:Int):=by omega
       have hct2:nt<=ct:=by
        obtain⟨p3,c3,e3,l3,_⟩:=ot.vec.form
        injection e3 with _ e4 e5
        omega
       have hck2:nk<=ck:=by
        obtain⟨p3,c3,e3,l3,_⟩:=ok.vec.form
        injection e3 with _ e4 e5
        omega
       have j4:(nt:Int)<=(ct:Int):=by omega
       have j5:(nk:Int)<=(ck:Int):=by omega
       clear OK GK MI ot ok et ek hnt hnk ap hlo htX hkX hne hct2 hck2
       go_wp2_with fail
       go_region_with (go_at_call 110;refine (AD.out _ _ _ _ (by first | with_reducible rfl | (simp;omega)) (by first | with_reducible rfl | (simp;omega)) (by with_reducible rfl) (by first | exact grown_drewN _ 1 | exact World.grownBy.refl _ _)).mono ?_;rintro e w3 ⟨rfl,ho,hg⟩;have HO:Hid (OwnMat w.heap.size w3 (.slice (some ⟨g,0,none⟩) N2 cap2) us2 X4):=ho;have HG:Hid (w.grownBy w3 none):=hg;clear ho hg)
       all_goals
        go_wp2
        go_roundw
        case rel=>exact⟨t+1,X4,by omega,by go_num,HO.out,MI'.out,HG.out⟩
        case measure=>simp[intOf];omega
     ·have htn:t=N2:=by omega
      subst htn
      go_wp2_with fail
      go_roundw
      case rel=>exact⟨k+1,us2,X3,by omega,by go_num,OK.out,SP.out,MI.out.work,GK.out⟩
      case measure=>simp[intOf];omega
   ·have RN:Hid (∀ r1 r2,r1=Value.slice (some ⟨g,0,none⟩) N2 cap2->r2=Value.int .i64 (k:Int)->Calls Tryz.prog 109 #[r1,r2] wr fun e w'=>e=.panicked noInverseChain/\w.grownBy w' none):=fun r1 r2 e1 e2=>by
     subst e1 e2
     exact raise_no OK.out WK.out.shape h2 hlt hz GK.out
    have NI:Hid (NoInv N2 (at2 X)):=WK.out.none hlt hz
    clear OK SP WK GK hz
    go_wp2_with (go_at_call 109;refine (RN.out _ _ (by with_reducible rfl) (by with_reducible rfl)).mono ?_;rintro e w2 ⟨rfl,g2⟩;have GK:Hid (w.grownBy w2 none):=g2;clear g2)
    exact⟨rfl,GK.out,.inr ⟨rfl,NI.out⟩⟩
  ·have hkn:N2=k:=by omega
   subst hkn
   obtain⟨wa,hwa⟩:∃ wa,wa=wr:=⟨wr,rfl⟩
   subst hwa
   have IV:Hid (MX.Inv N2 (at2 X) (at2 (halfList X1 N2))/\Shape (halfList X1 N2) N2 N2/\Shape X1 N2 (2 * N2)):=⟨WK.out.done,half_shape WK.out.shape,WK.out.shape⟩
   have BL:Hid (∀ w,Calls Tryz.prog 111 #[.int .i64 (N2:Int),.int .i64 (N2:Int)] w fun e w'=>∃ v us,e=.returned v/\OwnMat w.heap.size w' v us (List.replicate N2 (List.replicate N2 0))/\Sep us/\w.grownBy w' none):=fun w=>blank_any N2 N2 w (by omega) (by omega)
   clear WK SP
   go_wp2_with (go_at_call 111;refine (BL.out _).mono ?_;rintro e w2 ⟨v,ur,rfl,om,sp,g2⟩;have OM:Hid (OwnMat wa.heap.size w2 v ur (List.replicate N2 (List.replicate N2 0))):=om;have SR:Hid (Sep ur):=sp;have G2:Hid (wa.grownBy w2 none):=g2;clear om sp g2)
   have OK2:Hid (OwnMat w.heap.size w2 (.slice (some ⟨g,0,none⟩) N2 cap2) us X1):=OK.out.keep G2.out
   have GK2:Hid (w.grownBy w2 none/\w.heap.size<=wa.heap.size):=⟨grown_trans GK.out G2.out,GK.out.size⟩
   have LO:Hid (∀ j,j < us.length->Hi wa.heap.size (us.getD j undef)):=OK.out.hiRow
   clear OK GK BL
   obtain⟨pr,nr,cr,rfl,hnr⟩:=OM.out.mat.row.opened
   have hnr2:nr=N2:=by have:=OM.out.same;simp at this;omega
   subst hnr2
   obtain⟨gr,rfl,hbr,q1,q2,q3,q4,q5⟩:=OM.out.place (k:=0) (by simp;omega)
   have HBR:Hid (wa.heap.size<=gr):=hbr
   clear q1 q2 q3 q4 q5 hnr hbr
   go_loopw [53] (fun ti wr=>∃ (t:Nat),t<=nr/\ti=.int .i64 t/\Hid (OwnMat w.heap.size wr (.slice (some ⟨g,0,none⟩) nr cap2) us X1)/\Hid (OwnMat wa.heap.size wr (.slice (some ⟨gr,0,none⟩) nr cr) ur (halfTo X1 nr t))/\Hid (w.grownBy wr none)) (fun ti _=>nr - (intOf ti).toNat)
   case atStart=>exact⟨0,by omega,rfl,OK2.out,by have h:=OM.out;rw[<- halfTo_zero X1 nr] at h;exact h,GK2.out.1⟩
   case round =>
    clear OK2 OM
    obtain⟨t,ht,rfl,OK,OR,GK⟩:=hrel
    by_cases htl:t < nr
    ·have i4:(t:Int) < (nr:Int):=by omega
     have i5:(0:Int)<=(t:Int):=by omega
     have htX:t < X1.length:=by rw[IV.out.2.2.len];exact htl
     have htY:t < (halfTo X1 nr t).length:=by rw[halfTo_len];exact htl
     obtain⟨g1,e1,z1,hct,z0,z2,z3,z4⟩:=OK.out.place (k:=t) htX
     obtain rfl:g=g1:=(by injection e1 with e1;injection e1 with e1)
     clear z0 z1 z2 z3 z4 e1
     obtain⟨g1,e1,z1,hcr,z0,z2,z3,z4⟩:=OR.out.place (k:=t) htY
     obtain rfl:gr=g1:=(by injection e1 with e1;injection e1 with e1)
     clear z0 z1 z2 z3 z4 e1
     have ot:=OK.out.vec t htX
     obtain⟨pt,nt,ct,et,hnt⟩:=ot.vec.opened
     rw[et] at hct ot
     rw[IV.out.2.2.row t htl] at hnt
     obtain⟨gt,rfl,z1,z2,z3,z4,z5,z6⟩:=ot.spot (k:=0) (by rw[IV.out.2.2.row t htl];omega)
     clear z1 z2 z3 z4 z5 z6
     have od:=OR.out.vec t htY
     rw[halfTo_get _ _ _ htl] at od
     obtain⟨pd,nd,cd,ed,hnd⟩:=od.vec.opened
     rw[ed] at hcr od
     simp only[List.length_replicate] at hnd
     obtain⟨gd,rfl,z1,z2,z3,z4,z5,z6⟩:=od.spot (k:=0) (by simp;omega)
     clear z1 z2 z3 z4 z5 z6
     have hlo:=od.lo gd rfl
     have hdl:((X1.getD t []).drop nr).length=nr:=by rw[List.length_drop,IV.out.2.2.row t htl];omega
     have hv:=ot.vec.tail (k:=nr) (by omega)
     rw[Nat.zero_add] at hv
     have HV:Hid (∀ s,s=Value.slice (some ⟨gt,nr,none⟩) (nt - nr) (ct - nr)->Vec wr.drew s ((X1.getD t []).drop nr)):=fun s e=>by subst e;exact hv.keep (grown_drewN _ 1)
     have HD:Hid (Own wa.heap.size wr.drew (.slice (some ⟨gd,0,none⟩) nd cd) (List.replicate nr 0)):=od.keep (grown_drewN _ 1)
     have HDL:Hid (((X1.getD t []).drop nr).length=nr):=hdl
     have ST:Hid (∀ w3,Own wa.heap.size w3 (.slice (some ⟨gd,0,none⟩) nd cd) ((X1.getD t []).drop nr++(List.replicate nr 0).drop ((X1.getD t []).drop nr).length)->wr.drew.grownBy w3 (some gd) ->
      OwnMat w.heap.size w3 (.slice (some ⟨g,0,none⟩) nr cap2) us X1/\OwnMat wa.heap.size w3 (.slice (some ⟨gr,0,none⟩) nr cr) ur (halfTo X1 nr (t+1))/\w.grownBy w3 none/\w3.cell? ⟨gr,t,none⟩=some (.slice (some ⟨gd,0,none⟩) nd cd)):=fun w3 o3 g3=>by
      have e0:(List.replicate nr 0).drop ((X1.getD t []).drop nr).length=[]:=by rw[hdl,List.drop_replicate,Nat.sub_self];rfl
      rw[e0,List.append_nil] at o3
      have om3:=(OR.out.keep (grown_drewN _ 1)).rowSet SR.out htY (by rw[ed];exact o3) (by rw[ed];exact g3)
      rw[halfTo_set] at om3
      have hsz:=GK2.out.2
      have okd:=OK.out.keep (grown_drewN wr 1)
      refine⟨⟨okd.len,okd.row.kept g3 ?_,okd.same,fun j hj=>(okd.vec j hj).kept g3 ?_⟩,om3,grown_new (grown_trans GK.out (grown_drewN _ 1)) g3 (fun i e=>by have:=Option.some.inj e;omega),?_⟩
      ·exact Ap.symm (show Ap (.slice (some ⟨gd,0,none⟩) nd cd) (.slice (some ⟨g,0,none⟩) nr cap2) from apart_kinds okd.row (od.keep (grown_drewN _ 1)))
      ·exact apart_of (LO.out j (by have:=okd.same;omega)) (show Lo wa.heap.size (.slice (some ⟨gd,0,none⟩) nd cd) from od.lo)
      ·obtain⟨g1,e1,z1,hc3,z0,z2,z3,z4⟩:=om3.place (k:=t) (by rw[halfTo_len];exact htl)
       obtain rfl:gr=g1:=(by injection e1 with e1;injection e1 with e1)
       rw[ed] at hc3
       exact hc3
     have hct2:nt<=ct:=by
      obtain⟨p3,c3,e3,l3,_⟩:=ot.vec.form
      injection e3 with _ e4 e5
      omega
     have j1:(nr:Int) < (nt:Int):=by omega
     have j2:(nr:Int)<=(nt:Int):=by omega
     have j4:(nt:Int)<=(ct:Int):=by omega
     have j5:(0:Int)<=(nr:Int):=by omega
     have HC:Hid (wr.drew.cell? ⟨gr,t,none⟩=some (.slice (some ⟨gd,0,none⟩) nd cd)):=hcr
     clear OK OR GK ot od et ed hnt hnd hlo htX htY hct2 hdl hv
     go_wp2_with fail
     go_region_held3 (fun w'=>w'.cell? ⟨gr,t,none⟩=some (.slice (some ⟨gd,0,none⟩) nd cd)) (first | exact HC.out | exact HC3.out) (first | (refine step_copy_into (by rfl) _ _ (by rfl) _ _ (by rfl) (by rfl) HD.out (HV.out _ (by first | with_reducible rfl | (simp[Act.eval];done) | (simp[Act.eval];omega))) (by have:=HDL.out;rw[List.length_replicate];omega) (by have:=HDL.out;omega) ?_;intro w3 o3 g3;obtain⟨h5,h6,h7,h8⟩:=ST.out w3 o3 g3;have HC3:Hid (w3.cell? ⟨gr,t,none⟩=some (.slice (some ⟨gd,0,none⟩) nd cd)):=h8;have HO:Hid (OwnMat w.heap.size w3 (.slice (some ⟨g,0,none⟩) nr cap2) us X1):=h5;have HR:Hid (OwnMat wa.heap.size w3 (.slice (some ⟨gr,0,none⟩) nr cr) ur (halfTo X1 nr (t+1))):=h6;have HG:Hid (w.grownBy w3 none):=h7;clear o3 g3 h5 h6 h7 h8))
     all_goals
      go_wp2
      go_roundw
      case rel=>exact⟨t+1,by omega,by go_num,HO.out,HR.out,HG.out⟩
      case measure=>simp[intOf];omega
    ·have htn:t=nr:=by omega
     subst htn
     go_wp2
     go_ret
     refine⟨GK.out,.inl ⟨_,ur,halfList X1 t,rfl,?_,SR.out,IV.out.2.1,IV.out.1⟩⟩
     have h:=OR.out
     rw[halfTo_all] at h
     exact h.down GK2.out.2
theorem catch_idle (p q:Addr) (w:World) :
 CallsD Tryz.prog 107 #[.pointer (some p),.pointer (some q)] .returning w fun e u' w'=>e=.returned (.tuple #[])/\u'=.returning/\w'=w:=by
 refine callsD_of_wpS Tryz.func107 rfl fun c₀ cs hu=>?_
 apply wpS_seq
 apply wpS_region
 simp[wpOpsS,go_sem,recoverD,hu,Tryz.ntmps107,Exit.thenS]
 refine wpS_of_wp ?_
 change Code.wp _ _ _ { tmps:=#[.pointer (some p),.pointer (some q),.nilIface,undef,undef,.nilIface,undef,undef,undef,undef,undef,undef,undef,undef,undef,undef],defers:=[] } _
 go_wp2
 cases c₀
 simp_all [bodyPostS,results,Tryz.results107]
theorem alloc_cell {w:World} {a:Addr} {v:Value} (o:Obj) (h:w.cell? a=some v):(w.alloc o).cell? a=some v:=(World.grownBy_alloc w o none).cell h (by simp)
theorem alloc_frozen {w:World} {a:Addr} {v:Value} (o:Obj) (h:w.cell? a=some v) (f:w.frozen? a=false):(w.alloc o).frozen? a=false :=
 (World.frozen?_of_block ((World.grownBy_alloc w o none).block a.block (World.block_lt_of_cell? w a h) (by simp))).trans f
structure Ans (n:Nat) (X:List (List Nat)) (w w':World) (v:Value) (us:List Value) (Y:List (List Nat)):Prop where
 om:OwnMat w.heap.size w' v us Y
 sep:Sep us
 shape:Shape Y n n
 inv:MX.Inv n (at2 X) (at2 Y)
 grown:w.grownBy w' none
theorem solve_yes {w:World} {m:Value} {vs:List Value} {X:List (List Nat)} {n:Nat} (mr:Mat w m vs X) (hs:Shape X n n) (h1:1<=n) (h2:n<=255) (hi:¬ NoInv n (at2 X)) :
 Calls Tryz.prog 101 #[m] w fun e w'=>∃ p k c us Y,e=.returned (.slice p k c)/\Ans n X w w' (.slice p k c) us Y :=
 (solve_any mr hs h1 h2).mono fun e w' h=>by
   rcases h with ⟨g,⟨v,us,Y,rfl,om,sp,sh,iv⟩ | ⟨_,no⟩⟩
   ·obtain⟨p,k,c,rfl,_⟩:=om.mat.row.opened
    exact⟨p,k,c,us,Y,rfl,om,sp,sh,iv,g⟩
   ·exact absurd no hi
theorem inner_yes {w:World} {ga:Nat} {m:Value} {vs:List Value} {X:List (List Nat)} {n:Nat} (hc:w.cell? ⟨ga,0,none⟩=some m) (mr:Mat w m vs X) (hs:Shape X n n) (h1:1<=n) (h2:n<=255) (hi:¬ NoInv n (at2 X)) :
 Calls Tryz.prog 100 #[.pointer (some ⟨ga,0,none⟩)] w fun e w'=>∃ p k c us Y,e=.returned (.slice p k c)/\Ans n X w w' (.slice p k c) us Y:=by
 obtain⟨q,N,cap,rfl,hN⟩:=mr.row.opened
 have SO:Hid (∀ r,r=Value.slice q N cap->Calls Tryz.prog 101 #[r] w fun e w'=>∃ p k c us Y,e=.returned (.slice p k c)/\Ans n X w w' (.slice p k c) us Y):=fun r e=>e ▸ solve_yes mr hs h1 h2 hi
 clear hN mr hs hi
 go_enter Tryz.func100,Tryz.ntmps100
 go_wp2_with (go_at_call 101;refine (SO.out _ (by with_reducible rfl)).mono ?_;rintro e w1 ⟨p,k,c,us,Y,rfl,an⟩;have AN:Hid (Ans n X w w1 (.slice p k c) us Y):=an;clear an)
 go_ret
 exact⟨p,k,c,us,Y,rfl,AN.out⟩
theorem OwnMat.keptLow {B r:Nat} {w w':World} {v:Value} {us:List Value} {X:List (List Nat)} (h:OwnMat B w v us X) (hr:r < B) (g:w.grownBy w' (some r)):OwnMat B w' v us X:=by
 have ap:∀ u:Value,Lo B u->u.ownBlock=none\/u.ownBlock ≠ some r:=fun u hu=>by
  cases hk:u.ownBlock with
  | none=>exact .inl rfl
  | some k=>exact .inr fun e=>by have:=hu k hk;have:=Option.some.inj e;omega
 exact⟨h.len,h.row.kept g (ap _ h.lo),h.same,fun j hj=>(h.vec j hj).kept g (ap _ (h.vec j hj).lo)⟩
theorem cellOf_alloc (w:World) (x:Value) (t:TypeId):(w.alloc (.cells #[x] t)).cell? ⟨w.heap.size,0,none⟩=some x/\(w.alloc (.cells #[x] t)).frozen? ⟨w.heap.size,0,none⟩=false:=by
 have h:=heap_alloc_new w (.cells #[x] t)
 exact⟨by unfold World.cell?;rw[h];rfl,by unfold World.frozen?;rw[h];rfl⟩
theorem grown_frozen {w w':World} (g:w.grownBy w' none) {a:Addr} {v:Value} (h:w.cell? a=some v) (f:w.frozen? a=false):w'.frozen? a=false :=
 (World.frozen?_of_block (g.block a.block (World.block_lt_of_cell? w a h) (by simp))).trans f
theorem grown_set (w:World) (g k:Nat) (v:Value):w.grownBy (w.setCell ⟨g,k,none⟩ v) (some g):=⟨rfl,rfl,rfl,by simp,fun i hi hne=>Below.heap_setCell _ _ _ _ (by simpa using hne)⟩
abbrev att (w:World):World:=(w.alloc (.cells #[.slice none 0 0] 137)).alloc (.cells #[.int .i64 0] 45)
theorem att_facts {w w2:World} (g:(att w).grownBy w2 none):w2.cell? ⟨w.heap.size,0,none⟩=some (.slice none 0 0)/\w2.frozen? ⟨w.heap.size,0,none⟩=false/\w2.cell? ⟨w.heap.size+1,0,none⟩=some (.int .i64 0)/\w2.frozen? ⟨w.heap.size+1,0,none⟩=false:=by
 have c1:=cellOf_alloc w (.slice none 0 0) 137
 have c2:=cellOf_alloc (w.alloc (.cells #[.slice none 0 0] 137)) (.int .i64 0) 45
 rw[World.size_alloc] at c2
 have d1:=alloc_cell (.cells #[.int .i64 0] 45) c1.1
 have d2:=alloc_frozen (.cells #[.int .i64 0] 45) c1.1 c1.2
 exact⟨g.cell d1 (by simp),grown_frozen g d1 d2,g.cell c2.1 (by simp),grown_frozen g c2.1 c2.2⟩
set_option maxHeartbeats 1600000 in
theorem attempt_yes {w:World} {ga:Nat} {m:Value} {vs:List Value} {X:List (List Nat)} {n:Nat} (hc:w.cell? ⟨ga,0,none⟩=some m) (mr:Mat w m vs X) (hs:Shape X n n) (h1:1<=n) (h2:n<=255) (hi:¬ NoInv n (at2 X)) :
 Calls Tryz.prog 99 #[.func (.func 100) #[] #[.pointer (some ⟨ga,0,none⟩)]] w fun e w'=>∃ p k c us Y,e=.returned (.tuple #[.slice p k c,.int .i64 0])/\Ans n X w w' (.slice p k c) us Y:=by
 have hmf:∀ (fn:Fn) (first cap:Array Value) (w:World),(Instr.makeFunc fn first cap).run Tryz.prog w=.ok (.func fn first cap) w:=fun _ _ _ _=>rfl
 have IN:Hid (Calls Tryz.prog 100 #[.pointer (some ⟨ga,0,none⟩)] (att w) fun e w'=>∃ p k c us Y,e=.returned (.slice p k c)/\Ans n X (att w) w' (.slice p k c) us Y) :=
  inner_yes (alloc_cell _ (alloc_cell _ hc)) ((mr.keep (World.grownBy_alloc _ _ none)).keep (World.grownBy_alloc _ _ none)) hs h1 h2 hi
 clear hc mr hs hi
 go_enter_defers Tryz.func99,Tryz.ntmps99
 go_wp2_with (go_at_call 100;refine IN.out.mono ?_;rintro e w2 ⟨p,k,c,us,Y,rfl,an⟩;obtain⟨f1,f2,f3,f4⟩:=att_facts an.grown;have AN:Hid (Ans n X (att w) w2 (.slice p k c) us Y):=an;clear an)
 have R:Hid (Ans n X w ((w2.setCell ⟨w.heap.size,0,none⟩ (.slice p k c)).setCell ⟨w.heap.size+1,0,none⟩ (.int .i64 0)) (.slice p k c) us Y):=by
  obtain⟨om,sp,sh,iv,gr⟩:=AN.out
  have hsz:(att w).heap.size=w.heap.size+2:=by simp[att]
  have g0:w.grownBy (att w) none:=grown_trans (World.grownBy_alloc _ _ none) (World.grownBy_alloc _ _ none)
  refine⟨((om.keptLow (by omega) (grown_set _ _ _ _)).keptLow (by omega) (grown_set _ _ _ _)).down (by omega),sp,sh,iv,?_⟩
  exact grown_new (grown_new (grown_trans g0 gr) (grown_set _ _ _ _) (fun i e=>by have:=Option.some.inj e;omega)) (grown_set _ _ _ _) (fun i e=>by have:=Option.some.inj e;omega)
 have k1:((w2.setCell ⟨w.heap.size,0,none⟩ (.slice p k c)).setCell ⟨w.heap.size+1,0,none⟩ (.int .i64 0)).cell? ⟨w.heap.size,0,none⟩=some (.slice p k c):=by
  rw[World.cell?_setCell_other _ _ _ _ (by simp),World.cell?_setCell_same _ _ _ f1]
 have k2:((w2.setCell ⟨w.heap.size,0,none⟩ (.slice p k c)).setCell ⟨w.heap.size+1,0,none⟩ (.int .i64 0)).cell? ⟨w.heap.size+1,0,none⟩=some (.int .i64 0):=by
  rw[World.cell?_setCell_same _ _ _ (by rw[World.cell?_setCell_other _ _ _ _ (by simp)];exact f3)]
 clear AN IN f1 f2 f3 f4
 generalize (w2.setCell ⟨w.heap.size,0,none⟩ (.slice p k c)).setCell ⟨w.heap.size+1,0,none⟩ (.int .i64 0)=w3 at *
 refine leaves_cons (f:=107) (args:=#[.pointer (some ⟨w.heap.size,0,none⟩),.pointer (some ⟨w.heap.size+1,0,none⟩)]) (by simp) (by simp[go_sem]) ?_
 refine (catch_idle _ _ _).mono ?_
 rintro e u' w'' ⟨rfl,rfl,rfl⟩
 refine⟨.tuple #[.slice p k c,.int .i64 0],by simp[results,go_sem,k1,k2],p,k,c,us,Y,rfl,R.out⟩
abbrev boxed (w:World) (m:Value):World:=w.alloc (.cells #[m] 137)
set_option maxHeartbeats 1600000 in
theorem invert_ok {w:World} {m:Value} {vs:List Value} {X:List (List Nat)} (mr:Mat w m vs X) (hx:mayB X=true) (hsq:X.length=(X.getD 0 []).length) {R:Ending->World->Prop}
 (h:Calls Tryz.prog 99 #[.func (.func 100) #[] #[.pointer (some ⟨w.heap.size,0,none⟩)]] (boxed w m).drew fun e w'=>∃ a b,e=.returned (.tuple #[a,b])/\R e w') :
 Calls Tryz.prog 92 #[m] w fun e w'=>R e w':=by
 have hmf:∀ (fn:Fn) (first cap:Array Value) (w:World),(Instr.makeFunc fn first cap).run Tryz.prog w=.ok (.func fn first cap) w:=fun _ _ _ _=>rfl
 obtain⟨q,N,cap,rfl,hN⟩:=mr.row.opened
 have hb:=(cellOf_alloc w (.slice q N cap) 137).1
 have MA:∀ w',w.grownBy w' none->Calls Tryz.prog 98 #[.slice q N cap] w' fun e w''=>e=.returned (.bool (mayB X))/\w''=w':=fun w' g=>may_any (mr.keep g)
 have G1:Hid (w.grownBy (w.alloc (.cells #[.slice q N cap] 137)).drew none):=grown_trans (World.grownBy_alloc _ _ none) (grown_drewN _ 1)
 rw[hx] at MA
 have HA:Hid (∀ r w',r=Value.slice q N cap->w.grownBy w' none->Calls Tryz.prog 98 #[r] w' fun e w''=>e=.returned (.bool true)/\w''=w'):=fun r w' e g=>e ▸ MA w' g
 have sx:=may_spec hx
 have hsa:=mr.same
 obtain⟨b0,off,rfl,hc⟩:=mr.row.spot (k:=0) (by omega)
 obtain⟨p0,n0,c0,e0,hn0⟩:=(mr.vec 0 (by omega)).opened
 rw[e0] at hc
 have hc1:=alloc_cell (.cells #[.slice (some ⟨b0,off,none⟩) N cap] 137) (show w.cell? ⟨b0,off,none⟩=some (.slice p0 n0 c0) from hc)
 have hpos:(0:Int) < (N:Int):=by omega
 have hposN:0 < N:=by omega
 have hposZ:(0:Int)<=0:=by omega
 have hne:((N:Int) != (n0:Int))=false:=by simp;omega
 have AT:Hid (∀ r,r=Value.func (.func 100) #[] #[.pointer (some ⟨w.heap.size,0,none⟩)]->Calls Tryz.prog 99 #[r] (w.alloc (.cells #[.slice (some ⟨b0,off,none⟩) N cap] 137)).drew fun e w'=>∃ a b,e=.returned (.tuple #[a,b])/\R e w'):=fun r e=>e ▸ h
 clear MA hN h mr hc e0 hn0 hsa sx hsq
 go_enter Tryz.func92,Tryz.ntmps92
 go_wp2_with fail
 go_region_held3 (fun w'=>w'.cell? ⟨w.heap.size,0,none⟩=some (.slice (some ⟨b0,off,none⟩) N cap)/\w'.cell? ⟨b0,off,none⟩=some (.slice p0 n0 c0)) (exact⟨hb,hc1⟩) (first | (go_at_call 98;refine (HA.out _ _ (by with_reducible rfl) G1.out).mono ?_;rintro e w1 ⟨rfl,hw⟩;obtain rfl:=hw.symm;clear hw))
 all_goals
  go_wp2_with (go_at_call 99;refine (AT.out _ (by with_reducible rfl)).mono ?_;rintro e w1 ⟨ra,rb,rfl,hr⟩;have HR:Hid (R (.returned (.tuple #[ra,rb])) w1):=hr;clear hr)
  exact HR.out
theorem invert_yes {w:World} {m:Value} {vs:List Value} {X:List (List Nat)} (mr:Mat w m vs X) (hx:mayB X=true) (hsq:X.length=(X.getD 0 []).length) (hi:¬ NoInv X.length (at2 X)) :
 Calls Tryz.prog 92 #[m] w fun e w'=>∃ p k c us Y,e=.returned (.tuple #[.slice p k c,.int .i64 0])/\Ans X.length X w w' (.slice p k c) us Y:=by
 have sx:=may_spec hx
 have hs:Shape X X.length X.length:=by have:=sx.2.2.2.2;rw[<- hsq] at this;exact this
 have g1:w.grownBy (boxed w m).drew none:=grown_trans (World.grownBy_alloc _ _ none) (grown_drewN _ 1)
 refine invert_ok mr hx hsq (R:=fun e w'=>∃ p k c us Y,e=.returned (.tuple #[.slice p k c,.int .i64 0])/\Ans X.length X w w' (.slice p k c) us Y) ?_
 refine (attempt_yes (m:=m) (show (boxed w m).drew.cell? _=_ from (cellOf_alloc w m 137).1) (mr.keep g1) hs sx.1 sx.2.1 hi).mono ?_
 rintro e w' ⟨p,k,c,us,Y,rfl,an⟩
 exact⟨_,_,rfl,p,k,c,us,Y,rfl,⟨an.om.down g1.size,an.sep,an.shape,an.inv,grown_trans g1 an.grown⟩⟩
theorem gd_of (xs:List Nat) {j:Nat} (h:j < xs.length):xs.getD j 0=xs[j]:=by simp[List.getD,h]
end Go.Proofs.YtlklmhojadlncaaGreat
