/- Packed: RBar6, RRead6, RWr6, ROn6, RDset6. -/
import Derived.Test.YtfjlpifaaknmpaaGreatSp10
set_option linter.unusedSimpArgs false
set_option linter.unusedVariables false
set_option maxRecDepth 100000
namespace Go.Proofs.YtfjlpifaaknmpaaGreat
open Go.RowKit
namespace AM.RA
def Fit (A:RA):Prop:=∀ l ∈ A.L,(A.D.getD l.d none).isSome = true /\ l.k < A.n
def laid (A:RA) (q:Nat):RA:={ A with D:=(A.L.take q).foldl (fun D l=>rlay D l.d l.k l.b) A.D }
end AM.RA
theorem rlay_on (D:List (Option (List (List Nat)))) (d k:Nat) (b:List Nat) (e:Nat):((AM.rlay D d k b).getD e none).isSome = (D.getD e none).isSome:=by
 unfold AM.rlay
 by_cases h:d = e
 ·subst h
  by_cases hl:d < D.length
  ·simp [List.getD,hl]
  ·simp [List.getD,hl]
 ·simp only [List.getD]
  rw [List.getElem?_set_ne h]
theorem rlays_on (L:List AM.Fl):∀ (D:List (Option (List (List Nat)))) (e:Nat),((L.foldl (fun D l=>AM.rlay D l.d l.k l.b) D).getD e none).isSome = (D.getD e none).isSome:=by
 induction L with
 | nil=>intro D e;rfl
 | cons l r ih=>intro D e;simp only [List.foldl_cons];rw [ih,rlay_on]
theorem laid_step {A:AM.RA} {q:Nat} (hq:q < A.L.length):A.laid (q + 1) = { A.laid q with D:=AM.rlay (A.laid q).D A.L[q].d A.L[q].k A.L[q].b }:=by
 simp only [AM.RA.laid]
 rw [List.take_succ_eq_append_getElem hq,List.foldl_append]
 rfl
theorem some_of {α:Type} {D:List (Option α)} {e:Nat} (h:(D.getD e none).isSome = true):∃ x,D[e]? = some (some x):=by
 simp only [List.getD] at h
 cases hq:D[e]? with
 | none=>simp [hq] at h
 | some o=>cases o with
   | none=>simp [hq] at h
   | some x=>exact ⟨x,rfl⟩
theorem rlay_at {D:List (Option (List (List Nat)))} {d:Nat} {ss:List (List Nat)} (h:D[d]? = some (some ss)) (k:Nat) (b:List Nat):AM.rlay D d k b = D.set d (some (ss.set k b)):=by
 unfold AM.rlay
 simp [List.getD,h]
section
variable {G:Nat -> Prop} {w:World} {r:Nat} {A:AM.RA}
theorem RL.ready {dp:Option Addr} {dc:Nat} {ds:List Value} {lp:Option Addr} {lc:Nat} {fs:List Value} (h:RL G w r dp dc ds lp lc fs A) {q:Nat} (hq:q < A.L.length) (hon:(A.D.getD (A.L[q]'hq).d none).isSome = true) (hk:(A.L[q]'hq).k < A.n) :
 ∃ (dg lg sg c:Nat) (u ov:Value),dp = some ⟨dg,0,none⟩ /\ lp = some ⟨lg,0,none⟩ /\ (A.L[q]'hq).d < A.D.length /\ w.cell? ⟨r,0,none⟩ = some (.slice (some ⟨dg,0,none⟩) A.D.length dc) /\ w.cell? ⟨r,2,none⟩ = some (.slice (some ⟨lg,0,none⟩) A.L.length lc) /\
   w.cell? ⟨lg,q * 3,none⟩ = some (.int .i64 ((A.L[q]'hq).d:Int)) /\ w.cell? ⟨lg,q * 3 + 1,none⟩ = some (.int .i64 ((A.L[q]'hq).k:Int)) /\ w.cell? ⟨lg,q * 3 + 2,none⟩ = some u /\ w.cell? ⟨dg,(A.L[q]'hq).d * 2,none⟩ = some (.slice (some ⟨sg,0,none⟩) A.n c) /\
   w.cell? ⟨sg,(A.L[q]'hq).k,none⟩ = some ov /\ w.frozen? ⟨sg,(A.L[q]'hq).k,none⟩ = false /\ Vec w u (A.L[q]'hq).b /\ G sg /\ r ≠ sg /\ lg ≠ sg /\ dg ≠ sg /\
   (∀ (w1:World) (u1:Value),w.grownBy w1 none -> Own w.heap.size w1 u1 (A.L[q]'hq).b -> (∃ G',RIs G' (w1.setCell ⟨sg,(A.L[q]'hq).k,none⟩ u1) r { A with D:=AM.rlay A.D (A.L[q]'hq).d (A.L[q]'hq).k (A.L[q]'hq).b } /\ Step G w G' (w1.setCell ⟨sg,(A.L[q]'hq).k,none⟩ u1))):=by
 obtain ⟨ss,hss⟩:=some_of hon
 have hdl:(A.L[q]'hq).d < A.D.length:=(List.getElem?_eq_some_iff.1 hss).1
 obtain ⟨c0,_,c2,_,_⟩:=h.topCells
 obtain ⟨dg,v,rfl,hv,e0,_,cd,hcd⟩:=h.disk hdl
 obtain ⟨lg,u,rfl,_,f0,f1,f2,hu,cl,hcl⟩:=h.flight hq
 obtain ⟨sg,c,ov,b,rfl,co,fo,_,_,hsg,cs,hcs⟩:=h.place hv hss hk
 refine ⟨dg,lg,sg,c,u,ov,rfl,rfl,hdl,c0,c2,f0,f1,f2,e0,co,fo,hu.vec,hsg,ne_ty h.top hcs (by decide),ne_ty hcl hcs (by decide),ne_ty hcd hcs (by decide),fun w1 u1 g1 hu1=>?_⟩
 refine ⟨_,by rw [rlay_at hss];exact (h.laid g1 hv hss hk hu1).is,⟨⟨g1.os,g1.tape,g1.output,by simpa using g1.size,fun i hi hn=>?_⟩,fun i hi=>?_⟩⟩
 ·rw [Below.heap_setCell _ _ _ _ (by intro e;have e:i = sg:=e;rw [e] at hn;exact hn hsg)]
  exact g1.block i hi (by simp)
 ·rcases hi with hi | hi
  ·exact .inl hi
  ·exact .inr (rows_blk hu1.row hi).1
theorem RL.gone {dp:Option Addr} {dc:Nat} {ds:List Value} {lp:Option Addr} {lc:Nat} {fs:List Value} (h:RL G w r dp dc ds lp lc fs A):RL G (w.setCell ⟨r,2,none⟩ (.slice none 0 0)) r dp dc ds none 0 [] { A with L:=[] } :=
 h.flown (old:=none) (fun _ h=>h) h.lt (World.grownBy.refl w none) (fun g e=>by cases e) (L':=[]) (fs':=[]) (lp':=none) (lc':=0) (World.ownsRow_nil w 0 135 3) rfl (fun g hg=>by cases hg) (fun i u x hu=>by simp at hu) rfl
theorem laid_len (A:AM.RA) (q:Nat):(A.laid q).D.length = A.D.length:=by
 unfold AM.RA.laid
 generalize A.L.take q = Z
 simp only
 induction Z generalizing A with
 | nil=>rfl
 | cons l r ih=>simp only [List.foldl_cons];have:=ih { A with D:=AM.rlay A.D l.d l.k l.b };simp only at this;rw [this];simp [AM.rlay]
set_option maxHeartbeats 3200000 in
set_option maxRecDepth 100000 in
theorem rbarrier_any (h:RIs G w r A) (hfit:A.Fit) (hL:A.L.length <= 1000000):Calls Tryz.prog 30 #[rptr r] w fun e w'=>e = .returned (.int .i64 (A.barrier.1:Int)) /\ ∃ G',RIs G' w' r A.barrier.2 /\ Step G w G' w':=by
 have HI:Hid (RIs G w r A):=h
 obtain ⟨dp,dc,ds,lp,lc,fs,hrl⟩:=h
 obtain ⟨_,_,_,_,c4⟩:=hrl.topCells
 clear hrl
 cases hd:A.dark with
 | true =>
   rw [hd] at c4
   have HV:Hid (A.barrier = (8,A)):=by show _ = _;simp [AM.RA.barrier,hd]
   clear hd hfit
   go_enter Tryz.func30,Tryz.ntmps30
   go_wp2
   go_ret
   exact ⟨by rw [HV.out];rfl,G,by rw [HV.out];exact HI.out,Step.refl G w⟩
 | false =>
   rw [hd] at c4
   have hgo:=rgoes_yes HI.out hd
   cases hbu:A.burns with
   | true =>
     rw [hbu] at hgo
     have HGO:Hid (Calls Tryz.prog 77 #[rptr r] w fun e w'=>e = .returned (.bool true) /\ RIs G w' r A.burnt /\ Step G w G w'):=hgo
     have HV:Hid (A.barrier = (8,A.burnt)):=by show _ = _;simp [AM.RA.barrier,hd,hbu]
     clear hd hfit hgo hbu
     go_enter Tryz.func30,Tryz.ntmps30
     go_wp2_with (go_at_call 77;refine HGO.out.mono ?_;rintro e w1 ⟨rfl,hi1,hs1⟩;have HI1:Hid (RIs G w1 r A.burnt /\ Step G w G w1):=⟨hi1,hs1⟩;clear hi1 hs1)
     go_ret
     exact ⟨by rw [HV.out];rfl,G,by rw [HV.out];exact HI1.out.1,HI1.out.2⟩
   | false =>
     rw [hbu] at hgo
     have HGO:Hid (Calls Tryz.prog 77 #[rptr r] w fun e w'=>e = .returned (.bool false) /\ RIs G w' r A.burnt /\ Step G w G w'):=hgo
     obtain ⟨b1,b2,b3⟩:=AM.rburnt_D A
     have HV:Hid (A.barrier = (0,{ A.burnt.laid A.burnt.L.length with L:=[] })):=by
      show _ = _
      simp [AM.RA.barrier,hd,hbu,AM.RA.laid,b1,b3]
     have HFIT:Hid (A.burnt.Fit):=fun l hl=>by rw [b1,b2];exact hfit l (by rw [<- b3];exact hl)
     rw [<- b3] at hL
     obtain ⟨A1,hA1⟩:∃ A1,A1 = A.burnt:=⟨_,rfl⟩
     rw [<- hA1] at HGO HV HFIT hL
     obtain ⟨M,hM⟩:∃ M,M = A1.L.length:=⟨_,rfl⟩
     obtain ⟨N,hN⟩:∃ N,N = A1.D.length:=⟨_,rfl⟩
     have HM:Hid (M = A1.L.length):=hM
     have HN:Hid (N = A1.D.length):=hN
     rw [<- hM] at hL
     clear hd hfit hgo hbu b1 b2 b3 hA1 hM hN
     go_enter Tryz.func30,Tryz.ntmps30
     go_wp2_with (go_at_call 77;refine HGO.out.mono ?_;rintro e w1 ⟨rfl,hi1,hs1⟩;have HI1:Hid (RIs G w1 r A1 /\ Step G w G w1):=⟨hi1,hs1⟩;clear hi1 hs1)
     have HD2:Hid (N <= 255):=by
      obtain ⟨dp,dc,ds,lp,lc,fs,h1⟩:=HI1.out.1
      show _ <= _
      rw [HN.out];exact h1.d2
     go_loopw [3] (fun ti wr=>∃ q:Nat,q <= M /\ ti = .int .i64 (q:Int) /\ Hid (∃ G',RIs G' wr r (A1.laid q) /\ Step G w G' wr)) (fun ti _=>M - (intOf ti).toNat)
     case atStart=>exact ⟨0,by omega,rfl,G,HI1.out.1,HI1.out.2⟩
     case round =>
      clear HI1
      obtain ⟨q,hq,rfl,HX⟩:=hrel
      by_cases hlt:q < M
      ·have i1:(q:Int) < (M:Int):=by omega
       have hN255:=HD2.out
       obtain ⟨Gq,hri,hst⟩:=HX.out
       obtain ⟨dp,dc,ds,lp,lc,fs,hrl⟩:=hri
       have hql:q < A1.L.length:=by rw [<- HM.out];exact hlt
       obtain ⟨hon,hkn⟩:=HFIT.out A1.L[q] (List.getElem_mem hql)
       obtain ⟨dg,lg,sg,c,u,ov,rfl,rfl,hdN,z0,z2,z3,z4,z5,z6,zc,zf,zv,hsg,n1,n2,n3,hfin⟩:=hrl.ready (A:=A1.laid q) (q:=q) hql (by show ((A1.laid q).D.getD A1.L[q].d none).isSome = true;unfold AM.RA.laid;simp only;rw [rlays_on];exact hon) hkn
       have HNXT:Hid (∀ (w1:World) (u1:Value),wr.grownBy w1 none -> Own wr.heap.size w1 u1 A1.L[q].b -> ∃ G',RIs G' (w1.setCell ⟨sg,A1.L[q].k,none⟩ u1) r (A1.laid (q + 1)) /\ Step G w G' (w1.setCell ⟨sg,A1.L[q].k,none⟩ u1)):=fun w1 u1 g hu1=>by
        obtain ⟨G',a1,a2⟩:=hfin w1 u1 g hu1
        exact ⟨G',(by rw [laid_step hql];exact a1),hst.trans a2⟩
       have hDl:(A1.laid q).D.length = N:=by rw [HN.out];exact laid_len A1 q
       have hLl:A1.L.length = M:=HM.out.symm
       obtain ⟨pu,nu,mu,rfl,hnu⟩:=zv.opened
       clear hnu
       have s0:wr.cell? ⟨r,0,none⟩ = some (.slice (some ⟨dg,0,none⟩) N dc):=by rw [<- hDl];exact z0
       have s2:wr.cell? ⟨r,2,none⟩ = some (.slice (some ⟨lg,0,none⟩) M lc):=by rw [<- hLl];exact z2
       have s3:wr.cell? ⟨lg,q * 3,none⟩ = some (.int .i64 (A1.L[q].d:Int)):=z3
       have s4:wr.cell? ⟨lg,q * 3 + 1,none⟩ = some (.int .i64 (A1.L[q].k:Int)):=z4
       have s5:wr.cell? ⟨lg,q * 3 + 2,none⟩ = some (.slice pu nu mu):=z5
       have s6:wr.cell? ⟨dg,A1.L[q].d * 2,none⟩ = some (.slice (some ⟨sg,0,none⟩) A1.n c):=z6
       have co:wr.cell? ⟨sg,A1.L[q].k,none⟩ = some ov:=zc
       have fo:wr.frozen? ⟨sg,A1.L[q].k,none⟩ = false:=zf
       have hvu:Vec wr (.slice pu nu mu) A1.L[q].b:=zv
       clear z0 z2 z3 z4 z5 z6 zc zf zv
       have hdD:A1.L[q].d < N:=by rw [<- hDl];exact hdN
       have HSLT:Hid (sg < wr.heap.size):=hrl.lt sg hsg
       have HBF:Hid (wr.heap[sg]? = wr.heap[sg]?):=rfl
       have HB:Hid (Vec wr (.slice pu nu mu) A1.L[q].b):=hvu
       generalize A1.L[q].d = D at *
       generalize A1.L[q].k = K at *
       generalize A1.L[q].b = B at *
       obtain ⟨n,hn⟩:∃ n,n = A1.n:=⟨_,rfl⟩
       rw [<- hn] at s6 hkn
       have hn4:n <= 4096:=by rw [hn];exact hrl.n2
       clear hn
       have kn:(K:Int) < (n:Int):=by omega
       have dn:(D:Int) < (N:Int):=by omega
       have HS:Hid (wr.cell? ⟨r,0,none⟩ = some (.slice (some ⟨dg,0,none⟩) N dc) /\ wr.cell? ⟨r,2,none⟩ = some (.slice (some ⟨lg,0,none⟩) M lc) /\ wr.cell? ⟨lg,q * 3,none⟩ = some (.int .i64 (D:Int)) /\ wr.cell? ⟨lg,q * 3 + 1,none⟩ = some (.int .i64 (K:Int)) /\ wr.cell? ⟨lg,q * 3 + 2,none⟩ = some (.slice pu nu mu) /\ wr.cell? ⟨dg,D * 2,none⟩ = some (.slice (some ⟨sg,0,none⟩) n c)):=⟨s0,s2,s3,s4,s5,s6⟩
       have HSK:Hid (∀ W,wr.grownBy W none -> W.cell? ⟨r,0,none⟩ = some (.slice (some ⟨dg,0,none⟩) N dc) /\ W.cell? ⟨r,2,none⟩ = some (.slice (some ⟨lg,0,none⟩) M lc) /\ W.cell? ⟨lg,q * 3,none⟩ = some (.int .i64 (D:Int)) /\ W.cell? ⟨lg,q * 3 + 1,none⟩ = some (.int .i64 (K:Int)) /\ W.cell? ⟨lg,q * 3 + 2,none⟩ = some (.slice pu nu mu) /\ W.cell? ⟨dg,D * 2,none⟩ = some (.slice (some ⟨sg,0,none⟩) n c)):=fun W g=>⟨g.cell s0 (by simp),g.cell s2 (by simp),g.cell s3 (by simp),g.cell s4 (by simp),g.cell s5 (by simp),g.cell s6 (by simp)⟩
       have HSS:Hid (∀ (W:World) (v:Value),wr.grownBy W none -> (W.setCell ⟨sg,K,none⟩ v).cell? ⟨r,0,none⟩ = some (.slice (some ⟨dg,0,none⟩) N dc) /\ (W.setCell ⟨sg,K,none⟩ v).cell? ⟨r,2,none⟩ = some (.slice (some ⟨lg,0,none⟩) M lc) /\ (W.setCell ⟨sg,K,none⟩ v).cell? ⟨lg,q * 3,none⟩ = some (.int .i64 (D:Int)) /\ (W.setCell ⟨sg,K,none⟩ v).cell? ⟨lg,q * 3 + 1,none⟩ = some (.int .i64 (K:Int)) /\ (W.setCell ⟨sg,K,none⟩ v).cell? ⟨lg,q * 3 + 2,none⟩ = some (.slice pu nu mu) /\ (W.setCell ⟨sg,K,none⟩ v).cell? ⟨dg,D * 2,none⟩ = some (.slice (some ⟨sg,0,none⟩) n c)):=fun W v g=>by
        obtain ⟨a1,a2,a3,a4,a5,a6⟩:=HSK.out W g
        exact ⟨by rw [World.cell?_setCell_far _ _ _ _ (Ne.symm n1)];exact a1,by rw [World.cell?_setCell_far _ _ _ _ (Ne.symm n1)];exact a2,by rw [World.cell?_setCell_far _ _ _ _ (Ne.symm n2)];exact a3,by rw [World.cell?_setCell_far _ _ _ _ (Ne.symm n2)];exact a4,by rw [World.cell?_setCell_far _ _ _ _ (Ne.symm n2)];exact a5,by rw [World.cell?_setCell_far _ _ _ _ (Ne.symm n3)];exact a6⟩
       have HCF:Hid (∀ W,wr.grownBy W none -> W.cell? ⟨sg,K,none⟩ = some ov /\ W.frozen? ⟨sg,K,none⟩ = false):=fun W g=>⟨g.cell co (by simp),by rw [World.frozen?_of_block (w:=wr) (g.block sg HSLT.out (by simp))];exact fo⟩
       clear hrl hfin hvu hsg s0 s3 s4 s5 s6 co fo n1 n2 n3 hst HX hon HBF hDl hLl hdN
       go_wp2_with fail
       go_region_held3 (fun w'=>w'.cell? ⟨r,0,none⟩ = some (.slice (some ⟨dg,0,none⟩) N dc) /\ w'.cell? ⟨r,2,none⟩ = some (.slice (some ⟨lg,0,none⟩) M lc) /\ w'.cell? ⟨lg,q * 3,none⟩ = some (.int .i64 (D:Int)) /\ w'.cell? ⟨lg,q * 3 + 1,none⟩ = some (.int .i64 (K:Int)) /\ w'.cell? ⟨lg,q * 3 + 2,none⟩ = some (.slice pu nu mu) /\ w'.cell? ⟨dg,D * 2,none⟩ = some (.slice (some ⟨sg,0,none⟩) n c)) (first | exact HS.out | exact HSK.out _ (by first | exact World.grownBy.refl _ _ | exact gb_drew (World.grownBy.refl _ _) | exact gb_drew (gb_drew (World.grownBy.refl _ _))) | exact HSK.out _ HGF.out | exact HSK.out _ (gb_drew HGF.out) | exact HSS.out _ _ HGF.out | exact HSS.out _ _ (gb_drew HGF.out))
        ((go_at_call 78;refine (own_any (HB.out.keep (by first | exact World.grownBy.refl _ _ | exact gb_drew (World.grownBy.refl _ _) | exact gb_drew (gb_drew (World.grownBy.refl _ _))))).mono ?_;rintro e w8 ⟨p8,n8,c8,rfl,ho8,hg8⟩;have HGF:Hid (wr.grownBy w8 none):=grown_trans (by first | exact World.grownBy.refl _ _ | exact gb_drew (World.grownBy.refl _ _) | exact gb_drew (gb_drew (World.grownBy.refl _ _))) hg8;have co:=(HCF.out _ HGF.out).1;have fo:=(HCF.out _ HGF.out).2;have HX9:Hid (∃ G',RIs G' (w8.setCell ⟨sg,K,none⟩ (.slice p8 n8 c8)) r (A1.laid (q + 1)) /\ Step G w G' (w8.setCell ⟨sg,K,none⟩ (.slice p8 n8 c8))):=HNXT.out _ _ HGF.out ho8;clear ho8 hg8))
       have HX10:Hid (∃ G',RIs G' (w8.setCell ⟨sg,K,none⟩ (.slice p8 n8 c8)).drew r (A1.laid (q + 1)) /\ Step G w G' (w8.setCell ⟨sg,K,none⟩ (.slice p8 n8 c8)).drew):=by
        obtain ⟨G',a1,a2⟩:=HX9.out
        exact ⟨G',a1.keep (grown_drewN _ 1),a2.trans (Step.new (grown_drewN _ 1))⟩
       go_wp2
       go_roundw
       case rel=>exact ⟨q + 1,by omega,by go_num,by first | exact HX9 | exact HX10⟩
       case measure=>simp [intOf];omega
      ·have i1:¬ (q:Int) < (M:Int):=by omega
       obtain rfl:q = M:=by omega
       obtain ⟨Gq,hri,hst⟩:=HX.out
       obtain ⟨dp,dc,ds,lp,lc,fs,hrl⟩:=hri
       obtain ⟨_,_,z2,_,_⟩:=hrl.topCells
       have s2:wr.cell? ⟨r,2,none⟩ = some (.slice lp q lc):=by rw [HM.out];exact z2
       clear z2
       have f2:=topFrozen 2 hrl.top
       have HF:Hid (RIs Gq (wr.setCell ⟨r,2,none⟩ (.slice none 0 0)) r A.barrier.2 /\ Step G w Gq (wr.setCell ⟨r,2,none⟩ (.slice none 0 0))):=⟨by rw [HV.out,<- HM.out];exact hrl.gone.is,hst.trans (Step.of (grown_set_a wr r 2 _) (fun i e=>by obtain rfl:=Option.some.inj e;exact hrl.Gr))⟩
       have HV0:Hid (A.barrier.1 = 0):=by rw [HV.out];exact rfl
       clear hrl hst HX HV
       go_wp2
       go_ret
       exact ⟨by rw [HV0.out];rfl,Gq,HF.out⟩
end
theorem last_step (L:List AM.Fl) (d k:Nat) (b:List Nat) {i:Nat} (hi:i < L.length):AM.RA.last (L.take (i + 1)) d k b = if L[i].d = d /\ L[i].k = k then L[i].b else AM.RA.last (L.take i) d k b:=by
 unfold AM.RA.last
 rw [List.take_succ_eq_append_getElem hi,List.foldl_append]
 rfl
theorem rwhy_zero {A:AM.RA} {d k:Int} (h:A.why d k = 0):A.dark = false /\ 0 <= d /\ d < A.D.length /\ 0 <= k /\ k < A.n /\ ∃ ss,A.D[d.toNat]? = some (some ss):=by
 unfold AM.RA.why at h
 cases hd:A.dark with
 | true=>rw [hd] at h;simp at h
 | false =>
   rw [hd] at h
   simp only [Bool.false_eq_true,if_false] at h
   by_cases c:0 <= d /\ d < A.D.length /\ 0 <= k /\ k < A.n
   ·rw [if_pos c] at h
    refine ⟨rfl,c.1,c.2.1,c.2.2.1,c.2.2.2,?_⟩
    simp only [List.getD] at h
    cases hq:A.D[d.toNat]? with
    | none=>simp [hq] at h
    | some o=>cases o with
      | none=>simp [hq] at h
      | some ss=>exact ⟨ss,rfl⟩
   ·rw [if_neg c] at h;simp at h
section
variable {G:Nat -> Prop} {w:World} {r:Nat} {A:AM.RA}
set_option maxHeartbeats 800000 in
theorem rread_any (h:RIs G w r A) (hL:A.L.length <= 1000000) (d k:Int):Calls Tryz.prog 69 #[rptr r,.int .i64 d,.int .i64 k] w fun e w'=>∃ p n c,e = .returned (.tuple #[.slice p n c,.int .i64 (A.why d k:Int)]) /\ Own w.heap.size w' (.slice p n c) (A.read d k) /\ w.grownBy w' none:=by
 have HC:Hid (Calls Tryz.prog 83 #[rptr r,.int .i64 d,.int .i64 k] w fun e w'=>e = .returned (.int .i64 (A.why d k:Int)) /\ w' = w):=rwhy_yes h d k
 by_cases hr:A.why d k = 0
 ·obtain ⟨_,d1,d2,k1,k2,ss,hss⟩:=rwhy_zero hr
  obtain ⟨i,rfl⟩:∃ n:Nat,d = (n:Int):=⟨d.toNat,by omega⟩
  obtain ⟨j,rfl⟩:∃ n:Nat,k = (n:Int):=⟨k.toNat,by omega⟩
  have HRD:Hid (A.read (i:Int) (j:Int) = AM.RA.last (A.L.take A.L.length) i j (ss.getD j [])):=by
   show _ = _
   unfold AM.RA.read
   rw [if_pos hr,List.take_length]
   simp only [Int.toNat_natCast] at hss ⊢
   congr 1
   simp [List.getD,hss]
  rw [hr] at HC
  rw [Int.toNat_natCast] at hss
  have hil:i < A.D.length:=by omega
  obtain ⟨dp,dc,ds,lp,lc,fs,h⟩:=h
  have H:Hid (RL G w r dp dc ds lp lc fs A):=h
  obtain ⟨c0,_,c2,_,_⟩:=h.topCells
  obtain ⟨dg,v,rfl,hv,e0,hx1,hx2⟩:=h.disk hil
  clear hx1 hx2
  obtain ⟨sg,cs,u,b,rfl,cu,_,hb,hu,_,_⟩:=h.place (k:=j) hv hss (by omega)
  have hb':ss.getD j [] = b:=by simp [List.getD,hb]
  rw [hb'] at HRD
  obtain ⟨pu,nu,mu,rfl,hnu⟩:=hu.vec.opened
  have HU:Hid (Vec w (.slice pu nu mu) b):=hu.vec
  have HY:Hid (A.why (i:Int) (j:Int) = 0):=hr
  have hD2:=h.d2
  have hn2:=h.n2
  obtain ⟨N,hN⟩:∃ N,N = A.D.length:=⟨_,rfl⟩
  obtain ⟨M,hM⟩:∃ M,M = A.L.length:=⟨_,rfl⟩
  obtain ⟨n,hn⟩:∃ n,n = A.n:=⟨_,rfl⟩
  have HM:Hid (M = A.L.length):=hM
  rw [<- hN] at c0 hD2 d2
  rw [<- hM] at c2 hL
  rw [<- hn] at e0 hn2 k2
  clear h hr hss hv hb hu hnu hb' hil hN hM hn
  go_enter Tryz.func69,Tryz.ntmps69
  go_wp2_with (go_at_call 83;refine HC.out.mono ?_;rintro e w1 ⟨rfl,hw⟩;obtain rfl:=hw.symm;clear hw)
  go_loop [9,10] (fun tb ti=>∃ (q:Nat) (p:Option Addr) (m c:Nat),q <= M /\ ti = .int .i64 (q:Int) /\ tb = .slice p m c /\ Hid (Vec w (.slice p m c) (AM.RA.last (A.L.take q) i j b))) (fun _ ti=>M - (intOf ti).toNat)
  case atStart=>exact ⟨0,_,_,_,by omega,rfl,rfl,HU⟩
  case round =>
   obtain ⟨q,p,m,c,hq,rfl,rfl,HV⟩:=hrel
   by_cases hlt:q < M
   ·have i1:(q:Int) < (M:Int):=by omega
    have hql:q < A.L.length:=by rw [<- HM.out];exact hlt
    have hst:=last_step A.L i j b hql
    obtain ⟨lg,u2,rfl,_,f0,f1,f2,hu2,_⟩:=H.out.flight hql
    obtain ⟨p2,n2,m2,rfl,hz2⟩:=hu2.vec.opened
    clear hz2
    have HU2:Hid (Vec w (.slice p2 n2 m2) A.L[q].b):=hu2.vec
    generalize A.L[q].d = D at *
    generalize A.L[q].k = K at *
    by_cases g1:D = i
    ·by_cases g2:K = j
     ·subst g1
      subst g2
      have HV2:Hid (Vec w (.slice p2 n2 m2) (AM.RA.last (A.L.take (q + 1)) D K b)):=by rw [hst,if_pos ⟨rfl,rfl⟩];exact HU2
      clear hst hu2
      go_wp2
      go_round
      case rel=>exact ⟨q + 1,p2,n2,m2,by omega,by go_num,rfl,HV2⟩
      case measure=>simp [intOf];omega
     ·subst g1
      have i3:¬ (K:Int) = (j:Int):=by omega
      have HV2:Hid (Vec w (.slice p m c) (AM.RA.last (A.L.take (q + 1)) D j b)):=by rw [hst,if_neg (fun h=>g2 h.2)];exact HV
      clear hst hu2
      go_wp2
      go_round
      case rel=>exact ⟨q + 1,p,m,c,by omega,by go_num,rfl,HV2⟩
      case measure=>simp [intOf];omega
    ·have i2:¬ (D:Int) = (i:Int):=by omega
     have HV2:Hid (Vec w (.slice p m c) (AM.RA.last (A.L.take (q + 1)) i j b)):=by rw [hst,if_neg (fun h=>g1 h.1)];exact HV
     clear hst hu2
     go_wp2
     go_round
     case rel=>exact ⟨q + 1,p,m,c,by omega,by go_num,rfl,HV2⟩
     case measure=>simp [intOf];omega
   ·have i1:¬ (q:Int) < (M:Int):=by omega
    obtain rfl:q = M:=by omega
    have HV2:Hid (Vec w (.slice p m c) (A.read (i:Int) (j:Int))):=by rw [HRD.out,<- HM.out];exact HV
    go_wp2_with (go_at_call 78;refine (own_any HV2.out).mono ?_;rintro e w9 ⟨p9,n9,c9,rfl,ho,hg⟩;have HO:Hid (Own w.heap.size w9 (.slice p9 n9 c9) (A.read (i:Int) (j:Int)) /\ w.grownBy w9 none):=⟨ho,hg⟩;clear ho hg)
    go_ret2
    exact ⟨p9,n9,c9,by rw [HY.out];rfl,HO.out⟩
 ·have HRD:Hid (A.read d k = []):=by show _ = _;unfold AM.RA.read;rw [if_neg hr]
  have hne:¬ (A.why d k:Int) = 0:=by omega
  clear h hr
  generalize (A.why d k:Int) = z at *
  go_enter Tryz.func69,Tryz.ntmps69
  go_wp2_with (go_at_call 83;refine HC.out.mono ?_;rintro e w1 ⟨rfl,hw⟩;obtain rfl:=hw.symm;clear hw)
  go_ret2
  exact ⟨none,0,0,rfl,by rw [HRD.out];exact Own.nil _ _,World.grownBy.refl _ _⟩
end
theorem zeroFly:(Tryz.prog.info? 135).map (fun i=>(i.zero,i.size,i.bytes)) = some (some (.agg #[.int .i64 0,.int .i64 0,.slice none 0 0]),3,40):=by kernel_rfl
theorem run_zeroFly (w:World):(zeroValue 135).run Tryz.prog w = .ok (.agg #[.int .i64 0,.int .i64 0,.slice none 0 0]) w:=by
 obtain ⟨i,hi,h0,h1,h2⟩:=info_parts zeroFly
 simp [zeroValue,typeInfo,hi,h0]
theorem Tryz.sizeFly:(Tryz.prog.info? 135).map (·.size) = some 3:=by kernel_rfl
theorem lit_fly (w:World) (d k:Int) (p:Option Addr) (n c:Nat):(Instr.buildSlice 129 1 #[(0,.agg #[.int .i64 d,.int .i64 k,.slice p n c])]).run Tryz.prog w = .ok (.slice (some ⟨w.heap.size,0,none⟩) 1 1) (w.alloc (.cells #[.int .i64 d,.int .i64 k,.slice p n c] 135)):=by
 have hf:∀ z:Array Value,z.size = 3 -> Instr.fill (fun i=>some (i * 3,3)) z [(0,.agg #[.int .i64 d,.int .i64 k,.slice p n c])] = some #[.int .i64 d,.int .i64 k,.slice p n c]:=by
  intro z hz
  rw [fill_one (cs:=[.int .i64 d,.int .i64 k,.slice p n c]) (out:=[.int .i64 d,.int .i64 k,.slice p n c]) rfl rfl rfl (by simp;omega) (by simp [hz])]
  rfl
 simp [Instr.buildSlice,run_underlying Tryz.underlying129,run_size Tryz.sizeFly,run_zeroFly,newRow,hf]
theorem frow_app {fs:List Value} {L:List AM.Fl} (h:fs.length = L.length) (u:Value) (x:AM.Fl):frow (fs ++ [u]) (L ++ [x]) = frow fs L ++ [.int .i64 (x.d:Int),.int .i64 (x.k:Int),u]:=by
 unfold frow
 rw [List.zip_append h,List.flatMap_append]
 rfl
theorem step_append_fly {ops:Array Oper} {o:Oper} {ac:Act} {w:World} {K:Act -> World -> Prop} {Q:Exit -> Act -> World -> Prop} {E:Prop} (hgd:o.guard = none) (d s:Operand)
 (ho:o.op = .call { callee:=.builtin .append,args:=#[d,s],argTypes:=#[129,129] }) (dv:Value) {g c M:Nat} {xs:List Value} {a b:Int} {p:Option Addr} {n m:Nat} (hed:ac.eval d = dv) (hes:ac.eval s = .slice (some ⟨g,0,none⟩) 1 c)
 (hr:w.ownsRow 0 135 3 dv M xs) (hg:w.heap[g]? = some (.cells #[.int .i64 a,.int .i64 b,.slice p n m] 135 (0,0))) (hL:M <= 1000000)
 (h:∀ g' cap w',w'.ownsRow 0 135 3 (.slice (some ⟨g',0,none⟩) (M + 1) cap) (M + 1) (xs ++ [.int .i64 a,.int .i64 b,.slice p n m]) -> w.grownBy w' dv.ownBlock -> (dv.ownBlock = some g' \/ g' = w.heap.size) -> K (ac.put o.dst (.slice (some ⟨g',0,none⟩) (M + 1) cap)) w') :
 if Region.wanted o (yielded ops ac.tmps) = true then Oper.wp Tryz.prog o ac w K Q else E:=by
 have hw:Region.wanted o (yielded ops ac.tmps) = true:=by simp [Region.wanted,hgd]
 rw [if_pos hw]
 obtain ⟨g',cap,w',hrun,r1,r2,r3⟩:=run_append_at (ty:=o.type) (c:=c) Tryz.underlying129 zeroFly rfl (by decide) hr (a:=⟨g,0,none⟩) (m:=1) (news:=[.int .i64 a,.int .i64 b,.slice p n m]) (by decide) rfl (fun j u hj=>by rw [add_at,Nat.zero_add];exact topCell hg (by simpa using hj)) (by intro u hu;simp at hu;rcases hu with rfl | rfl | rfl <;> rfl) (by unfold maxLen;omega) (by omega)
 unfold Oper.wp
 simp [execOp,ho,resolve,invoke,builtin,hed,hes,hrun,Result.andThen]
 exact h _ _ _ r1 r2 r3
section
variable {G:Nat -> Prop} {w:World} {r:Nat} {A:AM.RA}
theorem RL.flew {dp:Option Addr} {dc:Nat} {ds:List Value} {lp:Option Addr} {lc:Nat} {fs:List Value} (h:RL G w r dp dc ds lp lc fs A) {w8:World} {u:Value} {b:List Nat} (g8:w.grownBy w8 none) (hu:Own w.heap.size w8 u b) {d k:Nat} {C:Array Value} {g5 cap5:Nat} {w5:World}
 (o5:w5.ownsRow 0 135 3 (.slice (some ⟨g5,0,none⟩) (A.L.length + 1) cap5) (A.L.length + 1) (frow fs A.L ++ [.int .i64 (d:Int),.int .i64 (k:Int),u])) (g:(w8.alloc (.cells C 135)).grownBy w5 (Value.slice lp A.L.length lc).ownBlock) (hw:(Value.slice lp A.L.length lc).ownBlock = some g5 \/ g5 = (w8.alloc (.cells C 135)).heap.size) :
 w5.cell? ⟨r,2,none⟩ = some (.slice lp A.L.length lc) /\ w5.frozen? ⟨r,2,none⟩ = false /\ w.heap.size <= w5.heap.size /\ ∃ G',RIs G' (w5.setCell ⟨r,2,none⟩ (.slice (some ⟨g5,0,none⟩) (A.L.length + 1) cap5)) r (A.fly d k b) /\ Step G w G' (w5.setCell ⟨r,2,none⟩ (.slice (some ⟨g5,0,none⟩) (A.L.length + 1) cap5)):=by
 have gw:w.grownBy w5 (Value.slice lp A.L.length lc).ownBlock:=grown_trans (grown_any (gb_alloc g8 _) _) g
 have hne:∀ (i:Nat) (c:Array Value) (t:TypeId),i < w.heap.size -> w.heap[i]? = some (.cells c t (0,0)) -> t ≠ 135 -> w5.heap[i]? = w.heap[i]?:=fun i c t hi hc ht=>gw.block i hi (fun e=>by
  obtain ⟨c',hc'⟩:=rowBlock h.fly e.symm
  exact ht (heap_ty hc hc'))
 have hr5:=(hne r _ _ (h.lt r h.Gr) h.top (by decide)).trans h.top
 have hu5:Own 0 w5 u b:=(hu.down (Nat.zero_le _)).same0 (fun x hx=>by
  obtain ⟨h1,h2,c,hc⟩:=rows_blk hu.row hx
  have e1:(w8.alloc (.cells C 135)).heap[x]? = w8.heap[x]?:=Below.heap_alloc w8 _ x h2
  rw [g.block x (by simp;omega) (fun e=>by
   have:=h.lt x (h.Gl x e.symm)
   omega),e1])
 have hlt5:g5 < w5.heap.size:=(rows_blk o5 rfl).2.1
 refine ⟨topCell (j:=2) hr5 rfl,topFrozen 2 hr5,gw.size,fun i=>G i \/ (w.heap.size <= i /\ i < w5.heap.size),?_,⟨⟨gw.os,gw.tape,gw.output,by simpa using gw.size,fun i hi hn=>?_⟩,fun i hi=>?_⟩⟩
 ·have:=h.flown (G':=fun i=>G i \/ (w.heap.size <= i /\ i < w5.heap.size)) (w1:=w5) (fun i hi=>.inl hi) (fun i hi=>by
   rcases hi with hi | hi
   ·exact Nat.lt_of_lt_of_le (h.lt i hi) gw.size
   ·exact hi.2) gw (fun x e=>e) (L':=A.L ++ [⟨d,k,b⟩]) (fs':=fs ++ [u]) (lp':=some ⟨g5,0,none⟩) (lc':=cap5) (by rw [frow_app h.flen,List.length_append];exact o5) (by simp [h.flen]) (fun x hx=>by
    obtain rfl:g5 = x:=Option.some.inj hx
    rcases hw with hw | hw
    ·exact .inl (h.Gl _ hw)
    ·exact .inr ⟨by rw [hw];exact Nat.le_trans g8.size (by simp),hlt5⟩) (fun i u' x hu' hx=>?_) (w':=w5.setCell ⟨r,2,none⟩ (.slice (some ⟨g5,0,none⟩) (A.L.length + 1) cap5)) (by simp)
  ·exact this.is
  ·by_cases hi:i < fs.length
   ·rw [List.getElem?_append_left hi] at hu'
    rw [List.getElem?_append_left (by rw [<- h.flen];exact hi)] at hx
    obtain ⟨q1,q2⟩:=h.fv i u' x hu' hx
    exact ⟨q1.same0 (fun y hy=>by
     obtain ⟨c,hc⟩:=rowBlock q1.row hy
     exact hne y c _ (h.lt y (q2 y hy)) hc (by decide)),fun y hy=>.inl (q2 y hy)⟩
   ·have hie:i = fs.length:=by
     have:=(List.getElem?_eq_some_iff.1 hu').1
     simp at this
     omega
    rw [hie,List.getElem?_append_right (Nat.le_refl _),Nat.sub_self] at hu'
    rw [hie,h.flen,List.getElem?_append_right (Nat.le_refl _),Nat.sub_self] at hx
    obtain rfl:u = u':=Option.some.inj hu'
    obtain rfl:=Option.some.inj hx
    exact ⟨hu5,fun y hy=>.inr ⟨(rows_blk hu.row hy).1,(rows_blk hu5.row hy).2.1⟩⟩
 ·rw [Below.heap_setCell _ _ _ _ (by intro e;have e:i = r:=e;rw [e] at hn;exact hn h.Gr)]
  exact gw.block i hi (fun e=>hn (h.Gl i e.symm))
 ·rcases hi with hi | hi
  ·exact .inl hi
  ·exact .inr hi.1
set_option maxHeartbeats 3200000 in
set_option maxRecDepth 100000 in
theorem rwrite_fly (h:RIs G w r A) {d k:Nat} {v:Value} {b:List Nat} (hr:A.why (d:Int) (k:Int) = 0) (hv:Vec w v b) (hvF:b ≠ [] -> ∀ g,v.ownBlock = some g -> ¬ G g) (hb:b.length = 64) (hbu:A.burns = false) (hL:A.L.length <= 1000000) :
 Calls Tryz.prog 37 #[rptr r,.int .i64 (d:Int),.int .i64 (k:Int),v] w fun e w'=>e = .returned (.int .i64 0) /\ ∃ G',RIs G' w' r (A.burnt.fly d k b) /\ Step G w G' w':=by
 have HC:Hid (Calls Tryz.prog 83 #[rptr r,.int .i64 (d:Int),.int .i64 (k:Int)] w fun e w'=>e = .returned (.int .i64 0) /\ w' = w):=by have:=rwhy_yes h (d:Int) (k:Int);rw [hr] at this;exact this
 have HGO:Hid (Calls Tryz.prog 77 #[rptr r] w fun e w'=>e = .returned (.bool false) /\ RIs G w' r A.burnt /\ Step G w G w'):=by have:=rgoes_yes h (rwhy_zero hr).1;rw [hbu] at this;exact this
 obtain ⟨pv,nv,cv,rfl,hnv⟩:=hv.opened
 obtain rfl:nv = 64:=by omega
 have HVU:Hid (∀ W,Upd G w W -> Vec W (.slice pv 64 cv) b):=fun W u=>hv.upd u hvF
 obtain ⟨_,_,b3⟩:=AM.rburnt_D A
 rw [<- b3] at hL
 obtain ⟨A1,hA1⟩:∃ A1,A1 = A.burnt:=⟨_,rfl⟩
 rw [<- hA1] at HGO hL ⊢
 clear h hr hv hvF hbu hnv b3 hA1 hb
 go_enter Tryz.func37,Tryz.ntmps37
 go_wp2_with (first
  | (go_at_call 83;refine HC.out.mono ?_;rintro e w1 ⟨rfl,hw⟩;obtain rfl:=hw.symm;clear hw)
  | (go_at_call 77;refine HGO.out.mono ?_;rintro e w1 ⟨rfl,hi1,hs1⟩;have HI1:Hid (RIs G w1 r A1 /\ Step G w G w1):=⟨hi1,hs1⟩;clear hi1 hs1)
  | fail)
 obtain ⟨dp,dc,ds,lp,lc,fs,h1⟩:=HI1.out.1
 have HVB:Hid (Vec w1.drew (.slice pv 64 cv) b):=(HVU.out w1 HI1.out.2.upd).keep (grown_drewN _ 1)
 obtain ⟨M,hM⟩:∃ M,M = A1.L.length:=⟨_,rfl⟩
 obtain ⟨_,_,zc2,_,_⟩:=h1.topCells
 have c2:w1.cell? ⟨r,2,none⟩ = some (.slice lp M lc):=by rw [hM];exact zc2
 have HC8:Hid (∀ W,w1.grownBy W none -> W.cell? ⟨r,2,none⟩ = some (.slice lp M lc)):=fun W g=>g.cell c2 (by simp)
 have HFL8:Hid (∀ (W:World),w1.grownBy W none -> ∀ C:Array Value,(W.alloc (.cells C 135)).ownsRow 0 135 3 (.slice lp M lc) M (frow fs A1.L)):=fun W g C=>by
  rw [hM]
  exact ownsRow_same h1.fly (fun x hx=>(gb_alloc g _).block x (h1.lt x (h1.Gl x hx)) (by simp))
 obtain ⟨z,hz⟩:∃ z,z = w1.heap.size:=⟨_,rfl⟩
 have HZ:Hid (z <= w1.drew.heap.size):=by show z <= w1.heap.size;omega
 have HZ8:Hid (∀ W:World,w1.grownBy W none -> z <= W.heap.size):=fun W g=>by have:=g.size;omega
 have FIN:Hid (∀ (w8:World) (u:Value),w1.grownBy w8 none -> Own w1.heap.size w8 u b -> ∀ (g5 cap5:Nat) (w5:World),w5.ownsRow 0 135 3 (.slice (some ⟨g5,0,none⟩) (M + 1) cap5) (M + 1) (frow fs A1.L ++ [.int .i64 (d:Int),.int .i64 (k:Int),u]) -> (w8.alloc (.cells #[.int .i64 (d:Int),.int .i64 (k:Int),u] 135)).grownBy w5 (Value.slice lp M lc).ownBlock -> ((Value.slice lp M lc).ownBlock = some g5 \/ g5 = (w8.alloc (.cells #[.int .i64 (d:Int),.int .i64 (k:Int),u] 135)).heap.size) ->
  w5.cell? ⟨r,2,none⟩ = some (.slice lp M lc) /\ w5.frozen? ⟨r,2,none⟩ = false /\ z <= w5.heap.size /\ z <= (w5.setCell ⟨r,2,none⟩ (.slice (some ⟨g5,0,none⟩) (M + 1) cap5)).heap.size /\ ∃ G',RIs G' (w5.setCell ⟨r,2,none⟩ (.slice (some ⟨g5,0,none⟩) (M + 1) cap5)) r (A1.fly d k b) /\ Step G w G' (w5.setCell ⟨r,2,none⟩ (.slice (some ⟨g5,0,none⟩) (M + 1) cap5))):=fun w8 u g8 hu g5 cap5 w5 o5 gr5 hw5=>by
  rw [hM] at o5 gr5 hw5 ⊢
  obtain ⟨q1,q2,q3,G',q4,q5⟩:=h1.flew g8 hu (d:=d) (k:=k) o5 gr5 hw5
  exact ⟨q1,q2,by omega,by simp;omega,G',q4,HI1.out.2.trans q5⟩
 rw [<- hM] at hL
 clear h1 hM hz zc2 HI1 HVU HGO HC
 refine wp_region_noPanic ?_
 refine wp_region_held_drew (S:=fun w'=>z <= w'.heap.size) (by kernel_rfl) ?_ (fun hHeld=>?_)
 ·exact HZ.out
 refine wpAnyH_take (i:=0) (v:=?_) rfl (by kernel_rfl) (by kernel_rfl) (by kernel_rfl) (fun _ _ _ h=>h) (Or.inl ⟨by rfl,?_⟩) (by assumption) ?_
 rotate_left
 ·intro w hSw;(try dsimp only at hSw);first | (go_simp;done) | (go_simp;with_reducible rfl)
 simp only [Act.put,lay9]
 refine wpAnyH_take (i:=1) (v:=?_) rfl (by kernel_rfl) (by kernel_rfl) (by kernel_rfl) (fun _ _ _ h=>h) (Or.inl ⟨by rfl,?_⟩) (by assumption) ?_
 rotate_left
 ·intro w hSw;(try dsimp only at hSw);first | (go_simp;done) | (go_simp;with_reducible rfl)
 simp only [Act.put,lay9]
 refine wpAnyH_take (i:=2) (v:=?_) rfl (by kernel_rfl) (by kernel_rfl) (by kernel_rfl) (fun _ _ _ h=>h) (Or.inl ⟨by rfl,?_⟩) (by assumption) ?_
 rotate_left
 ·intro w hSw;(try dsimp only at hSw);first | (go_simp;done) | (go_simp;with_reducible rfl)
 simp only [Act.put,lay9]
 refine wpAnyH_take (i:=3) (v:=?_) rfl (by kernel_rfl) (by kernel_rfl) (by kernel_rfl) (fun _ _ _ h=>h) (Or.inl ⟨by rfl,?_⟩) (by assumption) ?_
 rotate_left
 ·intro w hSw;(try dsimp only at hSw);first | (go_simp;done) | (go_simp;with_reducible rfl)
 simp only [Act.put,lay9]
 refine wpAnyH_take (i:=5) (v:=?_) rfl (by kernel_rfl) (by kernel_rfl) (by kernel_rfl) (fun _ _ _ h=>h) (Or.inl ⟨by rfl,?_⟩) (by assumption) ?_
 rotate_left
 ·intro w hSw;(try dsimp only at hSw);first | (go_simp;done) | (go_simp;with_reducible rfl)
 simp only [Act.put,lay9]
 refine wpAnyH_take (i:=6) (v:=?_) rfl (by kernel_rfl) (by kernel_rfl) (by kernel_rfl) (fun _ _ _ h=>h) (Or.inl ⟨by rfl,?_⟩) (by assumption) ?_
 rotate_left
 ·intro w hSw;(try dsimp only at hSw);first | (go_simp;done) | (go_simp;with_reducible rfl)
 simp only [Act.put,lay9]
 refine wpAnyH_take (i:=7) (v:=?_) rfl (by kernel_rfl) (by kernel_rfl) (by kernel_rfl) (fun _ _ _ h=>h) (Or.inl ⟨by rfl,?_⟩) (by assumption) ?_
 rotate_left
 ·intro w hSw;(try dsimp only at hSw);first | (go_simp;done) | (go_simp;with_reducible rfl)
 simp only [Act.put,lay9]
 refine wpAnyH_ready (rs:=[4,8]) (by kernel_rfl) (by simp) ?_
 refine AllReadyH.cons rfl (fun K hK=>?_) (AllReadyH.cons rfl (fun K hK=>?_) AllReadyH.nil)
 ·skip
  have c2d:=(show w1.drew.cell? ⟨r,2,none⟩ = some (.slice lp M lc) from c2)
  go_simp
  refine hK.out _ _ (HZ.out) (fun hHeld=>?_)
  clear hK K
  clear c2d
  (try simp only [Act.put,lay9])
  refine wpAnyH_ready (rs:=[8]) (by kernel_rfl) (by simp) ?_
  refine AllReadyH.cons rfl (fun K hK=>?_) AllReadyH.nil
  go_simp
  refine (own_any HVB.out).mono ?_
  rintro e w8 ⟨p8,n8,c8,rfl,ho8,hg8⟩
  have HO8:Hid (Own w1.heap.size w8 (.slice p8 n8 c8) b /\ w1.grownBy w8 none):=⟨ho8,grown_trans (grown_drewN _ 1) hg8⟩
  clear ho8 hg8
  refine hK.out _ _ (HZ8.out w8 HO8.out.2) (fun hHeld=>?_)
  clear hK K
  (try simp only [Act.put,lay9])
  refine wpAnyH_take (i:=9) (v:=?_) rfl (by kernel_rfl) (by kernel_rfl) (by kernel_rfl) (fun _ _ _ h=>h) (Or.inl ⟨by rfl,?_⟩) (by assumption) ?_
  rotate_left
  ·intro w hSw;(try dsimp only at hSw);first | (go_simp;done) | (go_simp;with_reducible rfl)
  simp only [Act.put,lay9]
  refine wpAnyH_ready (rs:=[10]) (by kernel_rfl) (by simp) ?_
  refine AllReadyH.cons rfl (fun K hK=>?_) AllReadyH.nil
  have hlit:=lit_fly w8 (d:Int) (k:Int) p8 n8 c8
  go_simp
  refine hK.out _ _ (HZ8.out _ (gb_alloc HO8.out.2 _)) (fun hHeld=>?_)
  clear hK K
  clear hlit
  (try simp only [Act.put,lay9])
  refine wpAnyH_ready (rs:=[11]) (by kernel_rfl) (by simp) ?_
  refine AllReadyH.cons rfl (fun K hK=>?_) AllReadyH.nil
  refine step_append_fly (by rfl) _ _ (by rfl) (.slice lp M lc) (g:=w8.heap.size) (by rfl) (by rfl) (HFL8.out w8 HO8.out.2 _) (heap_alloc_new w8 _) hL ?_
  intro g5 cap5 w5 o5 gr5 hw5
  obtain ⟨cc5,ff5,hz5,hz6,hfin⟩:=FIN.out w8 (.slice p8 n8 c8) HO8.out.2 HO8.out.1 g5 cap5 w5 o5 ⟨gr5.os,gr5.tape,gr5.output,gr5.size,gr5.block⟩ hw5
  have HFIN:Hid (∃ G',RIs G' (w5.setCell ⟨r,2,none⟩ (.slice (some ⟨g5,0,none⟩) (M + 1) cap5)) r (A1.fly d k b) /\ Step G w G' (w5.setCell ⟨r,2,none⟩ (.slice (some ⟨g5,0,none⟩) (M + 1) cap5))):=hfin
  have HZ6:Hid (z <= (w5.setCell ⟨r,2,none⟩ (.slice (some ⟨g5,0,none⟩) (M + 1) cap5)).heap.size):=hz6
  refine hK.out _ _ (hz5) (fun hHeld=>?_)
  clear hK K
  clear o5 gr5 hw5 hz5 hz6 hfin FIN
  (try simp only [Act.put,lay9])
  refine wpAnyH_take (i:=12) (v:=?_) rfl (by kernel_rfl) (by kernel_rfl) (by kernel_rfl) (fun _ _ _ h=>h) (Or.inl ⟨by rfl,?_⟩) (by assumption) ?_
  rotate_left
  ·intro w hSw;(try dsimp only at hSw);first | (go_simp;done) | (go_simp;with_reducible rfl)
  simp only [Act.put,lay9]
  refine wpAnyH_take (i:=13) (v:=?_) rfl (by kernel_rfl) (by kernel_rfl) (by kernel_rfl) (fun _ _ _ h=>h) (Or.inl ⟨by rfl,?_⟩) (by assumption) ?_
  rotate_left
  ·intro w hSw;(try dsimp only at hSw);first | (go_simp;done) | (go_simp;with_reducible rfl)
  simp only [Act.put,lay9]
  refine wpAnyH_ready (rs:=[14]) (by kernel_rfl) (by simp) ?_
  refine AllReadyH.cons rfl (fun K hK=>?_) AllReadyH.nil
  go_simp
  refine hK.out _ _ (HZ6.out) (fun hHeld=>?_)
  clear hK K
  refine wpAnyH_done (by kernel_rfl) ?_ _
  refine NoPanic.normal ?_
  go_wp2
  go_ret
  exact ⟨rfl,HFIN.out⟩
 ·skip
  go_simp
  refine (own_any HVB.out).mono ?_
  rintro e w8 ⟨p8,n8,c8,rfl,ho8,hg8⟩
  have HO8:Hid (Own w1.heap.size w8 (.slice p8 n8 c8) b /\ w1.grownBy w8 none):=⟨ho8,grown_trans (grown_drewN _ 1) hg8⟩
  clear ho8 hg8
  refine hK.out _ _ (HZ8.out w8 HO8.out.2) (fun hHeld=>?_)
  clear hK K
  (try simp only [Act.put,lay9])
  refine wpAnyH_take (i:=9) (v:=?_) rfl (by kernel_rfl) (by kernel_rfl) (by kernel_rfl) (fun _ _ _ h=>h) (Or.inl ⟨by rfl,?_⟩) (by assumption) ?_
  rotate_left
  ·intro w hSw;(try dsimp only at hSw);first | (go_simp;done) | (go_simp;with_reducible rfl)
  simp only [Act.put,lay9]
  refine wpAnyH_ready (rs:=[4,10]) (by kernel_rfl) (by simp) ?_
  refine AllReadyH.cons rfl (fun K hK=>?_) (AllReadyH.cons rfl (fun K hK=>?_) AllReadyH.nil)
  ·skip
   have c2d:=(HC8.out w8 HO8.out.2)
   go_simp
   refine hK.out _ _ (HZ8.out w8 HO8.out.2) (fun hHeld=>?_)
   clear hK K
   clear c2d
   (try simp only [Act.put,lay9])
   refine wpAnyH_ready (rs:=[10]) (by kernel_rfl) (by simp) ?_
   refine AllReadyH.cons rfl (fun K hK=>?_) AllReadyH.nil
   have hlit:=lit_fly w8 (d:Int) (k:Int) p8 n8 c8
   go_simp
   refine hK.out _ _ (HZ8.out _ (gb_alloc HO8.out.2 _)) (fun hHeld=>?_)
   clear hK K
   clear hlit
   (try simp only [Act.put,lay9])
   refine wpAnyH_ready (rs:=[11]) (by kernel_rfl) (by simp) ?_
   refine AllReadyH.cons rfl (fun K hK=>?_) AllReadyH.nil
   refine step_append_fly (by rfl) _ _ (by rfl) (.slice lp M lc) (g:=w8.heap.size) (by rfl) (by rfl) (HFL8.out w8 HO8.out.2 _) (heap_alloc_new w8 _) hL ?_
   intro g5 cap5 w5 o5 gr5 hw5
   obtain ⟨cc5,ff5,hz5,hz6,hfin⟩:=FIN.out w8 (.slice p8 n8 c8) HO8.out.2 HO8.out.1 g5 cap5 w5 o5 ⟨gr5.os,gr5.tape,gr5.output,gr5.size,gr5.block⟩ hw5
   have HFIN:Hid (∃ G',RIs G' (w5.setCell ⟨r,2,none⟩ (.slice (some ⟨g5,0,none⟩) (M + 1) cap5)) r (A1.fly d k b) /\ Step G w G' (w5.setCell ⟨r,2,none⟩ (.slice (some ⟨g5,0,none⟩) (M + 1) cap5))):=hfin
   have HZ6:Hid (z <= (w5.setCell ⟨r,2,none⟩ (.slice (some ⟨g5,0,none⟩) (M + 1) cap5)).heap.size):=hz6
   refine hK.out _ _ (hz5) (fun hHeld=>?_)
   clear hK K
   clear o5 gr5 hw5 hz5 hz6 hfin FIN
   (try simp only [Act.put,lay9])
   refine wpAnyH_take (i:=12) (v:=?_) rfl (by kernel_rfl) (by kernel_rfl) (by kernel_rfl) (fun _ _ _ h=>h) (Or.inl ⟨by rfl,?_⟩) (by assumption) ?_
   rotate_left
   ·intro w hSw;(try dsimp only at hSw);first | (go_simp;done) | (go_simp;with_reducible rfl)
   simp only [Act.put,lay9]
   refine wpAnyH_take (i:=13) (v:=?_) rfl (by kernel_rfl) (by kernel_rfl) (by kernel_rfl) (fun _ _ _ h=>h) (Or.inl ⟨by rfl,?_⟩) (by assumption) ?_
   rotate_left
   ·intro w hSw;(try dsimp only at hSw);first | (go_simp;done) | (go_simp;with_reducible rfl)
   simp only [Act.put,lay9]
   refine wpAnyH_ready (rs:=[14]) (by kernel_rfl) (by simp) ?_
   refine AllReadyH.cons rfl (fun K hK=>?_) AllReadyH.nil
   go_simp
   refine hK.out _ _ (HZ6.out) (fun hHeld=>?_)
   clear hK K
   refine wpAnyH_done (by kernel_rfl) ?_ _
   refine NoPanic.normal ?_
   go_wp2
   go_ret
   exact ⟨rfl,HFIN.out⟩
  ·skip
   have hlit:=lit_fly w8 (d:Int) (k:Int) p8 n8 c8
   go_simp
   refine hK.out _ _ (HZ8.out _ (gb_alloc HO8.out.2 _)) (fun hHeld=>?_)
   clear hK K
   clear hlit
   (try simp only [Act.put,lay9])
   refine wpAnyH_ready (rs:=[4]) (by kernel_rfl) (by simp) ?_
   refine AllReadyH.cons rfl (fun K hK=>?_) AllReadyH.nil
   have c2d:=(HC8.out _ (gb_alloc HO8.out.2 (.cells #[.int .i64 (d:Int),.int .i64 (k:Int),.slice p8 n8 c8] 135)))
   go_simp
   refine hK.out _ _ (HZ8.out _ (gb_alloc HO8.out.2 _)) (fun hHeld=>?_)
   clear hK K
   clear c2d
   (try simp only [Act.put,lay9])
   refine wpAnyH_ready (rs:=[11]) (by kernel_rfl) (by simp) ?_
   refine AllReadyH.cons rfl (fun K hK=>?_) AllReadyH.nil
   refine step_append_fly (by rfl) _ _ (by rfl) (.slice lp M lc) (g:=w8.heap.size) (by rfl) (by rfl) (HFL8.out w8 HO8.out.2 _) (heap_alloc_new w8 _) hL ?_
   intro g5 cap5 w5 o5 gr5 hw5
   obtain ⟨cc5,ff5,hz5,hz6,hfin⟩:=FIN.out w8 (.slice p8 n8 c8) HO8.out.2 HO8.out.1 g5 cap5 w5 o5 ⟨gr5.os,gr5.tape,gr5.output,gr5.size,gr5.block⟩ hw5
   have HFIN:Hid (∃ G',RIs G' (w5.setCell ⟨r,2,none⟩ (.slice (some ⟨g5,0,none⟩) (M + 1) cap5)) r (A1.fly d k b) /\ Step G w G' (w5.setCell ⟨r,2,none⟩ (.slice (some ⟨g5,0,none⟩) (M + 1) cap5))):=hfin
   have HZ6:Hid (z <= (w5.setCell ⟨r,2,none⟩ (.slice (some ⟨g5,0,none⟩) (M + 1) cap5)).heap.size):=hz6
   refine hK.out _ _ (hz5) (fun hHeld=>?_)
   clear hK K
   clear o5 gr5 hw5 hz5 hz6 hfin FIN
   (try simp only [Act.put,lay9])
   refine wpAnyH_take (i:=12) (v:=?_) rfl (by kernel_rfl) (by kernel_rfl) (by kernel_rfl) (fun _ _ _ h=>h) (Or.inl ⟨by rfl,?_⟩) (by assumption) ?_
   rotate_left
   ·intro w hSw;(try dsimp only at hSw);first | (go_simp;done) | (go_simp;with_reducible rfl)
   simp only [Act.put,lay9]
   refine wpAnyH_take (i:=13) (v:=?_) rfl (by kernel_rfl) (by kernel_rfl) (by kernel_rfl) (fun _ _ _ h=>h) (Or.inl ⟨by rfl,?_⟩) (by assumption) ?_
   rotate_left
   ·intro w hSw;(try dsimp only at hSw);first | (go_simp;done) | (go_simp;with_reducible rfl)
   simp only [Act.put,lay9]
   refine wpAnyH_ready (rs:=[14]) (by kernel_rfl) (by simp) ?_
   refine AllReadyH.cons rfl (fun K hK=>?_) AllReadyH.nil
   go_simp
   refine hK.out _ _ (HZ6.out) (fun hHeld=>?_)
   clear hK K
   refine wpAnyH_done (by kernel_rfl) ?_ _
   refine NoPanic.normal ?_
   go_wp2
   go_ret
   exact ⟨rfl,HFIN.out⟩
end
section
variable {G:Nat -> Prop} {w:World} {r:Nat} {A:AM.RA}
theorem rwrite_no (h:RIs G w r A) {d k:Int} {v:Value} (hr:A.why d k ≠ 0):Calls Tryz.prog 37 #[rptr r,.int .i64 d,.int .i64 k,v] w fun e w'=>e = .returned (.int .i64 (A.why d k:Int)) /\ w' = w:=by
 have HC:Hid (Calls Tryz.prog 83 #[rptr r,.int .i64 d,.int .i64 k] w fun e w'=>e = .returned (.int .i64 (A.why d k:Int)) /\ w' = w):=rwhy_yes h d k
 have hne:¬ (A.why d k:Int) = 0:=by omega
 clear h hr
 generalize (A.why d k:Int) = z at *
 go_enter Tryz.func37,Tryz.ntmps37
 go_wp2_with (go_at_call 83;refine HC.out.mono ?_;rintro e w1 ⟨rfl,hw⟩;obtain rfl:=hw.symm;clear hw)
 go_ret
 exact ⟨rfl,rfl⟩
theorem rwrite_arg (h:RIs G w r A) {d k:Int} {v:Value} {b:List Nat} (hr:A.why d k = 0) (hv:Vec w v b) (hb:b.length ≠ 64):Calls Tryz.prog 37 #[rptr r,.int .i64 d,.int .i64 k,v] w fun e w'=>e = .returned (.int .i64 1) /\ w' = w:=by
 have HC:Hid (Calls Tryz.prog 83 #[rptr r,.int .i64 d,.int .i64 k] w fun e w'=>e = .returned (.int .i64 0) /\ w' = w):=by have:=rwhy_yes h d k;rw [hr] at this;exact this
 obtain ⟨p,n,cap,rfl,hn⟩:=hv.opened
 have hne:¬ (n:Int) = 64:=by omega
 clear h hr hv hb hn
 go_enter Tryz.func37,Tryz.ntmps37
 go_wp2_with (go_at_call 83;refine HC.out.mono ?_;rintro e w1 ⟨rfl,hw⟩;obtain rfl:=hw.symm;clear hw)
 go_ret
 exact ⟨rfl,rfl⟩
theorem rwrite_off (h:RIs G w r A) {d k:Int} {v:Value} {b:List Nat} (hr:A.why d k = 0) (hv:Vec w v b) (hb:b.length = 64) (hbu:A.burns = true):Calls Tryz.prog 37 #[rptr r,.int .i64 d,.int .i64 k,v] w fun e w'=>e = .returned (.int .i64 8) /\ RIs G w' r A.burnt /\ Step G w G w':=by
 have HC:Hid (Calls Tryz.prog 83 #[rptr r,.int .i64 d,.int .i64 k] w fun e w'=>e = .returned (.int .i64 0) /\ w' = w):=by have:=rwhy_yes h d k;rw [hr] at this;exact this
 have HB:Hid (Calls Tryz.prog 77 #[rptr r] w fun e w'=>e = .returned (.bool true) /\ RIs G w' r A.burnt /\ Step G w G w'):=by have:=rgoes_yes h (rwhy_zero hr).1;rw [hbu] at this;exact this
 obtain ⟨p,n,cap,rfl,hn⟩:=hv.opened
 obtain rfl:n = 64:=by omega
 clear h hr hv hb hn hbu
 go_enter Tryz.func37,Tryz.ntmps37
 go_wp2_with (first
  | (go_at_call 83;refine HC.out.mono ?_;rintro e w1 ⟨rfl,hw⟩;obtain rfl:=hw.symm;clear hw)
  | (go_at_call 77;refine HB.out.mono ?_;rintro e w1 ⟨rfl,hi1,hs1⟩;have HI1:Hid (RIs G w1 r A.burnt /\ Step G w G w1):=⟨hi1,hs1⟩;clear hi1 hs1))
 go_ret
 exact ⟨rfl,HI1.out⟩
theorem rwrite_any (h:RIs G w r A) (d k:Int) {v:Value} {b:List Nat} (hv:Vec w v b) (hvF:b ≠ [] -> ∀ g,v.ownBlock = some g -> ¬ G g) (hL:A.L.length <= 1000000) :
 Calls Tryz.prog 37 #[rptr r,.int .i64 d,.int .i64 k,v] w fun e w'=>e = .returned (.int .i64 ((A.writes d k b).1:Int)) /\ ∃ G',RIs G' w' r (A.writes d k b).2 /\ Step G w G' w':=by
 by_cases hr:A.why d k = 0
 ·by_cases hb:b.length = 64
  ·cases hbu:A.burns with
   | true =>
     refine (rwrite_off h hr hv hb hbu).mono ?_
     rintro e w' ⟨rfl,h1,h2⟩
     simp only [AM.RA.writes,hr,hb,hbu]
     exact ⟨rfl,G,h1,h2⟩
   | false =>
     obtain ⟨_,d1,_,k1,_,_⟩:=rwhy_zero hr
     obtain ⟨D,rfl⟩:∃ D:Nat,d = (D:Int):=⟨d.toNat,by omega⟩
     obtain ⟨K,rfl⟩:∃ K:Nat,k = (K:Int):=⟨k.toNat,by omega⟩
     refine (rwrite_fly h hr hv hvF hb hbu hL).mono ?_
     rintro e w' ⟨rfl,G',h1,h2⟩
     simp only [AM.RA.writes,hr,hb,hbu]
     exact ⟨rfl,G',h1,h2⟩
  ·refine (rwrite_arg h hr hv hb).mono ?_
   rintro e w' ⟨rfl,rfl⟩
   simp only [AM.RA.writes,hr]
   rw [if_neg (by simp),if_pos hb]
   exact ⟨rfl,G,h,Step.refl G w'⟩
 ·refine (rwrite_no h hr).mono ?_
  rintro e w' ⟨rfl,rfl⟩
  simp only [AM.RA.writes,if_pos hr]
  exact ⟨trivial,G,h,Step.refl G w'⟩
theorem rgone_cell (h:RIs G w r A) {i:Nat} (hi:i < A.D.length):∃ dg dc,w.cell? ⟨r,0,none⟩ = some (.slice (some ⟨dg,0,none⟩) A.D.length dc) /\ w.cell? ⟨dg,i * 2 + 1,none⟩ = some (.bool (!(A.D.getD i none).isSome)):=by
 obtain ⟨dp,dc,ds,lp,lc,fs,h⟩:=h
 obtain ⟨c0,_⟩:=h.topCells
 obtain ⟨dg,v,rfl,_,_,e1,_⟩:=h.disk hi
 refine ⟨dg,dc,c0,?_⟩
 rw [e1]
 simp [List.getD,hi]
theorem ron_yes (h:RIs G w r A) (d:Int):Calls Tryz.prog 53 #[rptr r,.int .i64 d] w fun e w'=>e = .returned (.bool (A.on d)) /\ w' = w:=by
 by_cases hin:0 <= d /\ d < (A.D.length:Int)
 ·obtain ⟨i1,i2⟩:=hin
  obtain ⟨i,rfl⟩:∃ n:Nat,d = (n:Int):=⟨d.toNat,by omega⟩
  obtain ⟨dg,dc,c0,e1⟩:=rgone_cell h (i:=i) (by omega)
  have hD2:A.D.length <= 255:=by obtain ⟨_,_,_,_,_,_,h⟩:=h;exact h.d2
  have HR:Hid (A.on (i:Int) = (A.D.getD i none).isSome):=by show _ = _;unfold AM.RA.on;rw [decide_eq_true i1,decide_eq_true i2];simp
  clear h
  generalize A.D.length = N at *
  cases hg:(A.D.getD i none).isSome with
  | true =>
    rw [hg] at e1 HR
    have e1:w.cell? ⟨dg,i * 2 + 1,none⟩ = some (.bool false):=e1
    clear hg
    go_enter Tryz.func53,Tryz.ntmps53
    go_wp2
    go_ret
    exact ⟨by rw [HR.out];rfl,rfl⟩
  | false =>
    rw [hg] at e1 HR
    have e1:w.cell? ⟨dg,i * 2 + 1,none⟩ = some (.bool true):=e1
    clear hg
    go_enter Tryz.func53,Tryz.ntmps53
    go_wp2
    go_ret
    exact ⟨by rw [HR.out];rfl,rfl⟩
 ·have HR:Hid (A.on d = false):=by
   show _ = _
   unfold AM.RA.on
   by_cases h0:0 <= d
   ·rw [decide_eq_false (p:=d < (A.D.length:Int)) (fun c=>hin ⟨h0,c⟩)];simp
   ·rw [decide_eq_false h0];simp
  obtain ⟨dp,dc,ds,lp,lc,fs,h⟩:=h
  obtain ⟨c0,_⟩:=h.topCells
  clear h
  generalize A.D.length = N at *
  by_cases h0:d < 0
  ·clear hin
   go_enter Tryz.func53,Tryz.ntmps53
   go_wp2
   go_ret
   exact ⟨by rw [HR.out];rfl,rfl⟩
  ·have h1:(N:Int) <= d:=by omega
   clear hin
   go_enter Tryz.func53,Tryz.ntmps53
   go_wp2
   go_ret
   exact ⟨by rw [HR.out];rfl,rfl⟩
def rcnt (A:AM.RA) (k:Nat):Nat:=(A.D.take k).countP (·.isSome)
theorem rcnt_step {A:AM.RA} {k:Nat} (h:k < A.D.length):rcnt A (k + 1) = rcnt A k + (if (A.D.getD k none).isSome then 1 else 0):=by
 unfold rcnt
 rw [List.take_succ_eq_append_getElem h,List.countP_append]
 simp [List.countP_cons,List.getD,h]
theorem rcnt_le (A:AM.RA) (k:Nat):rcnt A k <= k:=Nat.le_trans List.countP_le_length (by simp;omega)
theorem rons_yes (h:RIs G w r A):Calls Tryz.prog 51 #[rptr r] w fun e w'=>e = .returned (.int .i64 (A.ons:Int)) /\ w' = w:=by
 have H:Hid (RIs G w r A):=h
 have hD2:A.D.length <= 255:=by obtain ⟨_,_,_,_,_,_,h⟩:=h;exact h.d2
 obtain ⟨N,hN⟩:∃ N,N = A.D.length:=⟨_,rfl⟩
 have HN:Hid (N = A.D.length):=hN
 rw [<- hN] at hD2
 obtain ⟨dp,dc,ds,lp,lc,fs,h⟩:=h
 obtain ⟨z0,_⟩:=h.topCells
 have HC:Hid (w.cell? ⟨r,0,none⟩ = some (.slice dp N dc)):=by rw [hN];exact z0
 clear h hN z0
 go_enter Tryz.func51,Tryz.ntmps51
 go_wp2
 go_loop [3,4] (fun tc ti=>∃ k:Nat,k <= N /\ ti = .int .i64 (k:Int) /\ tc = .int .i64 (rcnt A k:Int)) (fun _ ti=>N - (intOf ti).toNat)
 case atStart=>exact ⟨0,by omega,rfl,by simp [rcnt]⟩
 case round =>
  obtain ⟨k,hk,rfl,rfl⟩:=hrel
  by_cases hlt:k < N
  ·have i1:(k:Int) < (N:Int):=by omega
   have hkl:k < A.D.length:=by rw [<- HN.out];exact hlt
   have hs:=rcnt_step hkl
   have hcl:=rcnt_le A k
   obtain ⟨dg,dc2,c0,e1⟩:=rgone_cell H.out hkl
   rw [<- HN.out] at c0
   cases hg:(A.D.getD k none).isSome with
   | true =>
     rw [hg] at e1 hs
     have e1:w.cell? ⟨dg,k * 2 + 1,none⟩ = some (.bool false):=e1
     have HS:Hid (rcnt A (k + 1) = rcnt A k + 1):=hs
     clear hs hg
     generalize rcnt A k = c at *
     go_wp2
     go_round
     case rel=>exact ⟨k + 1,by omega,by go_num,by rw [HS.out];go_num⟩
     case measure=>simp [intOf];omega
   | false =>
     rw [hg] at e1 hs
     have e1:w.cell? ⟨dg,k * 2 + 1,none⟩ = some (.bool true):=e1
     have HS:Hid (rcnt A (k + 1) = rcnt A k):=hs
     clear hs hg
     generalize rcnt A k = c at *
     go_wp2
     go_round
     case rel=>exact ⟨k + 1,by omega,by go_num,by rw [HS.out]⟩
     case measure=>simp [intOf];omega
  ·have i1:¬ (k:Int) < (N:Int):=by omega
   have c0:=HC.out
   have HE:Hid (rcnt A k = A.ons):=by
    have e:k = A.D.length:=by have:=HN.out;omega
    show _ = _
    rw [e]
    simp [rcnt,AM.RA.ons]
   go_wp2
   go_ret
   exact ⟨by rw [HE.out];rfl,rfl⟩
end
theorem rows_set {w:World} {B e size n g c j:Nat} {us:List Value} (h:w.ownsRow B e size (.slice (some ⟨g,0,none⟩) n c) n us) (hj:j < us.length) (u:Value):(w.setCell ⟨g,j,none⟩ u).ownsRow B e size (.slice (some ⟨g,0,none⟩) n c) n (us.set j u):=by
 have hl:=h.1
 rcases h.2 with ⟨e1,hn⟩ | ⟨g',cap',cur,e1,hb,hg,hc,hm,hs,ht⟩
 ·cases e1
 ·injection e1 with e2 e3 e4
  injection e2 with e2
  injection e2 with e2
  subst e2
  subst e4
  refine ⟨by simpa using hl,.inr ⟨g,c,cur.setIfInBounds j u,rfl,hb,?_,hc,hm,by simpa using hs,?_⟩⟩
  ·rw [setCell_eq_setRow w g j cur e (0,0) _ hg]
   exact setRow_heap w g cur _ e _ hg
  ·simp only [Array.toList_setIfInBounds]
   rw [List.take_set,ht]
theorem drow_put {ds:List Value} {D:List (Option (List (List Nat)))} {i:Nat} (hd:ds.length = D.length) (hi:i < D.length) (v:Value) (o:Option (List (List Nat))):drow (ds.set i v) (D.set i o) = ((drow ds D).set (i * 2) v).set (i * 2 + 1) (.bool o.isNone):=by
 unfold drow
 induction ds generalizing D i with
 | nil=>simp at hd;omega
 | cons x r ih =>
   cases D with
   | nil=>simp at hi
   | cons y s =>
     cases i with
     | zero=>simp
     | succ j =>
       have e1:(j + 1) * 2 = j * 2 + 1 + 1:=by omega
       have e2:(j + 1) * 2 + 1 = (j * 2 + 1) + 1 + 1:=by omega
       rw [e2,e1]
       simp only [List.set_cons_succ,List.zip_cons_cons,List.flatMap_cons,List.cons_append,List.nil_append]
       rw [ih (by simpa using hd) (by simpa using hi)]
theorem drow_len {ds:List Value} {D:List (Option (List (List Nat)))} (hd:ds.length = D.length):(drow ds D).length = D.length * 2:=by
 unfold drow
 induction ds generalizing D with
 | nil=>cases D with
   | nil=>rfl
   | cons _ _=>simp at hd
 | cons x r ih =>
   cases D with
   | nil=>simp at hd
   | cons y s =>
     simp only [List.zip_cons_cons,List.flatMap_cons,List.length_append,List.length_cons,List.length_nil]
     rw [ih (by simpa using hd)]
     omega
section
variable {G:Nat -> Prop} {w:World} {r:Nat} {A:AM.RA} {dp:Option Addr} {dc:Nat} {ds:List Value} {lp:Option Addr} {lc:Nat} {fs:List Value}
theorem RL.dset {dg:Nat} (h:RL G w r (some ⟨dg,0,none⟩) dc ds lp lc fs A) {w1:World} (g1:w.grownBy w1 none) {i:Nat} (hi:i < A.D.length) {v:Value} {o:Option (List (List Nat))}
 (ho:(o = none /\ v = .slice none 0 0) \/ ∃ (ss:List (List Nat)) (vs:List Value),o = some ss /\ w1.ownsRow w.heap.size 40 1 v A.n vs /\ ss.length = A.n /\ ∀ (k:Nat) (u:Value) (b:List Nat),vs[k]? = some u -> ss[k]? = some b -> Own w.heap.size w1 u b) :
 RL (fun j=>G j \/ (w.heap.size <= j /\ j < w1.heap.size)) ((w1.setCell ⟨dg,i * 2,none⟩ v).setCell ⟨dg,i * 2 + 1,none⟩ (.bool o.isNone)) r (some ⟨dg,0,none⟩) dc (ds.set i v) lp lc fs { A with D:=A.D.set i o }:=by
 have h1:=h.keep g1
 obtain ⟨cd,hcd⟩:=rowBlock h1.dsk (g:=dg) rfl
 obtain ⟨W,hW⟩:∃ W,W = (w1.setCell ⟨dg,i * 2,none⟩ v).setCell ⟨dg,i * 2 + 1,none⟩ (.bool o.isNone):=⟨_,rfl⟩
 rw [<- hW]
 have hb:∀ j,j ≠ dg -> W.heap[j]? = w1.heap[j]?:=fun j hj=>by rw [hW,Below.heap_setCell _ _ _ _ hj,Below.heap_setCell _ _ _ _ hj]
 have hsz:W.heap.size = w1.heap.size:=by rw [hW];simp
 have hne:∀ (j:Nat) (c:Array Value) (t:TypeId),w1.heap[j]? = some (.cells c t (0,0)) -> t ≠ 133 -> W.heap[j]? = w1.heap[j]?:=fun j c t hj ht=>hb j (ne_ty hj hcd ht)
 have hlen:(A.D.set i o).length = A.D.length:=List.length_set ..
 have hdl:i < ds.length:=by rw [h.dlen];exact hi
 have hsplit:∀ (j:Nat) (u:Value),(ds.set i v)[j]? = some u -> (j = i /\ u = v) \/ (j ≠ i /\ ds[j]? = some u):=fun j u hu=>by
  by_cases c:i = j
  ·subst c
   rw [List.getElem?_set,if_pos rfl,if_pos hdl] at hu
   exact .inl ⟨rfl,(Option.some.inj hu).symm⟩
  ·rw [List.getElem?_set,if_neg c] at hu
   exact .inr ⟨Ne.symm c,hu⟩
 have hvn:∀ g,v.ownBlock = some g -> w.heap.size <= g /\ g < w1.heap.size:=fun g hg=>by
  rcases ho with ⟨_,rfl⟩ | ⟨ss,vs,_,h2,_⟩
  ·cases hg
  ·exact ⟨(rows_blk h2 hg).1,(rows_blk h2 hg).2.1⟩
 refine ⟨fun j hj=>?_,?_,?_,by rw [hlen,List.length_set];exact h.dlen,fun j u hu=>?_,ownsRow_same h1.fly (fun g hg=>?_),h.flen,fun j u x hu hx=>?_,.inl h.Gr,fun g hg=>.inl (h.Gd g (by rw [hlen] at hg;exact hg)),fun j u hu g hg=>?_,fun g hg=>.inl (h.Gl g hg),fun j k u u' hu hu' g hg hg'=>?_,h.left,h.n2,by rw [hlen];exact h.d2⟩
 ·rw [hsz]
  rcases hj with hj | hj
  ·exact h1.lt j hj
  ·exact hj.2
 ·rw [hne r _ _ h1.top (by decide),hlen];exact h1.top
 ·rw [hlen]
  show World.ownsRow _ 0 _ 2 _ _ (drow (ds.set i v) (A.D.set i o))
  rw [drow_put h.dlen hi,hW]
  have hl2:=drow_len h.dlen
  exact rows_set (rows_set h1.dsk (by omega) v) (by simp;omega) _
 ·rcases hsplit j u hu with ⟨rfl,rfl⟩ | ⟨hji,hu⟩
  ·rcases ho with ⟨rfl,h3⟩ | ⟨ss,vs,rfl,h3,h4,h5⟩
   ·exact .inl ⟨by show (A.D.set j none)[j]? = _;rw [List.getElem?_set,if_pos rfl,if_pos hi],h3⟩
   ·refine .inr ⟨ss,vs,by show (A.D.set j (some ss))[j]? = _;rw [List.getElem?_set,if_pos rfl,if_pos hi],ownsRow_down (ownsRow_same h3 (fun g hg=>?_)) (Nat.zero_le _),h4,fun k u b hu hb=>?_⟩
    ·obtain ⟨c,hc⟩:=rowBlock h3 hg
     exact hne g c _ hc (by decide)
    ·have q:=h5 k u b hu hb
     exact ⟨(q.down (Nat.zero_le _)).same0 (fun g hg=>by
      obtain ⟨c,hc⟩:=rowBlock q.row hg
      exact hne g c _ hc (by decide)),fun g hg=>.inr ⟨(rows_blk q.row hg).1,(rows_blk q.row hg).2.1⟩⟩
  ·rcases h1.sec j u hu with h2 | ⟨ss,vs,h2,h3,h4,h5⟩
   ·exact .inl ⟨by show (A.D.set i o)[j]? = _;rw [List.getElem?_set,if_neg (Ne.symm hji)];exact h2.1,h2.2⟩
   ·refine .inr ⟨ss,vs,by show (A.D.set i o)[j]? = _;rw [List.getElem?_set,if_neg (Ne.symm hji)];exact h2,ownsRow_same h3 (fun g hg=>?_),h4,fun k u' b hu' hb'=>?_⟩
    ·obtain ⟨c,hc⟩:=rowBlock h3 hg
     exact hne g c _ hc (by decide)
    ·obtain ⟨q1,q2⟩:=h5 k u' b hu' hb'
     exact ⟨q1.same0 (fun g hg=>by
      obtain ⟨c,hc⟩:=rowBlock q1.row hg
      exact hne g c _ hc (by decide)),fun g hg=>.inl (q2 g hg)⟩
 ·obtain ⟨c,hc⟩:=rowBlock h1.fly hg
  exact hne g c _ hc (by decide)
 ·obtain ⟨q1,q2⟩:=h1.fv j u x hu hx
  exact ⟨q1.same0 (fun g hg=>by
   obtain ⟨c,hc⟩:=rowBlock q1.row hg
   exact hne g c _ hc (by decide)),fun g hg=>.inl (q2 g hg)⟩
 ·rcases hsplit j u hu with ⟨rfl,rfl⟩ | ⟨hji,hu⟩
  ·exact .inr (hvn g hg)
  ·exact .inl (h.Gs j u hu g hg)
 ·rcases hsplit j u hu with ⟨e1,e2⟩ | ⟨hji,hu2⟩
  ·rcases hsplit k u' hu' with ⟨e3,e4⟩ | ⟨hki,hu3⟩
   ·omega
   ·have a1:=hvn g (by rw [<- e2];exact hg)
    have a2:=h.lt g (h.Gs k u' hu3 g hg')
    omega
  ·rcases hsplit k u' hu' with ⟨e3,e4⟩ | ⟨hki,hu3⟩
   ·have a1:=hvn g (by rw [<- e4];exact hg')
    have a2:=h.lt g (h.Gs j u hu2 g hg)
    omega
   ·exact h.ap j k u u' hu2 hu3 g hg hg'
end
end Go.Proofs.YtfjlpifaaknmpaaGreat
