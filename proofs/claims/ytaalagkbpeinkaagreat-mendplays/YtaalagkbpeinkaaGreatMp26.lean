/- Packed: RSlot9, MAll9, PW8, Srt8, Whl8, RHi9. -/
import Derived.Test.YtaalagkbpeinkaaGreatMp25
set_option linter.unusedSimpArgs false
set_option linter.unusedVariables false
set_option maxRecDepth 100000
namespace Go.Proofs.YtaalagkbpeinkaaGreat
open Go.RowKit
def RslOut (G:Nat->Prop) (w:World) (t r:Nat) (g:SP.Geo) (R:AM.Raw) (slot:Int) (m:Nat) (e:Ending) (w':World):Prop:=∃ out er,SP.RdR R g slot m out er/\e=.returned (.tuple #[.int .i64 ((SP.slotN R g slot m out er:Nat):Int),.int .i64 (((SP.slotM R g slot m out er).1:Nat):Int)])/\∃ G',RSI G' w' t r g (SP.slotM R g slot m out er).2/\Step G w G' w'
theorem rslOut_mk {G G':Nat->Prop} {w w':World} {t r:Nat} {g:SP.Geo} {R R':AM.Raw} {slot x c:Int} {m er n d:Nat} {out:List Nat} (h1:SP.RdR R g slot m out er) (h2:SP.slotN R g slot m out er=n) (h3:SP.slotM R g slot m out er=(d,R')) (hx:x=(n:Int)) (hc:c=(d:Int)) (i:RSI G' w' t r g R') (st:Step G w G' w'):RslOut G w t r g R slot m (.returned (.tuple #[.int .i64 x,.int .i64 c])) w' :=
 ⟨out,er,h1,by rw[h2,h3,hx,hc],G',by rw[h3];exact i,st⟩
theorem mendL_len (R:AM.Raw) (g:SP.Geo) (slot m:Nat) (E:List (List Nat)):∀ i,i<=(SP.wants R g slot m g.n).length->(SP.mendL R g slot m E i).2.L.length<=R.L.length+8 * i
 | 0,_=>by rw[SP.mendL_zero];simp
 | i+1,hi=>by
   have ih:=mendL_len R g slot m E i (by omega)
   by_cases c:(SP.mendL R g slot m E i).1=0
   ·rw[SP.mendL_succ (by omega) c]
    have:=layTo_len (SP.mendL R g slot m E i).2 g slot ((SP.wants R g slot m g.n).getD i 0) (CM.secs m (E.getD ((SP.wants R g slot m g.n).getD i 0) []) 8) 8
    unfold SP.lays
    omega
   ·have e:SP.mendL R g slot m E (i+1)=SP.mendL R g slot m E i:=by
     have h2:SP.mendL R g slot m E (i+1)=SP.mendTo R g slot m E g.n:=by
      rw[SP.mendL_stop c]
      unfold SP.mendL at c ⊢
      rw[List.take_succ_eq_append_getElem (by omega),List.foldl_append,SP.foldl_stop _ _ c]
     rw[h2,SP.mendL_stop c]
    rw[e]
    omega
section
variable {G G':Nat->Prop} {w w':World} {t r:Nat} {g:SP.Geo} {R R':AM.Raw}
theorem rslot_err (h:RSI G w t r g R) (hL:R.L.length<=980000) {slot:Int} {m:Nat} (he:SP.askE R g slot m ≠ 0):Calls Tryz.prog 35 #[tptr t,.int .i64 slot,.int .u64 (m:Int)] w (RslOut G w t r g R slot m):=by
 have H:Hid (RSI G w t r g R):=h
 have MI:Hid (Calls Tryz.prog 32 #[tptr t,.int .i64 slot,.int .u64 (m:Int)] w fun e w'=>e=.returned (.tuple #[.slice none 0 0,.int .i64 ((SP.askE R g slot m:Nat):Int)])/\w.grownBy w' none):=rmiss_err h (by omega) he
 have HR:Hid (SP.RdR R g slot m [] (SP.askE R g slot m)):=by
  unfold SP.askE at he ⊢
  by_cases c:SP.why R g slot ≠ 0
  ·rw[if_pos c];exact .inl ⟨c,rfl,rfl⟩
  ·rw[if_neg c] at he ⊢
   by_cases c2:m=0
   ·rw[if_pos c2];exact .inr (.inl ⟨by omega,c2,rfl,rfl⟩)
   ·rw[if_neg c2] at he;exact absurd rfl he
 have HM:Hid (SP.slotM R g slot m [] (SP.askE R g slot m)=(SP.askE R g slot m,R)/\SP.slotN R g slot m [] (SP.askE R g slot m)=0):=by
  have e1:SP.slotM R g slot m [] (SP.askE R g slot m)=(SP.askE R g slot m,R):=by unfold SP.slotM;rw[if_neg he]
  exact⟨e1,by unfold SP.slotN;rw[e1,if_neg he]⟩
 obtain⟨c,hc⟩:∃ c,c=SP.askE R g slot m:=⟨_,rfl⟩
 rw[<- hc] at he MI HR HM
 have hne:((c:Int) != 0)=true:=neb_yes (b:=0) he
 clear h hL hc he
 go_enter Tryz.func35,Tryz.ntmps35
 go_wp2_with (go_at_call 32;refine MI.out.mono ?_;rintro e w1 ⟨rfl,g1⟩;have G1:Hid (w.grownBy w1 none):=g1;clear g1)
 go_ret2
 exact rslOut_mk HR.out HM.out.2 HM.out.1 rfl rfl (H.out.keep G1.out) (Step.new G1.out)
set_option maxHeartbeats 12800000 in
theorem rslot_main (h:RSI G w t r g R) (hL:R.L.length<=980000) {slot m:Nat} (h0:R.off=false) (hs:slot < g.s) (hm:m ≠ 0) (hm2:m < 18446744073709551616):Calls Tryz.prog 35 #[tptr t,.int .i64 (slot:Int),.int .u64 (m:Int)] w (RslOut G w t r g R (slot:Int) m):=by
 have H:Hid (RSI G w t r g R):=h
 have HN:Hid (R.L.length<=980000/\R.off=false/\slot < g.s/\m ≠ 0/\m < 18446744073709551616/\g.n<=255/\g.k<=255/\1<=g.k):=⟨hL,h0,hs,hm,hm2,h.ok.n255,by have:=h.ok.kn;have:=h.ok.n255;omega,h.ok.k1⟩
 have hk:g.k<=255:=HN.out.2.2.2.2.2.2.1
 have hn255:g.n<=255:=HN.out.2.2.2.2.2.1
 have HS:Hid (∀ w',w.grownBy w' none->w'.cell? ⟨t,1,none⟩=some (.int .i64 (g.k:Int))/\w'.cell? ⟨t,2,none⟩=some (.int .i64 (g.n:Int))):=fun w' g'=>⟨(h.keep g').at2,(h.keep g').at3⟩
 clear h hL h0 hs hm hm2
 go_enter Tryz.func35,Tryz.ntmps35
 go_wp2_with fail
 refine (rmiss_main H.out (by have:=HN.out.1;omega) HN.out.2.1 HN.out.2.2.1 HN.out.2.2.2.1).mono ?_
 rintro e w1 ⟨vl,rfl,ol,g1⟩
 obtain⟨lp,ln,lc,rfl,hln⟩:=ol.ivec.opened
 rw[SP.ints_len] at hln
 have OL:Hid (IOwn w.heap.size w1 (.slice lp ln lc) (SP.ints (SP.wants R g slot m g.n))):=ol
 have HLN:Hid (ln=(SP.wants R g slot m g.n).length):=hln
 have G1:Hid (w.grownBy w1 none):=g1
 have hlnb:ln<=255:=by rw[hln];have:=SP.wants_len_le R g slot m g.n;omega
 clear ol hln g1
 go_wp2_with fail
 refine (rsread_all (H.out.keep G1.out) (by have:=HN.out.1;omega) (slot:Int) m).mono ?_
 rintro e w2 ⟨v,er,out,rfl,hr,ho,g2⟩
 obtain⟨q,N,cap,rfl,hN⟩:=ho.vec.opened
 have HR:Hid (SP.RdR R g (slot:Int) m out er):=hr
 have HV:Hid (Vec w2 (.slice q N cap) out):=ho.vec
 have HNL:Hid (N=out.length):=hN
 have G2:Hid (w.grownBy w2 none):=grown_trans G1.out g2
 have OL2:Hid (IOwn w.heap.size w2 (.slice lp ln lc) (SP.ints (SP.wants R g slot m g.n))):=OL.out.keep g2
 clear hr ho hN g2 OL G1
 by_cases he:er=0
 ·subst he
  obtain⟨hl,_,_⟩:=SP.dec_len H.out.ok HR.out
  obtain⟨b,off,rfl,_⟩:=HV.out.spot (k:=0) (by have:=HN.out;omega)
  have hcap:N<=cap:=by
   obtain⟨p',cap',e,h3,_⟩:=HV.out.form
   injection e with e1 e2 e3
   omega
  have HNX:Hid (N=448 * g.k/\out.length=g.k * 448/\N<=cap):=⟨by have:=HNL.out;omega,hl,hcap⟩
  have EN:Hid (∀ (w':World) (u:Value) (us:List Value),Mat w' u us (SP.parts out g.k)->Calls Tryz.prog 85 #[.int .i64 (g.k:Int),.int .i64 (g.n:Int),u] w' fun e w''=>∃ p n c us',e=.returned (.tuple #[.slice p n c,.int .i64 0])/\OwnMat w'.heap.size w'' (.slice p n c) us' (SP.code g out)/\w'.grownBy w'' none):=fun w' u us m1=>by
   refine (refEncode_yes m1 (SP.parts_shape hl) H.out.ok.k1 H.out.ok.kn H.out.ok.n255).mono ?_
   rintro e w2 ⟨p,n,c,us',rfl,o1,_,g1⟩
   exact⟨p,n,c,us',rfl,o1,g1⟩
  have HSM:Hid (SP.slotM R g (slot:Int) m out 0=SP.mendTo R g slot m (SP.code g out) g.n/\SP.slotN R g (slot:Int) m out 0=if (SP.mendTo R g slot m (SP.code g out) g.n).1=0 then ln else 0):=by
   have e1:SP.slotM R g (slot:Int) m out 0=SP.mendTo R g slot m (SP.code g out) g.n:=by unfold SP.slotM;rw[if_pos rfl,Int.toNat_natCast]
   exact⟨e1,by unfold SP.slotN;rw[e1,Int.toNat_natCast,HLN.out]⟩
  have HRow:Hid (∀ (d:Nat),d < g.n->((SP.code g out).getD d []).length=448):=fun d hd=>SP.code_row g out hd
  have HCL:Hid ((SP.code g out).length=g.n):=SP.code_len g out
  have HK:Hid (∀ (i:Nat),SP.Kept R (SP.mendL R g slot m (SP.code g out) i).2):=SP.mendL_kept R g slot m (SP.code g out)
  have HPW:Hid (∀ (i:Nat),i<=ln->(SP.mendL R g slot m (SP.code g out) i).1=0->(SP.mendL R g slot m (SP.code g out) i).2.off=false):=fun i hi h=>SP.mendL_pow HN.out.2.1 i (by rw[<- HLN.out];exact hi) h
  have HLL:Hid (∀ (i:Nat),i<=ln->(SP.mendL R g slot m (SP.code g out) i).2.L.length<=R.L.length+8 * i):=fun i hi=>mendL_len R g slot m (SP.code g out) i (by rw[<- HLN.out];exact hi)
  have HX0:Hid (SP.mendL R g slot m (SP.code g out) 0=(0,R)):=SP.mendL_zero R g slot m (SP.code g out)
  have HX1:Hid (∀ i:Nat,i < ln->(SP.mendL R g slot m (SP.code g out) i).1=0->SP.mendL R g slot m (SP.code g out) (i+1)=SP.lays (SP.mendL R g slot m (SP.code g out) i).2 g slot ((SP.wants R g slot m g.n).getD i 0) m ((SP.code g out).getD ((SP.wants R g slot m g.n).getD i 0) [])):=fun i hi h=>SP.mendL_succ (by rw[<- HLN.out];exact hi) h
  have HX3:Hid (∀ i:Nat,(SP.mendL R g slot m (SP.code g out) i).1 ≠ 0->SP.mendTo R g slot m (SP.code g out) g.n=SP.mendL R g slot m (SP.code g out) i):=fun i h=>SP.mendL_stop h
  have HX4:Hid (SP.mendL R g slot m (SP.code g out) ln=SP.mendTo R g slot m (SP.code g out) g.n):=SP.mendL_all R g slot m (SP.code g out) (by rw[HLN.out];exact Nat.le_refl _)
  have HWM:Hid (∀ i,i < ln->(SP.wants R g slot m g.n).getD i 0 < g.n):=fun i hi=>by
   have hi':i < (SP.wants R g slot m g.n).length:=by rw[<- HLN.out];exact hi
   have e:(SP.wants R g slot m g.n).getD i 0=(SP.wants R g slot m g.n)[i]:=by simp[List.getD,hi']
   rw[e]
   exact (SP.wants_mem (List.getElem_mem hi')).1
  clear hl hcap
  generalize SP.mendTo R g slot m (SP.code g out) g.n=MT at *
  generalize SP.mendL R g slot m (SP.code g out)=ML at *
  generalize SP.code g out=E at *
  generalize SP.wants R g slot m g.n=WL at *
  go_wp2_with fail
  go_loopw [11,12] (fun tl ti wr=>∃ j:Nat,j<=g.k/\ti=.int .i64 (j:Int)/\Hid (Out w2.heap.size wr tl (cutsR b off cap j))/\Hid (w2.grownBy wr none)) (fun _ ti _=>g.k - (intOf ti).toNat)
  case atStart=>exact⟨0,by omega,rfl,⟨by simp[cutsR],World.ownsRow_nil _ _ _ _⟩,World.grownBy.refl _ _⟩
  case round =>
   obtain⟨j,hj,rfl,OK,GK⟩:=hrel
   have c1:=(HS.out _ (grown_trans G2.out GK.out)).1
   by_cases hlt:j < g.k
   ·have i3:(j:Int) < (g.k:Int):=by omega
    have hn1:(j+1) * 448<=g.k * 448:=Nat.mul_le_mul_right _ hlt
    obtain⟨x0,hx0⟩:∃ x0,x0=448 * j:=⟨_,rfl⟩
    obtain⟨x1,hx1⟩:∃ x1,x1=x0+448:=⟨_,rfl⟩
    have hw0:IntKind.i64.wrap (448 * (j:Int))=(x0:Int):=by
     rw[show 448 * (j:Int)=(x0:Int) by omega];exact IntWalk.i64_in _ (by omega)
    have hw1:IntKind.i64.wrap ((x0:Int)+448)=(x1:Int):=by
     rw[show (x0:Int)+448=(x1:Int) by omega];exact IntWalk.i64_in _ (by omega)
    have hsl:=fun W=>slice_lh (b:=b) (off:=off) (n:=N) (c:=cap) (lo:=x0) (hi:=x1) (by omega) (by have:=HNX.out;omega) (by have:=HNX.out;omega) W
    rw[show x1 - x0=448 by omega] at hsl
    have HL:Hid ((((cutsR b off cap j).length+1) * 24<=140737488351232)):=by show _<=_;rw[cutsR_len];omega
    have HSU:Hid (cutsR b off cap (j+1)=cutsR b off cap j++[.slice (some ⟨b,off+x0,none⟩) 448 (cap - x0)]):=by rw[hx0];exact cutsR_succ b off cap j
    clear hx0 hx1 hn1
    generalize cutsR b off cap j=CJ at *
    generalize cap - x0=cp at *
    go_wp2_with (at_builtin;refine wpList_append_row rfl _ _ rfl _ ⟨wr.heap.size,0,none⟩ rfl rfl (OK.out.keep (World.grownBy_alloc wr _ none)).row (cell_new1 _ _ rfl) rfl (gb_alloc GK.out _).size HL.out ?_;intro v3 w3 r3 g3 at3;have M3:Hid (Out w2.heap.size w3 v3 (CJ++[.slice (some ⟨b,off+x0,none⟩) 448 cp])):=⟨by have:=HL.out;simpa using this,by simpa using r3⟩;have G3:Hid (w2.grownBy w3 none):=grown_new (gb_alloc GK.out _) g3 (fun i e=>OK.out.lo i e);clear r3 g3 at3)
    go_roundw
    case rel=>exact⟨j+1,by omega,by go_num,by rw[HSU.out];exact M3.out,G3⟩
    case measure=>simp[intOf];omega
   ·have i3:¬ (j:Int) < (g.k:Int):=by omega
    have hjk:j=g.k:=by omega
    have M2:Hid (Mat wr u11 (cutsR b off cap g.k) (SP.parts out g.k)):=by
     have o:=OK.out
     rw[hjk] at o
     exact cutsR_mat (HV.out.keep GK.out) HNX.out.2.1 o
    have GD:Hid (w2.grownBy (wr.drewN 1) none):=grown_trans GK.out (grown_drewN wr 1)
    have EM:Hid (Calls Tryz.prog 85 #[.int .i64 (g.k:Int),.int .i64 (g.n:Int),u11] (wr.drewN 1) fun e w''=>∃ p n c us',e=.returned (.tuple #[.slice p n c,.int .i64 0])/\OwnMat w2.heap.size w'' (.slice p n c) us' E/\w2.grownBy w'' none):=by
     refine (EN.out _ _ _ (M2.out.keep (grown_drewN wr 1))).mono ?_
     rintro e w2 ⟨p,n,c,us',rfl,o1,g1⟩
     exact⟨p,n,c,us',rfl,o1.down GD.out.size,grown_trans GD.out g1⟩
    clear OK EN M2 hjk
    go_wp2_with fail
    clear c1
    go_region_held3 (fun w'=>w'.cell? ⟨t,1,none⟩=some (.int .i64 (g.k:Int))/\w'.cell? ⟨t,2,none⟩=some (.int .i64 (g.n:Int))) (first | exact HS.out _ (grown_trans G2.out GD.out) | exact HS.out _ (grown_trans G2.out G3.out))
     ((go_at_call 85;refine EM.out.mono ?_;rintro e w3 ⟨p3,n3,c3,us3,rfl,m3,g3⟩;have M3:Hid (OwnMat w2.heap.size w3 (.slice p3 n3 c3) us3 E):=m3;have G3:Hid (w2.grownBy w3 none):=g3;clear m3 g3))
    have HN3:Hid (n3=g.n/\us3.length=g.n):=by
     have h1:=M3.out.same
     have h2:=HCL.out
     have h3:=(mat_n M3.out.mat).1
     exact⟨by omega,by omega⟩
    have hn3:n3=g.n:=HN3.out.1
    have GW3:Hid (w.grownBy w3 none):=grown_trans G2.out G3.out
    have S3:Hid (RSI G w3 t r g R):=H.out.keep GW3.out
    have OL3:Hid (IOwn w.heap.size w3 (.slice lp ln lc) (SP.ints WL)):=OL2.out.keep G3.out
    clear EM GD
    subst hn3
    go_wp2_with fail
    go_loopw [15] (fun ti wr=>∃ i:Nat,i<=ln/\ti=.int .i64 (i:Int)/\Hid ((ML i).1=0)/\Hid (∃ G',RSI G' wr t r g (ML i).2/\Step G w3 G' wr)) (fun ti _=>ln - (intOf ti).toNat)
    case atStart=>exact⟨0,by omega,rfl,(by show _=_;rw[HX0.out]),⟨G,by rw[HX0.out];exact S3.out,Step.refl _ _⟩⟩
    case round =>
     clear S3
     obtain⟨i,hi,rfl,OK,HRR⟩:=hrel
     obtain⟨G1',i1,st1⟩:=HRR.out
     have I1:Hid (RSI G1' wr t r g (ML i).2):=i1
     have T1:Hid (Step G w3 G1' wr):=st1
     clear HRR i1 st1
     by_cases hlt2:i < ln
     ·have i4:(i:Int) < (ln:Int):=by omega
      have i5:(0:Int)<=(i:Int):=by omega
      have hil:i < WL.length:=by rw[<- HLN.out];exact hlt2
      obtain⟨bl,ol0,rfl,hc0⟩:=OL3.out.ivec.spot (k:=i) (by rw[SP.ints_len];exact hil)
      rw[SP.ints_get _ hil] at hc0
      obtain⟨d,hd⟩:∃ d,d=WL.getD i 0:=⟨_,rfl⟩
      rw[<- hd] at hc0
      have hdn:d < g.n:=by rw[hd];exact HWM.out i hlt2
      have i6:(d:Int) < (g.n:Int):=by omega
      have i7:(0:Int)<=(d:Int):=by omega
      obtain⟨b0,off0,rfl,hr0⟩:=M3.out.mat.row.spot (k:=d) (by have:=HN3.out;omega)
      obtain⟨pk,nk,ck,ek,hnk⟩:=(M3.out.mat.vec d (by have:=HCL.out;omega)).opened
      have hbk:¬ G b0:=fun hf=>by
       have h1:=M3.out.out.lo b0 rfl
       have h2:=H.out.glt b0 hf
       have h3:=G2.out.size
       omega
      have hbl:¬ G bl:=fun hf=>by
       have h1:=(OL3.out.row.lt bl rfl).1
       have h2:=H.out.glt bl hf
       omega
      have HRC:Hid (∀ G' w',Step G w3 G' w'->w'.cell? ⟨bl,ol0+i,none⟩=some (.int .i64 (d:Int))/\w'.cell? ⟨b0,off0+d,none⟩=some (.slice pk nk ck)):=fun G' w' st=>⟨st.upd.cell hc0 hbl,by have:=st.upd.cell hr0 hbk;rw[ek] at this;exact this⟩
      have AV:Hid (Vec (wr.drewN 1) (.slice pk nk ck) (E.getD d [])):=by
       have hv:=M3.out.vec d (by have:=HCL.out;omega)
       rw[ek] at hv
       exact (hv.vec.upd T1.out.upd (fun _ g' hg' hf=>by
        have h1:=hv.lo g' hg'
        have h2:=H.out.glt g' hf
        have h3:=G2.out.size
        omega)).keep (grown_drewN wr 1)
      have TD:Hid (Step G w3 G1' (wr.drewN 1)):=T1.out.trans (Step.new (grown_drewN wr 1))
      have HX:=HX1.out i hlt2 OK.out
      rw[<- hd] at HX
      obtain⟨c,hc⟩:∃ c,c=(ML (i+1)).1:=⟨_,rfl⟩
      have LA:Hid (Calls Tryz.prog 89 #[tptr t,.int .i64 (d:Int),.int .i64 (slot:Int),.int .u64 (m:Int),.slice pk nk ck] (wr.drewN 1) fun e w'=>e=.returned (.int .i64 (c:Int))/\∃ G',RSI G' w' t r g (ML (i+1)).2/\Step G w3 G' w'):=by
       rw[hc,HX,<- put_lays (HPW.out i (by omega) OK.out) HN.out.2.2.1 hdn HN.out.2.2.2.1 (HRow.out d hdn)]
       refine (rsPut_all (I1.out.keep (grown_drewN wr 1)) (d:Int) (slot:Int) m HN.out.2.2.2.2.1 AV.out (by have h1:=HLL.out i (by omega);have h2:=HN.out.1;omega)).mono ?_
       rintro e w9 ⟨rfl,G9,i9,s9⟩
       exact⟨rfl,G9,i9,TD.out.trans s9⟩
      have HCE:Hid (c=(ML (i+1)).1):=hc
      clear hc0 hr0 ek hnk hbk hbl hd hil HX hc AV
      by_cases h9:c=0
      ·subst h9
       go_wp2_with fail
       go_region_held3 (fun w'=>w'.cell? ⟨bl,ol0+i,none⟩=some (.int .i64 (d:Int))/\w'.cell? ⟨b0,off0+d,none⟩=some (.slice pk nk ck)) (first | exact HRC.out _ _ TD.out | exact HRC.out _ _ T4.out)
        ((go_at_call 89;refine LA.out.mono ?_;rintro e w4 ⟨rfl,G4,i4',st4⟩;have I4:Hid (RSI G4 w4 t r g (ML (i+1)).2):=i4';have T4:Hid (Step G w3 G4 w4):=st4;clear i4' st4))
       go_wp2
       go_roundw
       case rel=>exact⟨i+1,by omega,by go_num,HCE.out.symm,⟨G4,I4.out,T4.out⟩⟩
       case measure=>simp[intOf];omega
      ·have hne:((c:Int) != 0)=true:=neb_yes (b:=0) h9
       have HEQ:Hid (MT=ML (i+1)/\MT.1=c/\¬ MT.1=0):=by
        have e1:=HX3.out (i+1) (by rw[<- HCE.out];exact h9)
        exact⟨e1,by rw[e1];exact HCE.out.symm,by rw[e1,<- HCE.out];exact h9⟩
       clear h9
       go_wp2_with fail
       go_region_held3 (fun w'=>w'.cell? ⟨bl,ol0+i,none⟩=some (.int .i64 (d:Int))/\w'.cell? ⟨b0,off0+d,none⟩=some (.slice pk nk ck)) (first | exact HRC.out _ _ TD.out | exact HRC.out _ _ T4.out)
        ((go_at_call 89;refine LA.out.mono ?_;rintro e w4 ⟨rfl,G4,i4',st4⟩;have I4:Hid (RSI G4 w4 t r g (ML (i+1)).2):=i4';have T4:Hid (Step G w3 G4 w4):=st4;clear i4' st4))
       go_wp2
       go_ret2
       exact rslOut_mk (n:=0) (d:=c) (R':=(ML (i+1)).2) HR.out (by rw[HSM.out.2,if_neg HEQ.out.2.2]) (by rw[HSM.out.1,<- HEQ.out.2.1,HEQ.out.1]) rfl rfl I4.out ((Step.new GW3.out).trans T4.out)
     ·have i4:¬ (i:Int) < (ln:Int):=by omega
      have hin:i=ln:=by omega
      subst hin
      have HZ:Hid (MT.1=0):=by show _=_;rw[<- HX4.out];exact OK.out
      go_wp2
      go_ret2
      exact rslOut_mk (n:=i) (d:=0) (R':=(ML i).2) HR.out (by rw[HSM.out.2,if_pos HZ.out]) (by rw[HSM.out.1,<- HX4.out];exact Prod.ext OK.out rfl) rfl rfl I1.out ((Step.new GW3.out).trans T1.out)
 ·have hne:((er:Int) != 0)=true:=neb_yes (b:=0) he
  have e1:SP.slotM R g (slot:Int) m out er=(er,R):=by unfold SP.slotM;rw[if_neg he]
  have e2:SP.slotN R g (slot:Int) m out er=0:=by unfold SP.slotN;rw[e1,if_neg he]
  have HE:Hid (SP.slotM R g (slot:Int) m out er=(er,R)/\SP.slotN R g (slot:Int) m out er=0):=⟨e1,e2⟩
  clear he e1 e2
  go_wp2
  go_ret2
  exact rslOut_mk HR.out HE.out.2 HE.out.1 rfl rfl (H.out.keep G2.out) (Step.new G2.out)
theorem rslot_all (h:RSI G w t r g R) (hL:R.L.length<=980000) (slot:Int) (m:Nat) (hm2:m < 18446744073709551616):Calls Tryz.prog 35 #[tptr t,.int .i64 slot,.int .u64 (m:Int)] w (RslOut G w t r g R slot m):=by
 by_cases he:SP.askE R g slot m=0
 ·obtain⟨y,hm⟩:=SP.askE_zero he
  obtain⟨h0,q1,q2⟩:=SP.why_zero y
  obtain⟨sl,rfl⟩:∃ n:Nat,slot=(n:Int):=⟨slot.toNat,by omega⟩
  exact rslot_main h hL h0 (by omega) hm hm2
 ·exact rslot_err h hL he
end
def uw9 (n:Nat):Value:=.int .u64 (n:Int)
def us9 (st:List Nat):List Value:=st.map uw9
theorem us9_len (st:List Nat):(us9 st).length=st.length:=by simp[us9]
theorem us9_get {st:List Nat} {j:Nat} (h:j < st.length):(us9 st).getD j undef=.int .u64 ((st.getD j 0:Nat):Int):=by simp[us9,uw9,List.getD,h]
namespace SP
theorem allTo_stop {rd:AM.Raw->Int->Nat->List Nat->Nat->Prop} {R R':AM.Raw} {g:Geo} {st:List Nat} {j n e:Nat} (h:allTo rd R g st j n e R') (he:e ≠ 0):∀ i,j<=i->allTo rd R g st i n e R':=fun i hi=>by
 induction i with
 | zero=>obtain rfl:j=0:=by omega
         exact h
 | succ i ih =>
   by_cases c:j=i+1
   ·subst c;exact h
   ·exact⟨n,e,R',ih (by omega),.inl ⟨he,rfl,rfl,rfl⟩⟩
end SP
theorem allTo_len {rd:AM.Raw->Int->Nat->List Nat->Nat->Prop} {R:AM.Raw} {g:SP.Geo} {st:List Nat}:∀ j n e R',SP.allTo rd R g st j n e R'->R'.L.length<=R.L.length+8 * g.n * j
 | 0,n,e,R',h=>by obtain⟨_,_,rfl⟩:=h;simp
 | j+1,n,e,R',h=>by
   obtain⟨n0,e0,R0,h0,h⟩:=h
   have ih:=allTo_len j n0 e0 R0 h0
   have hm:8 * g.n * (j+1)=8 * g.n * j+8 * g.n:=Nat.mul_succ _ _
   rcases h with ⟨_,_,_,rfl⟩ | ⟨_,_,_,_,rfl⟩ | ⟨_,_,out,er,_,rfl,_,_⟩
   ·omega
   ·omega
   ·have:=slotM_len R0 g (j:Int) (st.getD j 0) out er
    omega
theorem allTo_le {rd:AM.Raw->Int->Nat->List Nat->Nat->Prop} {R:AM.Raw} {g:SP.Geo} {st:List Nat}:∀ j n e R',SP.allTo rd R g st j n e R'->n<=g.n * j
 | 0,n,e,R',h=>by obtain⟨rfl,_,_⟩:=h;simp
 | j+1,n,e,R',h=>by
   obtain⟨n0,e0,R0,h0,h⟩:=h
   have ih:=allTo_le j n0 e0 R0 h0
   have hm:g.n * (j+1)=g.n * j+g.n:=Nat.mul_succ _ _
   rcases h with ⟨_,rfl,_,_⟩ | ⟨_,_,rfl,_,_⟩ | ⟨_,_,out,er,_,_,_,rfl⟩
   ·omega
   ·omega
   ·have:=SP.slotN_le R0 g (j:Int) (st.getD j 0) out er
    split <;> omega
section
variable {F F':Nat->Prop} {w w':World} {s a:Nat} {g:SP.Geo} {R R':AM.Raw}
theorem mall_off (h:SI F w s a g R) (h0:R.off=true) (v:Value):Calls Tryz.prog 26 #[ptr s,v] w fun e w'=>e=.returned (.tuple #[.int .i64 0,.int .i64 8])/\w'=w:=by
 have H:Hid (SI F w s a g R):=h
 have OF:Hid (Calls Tryz.prog 24 #[ptr a] w fun e w'=>e=.returned (.bool true)/\w'=w):=by rw[<- h0];exact off_yes h.i
 clear h h0
 go_enter Tryz.func26,Tryz.ntmps26
 go_wp2_with (first
  | (go_at_call 11;refine (sarray_yes H.out).mono ?_;rintro e w9 ⟨rfl,hw9⟩;obtain rfl:=hw9.symm;clear hw9)
  | (go_at_call 24;refine OF.out.mono ?_;rintro e w9 ⟨rfl,hw9⟩;obtain rfl:=hw9.symm;clear hw9))
 go_ret2
 exact⟨rfl,rfl⟩
theorem mall_arg (h:SI F w s a g R) (h0:R.off=false) {p:Option Addr} {N cap:Nat} (hN:N ≠ g.s):Calls Tryz.prog 26 #[ptr s,.slice p N cap] w fun e w'=>e=.returned (.tuple #[.int .i64 0,.int .i64 1])/\w.grownBy w' none:=by
 have H:Hid (SI F w s a g R):=h
 have OF:Hid (Calls Tryz.prog 24 #[ptr a] w fun e w'=>e=.returned (.bool false)/\w'=w):=by rw[<- h0];exact off_yes h.i
 have hne:((N:Int) != (g.s:Int))=true:=neb_yes hN
 have hgf:=geo_s g
 clear h h0 hN
 go_enter Tryz.func26,Tryz.ntmps26
 go_wp2_with (first
  | (go_at_call 11;refine (sarray_yes H.out).mono ?_;rintro e w9 ⟨rfl,hw9⟩;obtain rfl:=hw9.symm;clear hw9)
  | (go_at_call 24;refine OF.out.mono ?_;rintro e w9 ⟨rfl,hw9⟩;obtain rfl:=hw9.symm;clear hw9)
  | (go_at_call 68;refine (sgeo_yes H.out).mono ?_;rintro e w1 ⟨rfl,g1⟩;have G1:Hid (w.grownBy w1 none):=g1;clear g1))
 go_ret2
 exact⟨rfl,G1.out⟩
set_option maxHeartbeats 6400000 in
theorem mall_main (h:SI F w s a g R) (h0:R.off=false) {v:Value} {st:List Nat} (hv:Cells w v (us9 st)) (hF:∀ b,v.ownBlock=some b->¬ F b) (hN:st.length=g.s) (hL:R.L.length+8 * g.n * g.s<=980000) :
 Calls Tryz.prog 26 #[ptr s,v] w fun e w'=>∃ n er R',e=.returned (.tuple #[.int .i64 ((n:Nat):Int),.int .i64 ((er:Nat):Int)])/\SP.allTo (fun R=>SP.RdP R g) R g st g.s n er R'/\∃ F',SI F' w' s a g R'/\Step F w F' w':=by
 obtain⟨p,N,cap,rfl,hNN⟩:=hv.opened
 rw[us9_len] at hNN
 have H:Hid (SI F w s a g R):=h
 have OF:Hid (Calls Tryz.prog 24 #[ptr a] w fun e w'=>e=.returned (.bool false)/\w'=w):=by rw[<- h0];exact off_yes h.i
 have hne:((N:Int) != (g.s:Int))=false:=neb_no (by omega)
 have hgf:=geo_s g
 have HV:Hid (Cells w (.slice p N cap) (us9 st)/\∀ b,(Value.slice p N cap).ownBlock=some b->¬ F b):=⟨hv,hF⟩
 have HN:Hid (N=st.length/\N=g.s/\R.L.length+8 * g.n * g.s<=980000/\g.s<=128/\g.n<=255):=⟨hNN,by omega,hL,h.ok.s2,h.ok.n255⟩
 have hNb:N<=128:=by have:=h.ok.s2;omega
 clear h h0 hv hF hN hL hNN
 go_enter Tryz.func26,Tryz.ntmps26
 go_wp2_with (first
  | (go_at_call 11;refine (sarray_yes H.out).mono ?_;rintro e w9 ⟨rfl,hw9⟩;obtain rfl:=hw9.symm;clear hw9)
  | (go_at_call 24;refine OF.out.mono ?_;rintro e w9 ⟨rfl,hw9⟩;obtain rfl:=hw9.symm;clear hw9)
  | (go_at_call 68;refine (sgeo_yes H.out).mono ?_;rintro e w1 ⟨rfl,g1⟩;have G1:Hid (w.grownBy w1 none):=g1;clear g1)
  | fail)
 have S1:Hid (∃ F',SI F' w1 s a g R/\Step F w F' w1):=⟨F,H.out.keep G1.out,Step.new G1.out⟩
 clear OF hne H G1 hgf
 go_loopw [6,25] (fun ts ti wr=>∃ k n0:Nat,k<=N/\ti=.int .i64 (k:Int)/\ts=.int .i64 (n0:Int)/\Hid (∃ R0,SP.allTo (fun R=>SP.RdP R g) R g st k n0 0 R0/\∃ F',SI F' wr s a g R0/\Step F w F' wr)) (fun _ ti _=>N - (intOf ti).toNat)
 case atStart =>
  obtain⟨F',i',st'⟩:=S1.out
  exact⟨0,0,by omega,rfl,rfl,R,⟨rfl,rfl,rfl⟩,F',i',st'⟩
 case round =>
  clear S1
  obtain⟨k,n0,hk,rfl,rfl,HX⟩:=hrel
  obtain⟨R0,ha,F0,i0,st0⟩:=HX.out
  have AT:Hid (SP.allTo (fun R=>SP.RdP R g) R g st k n0 0 R0):=ha
  have I0:Hid (SI F0 wr s a g R0):=i0
  have T0:Hid (Step F w F0 wr):=st0
  have hn0:=allTo_le _ _ _ _ ha
  clear HX ha i0 st0
  by_cases hlt:k < N
  ·have i4:(k:Int) < (N:Int):=by omega
   have i5:(0:Int)<=(k:Int):=by omega
   have hkl:k < st.length:=by have:=HN.out.1;omega
   obtain⟨b,off,rfl,hc0⟩:=HV.out.1.spot (k:=k) (by rw[us9_len];exact hkl)
   rw[us9_get hkl] at hc0
   have hc:=T0.out.upd.cell hc0 (HV.out.2 b rfl)
   obtain⟨x,hx⟩:∃ x,x=st.getD k 0:=⟨_,rfl⟩
   have HXX:Hid (x=st.getD k 0):=hx
   rw[<- hx] at hc
   have hmul:g.n * k<=255 * 128:=Nat.mul_le_mul HN.out.2.2.2.2 (by omega)
   clear hc0 hx
   by_cases hx0:x=0
   ·subst hx0
    have HA:Hid (SP.allTo (fun R=>SP.RdP R g) R g st (k+1) n0 0 R0):=⟨n0,0,R0,AT.out,.inr (.inl ⟨rfl,HXX.out.symm,rfl,rfl,rfl⟩)⟩
    clear hn0 hmul AT
    go_wp2
    go_roundw
    case rel=>exact⟨k+1,n0,by omega,by go_num,rfl,R0,HA.out,F0,I0.out,T0.out⟩
    case measure=>simp[intOf];omega
   ·have hne:((x:Int)==0)=false:=eqb_no (b:=0) hx0
    have SL:Hid (Calls Tryz.prog 21 #[ptr s,.int .i64 (k:Int),.int .u64 (x:Int)] wr fun e w'=>∃ out er,SP.RdP R0 g (k:Int) x out er/\e=.returned (.tuple #[.int .i64 ((SP.slotN R0 g (k:Int) x out er:Nat):Int),.int .i64 (((SP.slotM R0 g (k:Int) x out er).1:Nat):Int)])/\∃ F',SI F' w' s a g (SP.slotM R0 g (k:Int) x out er).2/\Step F w F' w'):=by
     have hlen:=allTo_len _ _ _ _ AT.out
     have h2:8 * g.n * k<=8 * g.n * g.s:=Nat.mul_le_mul_left _ (by have:=HN.out.2.1;omega)
     refine (mslot_all I0.out (k:Int) x (by have:=HN.out.2.2.1;omega)).mono ?_
     rintro e w' ⟨out,er,hr,rfl,F',i',st'⟩
     exact⟨out,er,hr,rfl,F',i',T0.out.trans st'⟩
    have HX0:Hid (x ≠ 0):=hx0
    have HB:Hid (n0<=g.n * k/\g.n * k<=255 * 128):=⟨hn0,hmul⟩
    clear hn0 hmul hx0
    go_wp2_with fail
    refine SL.out.mono ?_
    rintro e w5 ⟨out,er,hr,rfl,hp⟩
    have HR:Hid (SP.RdP R0 g (k:Int) x out er):=hr
    have HP:Hid (∃ F',SI F' w5 s a g (SP.slotM R0 g (k:Int) x out er).2/\Step F w F' w5):=hp
    obtain⟨c,hcc⟩:∃ c,c=(SP.slotM R0 g (k:Int) x out er).1:=⟨_,rfl⟩
    obtain⟨n5,hn5⟩:∃ n5,n5=SP.slotN R0 g (k:Int) x out er:=⟨_,rfl⟩
    rw[<- hcc,<- hn5]
    have HC:Hid (c=(SP.slotM R0 g (k:Int) x out er).1/\n5=SP.slotN R0 g (k:Int) x out er):=⟨hcc,hn5⟩
    clear hr hp hcc hn5 SL
    have hn5:n5<=255:=by
     have:=SP.slotN_le R0 g (k:Int) x out er
     have:=HN.out.2.2.2.2
     have:=HC.out.2
     omega
    by_cases hc0:c=0
    ·subst hc0
     have HA:Hid (SP.allTo (fun R=>SP.RdP R g) R g st (k+1) (n0+n5) 0 (SP.slotM R0 g (k:Int) x out er).2):=by
      refine⟨n0,0,R0,AT.out,.inr (.inr ⟨rfl,by rw[<- HXX.out];exact HX0.out,out,er,?_,?_,?_,?_⟩)⟩
      ·rw[<- HXX.out];exact HR.out
      ·rw[<- HXX.out]
      ·rw[<- HXX.out];exact HC.out.1
      ·rw[<- HXX.out,if_pos rfl,HC.out.2]
     have hw:IntKind.i64.wrap ((n0:Int)+(n5:Int))=((n0+n5:Nat):Int):=by
      have e:(n0:Int)+(n5:Int)=((n0+n5:Nat):Int):=by omega
      rw[e]
      exact IntWalk.i64_in _ (by have:=HB.out;omega)
     clear HC HR
     go_wp2
     go_roundw
     case rel=>exact⟨k+1,n0+n5,by omega,by go_num,rfl,_,HA.out,HP.out⟩
     case measure=>simp[intOf];omega
    ·have hce:((c:Int) != 0)=true:=neb_yes (b:=0) hc0
     have HA:Hid (SP.allTo (fun R=>SP.RdP R g) R g st g.s 0 c (SP.slotM R0 g (k:Int) x out er).2):=by
      refine SP.allTo_stop (j:=k+1) ?_ hc0 g.s (by have:=HN.out.2.1;omega)
      refine⟨n0,0,R0,AT.out,.inr (.inr ⟨rfl,by rw[<- HXX.out];exact HX0.out,out,er,?_,?_,?_,?_⟩)⟩
      ·rw[<- HXX.out];exact HR.out
      ·rw[<- HXX.out]
      ·rw[<- HXX.out];exact HC.out.1
      ·rw[if_neg hc0]
     clear HC HR hc0
     go_wp2
     go_ret2
     first | exact⟨0,c,_,rfl,HA.out,HP.out⟩ | exact⟨0,c,rfl,_,HA.out,HP.out⟩
  ·have i4:¬ (k:Int) < (N:Int):=by omega
   have hkn:Hid (k=g.s):=by show _=_;have:=HN.out.2.1;omega
   clear hn0
   go_wp2
   go_ret2
   first | exact⟨n0,0,R0,rfl,by rw[<- hkn.out];exact AT.out,F0,I0.out,T0.out⟩ | exact⟨n0,0,rfl,R0,by rw[<- hkn.out];exact AT.out,F0,I0.out,T0.out⟩
theorem mall_all (h:SI F w s a g R) {v:Value} {st:List Nat} (hv:Cells w v (us9 st)) (hF:∀ b,v.ownBlock=some b->¬ F b) (hL:R.L.length+8 * g.n * g.s<=980000) :
 Calls Tryz.prog 26 #[ptr s,v] w fun e w'=>∃ n er R',e=.returned (.tuple #[.int .i64 ((n:Nat):Int),.int .i64 ((er:Nat):Int)])/\SP.allP (fun R=>SP.RdP R g) R g st n er R'/\∃ F',SI F' w' s a g R'/\Step F w F' w':=by
 cases h0:R.off
 ·by_cases hN:st.length=g.s
  ·refine (mall_main h h0 hv hF hN hL).mono ?_
   rintro e w' ⟨n,er,R',rfl,h1,h2⟩
   exact⟨n,er,R',rfl,.inr (.inr ⟨h0,hN,h1⟩),h2⟩
  ·obtain⟨p,N,cap,rfl,hNN⟩:=hv.opened
   rw[us9_len] at hNN
   refine (mall_arg h h0 (by omega)).mono ?_
   rintro e w' ⟨rfl,g1⟩
   exact⟨0,1,R,rfl,.inr (.inl ⟨h0,hN,rfl,rfl,rfl⟩),F,h.keep g1,Step.new g1⟩
 ·refine (mall_off h h0 v).mono ?_
  rintro e w' ⟨rfl,rfl⟩
  exact⟨0,8,R,rfl,.inl ⟨h0,rfl,rfl,rfl⟩,F,h,Step.refl _ _⟩
end
end Go.Proofs.YtaalagkbpeinkaaGreat
namespace Go.Proofs.YtaalagkbpeinkaaGreat
namespace SP
def bestTo (R:AM.Raw) (g:Geo) (slot d:Nat):Nat:=top ((stampTo R g slot d).filter (fun m=>decide (g.k<=(hits R g slot m g.n).length)))
theorem best_zero (R:AM.Raw) (g:Geo) (slot:Nat):bestTo R g slot 0=0:=by simp[bestTo,stampTo,top]
theorem best_no {R:AM.Raw} {g:Geo} {slot d:Nat} (hy:yesD R g slot d=false):bestTo R g slot (d+1)=bestTo R g slot d:=by
 unfold bestTo
 rw[stampTo_succ,hy]
 simp
theorem best_few {R:AM.Raw} {g:Geo} {slot d:Nat} (hy:yesD R g slot d=true) (h:¬ g.k<=(hits R g slot (numD R g slot d) g.n).length):bestTo R g slot (d+1)=bestTo R g slot d:=by
 unfold bestTo
 rw[stampTo_succ,hy,if_pos rfl,List.filter_append]
 have e:List.filter (fun m=>decide (g.k<=(hits R g slot m g.n).length)) [numD R g slot d]=[]:=by simp[h]
 rw[e,List.append_nil]
theorem best_more {R:AM.Raw} {g:Geo} {slot d:Nat} (hy:yesD R g slot d=true) (h:g.k<=(hits R g slot (numD R g slot d) g.n).length):bestTo R g slot (d+1)=max (bestTo R g slot d) (numD R g slot d):=by
 unfold bestTo
 rw[stampTo_succ,hy,if_pos rfl,List.filter_append]
 have e:List.filter (fun m=>decide (g.k<=(hits R g slot m g.n).length)) [numD R g slot d]=[numD R g slot d]:=by simp[h]
 rw[e,top_app]
theorem best_all (R:AM.Raw) (g:Geo) (slot:Nat):bestTo R g slot g.n=whole R g slot:=by
 unfold bestTo whole often
 congr 1
 apply List.filter_congr
 intro m _
 rw[hits_count]
theorem num_ne {R:AM.Raw} {g:Geo} {slot d:Nat} (hy:yesD R g slot d=true):numD R g slot d ≠ 0:=by
 unfold yesD at hy
 have h:=CM.yes_iff.1 hy
 have h0:=h.2.2 0 (by omega)
 unfold numD CM.tN
 rw[if_pos hy]
 exact h0.2.2
end SP
open Go.RowKit
theorem Tryz.infoU8:(Tryz.prog.info? 30).map (fun i=>(i.zero,i.size,i.bytes))=some (some (.int .u64 0),1,8):=by kernel_rfl
structure UOwn (B:Nat) (w:World) (v:Value) (ls:List Nat):Prop where
 len:ls.length<=1000
 row:w.ownsRow B 30 1 v ls.length (ls.map fun x:Nat=>Value.int .u64 (x:Int))
section
variable {B:Nat} {w w':World} {v:Value} {ls:List Nat}
theorem UOwn.keep (h:UOwn B w v ls) (g:w.grownBy w' none):UOwn B w' v ls:=⟨h.len,h.row.kept g (Classical.em _)⟩
theorem UOwn.lo (h:UOwn B w v ls):Lo B v:=fun k hk=>(h.row.lt k hk).1
theorem UOwn.nil (B:Nat) (w:World):UOwn B w (.slice none 0 0) []:=⟨by simp,World.ownsRow_nil w B 30 1⟩
theorem UOwn.opened (h:UOwn B w v ls):∃ p n c,v=.slice p n c/\n=ls.length:=by
 rcases h.row.2 with ⟨e,hn⟩ | ⟨g,cap',cur,e,_⟩
 ·exact⟨none,0,0,e,hn.symm⟩
 ·exact⟨_,_,_,e,rfl⟩
theorem UOwn.place {p:Option Addr} {n cap:Nat} (h:UOwn B w (.slice p n cap) ls) {k:Nat} (hk:k < ls.length) :
 ∃ g,p=some ⟨g,0,none⟩/\B<=g/\w.cell? ⟨g,k,none⟩=some (.int .u64 ((ls.getD k 0:Nat):Int))/\w.frozen? ⟨g,k,none⟩=false /\
   (∀ z:Nat,UOwn B (w.setCell ⟨g,k,none⟩ (.int .u64 (z:Int))) (.slice (some ⟨g,0,none⟩) n cap) (ls.set k z))/\∀ u,w.grownBy (w.setCell ⟨g,k,none⟩ u) (some g):=by
 obtain⟨g,e,hn,hb,hc,hf,hset,hgr⟩:=row_place h.row (by simp) (k:=k) (by simpa using hk)
 refine⟨g,e,hb,by rw[hc];simp[List.getD,hk],hf,fun z=>⟨by simpa using h.len,?_⟩,hgr⟩
 have:=hset (.int .u64 (z:Int))
 simpa [List.map_set] using this
end
theorem run_append_u64 {B:Nat} {w:World} {dv:Value} {ls:List Nat} (hd:UOwn B w dv ls) (ad:Addr) {x:Nat} (hu:w.cell? ad=some (.int .u64 (x:Int))) (hB:B<=w.heap.size) (hl:ls.length+1<=1000) (ty:TypeId) :
 ∃ v' w',(Builtin.append_ #[64,64] ty #[dv,.slice (some ad) 1 1]).run Tryz.prog w=.ok v' w'/\UOwn B w' v' (ls++[x])/\w.grownBy w' dv.ownBlock:=by
 obtain⟨i0,hi,hz0,hz1,hz2⟩:=info_parts Tryz.infoU8
 obtain⟨v',w',r1,r2,r3,_,r5⟩:=run_append_own_at (P:=Tryz.prog) w B 64 ty 30 i0 (.int .u64 0) 1 8 Tryz.underlying64 hi hz0 hz1 hz2 rfl (by decide) dv ls.length _ hd.row ad 1 1 [.int .u64 (x:Int)] (by simp)
  (fun j v hj=>by
    match j,hj with
    | 0,hj=>simp at hj;subst hj;simpa [Addr.add] using hu)
  (fun v hv=>by simp at hv;subst hv;rfl) (by unfold maxLen;omega) (by omega) hB
 exact⟨v',w',r1,⟨by simpa using hl,by simpa using r2⟩,r3⟩
theorem wpList_append_u64 {w:World} {ops:Array Oper} {rest:List Oper} {o:Oper} {a:Act} {Q:Exit->Act->World->Prop} (hgd:o.guard=none) (d s:Operand)
 (ho:o.op=.call { callee:=.builtin .append,args:=#[d,s],argTypes:=#[64,64] }) (dv:Value) (ad:Addr) (hed:a.eval d=dv) (hes:a.eval s=.slice (some ad) 1 1)
 {B:Nat} {ls:List Nat} {x:Nat} (hd:UOwn B w dv ls) (hu:w.cell? ad=some (.int .u64 (x:Int))) (hB:B<=w.heap.size) (hl:ls.length+1<=1000)
 (h:∀ v' w',UOwn B w' v' (ls++[x])->w.grownBy w' dv.ownBlock->wpList Tryz.prog ops Q rest (a.put o.dst v') w'):wpList Tryz.prog ops Q (o :: rest) a w:=by
 refine wpList_plain hgd fun K hK=>?_
 obtain⟨v',w',hrun,r1,r2⟩:=run_append_u64 hd ad hu hB hl o.type
 unfold Oper.wp
 simp[execOp,ho,resolve,invoke,builtin,hed,hes,hrun,Result.andThen]
 exact hK _ _ (h _ _ r1 r2)
section
variable {w0 w w':World} {A:Nat} {va va':Value} {S:List Nat}
end
def SP.wholeV (R:AM.Raw) (g:SP.Geo) (slot:Int):Nat:=if SP.why R g slot=0 then SP.whole R g slot.toNat else 0
section
variable {F F':Nat->Prop} {w w':World} {s a:Nat} {g:SP.Geo} {R R':AM.Raw}
end
section
variable {G G':Nat->Prop} {w w':World} {t r:Nat} {g:SP.Geo} {R R':AM.Raw}
theorem hasV_in {slot i m:Nat} (hy:SP.why R g (slot:Int)=0) (hi:i < g.n) (hm:m ≠ 0):SP.hasE R g (i:Int) (slot:Int) m=0/\SP.hasV R g (i:Int) (slot:Int) m=SP.has R g slot m i:=by
 have h1:SP.whyD R g (i:Int) (slot:Int)=0:=by unfold SP.whyD;rw[if_neg (by omega),if_pos (by omega)]
 have h2:SP.hasE R g (i:Int) (slot:Int) m=0:=by unfold SP.hasE;rw[if_neg (by omega),if_neg hm]
 refine⟨h2,?_⟩
 unfold SP.hasV SP.has
 rw[h2,Int.toNat_natCast,Int.toNat_natCast]
 by_cases c:SP.numD R g slot i=m <;> simp[c]
theorem rswhole_err (h:RSI G w t r g R) {slot:Int} (hy:SP.why R g slot ≠ 0) :
 Calls Tryz.prog 90 #[tptr t,.int .i64 slot] w fun e w'=>e=.returned (.tuple #[.int .u64 0,.int .i64 (SP.why R g slot:Int)])/\w'=w:=by
 obtain⟨y,hy1⟩:∃ y,y=SP.why R g slot:=⟨_,rfl⟩
 have HR:Hid (Calls Tryz.prog 84 #[tptr t,.int .i64 0,.int .i64 slot] w fun e w''=>e=.returned (.int .i64 (y:Int))/\w''=w):=rswhy_0 h (by rw[hy1])
 rw[<- hy1] at hy ⊢
 have hne:((y:Int) != 0)=true:=neb_yes (b:=0) hy
 clear h hy hy1
 go_enter Tryz.func90,Tryz.ntmps90
 go_wp2_with (go_at_call 84;refine HR.out.mono ?_;rintro e w9 ⟨rfl,hw9⟩;obtain rfl:=hw9.symm;clear hw9)
 go_ret2
 exact⟨rfl,rfl⟩
set_option maxHeartbeats 6400000 in
theorem rswhole_main (h:RSI G w t r g R) (hL:R.L.length<=1000000) {slot:Nat} (hy:SP.why R g (slot:Int)=0) :
 Calls Tryz.prog 90 #[tptr t,.int .i64 (slot:Int)] w fun e w'=>e=.returned (.tuple #[.int .u64 ((SP.whole R g slot:Nat):Int),.int .i64 0])/\w.grownBy w' none:=by
 have HR:Hid (Calls Tryz.prog 84 #[tptr t,.int .i64 0,.int .i64 (slot:Int)] w fun e w''=>e=.returned (.int .i64 0)/\w''=w):=rswhy_0 h (by rw[hy];rfl)
 obtain⟨q0,q1,q2⟩:=SP.why_zero hy
 have H:Hid (RSI G w t r g R):=h
 have HN:Hid (R.off=false/\slot < g.s/\R.L.length<=1000000/\SP.why R g (slot:Int)=0/\1<=g.k):=⟨q0,by omega,hL,hy,h.ok.k1⟩
 have hn255:g.n<=255:=h.ok.n255
 clear h hy q0 q1 q2 hL
 go_enter Tryz.func90,Tryz.ntmps90
 go_wp2_with (first | (go_at_call 84;refine HR.out.mono ?_;rintro e w9 ⟨rfl,hw9⟩;obtain rfl:=hw9.symm;clear hw9) | fail)
 clear HR
 go_loopw [7,8] (fun tb ti wr=>∃ k:Nat,k<=g.n/\ti=.int .i64 k/\tb=.int .u64 ((SP.bestTo R g slot k:Nat):Int)/\Hid (w.grownBy wr none)) (fun _ ti _=>g.n - (intOf ti).toNat)
 case atStart=>exact⟨0,by omega,rfl,by rw[SP.best_zero];rfl,World.grownBy.refl _ _⟩
 case round =>
  obtain⟨k,hk,rfl,rfl,GK⟩:=hrel
  obtain⟨wa,hwa⟩:∃ wa,wa=wr:=⟨wr,rfl⟩
  subst hwa
  have c2:=(H.out.keep GK.out).at3
  by_cases hlt:k < g.n
  ·have i4:(k:Int) < (g.n:Int):=by omega
   have TK:Hid (Calls Tryz.prog 120 #[tptr t,.int .i64 (k:Int),.int .i64 (slot:Int)] wa fun e w'=>∃ u,e=.returned (.tuple #[.int .u64 ((SP.numD R g slot k:Nat):Int),u,.bool (SP.yesD R g slot k)])/\wa.grownBy w' none):=(rstake_any (H.out.keep GK.out) HN.out.2.2.1 HN.out.1 hlt HN.out.2.1).mono fun e w' ⟨u,q1,_,q2⟩=>⟨u,q1,q2⟩
   obtain⟨T0,hT0⟩:∃ T0,T0=SP.bestTo R g slot k:=⟨_,rfl⟩
   obtain⟨T1,hT1⟩:∃ T1,T1=SP.bestTo R g slot (k+1):=⟨_,rfl⟩
   have HT1:Hid (T1=SP.bestTo R g slot (k+1)):=hT1
   cases hyes:SP.yesD R g slot k
   ·have HE:Hid (T1=T0):=by show _=_;rw[hT1,hT0];exact SP.best_no hyes
    rw[hyes] at TK
    rw[<- hT0]
    have i9:¬ (g.k:Int)<=0:=by have:=HN.out.2.2.2.2;omega
    clear hyes hT0 hT1
    generalize SP.numD R g slot k=m at *
    go_wp2_with (first
     | (go_at_call 120;refine TK.out.mono ?_;rintro e w1 ⟨u,rfl,g1⟩;have G1:Hid (wa.grownBy w1 none):=g1;have c1:=(H.out.keep (grown_trans GK.out g1)).at2;clear g1 c2)
     | fail)
    go_loopw [12,13] (fun tn ti wr=>tn=.int .i64 0/\ti=.int .i64 0/\Hid (wa.grownBy wr none)) (fun _ _ _=>0)
    case atStart=>exact⟨rfl,rfl,G1⟩
    case round =>
     obtain⟨rfl,rfl,G2⟩:=hrel
     have c1:=(H.out.keep (grown_trans GK.out G2.out)).at2
     go_wp2
     go_roundw
     case rel=>exact⟨k+1,by omega,by go_num,by rw[<- HT1.out,HE.out],grown_trans GK.out G2.out⟩
     case measure=>simp[intOf];omega
   ·rw[hyes] at TK
    have hm0:=SP.num_ne hyes
    have HB:Hid ((¬ g.k<=(SP.hits R g slot (SP.numD R g slot k) g.n).length->T1=T0)/\(g.k<=(SP.hits R g slot (SP.numD R g slot k) g.n).length->T1=max T0 (SP.numD R g slot k))):=by
     rw[hT1,hT0]
     exact⟨SP.best_few hyes,SP.best_more hyes⟩
    rw[<- hT0]
    clear hyes hT0 hT1
    generalize SP.numD R g slot k=m at *
    have HM:Hid (m ≠ 0):=hm0
    have HHL:Hid (∀ (j:Nat),(SP.hits R g slot m j).length<=j):=SP.hits_len_le R g slot m
    have HHS:Hid (∀ (j:Nat),(SP.hits R g slot m (j+1)).length=(SP.hits R g slot m j).length+(if SP.has R g slot m j then 1 else 0)):=fun j=>by
     rw[SP.hits_succ,List.length_append]
     congr 1
     cases SP.has R g slot m j <;> rfl
    have HAS:Hid (∀ (j:Nat) (W:World),j < g.n->w.grownBy W none->Calls Tryz.prog 87 #[tptr t,.int .i64 (j:Int),.int .i64 (slot:Int),.int .u64 (m:Int)] W fun e w'=>e=.returned (.tuple #[.bool (SP.has R g slot m j),.int .i64 0])/\W.grownBy w' none):=fun j W hj gW=>by
     have h1:=rshas_all (H.out.keep gW) HN.out.2.2.1 (j:Int) (slot:Int) m
     obtain⟨h2,h3⟩:=hasV_in HN.out.2.2.2.1 hj HM.out
     rw[h2,h3] at h1
     exact h1
    have HZ:Hid ((SP.hits R g slot m 0).length=0):=by show _=_;rw[SP.hits_zero];rfl
    clear hm0
    obtain⟨C,hC⟩:∃ C:Nat->Nat,C=fun j=>(SP.hits R g slot m j).length:=⟨_,rfl⟩
    obtain⟨B,hB⟩:∃ B:Nat->Bool,B=SP.has R g slot m:=⟨_,rfl⟩
    have HCC:Hid ((∀ (j:Nat),C j<=j)/\(∀ (j:Nat),C (j+1)=C j+(if B j then 1 else 0))/\C 0=0):=by
     rw[hC,hB]
     exact⟨HHL.out,HHS.out,HZ.out⟩
    have HBB:Hid ((¬ g.k<=C g.n->T1=T0)/\(g.k<=C g.n->T1=max T0 m)):=by
     rw[hC]
     exact HB.out
    rw[<- hB] at HAS
    clear HHL HHS HZ HB hC hB
    go_wp2_with (first
     | (go_at_call 120;refine TK.out.mono ?_;rintro e w1 ⟨u,rfl,g1⟩;have G1:Hid (wa.grownBy w1 none):=g1;clear g1 c2)
     | fail)
    go_loopw [12,13] (fun tn ti wr=>∃ i:Nat,i<=g.n/\ti=.int .i64 i/\tn=.int .i64 ((C i:Nat):Int)/\Hid (wa.grownBy wr none)) (fun _ ti _=>g.n - (intOf ti).toNat)
    case atStart=>exact⟨0,by omega,rfl,by rw[HCC.out.2.2];rfl,G1⟩
    case round =>
     obtain⟨i,hi,rfl,rfl,GI⟩:=hrel
     have c2:=(H.out.keep (grown_trans GK.out GI.out)).at3
     by_cases hlt2:i < g.n
     ·have i5:(i:Int) < (g.n:Int):=by omega
      have HA:Hid (Calls Tryz.prog 87 #[tptr t,.int .i64 (i:Int),.int .i64 (slot:Int),.int .u64 (m:Int)] wr fun e w'=>e=.returned (.tuple #[.bool (B i),.int .i64 0])/\wr.grownBy w' none):=HAS.out i wr hlt2 (grown_trans GK.out GI.out)
      have hci:=HCC.out.1 i
      have hcs:=HCC.out.2.1 i
      obtain⟨n0,hn0⟩:∃ n0,n0=C i:=⟨_,rfl⟩
      rw[<- hn0] at hci hcs ⊢
      have HCS:Hid (C (i+1)=n0+(if B i then 1 else 0)):=hcs
      clear hcs hn0
      generalize B i=bi at *
      cases bi
      ·have HC1:Hid (C (i+1)=n0):=HCS.out
       clear HCS
       go_wp2_with (go_at_call 87;refine HA.out.mono ?_;rintro e w3 ⟨rfl,g3⟩;have G3:Hid (wa.grownBy w3 none):=grown_trans GI.out g3;clear g3)
       go_roundw
       case rel=>exact⟨i+1,by omega,by go_num,by rw[HC1.out],G3⟩
       case measure=>simp[intOf];omega
      ·have HC1:Hid (C (i+1)=n0+1):=HCS.out
       clear HCS
       go_wp2_with (go_at_call 87;refine HA.out.mono ?_;rintro e w3 ⟨rfl,g3⟩;have G3:Hid (wa.grownBy w3 none):=grown_trans GI.out g3;clear g3)
       go_roundw
       case rel=>exact⟨i+1,by omega,by go_num,by rw[HC1.out];go_num,G3⟩
       case measure=>simp[intOf];omega
     ·have i5:¬ (i:Int) < (g.n:Int):=by omega
      have hin:i=g.n:=by omega
      have HBi:Hid ((¬ g.k<=C i->T1=T0)/\(g.k<=C i->T1=max T0 m)):=by rw[hin];exact HBB.out
      have c1:=(H.out.keep (grown_trans GK.out GI.out)).at2
      clear hin
      generalize C i=n0 at *
      by_cases hge:g.k<=n0
      ·have i7:(g.k:Int)<=(n0:Int):=by omega
       by_cases hgt:T0 < m
       ·have i8:(T0:Int) < (m:Int):=by omega
        have HE:Hid (T1=m):=by show _=_;rw[HBi.out.2 hge];omega
        clear HBi
        go_wp2
        go_roundw
        case rel=>exact⟨k+1,by omega,by go_num,by rw[<- HT1.out,HE.out],grown_trans GK.out GI.out⟩
        case measure=>simp[intOf];omega
       ·have i8:¬ (T0:Int) < (m:Int):=by omega
        have HE:Hid (T1=T0):=by show _=_;rw[HBi.out.2 hge];omega
        clear HBi
        go_wp2
        go_roundw
        case rel=>exact⟨k+1,by omega,by go_num,by rw[<- HT1.out,HE.out],grown_trans GK.out GI.out⟩
        case measure=>simp[intOf];omega
      ·have i7:¬ (g.k:Int)<=(n0:Int):=by omega
       have HE:Hid (T1=T0):=HBi.out.1 hge
       clear HBi
       go_wp2
       go_roundw
       case rel=>exact⟨k+1,by omega,by go_num,by rw[<- HT1.out,HE.out],grown_trans GK.out GI.out⟩
       case measure=>simp[intOf];omega
  ·have i4:¬ (k:Int) < (g.n:Int):=by omega
   have hkn:Hid (k=g.n):=by show _=_;omega
   go_wp2
   go_ret2
   exact⟨by rw[hkn.out,SP.best_all];rfl,GK.out⟩
theorem rswhole_all (h:RSI G w t r g R) (hL:R.L.length<=1000000) (slot:Int) :
 Calls Tryz.prog 90 #[tptr t,.int .i64 slot] w fun e w'=>e=.returned (.tuple #[.int .u64 ((SP.wholeV R g slot:Nat):Int),.int .i64 (SP.why R g slot:Int)])/\w.grownBy w' none:=by
 unfold SP.wholeV
 by_cases hy:SP.why R g slot=0
 ·obtain⟨_,q1,_⟩:=SP.why_zero hy
  obtain⟨n,rfl⟩:∃ n:Nat,slot=(n:Int):=⟨slot.toNat,by omega⟩
  rw[if_pos hy,hy,Int.toNat_natCast]
  exact rswhole_main h hL hy
 ·rw[if_neg hy]
  refine (rswhole_err h hy).mono ?_
  rintro e w' ⟨rfl,rfl⟩
  exact⟨rfl,World.grownBy.refl _ _⟩
end
end Go.Proofs.YtaalagkbpeinkaaGreat
