/- Packed: WhlW9, LiftL9. -/
import Derived.Test.YtaalagkbpeinkaaGreatMw17
import Derived.Lib.SmallJoins
set_option linter.unusedSimpArgs false
set_option linter.unusedVariables false
set_option maxRecDepth 100000
namespace Go.Proofs.YtaalagkbpeinkaaGreat.mendWhole
open Go.RowKit
set_option maxHeartbeats 12800000 in
theorem walk {w:World} {K M X P Q FU:Nat} {v:Value} {ps:List Nat} (hX:X < 256) (hFU:FU < 256) (hv:Vec w v ps):Calls Tryz.prog 4 #[.agg #[.int .u8 (K:Int),.int .u8 (M:Int),.int .u8 (X:Int),.int .u16 (P:Int),.int .u16 (Q:Int),.int .u8 (FU:Int),v]] w fun e w'=>e = .returned (.bool true) /\ w.grownBy w' none:=by
 obtain ⟨pv,nv,cv,rfl,hnv⟩:=hv.opened
 obtain ⟨a1,ha1⟩:∃ a1,a1 = K % 5:=⟨_,rfl⟩
 obtain ⟨a2,ha2⟩:∃ a2,a2 = M % 4:=⟨_,rfl⟩
 obtain ⟨k,hk⟩:∃ k,k = 1 + a1:=⟨_,rfl⟩
 obtain ⟨m,hm⟩:∃ m,m = 1 + a2:=⟨_,rfl⟩
 obtain ⟨n,hn⟩:∃ n,n = k + m:=⟨_,rfl⟩
 have q1:((K:Int)).tmod 5 = (a1:Int):=by rw [ha1];rfl
 have q2:((M:Int)).tmod 4 = (a2:Int):=by rw [ha2];rfl
 have q1':(K:Int) % 5 = (a1:Int):=by omega
 have q2':(M:Int) % 4 = (a2:Int):=by omega
 have q3:IntKind.i64.wrap (a1:Int) = (a1:Int):=IntWalk.i64_in _ (by omega)
 have q4:IntKind.i64.wrap (a2:Int) = (a2:Int):=IntWalk.i64_in _ (by omega)
 have q5:IntKind.i64.wrap (1 + (a1:Int)) = (k:Int):=by
  have e:(1:Int) + (a1:Int) = (k:Int):=by omega
  rw [e];exact IntWalk.i64_in _ (by omega)
 have q6:IntKind.i64.wrap (1 + (a2:Int)) = (m:Int):=by
  have e:(1:Int) + (a2:Int) = (m:Int):=by omega
  rw [e];exact IntWalk.i64_in _ (by omega)
 have q7:IntKind.i64.wrap ((k:Int) + (m:Int)) = (n:Int):=by
  have e:(k:Int) + (m:Int) = (n:Int):=by omega
  rw [e];exact IntWalk.i64_in _ (by omega)
 have HK:Hid (1 <= k /\ k <= 5 /\ 1 <= m /\ m <= 4 /\ n = k + m /\ X < 256 /\ FU < 256):=⟨by omega,by omega,by omega,by omega,hn,hX,hFU⟩
 have HV0:Hid (Vec w (.slice pv nv cv) ps):=hv
 have hm4:m <= 4:=by omega
 have HC0:Hid (∀ w',(w.alloc (.cells #[.int .u8 (K:Int),.int .u8 (M:Int),.int .u8 (X:Int),.int .u16 (P:Int),.int .u16 (Q:Int),.int .u8 (FU:Int),.slice pv nv cv] 45)).grownBy w' none -> w'.cell? ⟨w.heap.size,0,none⟩ = some (.int .u8 (K:Int)) /\ w'.cell? ⟨w.heap.size,1,none⟩ = some (.int .u8 (M:Int)) /\ w'.cell? ⟨w.heap.size,2,none⟩ = some (.int .u8 (X:Int)) /\ w'.cell? ⟨w.heap.size,3,none⟩ = some (.int .u16 (P:Int)) /\ w'.cell? ⟨w.heap.size,4,none⟩ = some (.int .u16 (Q:Int)) /\ w'.cell? ⟨w.heap.size,5,none⟩ = some (.int .u8 (FU:Int)) /\ w'.cell? ⟨w.heap.size,6,none⟩ = some (.slice pv nv cv)):=fun w' g1=>by
  have h:=heap_alloc_new w (.cells #[.int .u8 (K:Int),.int .u8 (M:Int),.int .u8 (X:Int),.int .u16 (P:Int),.int .u16 (Q:Int),.int .u8 (FU:Int),.slice pv nv cv] 45)
  exact ⟨g1.cell (cell_of_row _ _ 0 _ _ _ h) (by simp),g1.cell (cell_of_row _ _ 1 _ _ _ h) (by simp),g1.cell (cell_of_row _ _ 2 _ _ _ h) (by simp),g1.cell (cell_of_row _ _ 3 _ _ _ h) (by simp),g1.cell (cell_of_row _ _ 4 _ _ _ h) (by simp),g1.cell (cell_of_row _ _ 5 _ _ _ h) (by simp),g1.cell (cell_of_row _ _ 6 _ _ _ h) (by simp)⟩
 have GA:Hid (w.grownBy (w.alloc (.cells #[.int .u8 (K:Int),.int .u8 (M:Int),.int .u8 (X:Int),.int .u16 (P:Int),.int .u16 (Q:Int),.int .u8 (FU:Int),.slice pv nv cv] 45)) none):=World.grownBy_alloc w _ none
 clear hv hnv ha1 ha2 hk hm hn hX hFU
 go_enter Tryz.func4,Tryz.ntmps4
 go_wp2_with fail
 obtain ⟨b0,hb0⟩:∃ b,b = w.heap.size:=⟨_,rfl⟩
 rw [<- hb0] at HC0
 (try rw [<- hb0])
 clear hb0
 generalize w.alloc (.cells #[.int .u8 (K:Int),.int .u8 (M:Int),.int .u8 (X:Int),.int .u16 (P:Int),.int .u16 (Q:Int),.int .u8 (FU:Int),.slice pv nv cv] 45) = wb at *
 go_region_held3 (fun w'=>w'.cell? ⟨b0,0,none⟩ = some (.int .u8 (K:Int)) /\ w'.cell? ⟨b0,1,none⟩ = some (.int .u8 (M:Int))) (exact ⟨(HC0.out _ (grown_drewN wb 1)).1,(HC0.out _ (grown_drewN wb 1)).2.1⟩) (fail)
 have HC1:Hid (∀ w',(wb.drewN 1).grownBy w' none -> w'.cell? ⟨b0,0,none⟩ = some (.int .u8 (K:Int)) /\ w'.cell? ⟨b0,1,none⟩ = some (.int .u8 (M:Int)) /\ w'.cell? ⟨b0,2,none⟩ = some (.int .u8 (X:Int)) /\ w'.cell? ⟨b0,3,none⟩ = some (.int .u16 (P:Int)) /\ w'.cell? ⟨b0,4,none⟩ = some (.int .u16 (Q:Int)) /\ w'.cell? ⟨b0,5,none⟩ = some (.int .u8 (FU:Int)) /\ w'.cell? ⟨b0,6,none⟩ = some (.slice pv nv cv)):=fun w' g'=>HC0.out w' (grown_trans (grown_drewN wb 1) g')
 have G1:Hid (w.grownBy (wb.drewN 1) none):=grown_trans GA.out (grown_drewN wb 1)
 have V1:Hid (Vec (wb.drewN 1) (.slice pv nv cv) ps):=HV0.out.keep G1.out
 clear HC0 GA HV0 q1 q2 q1' q2' q3 q4 q5 q6
 have edr:wb.drewN 1 = wb.drew:=rfl
 rw [edr] at HC1 G1 V1
 clear edr
 generalize wb.drew = w1 at *
 have HG:Hid ((bitsTo P m n).length <= m):=bitsTo_len P m n
 have HG2:Hid ((bitsTo Q m n).length <= m):=bitsTo_len Q m n
 go_wp2_with fail
 refine (made8_yes w1 (k:=k) (more:=m) (S:=1) (f:=0) HK.out.1 HK.out.2.2.1 (by have:=HK.out;omega) (by decide) (by decide) (by decide)).mono ?_
 rintro e w2 ⟨s,t,rfl,F,G,a,r,du⟩
 have H:Hid (Run w1 w2 s a (gM9 k m) (AM.Raw.new (k + m) (0 + 8 * 1)) [] []):=du.run
 clear du
 go_wp2_with fail
 refine (wakes9 w2).mono ?_
 rintro e w3 ⟨rfl,gx⟩
 have h3:=H.out.keep gx
 clear gx
 have Hx:Hid (Run w1 w3 s a (gM9 k m) (AM.Raw.new (k + m) (0 + 8 * 1)) [] []):=h3
 clear h3 H
 have H:=Hx
 clear Hx
 have c3:=(HC1.out _ H.out.grown).2.2.1
 go_wp2_with fail
 clear c3
 refine (data_yes w3 (k:=k) (x:=X) HK.out.1 (by have:=HK.out;omega) HK.out.2.2.2.2.2.1).mono ?_
 rintro e w4 ⟨pd,nd,cd,rfl,ox,gx⟩
 have h4:=H.out.addV ox gx
 clear ox gx
 have Hx:Hid (Run w1 w4 s a (gM9 k m) (AM.Raw.new (k + m) (0 + 8 * 1)) [(.slice pd nd cd,datL k X)] []):=h4
 clear h4 H
 have H:=Hx
 clear Hx
 obtain ⟨R1,R2,f1,f2,f3,f4⟩:=SP.calm7 (k:=k) (m:=m) (xs:=datL k X) HK.out.1 HK.out.2.1 HK.out.2.2.1 HK.out.2.2.2.1 (datL_small k X) (datL_len k X)
 have FF:Hid (SP.write (AM.Raw.new (k + m) (0 + 8 * 1)) (gM9 k m) ((0:Nat):Int) 7 (datL k X) = (0,R1) /\ R1.barrier = (0,R2) /\ R2.L = [] /\ SP.Gaps R2 (gM9 k m) 0 7 (datL k X) []):=⟨f1,f2,f3,f4⟩
 clear f1 f2 f3 f4
 go_wp2_with (first | (go_at_call 11;refine H.out.arr.mono ?_;rintro e w9 ⟨rfl,hw9⟩;obtain rfl:=hw9.symm;clear hw9) | fail)
 refine (H.out.write (slot:=((0:Nat):Int)) (m:=7) (by exact Nat.zero_le _) (by simp) FF.out.1).mono ?_
 rintro e w5 ⟨rfl,h5⟩
 have Hx:Hid (Run w1 w5 s a (gM9 k m) R1 [(.slice pd nd cd,datL k X)] []):=h5
 clear h5 H
 have H:=Hx
 clear Hx
 go_wp2_with (first | (go_at_call 11;refine H.out.arr.mono ?_;rintro e w9 ⟨rfl,hw9⟩;obtain rfl:=hw9.symm;clear hw9) | fail)
 refine (H.out.barrier FF.out.2.1).mono ?_
 rintro e w6 ⟨rfl,h6⟩
 have Hx:Hid (Run w1 w6 s a (gM9 k m) R2 [(.slice pd nd cd,datL k X)] []):=h6
 clear h6 H
 have H:=Hx
 clear Hx
 have c3:=(HC1.out _ H.out.grown).2.2.2.1
 go_wp2_with fail
 clear c3
 refine (bits_yes w6 (L:=P) (n:=n) (most:=m) (by have:=HK.out;omega) (by have:=HK.out;omega)).mono ?_
 rintro e w7 ⟨pg,cg,rfl,ox,gx⟩
 obtain ⟨gl,hgl⟩:∃ gl,gl = (bitsTo P m n).length:=⟨_,rfl⟩
 rw [<- hgl] at ox ⊢
 have HGL:Hid (gl = (bitsTo P m n).length):=hgl
 have hglm:gl <= m:=by rw [hgl];exact HG.out
 have q8:IntKind.i64.wrap ((m:Int) - (gl:Int)) = (m:Int) - (gl:Int):=IntWalk.i64_in _ (by omega)
 have h7:=H.out.addN ox gx
 clear ox gx hgl
 have Hx:Hid (Run w1 w7 s a (gM9 k m) R2 [(.slice pd nd cd,datL k X)] [(.slice pg gl cg,SP.ints (bitsTo P m n))]):=h7
 clear h7 H
 have H:=Hx
 clear Hx
 have HS:Hid (∃ R,Run w1 w7 s a (gM9 k m) R [(.slice pd nd cd,datL k X)] [(.slice pg gl cg,SP.ints (bitsTo P m n))] /\ SP.Gaps R (gM9 k m) 0 7 (datL k X) ((bitsTo P m n).take 0) /\ R.L = []):=⟨R2,H.out,by simpa using FF.out.2.2.2,FF.out.2.2.1⟩
 clear H FF
 go_wp2_with fail
 go_loopw [64] (fun ti wr=>∃ j:Nat,j <= gl /\ ti = .int .i64 (j:Int) /\ Hid (∃ R,Run w1 wr s a (gM9 k m) R [(.slice pd nd cd,datL k X)] [(.slice pg gl cg,SP.ints (bitsTo P m n))] /\ SP.Gaps R (gM9 k m) 0 7 (datL k X) ((bitsTo P m n).take j) /\ R.L = [])) (fun ti _=>gl - (intOf ti).toNat)
 case atStart=>exact ⟨0,by omega,rfl,HS⟩
 case round =>
  clear HS
  obtain ⟨j,hj,rfl,HX⟩:=hrel
  obtain ⟨R,hr,hga,hL⟩:=HX.out
  have H:Hid (Run w1 wr s a (gM9 k m) R [(.slice pd nd cd,datL k X)] [(.slice pg gl cg,SP.ints (bitsTo P m n))]):=hr
  have GP:Hid (SP.Gaps R (gM9 k m) 0 7 (datL k X) ((bitsTo P m n).take j) /\ R.L = []):=⟨hga,hL⟩
  clear HX hr hga hL
  by_cases hlt:j < gl
  ·have i3:(j:Int) < (gl:Int):=by omega
   have i4:(0:Int) <= (j:Int):=by omega
   have hjl:j < (bitsTo P m n).length:=by rw [<- HGL.out];exact hlt
   obtain ⟨bb,off,rfl,hc⟩:=(H.out.nums (v:=.slice pg gl cg) (l:=SP.ints (bitsTo P m n)) (by simp)).spot (k:=j) (by rw [SP.ints_len];exact hjl)
   rw [SP.ints_get _ hjl] at hc
   obtain ⟨d,hd⟩:∃ d,d = (bitsTo P m n).getD j 0:=⟨_,rfl⟩
   rw [<- hd] at hc
   have hdn:d < (gM9 k m).n:=by rw [hd];have:=(bitsTo_new hjl).1;have h2:=HK.out.2.2.2.2.1;show _ < k + m;omega
   obtain ⟨r1,r2,_,_,r5,r6,_,_⟩:=SP.renew GP.out.1.ok (GP.out.1.on d hdn)
   have hst:=GP.out.1.step (by show 0 < 1;omega) hdn
   have hap:(bitsTo P m n).take (j + 1) = (bitsTo P m n).take j ++ [d]:=by rw [hd];exact take_more _ hjl
   rw [<- hap] at hst
   have e1:R.lose (d:Int) = (0,(R.lose (d:Int)).2):=Prod.ext r1 rfl
   obtain ⟨Ra,hRa⟩:∃ Ra,Ra = (R.lose (d:Int)).2:=⟨_,rfl⟩
   rw [<- hRa] at e1 r2 r5 r6 hst
   have e2:Ra.replace (d:Int) = (0,(Ra.replace (d:Int)).2):=Prod.ext r2 rfl
   obtain ⟨Rb,hRb⟩:∃ Rb,Rb = (Ra.replace (d:Int)).2:=⟨_,rfl⟩
   rw [<- hRb] at e2 r5 r6 hst
   have HF:Hid (R.lose (d:Int) = (0,Ra) /\ Ra.replace (d:Int) = (0,Rb) /\ SP.Gaps Rb (gM9 k m) 0 7 (datL k X) ((bitsTo P m n).take (j + 1)) /\ Rb.L = [] /\ R.L.length <= 1000000):=⟨e1,e2,hst,r5 GP.out.2,by rw [GP.out.2];exact Nat.zero_le _⟩
   clear e1 e2 hst r1 r2 r5 r6 hap hRa hRb hd hdn hjl GP
   go_wp2_with (first | (go_at_call 11;refine H.out.arr.mono ?_;rintro e w9 ⟨rfl,hw9⟩;obtain rfl:=hw9.symm;clear hw9) | fail)
   clear hc
   refine (H.out.lose (d:=(d:Int)) HF.out.2.2.2.2 HF.out.1).mono ?_
   rintro e wx ⟨rfl,hx⟩
   have Hx:Hid (Run w1 wx s a (gM9 k m) Ra [(.slice pd nd cd,datL k X)] [(.slice (some ⟨bb,off,none⟩) gl cg,SP.ints (bitsTo P m n))]):=hx
   clear hx H
   have H:=Hx
   clear Hx
   go_wp2_with (first | (go_at_call 11;refine H.out.arr.mono ?_;rintro e w9 ⟨rfl,hw9⟩;obtain rfl:=hw9.symm;clear hw9) | fail)
   refine (H.out.replace HF.out.2.1).mono ?_
   rintro e wy ⟨rfl,hy⟩
   have Hx:Hid (Run w1 wy s a (gM9 k m) Rb [(.slice pd nd cd,datL k X)] [(.slice (some ⟨bb,off,none⟩) gl cg,SP.ints (bitsTo P m n))]):=hy
   clear hy H
   have H:=Hx
   clear Hx
   go_wp2
   go_roundw
   case rel=>exact ⟨j + 1,by omega,by go_num,Rb,H.out,HF.out.2.2.1,HF.out.2.2.2.1⟩
   case measure=>simp [intOf];omega
  ·have i3:¬ (j:Int) < (gl:Int):=by omega
   have hjg:j = gl:=by omega
   subst hjg
   have GQ:Hid (SP.Gaps R (gM9 k m) 0 7 (datL k X) (bitsTo P m (k + m)) /\ R.L = []):=by
    have h1:=GP.out.1
    rw [List.take_of_length_le (by rw [HGL.out];exact Nat.le_refl _)] at h1
    rw [<- HK.out.2.2.2.2.1]
    exact ⟨h1,GP.out.2⟩
   clear GP
   have TD:=GQ.out.1.told
   have q9:SP.missL R (gM9 k m) ((0:Nat):Int) 7 = bitsTo P m n:=by rw [TD.1,HK.out.2.2.2.2.1]
   have HT:Hid (SP.missL R (gM9 k m) ((0:Nat):Int) 7 = bitsTo P m n /\ SP.marg R (gM9 k m) ((0:Nat):Int) 7 = (m:Int) - (j:Int) /\ SP.askE R (gM9 k m) ((0:Nat):Int) 7 = 0):=⟨q9,by rw [TD.2.1,HGL.out,HK.out.2.2.2.2.1],TD.2.2.1⟩
   obtain ⟨R4,s1,s2,s3,s4,s5,s6,s7⟩:=(GQ.out.1.half (by decide) (by decide)).slot H.out.raw GQ.out.1.fuse (show 0 < (gM9 k m).s from Nat.one_pos) (by decide)
   have s8:(SP.wants R (gM9 k m) 0 7 (gM9 k m).n).length = j:=by
    show (SP.wants R (gM9 k m) 0 7 (k + m)).length = j
    rw [TD.2.2.2.1,HGL.out,HK.out.2.2.2.2.1]
   rw [s8] at s2
   have s9:=slotM_len R (gM9 k m) ((0:Nat):Int) 7 (datL k X) 0
   rw [s1,GQ.out.2] at s9
   have HS4:Hid (SP.slotM R (gM9 k m) ((0:Nat):Int) 7 (datL k X) 0 = (0,R4) /\ SP.slotN R (gM9 k m) ((0:Nat):Int) 7 (datL k X) 0 = j /\ SP.Wrote R4 (gM9 k m) 0 7 (datL k X) /\ R4.off = false /\ (∀ d,d < k + m -> R4.on (d:Int) = true) /\ (gM9 k m).Ok R4 /\ R4.L.length <= 1000):=⟨s1,s2,s3,s4,s6,s7,by have h9:(gM9 k m).n = k + m:=rfl;rw [h9] at s9;have:=HK.out;simp at s9;omega⟩
   have HRD:Hid (∀ o e,SP.RdP R (gM9 k m) ((0:Nat):Int) 7 o e -> o = datL k X /\ e = 0):=fun o e hr=>(GQ.out.1.half (by decide) (by decide)).read (show 0 < (gM9 k m).s from Nat.one_pos) (by decide) (by decide) (datL_small k X) (datL_len k X) (by
    show k <= (SP.hits R (gM9 k m) 0 7 (k + m)).length
    have h1:=TD.2.2.2.2
    have h2:=bitsTo_len P m (k + m)
    omega) hr
   have HL0:Hid (R.L.length <= 980000):=by show _ <= _;rw [GQ.out.2];exact Nat.zero_le _
   clear TD q9 s1 s2 s3 s4 s5 s6 s7 s8 s9 GQ
   go_wp2_with fail
   have HM:=H.out.missing (slot:=((0:Nat):Int)) (m:=7) HT.out.2.2 HT.out.1
   rw [<- HGL.out] at HM
   refine HM.mono ?_
   clear HM
   rintro e x1 ⟨pl,cl,rfl,hy⟩
   have Hx:Hid (Run w1 x1 s a (gM9 k m) R [(.slice pd nd cd,datL k X)] [(.slice pl j cl,SP.ints (bitsTo P m n)),(.slice pg j cg,SP.ints (bitsTo P m n))]):=hy
   clear hy H
   have H:=Hx
   clear Hx
   go_wp2_with (first | (go_at_call 11;refine H.out.arr.mono ?_;rintro e w9 ⟨rfl,hw9⟩;obtain rfl:=hw9.symm;clear hw9) | fail)
   refine (H.out.margin (slot:=((0:Nat):Int)) (m:=7) HT.out.2.2 HT.out.2.1).mono ?_
   rintro e x2 ⟨rfl,hy⟩
   have Hx:Hid (Run w1 x2 s a (gM9 k m) R [(.slice pd nd cd,datL k X)] [(.slice pl j cl,SP.ints (bitsTo P m n)),(.slice pg j cg,SP.ints (bitsTo P m n))]):=hy
   clear hy H
   have H:=Hx
   clear Hx
   go_wp2_with fail
   refine (equal9_yes (H.out.nums (v:=.slice pl j cl) (l:=SP.ints (bitsTo P m n)) (by simp)) (H.out.nums (v:=.slice pg j cg) (l:=SP.ints (bitsTo P m n)) (by simp)) (by rw [SP.ints_len,<- HGL.out];omega)).mono ?_
   rintro e x3 ⟨rfl,gx⟩
   have hy:=H.out.keep gx
   clear gx
   have Hx:Hid (Run w1 x3 s a (gM9 k m) R [(.slice pd nd cd,datL k X)] [(.slice pl j cl,SP.ints (bitsTo P m n)),(.slice pg j cg,SP.ints (bitsTo P m n))]):=hy
   clear hy H
   have H:=Hx
   clear Hx
   go_wp2_with (first | (go_at_call 11;refine H.out.arr.mono ?_;rintro e w9 ⟨rfl,hw9⟩;obtain rfl:=hw9.symm;clear hw9) | fail)
   refine (H.out.slot (slot:=((0:Nat):Int)) (m:=7) HL0.out HRD.out HS4.out.1 HS4.out.2.1).mono ?_
   rintro e x4 ⟨rfl,hy⟩
   have Hx:Hid (Run w1 x4 s a (gM9 k m) R4 [(.slice pd nd cd,datL k X)] [(.slice pl j cl,SP.ints (bitsTo P m n)),(.slice pg j cg,SP.ints (bitsTo P m n))]):=hy
   clear hy H
   have H:=Hx
   clear Hx
   have W4:=HS4.out.2.2.1.told HS4.out.2.2.2.1 HS4.out.2.2.2.2.1
   have HT4:Hid (SP.missL R4 (gM9 k m) ((0:Nat):Int) 7 = [] /\ SP.marg R4 (gM9 k m) ((0:Nat):Int) 7 = (m:Int) /\ SP.askE R4 (gM9 k m) ((0:Nat):Int) 7 = 0):=W4
   clear W4
   go_wp2_with (first | (go_at_call 11;refine H.out.arr.mono ?_;rintro e w9 ⟨rfl,hw9⟩;obtain rfl:=hw9.symm;clear hw9) | fail)
   refine (H.out.missing (slot:=((0:Nat):Int)) (m:=7) HT4.out.2.2 HT4.out.1).mono ?_
   rintro e x5 ⟨pe,ce,rfl,hy⟩
   have Hx:Hid (Run w1 x5 s a (gM9 k m) R4 [(.slice pd nd cd,datL k X)] [(.slice pe 0 ce,[]),(.slice pl j cl,SP.ints (bitsTo P m n)),(.slice pg j cg,SP.ints (bitsTo P m n))]):=hy
   clear hy H
   have H:=Hx
   clear Hx
   go_wp2_with (first | (go_at_call 11;refine H.out.arr.mono ?_;rintro e w9 ⟨rfl,hw9⟩;obtain rfl:=hw9.symm;clear hw9) | fail)
   refine (H.out.margin (slot:=((0:Nat):Int)) (m:=7) HT4.out.2.2 HT4.out.2.1).mono ?_
   rintro e x6 ⟨rfl,hy⟩
   have Hx:Hid (Run w1 x6 s a (gM9 k m) R4 [(.slice pd nd cd,datL k X)] [(.slice pe 0 ce,[]),(.slice pl j cl,SP.ints (bitsTo P m n)),(.slice pg j cg,SP.ints (bitsTo P m n))]):=hy
   clear hy H
   have H:=Hx
   clear Hx
   have c3:=(HC1.out _ H.out.grown).2.2.2.2.1
   go_wp2_with fail
   clear c3
   refine (bits_yes x6 (L:=Q) (n:=n) (most:=m) (by have:=HK.out;omega) (by have:=HK.out;omega)).mono ?_
   rintro e x7 ⟨pq,cq,rfl,ox,gx⟩
   obtain ⟨ql,hql⟩:∃ ql,ql = (bitsTo Q m n).length:=⟨_,rfl⟩
   rw [<- hql] at ox ⊢
   have HQL:Hid (ql = (bitsTo Q m n).length):=hql
   have hqlm:ql <= m:=by rw [hql];exact HG2.out
   obtain ⟨FF,i7,bs7,hv7,hn7⟩:=H.out.addN ox gx
   have hz:Run w1 x7 s a (gM9 k m) R4 [(.slice pd nd cd,datL k X)] [(.slice pq ql cq,SP.ints (bitsTo Q m n))]:=⟨FF,i7,bs7,hv7,fun p hp=>hn7 p (by
    have hp':=List.mem_singleton.1 hp
    subst hp'
    simp)⟩
   clear ox gx hql i7 bs7 hv7 hn7
   have HS:Hid (∃ R,Run w1 x7 s a (gM9 k m) R [(.slice pd nd cd,datL k X)] [(.slice pq ql cq,SP.ints (bitsTo Q m n))] /\ SP.Left R k m (datL k X) ((bitsTo Q m n).take 0) /\ R.L.length <= 1000):=⟨R4,hz,⟨HS4.out.2.2.1,HS4.out.2.2.2.2.2.1,HS4.out.2.2.2.1,fun d hd _=>HS4.out.2.2.2.2.1 d hd⟩,HS4.out.2.2.2.2.2.2⟩
   clear H hz HS4 HT4 HT HRD HL0
   go_wp2_with fail
   go_loopw [158] (fun ti wr=>∃ i:Nat,i <= ql /\ ti = .int .i64 (i:Int) /\ Hid (∃ R,Run w1 wr s a (gM9 k m) R [(.slice pd nd cd,datL k X)] [(.slice pq ql cq,SP.ints (bitsTo Q m n))] /\ SP.Left R k m (datL k X) ((bitsTo Q m n).take i) /\ R.L.length <= 1000)) (fun ti _=>ql - (intOf ti).toNat)
   case atStart=>exact ⟨0,by omega,rfl,HS⟩
   case round =>
    clear HS
    obtain ⟨i,hi,rfl,HX⟩:=hrel
    obtain ⟨R5,hr,hga,hL⟩:=HX.out
    have H:Hid (Run w1 wr s a (gM9 k m) R5 [(.slice pd nd cd,datL k X)] [(.slice pq ql cq,SP.ints (bitsTo Q m n))]):=hr
    have GP:Hid (SP.Left R5 k m (datL k X) ((bitsTo Q m n).take i) /\ R5.L.length <= 1000):=⟨hga,hL⟩
    clear HX hr hga hL
    by_cases hlt2:i < ql
    ·have i5:(i:Int) < (ql:Int):=by omega
     have i6:(0:Int) <= (i:Int):=by omega
     have hjl:i < (bitsTo Q m n).length:=by rw [<- HQL.out];exact hlt2
     obtain ⟨bb,off,rfl,hc⟩:=(H.out.nums (v:=.slice pq ql cq) (l:=SP.ints (bitsTo Q m n)) (by simp)).spot (k:=i) (by rw [SP.ints_len];exact hjl)
     rw [SP.ints_get _ hjl] at hc
     obtain ⟨d,hd⟩:∃ d,d = (bitsTo Q m n).getD i 0:=⟨_,rfl⟩
     rw [<- hd] at hc
     have hdn:=(bitsTo_new hjl).1
     have hdt:=(bitsTo_new hjl).2
     rw [<- hd] at hdn hdt
     obtain ⟨R6,z1,z2,z3⟩:=GP.out.1.step (d:=d) (by have h2:=HK.out.2.2.2.2.1;omega) hdt
     have hap:(bitsTo Q m n).take (i + 1) = (bitsTo Q m n).take i ++ [d]:=by rw [hd];exact take_more _ hjl
     rw [<- hap] at z2
     have HF:Hid (R5.lose (d:Int) = (0,R6) /\ SP.Left R6 k m (datL k X) ((bitsTo Q m n).take (i + 1)) /\ R6.L.length <= 1000 /\ R5.L.length <= 1000000):=⟨z1,z2,Nat.le_trans z3 GP.out.2,Nat.le_trans GP.out.2 (by decide)⟩
     clear z1 z2 z3 hap hd hdn hdt hjl GP
     go_wp2_with (first | (go_at_call 11;refine H.out.arr.mono ?_;rintro e w9 ⟨rfl,hw9⟩;obtain rfl:=hw9.symm;clear hw9) | fail)
     clear hc
     refine (H.out.lose (d:=(d:Int)) HF.out.2.2.2 HF.out.1).mono ?_
     rintro e wx ⟨rfl,hx⟩
     have Hx:Hid (Run w1 wx s a (gM9 k m) R6 [(.slice pd nd cd,datL k X)] [(.slice (some ⟨bb,off,none⟩) ql cq,SP.ints (bitsTo Q m n))]):=hx
     clear hx H
     have H:=Hx
     clear Hx
     go_wp2
     go_roundw
     case rel=>exact ⟨i + 1,by omega,by go_num,R6,H.out,HF.out.2.1,HF.out.2.2.1⟩
     case measure=>simp [intOf];omega
    ·have i5:¬ (i:Int) < (ql:Int):=by omega
     have HLF:Hid (SP.Left R5 k m (datL k X) (bitsTo Q m (k + m))):=by
      have h1:=GP.out.1
      rw [List.take_of_length_le (by rw [<- HQL.out];omega)] at h1
      show SP.Left R5 k m (datL k X) (bitsTo Q m (k + m))
      rw [<- HK.out.2.2.2.2.1]
      exact h1
     clear GP
     go_wp2_with fail
     refine (H.out.read (slot:=((0:Nat):Int)) (m:=7) (fun o e hr=>HLF.out.read (datL_small k X) (datL_len k X) hr)).mono ?_
     rintro e y1 ⟨p9,n9,c9,rfl,hy⟩
     have cz1:=convert_vec (hy.vec (v:=.slice p9 n9 c9) (xs:=datL k X) (by simp))
     have cz2:=convert_vec (hy.vec (v:=.slice pd nd cd) (xs:=datL k X) (by simp))
     have GZ:Hid (w.grownBy y1 none):=grown_trans G1.out hy.grown
     clear hy H HLF
     generalize strOf (datL k X) = st at *
     go_wp2
     go_ret
     exact ⟨rfl,GZ.out⟩
end Go.Proofs.YtaalagkbpeinkaaGreat.mendWhole
namespace Go.Proofs.YtaalagkbpeinkaaGreat
open Go.ChangeShapes Go.WideShapes Go.ChangeAt Go.RowKit
section
variable {H:Type} {enc:TypeId × Value -> H}
theorem vec_trodL {W:World} {v:Value} {y:DataW H × List MemPlace} {fuel:Nat} (hf:DataW.trod enc Tryz.prog W 0 (fun _=>true) true fuel 31 [v] = some y)
 (hz:∀ elems spare,y.1 = .slice elems spare -> (elems.length + spare.length) * Tryz.prog.bytesOf 5 <= reachBytes):∃ xs,Vec W v xs:=by
 rcases open_ints Tryz.underlying31 Tryz.underlying5 Tryz.cells5 hf with ⟨hcs,_⟩ | ⟨x,l,c,zs,hcs,_,hl,hm,hzz,hx,hcell,hwz⟩
 ·simp at hcs
  subst hcs
  exact ⟨[],by simp,by simp,none,0,rfl,Nat.le_refl _,by decide,fun h=>absurd rfl h⟩
 ·simp at hcs
  subst hcs
  simp only [if_true] at hzz
  have hb:=hz _ _ (by rw [hx])
  rw [Tryz.bytes5] at hb
  simp only [lits,List.length_map,List.length_take,List.length_drop,reachBytes] at hb
  refine ⟨_,vec_of (zs:=zs) hl hm (by omega) (by omega) hwz (by simp) (fun a ha c hc=>?_)⟩
  cases ha
  exact hcell c (by omega)
theorem Tryz.cellsLoss:Tryz.prog.cellsOf 45 = 7:=by kernel_rfl
theorem Tryz.cellsU16:Tryz.prog.cellsOf 43 = 1:=by kernel_rfl
theorem u16_wf {n:Int} (h:(Lit.int .u16 n).wf = true):0 <= n /\ n < 65536:=by
 have:0 <= n /\ n <= 65535:=by simpa [Lit.wf,IntKind.min,IntKind.max,IntKind.signed,IntKind.bits] using h
 omega
theorem loss_arg {W:World} {v:Value} {d:DataW H} {p:List MemPlace} {base:Nat} (hv:Value.okWide Tryz.prog W .any base 45 v) (h:DataW.Trod enc Tryz.prog W 0 (fun _=>true) true 45 v d p)
 (hz:∀ n ∈ d.weights Tryz.prog 45,n <= reachBytes) :
 ∃ (K M X P Q F:Nat) (x:Value) (ps:List Nat),v = .agg #[.int .u8 (K:Int),.int .u8 (M:Int),.int .u8 (X:Int),.int .u16 (P:Int),.int .u16 (Q:Int),.int .u8 (F:Int),x] /\ K < 256 /\ M < 256 /\ X < 256 /\ P < 65536 /\ Q < 65536 /\ F < 256 /\ Vec W x ps:=by
 obtain ⟨cs,rfl,hsz⟩:=okWide_struct Tryz.underlying45 hv
 have h8:=hsz.trans Tryz.cellsLoss
 obtain ⟨l⟩:=cs
 obtain ⟨fuel,hf⟩:=h
 obtain ⟨q,n,_,hx,hl,hlen,hff⟩:=DataW.trod_struct Tryz.underlying45 hf
 match l,h8 with
 | [c0,c1,c2,c3,c4,c5,c6],_ =>
 match q,hlen with
 | [y0,y1,y2,y3,y4,y5,y6],_ =>
 have t0:=hff 0 _ rfl
 have t1:=hff 1 _ rfl
 have t2:=hff 2 _ rfl
 have t3:=hff 3 _ rfl
 have t4:=hff 4 _ rfl
 have t5:=hff 5 _ rfl
 have t6:=hff 6 _ rfl
 simp [Value.cells,Tryz.cells5] at t0 t1 t2 t5
 simp [Value.cells,Tryz.cellsU16] at t3 t4
 simp [Value.cells,Tryz.cells22] at t6
 simp at hx
 obtain ⟨rfl,rfl⟩:=hx
 simp [DataW.weights,Tryz.underlying45,DataW.weightsEach] at hz
 obtain ⟨K,e0,_,w0⟩:=DataW.trod_int Tryz.underlying5 t0
 obtain ⟨M,e1,_,w1⟩:=DataW.trod_int Tryz.underlying5 t1
 obtain ⟨X,e2,_,w2⟩:=DataW.trod_int Tryz.underlying5 t2
 obtain ⟨P,e3,_,w3⟩:=DataW.trod_int Tryz.underlying43 t3
 obtain ⟨Q,e4,_,w4⟩:=DataW.trod_int Tryz.underlying43 t4
 obtain ⟨F,e5,_,w5⟩:=DataW.trod_int Tryz.underlying5 t5
 simp at e0 e1 e2 e3 e4 e5
 subst e0 e1 e2 e3 e4 e5
 have b0:=byte_wf w0
 have b1:=byte_wf w1
 have b2:=byte_wf w2
 have b3:=u16_wf w3
 have b4:=u16_wf w4
 have b5:=byte_wf w5
 obtain ⟨K,rfl⟩:=Int.eq_ofNat_of_zero_le b0.1
 obtain ⟨M,rfl⟩:=Int.eq_ofNat_of_zero_le b1.1
 obtain ⟨X,rfl⟩:=Int.eq_ofNat_of_zero_le b2.1
 obtain ⟨P,rfl⟩:=Int.eq_ofNat_of_zero_le b3.1
 obtain ⟨Q,rfl⟩:=Int.eq_ofNat_of_zero_le b4.1
 obtain ⟨F,rfl⟩:=Int.eq_ofNat_of_zero_le b5.1
 have key:∀ {y:DataW H × List MemPlace},(∀ n ∈ y.1.weights Tryz.prog 31,n <= reachBytes) -> ∀ elems spare,y.1 = .slice elems spare -> (elems.length + spare.length) * Tryz.prog.bytesOf 5 <= reachBytes:=fun hw elems spare e=>hw _ (by rw [e];simp [DataW.weights,Tryz.underlying31])
 obtain ⟨ps,vp⟩:=vec_trodL t6 (key fun n hn=>hz n (by simp [hn]))
 exact ⟨K,M,X,P,Q,F,_,ps,rfl,by omega,by omega,by omega,by omega,by omega,by omega,vp⟩
end
end Go.Proofs.YtaalagkbpeinkaaGreat
