/- Packed: PlaysW8. -/
import Derived.Test.YtfjlpifaaknmpaaGreatSp27
set_option linter.unusedSimpArgs false
set_option linter.unusedVariables false
set_option maxRecDepth 100000
namespace Go.Proofs.YtfjlpifaaknmpaaGreat
open Go.RowKit
def Stopp8 (p:Prop):Prop:=p
theorem stopp8 {p:Prop} (h:Stopp8 p):p:=h
theorem small_uP (K:Int) (n:Nat) (h0:0 < n) (h1:n <= 1000):∃ u a:Nat,a < n /\ IntKind.u64.wrap K = (u:Int) /\ ((u:Int)).tmod (n:Int) = (a:Int) /\ IntKind.u64.wrap (a:Int) = (a:Int) /\ IntKind.i64.wrap (a:Int) = (a:Int) /\ IntKind.i64.wrap (1 + (a:Int)) = ((1 + a:Nat):Int):=by
 obtain ⟨u,hu⟩:∃ u:Nat,IntKind.u64.wrap K = (u:Int):=by
  rw [IntKind.wrap_u64]
  exact ⟨(K % 18446744073709551616).toNat,by omega⟩
 have hlt:u % n < n:=Nat.mod_lt _ h0
 refine ⟨u,u % n,hlt,hu,rfl,by rw [IntKind.wrap_u64];omega,IntWalk.i64_in _ (by omega),?_⟩
 have e:(1:Int) + ((u % n:Nat):Int) = ((1 + u % n:Nat):Int):=by omega
 rw [e]
 exact IntWalk.i64_in _ (by omega)
namespace stripePlays
set_option maxHeartbeats 51200000 in
theorem walk {w:World} {pK pM pS:Int} {v:Value} {l:List ActR8} (hl:Acts8 w v l):Calls Tryz.prog 3 #[.agg #[.int .i64 pK,.int .i64 pM,.int .i64 pS,v]] w fun e w'=>e = .returned (.bool true) /\ w.grownBy w' none:=by
 obtain ⟨p,N,cap,rfl,hN⟩:=hl.opened
 have HA:Hid (Acts8 w (.slice p N cap) l):=hl
 have HN:Hid (N = l.length):=hN
 have hNb:N <= 140737488351232:=by rw [hN];exact hl.len
 have zA:=run_zeroAct8
 obtain ⟨ZR,hZR⟩:∃ ZR:Array Value,ZR = #[.int .i64 0,.int .i64 0,.int .i64 0,.int .u64 0,.int .u8 0,.slice none 0 0,.bool false]:=⟨_,rfl⟩
 rw [<- hZR] at zA
 have HZ:Hid (ZR.size = 7):=by show _ = _;rw [hZR];rfl
 obtain ⟨u1,a1,ha1,e11,e12,e13,e14,e15⟩:=small_uP pK 4 (by decide) (by decide)
 obtain ⟨u2,a2,ha2,e21,e22,e23,e24,e25⟩:=small_uP pM 3 (by decide) (by decide)
 obtain ⟨u3,a3,ha3,e31,e32,e33,e34,e35⟩:=small_uP pS 4 (by decide) (by decide)
 obtain ⟨k,hk⟩:∃ d,d = 1 + a1:=⟨_,rfl⟩
 obtain ⟨m,hm⟩:∃ d,d = 1 + a2:=⟨_,rfl⟩
 obtain ⟨sn,hsn⟩:∃ d,d = 1 + a3:=⟨_,rfl⟩
 rw [<- hk] at e15
 rw [<- hm] at e25
 rw [<- hsn] at e35
 have q1:((u1:Int)).tmod 4 = (a1:Int):=e12
 have q2:((u2:Int)).tmod 3 = (a2:Int):=e22
 have q3:((u3:Int)).tmod 4 = (a3:Int):=e32
 obtain ⟨f,hf⟩:∃ f,f = k % 6:=⟨_,rfl⟩
 have q4:((k:Int)).tmod 6 = (f:Int):=by rw [hf];rfl
 have q5:IntKind.i64.wrap (f:Int) = (f:Int):=IntWalk.i64_in _ (by omega)
 have HKK:Hid (1 <= k /\ k <= 4 /\ 1 <= m /\ m <= 3 /\ 1 <= sn /\ sn <= 4 /\ f <= 5):=⟨by omega,by omega,by omega,by omega,by omega,by omega,by omega⟩
 have HC0:Hid (∀ w',(w.alloc (.cells #[.int .i64 pK,.int .i64 pM,.int .i64 pS,.slice p N cap] 24)).grownBy w' none -> w'.cell? ⟨w.heap.size,0,none⟩ = some (.int .i64 pK) /\ w'.cell? ⟨w.heap.size,1,none⟩ = some (.int .i64 pM) /\ w'.cell? ⟨w.heap.size,2,none⟩ = some (.int .i64 pS) /\ w'.cell? ⟨w.heap.size,3,none⟩ = some (.slice p N cap)):=fun w' g1=>by
  have h:=heap_alloc_new w (.cells #[.int .i64 pK,.int .i64 pM,.int .i64 pS,.slice p N cap] 24)
  exact ⟨g1.cell (cell_of_row _ _ 0 _ _ _ h) (by simp),g1.cell (cell_of_row _ _ 1 _ _ _ h) (by simp),g1.cell (cell_of_row _ _ 2 _ _ _ h) (by simp),g1.cell (cell_of_row _ _ 3 _ _ _ h) (by simp)⟩
 have GA:Hid (w.grownBy (w.alloc (.cells #[.int .i64 pK,.int .i64 pM,.int .i64 pS,.slice p N cap] 24)) none):=World.grownBy_alloc w _ none
 have AW:Hid (Calls Tryz.prog 6 #[] (w.alloc (.cells #[.int .i64 pK,.int .i64 pM,.int .i64 pS,.slice p N cap] 24)) fun e w'=>e = .returned (.bool true) /\ (w.alloc (.cells #[.int .i64 pK,.int .i64 pM,.int .i64 pS,.slice p N cap] 24)).grownBy w' none):=awake8 _
 clear hl hN hZR hk hm hsn hf ha1 ha2 ha3 e12 e22 e32
 go_enter Tryz.func3,Tryz.ntmps3
 go_wp2_with fail
 refine AW.out.mono ?_
 rintro e w1 ⟨rfl,g1⟩
 have HC1:Hid (∀ w',w1.grownBy w' none -> w'.cell? ⟨w.heap.size,0,none⟩ = some (.int .i64 pK) /\ w'.cell? ⟨w.heap.size,1,none⟩ = some (.int .i64 pM) /\ w'.cell? ⟨w.heap.size,2,none⟩ = some (.int .i64 pS) /\ w'.cell? ⟨w.heap.size,3,none⟩ = some (.slice p N cap)):=fun w' g'=>HC0.out w' (grown_trans g1 g')
 have G1:Hid (w.grownBy w1 none):=grown_trans GA.out g1
 clear g1 HC0 GA AW
 obtain ⟨b0,hb0⟩:∃ b,b = w.heap.size:=⟨_,rfl⟩
 rw [<- hb0] at HC1
 (try rw [<- hb0])
 clear hb0
 go_wp2_with fail
 go_region_held3 (fun w'=>w'.cell? ⟨b0,0,none⟩ = some (.int .i64 pK) /\ w'.cell? ⟨b0,1,none⟩ = some (.int .i64 pM) /\ w'.cell? ⟨b0,2,none⟩ = some (.int .i64 pS) /\ w'.cell? ⟨b0,3,none⟩ = some (.slice p N cap)) (exact HC1.out _ (grown_drewN w1 1)) (fail)
 have MD:Hid (Calls Tryz.prog 7 #[.int .i64 (k:Int),.int .i64 (m:Int),.int .i64 (sn:Int),.int .i64 (f:Int)] (w1.drewN 1) fun e w'=>∃ s t,e = .returned (.tuple #[ptr s,.pointer (some ⟨t,0,none⟩)]) /\ ∃ F G a r,Duo F G (w1.drewN 1) w' s a t r ⟨k,k + m,sn,f⟩ (AM.Raw.new (k + m) (f + 8 * sn))):=made8_yes (w1.drewN 1) (k:=k) (more:=m) (S:=sn) (f:=f) HKK.out.1 HKK.out.2.2.1 (by have:=HKK.out;omega) HKK.out.2.2.2.2.1 (by have:=HKK.out;omega) (by have:=HKK.out;omega)
 clear HC1
 go_wp2_with fail
 refine MD.out.mono ?_
 rintro e w3 ⟨s,t,rfl,F1,G2,a,r,du⟩
 have DT:Hid (∀ (w':World) (x:Nat),x < 256 -> Calls Tryz.prog 10 #[.int .i64 (k:Int),.int .u8 (x:Int)] w' fun e w''=>∃ p n c,e = .returned (.slice p n c) /\ Own w'.heap.size w'' (.slice p n c) (datL k x) /\ w'.grownBy w'' none):=fun w' x hx=>data_yes w' HKK.out.1 (by have:=HKK.out;omega) hx
 obtain ⟨g,hg⟩:∃ g:SP.Geo,g = ⟨k,k + m,sn,f⟩:=⟨_,rfl⟩
 rw [<- hg] at du
 have P3:Hid (Pair F1 G2 w w3 s a t r g (AM.Raw.new (k + m) (f + 8 * sn)) (AM.Raw.new (k + m) (f + 8 * sn))):=du.pair.down (grown_trans G1.out (grown_drewN w1 1))
 have HGN:Hid (g.n <= 12):=by show _ <= _;rw [hg];show k + m <= 12;have:=HKK.out;omega
 have L0:Hid ((AM.Raw.new (k + m) (f + 8 * sn)).L.length <= 0):=Nat.le_refl _
 clear du MD G1 q1 q2 q3 q4 q5 e11 e13 e14 e15 e21 e23 e24 e25 e31 e33 e34 e35 hg
 generalize AM.Raw.new (k + m) (f + 8 * sn) = R0 at *
 have SG:Hid (∀ w',w3.grownBy w' none -> w'.cell? ⟨t,1,none⟩ = some (.int .i64 (g.k:Int)) /\ w'.cell? ⟨t,2,none⟩ = some (.int .i64 (g.n:Int)) /\ w'.cell? ⟨t,3,none⟩ = some (.int .i64 (g.s:Int))):=fun w' g'=>⟨(P3.out.keep g').j.at2,(P3.out.keep g').j.at3,(P3.out.keep g').j.at4⟩
 go_wp2_with fail
 go_region_held3 (fun w'=>w'.cell? ⟨t,1,none⟩ = some (.int .i64 (g.k:Int)) /\ w'.cell? ⟨t,2,none⟩ = some (.int .i64 (g.n:Int)) /\ w'.cell? ⟨t,3,none⟩ = some (.int .i64 (g.s:Int))) (first | exact SG.out _ (grown_drewN w3 1) | exact SG.out _ G7.out)
  ((go_at_call 8;refine (sgeo_yes (P3.out.keep (grown_drewN w3 1)).i).mono ?_;rintro e w7 ⟨rfl,g7⟩;have G7:Hid (w3.grownBy w7 none):=grown_trans (grown_drewN w3 1) g7;clear g7))
 go_wp2_with (first | (go_at_call 9;refine (sarray_yes (P3.out.keep G7.out).i).mono ?_;rintro e w9 ⟨rfl,hw9⟩;obtain rfl:=hw9.symm;clear hw9) | fail)
 have HX3:Hid (PlyS w w7 s a t r g (100 * 0)):=⟨F1,G2,_,P3.out.keep G7.out,L0.out⟩
 clear P3 SG G7 L0
 go_loopw [77] (fun ti wr=>∃ i:Nat,i <= N /\ ti = .int .i64 (i:Int) /\ i <= 60 /\ Hid (PlyS w wr s a t r g (100 * i))) (fun ti _=>N - (intOf ti).toNat)
 case atStart=>exact ⟨0,by omega,rfl,by omega,HX3⟩
 case round =>
  clear HX3
  obtain ⟨i,hi,rfl,h60,HX⟩:=hrel
  by_cases hlt:i < N
  ·have i1:(i:Int) < (N:Int):=by omega
   have hil:i < l.length:=by rw [<- HN.out];exact hlt
   have hokw:=HA.out.ok l[i] (List.getElem_mem hil)
   obtain ⟨b,off,rfl,hrg,hok⟩:=(HA.out.keep HX.out.grown).at hil
   obtain ⟨c,hce⟩:∃ c,c = l[i]:=⟨_,rfl⟩
   rw [<- hce] at hrg hok hokw
   obtain ⟨AR,hla⟩:=laid8 hrg hok
   obtain ⟨WH,D,K,M,X,bval,bs,SH⟩:=c
   have hvb:Vec wr bval bs:=hok.vec
   have hvw:Vec w bval bs:=hokw.vec
   obtain ⟨pb,nb,mb,rfl,hnb⟩:=hvb.opened
   have HLA:Hid (Laid8 wr b (off + i * 7) wr.heap.size AR ⟨WH,D,K,M,X,.slice pb nb mb,bs,SH⟩):=hla
   have HOKW:Hid (ActOk8 w ⟨WH,D,K,M,X,.slice pb nb mb,bs,SH⟩):=hokw
   have HBV:Hid (Vec w (.slice pb nb mb) bs):=hvw
   clear hrg hla hce hok hokw hvb hvw hnb
   by_cases hi60:i = 60
   ·clear HOKW HBV
    subst hi60
    go_wp2_with (first | (refine wpList_load_act8 rfl _ rfl rfl HLA.out ?_) | (refine wpList_store_act8 rfl _ _ rfl HLA.out HZ.out rfl rfl rfl ?_;intro w9 hh hg;have HVV:Hid (Var8 w9 wr.heap.size ⟨WH,D,K,M,X,.slice pb nb mb,bs,SH⟩):=⟨by rw [hh,HLA.out.ar]⟩;have HG9:Hid (wr.grownBy w9 none):=hg;have cw:=HVV.out.cell.1;have cc1:=HVV.out.cell.2.1;have cc2:=HVV.out.cell.2.2.1;have cc3:=HVV.out.cell.2.2.2.1;have cc4:=HVV.out.cell.2.2.2.2.1;have cc5:=HVV.out.cell.2.2.2.2.2.1;have cc6:=HVV.out.cell.2.2.2.2.2.2;clear hh hg) | fail)
    have HGG:Hid (w.grownBy w9 none):=grown_trans HX.out.grown HG9.out
    clear HX HVV HLA
    go_ret
    exact ⟨rfl,HGG.out⟩
   ·have i60:¬ (i:Int) = 60:=by omega
    have HI:Hid (i <= 60):=h60
    have HLN:Hid (100 * (i + 1) <= 1000000):=by show _ <= _;omega
    obtain ⟨F,G,R,h1,h2⟩:=HX.out
    have HT:Hid (Pair F G w wr s a t r g R R):=h1
    have HLL:Hid (R.L.length <= 100 * i):=h2
    have HL6:Hid (R.L.length <= 1000000):=by show _ <= _;omega
    have HL9:Hid (R.L.length <= 990000):=by show _ <= _;omega
    clear h1 h2 HX
    by_cases g0:WH = 0
    ·subst g0
     as_aux_lemma =>
      go_wp2_with (first | (refine wpList_load_act8 rfl _ rfl rfl HLA.out ?_) | (refine wpList_store_act8 rfl _ _ rfl HLA.out HZ.out rfl rfl rfl ?_;intro w9 hh hg;have HVV:Hid (Var8 w9 wr.heap.size ⟨0,D,K,M,X,.slice pb nb mb,bs,SH⟩):=⟨by rw [hh,HLA.out.ar]⟩;have HG9:Hid (wr.grownBy w9 none):=hg;have cw:=HVV.out.cell.1;have cc1:=HVV.out.cell.2.1;have cc2:=HVV.out.cell.2.2.1;have cc3:=HVV.out.cell.2.2.2.1;have cc4:=HVV.out.cell.2.2.2.2.1;have cc5:=HVV.out.cell.2.2.2.2.2.1;have cc6:=HVV.out.cell.2.2.2.2.2.2;clear hh hg) | fail)
      obtain ⟨bk,hbk⟩:∃ bk,bk = wr.heap.size:=⟨_,rfl⟩
      have T9:Hid (Pair F G w w9 s a t r g R R):=HT.out.keep HG9.out
      have NB:Hid (¬ F bk /\ ¬ G bk):=⟨fun hf=>(by have:=HT.out.i.i.lt _ hf;omega),fun hf=>(by have:=HT.out.j.glt _ hf;omega)⟩
      rw [<- hbk] at HVV cw cc1 cc2 cc3 cc4 cc5 cc6 ⊢
      clear hbk
      clear cw cc1 cc2 cc3 cc4 cc5 cc6
      have HX:Hid (X < 256):=HOKW.out.x
      refine (DT.out w9 X HX.out).mono ?_
      rintro e w10 ⟨p10,n10,m10,rfl,ho,hg⟩
      have hlen:=datL_len k X
      obtain ⟨b10,rfl,z1,z2,z3,z4,z5,z6⟩:=ho.spot (k:=0) (by rw [hlen];have:=HKK.out.1;omega)
      clear z1 z2 z3 z4 z5 z6
      have A9:Hid (Aw2 F G w10 (.slice (some ⟨b10,0,none⟩) n10 m10) (datL k X)):=T9.out.own ho
      have T10:Hid (Pair F G w w10 s a t r g R R):=T9.out.keep hg
      have V10:Hid (Var8 w10 bk ⟨0,D,K,M,X,.slice pb nb mb,bs,SH⟩):=HVV.out.keep hg
      have HNN:Hid (n10 = k * 448 /\ n10 <= m10 /\ 448 <= n10):=by
       obtain ⟨p',cap',e,h3,_⟩:=ho.vec.form
       injection e with e1 e2 e3
       have:=HKK.out.1
       exact ⟨by rw [e2,hlen],by omega,by rw [e2,hlen];omega⟩
      have d6:=V10.out.cell.2.2.2.2.2.2
      clear ho hg hlen T9 HVV
      cases SH
      ·have A10:Hid (Aw2 F G w10 (.slice (some ⟨b10,0,none⟩) n10 m10) (datL k X)):=A9.out
       clear A9 HNN
       go_wp2_with (first | (at_builtin;refine stopp8 ?_) | fail)
       clear d6
       unfold Stopp8
       have HGA:Hid (w10.grownBy (w10.alloc (.cells #[] 5)) none):=World.grownBy_alloc _ _ none
       have HE9:Hid (Own w10.heap.size (w10.alloc (.cells #[] 5)) (.slice (some ⟨w10.heap.size,0,none⟩) 0 0) []):=own_lit (xs:=[]) (heap_alloc_new w10 _) (Nat.le_refl _) rfl (by simp) (by simp)
       have HVA:Hid (Vec (w10.alloc (.cells #[] 5)) (.slice (some ⟨b10,0,none⟩) n10 m10) (datL k X)):=A10.out.a.vec.keep HGA.out
       refine wpList_append_vec rfl _ _ rfl _ _ rfl rfl HE9.out HVA.out (by simp) (by have:=HVA.out.len;simpa using this) ?_
       intro v11 w11 ho hg
       rw [List.nil_append] at ho
       obtain ⟨p11,n11,m11,rfl,hq⟩:=ho.vec.opened
       have G11:Hid (w10.grownBy w11 none):=grown_new HGA.out hg (fun i e=>by have e2:w10.heap.size = i:=Option.some.inj e;omega)
       have T11:Hid (Pair F G w w11 s a t r g R R):=T10.out.keep G11.out
       have V11:Hid (Var8 w11 bk ⟨0,D,K,M,X,.slice pb nb mb,bs,false⟩):=V10.out.keep G11.out
       have A11:Hid (Aw2 F G w11 (.slice (some ⟨b10,0,none⟩) n10 m10) (datL k X) /\ Aw2 F G w11 (.slice p11 n11 m11) (datL k X)):=⟨A10.out.keep G11.out,T10.out.own ho⟩
       clear ho hg hq HGA HE9 HVA A10 T10 V10
       obtain ⟨cA,hcA⟩:∃ cA:Int,(((SP.write R g K M (datL k X)).1:Nat):Int) = cA:=⟨_,rfl⟩
       have PA:Hid (Calls Tryz.prog 11 #[ptr s,.int .i64 K,.int .u64 (M:Int),.slice p11 n11 m11] (w11.drewN 1) fun e w'=>e = .returned (.int .i64 cA) /\ ∃ F',Pair F' G w w' s a t r g (SP.write R g K M (datL k X)).2 R /\ Step F (w11.drewN 1) F' w'):=by
        have TT:=T11.out.keep (grown_drewN w11 1)
        have h:=swrite_all TT.i K M (A11.out.2.keep (grown_drewN w11 1)).a HL9.out
        rw [hcA] at h
        refine h.mono ?_
        rintro e w' ⟨rfl,F',i',st⟩
        exact ⟨rfl,F',TT.stepA i' st,st⟩
       have PB:Hid (∀ (F':Nat -> Prop) (w1:World),Pair F' G w w1 s a t r g (SP.write R g K M (datL k X)).2 R -> Aw2 F' G w1 (.slice (some ⟨b10,0,none⟩) n10 m10) (datL k X) -> Calls Tryz.prog 12 #[tptr t,.int .i64 K,.int .u64 (M:Int),.slice (some ⟨b10,0,none⟩) n10 m10] w1 fun e w'=>e = .returned (.int .i64 cA) /\ ∃ G',PlyS w w' s a t r g (100 * (i + 1)) /\ Step G w1 G' w'):=fun F' w1 p1 hv=>by
        have h:=rswrite_all p1.j K M HOKW.out.mark hv.b HL9.out
        rw [hcA] at h
        refine h.mono ?_
        rintro e w' ⟨rfl,G',j',st⟩
        exact ⟨rfl,G',⟨F',G',_,p1.stepB j' st,by have h1:=HLL.out;have h2:=SP.write_len (R:=R) (g:=g) K M (datL k X) writes_len8;have h3:=HGN.out;omega⟩,st⟩
       clear hcA
       have HS11:Hid ((w11.drewN 1).cell? ⟨bk,2,none⟩ = some (.int .i64 K) /\ (w11.drewN 1).cell? ⟨bk,3,none⟩ = some (.int .u64 (M:Int))):=⟨(V11.out.keep (grown_drewN w11 1)).cell.2.2.1,(V11.out.keep (grown_drewN w11 1)).cell.2.2.2.1⟩
       go_wp2_with fail
       go_region_held3 (fun w'=>w'.cell? ⟨bk,2,none⟩ = some (.int .i64 K) /\ w'.cell? ⟨bk,3,none⟩ = some (.int .u64 (M:Int))) (first | exact HS11.out | exact ⟨V12.out.cell.2.2.1,V12.out.cell.2.2.2.1⟩ | exact ⟨HV13.out.cell.2.2.1,HV13.out.cell.2.2.2.1⟩)
        ((first
          | (go_at_call 11;refine PA.out.mono ?_;rintro e w12 ⟨rfl,F12,p12,st⟩;have P12:Hid (Pair F12 G w w12 s a t r g (SP.write R g K M (datL k X)).2 R):=p12;have V12:Hid (Var8 w12 bk ⟨0,D,K,M,X,.slice pb nb mb,bs,false⟩):=((V11.out.keep (grown_drewN w11 1)).step st NB.out.1).1;have A12:Hid (Aw2 F12 G w12 (.slice (some ⟨b10,0,none⟩) n10 m10) (datL k X) /\ Aw2 F12 G w12 (.slice p11 n11 m11) (datL k X)):=⟨(A11.out.1.keep (grown_drewN w11 1)).stepA st,(A11.out.2.keep (grown_drewN w11 1)).stepA st⟩;clear p12 st)
          | (go_at_call 12;refine (PB.out _ _ P12.out A12.out.1).mono ?_;rintro e w13 ⟨rfl,G13,hp,st⟩;have HP13:Hid (PlyS w w13 s a t r g (100 * (i + 1))):=hp;have HV13:Hid (Var8 w13 bk ⟨0,D,K,M,X,.slice pb nb mb,bs,false⟩):=(V12.out.step st NB.out.2).1;have A13:Hid (Vec w13 (.slice (some ⟨b10,0,none⟩) n10 m10) (datL k X) /\ Vec w13 (.slice p11 n11 m11) (datL k X)):=⟨(A12.out.1.stepB st).a.vec,(A12.out.2.stepB st).a.vec⟩;clear hp st)
          | (go_at_call 13;refine (equal_at A13.out.2 A13.out.1 rfl).mono ?_;rintro e w19 ⟨rfl,hw⟩;obtain rfl:=hw.symm;clear hw)))
       clear PA PB P12 V12 A12 A13 A11 V11 HS11 T11
       have HS99:Hid (∀ w',w13.grownBy w' none -> w'.cell? ⟨t,0,none⟩ = some (rptr r) /\ w'.cell? ⟨bk,5,none⟩ = some (.slice pb nb mb)):=fun w' g'=>⟨(HP13.out.keep g').top,(HV13.out.keep g').cell.2.2.2.2.2.1⟩
       go_wp2_with fail
       go_region_held3 (fun w'=>w'.cell? ⟨t,0,none⟩ = some (rptr r) /\ w'.cell? ⟨bk,5,none⟩ = some (.slice pb nb mb)) (first | exact HS99.out _ (grown_drewN w13 1) | exact HS99.out _ G99.out)
        ((go_at_call 38;refine (plyS_alike (HP13.out.keep (grown_drewN w13 1)) HLN.out HBV.out).mono ?_;rintro e w99 ⟨rfl,hg99⟩;have G99:Hid (w13.grownBy w99 none):=grown_trans (grown_drewN w13 1) hg99;clear hg99))
       go_wp2
       go_roundw
       case rel=>exact ⟨i + 1,by omega,by go_num,by omega,HP13.out.keep G99.out⟩
       case measure=>simp [intOf];omega
      ·have hdl:=datL_len k X
       obtain ⟨n1,hn1⟩:∃ n1,n1 = n10 - 1:=⟨_,rfl⟩
       obtain ⟨m1,hm1⟩:∃ m1,m1 = m10 - 1:=⟨_,rfl⟩
       have A10:Hid (Aw2 F G w10 (.slice (some ⟨b10,1,none⟩) n1 m1) ((datL k X).drop 1)):=by
        have h:=A9.out.tail (m:=1) (by rw [hdl];have:=HKK.out.1;omega) (by intro e;rw [e] at hdl;simp at hdl;have:=HKK.out.1;omega)
        rw [<- hn1,<- hm1] at h
        exact h
       have hsl:∀ W,(Instr.slice 40 (.slice (some ⟨b10,0,none⟩) n10 m10) (some (.int .i64 1)) none none).run Tryz.prog W = .ok (.slice (some ⟨b10,1,none⟩) n1 m1) W:=fun W=>by
        have h:=slice_from (b:=b10) (off:=0) (n:=n10) (c:=m10) (lo:=1) (by have:=HNN.out;omega) HNN.out.2.1 (by have:=HNN.out;omega) W
        rw [<- hn1,<- hm1] at h
        exact h
       obtain ⟨XS,hXS⟩:∃ XS,XS = (datL k X).drop 1:=⟨_,rfl⟩
       rw [<- hXS] at A10
       clear A9 HNN hn1 hm1 hdl hXS
       go_wp2_with (first | (at_builtin;refine stopp8 ?_) | fail)
       clear d6 hsl
       unfold Stopp8
       have HGA:Hid (w10.grownBy (w10.alloc (.cells #[] 5)) none):=World.grownBy_alloc _ _ none
       have HE9:Hid (Own w10.heap.size (w10.alloc (.cells #[] 5)) (.slice (some ⟨w10.heap.size,0,none⟩) 0 0) []):=own_lit (xs:=[]) (heap_alloc_new w10 _) (Nat.le_refl _) rfl (by simp) (by simp)
       have HVA:Hid (Vec (w10.alloc (.cells #[] 5)) (.slice (some ⟨b10,1,none⟩) n1 m1) XS):=A10.out.a.vec.keep HGA.out
       refine wpList_append_vec rfl _ _ rfl _ _ rfl rfl HE9.out HVA.out (by simp) (by have:=HVA.out.len;simpa using this) ?_
       intro v11 w11 ho hg
       rw [List.nil_append] at ho
       obtain ⟨p11,n11,m11,rfl,hq⟩:=ho.vec.opened
       have G11:Hid (w10.grownBy w11 none):=grown_new HGA.out hg (fun i e=>by have e2:w10.heap.size = i:=Option.some.inj e;omega)
       have T11:Hid (Pair F G w w11 s a t r g R R):=T10.out.keep G11.out
       have V11:Hid (Var8 w11 bk ⟨0,D,K,M,X,.slice pb nb mb,bs,true⟩):=V10.out.keep G11.out
       have A11:Hid (Aw2 F G w11 (.slice (some ⟨b10,1,none⟩) n1 m1) XS /\ Aw2 F G w11 (.slice p11 n11 m11) XS):=⟨A10.out.keep G11.out,T10.out.own ho⟩
       clear ho hg hq HGA HE9 HVA A10 T10 V10
       obtain ⟨cA,hcA⟩:∃ cA:Int,(((SP.write R g K M XS).1:Nat):Int) = cA:=⟨_,rfl⟩
       have PA:Hid (Calls Tryz.prog 11 #[ptr s,.int .i64 K,.int .u64 (M:Int),.slice p11 n11 m11] (w11.drewN 1) fun e w'=>e = .returned (.int .i64 cA) /\ ∃ F',Pair F' G w w' s a t r g (SP.write R g K M XS).2 R /\ Step F (w11.drewN 1) F' w'):=by
        have TT:=T11.out.keep (grown_drewN w11 1)
        have h:=swrite_all TT.i K M (A11.out.2.keep (grown_drewN w11 1)).a HL9.out
        rw [hcA] at h
        refine h.mono ?_
        rintro e w' ⟨rfl,F',i',st⟩
        exact ⟨rfl,F',TT.stepA i' st,st⟩
       have PB:Hid (∀ (F':Nat -> Prop) (w1:World),Pair F' G w w1 s a t r g (SP.write R g K M XS).2 R -> Aw2 F' G w1 (.slice (some ⟨b10,1,none⟩) n1 m1) XS -> Calls Tryz.prog 12 #[tptr t,.int .i64 K,.int .u64 (M:Int),.slice (some ⟨b10,1,none⟩) n1 m1] w1 fun e w'=>e = .returned (.int .i64 cA) /\ ∃ G',PlyS w w' s a t r g (100 * (i + 1)) /\ Step G w1 G' w'):=fun F' w1 p1 hv=>by
        have h:=rswrite_all p1.j K M HOKW.out.mark hv.b HL9.out
        rw [hcA] at h
        refine h.mono ?_
        rintro e w' ⟨rfl,G',j',st⟩
        exact ⟨rfl,G',⟨F',G',_,p1.stepB j' st,by have h1:=HLL.out;have h2:=SP.write_len (R:=R) (g:=g) K M XS writes_len8;have h3:=HGN.out;omega⟩,st⟩
       clear hcA
       have HS11:Hid ((w11.drewN 1).cell? ⟨bk,2,none⟩ = some (.int .i64 K) /\ (w11.drewN 1).cell? ⟨bk,3,none⟩ = some (.int .u64 (M:Int))):=⟨(V11.out.keep (grown_drewN w11 1)).cell.2.2.1,(V11.out.keep (grown_drewN w11 1)).cell.2.2.2.1⟩
       go_wp2_with fail
       go_region_held3 (fun w'=>w'.cell? ⟨bk,2,none⟩ = some (.int .i64 K) /\ w'.cell? ⟨bk,3,none⟩ = some (.int .u64 (M:Int))) (first | exact HS11.out | exact ⟨V12.out.cell.2.2.1,V12.out.cell.2.2.2.1⟩ | exact ⟨HV13.out.cell.2.2.1,HV13.out.cell.2.2.2.1⟩)
        ((first
          | (go_at_call 11;refine PA.out.mono ?_;rintro e w12 ⟨rfl,F12,p12,st⟩;have P12:Hid (Pair F12 G w w12 s a t r g (SP.write R g K M XS).2 R):=p12;have V12:Hid (Var8 w12 bk ⟨0,D,K,M,X,.slice pb nb mb,bs,true⟩):=((V11.out.keep (grown_drewN w11 1)).step st NB.out.1).1;have A12:Hid (Aw2 F12 G w12 (.slice (some ⟨b10,1,none⟩) n1 m1) XS /\ Aw2 F12 G w12 (.slice p11 n11 m11) XS):=⟨(A11.out.1.keep (grown_drewN w11 1)).stepA st,(A11.out.2.keep (grown_drewN w11 1)).stepA st⟩;clear p12 st)
          | (go_at_call 12;refine (PB.out _ _ P12.out A12.out.1).mono ?_;rintro e w13 ⟨rfl,G13,hp,st⟩;have HP13:Hid (PlyS w w13 s a t r g (100 * (i + 1))):=hp;have HV13:Hid (Var8 w13 bk ⟨0,D,K,M,X,.slice pb nb mb,bs,true⟩):=(V12.out.step st NB.out.2).1;have A13:Hid (Vec w13 (.slice (some ⟨b10,1,none⟩) n1 m1) XS /\ Vec w13 (.slice p11 n11 m11) XS):=⟨(A12.out.1.stepB st).a.vec,(A12.out.2.stepB st).a.vec⟩;clear hp st)
          | (go_at_call 13;refine (equal_at A13.out.2 A13.out.1 rfl).mono ?_;rintro e w19 ⟨rfl,hw⟩;obtain rfl:=hw.symm;clear hw)))
       clear PA PB P12 V12 A12 A13 A11 V11 HS11 T11
       have HS99:Hid (∀ w',w13.grownBy w' none -> w'.cell? ⟨t,0,none⟩ = some (rptr r) /\ w'.cell? ⟨bk,5,none⟩ = some (.slice pb nb mb)):=fun w' g'=>⟨(HP13.out.keep g').top,(HV13.out.keep g').cell.2.2.2.2.2.1⟩
       go_wp2_with fail
       go_region_held3 (fun w'=>w'.cell? ⟨t,0,none⟩ = some (rptr r) /\ w'.cell? ⟨bk,5,none⟩ = some (.slice pb nb mb)) (first | exact HS99.out _ (grown_drewN w13 1) | exact HS99.out _ G99.out)
        ((go_at_call 38;refine (plyS_alike (HP13.out.keep (grown_drewN w13 1)) HLN.out HBV.out).mono ?_;rintro e w99 ⟨rfl,hg99⟩;have G99:Hid (w13.grownBy w99 none):=grown_trans (grown_drewN w13 1) hg99;clear hg99))
       go_wp2
       go_roundw
       case rel=>exact ⟨i + 1,by omega,by go_num,by omega,HP13.out.keep G99.out⟩
       case measure=>simp [intOf];omega
    ·skip
     by_cases g1:WH = 1
     ·subst g1
      as_aux_lemma =>
       go_wp2_with (first | (refine wpList_load_act8 rfl _ rfl rfl HLA.out ?_) | (refine wpList_store_act8 rfl _ _ rfl HLA.out HZ.out rfl rfl rfl ?_;intro w9 hh hg;have HVV:Hid (Var8 w9 wr.heap.size ⟨1,D,K,M,X,.slice pb nb mb,bs,SH⟩):=⟨by rw [hh,HLA.out.ar]⟩;have HG9:Hid (wr.grownBy w9 none):=hg;have cw:=HVV.out.cell.1;have cc1:=HVV.out.cell.2.1;have cc2:=HVV.out.cell.2.2.1;have cc3:=HVV.out.cell.2.2.2.1;have cc4:=HVV.out.cell.2.2.2.2.1;have cc5:=HVV.out.cell.2.2.2.2.2.1;have cc6:=HVV.out.cell.2.2.2.2.2.2;clear hh hg) | fail)
       obtain ⟨bk,hbk⟩:∃ bk,bk = wr.heap.size:=⟨_,rfl⟩
       have T9:Hid (Pair F G w w9 s a t r g R R):=HT.out.keep HG9.out
       have NB:Hid (¬ F bk /\ ¬ G bk):=⟨fun hf=>(by have:=HT.out.i.i.lt _ hf;omega),fun hf=>(by have:=HT.out.j.glt _ hf;omega)⟩
       rw [<- hbk] at HVV cw cc1 cc2 cc3 cc4 cc5 cc6 ⊢
       clear hbk
       clear cw cc1 cc2 cc3 cc4 cc5 cc6
       refine (sread_all T9.out.i K M).mono ?_
       rintro e w11 ⟨v1,er,out,rfl,hr,ho,hg⟩
       obtain ⟨p11,n11,m11,rfl,hq⟩:=ho.vec.opened
       have R11:Hid (SP.RdP R g K M out er):=hr
       have S11:Hid (Vec w11 (.slice p11 n11 m11) out):=ho.vec
       have T11:Hid (Pair F G w w11 s a t r g R R):=T9.out.keep hg
       have V11:Hid (Var8 w11 bk ⟨1,D,K,M,X,.slice pb nb mb,bs,SH⟩):=HVV.out.keep hg
       have d2:=V11.out.cell.2.2.1
       have d3:=V11.out.cell.2.2.2.1
       clear hr ho hg hq T9 HVV
       go_wp2_with fail
       clear d2 d3
       refine (rsread_all T11.out.j HL6.out K M).mono ?_
       rintro e w12 ⟨v2,er2,out2,rfl,hr,ho,hg⟩
       obtain ⟨rfl,rfl⟩:=SP.Rd.one T11.out.i.ok R11.out hr
       obtain ⟨p12,n12,m12,rfl,hq⟩:=ho.vec.opened
       have S12:Hid (Vec w12 (.slice p11 n11 m11) out2 /\ Vec w12 (.slice p12 n12 m12) out2):=⟨S11.out.keep hg,ho.vec⟩
       have HV12:Hid (Var8 w12 bk ⟨1,D,K,M,X,.slice pb nb mb,bs,SH⟩):=V11.out.keep hg
       have HP12:Hid (PlyS w w12 s a t r g (100 * (i + 1))):=⟨F,G,R,T11.out.keep hg,Nat.le_trans HLL.out (by omega)⟩
       clear hr ho hg hq S11 R11 T11 V11
       go_wp2_with fail
       refine (equal_at S12.out.1 S12.out.2 rfl).mono ?_
       rintro e w19 ⟨rfl,hw⟩
       obtain rfl:=hw.symm
       clear hw S12
       have HS99:Hid (∀ w',w12.grownBy w' none -> w'.cell? ⟨t,0,none⟩ = some (rptr r) /\ w'.cell? ⟨bk,5,none⟩ = some (.slice pb nb mb)):=fun w' g'=>⟨(HP12.out.keep g').top,(HV12.out.keep g').cell.2.2.2.2.2.1⟩
       go_wp2_with fail
       go_region_held3 (fun w'=>w'.cell? ⟨t,0,none⟩ = some (rptr r) /\ w'.cell? ⟨bk,5,none⟩ = some (.slice pb nb mb)) (first | exact HS99.out _ (grown_drewN w12 1) | exact HS99.out _ G99.out)
        ((go_at_call 38;refine (plyS_alike (HP12.out.keep (grown_drewN w12 1)) HLN.out HBV.out).mono ?_;rintro e w99 ⟨rfl,hg99⟩;have G99:Hid (w12.grownBy w99 none):=grown_trans (grown_drewN w12 1) hg99;clear hg99))
       go_wp2
       go_roundw
       case rel=>exact ⟨i + 1,by omega,by go_num,by omega,HP12.out.keep G99.out⟩
       case measure=>simp [intOf];omega
     ·skip
      by_cases g2:WH = 2
      ·subst g2
       as_aux_lemma =>
        go_wp2_with (first | (refine wpList_load_act8 rfl _ rfl rfl HLA.out ?_) | (refine wpList_store_act8 rfl _ _ rfl HLA.out HZ.out rfl rfl rfl ?_;intro w9 hh hg;have HVV:Hid (Var8 w9 wr.heap.size ⟨2,D,K,M,X,.slice pb nb mb,bs,SH⟩):=⟨by rw [hh,HLA.out.ar]⟩;have HG9:Hid (wr.grownBy w9 none):=hg;have cw:=HVV.out.cell.1;have cc1:=HVV.out.cell.2.1;have cc2:=HVV.out.cell.2.2.1;have cc3:=HVV.out.cell.2.2.2.1;have cc4:=HVV.out.cell.2.2.2.2.1;have cc5:=HVV.out.cell.2.2.2.2.2.1;have cc6:=HVV.out.cell.2.2.2.2.2.2;clear hh hg) | fail)
        obtain ⟨bk,hbk⟩:∃ bk,bk = wr.heap.size:=⟨_,rfl⟩
        have T9:Hid (Pair F G w w9 s a t r g R R):=HT.out.keep HG9.out
        have NB:Hid (¬ F bk /\ ¬ G bk):=⟨fun hf=>(by have:=HT.out.i.i.lt _ hf;omega),fun hf=>(by have:=HT.out.j.glt _ hf;omega)⟩
        rw [<- hbk] at HVV cw cc1 cc2 cc3 cc4 cc5 cc6 ⊢
        clear hbk
        clear cw cc1 cc2 cc3 cc4 cc5 cc6
        have HX:Hid (X < 256):=HOKW.out.x
        have HGA:Hid (w9.grownBy (w9.alloc (.cells #[.int .u8 (X:Int)] 5)) none):=World.grownBy_alloc _ _ none
        have HOX:Hid (Vec (w9.alloc (.cells #[.int .u8 (X:Int)] 5)) (.slice (some ⟨w9.heap.size,0,none⟩) 1 1) [X]):=(own_lit (B:=0) (xs:=[X]) (heap_alloc_new w9 _) (by omega) rfl (by simpa using HX.out) (by simp)).vec
        refine (repeat448_yes HOX.out).mono ?_
        rintro e w10 ⟨b10,rfl,hp,hg⟩
        have A9:Hid (Aw2 F G w10 (.slice (some ⟨b10,0,none⟩) 448 448) (rv X)):=(T9.out.keep HGA.out).part hp
        have T10:Hid (Pair F G w w10 s a t r g R R):=(T9.out.keep HGA.out).keep hg
        have V10:Hid (Var8 w10 bk ⟨2,D,K,M,X,.slice pb nb mb,bs,SH⟩):=(HVV.out.keep HGA.out).keep hg
        have d6:=V10.out.cell.2.2.2.2.2.2
        clear hp hg HGA HOX T9 HVV
        cases SH
        ·have A10:Hid (Aw2 F G w10 (.slice (some ⟨b10,0,none⟩) 448 448) (rv X)):=A9.out
         clear A9
         go_wp2_with fail
         clear d6
         obtain ⟨cA,hcA⟩:∃ cA:Int,(((SP.put R g D K M (rv X)).1:Nat):Int) = cA:=⟨_,rfl⟩
         have PA:Hid (Calls Tryz.prog 17 #[ptr s,.int .i64 D,.int .i64 K,.int .u64 (M:Int),.slice (some ⟨b10,0,none⟩) 448 448] (w10.drewN 1) fun e w'=>e = .returned (.int .i64 cA) /\ ∃ F',Pair F' G w w' s a t r g (SP.put R g D K M (rv X)).2 R /\ Step F (w10.drewN 1) F' w'):=by
          have TT:=T10.out.keep (grown_drewN w10 1)
          have h:=sput_all TT.i D K M (A10.out.keep (grown_drewN w10 1)).a.vec HL9.out
          rw [hcA] at h
          refine h.mono ?_
          rintro e w' ⟨rfl,F',i',st⟩
          exact ⟨rfl,F',TT.stepA i' st,st⟩
         have PB:Hid (∀ (F':Nat -> Prop) (w1:World),Pair F' G w w1 s a t r g (SP.put R g D K M (rv X)).2 R -> Aw2 F' G w1 (.slice (some ⟨b10,0,none⟩) 448 448) (rv X) -> Calls Tryz.prog 18 #[tptr t,.int .i64 D,.int .i64 K,.int .u64 (M:Int),.slice (some ⟨b10,0,none⟩) 448 448] w1 fun e w'=>e = .returned (.int .i64 cA) /\ ∃ G',PlyS w w' s a t r g (100 * (i + 1)) /\ Step G w1 G' w'):=fun F' w1 p1 hv=>by
          have h:=rsPut_all p1.j D K M HOKW.out.mark hv.b.vec HL9.out
          rw [hcA] at h
          refine h.mono ?_
          rintro e w' ⟨rfl,G',j',st⟩
          exact ⟨rfl,G',⟨F',G',_,p1.stepB j' st,by have h1:=HLL.out;have h2:=put_len R g D K M (rv X);omega⟩,st⟩
         clear hcA
         have HS10:Hid ((w10.drewN 1).cell? ⟨bk,1,none⟩ = some (.int .i64 D) /\ (w10.drewN 1).cell? ⟨bk,2,none⟩ = some (.int .i64 K) /\ (w10.drewN 1).cell? ⟨bk,3,none⟩ = some (.int .u64 (M:Int))):=⟨(V10.out.keep (grown_drewN w10 1)).cell.2.1,(V10.out.keep (grown_drewN w10 1)).cell.2.2.1,(V10.out.keep (grown_drewN w10 1)).cell.2.2.2.1⟩
         go_region_held3 (fun w'=>w'.cell? ⟨bk,1,none⟩ = some (.int .i64 D) /\ w'.cell? ⟨bk,2,none⟩ = some (.int .i64 K) /\ w'.cell? ⟨bk,3,none⟩ = some (.int .u64 (M:Int))) (first | exact HS10.out | exact ⟨V12.out.cell.2.1,V12.out.cell.2.2.1,V12.out.cell.2.2.2.1⟩ | exact ⟨HV13.out.cell.2.1,HV13.out.cell.2.2.1,HV13.out.cell.2.2.2.1⟩)
          ((first
            | (go_at_call 17;refine PA.out.mono ?_;rintro e w12 ⟨rfl,F12,p12,st⟩;have P12:Hid (Pair F12 G w w12 s a t r g (SP.put R g D K M (rv X)).2 R):=p12;have V12:Hid (Var8 w12 bk ⟨2,D,K,M,X,.slice pb nb mb,bs,false⟩):=((V10.out.keep (grown_drewN w10 1)).step st NB.out.1).1;have A12:Hid (Aw2 F12 G w12 (.slice (some ⟨b10,0,none⟩) 448 448) (rv X)):=(A10.out.keep (grown_drewN w10 1)).stepA st;clear p12 st)
            | (go_at_call 18;refine (PB.out _ _ P12.out A12.out).mono ?_;rintro e w13 ⟨rfl,G13,hp,st⟩;have HP13:Hid (PlyS w w13 s a t r g (100 * (i + 1))):=hp;have HV13:Hid (Var8 w13 bk ⟨2,D,K,M,X,.slice pb nb mb,bs,false⟩):=(V12.out.step st NB.out.2).1;clear hp st)))
         clear PA PB P12 V12 A12 A10 V10 HS10 T10
         have HS99:Hid (∀ w',w13.grownBy w' none -> w'.cell? ⟨t,0,none⟩ = some (rptr r) /\ w'.cell? ⟨bk,5,none⟩ = some (.slice pb nb mb)):=fun w' g'=>⟨(HP13.out.keep g').top,(HV13.out.keep g').cell.2.2.2.2.2.1⟩
         go_wp2_with fail
         go_region_held3 (fun w'=>w'.cell? ⟨t,0,none⟩ = some (rptr r) /\ w'.cell? ⟨bk,5,none⟩ = some (.slice pb nb mb)) (first | exact HS99.out _ (grown_drewN w13 1) | exact HS99.out _ G99.out)
          ((go_at_call 38;refine (plyS_alike (HP13.out.keep (grown_drewN w13 1)) HLN.out HBV.out).mono ?_;rintro e w99 ⟨rfl,hg99⟩;have G99:Hid (w13.grownBy w99 none):=grown_trans (grown_drewN w13 1) hg99;clear hg99))
         go_wp2
         go_roundw
         case rel=>exact ⟨i + 1,by omega,by go_num,by omega,HP13.out.keep G99.out⟩
         case measure=>simp [intOf];omega
        ·have A10:Hid (Aw2 F G w10 (.slice (some ⟨b10,1,none⟩) 447 447) ((rv X).drop 1)):=A9.out.tail (m:=1) (by rw [rv_len];decide) (by intro e;have:=congrArg List.length e;rw [rv_len] at this;simp at this)
         have hsl:∀ W,(Instr.slice 40 (.slice (some ⟨b10,0,none⟩) 448 448) (some (.int .i64 1)) none none).run Tryz.prog W = .ok (.slice (some ⟨b10,1,none⟩) 447 447) W:=fun W=>slice_from (b:=b10) (off:=0) (n:=448) (c:=448) (lo:=1) (by decide) (by decide) (by decide) W
         obtain ⟨XS,hXS⟩:∃ XS,XS = (rv X).drop 1:=⟨_,rfl⟩
         rw [<- hXS] at A10
         clear A9 hXS
         go_wp2_with fail
         clear d6 hsl
         obtain ⟨cA,hcA⟩:∃ cA:Int,(((SP.put R g D K M XS).1:Nat):Int) = cA:=⟨_,rfl⟩
         have PA:Hid (Calls Tryz.prog 17 #[ptr s,.int .i64 D,.int .i64 K,.int .u64 (M:Int),.slice (some ⟨b10,1,none⟩) 447 447] (w10.drewN 1) fun e w'=>e = .returned (.int .i64 cA) /\ ∃ F',Pair F' G w w' s a t r g (SP.put R g D K M XS).2 R /\ Step F (w10.drewN 1) F' w'):=by
          have TT:=T10.out.keep (grown_drewN w10 1)
          have h:=sput_all TT.i D K M (A10.out.keep (grown_drewN w10 1)).a.vec HL9.out
          rw [hcA] at h
          refine h.mono ?_
          rintro e w' ⟨rfl,F',i',st⟩
          exact ⟨rfl,F',TT.stepA i' st,st⟩
         have PB:Hid (∀ (F':Nat -> Prop) (w1:World),Pair F' G w w1 s a t r g (SP.put R g D K M XS).2 R -> Aw2 F' G w1 (.slice (some ⟨b10,1,none⟩) 447 447) XS -> Calls Tryz.prog 18 #[tptr t,.int .i64 D,.int .i64 K,.int .u64 (M:Int),.slice (some ⟨b10,1,none⟩) 447 447] w1 fun e w'=>e = .returned (.int .i64 cA) /\ ∃ G',PlyS w w' s a t r g (100 * (i + 1)) /\ Step G w1 G' w'):=fun F' w1 p1 hv=>by
          have h:=rsPut_all p1.j D K M HOKW.out.mark hv.b.vec HL9.out
          rw [hcA] at h
          refine h.mono ?_
          rintro e w' ⟨rfl,G',j',st⟩
          exact ⟨rfl,G',⟨F',G',_,p1.stepB j' st,by have h1:=HLL.out;have h2:=put_len R g D K M XS;omega⟩,st⟩
         clear hcA
         have HS10:Hid ((w10.drewN 1).cell? ⟨bk,1,none⟩ = some (.int .i64 D) /\ (w10.drewN 1).cell? ⟨bk,2,none⟩ = some (.int .i64 K) /\ (w10.drewN 1).cell? ⟨bk,3,none⟩ = some (.int .u64 (M:Int))):=⟨(V10.out.keep (grown_drewN w10 1)).cell.2.1,(V10.out.keep (grown_drewN w10 1)).cell.2.2.1,(V10.out.keep (grown_drewN w10 1)).cell.2.2.2.1⟩
         go_region_held3 (fun w'=>w'.cell? ⟨bk,1,none⟩ = some (.int .i64 D) /\ w'.cell? ⟨bk,2,none⟩ = some (.int .i64 K) /\ w'.cell? ⟨bk,3,none⟩ = some (.int .u64 (M:Int))) (first | exact HS10.out | exact ⟨V12.out.cell.2.1,V12.out.cell.2.2.1,V12.out.cell.2.2.2.1⟩ | exact ⟨HV13.out.cell.2.1,HV13.out.cell.2.2.1,HV13.out.cell.2.2.2.1⟩)
          ((first
            | (go_at_call 17;refine PA.out.mono ?_;rintro e w12 ⟨rfl,F12,p12,st⟩;have P12:Hid (Pair F12 G w w12 s a t r g (SP.put R g D K M XS).2 R):=p12;have V12:Hid (Var8 w12 bk ⟨2,D,K,M,X,.slice pb nb mb,bs,true⟩):=((V10.out.keep (grown_drewN w10 1)).step st NB.out.1).1;have A12:Hid (Aw2 F12 G w12 (.slice (some ⟨b10,1,none⟩) 447 447) XS):=(A10.out.keep (grown_drewN w10 1)).stepA st;clear p12 st)
            | (go_at_call 18;refine (PB.out _ _ P12.out A12.out).mono ?_;rintro e w13 ⟨rfl,G13,hp,st⟩;have HP13:Hid (PlyS w w13 s a t r g (100 * (i + 1))):=hp;have HV13:Hid (Var8 w13 bk ⟨2,D,K,M,X,.slice pb nb mb,bs,true⟩):=(V12.out.step st NB.out.2).1;clear hp st)))
         clear PA PB P12 V12 A12 A10 V10 HS10 T10
         have HS99:Hid (∀ w',w13.grownBy w' none -> w'.cell? ⟨t,0,none⟩ = some (rptr r) /\ w'.cell? ⟨bk,5,none⟩ = some (.slice pb nb mb)):=fun w' g'=>⟨(HP13.out.keep g').top,(HV13.out.keep g').cell.2.2.2.2.2.1⟩
         go_wp2_with fail
         go_region_held3 (fun w'=>w'.cell? ⟨t,0,none⟩ = some (rptr r) /\ w'.cell? ⟨bk,5,none⟩ = some (.slice pb nb mb)) (first | exact HS99.out _ (grown_drewN w13 1) | exact HS99.out _ G99.out)
          ((go_at_call 38;refine (plyS_alike (HP13.out.keep (grown_drewN w13 1)) HLN.out HBV.out).mono ?_;rintro e w99 ⟨rfl,hg99⟩;have G99:Hid (w13.grownBy w99 none):=grown_trans (grown_drewN w13 1) hg99;clear hg99))
         go_wp2
         go_roundw
         case rel=>exact ⟨i + 1,by omega,by go_num,by omega,HP13.out.keep G99.out⟩
         case measure=>simp [intOf];omega
      ·skip
       by_cases g3:WH = 3
       ·subst g3
        as_aux_lemma =>
         go_wp2_with (first | (refine wpList_load_act8 rfl _ rfl rfl HLA.out ?_) | (refine wpList_store_act8 rfl _ _ rfl HLA.out HZ.out rfl rfl rfl ?_;intro w9 hh hg;have HVV:Hid (Var8 w9 wr.heap.size ⟨3,D,K,M,X,.slice pb nb mb,bs,SH⟩):=⟨by rw [hh,HLA.out.ar]⟩;have HG9:Hid (wr.grownBy w9 none):=hg;have cw:=HVV.out.cell.1;have cc1:=HVV.out.cell.2.1;have cc2:=HVV.out.cell.2.2.1;have cc3:=HVV.out.cell.2.2.2.1;have cc4:=HVV.out.cell.2.2.2.2.1;have cc5:=HVV.out.cell.2.2.2.2.2.1;have cc6:=HVV.out.cell.2.2.2.2.2.2;clear hh hg) | fail)
         obtain ⟨bk,hbk⟩:∃ bk,bk = wr.heap.size:=⟨_,rfl⟩
         have T9:Hid (Pair F G w w9 s a t r g R R):=HT.out.keep HG9.out
         have NB:Hid (¬ F bk /\ ¬ G bk):=⟨fun hf=>(by have:=HT.out.i.i.lt _ hf;omega),fun hf=>(by have:=HT.out.j.glt _ hf;omega)⟩
         rw [<- hbk] at HVV cw cc1 cc2 cc3 cc4 cc5 cc6 ⊢
         clear hbk
         clear cw cc1 cc2 cc3 cc4 cc5 cc6
         obtain ⟨hb,hhb⟩:∃ hb,hb = SP.hasV R g D K M:=⟨_,rfl⟩
         obtain ⟨he,hhe⟩:∃ he,he = SP.hasE R g D K M:=⟨_,rfl⟩
         have QA:Hid (Calls Tryz.prog 19 #[ptr s,.int .i64 D,.int .i64 K,.int .u64 (M:Int)] w9 fun e w'=>e = .returned (.tuple #[.bool hb,.int .i64 (he:Int)]) /\ w9.grownBy w' none):=by
          rw [hhb,hhe];exact shas_all T9.out.i D K M
         have QB:Hid (∀ (w1:World),w9.grownBy w1 none -> Calls Tryz.prog 20 #[tptr t,.int .i64 D,.int .i64 K,.int .u64 (M:Int)] w1 fun e w'=>e = .returned (.tuple #[.bool hb,.int .i64 (he:Int)]) /\ w1.grownBy w' none):=fun w1 g1=>by
          rw [hhb,hhe];exact rshas_all (T9.out.keep g1).j HL6.out D K M
         clear hhb hhe
         refine QA.out.mono ?_
         rintro e w11 ⟨rfl,hg⟩
         have G11:Hid (w9.grownBy w11 none):=hg
         have V11:Hid (Var8 w11 bk ⟨3,D,K,M,X,.slice pb nb mb,bs,SH⟩):=HVV.out.keep hg
         have d1:=V11.out.cell.2.1
         have d2:=V11.out.cell.2.2.1
         have d3:=V11.out.cell.2.2.2.1
         clear hg QA
         go_wp2_with fail
         clear d1 d2 d3
         refine (QB.out _ G11.out).mono ?_
         rintro e w12 ⟨rfl,hg⟩
         have HV12:Hid (Var8 w12 bk ⟨3,D,K,M,X,.slice pb nb mb,bs,SH⟩):=V11.out.keep hg
         have HP12:Hid (PlyS w w12 s a t r g (100 * (i + 1))):=⟨F,G,R,T9.out.keep (grown_trans G11.out hg),Nat.le_trans HLL.out (by omega)⟩
         clear hg QB V11 G11 T9 HVV
         have HS99:Hid (∀ w',w12.grownBy w' none -> w'.cell? ⟨t,0,none⟩ = some (rptr r) /\ w'.cell? ⟨bk,5,none⟩ = some (.slice pb nb mb)):=fun w' g'=>⟨(HP12.out.keep g').top,(HV12.out.keep g').cell.2.2.2.2.2.1⟩
         go_wp2_with fail
         go_region_held3 (fun w'=>w'.cell? ⟨t,0,none⟩ = some (rptr r) /\ w'.cell? ⟨bk,5,none⟩ = some (.slice pb nb mb)) (first | exact HS99.out _ (grown_drewN w12 1) | exact HS99.out _ G99.out)
          ((go_at_call 38;refine (plyS_alike (HP12.out.keep (grown_drewN w12 1)) HLN.out HBV.out).mono ?_;rintro e w99 ⟨rfl,hg99⟩;have G99:Hid (w12.grownBy w99 none):=grown_trans (grown_drewN w12 1) hg99;clear hg99))
         go_wp2
         go_roundw
         case rel=>exact ⟨i + 1,by omega,by go_num,by omega,HP12.out.keep G99.out⟩
         case measure=>simp [intOf];omega
       ·skip
        by_cases g4:WH = 4
        ·subst g4
         as_aux_lemma =>
          go_wp2_with (first | (refine wpList_load_act8 rfl _ rfl rfl HLA.out ?_) | (refine wpList_store_act8 rfl _ _ rfl HLA.out HZ.out rfl rfl rfl ?_;intro w9 hh hg;have HVV:Hid (Var8 w9 wr.heap.size ⟨4,D,K,M,X,.slice pb nb mb,bs,SH⟩):=⟨by rw [hh,HLA.out.ar]⟩;have HG9:Hid (wr.grownBy w9 none):=hg;have cw:=HVV.out.cell.1;have cc1:=HVV.out.cell.2.1;have cc2:=HVV.out.cell.2.2.1;have cc3:=HVV.out.cell.2.2.2.1;have cc4:=HVV.out.cell.2.2.2.2.1;have cc5:=HVV.out.cell.2.2.2.2.2.1;have cc6:=HVV.out.cell.2.2.2.2.2.2;clear hh hg) | fail)
          obtain ⟨bk,hbk⟩:∃ bk,bk = wr.heap.size:=⟨_,rfl⟩
          have T9:Hid (Pair F G w w9 s a t r g R R):=HT.out.keep HG9.out
          have NB:Hid (¬ F bk /\ ¬ G bk):=⟨fun hf=>(by have:=HT.out.i.i.lt _ hf;omega),fun hf=>(by have:=HT.out.j.glt _ hf;omega)⟩
          rw [<- hbk] at HVV cw cc1 cc2 cc3 cc4 cc5 cc6 ⊢
          clear hbk
          clear cw cc1 cc2 cc3 cc4 cc5 cc6
          obtain ⟨y,hy⟩:∃ y,y = SP.why R g K:=⟨_,rfl⟩
          obtain ⟨wv,hwv⟩:∃ wv,wv = SP.wholeV R g K:=⟨_,rfl⟩
          obtain ⟨hv,hhv⟩:∃ hv,hv = SP.hiN R g K:=⟨_,rfl⟩
          have Q1:Hid (∀ (w1:World),w9.grownBy w1 none -> Calls Tryz.prog 21 #[ptr s,.int .i64 K] w1 fun e w'=>e = .returned (.tuple #[.int .u64 (wv:Int),.int .i64 (y:Int)]) /\ w1.grownBy w' none):=fun w1 g1=>by
           rw [hy,hwv];exact swhole_all (T9.out.keep g1).i K HGN.out
          have Q2:Hid (∀ (w1:World),w9.grownBy w1 none -> Calls Tryz.prog 22 #[tptr t,.int .i64 K] w1 fun e w'=>e = .returned (.tuple #[.int .u64 (wv:Int),.int .i64 (y:Int)]) /\ w1.grownBy w' none):=fun w1 g1=>by
           rw [hy,hwv];exact rswhole_all (T9.out.keep g1).j HL6.out K
          have Q3:Hid (∀ (w1:World),w9.grownBy w1 none -> Calls Tryz.prog 23 #[ptr s,.int .i64 K] w1 fun e w'=>e = .returned (.tuple #[.int .u64 (hv:Int),.int .i64 (y:Int)]) /\ w1.grownBy w' none):=fun w1 g1=>by
           rw [hy,hhv];exact shigh_all (T9.out.keep g1).i K
          have Q4:Hid (∀ (w1:World),w9.grownBy w1 none -> Calls Tryz.prog 24 #[tptr t,.int .i64 K] w1 fun e w'=>e = .returned (.tuple #[.int .u64 (hv:Int),.int .i64 (y:Int)]) /\ w1.grownBy w' none):=fun w1 g1=>by
           rw [hy,hhv];exact rshigh_all (T9.out.keep g1).j HL6.out K
          clear hy hwv hhv
          refine (Q1.out _ (World.grownBy.refl _ _)).mono ?_
          rintro e w11 ⟨rfl,hg⟩
          have G11:Hid (w9.grownBy w11 none):=hg
          have d2:=(HVV.out.keep G11.out).cell.2.2.1
          clear hg
          go_wp2_with fail
          clear d2
          refine (Q2.out _ G11.out).mono ?_
          rintro e w12 ⟨rfl,hg⟩
          have G12:Hid (w9.grownBy w12 none):=grown_trans G11.out hg
          have d2:=(HVV.out.keep G12.out).cell.2.2.1
          clear hg
          go_wp2_with fail
          clear d2
          refine (Q3.out _ G12.out).mono ?_
          rintro e w13 ⟨rfl,hg⟩
          have G13:Hid (w9.grownBy w13 none):=grown_trans G12.out hg
          have d2:=(HVV.out.keep G13.out).cell.2.2.1
          clear hg
          go_wp2_with fail
          clear d2
          refine (Q4.out _ G13.out).mono ?_
          rintro e w14 ⟨rfl,hg⟩
          have HV14:Hid (Var8 w14 bk ⟨4,D,K,M,X,.slice pb nb mb,bs,SH⟩):=HVV.out.keep (grown_trans G13.out hg)
          have HP14:Hid (PlyS w w14 s a t r g (100 * (i + 1))):=⟨F,G,R,T9.out.keep (grown_trans G13.out hg),Nat.le_trans HLL.out (by omega)⟩
          clear hg Q1 Q2 Q3 Q4 G11 G12 G13 T9 HVV
          have HS99:Hid (∀ w',w14.grownBy w' none -> w'.cell? ⟨t,0,none⟩ = some (rptr r) /\ w'.cell? ⟨bk,5,none⟩ = some (.slice pb nb mb)):=fun w' g'=>⟨(HP14.out.keep g').top,(HV14.out.keep g').cell.2.2.2.2.2.1⟩
          go_wp2_with fail
          go_region_held3 (fun w'=>w'.cell? ⟨t,0,none⟩ = some (rptr r) /\ w'.cell? ⟨bk,5,none⟩ = some (.slice pb nb mb)) (first | exact HS99.out _ (grown_drewN w14 1) | exact HS99.out _ G99.out)
           ((go_at_call 38;refine (plyS_alike (HP14.out.keep (grown_drewN w14 1)) HLN.out HBV.out).mono ?_;rintro e w99 ⟨rfl,hg99⟩;have G99:Hid (w14.grownBy w99 none):=grown_trans (grown_drewN w14 1) hg99;clear hg99))
          go_wp2
          go_roundw
          case rel=>exact ⟨i + 1,by omega,by go_num,by omega,HP14.out.keep G99.out⟩
          case measure=>simp [intOf];omega
        ·skip
         by_cases g5:WH = 5
         ·subst g5
          as_aux_lemma =>
           go_wp2_with (first | (refine wpList_load_act8 rfl _ rfl rfl HLA.out ?_) | (refine wpList_store_act8 rfl _ _ rfl HLA.out HZ.out rfl rfl rfl ?_;intro w9 hh hg;have HVV:Hid (Var8 w9 wr.heap.size ⟨5,D,K,M,X,.slice pb nb mb,bs,SH⟩):=⟨by rw [hh,HLA.out.ar]⟩;have HG9:Hid (wr.grownBy w9 none):=hg;have cw:=HVV.out.cell.1;have cc1:=HVV.out.cell.2.1;have cc2:=HVV.out.cell.2.2.1;have cc3:=HVV.out.cell.2.2.2.1;have cc4:=HVV.out.cell.2.2.2.2.1;have cc5:=HVV.out.cell.2.2.2.2.2.1;have cc6:=HVV.out.cell.2.2.2.2.2.2;clear hh hg) | fail)
           obtain ⟨bk,hbk⟩:∃ bk,bk = wr.heap.size:=⟨_,rfl⟩
           have T9:Hid (Pair F G w w9 s a t r g R R):=HT.out.keep HG9.out
           have NB:Hid (¬ F bk /\ ¬ G bk):=⟨fun hf=>(by have:=HT.out.i.i.lt _ hf;omega),fun hf=>(by have:=HT.out.j.glt _ hf;omega)⟩
           rw [<- hbk] at HVV cw cc1 cc2 cc3 cc4 cc5 cc6 ⊢
           clear hbk
           have TT:=T9.out
           obtain ⟨cA,hcA⟩:∃ cA:Int,(((R.lose D).1:Nat):Int) = cA:=⟨_,rfl⟩
           have PA:Hid (Calls Tryz.prog 25 #[ptr a,.int .i64 D] w9 fun e w'=>e = .returned (.int .i64 cA) /\ ∃ F',Pair F' G w w' s a t r g (R.lose D).2 R /\ Step F w9 F' w'):=by
            have h:=TT.i.lose HL6.out D
            (try rw [hcA] at h)
            refine h.mono ?_
            rintro e w' ⟨rfl,F',i',st⟩
            exact ⟨rfl,F',TT.stepA i' st,st⟩
           have PB:Hid (∀ (F':Nat -> Prop) (w1:World),Pair F' G w w1 s a t r g (R.lose D).2 R -> Calls Tryz.prog 26 #[rptr r,.int .i64 D] w1 fun e w'=>e = .returned (.int .i64 cA) /\ ∃ G',PlyS w w' s a t r g (100 * (i + 1)) /\ Step G w1 G' w'):=fun F' w1 p1=>by
            have h:=p1.j.lose HL6.out D
            (try rw [hcA] at h)
            refine h.mono ?_
            rintro e w' ⟨rfl,G',j',st⟩
            exact ⟨rfl,G',⟨F',G',_,p1.stepB j' st,by have h1:=HLL.out;have h2:=lose_len R D;omega⟩,st⟩
           clear hcA TT
           clear cw cc1 cc2 cc3 cc4 cc5 cc6
           refine PA.out.mono ?_
           rintro e w11 ⟨rfl,F11,p11,st⟩
           have P11:Hid (Pair F11 G w w11 s a t r g (R.lose D).2 R):=p11
           have V11:Hid (Var8 w11 bk ⟨5,D,K,M,X,.slice pb nb mb,bs,SH⟩):=(HVV.out.step st NB.out.1).1
           clear p11 st PA
           go_wp2_with fail
           have HS11:Hid (∀ w',w11.grownBy w' none -> w'.cell? ⟨t,0,none⟩ = some (rptr r) /\ w'.cell? ⟨bk,1,none⟩ = some (.int .i64 D)):=fun w' g'=>⟨(P11.out.keep g').j.at1,(V11.out.keep g').cell.2.1⟩
           go_region_held3 (fun w'=>w'.cell? ⟨t,0,none⟩ = some (rptr r) /\ w'.cell? ⟨bk,1,none⟩ = some (.int .i64 D)) (first | exact HS11.out _ (grown_drewN w11 1) | exact HS12.out)
            ((go_at_call 26;refine (PB.out _ _ (P11.out.keep (grown_drewN w11 1))).mono ?_;rintro e w12 ⟨rfl,G12,hp,st⟩;have HP12:Hid (PlyS w w12 s a t r g (100 * (i + 1))):=hp;have HV12:Hid (Var8 w12 bk ⟨5,D,K,M,X,.slice pb nb mb,bs,SH⟩):=((V11.out.keep (grown_drewN w11 1)).step st NB.out.2).1;have HS12:Hid (w12.cell? ⟨t,0,none⟩ = some (rptr r) /\ w12.cell? ⟨bk,1,none⟩ = some (.int .i64 D)):=⟨hp.top,HV12.out.cell.2.1⟩;clear hp st))
           clear P11 V11 HS11 HS12 PB
           have HS99:Hid (∀ w',w12.grownBy w' none -> w'.cell? ⟨t,0,none⟩ = some (rptr r) /\ w'.cell? ⟨bk,5,none⟩ = some (.slice pb nb mb)):=fun w' g'=>⟨(HP12.out.keep g').top,(HV12.out.keep g').cell.2.2.2.2.2.1⟩
           go_wp2_with fail
           go_region_held3 (fun w'=>w'.cell? ⟨t,0,none⟩ = some (rptr r) /\ w'.cell? ⟨bk,5,none⟩ = some (.slice pb nb mb)) (first | exact HS99.out _ (grown_drewN w12 1) | exact HS99.out _ G99.out)
            ((go_at_call 38;refine (plyS_alike (HP12.out.keep (grown_drewN w12 1)) HLN.out HBV.out).mono ?_;rintro e w99 ⟨rfl,hg99⟩;have G99:Hid (w12.grownBy w99 none):=grown_trans (grown_drewN w12 1) hg99;clear hg99))
           go_wp2
           go_roundw
           case rel=>exact ⟨i + 1,by omega,by go_num,by omega,HP12.out.keep G99.out⟩
           case measure=>simp [intOf];omega
         ·skip
          by_cases g6:WH = 6
          ·subst g6
           as_aux_lemma =>
            go_wp2_with (first | (refine wpList_load_act8 rfl _ rfl rfl HLA.out ?_) | (refine wpList_store_act8 rfl _ _ rfl HLA.out HZ.out rfl rfl rfl ?_;intro w9 hh hg;have HVV:Hid (Var8 w9 wr.heap.size ⟨6,D,K,M,X,.slice pb nb mb,bs,SH⟩):=⟨by rw [hh,HLA.out.ar]⟩;have HG9:Hid (wr.grownBy w9 none):=hg;have cw:=HVV.out.cell.1;have cc1:=HVV.out.cell.2.1;have cc2:=HVV.out.cell.2.2.1;have cc3:=HVV.out.cell.2.2.2.1;have cc4:=HVV.out.cell.2.2.2.2.1;have cc5:=HVV.out.cell.2.2.2.2.2.1;have cc6:=HVV.out.cell.2.2.2.2.2.2;clear hh hg) | fail)
            obtain ⟨bk,hbk⟩:∃ bk,bk = wr.heap.size:=⟨_,rfl⟩
            have T9:Hid (Pair F G w w9 s a t r g R R):=HT.out.keep HG9.out
            have NB:Hid (¬ F bk /\ ¬ G bk):=⟨fun hf=>(by have:=HT.out.i.i.lt _ hf;omega),fun hf=>(by have:=HT.out.j.glt _ hf;omega)⟩
            rw [<- hbk] at HVV cw cc1 cc2 cc3 cc4 cc5 cc6 ⊢
            clear hbk
            have TT:=T9.out
            obtain ⟨cA,hcA⟩:∃ cA:Int,(((R.replace D).1:Nat):Int) = cA:=⟨_,rfl⟩
            have PA:Hid (Calls Tryz.prog 27 #[ptr a,.int .i64 D] w9 fun e w'=>e = .returned (.int .i64 cA) /\ ∃ F',Pair F' G w w' s a t r g (R.replace D).2 R /\ Step F w9 F' w'):=by
             have h:=TT.i.replace D
             (try rw [hcA] at h)
             refine h.mono ?_
             rintro e w' ⟨rfl,F',i',st⟩
             exact ⟨rfl,F',TT.stepA i' st,st⟩
            have PB:Hid (∀ (F':Nat -> Prop) (w1:World),Pair F' G w w1 s a t r g (R.replace D).2 R -> Calls Tryz.prog 28 #[rptr r,.int .i64 D] w1 fun e w'=>e = .returned (.int .i64 cA) /\ ∃ G',PlyS w w' s a t r g (100 * (i + 1)) /\ Step G w1 G' w'):=fun F' w1 p1=>by
             have h:=p1.j.replace D
             (try rw [hcA] at h)
             refine h.mono ?_
             rintro e w' ⟨rfl,G',j',st⟩
             exact ⟨rfl,G',⟨F',G',_,p1.stepB j' st,by have h1:=HLL.out;have h2:=replace_len R D;omega⟩,st⟩
            clear hcA TT
            clear cw cc1 cc2 cc3 cc4 cc5 cc6
            refine PA.out.mono ?_
            rintro e w11 ⟨rfl,F11,p11,st⟩
            have P11:Hid (Pair F11 G w w11 s a t r g (R.replace D).2 R):=p11
            have V11:Hid (Var8 w11 bk ⟨6,D,K,M,X,.slice pb nb mb,bs,SH⟩):=(HVV.out.step st NB.out.1).1
            clear p11 st PA
            go_wp2_with fail
            have HS11:Hid (∀ w',w11.grownBy w' none -> w'.cell? ⟨t,0,none⟩ = some (rptr r) /\ w'.cell? ⟨bk,1,none⟩ = some (.int .i64 D)):=fun w' g'=>⟨(P11.out.keep g').j.at1,(V11.out.keep g').cell.2.1⟩
            go_region_held3 (fun w'=>w'.cell? ⟨t,0,none⟩ = some (rptr r) /\ w'.cell? ⟨bk,1,none⟩ = some (.int .i64 D)) (first | exact HS11.out _ (grown_drewN w11 1) | exact HS12.out)
             ((go_at_call 28;refine (PB.out _ _ (P11.out.keep (grown_drewN w11 1))).mono ?_;rintro e w12 ⟨rfl,G12,hp,st⟩;have HP12:Hid (PlyS w w12 s a t r g (100 * (i + 1))):=hp;have HV12:Hid (Var8 w12 bk ⟨6,D,K,M,X,.slice pb nb mb,bs,SH⟩):=((V11.out.keep (grown_drewN w11 1)).step st NB.out.2).1;have HS12:Hid (w12.cell? ⟨t,0,none⟩ = some (rptr r) /\ w12.cell? ⟨bk,1,none⟩ = some (.int .i64 D)):=⟨hp.top,HV12.out.cell.2.1⟩;clear hp st))
            clear P11 V11 HS11 HS12 PB
            have HS99:Hid (∀ w',w12.grownBy w' none -> w'.cell? ⟨t,0,none⟩ = some (rptr r) /\ w'.cell? ⟨bk,5,none⟩ = some (.slice pb nb mb)):=fun w' g'=>⟨(HP12.out.keep g').top,(HV12.out.keep g').cell.2.2.2.2.2.1⟩
            go_wp2_with fail
            go_region_held3 (fun w'=>w'.cell? ⟨t,0,none⟩ = some (rptr r) /\ w'.cell? ⟨bk,5,none⟩ = some (.slice pb nb mb)) (first | exact HS99.out _ (grown_drewN w12 1) | exact HS99.out _ G99.out)
             ((go_at_call 38;refine (plyS_alike (HP12.out.keep (grown_drewN w12 1)) HLN.out HBV.out).mono ?_;rintro e w99 ⟨rfl,hg99⟩;have G99:Hid (w12.grownBy w99 none):=grown_trans (grown_drewN w12 1) hg99;clear hg99))
            go_wp2
            go_roundw
            case rel=>exact ⟨i + 1,by omega,by go_num,by omega,HP12.out.keep G99.out⟩
            case measure=>simp [intOf];omega
          ·skip
           by_cases g7:WH = 7
           ·subst g7
            as_aux_lemma =>
             go_wp2_with (first | (refine wpList_load_act8 rfl _ rfl rfl HLA.out ?_) | (refine wpList_store_act8 rfl _ _ rfl HLA.out HZ.out rfl rfl rfl ?_;intro w9 hh hg;have HVV:Hid (Var8 w9 wr.heap.size ⟨7,D,K,M,X,.slice pb nb mb,bs,SH⟩):=⟨by rw [hh,HLA.out.ar]⟩;have HG9:Hid (wr.grownBy w9 none):=hg;have cw:=HVV.out.cell.1;have cc1:=HVV.out.cell.2.1;have cc2:=HVV.out.cell.2.2.1;have cc3:=HVV.out.cell.2.2.2.1;have cc4:=HVV.out.cell.2.2.2.2.1;have cc5:=HVV.out.cell.2.2.2.2.2.1;have cc6:=HVV.out.cell.2.2.2.2.2.2;clear hh hg) | fail)
             obtain ⟨bk,hbk⟩:∃ bk,bk = wr.heap.size:=⟨_,rfl⟩
             have T9:Hid (Pair F G w w9 s a t r g R R):=HT.out.keep HG9.out
             have NB:Hid (¬ F bk /\ ¬ G bk):=⟨fun hf=>(by have:=HT.out.i.i.lt _ hf;omega),fun hf=>(by have:=HT.out.j.glt _ hf;omega)⟩
             rw [<- hbk] at HVV cw cc1 cc2 cc3 cc4 cc5 cc6 ⊢
             clear hbk
             have TT:=T9.out.keep (grown_drewN w9 1)
             obtain ⟨cA,hcA⟩:∃ cA:Int,(((R.barrier).1:Nat):Int) = cA:=⟨_,rfl⟩
             have PA:Hid (Calls Tryz.prog 29 #[ptr a] (w9.drewN 1) fun e w'=>e = .returned (.int .i64 cA) /\ ∃ F',Pair F' G w w' s a t r g R.barrier.2 R /\ Step F (w9.drewN 1) F' w'):=by
              have h:=TT.i.barrier
              (try rw [hcA] at h)
              refine h.mono ?_
              rintro e w' ⟨rfl,F',i',st⟩
              exact ⟨rfl,F',TT.stepA i' st,st⟩
             have PB:Hid (∀ (F':Nat -> Prop) (w1:World),Pair F' G w w1 s a t r g R.barrier.2 R -> Calls Tryz.prog 30 #[rptr r] w1 fun e w'=>e = .returned (.int .i64 cA) /\ ∃ G',PlyS w w' s a t r g (100 * (i + 1)) /\ Step G w1 G' w'):=fun F' w1 p1=>by
              have h:=p1.j.barrier HL6.out
              (try rw [hcA] at h)
              refine h.mono ?_
              rintro e w' ⟨rfl,G',j',st⟩
              exact ⟨rfl,G',⟨F',G',_,p1.stepB j' st,by have h1:=HLL.out;have h2:=barrier_len R;omega⟩,st⟩
             clear hcA TT
             clear cw cc1 cc2 cc3 cc4 cc5 cc6
             have HS9:Hid ((w9.drewN 1).cell? ⟨t,0,none⟩ = some (rptr r)):=(T9.out.keep (grown_drewN w9 1)).j.at1
             go_region_held3 (fun w'=>w'.cell? ⟨t,0,none⟩ = some (rptr r)) (first | exact HS9.out | exact P11.out.j.at1 | exact HP12.out.top)
              ((first
                | (go_at_call 29;refine PA.out.mono ?_;rintro e w11 ⟨rfl,F11,p11,st⟩;have P11:Hid (Pair F11 G w w11 s a t r g R.barrier.2 R):=p11;have V11:Hid (Var8 w11 bk ⟨7,D,K,M,X,.slice pb nb mb,bs,SH⟩):=((HVV.out.keep (grown_drewN w9 1)).step st NB.out.1).1;clear p11 st)
                | (go_at_call 30;refine (PB.out _ _ P11.out).mono ?_;rintro e w12 ⟨rfl,G12,hp,st⟩;have HP12:Hid (PlyS w w12 s a t r g (100 * (i + 1))):=hp;have HV12:Hid (Var8 w12 bk ⟨7,D,K,M,X,.slice pb nb mb,bs,SH⟩):=(V11.out.step st NB.out.2).1;clear hp st)))
             clear P11 V11 PA PB HS9
             have HS99:Hid (∀ w',w12.grownBy w' none -> w'.cell? ⟨t,0,none⟩ = some (rptr r) /\ w'.cell? ⟨bk,5,none⟩ = some (.slice pb nb mb)):=fun w' g'=>⟨(HP12.out.keep g').top,(HV12.out.keep g').cell.2.2.2.2.2.1⟩
             go_wp2_with fail
             go_region_held3 (fun w'=>w'.cell? ⟨t,0,none⟩ = some (rptr r) /\ w'.cell? ⟨bk,5,none⟩ = some (.slice pb nb mb)) (first | exact HS99.out _ (grown_drewN w12 1) | exact HS99.out _ G99.out)
              ((go_at_call 38;refine (plyS_alike (HP12.out.keep (grown_drewN w12 1)) HLN.out HBV.out).mono ?_;rintro e w99 ⟨rfl,hg99⟩;have G99:Hid (w12.grownBy w99 none):=grown_trans (grown_drewN w12 1) hg99;clear hg99))
             go_wp2
             go_roundw
             case rel=>exact ⟨i + 1,by omega,by go_num,by omega,HP12.out.keep G99.out⟩
             case measure=>simp [intOf];omega
           ·skip
            by_cases g8:WH = 8
            ·subst g8
             as_aux_lemma =>
              go_wp2_with (first | (refine wpList_load_act8 rfl _ rfl rfl HLA.out ?_) | (refine wpList_store_act8 rfl _ _ rfl HLA.out HZ.out rfl rfl rfl ?_;intro w9 hh hg;have HVV:Hid (Var8 w9 wr.heap.size ⟨8,D,K,M,X,.slice pb nb mb,bs,SH⟩):=⟨by rw [hh,HLA.out.ar]⟩;have HG9:Hid (wr.grownBy w9 none):=hg;have cw:=HVV.out.cell.1;have cc1:=HVV.out.cell.2.1;have cc2:=HVV.out.cell.2.2.1;have cc3:=HVV.out.cell.2.2.2.1;have cc4:=HVV.out.cell.2.2.2.2.1;have cc5:=HVV.out.cell.2.2.2.2.2.1;have cc6:=HVV.out.cell.2.2.2.2.2.2;clear hh hg) | fail)
              obtain ⟨bk,hbk⟩:∃ bk,bk = wr.heap.size:=⟨_,rfl⟩
              have T9:Hid (Pair F G w w9 s a t r g R R):=HT.out.keep HG9.out
              have NB:Hid (¬ F bk /\ ¬ G bk):=⟨fun hf=>(by have:=HT.out.i.i.lt _ hf;omega),fun hf=>(by have:=HT.out.j.glt _ hf;omega)⟩
              rw [<- hbk] at HVV cw cc1 cc2 cc3 cc4 cc5 cc6 ⊢
              clear hbk
              have TT:=T9.out
              have PA:Hid (Calls Tryz.prog 31 #[ptr a,.slice pb nb mb] w9 fun e w'=>e = .returned (.tuple #[]) /\ ∃ F',Pair F' G w w' s a t r g (R.crash bs) R /\ Step F w9 F' w'):=by
               have h:=TT.i.crash HL6.out (TT.given HBV.out).a
               refine h.mono ?_
               rintro e w' ⟨rfl,F',i',st⟩
               exact ⟨rfl,F',TT.stepA i' st,st⟩
              have PB:Hid (∀ (F':Nat -> Prop) (w1:World),Pair F' G w w1 s a t r g (R.crash bs) R -> Calls Tryz.prog 32 #[rptr r,.slice pb nb mb] w1 fun e w'=>e = .returned (.tuple #[]) /\ ∃ G',PlyS w w' s a t r g (100 * (i + 1)) /\ Step G w1 G' w'):=fun F' w1 p1=>by
               have h:=p1.j.crash HL6.out (p1.given HBV.out).b
               refine h.mono ?_
               rintro e w' ⟨rfl,G',j',st⟩
               exact ⟨rfl,G',⟨F',G',_,p1.stepB j' st,by have h1:=HLL.out;have h2:=(show (R.crash bs).L.length = 0 from rfl);omega⟩,st⟩
              clear TT
              clear cw cc1 cc2 cc3 cc4 cc5 cc6
              refine PA.out.mono ?_
              rintro e w11 ⟨rfl,F11,p11,st⟩
              have P11:Hid (Pair F11 G w w11 s a t r g (R.crash bs) R):=p11
              have V11:Hid (Var8 w11 bk ⟨8,D,K,M,X,.slice pb nb mb,bs,SH⟩):=(HVV.out.step st NB.out.1).1
              clear p11 st PA
              go_wp2_with fail
              have HS11:Hid (∀ w',w11.grownBy w' none -> w'.cell? ⟨t,0,none⟩ = some (rptr r) /\ w'.cell? ⟨bk,5,none⟩ = some (.slice pb nb mb)):=fun w' g'=>⟨(P11.out.keep g').j.at1,(V11.out.keep g').cell.2.2.2.2.2.1⟩
              go_region_held3 (fun w'=>w'.cell? ⟨t,0,none⟩ = some (rptr r) /\ w'.cell? ⟨bk,5,none⟩ = some (.slice pb nb mb)) (first | exact HS11.out _ (grown_drewN w11 1) | exact HS12.out)
               ((go_at_call 32;refine (PB.out _ _ (P11.out.keep (grown_drewN w11 1))).mono ?_;rintro e w12 ⟨rfl,G12,hp,st⟩;have HP12:Hid (PlyS w w12 s a t r g (100 * (i + 1))):=hp;have HV12:Hid (Var8 w12 bk ⟨8,D,K,M,X,.slice pb nb mb,bs,SH⟩):=((V11.out.keep (grown_drewN w11 1)).step st NB.out.2).1;have HS12:Hid (w12.cell? ⟨t,0,none⟩ = some (rptr r) /\ w12.cell? ⟨bk,5,none⟩ = some (.slice pb nb mb)):=⟨hp.top,HV12.out.cell.2.2.2.2.2.1⟩;clear hp st))
              clear P11 V11 HS11 HS12 PB
              have HS99:Hid (∀ w',w12.grownBy w' none -> w'.cell? ⟨t,0,none⟩ = some (rptr r) /\ w'.cell? ⟨bk,5,none⟩ = some (.slice pb nb mb)):=fun w' g'=>⟨(HP12.out.keep g').top,(HV12.out.keep g').cell.2.2.2.2.2.1⟩
              go_wp2_with fail
              go_region_held3 (fun w'=>w'.cell? ⟨t,0,none⟩ = some (rptr r) /\ w'.cell? ⟨bk,5,none⟩ = some (.slice pb nb mb)) (first | exact HS99.out _ (grown_drewN w12 1) | exact HS99.out _ G99.out)
               ((go_at_call 38;refine (plyS_alike (HP12.out.keep (grown_drewN w12 1)) HLN.out HBV.out).mono ?_;rintro e w99 ⟨rfl,hg99⟩;have G99:Hid (w12.grownBy w99 none):=grown_trans (grown_drewN w12 1) hg99;clear hg99))
              go_wp2
              go_roundw
              case rel=>exact ⟨i + 1,by omega,by go_num,by omega,HP12.out.keep G99.out⟩
              case measure=>simp [intOf];omega
            ·skip
             by_cases g9:WH = 9
             ·subst g9
              as_aux_lemma =>
               go_wp2_with (first | (refine wpList_load_act8 rfl _ rfl rfl HLA.out ?_) | (refine wpList_store_act8 rfl _ _ rfl HLA.out HZ.out rfl rfl rfl ?_;intro w9 hh hg;have HVV:Hid (Var8 w9 wr.heap.size ⟨9,D,K,M,X,.slice pb nb mb,bs,SH⟩):=⟨by rw [hh,HLA.out.ar]⟩;have HG9:Hid (wr.grownBy w9 none):=hg;have cw:=HVV.out.cell.1;have cc1:=HVV.out.cell.2.1;have cc2:=HVV.out.cell.2.2.1;have cc3:=HVV.out.cell.2.2.2.1;have cc4:=HVV.out.cell.2.2.2.2.1;have cc5:=HVV.out.cell.2.2.2.2.2.1;have cc6:=HVV.out.cell.2.2.2.2.2.2;clear hh hg) | fail)
               obtain ⟨bk,hbk⟩:∃ bk,bk = wr.heap.size:=⟨_,rfl⟩
               have T9:Hid (Pair F G w w9 s a t r g R R):=HT.out.keep HG9.out
               have NB:Hid (¬ F bk /\ ¬ G bk):=⟨fun hf=>(by have:=HT.out.i.i.lt _ hf;omega),fun hf=>(by have:=HT.out.j.glt _ hf;omega)⟩
               rw [<- hbk] at HVV cw cc1 cc2 cc3 cc4 cc5 cc6 ⊢
               clear hbk
               have HKK:Hid (K < 9223372036854775808):=by have h2:K <= 9223372036854775807:=HOKW.out.at_.2;show _ < _;omega
               have TT:=T9.out
               have PA:Hid (Calls Tryz.prog 33 #[ptr a,.int .i64 K] w9 fun e w'=>e = .returned (.tuple #[]) /\ ∃ F',Pair F' G w w' s a t r g (R.fused K) R /\ Step F w9 F' w'):=by
                have h:=TT.i.fuse HKK.out
                refine h.mono ?_
                rintro e w' ⟨rfl,F',i',st⟩
                exact ⟨rfl,F',TT.stepA i' st,st⟩
               have PB:Hid (∀ (F':Nat -> Prop) (w1:World),Pair F' G w w1 s a t r g (R.fused K) R -> Calls Tryz.prog 34 #[rptr r,.int .i64 K] w1 fun e w'=>e = .returned (.tuple #[]) /\ ∃ G',PlyS w w' s a t r g (100 * (i + 1)) /\ Step G w1 G' w'):=fun F' w1 p1=>by
                have h:=p1.j.fuse HKK.out
                refine h.mono ?_
                rintro e w' ⟨rfl,G',j',st⟩
                exact ⟨rfl,G',⟨F',G',_,p1.stepB j' st,by have h1:=HLL.out;have h2:=(show (R.fused K).L.length = R.L.length from rfl);omega⟩,st⟩
               clear TT
               clear cw cc1 cc2 cc3 cc4 cc5 cc6
               refine PA.out.mono ?_
               rintro e w11 ⟨rfl,F11,p11,st⟩
               have P11:Hid (Pair F11 G w w11 s a t r g (R.fused K) R):=p11
               have V11:Hid (Var8 w11 bk ⟨9,D,K,M,X,.slice pb nb mb,bs,SH⟩):=(HVV.out.step st NB.out.1).1
               clear p11 st PA
               go_wp2_with fail
               have HS11:Hid (∀ w',w11.grownBy w' none -> w'.cell? ⟨t,0,none⟩ = some (rptr r) /\ w'.cell? ⟨bk,2,none⟩ = some (.int .i64 K)):=fun w' g'=>⟨(P11.out.keep g').j.at1,(V11.out.keep g').cell.2.2.1⟩
               go_region_held3 (fun w'=>w'.cell? ⟨t,0,none⟩ = some (rptr r) /\ w'.cell? ⟨bk,2,none⟩ = some (.int .i64 K)) (first | exact HS11.out _ (grown_drewN w11 1) | exact HS12.out)
                ((go_at_call 34;refine (PB.out _ _ (P11.out.keep (grown_drewN w11 1))).mono ?_;rintro e w12 ⟨rfl,G12,hp,st⟩;have HP12:Hid (PlyS w w12 s a t r g (100 * (i + 1))):=hp;have HV12:Hid (Var8 w12 bk ⟨9,D,K,M,X,.slice pb nb mb,bs,SH⟩):=((V11.out.keep (grown_drewN w11 1)).step st NB.out.2).1;have HS12:Hid (w12.cell? ⟨t,0,none⟩ = some (rptr r) /\ w12.cell? ⟨bk,2,none⟩ = some (.int .i64 K)):=⟨hp.top,HV12.out.cell.2.2.1⟩;clear hp st))
               clear P11 V11 HS11 HS12 PB
               have HS99:Hid (∀ w',w12.grownBy w' none -> w'.cell? ⟨t,0,none⟩ = some (rptr r) /\ w'.cell? ⟨bk,5,none⟩ = some (.slice pb nb mb)):=fun w' g'=>⟨(HP12.out.keep g').top,(HV12.out.keep g').cell.2.2.2.2.2.1⟩
               go_wp2_with fail
               go_region_held3 (fun w'=>w'.cell? ⟨t,0,none⟩ = some (rptr r) /\ w'.cell? ⟨bk,5,none⟩ = some (.slice pb nb mb)) (first | exact HS99.out _ (grown_drewN w12 1) | exact HS99.out _ G99.out)
                ((go_at_call 38;refine (plyS_alike (HP12.out.keep (grown_drewN w12 1)) HLN.out HBV.out).mono ?_;rintro e w99 ⟨rfl,hg99⟩;have G99:Hid (w12.grownBy w99 none):=grown_trans (grown_drewN w12 1) hg99;clear hg99))
               go_wp2
               go_roundw
               case rel=>exact ⟨i + 1,by omega,by go_num,by omega,HP12.out.keep G99.out⟩
               case measure=>simp [intOf];omega
             ·skip
              by_cases g10:WH = 10
              ·subst g10
               as_aux_lemma =>
                go_wp2_with (first | (refine wpList_load_act8 rfl _ rfl rfl HLA.out ?_) | (refine wpList_store_act8 rfl _ _ rfl HLA.out HZ.out rfl rfl rfl ?_;intro w9 hh hg;have HVV:Hid (Var8 w9 wr.heap.size ⟨10,D,K,M,X,.slice pb nb mb,bs,SH⟩):=⟨by rw [hh,HLA.out.ar]⟩;have HG9:Hid (wr.grownBy w9 none):=hg;have cw:=HVV.out.cell.1;have cc1:=HVV.out.cell.2.1;have cc2:=HVV.out.cell.2.2.1;have cc3:=HVV.out.cell.2.2.2.1;have cc4:=HVV.out.cell.2.2.2.2.1;have cc5:=HVV.out.cell.2.2.2.2.2.1;have cc6:=HVV.out.cell.2.2.2.2.2.2;clear hh hg) | fail)
                obtain ⟨bk,hbk⟩:∃ bk,bk = wr.heap.size:=⟨_,rfl⟩
                have T9:Hid (Pair F G w w9 s a t r g R R):=HT.out.keep HG9.out
                have NB:Hid (¬ F bk /\ ¬ G bk):=⟨fun hf=>(by have:=HT.out.i.i.lt _ hf;omega),fun hf=>(by have:=HT.out.j.glt _ hf;omega)⟩
                rw [<- hbk] at HVV cw cc1 cc2 cc3 cc4 cc5 cc6 ⊢
                clear hbk
                have HX:Hid (X < 256):=HOKW.out.x
                obtain ⟨cA,hcA⟩:∃ cA:Int,(((R.writes D K (fl X)).1:Nat):Int) = cA:=⟨_,rfl⟩
                have FU:Hid (∀ (F' G':Nat -> Prop) (w1:World) (R1 Q1:AM.Raw),Pair F' G' w w1 s a t r g R1 Q1 -> Calls Tryz.prog 36 #[.int .u8 (X:Int)] w1 fun e w'=>∃ p,e = .returned (.slice p 64 64) /\ Aw2 F' G' w' (.slice p 64 64) (fl X) /\ w1.grownBy w' none):=fun F' G' w1 R1 Q1 p1=>by
                 refine (full_yes HX.out).mono ?_
                 rintro e w' ⟨gg,rfl,hp,hg⟩
                 exact ⟨_,rfl,p1.part hp,hg⟩
                have PA:Hid (∀ (w1:World) (p:Option Addr),Pair F G w w1 s a t r g R R -> Aw2 F G w1 (.slice p 64 64) (fl X) -> Calls Tryz.prog 35 #[ptr a,.int .i64 D,.int .i64 K,.slice p 64 64] w1 fun e w'=>e = .returned (.int .i64 cA) /\ ∃ F',Pair F' G w w' s a t r g (R.writes D K (fl X)).2 R /\ Step F w1 F' w'):=fun w1 p p1 hv=>by
                 have h:=p1.i.writes HL6.out D K hv.a
                 rw [hcA] at h
                 refine h.mono ?_
                 rintro e w' ⟨rfl,F',i',st⟩
                 exact ⟨rfl,F',p1.stepA i' st,st⟩
                have PB:Hid (∀ (F':Nat -> Prop) (w1:World) (p:Option Addr),Pair F' G w w1 s a t r g (R.writes D K (fl X)).2 R -> Aw2 F' G w1 (.slice p 64 64) (fl X) -> Calls Tryz.prog 37 #[rptr r,.int .i64 D,.int .i64 K,.slice p 64 64] w1 fun e w'=>e = .returned (.int .i64 cA) /\ ∃ G',PlyS w w' s a t r g (100 * (i + 1)) /\ Step G w1 G' w'):=fun F' w1 p p1 hv=>by
                 have h:=p1.j.writes HL6.out D K hv.b
                 rw [hcA] at h
                 refine h.mono ?_
                 rintro e w' ⟨rfl,G',j',st⟩
                 exact ⟨rfl,G',⟨F',G',_,p1.stepB j' st,by have h1:=HLL.out;have h2:=writes_len R D K (fl X);omega⟩,st⟩
                clear hcA
                clear cw cc1 cc2 cc3 cc4 cc5 cc6
                have HS9:Hid (∀ w',w9.grownBy w' none -> w'.cell? ⟨bk,1,none⟩ = some (.int .i64 D) /\ w'.cell? ⟨bk,2,none⟩ = some (.int .i64 K) /\ w'.cell? ⟨bk,4,none⟩ = some (.int .u8 (X:Int))):=fun w' g'=>⟨(HVV.out.keep g').cell.2.1,(HVV.out.keep g').cell.2.2.1,(HVV.out.keep g').cell.2.2.2.2.1⟩
                go_region_held3 (fun w'=>w'.cell? ⟨bk,1,none⟩ = some (.int .i64 D) /\ w'.cell? ⟨bk,2,none⟩ = some (.int .i64 K) /\ w'.cell? ⟨bk,4,none⟩ = some (.int .u8 (X:Int))) (first | exact HS9.out _ (grown_drewN w9 1) | exact HS9.out _ G10.out | exact ⟨V11.out.cell.2.1,V11.out.cell.2.2.1,V11.out.cell.2.2.2.2.1⟩)
                 ((first
                   | (go_at_call 36;refine (FU.out _ _ _ _ _ (T9.out.keep (grown_drewN w9 1))).mono ?_;rintro e w10 ⟨p10,rfl,v10,hg⟩;have G10:Hid (w9.grownBy w10 none):=grown_trans (grown_drewN w9 1) hg;have A10:Hid (Aw2 F G w10 (.slice p10 64 64) (fl X)):=v10;clear v10 hg)
                   | (go_at_call 35;refine (PA.out _ _ (T9.out.keep G10.out) A10.out).mono ?_;rintro e w11 ⟨rfl,F11,p11,st⟩;have P11:Hid (Pair F11 G w w11 s a t r g (R.writes D K (fl X)).2 R):=p11;have V11:Hid (Var8 w11 bk ⟨10,D,K,M,X,.slice pb nb mb,bs,SH⟩):=((HVV.out.keep G10.out).step st NB.out.1).1;clear p11 st)))
                clear PA A10 HS9 T9 HVV
                go_wp2_with fail
                have HS11:Hid (∀ w',w11.grownBy w' none -> w'.cell? ⟨t,0,none⟩ = some (rptr r) /\ w'.cell? ⟨bk,1,none⟩ = some (.int .i64 D) /\ w'.cell? ⟨bk,2,none⟩ = some (.int .i64 K) /\ w'.cell? ⟨bk,4,none⟩ = some (.int .u8 (X:Int))):=fun w' g'=>⟨(P11.out.keep g').j.at1,(V11.out.keep g').cell.2.1,(V11.out.keep g').cell.2.2.1,(V11.out.keep g').cell.2.2.2.2.1⟩
                go_region_held3 (fun w'=>w'.cell? ⟨t,0,none⟩ = some (rptr r) /\ w'.cell? ⟨bk,1,none⟩ = some (.int .i64 D) /\ w'.cell? ⟨bk,2,none⟩ = some (.int .i64 K) /\ w'.cell? ⟨bk,4,none⟩ = some (.int .u8 (X:Int))) (first | exact HS11.out _ (grown_drewN w11 1) | exact HS11.out _ G13.out | exact HS12.out)
                 ((first
                   | (go_at_call 36;refine (FU.out _ _ _ _ _ (P11.out.keep (grown_drewN w11 1))).mono ?_;rintro e w13 ⟨p13,rfl,v13,hg⟩;have G13:Hid (w11.grownBy w13 none):=grown_trans (grown_drewN w11 1) hg;have A13:Hid (Aw2 F11 G w13 (.slice p13 64 64) (fl X)):=v13;clear v13 hg)
                   | (go_at_call 37;refine (PB.out _ _ _ (P11.out.keep G13.out) A13.out).mono ?_;rintro e w12 ⟨rfl,G12,hp,st⟩;have HP12:Hid (PlyS w w12 s a t r g (100 * (i + 1))):=hp;have HV12:Hid (Var8 w12 bk ⟨10,D,K,M,X,.slice pb nb mb,bs,SH⟩):=((V11.out.keep G13.out).step st NB.out.2).1;have HS12:Hid (w12.cell? ⟨t,0,none⟩ = some (rptr r) /\ w12.cell? ⟨bk,1,none⟩ = some (.int .i64 D) /\ w12.cell? ⟨bk,2,none⟩ = some (.int .i64 K) /\ w12.cell? ⟨bk,4,none⟩ = some (.int .u8 (X:Int))):=⟨hp.top,HV12.out.cell.2.1,HV12.out.cell.2.2.1,HV12.out.cell.2.2.2.2.1⟩;clear hp st)))
                clear P11 V11 HS11 HS12 PB FU A13
                have HS99:Hid (∀ w',w12.grownBy w' none -> w'.cell? ⟨t,0,none⟩ = some (rptr r) /\ w'.cell? ⟨bk,5,none⟩ = some (.slice pb nb mb)):=fun w' g'=>⟨(HP12.out.keep g').top,(HV12.out.keep g').cell.2.2.2.2.2.1⟩
                go_wp2_with fail
                go_region_held3 (fun w'=>w'.cell? ⟨t,0,none⟩ = some (rptr r) /\ w'.cell? ⟨bk,5,none⟩ = some (.slice pb nb mb)) (first | exact HS99.out _ (grown_drewN w12 1) | exact HS99.out _ G99.out)
                 ((go_at_call 38;refine (plyS_alike (HP12.out.keep (grown_drewN w12 1)) HLN.out HBV.out).mono ?_;rintro e w99 ⟨rfl,hg99⟩;have G99:Hid (w12.grownBy w99 none):=grown_trans (grown_drewN w12 1) hg99;clear hg99))
                go_wp2
                go_roundw
                case rel=>exact ⟨i + 1,by omega,by go_num,by omega,HP12.out.keep G99.out⟩
                case measure=>simp [intOf];omega
              ·skip
               as_aux_lemma =>
                go_wp2_with (first | (refine wpList_load_act8 rfl _ rfl rfl HLA.out ?_) | (refine wpList_store_act8 rfl _ _ rfl HLA.out HZ.out rfl rfl rfl ?_;intro w9 hh hg;have HVV:Hid (Var8 w9 wr.heap.size ⟨WH,D,K,M,X,.slice pb nb mb,bs,SH⟩):=⟨by rw [hh,HLA.out.ar]⟩;have HG9:Hid (wr.grownBy w9 none):=hg;have cw:=HVV.out.cell.1;have cc1:=HVV.out.cell.2.1;have cc2:=HVV.out.cell.2.2.1;have cc3:=HVV.out.cell.2.2.2.1;have cc4:=HVV.out.cell.2.2.2.2.1;have cc5:=HVV.out.cell.2.2.2.2.2.1;have cc6:=HVV.out.cell.2.2.2.2.2.2;clear hh hg) | fail)
                obtain ⟨bk,hbk⟩:∃ bk,bk = wr.heap.size:=⟨_,rfl⟩
                have T9:Hid (Pair F G w w9 s a t r g R R):=HT.out.keep HG9.out
                have NB:Hid (¬ F bk /\ ¬ G bk):=⟨fun hf=>(by have:=HT.out.i.i.lt _ hf;omega),fun hf=>(by have:=HT.out.j.glt _ hf;omega)⟩
                rw [<- hbk] at HVV cw cc1 cc2 cc3 cc4 cc5 cc6 ⊢
                clear hbk
                clear cw cc1 cc2 cc3 cc4 cc5 cc6
                have HP9:Hid (PlyS w w9 s a t r g (100 * (i + 1))):=⟨F,G,R,T9.out,Nat.le_trans HLL.out (by omega)⟩
                have HS99:Hid (∀ w',w9.grownBy w' none -> w'.cell? ⟨t,0,none⟩ = some (rptr r) /\ w'.cell? ⟨bk,5,none⟩ = some (.slice pb nb mb)):=fun w' g'=>⟨(HP9.out.keep g').top,(HVV.out.keep g').cell.2.2.2.2.2.1⟩
                go_wp2_with fail
                go_region_held3 (fun w'=>w'.cell? ⟨t,0,none⟩ = some (rptr r) /\ w'.cell? ⟨bk,5,none⟩ = some (.slice pb nb mb)) (first | exact HS99.out _ (grown_drewN w9 1) | exact HS99.out _ G99.out)
                 ((go_at_call 38;refine (plyS_alike (HP9.out.keep (grown_drewN w9 1)) HLN.out HBV.out).mono ?_;rintro e w99 ⟨rfl,hg99⟩;have G99:Hid (w9.grownBy w99 none):=grown_trans (grown_drewN w9 1) hg99;clear hg99))
                go_wp2
                go_roundw
                case rel=>exact ⟨i + 1,by omega,by go_num,by omega,HP9.out.keep G99.out⟩
                case measure=>simp [intOf];omega
  ·have i1:¬ (i:Int) < (N:Int):=by omega
   have HGG:Hid (w.grownBy wr none):=HX.out.grown
   clear HX
   go_wp2
   go_ret
   exact ⟨rfl,HGG.out⟩
end stripePlays
end Go.Proofs.YtfjlpifaaknmpaaGreat
