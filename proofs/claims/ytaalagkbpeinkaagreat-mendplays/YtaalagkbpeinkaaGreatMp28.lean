/- Packed: StC9, Stp9, PH9, Awk8, Run9, PW9. -/
import Derived.Test.YtaalagkbpeinkaaGreatMp27
set_option linter.unusedSimpArgs false
set_option linter.unusedVariables false
set_option maxRecDepth 100000
namespace Go.Proofs.YtaalagkbpeinkaaGreat
open Go.RowKit
theorem replace_L9 (R:AM.Raw) (d:Int):(R.replace d).2.L=R.L:=by
 unfold AM.Raw.replace
 split
 ·rfl
 ·split <;> rfl
set_option maxHeartbeats 6400000 in
theorem stp4 {w0 w:World} {s a t r:Nat} {g:SP.Geo} {N:Nat} (HX:PlyS w0 w s a t r g N) (hN:N<=900000) (hgn:g.n<=8) (hgs:g.s<=4) {D K:Int} {M X:Nat} {pb:Option Addr} {nb mb:Nat} {bs:List Nat} (hK:K < 9223372036854775808) (hM:M < 18446744073709551616) (hX:X < 256) (hv:Vec w0 (.slice pb nb mb) bs) :
 Calls Tryz.prog 9 #[ptr s,tptr t,.agg #[.int .i64 (4),.int .i64 D,.int .i64 K,.int .u64 (M:Int),.int .u8 (X:Int),.slice pb nb mb]] w fun e w'=>e=.returned (.bool true)/\PlyS w0 w' s a t r g (N+300):=by
 obtain⟨F,G,R,hp,hl⟩:=HX
 have HL:Hid (R.L.length<=N/\N<=900000/\g.n<=8/\g.s<=4/\M < 18446744073709551616/\X < 256/\K < 9223372036854775808):=⟨hl,hN,hgn,hgs,hM,hX,hK⟩
 have HVB:Hid (Vec w0 (.slice pb nb mb) bs):=hv
 have HG:Hid (1<=g.k/\g.k<=255/\g.Ok R):=⟨hp.i.ok.k1,by have:=hp.i.ok.kn;have:=hp.i.ok.n255;omega,hp.i.ok⟩
 have V0:Hid (Var9 (w.alloc (.cells #[.int .i64 (4),.int .i64 D,.int .i64 K,.int .u64 (M:Int),.int .u8 (X:Int),.slice pb nb mb] 33)) w.heap.size ⟨4,D,K,M,X,.slice pb nb mb,bs⟩):=⟨heap_alloc_new w _⟩
 have T0:Hid (Pair F G w0 (w.alloc (.cells #[.int .i64 (4),.int .i64 D,.int .i64 K,.int .u64 (M:Int),.int .u8 (X:Int),.slice pb nb mb] 33)) s a t r g R R):=hp.keep (World.grownBy_alloc w _ none)
 have NB:Hid (¬ F w.heap.size/\¬ G w.heap.size):=⟨fun hf=>by have:=hp.i.i.lt _ hf;omega,fun hf=>by have:=hp.j.glt _ hf;omega⟩
 obtain⟨d0,d1,d2,d3,d4,d5⟩:=V0.out.cell
 clear hp hl hN hgn hgs hM hX hK hv
 go_enter Tryz.func9,Tryz.ntmps9
 go_wp2_with fail
 obtain⟨bk,hbk⟩:∃ bk,bk=w.heap.size:=⟨_,rfl⟩
 rw[<- hbk] at V0 NB d0 d1 d2 d3 d4 d5
 (try rw[<- hbk])
 clear hbk
 generalize w.alloc (.cells #[.int .i64 (4),.int .i64 D,.int .i64 K,.int .u64 (M:Int),.int .u8 (X:Int),.slice pb nb mb] 33)=wb at *
 clear d0 d1 d2 d3 d4 d5
 have SC:Hid (∀ w' F' G' R' Q',Var9 w' bk ⟨4,D,K,M,X,.slice pb nb mb,bs⟩->Pair F' G' w0 w' s a t r g R' Q'->(w'.cell? ⟨bk,1,none⟩=some (.int .i64 D)/\w'.cell? ⟨t,0,none⟩=some (rptr r))):=fun w' F' G' R' Q' v p=>⟨v.cell.2.1,p.j.at1⟩
 go_region_held3 (fun w'=>w'.cell? ⟨bk,1,none⟩=some (.int .i64 D)/\w'.cell? ⟨t,0,none⟩=some (rptr r)) (first | exact SC.out _ _ _ _ _ (V0.out.keep (grown_drewN wb 1)) (T0.out.keep (grown_drewN wb 1)) | exact SC.out _ _ _ _ _ V1.out T1.out | exact SC.out _ _ _ _ _ V2.out T2.out)
  ((first
    | (go_at_call 11;refine (sarray_yes (T0.out.keep (grown_drewN wb 1)).i).mono ?_;rintro e w9 ⟨rfl,hw9⟩;obtain rfl:=hw9.symm;clear hw9)
    | (go_at_call 16;refine (SI.lose (T0.out.keep (grown_drewN wb 1)).i (by have:=HL.out;omega) D).mono ?_;rintro e x1 ⟨rfl,F1,i1,st1⟩;have T1:Hid (Pair F1 G w0 x1 s a t r g (R.lose D).2 R):=(T0.out.keep (grown_drewN wb 1)).stepA i1 st1;have V1:Hid (Var9 x1 bk ⟨4,D,K,M,X,.slice pb nb mb,bs⟩):=((V0.out.keep (grown_drewN wb 1)).step st1 NB.out.1).1;clear i1 st1)
    | (go_at_call 39;refine (RSI.lose T1.out.j (by have:=HL.out;omega) D).mono ?_;rintro e x2 ⟨rfl,G2,j2,st2⟩;have T2:Hid (Pair F1 G2 w0 x2 s a t r g (R.lose D).2 (R.lose D).2):=T1.out.stepB j2 st2;have V2:Hid (Var9 x2 bk ⟨4,D,K,M,X,.slice pb nb mb,bs⟩):=(V1.out.step st2 NB.out.2).1;clear j2 st2)))
 go_wp2
 go_ret
 exact⟨rfl,F1,G2,_,T2.out,by have h1:=HL.out;have h2:=SP.lose_L R D;omega⟩
set_option maxHeartbeats 6400000 in
theorem stp5 {w0 w:World} {s a t r:Nat} {g:SP.Geo} {N:Nat} (HX:PlyS w0 w s a t r g N) (hN:N<=900000) (hgn:g.n<=8) (hgs:g.s<=4) {D K:Int} {M X:Nat} {pb:Option Addr} {nb mb:Nat} {bs:List Nat} (hK:K < 9223372036854775808) (hM:M < 18446744073709551616) (hX:X < 256) (hv:Vec w0 (.slice pb nb mb) bs) :
 Calls Tryz.prog 9 #[ptr s,tptr t,.agg #[.int .i64 (5),.int .i64 D,.int .i64 K,.int .u64 (M:Int),.int .u8 (X:Int),.slice pb nb mb]] w fun e w'=>e=.returned (.bool true)/\PlyS w0 w' s a t r g (N+300):=by
 obtain⟨F,G,R,hp,hl⟩:=HX
 have HL:Hid (R.L.length<=N/\N<=900000/\g.n<=8/\g.s<=4/\M < 18446744073709551616/\X < 256/\K < 9223372036854775808):=⟨hl,hN,hgn,hgs,hM,hX,hK⟩
 have HVB:Hid (Vec w0 (.slice pb nb mb) bs):=hv
 have HG:Hid (1<=g.k/\g.k<=255/\g.Ok R):=⟨hp.i.ok.k1,by have:=hp.i.ok.kn;have:=hp.i.ok.n255;omega,hp.i.ok⟩
 have V0:Hid (Var9 (w.alloc (.cells #[.int .i64 (5),.int .i64 D,.int .i64 K,.int .u64 (M:Int),.int .u8 (X:Int),.slice pb nb mb] 33)) w.heap.size ⟨5,D,K,M,X,.slice pb nb mb,bs⟩):=⟨heap_alloc_new w _⟩
 have T0:Hid (Pair F G w0 (w.alloc (.cells #[.int .i64 (5),.int .i64 D,.int .i64 K,.int .u64 (M:Int),.int .u8 (X:Int),.slice pb nb mb] 33)) s a t r g R R):=hp.keep (World.grownBy_alloc w _ none)
 have NB:Hid (¬ F w.heap.size/\¬ G w.heap.size):=⟨fun hf=>by have:=hp.i.i.lt _ hf;omega,fun hf=>by have:=hp.j.glt _ hf;omega⟩
 obtain⟨d0,d1,d2,d3,d4,d5⟩:=V0.out.cell
 clear hp hl hN hgn hgs hM hX hK hv
 go_enter Tryz.func9,Tryz.ntmps9
 go_wp2_with fail
 obtain⟨bk,hbk⟩:∃ bk,bk=w.heap.size:=⟨_,rfl⟩
 rw[<- hbk] at V0 NB d0 d1 d2 d3 d4 d5
 (try rw[<- hbk])
 clear hbk
 generalize w.alloc (.cells #[.int .i64 (5),.int .i64 D,.int .i64 K,.int .u64 (M:Int),.int .u8 (X:Int),.slice pb nb mb] 33)=wb at *
 clear d0 d1 d2 d3 d4 d5
 have SC:Hid (∀ w' F' G' R' Q',Var9 w' bk ⟨5,D,K,M,X,.slice pb nb mb,bs⟩->Pair F' G' w0 w' s a t r g R' Q'->(w'.cell? ⟨bk,1,none⟩=some (.int .i64 D)/\w'.cell? ⟨t,0,none⟩=some (rptr r))):=fun w' F' G' R' Q' v p=>⟨v.cell.2.1,p.j.at1⟩
 go_region_held3 (fun w'=>w'.cell? ⟨bk,1,none⟩=some (.int .i64 D)/\w'.cell? ⟨t,0,none⟩=some (rptr r)) (first | exact SC.out _ _ _ _ _ (V0.out.keep (grown_drewN wb 1)) (T0.out.keep (grown_drewN wb 1)) | exact SC.out _ _ _ _ _ V1.out T1.out | exact SC.out _ _ _ _ _ V2.out T2.out)
  ((first
    | (go_at_call 11;refine (sarray_yes (T0.out.keep (grown_drewN wb 1)).i).mono ?_;rintro e w9 ⟨rfl,hw9⟩;obtain rfl:=hw9.symm;clear hw9)
    | (go_at_call 17;refine (SI.replace (T0.out.keep (grown_drewN wb 1)).i D).mono ?_;rintro e x1 ⟨rfl,F1,i1,st1⟩;have T1:Hid (Pair F1 G w0 x1 s a t r g (R.replace D).2 R):=(T0.out.keep (grown_drewN wb 1)).stepA i1 st1;have V1:Hid (Var9 x1 bk ⟨5,D,K,M,X,.slice pb nb mb,bs⟩):=((V0.out.keep (grown_drewN wb 1)).step st1 NB.out.1).1;clear i1 st1)
    | (go_at_call 40;refine (RSI.replace T1.out.j D).mono ?_;rintro e x2 ⟨rfl,G2,j2,st2⟩;have T2:Hid (Pair F1 G2 w0 x2 s a t r g (R.replace D).2 (R.replace D).2):=T1.out.stepB j2 st2;have V2:Hid (Var9 x2 bk ⟨5,D,K,M,X,.slice pb nb mb,bs⟩):=(V1.out.step st2 NB.out.2).1;clear j2 st2)))
 go_wp2
 go_ret
 exact⟨rfl,F1,G2,_,T2.out,by have h1:=HL.out;rw[replace_L9];omega⟩
set_option maxHeartbeats 6400000 in
theorem stp6 {w0 w:World} {s a t r:Nat} {g:SP.Geo} {N:Nat} (HX:PlyS w0 w s a t r g N) (hN:N<=900000) (hgn:g.n<=8) (hgs:g.s<=4) {D K:Int} {M X:Nat} {pb:Option Addr} {nb mb:Nat} {bs:List Nat} (hK:K < 9223372036854775808) (hM:M < 18446744073709551616) (hX:X < 256) (hv:Vec w0 (.slice pb nb mb) bs) :
 Calls Tryz.prog 9 #[ptr s,tptr t,.agg #[.int .i64 (6),.int .i64 D,.int .i64 K,.int .u64 (M:Int),.int .u8 (X:Int),.slice pb nb mb]] w fun e w'=>e=.returned (.bool true)/\PlyS w0 w' s a t r g (N+300):=by
 obtain⟨F,G,R,hp,hl⟩:=HX
 have HL:Hid (R.L.length<=N/\N<=900000/\g.n<=8/\g.s<=4/\M < 18446744073709551616/\X < 256/\K < 9223372036854775808):=⟨hl,hN,hgn,hgs,hM,hX,hK⟩
 have HVB:Hid (Vec w0 (.slice pb nb mb) bs):=hv
 have HG:Hid (1<=g.k/\g.k<=255/\g.Ok R):=⟨hp.i.ok.k1,by have:=hp.i.ok.kn;have:=hp.i.ok.n255;omega,hp.i.ok⟩
 have V0:Hid (Var9 (w.alloc (.cells #[.int .i64 (6),.int .i64 D,.int .i64 K,.int .u64 (M:Int),.int .u8 (X:Int),.slice pb nb mb] 33)) w.heap.size ⟨6,D,K,M,X,.slice pb nb mb,bs⟩):=⟨heap_alloc_new w _⟩
 have T0:Hid (Pair F G w0 (w.alloc (.cells #[.int .i64 (6),.int .i64 D,.int .i64 K,.int .u64 (M:Int),.int .u8 (X:Int),.slice pb nb mb] 33)) s a t r g R R):=hp.keep (World.grownBy_alloc w _ none)
 have NB:Hid (¬ F w.heap.size/\¬ G w.heap.size):=⟨fun hf=>by have:=hp.i.i.lt _ hf;omega,fun hf=>by have:=hp.j.glt _ hf;omega⟩
 obtain⟨d0,d1,d2,d3,d4,d5⟩:=V0.out.cell
 clear hp hl hN hgn hgs hM hX hK hv
 go_enter Tryz.func9,Tryz.ntmps9
 go_wp2_with fail
 obtain⟨bk,hbk⟩:∃ bk,bk=w.heap.size:=⟨_,rfl⟩
 rw[<- hbk] at V0 NB d0 d1 d2 d3 d4 d5
 (try rw[<- hbk])
 clear hbk
 generalize w.alloc (.cells #[.int .i64 (6),.int .i64 D,.int .i64 K,.int .u64 (M:Int),.int .u8 (X:Int),.slice pb nb mb] 33)=wb at *
 clear d0 d1 d2 d3 d4 d5
 have SC:Hid (∀ w' F' G' R' Q',Var9 w' bk ⟨6,D,K,M,X,.slice pb nb mb,bs⟩->Pair F' G' w0 w' s a t r g R' Q'->(w'.cell? ⟨t,0,none⟩=some (rptr r))):=fun w' F' G' R' Q' v p=>p.j.at1
 go_region_held3 (fun w'=>w'.cell? ⟨t,0,none⟩=some (rptr r)) (first | exact SC.out _ _ _ _ _ (V0.out.keep (grown_drewN wb 1)) (T0.out.keep (grown_drewN wb 1)) | exact SC.out _ _ _ _ _ V1.out T1.out | exact SC.out _ _ _ _ _ V2.out T2.out)
  ((first
    | (go_at_call 11;refine (sarray_yes (T0.out.keep (grown_drewN wb 1)).i).mono ?_;rintro e w9 ⟨rfl,hw9⟩;obtain rfl:=hw9.symm;clear hw9)
    | (go_at_call 14;refine (SI.barrier (T0.out.keep (grown_drewN wb 1)).i).mono ?_;rintro e x1 ⟨rfl,F1,i1,st1⟩;have T1:Hid (Pair F1 G w0 x1 s a t r g R.barrier.2 R):=(T0.out.keep (grown_drewN wb 1)).stepA i1 st1;have V1:Hid (Var9 x1 bk ⟨6,D,K,M,X,.slice pb nb mb,bs⟩):=((V0.out.keep (grown_drewN wb 1)).step st1 NB.out.1).1;clear i1 st1)
    | (go_at_call 41;refine (RSI.barrier T1.out.j (by have:=HL.out;omega)).mono ?_;rintro e x2 ⟨rfl,G2,j2,st2⟩;have T2:Hid (Pair F1 G2 w0 x2 s a t r g R.barrier.2 R.barrier.2):=T1.out.stepB j2 st2;have V2:Hid (Var9 x2 bk ⟨6,D,K,M,X,.slice pb nb mb,bs⟩):=(V1.out.step st2 NB.out.2).1;clear j2 st2)))
 go_wp2
 go_ret
 exact⟨rfl,F1,G2,_,T2.out,by have h1:=HL.out;have h2:=(SP.barrier_kept R).2.2.2.2;omega⟩
set_option maxHeartbeats 6400000 in
theorem stp7 {w0 w:World} {s a t r:Nat} {g:SP.Geo} {N:Nat} (HX:PlyS w0 w s a t r g N) (hN:N<=900000) (hgn:g.n<=8) (hgs:g.s<=4) {D K:Int} {M X:Nat} {pb:Option Addr} {nb mb:Nat} {bs:List Nat} (hK:K < 9223372036854775808) (hM:M < 18446744073709551616) (hX:X < 256) (hv:Vec w0 (.slice pb nb mb) bs) :
 Calls Tryz.prog 9 #[ptr s,tptr t,.agg #[.int .i64 (7),.int .i64 D,.int .i64 K,.int .u64 (M:Int),.int .u8 (X:Int),.slice pb nb mb]] w fun e w'=>e=.returned (.bool true)/\PlyS w0 w' s a t r g (N+300):=by
 obtain⟨F,G,R,hp,hl⟩:=HX
 have HL:Hid (R.L.length<=N/\N<=900000/\g.n<=8/\g.s<=4/\M < 18446744073709551616/\X < 256/\K < 9223372036854775808):=⟨hl,hN,hgn,hgs,hM,hX,hK⟩
 have HVB:Hid (Vec w0 (.slice pb nb mb) bs):=hv
 have HG:Hid (1<=g.k/\g.k<=255/\g.Ok R):=⟨hp.i.ok.k1,by have:=hp.i.ok.kn;have:=hp.i.ok.n255;omega,hp.i.ok⟩
 have V0:Hid (Var9 (w.alloc (.cells #[.int .i64 (7),.int .i64 D,.int .i64 K,.int .u64 (M:Int),.int .u8 (X:Int),.slice pb nb mb] 33)) w.heap.size ⟨7,D,K,M,X,.slice pb nb mb,bs⟩):=⟨heap_alloc_new w _⟩
 have T0:Hid (Pair F G w0 (w.alloc (.cells #[.int .i64 (7),.int .i64 D,.int .i64 K,.int .u64 (M:Int),.int .u8 (X:Int),.slice pb nb mb] 33)) s a t r g R R):=hp.keep (World.grownBy_alloc w _ none)
 have NB:Hid (¬ F w.heap.size/\¬ G w.heap.size):=⟨fun hf=>by have:=hp.i.i.lt _ hf;omega,fun hf=>by have:=hp.j.glt _ hf;omega⟩
 obtain⟨d0,d1,d2,d3,d4,d5⟩:=V0.out.cell
 clear hp hl hN hgn hgs hM hX hK hv
 go_enter Tryz.func9,Tryz.ntmps9
 go_wp2_with fail
 obtain⟨bk,hbk⟩:∃ bk,bk=w.heap.size:=⟨_,rfl⟩
 rw[<- hbk] at V0 NB d0 d1 d2 d3 d4 d5
 (try rw[<- hbk])
 clear hbk
 generalize w.alloc (.cells #[.int .i64 (7),.int .i64 D,.int .i64 K,.int .u64 (M:Int),.int .u8 (X:Int),.slice pb nb mb] 33)=wb at *
 clear d0 d1 d2 d3 d4 d5
 have SC:Hid (∀ w',Var9 w' bk ⟨7,D,K,M,X,.slice pb nb mb,bs⟩->(w'.cell? ⟨bk,5,none⟩=some (.slice pb nb mb))):=fun w' v=>v.cell.2.2.2.2.2
 go_region_held3 (fun w'=>w'.cell? ⟨bk,5,none⟩=some (.slice pb nb mb)) (first | exact SC.out _ (V0.out.keep (grown_drewN wb 1)) | exact SC.out _ V1.out)
  ((first
    | (go_at_call 11;refine (sarray_yes (T0.out.keep (grown_drewN wb 1)).i).mono ?_;rintro e w9 ⟨rfl,hw9⟩;obtain rfl:=hw9.symm;clear hw9)
    | (go_at_call 25;refine (SI.crash (T0.out.keep (grown_drewN wb 1)).i (by have:=HL.out;omega) ((T0.out.keep (grown_drewN wb 1)).bi.aw HVB.out)).mono ?_;rintro e x1 ⟨rfl,F1,i1,st1⟩;have T1:Hid (Pair F1 G w0 x1 s a t r g (R.crash bs) R):=(T0.out.keep (grown_drewN wb 1)).stepA i1 st1;have V1:Hid (Var9 x1 bk ⟨7,D,K,M,X,.slice pb nb mb,bs⟩):=((V0.out.keep (grown_drewN wb 1)).step st1 NB.out.1).1;clear i1 st1)))
 go_wp2_with fail
 have SD:Hid (∀ w' F' G' R' Q',Var9 w' bk ⟨7,D,K,M,X,.slice pb nb mb,bs⟩->Pair F' G' w0 w' s a t r g R' Q'->(w'.cell? ⟨bk,5,none⟩=some (.slice pb nb mb)/\w'.cell? ⟨t,0,none⟩=some (rptr r))):=fun w' F' G' R' Q' v p=>⟨v.cell.2.2.2.2.2,p.j.at1⟩
 go_region_held3 (fun w'=>w'.cell? ⟨bk,5,none⟩=some (.slice pb nb mb)/\w'.cell? ⟨t,0,none⟩=some (rptr r)) (first | exact SD.out _ _ _ _ _ (V1.out.keep (grown_drewN x1 1)) (T1.out.keep (grown_drewN x1 1)) | exact SD.out _ _ _ _ _ V2.out T2.out)
  ((go_at_call 42;refine (RSI.crash (T1.out.keep (grown_drewN x1 1)).j (by have:=HL.out;omega) ((T1.out.keep (grown_drewN x1 1)).bj.aw HVB.out)).mono ?_;rintro e x2 ⟨rfl,G2,j2,st2⟩;have T2:Hid (Pair F1 G2 w0 x2 s a t r g (R.crash bs) (R.crash bs)):=(T1.out.keep (grown_drewN x1 1)).stepB j2 st2;have V2:Hid (Var9 x2 bk ⟨7,D,K,M,X,.slice pb nb mb,bs⟩):=((V1.out.keep (grown_drewN x1 1)).step st2 NB.out.2).1;clear j2 st2))
 go_wp2
 go_ret
 exact⟨rfl,F1,G2,_,T2.out,by show (0:Nat)<=_;omega⟩
set_option maxHeartbeats 6400000 in
theorem stp8 {w0 w:World} {s a t r:Nat} {g:SP.Geo} {N:Nat} (HX:PlyS w0 w s a t r g N) (hN:N<=900000) (hgn:g.n<=8) (hgs:g.s<=4) {D K:Int} {M X:Nat} {pb:Option Addr} {nb mb:Nat} {bs:List Nat} (hK:K < 9223372036854775808) (hM:M < 18446744073709551616) (hX:X < 256) (hv:Vec w0 (.slice pb nb mb) bs) :
 Calls Tryz.prog 9 #[ptr s,tptr t,.agg #[.int .i64 (8),.int .i64 D,.int .i64 K,.int .u64 (M:Int),.int .u8 (X:Int),.slice pb nb mb]] w fun e w'=>e=.returned (.bool true)/\PlyS w0 w' s a t r g (N+300):=by
 obtain⟨F,G,R,hp,hl⟩:=HX
 have HL:Hid (R.L.length<=N/\N<=900000/\g.n<=8/\g.s<=4/\M < 18446744073709551616/\X < 256/\K < 9223372036854775808):=⟨hl,hN,hgn,hgs,hM,hX,hK⟩
 have HVB:Hid (Vec w0 (.slice pb nb mb) bs):=hv
 have HG:Hid (1<=g.k/\g.k<=255/\g.Ok R):=⟨hp.i.ok.k1,by have:=hp.i.ok.kn;have:=hp.i.ok.n255;omega,hp.i.ok⟩
 have V0:Hid (Var9 (w.alloc (.cells #[.int .i64 (8),.int .i64 D,.int .i64 K,.int .u64 (M:Int),.int .u8 (X:Int),.slice pb nb mb] 33)) w.heap.size ⟨8,D,K,M,X,.slice pb nb mb,bs⟩):=⟨heap_alloc_new w _⟩
 have T0:Hid (Pair F G w0 (w.alloc (.cells #[.int .i64 (8),.int .i64 D,.int .i64 K,.int .u64 (M:Int),.int .u8 (X:Int),.slice pb nb mb] 33)) s a t r g R R):=hp.keep (World.grownBy_alloc w _ none)
 have NB:Hid (¬ F w.heap.size/\¬ G w.heap.size):=⟨fun hf=>by have:=hp.i.i.lt _ hf;omega,fun hf=>by have:=hp.j.glt _ hf;omega⟩
 obtain⟨d0,d1,d2,d3,d4,d5⟩:=V0.out.cell
 clear hp hl hN hgn hgs hM hX hK hv
 go_enter Tryz.func9,Tryz.ntmps9
 go_wp2_with fail
 obtain⟨bk,hbk⟩:∃ bk,bk=w.heap.size:=⟨_,rfl⟩
 rw[<- hbk] at V0 NB d0 d1 d2 d3 d4 d5
 (try rw[<- hbk])
 clear hbk
 generalize w.alloc (.cells #[.int .i64 (8),.int .i64 D,.int .i64 K,.int .u64 (M:Int),.int .u8 (X:Int),.slice pb nb mb] 33)=wb at *
 clear d0 d1 d2 d3 d4 d5
 have SC:Hid (∀ w',Var9 w' bk ⟨8,D,K,M,X,.slice pb nb mb,bs⟩->(w'.cell? ⟨bk,2,none⟩=some (.int .i64 K))):=fun w' v=>v.cell.2.2.1
 go_region_held3 (fun w'=>w'.cell? ⟨bk,2,none⟩=some (.int .i64 K)) (first | exact SC.out _ (V0.out.keep (grown_drewN wb 1)) | exact SC.out _ V1.out)
  ((first
    | (go_at_call 11;refine (sarray_yes (T0.out.keep (grown_drewN wb 1)).i).mono ?_;rintro e w9 ⟨rfl,hw9⟩;obtain rfl:=hw9.symm;clear hw9)
    | (go_at_call 23;refine (SI.fuse (T0.out.keep (grown_drewN wb 1)).i HL.out.2.2.2.2.2.2).mono ?_;rintro e x1 ⟨rfl,F1,i1,st1⟩;have T1:Hid (Pair F1 G w0 x1 s a t r g (R.fused K) R):=(T0.out.keep (grown_drewN wb 1)).stepA i1 st1;have V1:Hid (Var9 x1 bk ⟨8,D,K,M,X,.slice pb nb mb,bs⟩):=((V0.out.keep (grown_drewN wb 1)).step st1 NB.out.1).1;clear i1 st1)))
 go_wp2_with fail
 have SD:Hid (∀ w' F' G' R' Q',Var9 w' bk ⟨8,D,K,M,X,.slice pb nb mb,bs⟩->Pair F' G' w0 w' s a t r g R' Q'->(w'.cell? ⟨bk,2,none⟩=some (.int .i64 K)/\w'.cell? ⟨t,0,none⟩=some (rptr r))):=fun w' F' G' R' Q' v p=>⟨v.cell.2.2.1,p.j.at1⟩
 go_region_held3 (fun w'=>w'.cell? ⟨bk,2,none⟩=some (.int .i64 K)/\w'.cell? ⟨t,0,none⟩=some (rptr r)) (first | exact SD.out _ _ _ _ _ (V1.out.keep (grown_drewN x1 1)) (T1.out.keep (grown_drewN x1 1)) | exact SD.out _ _ _ _ _ V2.out T2.out)
  ((go_at_call 43;refine (RSI.fuse (T1.out.keep (grown_drewN x1 1)).j HL.out.2.2.2.2.2.2).mono ?_;rintro e x2 ⟨rfl,G2,j2,st2⟩;have T2:Hid (Pair F1 G2 w0 x2 s a t r g (R.fused K) (R.fused K)):=(T1.out.keep (grown_drewN x1 1)).stepB j2 st2;have V2:Hid (Var9 x2 bk ⟨8,D,K,M,X,.slice pb nb mb,bs⟩):=((V1.out.keep (grown_drewN x1 1)).step st2 NB.out.2).1;clear j2 st2))
 go_wp2
 go_ret
 exact⟨rfl,F1,G2,_,T2.out,by have h1:=HL.out;show R.L.length<=_;omega⟩
set_option maxHeartbeats 6400000 in
theorem stpx {w0 w:World} {s a t r:Nat} {g:SP.Geo} {N:Nat} (HX:PlyS w0 w s a t r g N) (hN:N<=900000) (hgn:g.n<=8) (hgs:g.s<=4) {WH D K:Int} {M X:Nat} {pb:Option Addr} {nb mb:Nat} {bs:List Nat} (hK:K < 9223372036854775808) (hM:M < 18446744073709551616) (hX:X < 256) (hv:Vec w0 (.slice pb nb mb) bs) (h:WH ≠ 0/\WH ≠ 1/\WH ≠ 2/\WH ≠ 3/\WH ≠ 4/\WH ≠ 5/\WH ≠ 6/\WH ≠ 7/\WH ≠ 8/\WH ≠ 9) :
 Calls Tryz.prog 9 #[ptr s,tptr t,.agg #[.int .i64 (WH),.int .i64 D,.int .i64 K,.int .u64 (M:Int),.int .u8 (X:Int),.slice pb nb mb]] w fun e w'=>e=.returned (.bool true)/\PlyS w0 w' s a t r g (N+300):=by
 obtain⟨F,G,R,hp,hl⟩:=HX
 have HL:Hid (R.L.length<=N/\N<=900000/\g.n<=8/\g.s<=4/\M < 18446744073709551616/\X < 256/\K < 9223372036854775808):=⟨hl,hN,hgn,hgs,hM,hX,hK⟩
 have HVB:Hid (Vec w0 (.slice pb nb mb) bs):=hv
 have HG:Hid (1<=g.k/\g.k<=255/\g.Ok R):=⟨hp.i.ok.k1,by have:=hp.i.ok.kn;have:=hp.i.ok.n255;omega,hp.i.ok⟩
 have V0:Hid (Var9 (w.alloc (.cells #[.int .i64 (WH),.int .i64 D,.int .i64 K,.int .u64 (M:Int),.int .u8 (X:Int),.slice pb nb mb] 33)) w.heap.size ⟨WH,D,K,M,X,.slice pb nb mb,bs⟩):=⟨heap_alloc_new w _⟩
 have T0:Hid (Pair F G w0 (w.alloc (.cells #[.int .i64 (WH),.int .i64 D,.int .i64 K,.int .u64 (M:Int),.int .u8 (X:Int),.slice pb nb mb] 33)) s a t r g R R):=hp.keep (World.grownBy_alloc w _ none)
 have NB:Hid (¬ F w.heap.size/\¬ G w.heap.size):=⟨fun hf=>by have:=hp.i.i.lt _ hf;omega,fun hf=>by have:=hp.j.glt _ hf;omega⟩
 obtain⟨d0,d1,d2,d3,d4,d5⟩:=V0.out.cell
 have w0:(WH==0)=false:=by simpa using h.1
 have w1:(WH==1)=false:=by simpa using h.2.1
 have w2:(WH==2)=false:=by simpa using h.2.2.1
 have w3:(WH==3)=false:=by simpa using h.2.2.2.1
 have w4:(WH==4)=false:=by simpa using h.2.2.2.2.1
 have w5:(WH==5)=false:=by simpa using h.2.2.2.2.2.1
 have w6:(WH==6)=false:=by simpa using h.2.2.2.2.2.2.1
 have w7:(WH==7)=false:=by simpa using h.2.2.2.2.2.2.2.1
 have w8:(WH==8)=false:=by simpa using h.2.2.2.2.2.2.2.2.1
 have w9:(WH==9)=false:=by simpa using h.2.2.2.2.2.2.2.2.2
 clear h
 clear hp hl hN hgn hgs hM hX hK hv
 go_enter Tryz.func9,Tryz.ntmps9
 go_wp2
 go_ret
 exact⟨rfl,F,G,R,T0.out,by have:=HL.out;omega⟩
theorem step_yes {w0 w:World} {s a t r:Nat} {g:SP.Geo} {N:Nat} (HX:PlyS w0 w s a t r g N) (hN:N<=900000) (hgn:g.n<=8) (hgs:g.s<=4) {WH D K:Int} {M X:Nat} {pb:Option Addr} {nb mb:Nat} {bs:List Nat} (hK:K < 9223372036854775808) (hM:M < 18446744073709551616) (hX:X < 256) (hv:Vec w0 (.slice pb nb mb) bs) :
 Calls Tryz.prog 9 #[ptr s,tptr t,.agg #[.int .i64 WH,.int .i64 D,.int .i64 K,.int .u64 (M:Int),.int .u8 (X:Int),.slice pb nb mb]] w fun e w'=>e=.returned (.bool true)/\PlyS w0 w' s a t r g (N+300):=by
 by_cases h0:WH=0
 ·subst h0;exact stp0 HX hN hgn hgs hK hM hX hv
 by_cases h1:WH=1
 ·subst h1;exact stp1 HX hN hgn hgs hK hM hX hv
 by_cases h2:WH=2
 ·subst h2;exact stp2 HX hN hgn hgs hK hM hX hv
 by_cases h3:WH=3
 ·subst h3;exact stp3 HX hN hgn hgs hK hM hX hv
 by_cases h4:WH=4
 ·subst h4;exact stp4 HX hN hgn hgs hK hM hX hv
 by_cases h5:WH=5
 ·subst h5;exact stp5 HX hN hgn hgs hK hM hX hv
 by_cases h6:WH=6
 ·subst h6;exact stp6 HX hN hgn hgs hK hM hX hv
 by_cases h7:WH=7
 ·subst h7;exact stp7 HX hN hgn hgs hK hM hX hv
 by_cases h8:WH=8
 ·subst h8;exact stp8 HX hN hgn hgs hK hM hX hv
 by_cases h9:WH=9
 ·subst h9;exact stp9 HX hN hgn hgs hK hM hX hv
 exact stpx HX hN hgn hgs hK hM hX hv ⟨h0,h1,h2,h3,h4,h5,h6,h7,h8,h9⟩
end Go.Proofs.YtaalagkbpeinkaaGreat
namespace Go.Proofs.YtaalagkbpeinkaaGreat
namespace SP
def chk (g:Geo) (m:Nat) (xs:List Nat) (d i:Nat):List Nat:=(CM.secs m ((code g xs).getD d []) 8).getD i []
structure Half (R:AM.Raw) (g:Geo) (slot m:Nat) (xs:List Nat):Prop where
 ok:g.Ok R
 off:R.off=false
 on:∀ d,d < g.n->R.on (d:Int)=true
 just:∀ d,d < g.n->has R g slot m d=true->∀ i,i < 8->cont R.C g slot d i=chk g m xs d i
theorem chunk_of {R:AM.Raw} {g:Geo} {slot m d:Nat} {xs:List Nat} (ho:R.on (d:Int)=true) (hd:d < g.n) (hm:m ≠ 0) (hm2:m < 256 ^ 8) (h:∀ i,i < 8->cont R.C g slot d i=chk g m xs d i):has R g slot m d=true/\datD R g slot d=(code g xs).getD d []:=by
 have hE:=code_row g xs hd
 obtain⟨hf,hp⟩:=fit448 hm hE
 have h1:=CM.put_take hm2 hf
 rw[hp] at h1
 have hs:sects R g slot d=CM.secs m ((code g xs).getD d []) 8:=(sects_on ho _ _).trans (sectTo_cont (CM.secs_len _ _ _) h)
 unfold has yesD numD datD
 rw[hs,h1.1,h1.2.1]
 exact⟨by simp,h1.2.2⟩
theorem Half.dat {R:AM.Raw} {g:Geo} {slot m:Nat} {xs:List Nat} (h:Half R g slot m xs) (hm:m ≠ 0) (hm2:m < 256 ^ 8) {d:Nat} (hd:d < g.n) (hh:has R g slot m d=true):datD R g slot d=(code g xs).getD d [] :=
 (chunk_of (h.on d hd) hd hm hm2 (h.just d hd hh)).2
theorem Half.read {R:AM.Raw} {g:Geo} {slot m:Nat} {xs:List Nat} (h:Half R g slot m xs) (hs:slot < g.s) (hm:m ≠ 0) (hm2:m < 256 ^ 8) (hx:∀ x ∈ xs,x < 256) (hl:xs.length=g.k * 448) (hk:g.k<=(hits R g slot m g.n).length) {out:List Nat} {e:Nat} (hr:RdP R g (slot:Int) m out e):out=xs/\e=0:=by
 have hy:=why_at h.off hs
 rcases rdp_or h.ok hy hm hx hl (fun d hd hd'=>h.dat hm hm2 hd hd') hr with ⟨h1,h2⟩ | h1
 ·exact⟨h2,h1⟩
 ·subst h1
  unfold RdP at hr
  rw[Int.toNat_natCast] at hr
  rcases hr with ⟨a1,_,_⟩ | ⟨_,a2,_⟩ | ⟨_,_,a3,_⟩ | ⟨_,_,_,a4,_⟩
  ·exact absurd hy a1
  ·exact absurd a2 hm
  ·omega
  ·omega
theorem Half.heals {R:AM.Raw} {g:Geo} {slot m:Nat} {xs:List Nat} (h:Half R g slot m xs) (ok:R.Ok) (hf:R.fuse=0) (hs:slot < g.s) (hm:m ≠ 0) :
 (mendTo R g slot m (code g xs) g.n).1=0/\Wrote (mendTo R g slot m (code g xs) g.n).2 g slot m xs/\(mendTo R g slot m (code g xs) g.n).2.off=false/\(mendTo R g slot m (code g xs) g.n).2.fuse=0/\(∀ d,d < g.n->(mendTo R g slot m (code g xs) g.n).2.on (d:Int)=true):=by
 obtain⟨h1,h2,h3⟩:=mendTo_sure h.ok hs h.off hf (m:=m) (E:=code g xs) (fun d hd=>code_row g xs hd) g.n (Nat.le_refl _)
 obtain⟨_,h5⟩:=mendTo_done ok (g:=g) (slot:=slot) (m:=m) (E:=code g xs) code_small9 g.n h1
 have hk:=mendTo_kept R g slot m (code g xs) g.n
 refine⟨h1,fun d hd hon i hi=>?_,h2,h3,fun d hd=>by rw[hk.on];exact h.on d hd⟩
 rw[h5 d i hi]
 by_cases c:want R g slot m d=true
 ·rw[if_pos ⟨hd,c⟩]
 ·rw[if_neg (fun hh=>c hh.2)]
  rw[want_on (h.on d hd)] at c
  exact h.just d hd (by simpa using c) i hi
theorem count_all {R:AM.Raw} {g:Geo} {slot m:Nat}:∀ j:Nat,(∀ d:Nat,d < j->R.on (d:Int)=true)->(wants R g slot m j).length+(hits R g slot m j).length=j
 | 0,_=>by simp[wants,hits]
 | j+1,h=>by
   have ih:=count_all (R:=R) (g:=g) (slot:=slot) (m:=m) j (fun d hd=>h d (by omega))
   rw[wants_succ,hits_succ,want_on (h j (by omega)),List.length_append,List.length_append]
   cases has R g slot m j <;> simp <;> omega
theorem Wrote.none {R:AM.Raw} {g:Geo} {slot m:Nat} {xs:List Nat} (h:Wrote R g slot m xs) (hm:m ≠ 0) (hm2:m < 256 ^ 8):wants R g slot m g.n=[]:=by
 unfold wants
 rw[List.filter_eq_nil_iff]
 intro d hd
 have:=h.has hm hm2 (List.mem_range.1 hd)
 unfold want
 rw[this]
 simp
theorem blank_sec (i:Nat) (hi:i < 8):(CM.secs 0 (List.replicate 448 0) 8).getD i []=AM.zs 64:=by
 rw[CM.secs_get 0 _ hi]
 have e:CM.ld (List.replicate 448 0) i=List.replicate 56 0:=by
  unfold CM.ld
  rw[List.drop_replicate,List.take_replicate]
  congr 1
  omega
 rw[e]
 decide
theorem blank_has {R:AM.Raw} {g:Geo} {slot m d:Nat} (hm:m ≠ 0) (h:∀ i,i < 8->cont R.C g slot d i=AM.zs 64):has R g slot m d=false:=by
 cases c:has R g slot m d
 ·rfl
 ·exfalso
  have ho:=has_on c
  have hs:sects R g slot d=CM.secs 0 (List.replicate 448 0) 8:=(sects_on ho _ _).trans (sectTo_cont (CM.secs_len _ _ _) (fun i hi=>(h i hi).trans (blank_sec i hi).symm))
  unfold has at c
  simp only[Bool.and_eq_true,beq_iff_eq] at c
  have h2:=c.2
  unfold numD CM.tN at h2
  rw[hs,blank_sec 0 (by omega)] at h2
  have h3:SM.val (AM.zs 64) 8=0:=by decide
  rw[h3] at h2
  split at h2 <;> omega
structure Gaps (R:AM.Raw) (g:Geo) (slot m:Nat) (xs:List Nat) (l:List Nat):Prop where
 ok:g.Ok R
 off:R.off=false
 fuse:R.fuse=0
 on:∀ d,d < g.n->R.on (d:Int)=true
 full:∀ d,d < g.n->d ∉ l->∀ i,i < 8->cont R.C g slot d i=chk g m xs d i
 gap:∀ d,d < g.n->d ∈ l->∀ i,i < 8->cont R.C g slot d i=AM.zs 64
theorem Gaps.has_eq {R:AM.Raw} {g:Geo} {slot m:Nat} {xs l:List Nat} (h:Gaps R g slot m xs l) (hm:m ≠ 0) (hm2:m < 256 ^ 8) {d:Nat} (hd:d < g.n):has R g slot m d=!(decide (d ∈ l)):=by
 by_cases c:d ∈ l
 ·rw[decide_eq_true c,blank_has hm (h.gap d hd c)];rfl
 ·rw[decide_eq_false c,(chunk_of (h.on d hd) hd hm hm2 (h.full d hd c)).1];rfl
theorem Gaps.half {R:AM.Raw} {g:Geo} {slot m:Nat} {xs l:List Nat} (h:Gaps R g slot m xs l) (hm:m ≠ 0) (hm2:m < 256 ^ 8):Half R g slot m xs:=⟨h.ok,h.off,h.on,fun d hd hh=>by
 rw[h.has_eq hm hm2 hd] at hh
 exact h.full d hd (by simpa using hh)⟩
theorem Gaps.wants {R:AM.Raw} {g:Geo} {slot m:Nat} {xs l:List Nat} (h:Gaps R g slot m xs l) (hm:m ≠ 0) (hm2:m < 256 ^ 8):wants R g slot m g.n=(List.range g.n).filter (fun d=>decide (d ∈ l)):=by
 unfold SP.wants
 refine List.filter_congr fun d hd=>?_
 have hd':=List.mem_range.1 hd
 rw[want_on (h.on d hd'),h.has_eq hm hm2 hd']
 simp
theorem renew {R:AM.Raw} {g:Geo} (hg:g.Ok R) {d:Nat} (hd:R.on (d:Int)=true):(R.lose (d:Int)).1=0/\((R.lose (d:Int)).2.replace (d:Int)).1=0/\((R.lose (d:Int)).2.replace (d:Int)).2.off=R.off/\((R.lose (d:Int)).2.replace (d:Int)).2.fuse=R.fuse/\(R.L=[]->((R.lose (d:Int)).2.replace (d:Int)).2.L=[])/\((R.lose (d:Int)).2.replace (d:Int)).2.L.length<=R.L.length /\
 ((R.lose (d:Int)).2.replace (d:Int)).2.C=R.C.set d (some (AM.zs (R.n * 64)))/\((R.lose (d:Int)).2.replace (d:Int)).2.n=R.n:=by
 obtain⟨h1,h2,xs,hx⟩:=AM.on_iff hd
 have hf:R.find (d:Int)=0:=by unfold AM.Raw.find;rw[if_pos ⟨h1,h2⟩]
 have e:R.lose (d:Int)=(0,R.lost d):=by
  unfold AM.Raw.lose
  rw[if_neg (by omega),if_pos hd,Int.toNat_natCast]
 rw[e]
 have hf2:(R.lost d).find (d:Int)=0:=by
  unfold AM.Raw.find AM.Raw.lost
  rw[if_pos ⟨h1,by simpa using h2⟩]
 have ho2:(R.lost d).on (d:Int)=false:=by
  rw[on_iff_C]
  have hl:d < R.C.length:=by omega
  simp[AM.Raw.lost,List.getD,hl]
 have e2:(R.lost d).replace (d:Int)=(0,(R.lost d).blank d):=by
  unfold AM.Raw.replace
  rw[if_neg (by omega),if_neg (by rw[ho2];decide),Int.toNat_natCast]
 dsimp only
 rw[e2]
 refine⟨rfl,rfl,rfl,rfl,fun hL=>?_,List.length_filter_le _ _,?_,rfl⟩
 ·show R.L.filter _=[]
  rw[hL];rfl
 ·show (R.C.set d none).set d _=_
  rw[List.set_set]
  rfl
theorem Gaps.step {R:AM.Raw} {g:Geo} {slot m:Nat} {xs l:List Nat} (h:Gaps R g slot m xs l) (hs:slot < g.s) {d:Nat} (hd:d < g.n):Gaps ((R.lose (d:Int)).2.replace (d:Int)).2 g slot m xs (l++[d]):=by
 obtain⟨_,_,h3,h4,_,_,h6,h7⟩:=renew h.ok (h.on d hd)
 have hl:d < R.C.length:=by rw[h.ok.len];exact hd
 have hc:∀ e i,i < 8->cont ((R.lose (d:Int)).2.replace (d:Int)).2.C g slot e i=if e=d then AM.zs 64 else cont R.C g slot e i:=fun e i hi=>by
  unfold cont
  rw[h6]
  split
  ·rename_i c
   subst c
   rw[AM.look_at _ (xs:=AM.zs (R.n * 64)) (by simp[hl])]
   exact AM.sec_zs (fitG h.ok hs hi)
  ·rename_i c
   unfold AM.look
   simp[List.getD,Ne.symm c]
 refine⟨⟨h.ok.k1,h.ok.kn,h.ok.n255,h.ok.s1,h.ok.s2,by rw[h7];exact h.ok.room,by rw[h6,List.length_set];exact h.ok.len⟩,h3.trans h.off,h4.trans h.fuse,fun e he=>?_,fun e he hne i hi=>?_,fun e he hin i hi=>?_⟩
 ·rw[on_iff_C,h6]
  by_cases c:e=d
  ·subst c;simp[List.getD,hl]
  ·have:=h.on e he
   rw[on_iff_C] at this
   simpa [List.getD,Ne.symm c] using this
 ·rw[hc e i hi,if_neg (fun c=>hne (by simp[c]))]
  exact h.full e he (fun c=>hne (by simp[c])) i hi
 ·rw[hc e i hi]
  split
  ·rfl
  ·rename_i c
   refine h.gap e he ?_ i hi
   rcases List.mem_append.1 hin with h8 | h8
   ·exact h8
   ·exact absurd (List.mem_singleton.1 h8) c
theorem Wrote.gaps {R:AM.Raw} {g:Geo} {slot m:Nat} {xs:List Nat} (h:Wrote R g slot m xs) (hg:g.Ok R) (h0:R.off=false) (hf:R.fuse=0) (hon:∀ d,d < g.n->R.on (d:Int)=true):Gaps R g slot m xs []:=⟨hg,h0,hf,hon,fun d hd _=>h d hd (hon d hd),by simp⟩
theorem missL_at {R:AM.Raw} {g:Geo} {slot m:Nat} (h0:R.off=false) (hs:slot < g.s) (hm:m ≠ 0):missL R g (slot:Int) m=wants R g slot m g.n:=by
 unfold missL
 rw[if_pos (askE_at h0 hs hm),Int.toNat_natCast]
theorem marg_at {R:AM.Raw} {g:Geo} {slot m:Nat} (h0:R.off=false) (hs:slot < g.s) (hm:m ≠ 0):marg R g (slot:Int) m=((hits R g slot m g.n).length:Int) - (g.k:Int):=by
 unfold marg
 rw[if_pos (askE_at h0 hs hm),Int.toNat_natCast]
theorem slotM_at (R:AM.Raw) (g:Geo) (slot m:Nat) (out:List Nat):slotM R g (slot:Int) m out 0=mendTo R g slot m (code g out) g.n:=by
 unfold slotM
 rw[if_pos rfl,Int.toNat_natCast]
theorem slotN_at (R:AM.Raw) (g:Geo) (slot m:Nat) (out:List Nat):slotN R g (slot:Int) m out 0=if (mendTo R g slot m (code g out) g.n).1=0 then (wants R g slot m g.n).length else 0:=by
 unfold slotN
 rw[slotM_at,Int.toNat_natCast]
theorem Half.slot {R:AM.Raw} {g:Geo} {slot m:Nat} {xs:List Nat} (h:Half R g slot m xs) (ok:R.Ok) (hf:R.fuse=0) (hs:slot < g.s) (hm:m ≠ 0):∃ R',slotM R g (slot:Int) m xs 0=(0,R')/\slotN R g (slot:Int) m xs 0=(wants R g slot m g.n).length/\Wrote R' g slot m xs/\R'.off=false/\R'.fuse=0/\(∀ d,d < g.n->R'.on (d:Int)=true)/\g.Ok R':=by
 obtain⟨h1,h2,h3,h4,h5⟩:=h.heals ok hf hs hm
 have hk:=mendTo_kept R g slot m (code g xs) g.n
 refine⟨(mendTo R g slot m (code g xs) g.n).2,?_,?_,h2,h3,h4,h5,h.ok.kept hk⟩
 ·rw[slotM_at]
  exact Prod.ext h1 rfl
 ·rw[slotN_at,if_pos h1]
end SP
open Go.RowKit
def gA:SP.Geo:=⟨2,3,1,3⟩
structure Iaw (F:Nat->Prop) (w:World) (v:Value) (l:List Int):Prop where
 vec:IVec w v l
 off:l ≠ []->∀ b,v.ownBlock=some b->¬ F b
theorem IVec.place {w:World} {v:Value} {l:List Int} (h:IVec w v l) (hne:l ≠ []):∃ b,v.ownBlock=some b/\b < w.heap.size:=by
 obtain⟨p,cap,e,h1,h2,h3⟩:=h.form
 obtain⟨b,off,e2,h4⟩:=h3 hne
 refine⟨b,by rw[e,e2];rfl,?_⟩
 have h6:=h4 0 (by cases l with
  | nil=>exact absurd rfl hne
  | cons x l=>simp)
 exact World.block_lt_of_cell? w _ h6
theorem Iaw.step {F F':Nat->Prop} {w w':World} {v:Value} {l:List Int} (h:Iaw F w v l) (s:Step F w F' w'):Iaw F' w' v l:=by
 refine⟨⟨h.vec.len,?_⟩,fun hne b hb hf=>?_⟩
 ·obtain⟨p,cap,e,h1,h2,h3⟩:=h.vec.form
  refine⟨p,cap,e,h1,h2,fun hne=>?_⟩
  obtain⟨b,off,e2,h4⟩:=h3 hne
  exact⟨b,off,e2,fun j hj=>s.upd.cell (h4 j hj) (h.off hne b (by rw[e,e2];rfl))⟩
 ·rcases s.sub b hf with h1 | h1
  ·exact h.off hne b hb h1
  ·obtain⟨b',hb',hlt⟩:=h.vec.place hne
   rw[hb] at hb'
   obtain rfl:=Option.some.inj hb'
   omega
theorem IOwn.aw {F:Nat->Prop} {w w':World} {v:Value} {l:List Int} (h:IOwn w.heap.size w' v l) (hF:∀ i,F i->i < w.heap.size):Iaw F w' v l :=
 ⟨h.ivec,fun _ b hb hf=>by have h1:=(h.row.lt b hb).1;have h2:=hF b hf;omega⟩
def Run (w0 w:World) (s a:Nat) (g:SP.Geo) (R:AM.Raw) (vs:List (Value × List Nat)) (ns:List (Value × List Int)):Prop :=
 ∃ F,SI F w s a g R/\Base w0 F w/\(∀ p ∈ vs,Aw F w p.1 p.2)/\(∀ p ∈ ns,Iaw F w p.1 p.2)
section
variable {w0 w w':World} {s a:Nat} {g:SP.Geo} {R R':AM.Raw} {vs:List (Value × List Nat)} {ns:List (Value × List Int)}
theorem Run.step {F F':Nat->Prop} (i':SI F' w' s a g R') (st:Step F w F' w') (b:Base w0 F w) (hv:∀ p ∈ vs,Aw F w p.1 p.2) (hn:∀ p ∈ ns,Iaw F w p.1 p.2):Run w0 w' s a g R' vs ns :=
 ⟨F',i',b.step st,fun p hp=>(hv p hp).step st,fun p hp=>(hn p hp).step st⟩
theorem Run.keep (h:Run w0 w s a g R vs ns) (gr:w.grownBy w' none):Run w0 w' s a g R vs ns:=by
 obtain⟨F,i,b,hv,hn⟩:=h
 exact Run.step (i.keep gr) (Step.new gr) b hv hn
theorem Run.grown (h:Run w0 w s a g R vs ns):w0.grownBy w none:=by
 obtain⟨F,i,b,_⟩:=h
 exact b.grown
theorem Run.raw (h:Run w0 w s a g R vs ns):R.Ok:=by
 obtain⟨F,i,b,_⟩:=h
 exact i.i.ok
theorem Run.addV (h:Run w0 w s a g R vs ns) {v:Value} {xs:List Nat} (o:Own w.heap.size w' v xs) (gr:w.grownBy w' none):Run w0 w' s a g R ((v,xs) :: vs) ns:=by
 obtain⟨F,i,b,hv,hn⟩:=h
 refine⟨F,i.keep gr,b.keep gr,fun p hp=>?_,fun p hp=>(hn p hp).step (Step.new gr)⟩
 rcases List.mem_cons.1 hp with rfl | hp
 ·exact o.aw i.i.lt
 ·exact (hv p hp).keep gr
theorem Run.addN (h:Run w0 w s a g R vs ns) {v:Value} {l:List Int} (o:IOwn w.heap.size w' v l) (gr:w.grownBy w' none):Run w0 w' s a g R vs ((v,l) :: ns):=by
 obtain⟨F,i,b,hv,hn⟩:=h
 refine⟨F,i.keep gr,b.keep gr,fun p hp=>(hv p hp).keep gr,fun p hp=>?_⟩
 rcases List.mem_cons.1 hp with rfl | hp
 ·exact o.aw i.i.lt
 ·exact (hn p hp).step (Step.new gr)
theorem Run.vec (h:Run w0 w s a g R vs ns) {v:Value} {xs:List Nat} (hm:(v,xs) ∈ vs):Vec w v xs:=by
 obtain⟨F,i,b,hv,hn⟩:=h
 exact (hv _ hm).vec
theorem Run.nums (h:Run w0 w s a g R vs ns) {v:Value} {l:List Int} (hm:(v,l) ∈ ns):IVec w v l:=by
 obtain⟨F,i,b,hv,hn⟩:=h
 exact (hn _ hm).vec
theorem Duo.run {F G:Nat->Prop} {t r:Nat} (h:Duo F G w0 w s a t r g R):Run w0 w s a g R [] []:=⟨F,h.i,⟨h.gr,h.bi⟩,by simp,by simp⟩
theorem Run.arr (h:Run w0 w s a g R vs ns):Calls Tryz.prog 11 #[ptr s] w fun e w'=>e=.returned (ptr a)/\w'=w:=by
 obtain⟨F,i,_⟩:=h
 exact sarray_yes i
theorem si_lose {F:Nat->Prop} (h:SI F w s a g R) (hL:R.L.length<=1000000) (d:Int):Calls Tryz.prog 16 #[ptr a,.int .i64 d] w fun e w'=>e=.returned (.int .i64 ((R.lose d).1:Int))/\∃ F',SI F' w' s a g (R.lose d).2/\Step F w F' w':=by
 refine (lose_at h.i hL rfl rfl).mono ?_
 rintro e w' ⟨rfl,F',i,st⟩
 exact⟨rfl,F',h.step i st (SP.lose_geo h.ok d),st⟩
theorem replace_kept9 (h:g.Ok R) (d:Int):g.Ok (R.replace d).2:=by
 have hn:(R.replace d).2.n=R.n/\(R.replace d).2.C.length=R.C.length:=by
  unfold AM.Raw.replace
  split
  ·exact⟨rfl,rfl⟩
  ·split
   ·exact⟨rfl,rfl⟩
   ·exact⟨rfl,by simp[AM.Raw.blank]⟩
 exact⟨h.k1,h.kn,h.n255,h.s1,h.s2,by rw[hn.1];exact h.room,by rw[hn.2];exact h.len⟩
theorem Run.lose (h:Run w0 w s a g R vs ns) {d:Int} {c:Nat} (hL:R.L.length<=1000000) (hc:R.lose d=(c,R')):Calls Tryz.prog 16 #[ptr a,.int .i64 d] w fun e w'=>e=.returned (.int .i64 (c:Int))/\Run w0 w' s a g R' vs ns:=by
 obtain⟨F,i,b,hv,hn⟩:=h
 refine (si_lose i hL d).mono ?_
 rw[hc]
 rintro e w' ⟨rfl,F',i',st⟩
 exact⟨rfl,Run.step i' st b hv hn⟩
theorem Run.replace (h:Run w0 w s a g R vs ns) {d:Int} {c:Nat} (hc:R.replace d=(c,R')):Calls Tryz.prog 17 #[ptr a,.int .i64 d] w fun e w'=>e=.returned (.int .i64 (c:Int))/\Run w0 w' s a g R' vs ns:=by
 obtain⟨F,i,b,hv,hn⟩:=h
 have hg:=replace_kept9 i.ok d
 rw[hc] at hg
 refine (replace_at i.i rfl rfl).mono ?_
 rw[hc]
 rintro e w' ⟨rfl,F',i',st⟩
 exact⟨rfl,Run.step (i.step i' st hg) st b hv hn⟩
theorem Run.write (h:Run w0 w s a g R vs ns) (hL:R.L.length<=990000) {slot:Int} {m c:Nat} {v:Value} {xs:List Nat} (hm:(v,xs) ∈ vs) (hc:SP.write R g slot m xs=(c,R')):Calls Tryz.prog 13 #[ptr s,.int .i64 slot,.int .u64 (m:Int),v] w fun e w'=>e=.returned (.int .i64 (c:Int))/\Run w0 w' s a g R' vs ns:=by
 obtain⟨F,i,b,hv,hn⟩:=h
 refine (swrite_all i slot m (hv _ hm) hL).mono ?_
 rw[hc]
 rintro e w' ⟨rfl,F',i',st⟩
 exact⟨rfl,Run.step i' st b hv hn⟩
theorem Run.read (h:Run w0 w s a g R vs ns) {slot:Int} {m er:Nat} {out:List Nat} (hr:∀ out' er',SP.RdP R g slot m out' er'->out'=out/\er'=er):Calls Tryz.prog 22 #[ptr s,.int .i64 slot,.int .u64 (m:Int)] w fun e w'=>∃ p n c,e=.returned (.tuple #[.slice p n c,.int .i64 (er:Int)])/\Run w0 w' s a g R ((.slice p n c,out) :: vs) ns:=by
 obtain⟨F,i,b,hv,hn⟩:=h
 refine (sread_all i slot m).mono ?_
 rintro e w' ⟨v,er',out',rfl,h1,h2,h3⟩
 obtain⟨rfl,rfl⟩:=hr _ _ h1
 obtain⟨p,n,c,rfl,_⟩:=h2.vec.opened
 have H:Run w0 w s a g R vs ns:=⟨F,i,b,hv,hn⟩
 exact⟨p,n,c,rfl,H.addV h2 h3⟩
theorem Run.missing (h:Run w0 w s a g R vs ns) {slot:Int} {m er:Nat} {l:List Nat} (he:SP.askE R g slot m=er) (hl:SP.missL R g slot m=l):Calls Tryz.prog 18 #[ptr s,.int .i64 slot,.int .u64 (m:Int)] w fun e w'=>∃ p c,e=.returned (.tuple #[.slice p l.length c,.int .i64 (er:Int)])/\Run w0 w' s a g R vs ((.slice p l.length c,SP.ints l) :: ns):=by
 obtain⟨F,i,b,hv,hn⟩:=h
 refine (mmiss_all i slot m).mono ?_
 rw[he,hl]
 rintro e w' ⟨v,rfl,h2,h3⟩
 obtain⟨p,n,c,rfl,hq⟩:=h2.ivec.opened
 rw[SP.ints_len] at hq
 subst hq
 have H:Run w0 w s a g R vs ns:=⟨F,i,b,hv,hn⟩
 exact⟨p,c,rfl,H.addN h2 h3⟩
theorem Run.margin (h:Run w0 w s a g R vs ns) {slot n:Int} {m er:Nat} (he:SP.askE R g slot m=er) (hl:SP.marg R g slot m=n):Calls Tryz.prog 19 #[ptr s,.int .i64 slot,.int .u64 (m:Int)] w fun e w'=>e=.returned (.tuple #[.int .i64 n,.int .i64 (er:Int)])/\Run w0 w' s a g R vs ns:=by
 obtain⟨F,i,b,hv,hn⟩:=h
 refine (mmarg_all i slot m).mono ?_
 rw[he,hl]
 rintro e w' ⟨rfl,h3⟩
 have H:Run w0 w s a g R vs ns:=⟨F,i,b,hv,hn⟩
 exact⟨rfl,H.keep h3⟩
theorem Run.slot (h:Run w0 w s a g R vs ns) (hL:R.L.length<=980000) {slot:Int} {m er c n:Nat} {out:List Nat} (hr:∀ out' er',SP.RdP R g slot m out' er'->out'=out/\er'=er) (hc:SP.slotM R g slot m out er=(c,R')) (hn':SP.slotN R g slot m out er=n):Calls Tryz.prog 21 #[ptr s,.int .i64 slot,.int .u64 (m:Int)] w fun e w'=>e=.returned (.tuple #[.int .i64 (n:Int),.int .i64 (c:Int)])/\Run w0 w' s a g R' vs ns:=by
 obtain⟨F,i,b,hv,hn⟩:=h
 refine (mslot_all i slot m hL).mono ?_
 rintro e w' ⟨out',er',h1,rfl,F',i',st⟩
 obtain⟨rfl,rfl⟩:=hr _ _ h1
 rw[hc] at i' ⊢
 rw[hn']
 exact⟨rfl,Run.step i' st b hv hn⟩
end
end Go.Proofs.YtaalagkbpeinkaaGreat
namespace Go.Proofs.YtaalagkbpeinkaaGreat
def gW:SP.Geo:=⟨2,4,1,0⟩
def QW0:AM.Raw:=AM.Raw.new 4 8
theorem gW_ok:gW.Ok QW0:=SP.new_geo (k:=2) (N:=4) (S:=1) (f:=0) (n:=8) rfl (by decide) (by decide) (by decide) (by decide) (by decide)
theorem wake_states:∃ R1 R2 R3 R4 R5 R6 R7,SP.write QW0 gW ((0:Nat):Int) 5 (datL 2 9)=(0,R1)/\R1.L.length<=32/\R1.lose ((1:Nat):Int)=(0,R2)/\SP.missL R2 gW ((0:Nat):Int) 5=[]/\SP.marg R2 gW ((0:Nat):Int) 5=1/\R2.off=false/\R2.replace ((1:Nat):Int)=(0,R3)/\SP.missL R3 gW ((0:Nat):Int) 5=[1]/\R3.off=false/\R3.L.length<=32 /\
 (∀ out e,R3.Ok->SP.RdP R3 gW ((0:Nat):Int) 5 out e->out=datL 2 9/\e=0)/\(R3.Ok->SP.slotM R3 gW ((0:Nat):Int) 5 (datL 2 9) 0=(0,R4)/\SP.slotN R3 gW ((0:Nat):Int) 5 (datL 2 9) 0=1)/\R4.L.length<=64 /\
 R4.lose ((0:Nat):Int)=(0,R5)/\R5.L.length<=64/\R5.lose ((2:Nat):Int)=(0,R6)/\R6.L.length<=64/\(R3.Ok->∀ out e,SP.RdP R6 gW ((0:Nat):Int) 5 out e->out=datL 2 9/\e=0)/\R6.lose ((3:Nat):Int)=(0,R7)/\R7.L.length<=64/\(R3.Ok->∀ out e,SP.RdP R7 gW ((0:Nat):Int) 5 out e->out=[]/\e=20):=by
 have h0:=SP.new_ok (N:=4) (n:=8) (by decide) (by decide) (by decide) (by decide)
 have hons:=SP.new_ons (N:=4) (n:=8) gW_ok rfl (by decide) (by decide) (by decide) (by decide)
 have hx:=datL_small 2 9
 have hl:=datL_len 2 9
 obtain⟨a1,a2,a3,a4,a5⟩:=SP.write_sure (R:=QW0) h0.1 gW_ok (slot:=0) (m:=5) (by decide) rfl rfl (by decide) hx hl (by show 2<=QW0.ons;unfold QW0;rw[hons];decide)
 have hk:=SP.write_kept QW0 gW ((0:Nat):Int) 5 (datL 2 9)
 have hll:=SP.write_len (R:=QW0) (g:=gW) ((0:Nat):Int) 5 (datL 2 9) writes_len8
 have hon0:∀ d:Nat,QW0.on (d:Int)=decide (d < 4):=h0.2
 generalize hW:SP.write QW0 gW ((0:Nat):Int) 5 (datL 2 9)=W at *
 obtain⟨c,R1⟩:=W
 dsimp only at a1 a2 a3 a4 a5 hk hll
 subst a1
 have hg1:gW.Ok R1:=gW_ok.kept hk
 have hon1:∀ d:Nat,d < 4->R1.on (d:Int)=true:=fun d hd=>by rw[hk.on,hon0];exact decide_eq_true hd
 have hL1:R1.L.length<=32:=hll
 obtain⟨l1,l2⟩:=SP.lose_yes (R:=R1) (d:=1) (hon1 1 (by decide))
 obtain⟨_,r2,r3,r4,_,r6,_,_⟩:=SP.renew hg1 (hon1 1 (by decide))
 have W2:SP.Wrote (R1.lose ((1:Nat):Int)).2 gW 0 5 (datL 2 9):=a2.lose _
 have o2:(R1.lose ((1:Nat):Int)).2.off=false:=(SP.lose_off _ _).trans a3
 have g2:gW.Ok (R1.lose ((1:Nat):Int)).2:=SP.lose_geo hg1 _
 have on2:∀ d:Nat,d < 4->(R1.lose ((1:Nat):Int)).2.on (d:Int)=!(d==1):=fun d hd=>by rw[l2,hon1 d hd];rfl
 have n2:(R1.lose ((1:Nat):Int)).2.ons=3:=by
  rw[<- SP.ons_filter g2]
  have e:(List.range gW.n).filter (fun d:Nat=>(R1.lose ((1:Nat):Int)).2.on (d:Int))=(List.range 4).filter (fun d:Nat=>!(d==1)):=List.filter_congr fun d hd=>on2 d (List.mem_range.1 hd)
  rw[e]
  decide
 have G1:SP.Gaps R1 gW 0 5 (datL 2 9) []:=a2.gaps hg1 a3 a4 hon1
 have G3:SP.Gaps ((R1.lose ((1:Nat):Int)).2.replace ((1:Nat):Int)).2 gW 0 5 (datL 2 9) [1]:=G1.step (by decide) (d:=1) (by decide)
 have e1:R1.lose ((1:Nat):Int)=(0,(R1.lose ((1:Nat):Int)).2):=Prod.ext l1 rfl
 generalize (R1.lose ((1:Nat):Int)).2=R2 at *
 have e2:R2.replace ((1:Nat):Int)=(0,(R2.replace ((1:Nat):Int)).2):=Prod.ext r2 rfl
 generalize (R2.replace ((1:Nat):Int)).2=R3 at *
 have w3:SP.wants R3 gW 0 5 gW.n=[1]:=by
  rw[G3.wants (by decide) (by decide)]
  decide
 have H3:=G3.half (by decide) (by decide)
 have hc3:=SP.count_all (R:=R3) (g:=gW) (slot:=0) (m:=5) gW.n H3.on
 rw[w3] at hc3
 have hk3:gW.k<=(SP.hits R3 gW 0 5 gW.n).length:=by
  have:(SP.hits R3 gW 0 5 gW.n).length=3:=by
   have h4:gW.n=4:=rfl
   rw[h4] at hc3 ⊢
   simp at hc3
   omega
  rw[this]
  decide
 obtain⟨R4,s1,s2,s3,s4,s5,s6,s7⟩:∃ R4,(R3.Ok->SP.slotM R3 gW ((0:Nat):Int) 5 (datL 2 9) 0=(0,R4))/\(R3.Ok->SP.slotN R3 gW ((0:Nat):Int) 5 (datL 2 9) 0=1)/\(R3.Ok->SP.Wrote R4 gW 0 5 (datL 2 9))/\R4.off=false/\(∀ d,d < gW.n->R4.on (d:Int)=true)/\gW.Ok R4/\R4.L.length<=64:=by
  have hm:=SP.mendTo_sure H3.ok (slot:=0) (m:=5) (by decide) H3.off G3.fuse (E:=SP.code gW (datL 2 9)) (fun d hd=>SP.code_row gW _ hd) gW.n (Nat.le_refl _)
  have hk:=SP.mendTo_kept R3 gW 0 5 (SP.code gW (datL 2 9)) gW.n
  refine⟨(SP.mendTo R3 gW 0 5 (SP.code gW (datL 2 9)) gW.n).2,fun ok=>?_,fun ok=>?_,fun ok=>(H3.heals ok G3.fuse (by decide) (by decide)).2.1,hm.2.1,fun d hd=>by rw[hk.on];exact H3.on d hd,H3.ok.kept hk,?_⟩
  ·rw[SP.slotM_at]
   exact Prod.ext hm.1 rfl
  ·rw[SP.slotN_at,if_pos hm.1,w3];rfl
  ·have:=mendTo_len R3 gW 0 5 (SP.code gW (datL 2 9)) gW.n
   have h4:8 * gW.n=32:=rfl
   omega
 obtain⟨p1,p2⟩:=SP.lose_yes (R:=R4) (d:=0) (s5 0 (by decide))
 have e5:R4.lose ((0:Nat):Int)=(0,(R4.lose ((0:Nat):Int)).2):=Prod.ext p1 rfl
 have W5:=fun ok=>(s3 ok).lose ((0:Nat):Int)
 have o5:(R4.lose ((0:Nat):Int)).2.off=false:=(SP.lose_off _ _).trans s4
 have g5:gW.Ok (R4.lose ((0:Nat):Int)).2:=SP.lose_geo s6 _
 have L5:(R4.lose ((0:Nat):Int)).2.L.length<=64:=Nat.le_trans (SP.lose_L _ _) s7
 have on5:∀ d:Nat,d < 4->(R4.lose ((0:Nat):Int)).2.on (d:Int)=!(d==0):=fun d hd=>by rw[p2,s5 d hd];rfl
 generalize (R4.lose ((0:Nat):Int)).2=R5 at *
 obtain⟨q1,q2⟩:=SP.lose_yes (R:=R5) (d:=2) (by rw[on5 2 (by decide)];decide)
 have e6:R5.lose ((2:Nat):Int)=(0,(R5.lose ((2:Nat):Int)).2):=Prod.ext q1 rfl
 have W6:=fun ok=>(W5 ok).lose ((2:Nat):Int)
 have o6:(R5.lose ((2:Nat):Int)).2.off=false:=(SP.lose_off _ _).trans o5
 have g6:gW.Ok (R5.lose ((2:Nat):Int)).2:=SP.lose_geo g5 _
 have L6:(R5.lose ((2:Nat):Int)).2.L.length<=64:=Nat.le_trans (SP.lose_L _ _) L5
 have on6:∀ d:Nat,d < 4->(R5.lose ((2:Nat):Int)).2.on (d:Int)=(!(d==0)&&!(d==2)):=fun d hd=>by rw[q2,on5 d hd]
 generalize (R5.lose ((2:Nat):Int)).2=R6 at *
 have n6:R6.ons=2:=by
  rw[<- SP.ons_filter g6]
  have e:(List.range gW.n).filter (fun d:Nat=>R6.on (d:Int))=(List.range 4).filter (fun d:Nat=>(!(d==0)&&!(d==2))):=List.filter_congr fun d hd=>on6 d (List.mem_range.1 hd)
  rw[e]
  decide
 obtain⟨t1,t2⟩:=SP.lose_yes (R:=R6) (d:=3) (by rw[on6 3 (by decide)];decide)
 have e7:R6.lose ((3:Nat):Int)=(0,(R6.lose ((3:Nat):Int)).2):=Prod.ext t1 rfl
 have W7:=fun ok=>(W6 ok).lose ((3:Nat):Int)
 have o7:(R6.lose ((3:Nat):Int)).2.off=false:=(SP.lose_off _ _).trans o6
 have g7:gW.Ok (R6.lose ((3:Nat):Int)).2:=SP.lose_geo g6 _
 have L7:(R6.lose ((3:Nat):Int)).2.L.length<=64:=Nat.le_trans (SP.lose_L _ _) L6
 have on7:∀ d:Nat,d < 4->(R6.lose ((3:Nat):Int)).2.on (d:Int)=(!(d==0)&&!(d==2)&&!(d==3)):=fun d hd=>by rw[t2,on6 d hd]
 generalize (R6.lose ((3:Nat):Int)).2=R7 at *
 have n7:R7.ons=1:=by
  rw[<- SP.ons_filter g7]
  have e:(List.range gW.n).filter (fun d:Nat=>R7.on (d:Int))=(List.range 4).filter (fun d:Nat=>(!(d==0)&&!(d==2)&&!(d==3))):=List.filter_congr fun d hd=>on7 d (List.mem_range.1 hd)
  rw[e]
  decide
 refine⟨R1,R2,R3,R4,R5,R6,R7,rfl,hL1,e1,?_,?_,o2,e2,?_,G3.off,Nat.le_trans r6 hL1,fun out e _ hr=>H3.read (by decide) (by decide) (by decide) hx hl hk3 hr,fun ok=>⟨s1 ok,s2 ok⟩,s7,e5,L5,e6,L6,fun ok out e hr=>((W6 ok).read g6 (by decide) (by decide) hx hl o6 (by decide) hr).1 (by rw[n6];decide),e7,L7,fun ok out e hr=>((W7 ok).read g7 (by decide) (by decide) hx hl o7 (by decide) hr).2 (by rw[n7];decide)⟩
 ·rw[SP.missL_at o2 (by decide) (by decide)]
  exact W2.none (by decide) (by decide)
 ·rw[SP.marg_at o2 (by decide) (by decide),W2.hits g2 (by decide) (by decide),n2]
  rfl
 ·rw[SP.missL_at G3.off (by decide) (by decide)]
  exact w3
end Go.Proofs.YtaalagkbpeinkaaGreat
