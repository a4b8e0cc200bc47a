/- Packed: Wak9, PlW9. -/
import Derived.Test.YtaalagkbpeinkaaGreatMp28
set_option linter.unusedSimpArgs false
set_option linter.unusedVariables false
set_option maxRecDepth 100000
namespace Go.Proofs.YtaalagkbpeinkaaGreat
open Go.RowKit
set_option maxHeartbeats 6400000 in
theorem wakes9 (w:World):Calls Tryz.prog 8 #[] w fun e w'=>e=.returned (.bool true)/\w.grownBy w' none:=by
 obtain⟨R1,R2,R3,R4,R5,R6,R7,f1,l1,f2,m2,n2,o2,f3,m3,o3,l3,r3,s3,l4,f5,l5,f6,l6,r6,f7,l7,r7⟩:=wake_states
 have F1:Hid (SP.write QW0 gW ((0:Nat):Int) 5 (datL 2 9)=(0,R1)/\R1.L.length<=32/\R1.lose ((1:Nat):Int)=(0,R2)):=⟨f1,l1,f2⟩
 have F2:Hid (SP.missL R2 gW ((0:Nat):Int) 5=[]/\SP.marg R2 gW ((0:Nat):Int) 5=1/\R2.off=false/\R2.replace ((1:Nat):Int)=(0,R3)):=⟨m2,n2,o2,f3⟩
 have F3:Hid (SP.missL R3 gW ((0:Nat):Int) 5=[1]/\R3.off=false/\R3.L.length<=32/\(∀ out e,R3.Ok->SP.RdP R3 gW ((0:Nat):Int) 5 out e->out=datL 2 9/\e=0)/\(R3.Ok->SP.slotM R3 gW ((0:Nat):Int) 5 (datL 2 9) 0=(0,R4)/\SP.slotN R3 gW ((0:Nat):Int) 5 (datL 2 9) 0=1)):=⟨m3,o3,l3,r3,s3⟩
 have F4:Hid (R4.L.length<=64/\R4.lose ((0:Nat):Int)=(0,R5)/\R5.L.length<=64/\R5.lose ((2:Nat):Int)=(0,R6)/\R6.L.length<=64/\R6.lose ((3:Nat):Int)=(0,R7)/\R7.L.length<=64):=⟨l4,f5,l5,f6,l6,f7,l7⟩
 have F5:Hid ((R3.Ok->∀ out e,SP.RdP R6 gW ((0:Nat):Int) 5 out e->out=datL 2 9/\e=0)/\(R3.Ok->∀ out e,SP.RdP R7 gW ((0:Nat):Int) 5 out e->out=[]/\e=20)):=⟨r6,r7⟩
 clear f1 l1 f2 m2 n2 o2 f3 m3 o3 l3 r3 s3 l4 f5 l5 f6 l6 r6 f7 l7 r7
 have DT:Hid (∀ w',Calls Tryz.prog 12 #[.int .i64 2,.int .u8 9] w' fun e w''=>∃ p n c,e=.returned (.slice p n c)/\Own w'.heap.size w'' (.slice p n c) (datL 2 9)/\w'.grownBy w'' none):=fun w'=>data_yes w' (k:=2) (x:=9) (by decide) (by decide) (by decide)
 go_enter Tryz.func8,Tryz.ntmps8
 go_wp2_with fail
 refine (made8_yes w (k:=2) (more:=2) (S:=1) (f:=0) (by decide) (by decide) (by decide) (by decide) (by decide) (by decide)).mono ?_
 rintro e w1 ⟨s,t,rfl,F,G,a,r,du⟩
 have H:Hid (Run w w1 s a gW QW0 [] []):=du.run
 clear du
 go_wp2_with fail
 refine (DT.out w1).mono ?_
 rintro e w2 ⟨p2,n2,c2,rfl,ox,gx⟩
 have h2:=H.out.addV ox gx
 clear ox gx
 have Hx:Hid (Run w w2 s a gW QW0 [(.slice p2 n2 c2,datL 2 9)] []):=h2
 clear h2 H
 have H:=Hx
 clear Hx
 go_wp2_with (first | (go_at_call 11;refine H.out.arr.mono ?_;rintro e w9 ⟨rfl,hw9⟩;obtain rfl:=hw9.symm;clear hw9) | fail)
 refine (H.out.write (slot:=((0:Nat):Int)) (m:=5) (by decide) (by simp) F1.out.1).mono ?_
 rintro e w3 ⟨rfl,h3⟩
 have Hx:Hid (Run w w3 s a gW R1 [(.slice p2 n2 c2,datL 2 9)] []):=h3
 clear h3 H
 have H:=Hx
 clear Hx
 go_wp2_with (first | (go_at_call 11;refine H.out.arr.mono ?_;rintro e w9 ⟨rfl,hw9⟩;obtain rfl:=hw9.symm;clear hw9) | fail)
 refine (H.out.lose (d:=((1:Nat):Int)) (by have:=F1.out.2.1;omega) F1.out.2.2).mono ?_
 rintro e w4 ⟨rfl,h4⟩
 have Hx:Hid (Run w w4 s a gW R2 [(.slice p2 n2 c2,datL 2 9)] []):=h4
 clear h4 H
 have H:=Hx
 clear Hx
 go_wp2_with (first | (go_at_call 11;refine H.out.arr.mono ?_;rintro e w9 ⟨rfl,hw9⟩;obtain rfl:=hw9.symm;clear hw9) | fail)
 refine (H.out.missing (slot:=((0:Nat):Int)) (m:=5) (SP.askE_at F2.out.2.2.1 (by decide) (by decide)) F2.out.1).mono ?_
 rintro e w5 ⟨p5,c5,rfl,h5⟩
 have Hx:Hid (Run w w5 s a gW R2 [(.slice p2 n2 c2,datL 2 9)] [(.slice p5 0 c5,[])]):=h5
 clear h5 H
 have H:=Hx
 clear Hx
 go_wp2_with (first | (go_at_call 11;refine H.out.arr.mono ?_;rintro e w9 ⟨rfl,hw9⟩;obtain rfl:=hw9.symm;clear hw9) | fail)
 refine (H.out.margin (slot:=((0:Nat):Int)) (m:=5) (SP.askE_at F2.out.2.2.1 (by decide) (by decide)) F2.out.2.1).mono ?_
 rintro e w6 ⟨rfl,h6⟩
 have Hx:Hid (Run w w6 s a gW R2 [(.slice p2 n2 c2,datL 2 9)] [(.slice p5 0 c5,[])]):=h6
 clear h6 H
 have H:=Hx
 clear Hx
 go_wp2_with (first | (go_at_call 11;refine H.out.arr.mono ?_;rintro e w9 ⟨rfl,hw9⟩;obtain rfl:=hw9.symm;clear hw9) | fail)
 refine (H.out.replace (d:=((1:Nat):Int)) F2.out.2.2.2).mono ?_
 rintro e w7 ⟨rfl,h7⟩
 have Hx:Hid (Run w w7 s a gW R3 [(.slice p2 n2 c2,datL 2 9)] [(.slice p5 0 c5,[])]):=h7
 clear h7 H
 have H:=Hx
 clear Hx
 have OK3:Hid R3.Ok:=H.out.raw
 go_wp2_with (first | (go_at_call 11;refine H.out.arr.mono ?_;rintro e w9 ⟨rfl,hw9⟩;obtain rfl:=hw9.symm;clear hw9) | fail)
 refine (H.out.missing (slot:=((0:Nat):Int)) (m:=5) (SP.askE_at F3.out.2.1 (by decide) (by decide)) F3.out.1).mono ?_
 rintro e w8 ⟨p8,c8,rfl,h8⟩
 have Hx:Hid (Run w w8 s a gW R3 [(.slice p2 n2 c2,datL 2 9)] [(.slice p8 1 c8,[1]),(.slice p5 0 c5,[])]):=h8
 clear h8 H
 have H:=Hx
 clear Hx
 go_wp2_with (first | (go_at_call 11;refine H.out.arr.mono ?_;rintro e w9 ⟨rfl,hw9⟩;obtain rfl:=hw9.symm;clear hw9) | fail)
 refine (H.out.slot (slot:=((0:Nat):Int)) (m:=5) (by have:=F3.out.2.2.1;omega) (fun o e h=>F3.out.2.2.2.1 o e OK3.out h) (F3.out.2.2.2.2 OK3.out).1 (F3.out.2.2.2.2 OK3.out).2).mono ?_
 rintro e w10 ⟨rfl,h10⟩
 have Hx:Hid (Run w w10 s a gW R4 [(.slice p2 n2 c2,datL 2 9)] [(.slice p8 1 c8,[1]),(.slice p5 0 c5,[])]):=h10
 clear h10 H
 have H:=Hx
 clear Hx
 obtain⟨b8,off8,rfl,hc8⟩:=(H.out.nums (v:=.slice p8 1 c8) (l:=[1]) (by simp)).spot (k:=0) (by simp)
 have d8:w10.cell? ⟨b8,off8,none⟩=some (.int .i64 1):=hc8
 clear hc8
 go_wp2_with (first | (go_at_call 11;refine H.out.arr.mono ?_;rintro e w9 ⟨rfl,hw9⟩;obtain rfl:=hw9.symm;clear hw9) | fail)
 refine (H.out.lose (d:=((0:Nat):Int)) (by have:=F4.out.1;omega) F4.out.2.1).mono ?_
 rintro e w11 ⟨rfl,h11⟩
 clear d8
 have Hx:Hid (Run w w11 s a gW R5 [(.slice p2 n2 c2,datL 2 9)] [(.slice (some ⟨b8,off8,none⟩) 1 c8,[1]),(.slice p5 0 c5,[])]):=h11
 clear h11 H
 have H:=Hx
 clear Hx
 go_wp2_with (first | (go_at_call 11;refine H.out.arr.mono ?_;rintro e w9 ⟨rfl,hw9⟩;obtain rfl:=hw9.symm;clear hw9) | fail)
 refine (H.out.lose (d:=((2:Nat):Int)) (by have:=F4.out.2.2.1;omega) F4.out.2.2.2.1).mono ?_
 rintro e w12 ⟨rfl,h12⟩
 have Hx:Hid (Run w w12 s a gW R6 [(.slice p2 n2 c2,datL 2 9)] [(.slice (some ⟨b8,off8,none⟩) 1 c8,[1]),(.slice p5 0 c5,[])]):=h12
 clear h12 H
 have H:=Hx
 clear Hx
 go_wp2_with (first | (go_at_call 11;refine H.out.arr.mono ?_;rintro e w9 ⟨rfl,hw9⟩;obtain rfl:=hw9.symm;clear hw9) | fail)
 refine (H.out.read (slot:=((0:Nat):Int)) (m:=5) (F5.out.1 OK3.out)).mono ?_
 rintro e w13 ⟨p13,n13,c13,rfl,h13⟩
 have Hx:Hid (Run w w13 s a gW R6 [(.slice p13 n13 c13,datL 2 9),(.slice p2 n2 c2,datL 2 9)] [(.slice (some ⟨b8,off8,none⟩) 1 c8,[1]),(.slice p5 0 c5,[])]):=h13
 clear h13 H
 have H:=Hx
 clear Hx
 go_wp2_with (first | (go_at_call 11;refine H.out.arr.mono ?_;rintro e w9 ⟨rfl,hw9⟩;obtain rfl:=hw9.symm;clear hw9) | fail)
 refine (H.out.lose (d:=((3:Nat):Int)) (by have:=F4.out.2.2.2.2.1;omega) F4.out.2.2.2.2.2.1).mono ?_
 rintro e w14 ⟨rfl,h14⟩
 have Hx:Hid (Run w w14 s a gW R7 [(.slice p13 n13 c13,datL 2 9),(.slice p2 n2 c2,datL 2 9)] [(.slice (some ⟨b8,off8,none⟩) 1 c8,[1]),(.slice p5 0 c5,[])]):=h14
 clear h14 H
 have H:=Hx
 clear Hx
 have SM:Hid (SP.slotM R7 gW ((0:Nat):Int) 5 [] 20=(20,R7)/\SP.slotN R7 gW ((0:Nat):Int) 5 [] 20=0):=by
  have e1:SP.slotM R7 gW ((0:Nat):Int) 5 [] 20=(20,R7):=rfl
  exact⟨e1,by unfold SP.slotN;rw[e1];rfl⟩
 go_wp2_with (first | (go_at_call 11;refine H.out.arr.mono ?_;rintro e w9 ⟨rfl,hw9⟩;obtain rfl:=hw9.symm;clear hw9) | fail)
 refine (H.out.slot (slot:=((0:Nat):Int)) (m:=5) (by have:=F4.out.2.2.2.2.2.2;omega) (F5.out.2 OK3.out) SM.out.1 SM.out.2).mono ?_
 rintro e w15 ⟨rfl,h15⟩
 have Hx:Hid (Run w w15 s a gW R7 [(.slice p13 n13 c13,datL 2 9),(.slice p2 n2 c2,datL 2 9)] [(.slice (some ⟨b8,off8,none⟩) 1 c8,[1]),(.slice p5 0 c5,[])]):=h15
 clear h15 H
 have H:=Hx
 clear Hx
 have V15:Hid (∀ w',w15.grownBy w' none->Vec w' (.slice p13 n13 c13) (datL 2 9)):=fun w' g'=>(H.out.vec (by simp)).keep g'
 have GW:Hid (w.grownBy w15 none):=H.out.grown
 have CZ:Hid (∀ w',w15.grownBy w' none->(convert 31 9 (.slice p13 n13 c13)).run Tryz.prog w'=.ok (.string (strOf (datL 2 9))) w'):=fun w' g'=>convert_vec (V15.out w' g')
 clear H F1 F2 F3 F4 F5 OK3 SM V15
 obtain⟨st,hst⟩:∃ st,st=strOf (datL 2 9):=⟨_,rfl⟩
 rw[<- hst] at CZ
 have HST:Hid (st=strOf (datL 2 9)):=hst
 clear hst
 go_wp2_with fail
 refine wp_region_held_drew (S:=fun w'=>(convert 31 9 (.slice p13 n13 c13)).run Tryz.prog w'=.ok (.string st) w') (by kernel_rfl) ?_ (fun hHeld=>?_)
 ·exact CZ.out _ (grown_drewN w15 1)
 refine wpAnyH_take (i:=0) (v:=?_) rfl (by kernel_rfl) (by kernel_rfl) (by kernel_rfl) (fun _ _ _ h=>h) (Or.inl ⟨by rfl,?_⟩) (by assumption) ?_
 rotate_left
 ·intro w hSw;(try dsimp only at hSw);first | (go_simp;done) | (go_simp;with_reducible rfl)
 simp only[Act.put,lay9]
 refine wpAnyH_take (i:=1) (v:=?_) rfl (by kernel_rfl) (by kernel_rfl) (by kernel_rfl) (fun _ _ _ h=>h) (Or.inl ⟨by rfl,?_⟩) (by assumption) ?_
 rotate_left
 ·intro w hSw;(try dsimp only at hSw);first | (go_simp;done) | (go_simp;with_reducible rfl)
 simp only[Act.put,lay9]
 refine wpAnyH_take (i:=2) (v:=?_) rfl (by kernel_rfl) (by kernel_rfl) (by kernel_rfl) (fun _ _ _ h=>h) (Or.inl ⟨by rfl,?_⟩) (by assumption) ?_
 rotate_left
 ·intro w hSw;(try dsimp only at hSw);first | (go_simp;done) | (go_simp;with_reducible rfl)
 simp only[Act.put,lay9]
 refine wpAnyH_take (i:=3) (v:=?_) rfl (by kernel_rfl) (by kernel_rfl) (by kernel_rfl) (fun _ _ _ h=>h) (Or.inl ⟨by rfl,?_⟩) (by assumption) ?_
 rotate_left
 ·intro w hSw;(try dsimp only at hSw);first | (go_simp;done) | (go_simp;with_reducible rfl)
 simp only[Act.put,lay9]
 refine wpAnyH_take (i:=4) (v:=?_) rfl (by kernel_rfl) (by kernel_rfl) (by kernel_rfl) (fun _ _ _ h=>h) (Or.inl ⟨by rfl,?_⟩) (by assumption) ?_
 rotate_left
 ·intro w hSw;(try dsimp only at hSw);first | (go_simp;done) | (go_simp;with_reducible rfl)
 simp only[Act.put,lay9]
 refine wpAnyH_ready (rs:=[5]) (by kernel_rfl) (by simp) ?_
 refine AllReadyH.cons rfl (fun K hK=>?_) AllReadyH.nil
 go_simp
 refine (DT.out _).mono ?_
 rintro e wa ⟨pa,na,ca,rfl,oa,ga⟩
 have GZ:Hid (w15.grownBy wa none):=grown_trans (grown_drewN w15 1) ga
 have cz:(convert 31 9 (.slice pa na ca)).run Tryz.prog wa=.ok (.string st) wa:=by rw[HST.out];exact convert_vec oa.vec
 clear oa ga
 refine hK.out _ _ (CZ.out _ GZ.out) (fun hHeld=>?_)
 clear hK K
 (try simp only[Act.put,lay9])
 refine wpAnyH_ready (rs:=[6]) (by kernel_rfl) (by simp) ?_
 refine AllReadyH.cons rfl (fun K hK=>?_) AllReadyH.nil
 go_simp
 refine hK.out _ _ (CZ.out _ GZ.out) (fun hHeld=>?_)
 clear hK K
 clear cz
 (try simp only[Act.put,lay9])
 refine wpAnyH_take (i:=7) (v:=?_) rfl (by kernel_rfl) (by kernel_rfl) (by kernel_rfl) (fun _ _ _ h=>h) (Or.inl ⟨by rfl,?_⟩) (by assumption) ?_
 rotate_left
 ·intro w hSw;(try dsimp only at hSw);first | (go_simp;done) | (go_simp;with_reducible rfl)
 simp only[Act.put,lay9]
 refine wpAnyH_take (i:=8) (v:=?_) rfl (by kernel_rfl) (by kernel_rfl) (by kernel_rfl) (fun _ _ _ h=>h) (Or.inl ⟨by rfl,?_⟩) (by assumption) ?_
 rotate_left
 ·intro w hSw;(try dsimp only at hSw);first | (go_simp;done) | (go_simp;with_reducible rfl)
 simp only[Act.put,lay9]
 refine wpAnyH_take (i:=9) (v:=?_) rfl (by kernel_rfl) (by kernel_rfl) (by kernel_rfl) (fun _ _ _ h=>h) (Or.inl ⟨by rfl,?_⟩) (by assumption) ?_
 rotate_left
 ·intro w hSw;(try dsimp only at hSw);first | (go_simp;done) | (go_simp;with_reducible rfl)
 simp only[Act.put,lay9]
 refine wpAnyH_take (i:=10) (v:=?_) rfl (by kernel_rfl) (by kernel_rfl) (by kernel_rfl) (fun _ _ _ h=>h) (Or.inl ⟨by rfl,?_⟩) (by assumption) ?_
 rotate_left
 ·intro w hSw;(try dsimp only at hSw);first | (go_simp;done) | (go_simp;with_reducible rfl)
 simp only[Act.put,lay9]
 refine wpAnyH_take (i:=11) (v:=?_) rfl (by kernel_rfl) (by kernel_rfl) (by kernel_rfl) (fun _ _ _ h=>h) (Or.inl ⟨by rfl,?_⟩) (by assumption) ?_
 rotate_left
 ·intro w hSw;(try dsimp only at hSw);first | (go_simp;done) | (go_simp;with_reducible rfl)
 simp only[Act.put,lay9]
 refine wpAnyH_take (i:=12) (v:=?_) rfl (by kernel_rfl) (by kernel_rfl) (by kernel_rfl) (fun _ _ _ h=>h) (Or.inl ⟨by rfl,?_⟩) (by assumption) ?_
 rotate_left
 ·intro w hSw;(try dsimp only at hSw);first | (go_simp;done) | (go_simp;with_reducible rfl)
 simp only[Act.put,lay9]
 refine wpAnyH_take (i:=13) (v:=?_) rfl (by kernel_rfl) (by kernel_rfl) (by kernel_rfl) (fun _ _ _ h=>h) (Or.inl ⟨by rfl,?_⟩) (by assumption) ?_
 rotate_left
 ·intro w hSw;(try dsimp only at hSw);first | (go_simp;done) | (go_simp;with_reducible rfl)
 simp only[Act.put,lay9]
 refine wpAnyH_done (by kernel_rfl) ?_ _
 go_wp2
 go_ret
 exact⟨rfl,grown_trans GW.out GZ.out⟩
theorem small_u9 (K:Int) (n:Nat) (h0:0 < n) (h1:n<=1000):∃ u a:Nat,a < n/\IntKind.u64.wrap K=(u:Int)/\((u:Int)).tmod (n:Int)=(a:Int)/\IntKind.u64.wrap (a:Int)=(a:Int)/\IntKind.i64.wrap (a:Int)=(a:Int)/\IntKind.i64.wrap (1+(a:Int))=((1+a:Nat):Int):=by
 obtain⟨u,hu⟩:∃ u:Nat,IntKind.u64.wrap K=(u:Int):=by
  rw[IntKind.wrap_u64]
  exact⟨(K % 18446744073709551616).toNat,by omega⟩
 have hlt:u % n < n:=Nat.mod_lt _ h0
 refine⟨u,u % n,hlt,hu,rfl,by rw[IntKind.wrap_u64];omega,IntWalk.i64_in _ (by omega),?_⟩
 have e:(1:Int)+((u % n:Nat):Int)=((1+u % n:Nat):Int):=by omega
 rw[e]
 exact IntWalk.i64_in _ (by omega)
theorem PlyS.arr {w0 w:World} {s a t r:Nat} {g:SP.Geo} {n:Nat} (h:PlyS w0 w s a t r g n):Calls Tryz.prog 11 #[ptr s] w fun e w'=>e=.returned (ptr a)/\w'=w:=by
 obtain⟨F,G,R,h1,_⟩:=h
 exact sarray_yes h1.i
namespace mendPlays
set_option maxHeartbeats 12800000 in
theorem walk {w:World} {pK pM pS:Int} {v:Value} {l:List ActR9} (hl:Acts9 w v l):Calls Tryz.prog 3 #[.int .i64 pK,.int .i64 pM,.int .i64 pS,v] w fun e w'=>e=.returned (.bool true)/\w.grownBy w' none:=by
 obtain⟨p,N,cap,rfl,hN⟩:=hl.opened
 have HA:Hid (Acts9 w (.slice p N cap) l):=hl
 have HN:Hid (N=l.length):=hN
 have hNb:N<=140737488351232:=by rw[hN];exact hl.len
 obtain⟨u1,a1,ha1,e11,e12,e13,e14,e15⟩:=small_u9 pK 4 (by decide) (by decide)
 obtain⟨u2,a2,ha2,e21,e22,e23,e24,e25⟩:=small_u9 pM 4 (by decide) (by decide)
 obtain⟨u3,a3,ha3,e31,e32,e33,e34,e35⟩:=small_u9 pS 4 (by decide) (by decide)
 obtain⟨k,hk⟩:∃ d,d=1+a1:=⟨_,rfl⟩
 obtain⟨m,hm⟩:∃ d,d=1+a2:=⟨_,rfl⟩
 obtain⟨sn,hsn⟩:∃ d,d=1+a3:=⟨_,rfl⟩
 rw[<- hk] at e15
 rw[<- hm] at e25
 rw[<- hsn] at e35
 have q1:((u1:Int)).tmod 4=(a1:Int):=e12
 have q2:((u2:Int)).tmod 4=(a2:Int):=e22
 have q3:((u3:Int)).tmod 4=(a3:Int):=e32
 have HKK:Hid (1<=k/\k<=4/\1<=m/\m<=4/\1<=sn/\sn<=4):=⟨by omega,by omega,by omega,by omega,by omega,by omega⟩
 clear hl hN hk hm hsn ha1 ha2 ha3 e12 e22 e32
 go_enter Tryz.func3,Tryz.ntmps3
 go_wp2_with fail
 refine (made8_yes w (k:=k) (more:=m) (S:=sn) (f:=2) HKK.out.1 HKK.out.2.2.1 (by have:=HKK.out;omega) HKK.out.2.2.2.2.1 (by have:=HKK.out;omega) (by have:=HKK.out;omega)).mono ?_
 rintro e w3 ⟨s,t,rfl,F1,G2,a,r,du⟩
 obtain⟨g,hg⟩:∃ g:SP.Geo,g=⟨k,k+m,sn,2⟩:=⟨_,rfl⟩
 rw[<- hg] at du
 have HGN:Hid (g.n<=8/\g.s<=4):=by
  refine⟨?_,?_⟩
  ·rw[hg];show k+m<=8;have:=HKK.out;omega
  ·rw[hg];exact HKK.out.2.2.2.2.2
 have P3:Hid (PlyS w w3 s a t r g (300 * 0)):=⟨F1,G2,_,du.pair,Nat.le_refl _⟩
 clear du q1 q2 q3 e11 e13 e14 e15 e21 e23 e24 e25 e31 e33 e34 e35 hg
 go_wp2_with (go_at_call 8;refine (wakes9 w3).mono ?_;rintro e w4 ⟨rfl,gx⟩;have HX3:Hid (PlyS w w4 s a t r g (300 * 0)):=P3.out.keep gx;clear gx)
 clear P3
 go_loopw [11] (fun ti wr=>∃ i:Nat,i<=N/\ti=.int .i64 (i:Int)/\i<=50/\Hid (PlyS w wr s a t r g (300 * i))) (fun ti _=>N - (intOf ti).toNat)
 case atStart=>exact⟨0,by omega,rfl,by omega,HX3⟩
 case round =>
  clear HX3
  obtain⟨i,hi,rfl,h50,HX⟩:=hrel
  by_cases hlt:i < N
  ·have i1:(i:Int) < (N:Int):=by omega
   have i2:(0:Int)<=(i:Int):=by omega
   by_cases hi50:i < 50
   ·have i3:(i:Int) < 50:=by omega
    have hil:i < l.length:=by rw[<- HN.out];exact hlt
    have hokw:=HA.out.ok l[i] (List.getElem_mem hil)
    obtain⟨b,off,rfl,hrg,hok⟩:=HA.out.at hil
    obtain⟨c,hce⟩:∃ c,c=l[i]:=⟨_,rfl⟩
    rw[<- hce] at hrg hok hokw
    obtain⟨WH,D,K,M,X,bval,bs⟩:=c
    have hvb:Vec w bval bs:=hok.vec
    obtain⟨pb,nb,mb,rfl,hnb⟩:=hvb.opened
    have HOK:Hid (ActOk9 w ⟨WH,D,K,M,X,.slice pb nb mb,bs⟩):=hok
    have SC:Hid (∀ w' n,PlyS w w' s a t r g n->(w'.cell? ⟨b,off+i * 6,none⟩=some (.int .i64 WH)/\w'.cell? ⟨b,off+i * 6+1,none⟩=some (.int .i64 D)/\w'.cell? ⟨b,off+i * 6+2,none⟩=some (.int .i64 K)/\w'.cell? ⟨b,off+i * 6+3,none⟩=some (.int .u64 (M:Int))/\w'.cell? ⟨b,off+i * 6+4,none⟩=some (.int .u8 (X:Int))/\w'.cell? ⟨b,off+i * 6+5,none⟩=some (.slice pb nb mb)/\w'.cell? ⟨t,0,none⟩=some (rptr r))):=fun w' n hp=>⟨hp.grown.cell (hrg 0 _ rfl) (by simp),hp.grown.cell (hrg 1 _ rfl) (by simp),hp.grown.cell (hrg 2 _ rfl) (by simp),hp.grown.cell (hrg 3 _ rfl) (by simp),hp.grown.cell (hrg 4 _ rfl) (by simp),hp.grown.cell (hrg 5 _ rfl) (by simp),hp.top⟩
    have HLN:Hid (300 * i+300<=900000/\300 * (i+1)=300 * i+300):=⟨by omega,by omega⟩
    have hKb:K < 9223372036854775808:=by have:=HOK.out.at_;unfold I649 at this;have h2:K<=9223372036854775807:=this.2;omega
    have HKB:Hid (K < 9223372036854775808/\M < 18446744073709551616/\X < 256/\Vec w (.slice pb nb mb) bs):=⟨hKb,HOK.out.mark,HOK.out.x,hvb⟩
    clear hrg hce hok hokw hvb hnb hKb HOK
    go_wp2_with fail
    go_region_held3 (fun w'=>w'.cell? ⟨b,off+i * 6,none⟩=some (.int .i64 WH)/\w'.cell? ⟨b,off+i * 6+1,none⟩=some (.int .i64 D)/\w'.cell? ⟨b,off+i * 6+2,none⟩=some (.int .i64 K)/\w'.cell? ⟨b,off+i * 6+3,none⟩=some (.int .u64 (M:Int))/\w'.cell? ⟨b,off+i * 6+4,none⟩=some (.int .u8 (X:Int))/\w'.cell? ⟨b,off+i * 6+5,none⟩=some (.slice pb nb mb)/\w'.cell? ⟨t,0,none⟩=some (rptr r)) (first | exact SC.out _ _ (HX.out.keep (grown_drewN wr 1)) | exact SC.out _ _ HP.out | exact SC.out _ _ (HP.out.keep G2.out))
     ((first
       | (go_at_call 9;refine (step_yes (HX.out.keep (grown_drewN wr 1)) (by have:=HLN.out;omega) HGN.out.1 HGN.out.2 HKB.out.1 HKB.out.2.1 HKB.out.2.2.1 HKB.out.2.2.2).mono ?_;rintro e x1 ⟨rfl,hp⟩;have HP:Hid (PlyS w x1 s a t r g (300 * i+300)):=hp;clear hp)
       | (go_at_call 11;refine HP.out.arr.mono ?_;rintro e w9 ⟨rfl,hw9⟩;obtain rfl:=hw9.symm;clear hw9)
       | (go_at_call 10;refine (plyS_alike HP.out (by have:=HLN.out;omega) HKB.out.2.2.2).mono ?_;rintro e x2 ⟨rfl,g2⟩;have G2:Hid (x1.grownBy x2 none):=g2;clear g2)))
    go_wp2
    go_roundw
    case rel=>exact⟨i+1,by omega,by go_num,by omega,by rw[HLN.out.2];exact HP.out.keep G2.out⟩
    case measure=>simp[intOf];omega
   ·have i3:¬ (i:Int) < 50:=by omega
    go_wp2
    go_ret
    exact⟨rfl,HX.out.grown⟩
  ·have i1:¬ (i:Int) < (N:Int):=by omega
   go_wp2
   go_ret
   exact⟨rfl,HX.out.grown⟩
end mendPlays
end Go.Proofs.YtaalagkbpeinkaaGreat
