/- Packed: Read8, Awk8. -/
import Derived.Test.YtfjlpifaaknmpaaGreatSp26
set_option linter.unusedSimpArgs false
set_option linter.unusedVariables false
set_option maxRecDepth 100000
namespace Go.Proofs.YtfjlpifaaknmpaaGreat
open Go.RowKit
theorem enters_rd:∀ args w,(callFunc 56 args).run Tryz.prog w = .ok (.enter 56 args) w:=by
 intro args w
 simp [go_sem,callFunc,Tryz.func56,Tryz.f56]
section
variable {F F':Nat -> Prop} {w w':World} {s a:Nat} {g:SP.Geo} {R R':AM.Raw}
theorem rd_walk {B0 A D Sb m slot:Nat} {w4:World} (h:SI F w s a g R) (h0:R.off = false) (hs:slot < g.s) (T:RdI w B0 A D Sb s m w4 (.slice none 0 0) (.slice none 0 0) [] (.slice none 0 0) (.slice none 0 0) [] []) :
 Calls Tryz.prog 55 #[ptr s,.int .i64 (slot:Int),.func (.func 56) #[] #[.pointer (some ⟨B0,0,none⟩),.pointer (some ⟨A,0,none⟩),.pointer (some ⟨D,0,none⟩),.pointer (some ⟨Sb,0,none⟩)]] w4 fun e w' =>
  e = .returned (.tuple #[]) /\ ∃ va vt us,RdI w B0 A D Sb s m w' va va (SP.found R g slot m) vt vt us (SP.told R g slot (SP.found R g slot m)):=by
 have hk1:=h.ok.k1
 refine (swalk_any (g:=g) (R:=R) (F:=F) (a:=a) (B:=w.heap.size) h0 hs enters_rd
  (fun j w'=>(SP.hits R g slot m j).length < g.k /\ j <= g.n /\ ∃ va vt us,RdI w B0 A D Sb s m w' va va (SP.hits R g slot m j) vt vt us (SP.told R g slot (SP.hits R g slot m j)))
  (fun w'=>∃ va vt us,RdI w B0 A D Sb s m w' va va (SP.found R g slot m) vt vt us (SP.told R g slot (SP.found R g slot m)))
  (fun j=>decide ((SP.hits R g slot m (j + 1)).length < g.k)) ?_ ?_ ?_ ?_ ?_ ?_).mono ?_
 ·rintro j w1 ⟨_,_,_,_,_,T1⟩
  exact h.keep T1.gr
 ·rintro j w1 ⟨_,_,_,_,_,T1⟩
  exact T1.gr.size
 ·rintro j w1 w2 ⟨h1,h2,va,vt,us,T1⟩ g1
  exact ⟨h1,h2,va,vt,us,T1.keep g1⟩
 ·rintro j w1 hj hy ⟨h1,h2,va,vt,us,T1⟩
  have e:SP.hits R g slot m (j + 1) = SP.hits R g slot m j:=by rw [SP.hits_succ];simp [SP.has,hy]
  rw [e]
  exact ⟨h1,by omega,va,vt,us,T1⟩
 ·rintro j w1 v hj hy ⟨h1,h2,va,vt,us,T1⟩ hv
  obtain ⟨pv,nv,cv,rfl,_⟩:=hv.vec.opened
  have HK:∀ w',w.grownBy w' none -> w'.cell? ⟨s,1,none⟩ = some (.int .i64 (g.k:Int)):=fun w' g'=>(h.keep g').at2
  by_cases hm:SP.numD R g slot j = m
  ·have e:SP.hits R g slot m (j + 1) = SP.hits R g slot m j ++ [j]:=by rw [SP.hits_succ];simp [SP.has,hy,hm]
   obtain ⟨vp,vn,vc,rfl,_⟩:=T1.mt.mat.row.opened
   have hsame:=T1.mt.same
   rw [SP.told_len] at hsame
   have hle:=SP.hits_len_le R g slot m j
   have hn255:=h.ok.n255
   rw [hm]
   refine (rd_yes T1 (j:=j) (k:=g.k) hv (by omega) (by omega) HK).mono ?_
   rintro e2 w2 ⟨rfl,va',vt',us',T2⟩
   refine ⟨by rw [e],?_⟩
   rw [<- e,<- SP.told_app,<- e] at T2
   by_cases hc:(SP.hits R g slot m (j + 1)).length < g.k
   ·rw [if_pos (decide_eq_true hc)]
    exact ⟨hc,by omega,va',vt',us',T2⟩
   ·rw [if_neg (by simpa using hc)]
    have hfe:SP.hits R g slot m (j + 1) = SP.found R g slot m:=SP.hits_take (by omega) (by
     have:(SP.hits R g slot m (j + 1)).length = (SP.hits R g slot m j).length + 1:=by rw [e];simp
     omega)
    rw [hfe] at T2
    exact ⟨va',vt',us',T2⟩
  ·have e:SP.hits R g slot m (j + 1) = SP.hits R g slot m j:=by rw [SP.hits_succ];simp [SP.has,hm]
   refine (rd_no T1 (j:=j) (k:=g.k) hm HK).mono ?_
   rintro e2 w2 ⟨rfl,T2⟩
   refine ⟨by rw [e],?_⟩
   rw [if_pos (by rw [e];exact decide_eq_true h1)]
   rw [e]
   exact ⟨h1,by omega,va,vt,us,T2⟩
 ·exact ⟨by rw [SP.hits_zero];simp;omega,by omega,_,_,_,T⟩
 ·rintro e w' ⟨rfl,h1⟩
  refine ⟨rfl,?_⟩
  rcases h1 with ⟨h1,_,va,vt,us,T1⟩ | h1
  ·have hfe:SP.hits R g slot m g.n = SP.found R g slot m:=(List.take_of_length_le (by omega)).symm
   rw [hfe] at T1
   exact ⟨va,vt,us,T1⟩
  ·exact h1
theorem sread_err (h:SI F w s a g R) {slot:Int} {m:Nat} (hy:SP.why R g slot ≠ 0) :
 Calls Tryz.prog 14 #[ptr s,.int .i64 slot,.int .u64 (m:Int)] w fun e w'=>e = .returned (.tuple #[.slice none 0 0,.int .i64 (SP.why R g slot:Int)]) /\ w.grownBy w' none:=by
 obtain ⟨y,hy1⟩:∃ y,y = SP.why R g slot:=⟨_,rfl⟩
 have HR:Hid (∀ w',w.grownBy w' none -> Calls Tryz.prog 45 #[ptr s,.int .i64 slot] w' fun e w''=>e = .returned (.int .i64 (y:Int)) /\ w'' = w'):=fun w' g1=>by rw [hy1];exact sreach_yes (h.keep g1) slot
 rw [<- hy1] at hy ⊢
 have hne:((y:Int) != 0) = true:=neb_yes (b:=0) hy
 have HG:Hid (∀ A B T T',w.grownBy ((w.alloc (.cells A T)).alloc (.cells B T')) none):=fun A B T T'=>gb_alloc (World.grownBy_alloc w _ none) _
 clear h hy hy1
 go_enter Tryz.func14,Tryz.ntmps14
 go_wp2_with (go_at_call 45;refine (HR.out _ (HG.out _ _ _ _)).mono ?_;rintro e w9 ⟨rfl,hw9⟩;obtain rfl:=hw9.symm;clear hw9)
 go_ret2
 exact ⟨rfl,HG.out _ _ _ _⟩
theorem sread_arg (h:SI F w s a g R) {slot:Int} (hy:SP.why R g slot = 0) :
 Calls Tryz.prog 14 #[ptr s,.int .i64 slot,.int .u64 0] w fun e w'=>e = .returned (.tuple #[.slice none 0 0,.int .i64 1]) /\ w.grownBy w' none:=by
 have HR:Hid (∀ w',w.grownBy w' none -> Calls Tryz.prog 45 #[ptr s,.int .i64 slot] w' fun e w''=>e = .returned (.int .i64 0) /\ w'' = w'):=fun w' g1=>sreach_at (h.keep g1) (by rw [hy];rfl)
 have HG:Hid (∀ A B T T',w.grownBy ((w.alloc (.cells A T)).alloc (.cells B T')) none):=fun A B T T'=>gb_alloc (World.grownBy_alloc w _ none) _
 clear h hy
 go_enter Tryz.func14,Tryz.ntmps14
 go_wp2_with (go_at_call 45;refine (HR.out _ (HG.out _ _ _ _)).mono ?_;rintro e w9 ⟨rfl,hw9⟩;obtain rfl:=hw9.symm;clear hw9)
 go_ret2
 exact ⟨rfl,HG.out _ _ _ _⟩
theorem rdi_start (w:World) (s m:Nat):RdI w (w.heap.size + 1) (w.heap.size + 1 + 1) (w.heap.size + 1 + 1 + 1) w.heap.size s m ((((w.alloc (.cells #[ptr s] 27)).alloc (.cells #[.int .u64 (m:Int)] 39)).alloc (.cells #[.slice none 0 0] 95)).alloc (.cells #[.slice none 0 0] 87)) (.slice none 0 0) (.slice none 0 0) [] (.slice none 0 0) (.slice none 0 0) [] []:=by
 have b1:=Boxed.new w 27 (ptr s)
 have b2:=Boxed.new (w.alloc (.cells #[ptr s] 27)) 39 (.int .u64 (m:Int))
 have b3:=Boxed.new ((w.alloc (.cells #[ptr s] 27)).alloc (.cells #[.int .u64 (m:Int)] 39)) 95 (.slice none 0 0)
 have b4:=Boxed.new (((w.alloc (.cells #[ptr s] 27)).alloc (.cells #[.int .u64 (m:Int)] 39)).alloc (.cells #[.slice none 0 0] 95)) 87 (.slice none 0 0)
 rw [World.size_alloc] at b2
 rw [World.size_alloc,World.size_alloc] at b3
 rw [World.size_alloc,World.size_alloc,World.size_alloc] at b4
 exact ⟨(b2.alloc _).alloc _,b3.alloc _,b4,((b1.alloc _).alloc _).alloc _,IOwn.nil _ _,RMat.nil _ _ _,by omega,by omega,gb_alloc (gb_alloc (gb_alloc (World.grownBy_alloc w _ none) _) _) _⟩
set_option maxHeartbeats 6400000 in
theorem sread_main (h:SI F w s a g R) {slot m:Nat} (hy:SP.why R g (slot:Int) = 0) (hm:m ≠ 0) :
 Calls Tryz.prog 14 #[ptr s,.int .i64 (slot:Int),.int .u64 (m:Int)] w fun e w'=>∃ v er out,e = .returned (.tuple #[v,.int .i64 ((er:Nat):Int)]) /\ SP.RdP R g (slot:Int) m out er /\ Own w.heap.size w' v out /\ w.grownBy w' none:=by
 have HR:Hid (∀ w',w.grownBy w' none -> Calls Tryz.prog 45 #[ptr s,.int .i64 (slot:Int)] w' fun e w''=>e = .returned (.int .i64 0) /\ w'' = w'):=fun w' g1=>sreach_at (h.keep g1) (by rw [hy];rfl)
 obtain ⟨q0,q1,q2⟩:=SP.why_zero hy
 have HW:Hid (∀ B0 A D Sb w4,RdI w B0 A D Sb s m w4 (.slice none 0 0) (.slice none 0 0) [] (.slice none 0 0) (.slice none 0 0) [] [] -> Calls Tryz.prog 55 #[ptr s,.int .i64 (slot:Int),.func (.func 56) #[] #[.pointer (some ⟨B0,0,none⟩),.pointer (some ⟨A,0,none⟩),.pointer (some ⟨D,0,none⟩),.pointer (some ⟨Sb,0,none⟩)]] w4 fun e w' =>
  e = .returned (.tuple #[]) /\ ∃ va vt us,RdI w B0 A D Sb s m w' va va (SP.found R g slot m) vt vt us (SP.told R g slot (SP.found R g slot m))):=fun B0 A D Sb w4 T=>rd_walk h q0 (by omega) T
 have HG:Hid (∀ A B T T',w.grownBy ((w.alloc (.cells A T)).alloc (.cells B T')) none):=fun A B T T'=>gb_alloc (World.grownBy_alloc w _ none) _
 have HS:Hid (∀ w',w.grownBy w' none -> w'.cell? ⟨s,1,none⟩ = some (.int .i64 (g.k:Int)) /\ w'.cell? ⟨s,2,none⟩ = some (.int .i64 (g.n:Int))):=fun w' g'=>⟨(h.keep g').at2,(h.keep g').at3⟩
 have T0:Hid (RdI w _ _ _ _ s m _ _ _ _ _ _ _ _):=rdi_start w s m
 have hne:((m:Int) == 0) = false:=eqb_no (b:=0) hm
 have HY:Hid (SP.why R g (slot:Int) = 0 /\ m ≠ 0 /\ g.Ok R):=⟨hy,hm,h.ok⟩
 have HP:Hid (SP.Pick R g slot (SP.found R g slot m)):=SP.found_pick R g slot m
 have HFL:Hid (g.k <= (SP.hits R g slot m g.n).length -> (SP.found R g slot m).length = g.k):=SP.found_len
 have HFS:Hid (¬ g.k <= (SP.hits R g slot m g.n).length -> (SP.found R g slot m).length < g.k):=fun hh=>by simp [SP.found];omega
 clear h hy hm q0 q1 q2
 go_enter Tryz.func14,Tryz.ntmps14
 go_wp2_with (first
  | (go_at_call 45;refine (HR.out _ (HG.out _ _ _ _)).mono ?_;rintro e w9 ⟨rfl,hw9⟩;obtain rfl:=hw9.symm;clear hw9)
  | (go_at_call 55;refine (HW.out _ _ _ _ _ T0.out).mono ?_;rintro e w5 ⟨rfl,va,vt,us,t5⟩;obtain ⟨ap,an,ac,rfl,ha⟩:=t5.ia.ivec.opened;obtain ⟨tp,tn,tc,rfl,ht⟩:=t5.mt.mat.row.opened;have T5:Hid (RdI w _ _ _ _ s m w5 (.slice ap an ac) (.slice ap an ac) (SP.found R g slot m) (.slice tp tn tc) (.slice tp tn tc) us (SP.told R g slot (SP.found R g slot m))):=t5;have HAN:Hid (an = (SP.found R g slot m).length):=(by show _ = _;rw [ha,SP.ints_len]);clear t5 ha ht))
 have HC5:Hid (∀ w',w5.grownBy w' none -> w'.cell? ⟨w.heap.size + 1 + 1,0,none⟩ = some (.slice ap an ac) /\ w'.cell? ⟨w.heap.size + 1 + 1 + 1,0,none⟩ = some (.slice tp tn tc) /\ w'.cell? ⟨w.heap.size,0,none⟩ = some (ptr s) /\ w'.cell? ⟨s,1,none⟩ = some (.int .i64 (g.k:Int)) /\ w'.cell? ⟨s,2,none⟩ = some (.int .i64 (g.n:Int))):=fun w' g'=>⟨(T5.out.keep g').ba.cell,(T5.out.keep g').bd.cell,(T5.out.keep g').bs.cell,HS.out w' (T5.out.keep g').gr⟩
 clear T0 HW HR HG HS
 go_region_held3 (fun w'=>w'.cell? ⟨w.heap.size + 1 + 1,0,none⟩ = some (.slice ap an ac) /\ w'.cell? ⟨w.heap.size,0,none⟩ = some (ptr s) /\ w'.cell? ⟨s,1,none⟩ = some (.int .i64 (g.k:Int))) (exact ⟨(HC5.out _ (grown_drewN w5 1)).1,(HC5.out _ (grown_drewN w5 1)).2.2.1,(HC5.out _ (grown_drewN w5 1)).2.2.2.1⟩) (fail)
 by_cases hk:g.k <= (SP.hits R g slot m g.n).length
 ·have hfl:=HFL.out hk
  have i1:¬ (an:Int) < (g.k:Int):=by have:=HAN.out;omega
  have DEC:Hid (∀ w',w.grownBy w' none -> w5.grownBy w' none -> Calls Tryz.prog 57 #[.int .i64 (g.k:Int),.int .i64 (g.n:Int),.slice ap an ac,.slice tp tn tc] w' fun e w''=>∃ p m' c us' D,e = .returned (.tuple #[.slice p m' c,.int .i64 0]) /\ OwnMat w'.heap.size w'' (.slice p m' c) us' D /\ Shape D g.k 448 /\ SP.RdP R g (slot:Int) m D.flatten 0 /\ w'.grownBy w'' none):=fun w' _ g1=>by
   have T6:=T5.out.keep g1
   have hok:=HP.out.ok HY.out.2.2
   have hL:((SP.told R g slot (SP.found R g slot m)).getD 0 []).length = 448:=HP.out.row (by have:=HY.out.2.2.k1;omega)
   refine (decode_yes (k:=g.k) (n:=g.n) T6.ia.ivec T6.mt.mat hok (by rw [SP.ints_len];omega)).mono ?_
   rintro e w2 ⟨p,m',c,us',D,rfl,om,_,sh,tl,gg⟩
   rw [hL] at sh
   refine ⟨p,m',c,us',D,rfl,om,sh,?_,gg⟩
   unfold SP.RdP
   rw [Int.toNat_natCast]
   refine .inr (.inr (.inr ⟨HY.out.1,HY.out.2.1,hk,rfl,D,0,.inr (.inr ⟨hok,by rw [SP.ints_len];omega,rfl,?_⟩),rfl⟩))
   rw [Int.toNat_natCast]
   exact tl
  have HKK:Hid (1 <= g.k /\ g.k <= 255):=⟨HY.out.2.2.k1,by have:=HY.out.2.2.kn;have:=HY.out.2.2.n255;omega⟩
  clear HP HFL HFS hfl hk
  go_wp2_with fail
  go_region_held3 (fun w'=>w'.cell? ⟨w.heap.size + 1 + 1,0,none⟩ = some (.slice ap an ac) /\ w'.cell? ⟨w.heap.size + 1 + 1 + 1,0,none⟩ = some (.slice tp tn tc) /\ w'.cell? ⟨w.heap.size,0,none⟩ = some (ptr s) /\ w'.cell? ⟨s,1,none⟩ = some (.int .i64 (g.k:Int)) /\ w'.cell? ⟨s,2,none⟩ = some (.int .i64 (g.n:Int))) (first | exact HC5.out _ (grown_trans (grown_drewN w5 1) (grown_drewN _ 1)) | exact HC5.out _ (grown_trans (grown_trans (grown_drewN w5 1) (grown_drewN _ 1)) G7.out))
   ((go_at_call 57;refine (DEC.out _ (grown_trans T5.out.gr (grown_trans (grown_drewN w5 1) (grown_drewN _ 1))) (grown_trans (grown_drewN w5 1) (grown_drewN _ 1))).mono ?_;rintro e w7 ⟨p7,m7,c7,us7,D7,rfl,om7,sh7,rp7,g7⟩;have M7:Hid (Mat w7 (.slice p7 m7 c7) us7 D7):=om7.mat;have S7:Hid (Shape D7 g.k 448 /\ SP.RdP R g (slot:Int) m D7.flatten 0):=⟨sh7,rp7⟩;have G7:Hid (((w5.drewN 1).drewN 1).grownBy w7 none):=g7;clear om7 sh7 rp7 g7))
  have GW:Hid (w.grownBy w7 none):=grown_trans (grown_trans T5.out.gr (grown_trans (grown_drewN w5 1) (grown_drewN _ 1))) G7.out
  have CC:Hid (Calls Tryz.prog 58 #[.slice p7 m7 c7] w7 fun e w'=>∃ v,e = .returned v /\ Own w7.heap.size w' v D7.flatten /\ w7.grownBy w' none):=by
   have hl:=S7.out.1.len
   have hr:=S7.out.1.row
   have:=HKK.out
   exact concat_yes M7.out (by omega) (by omega) (fun j hj=>hr j (by omega))
  clear DEC HC5 T5
  go_wp2_with (go_at_call 58;refine CC.out.mono ?_;rintro e w8 ⟨v8,rfl,o8,g8⟩;have O8:Hid (Own w.heap.size w8 v8 D7.flatten):=o8.down GW.out.size;have G8:Hid (w.grownBy w8 none):=grown_trans GW.out g8;clear o8 g8)
  go_ret2
  exact ⟨_,0,_,rfl,S7.out.2,O8.out,G8.out⟩
 ·have hfs:=HFS.out hk
  have i1:(an:Int) < (g.k:Int):=by have:=HAN.out;omega
  have HK:Hid (¬ g.k <= (SP.hits R g slot m g.n).length):=hk
  clear hfs hk HP HFL HFS
  go_wp2_with fail
  go_ret2
  refine ⟨_,20,[],rfl,?_,Own.nil _ _,grown_trans T5.out.gr (grown_drewN w5 1)⟩
  unfold SP.RdP
  rw [Int.toNat_natCast]
  exact .inr (.inr (.inl ⟨HY.out.1,HY.out.2.1,by have:=HK.out;omega,rfl,rfl⟩))
theorem sread_all (h:SI F w s a g R) (slot:Int) (m:Nat) :
 Calls Tryz.prog 14 #[ptr s,.int .i64 slot,.int .u64 (m:Int)] w fun e w'=>∃ v er out,e = .returned (.tuple #[v,.int .i64 ((er:Nat):Int)]) /\ SP.RdP R g slot m out er /\ Own w.heap.size w' v out /\ w.grownBy w' none:=by
 by_cases hy:SP.why R g slot = 0
 ·by_cases hm:m = 0
  ·subst hm
   refine (sread_arg h hy).mono ?_
   rintro e w' ⟨rfl,g1⟩
   exact ⟨_,1,[],rfl,.inr (.inl ⟨hy,rfl,rfl,rfl⟩),Own.nil _ _,g1⟩
  ·obtain ⟨_,q1,_⟩:=SP.why_zero hy
   obtain ⟨n,rfl⟩:∃ n:Nat,slot = (n:Int):=⟨slot.toNat,by omega⟩
   exact sread_main h hy hm
 ·refine (sread_err h hy).mono ?_
  rintro e w' ⟨rfl,g1⟩
  exact ⟨_,_,[],rfl,.inl ⟨hy,rfl,rfl⟩,Own.nil _ _,g1⟩
end
def gA:SP.Geo:=⟨2,3,1,3⟩
def QA0:AM.Raw:=AM.Raw.new 3 11
def QA1:AM.Raw:=(SP.write QA0 gA ((0:Nat):Int) 5 (datL 2 7)).2
def QA2:AM.Raw:=(QA1.lose ((1:Nat):Int)).2
def QA3:AM.Raw:=(QA2.lose ((2:Nat):Int)).2
theorem gA_ok:gA.Ok QA0:=SP.new_geo (k:=2) (N:=3) (S:=1) (f:=3) (n:=11) rfl (by decide) (by decide) (by decide) (by decide) (by decide)
theorem qa0:QA0.Ok /\ QA0.ons = 3 /\ ∀ d:Nat,QA0.on (d:Int) = decide (d < 3):=by
 have h:=SP.new_ok (N:=3) (n:=11) (by decide) (by decide) (by decide) (by decide)
 exact ⟨h.1,SP.new_ons (N:=3) (n:=11) gA_ok rfl (by decide) (by decide) (by decide) (by decide),h.2⟩
theorem qa1:(SP.write QA0 gA ((0:Nat):Int) 5 (datL 2 7)).1 = 0 /\ SP.Wrote QA1 gA 0 5 (datL 2 7) /\ QA1.off = false /\ QA1.L.length <= 24 /\ gA.Ok QA1 /\ ∀ d:Nat,QA1.on (d:Int) = decide (d < 3):=by
 obtain ⟨h1,h2,h3,_,_⟩:=SP.write_sure qa0.1 gA_ok (slot:=0) (m:=5) (by decide) rfl rfl (by decide) (datL_small 2 7) (datL_len 2 7) (by rw [qa0.2.1];decide)
 refine ⟨h1,h2,h3,?_,gA_ok.kept (SP.write_kept _ _ _ _ _),fun d=>?_⟩
 ·have:=SP.write_len (R:=QA0) (g:=gA) ((0:Nat):Int) 5 (datL 2 7) writes_len8
  exact this
 ·exact ((SP.write_kept QA0 gA ((0:Nat):Int) 5 (datL 2 7)).on (d:Int)).trans (qa0.2.2 d)
theorem qa2:(QA1.lose ((1:Nat):Int)).1 = 0 /\ SP.Wrote QA2 gA 0 5 (datL 2 7) /\ QA2.off = false /\ QA2.L.length <= 24 /\ gA.Ok QA2 /\ (∀ d:Nat,QA2.on (d:Int) = (decide (d < 3) && !(d == 1))) /\ QA2.ons = 2:=by
 obtain ⟨_,h2,h3,h4,h5,h6⟩:=qa1
 obtain ⟨l1,l2⟩:=SP.lose_yes (R:=QA1) (d:=1) (by rw [h6];decide)
 have hon:∀ d:Nat,QA2.on (d:Int) = (decide (d < 3) && !(d == 1)):=fun d=>(l2 d).trans (by rw [h6])
 have hg:gA.Ok QA2:=SP.lose_geo h5 _
 refine ⟨l1,h2.lose _,(SP.lose_off _ _).trans h3,Nat.le_trans (SP.lose_L _ _) h4,hg,hon,?_⟩
 rw [<- SP.ons_filter hg]
 have e:(fun d:Nat=>QA2.on (d:Int)) = fun d:Nat=>(decide (d < 3) && !(d == 1)):=by funext d;exact hon d
 rw [e]
 decide
theorem qa3:SP.Wrote QA3 gA 0 5 (datL 2 7) /\ QA3.off = false /\ QA3.L.length <= 24 /\ gA.Ok QA3 /\ QA3.on ((0:Nat):Int) = true /\ QA3.ons = 1:=by
 obtain ⟨_,h2,h3,h4,h5,h6,_⟩:=qa2
 obtain ⟨l1,l2⟩:=SP.lose_yes (R:=QA2) (d:=2) (by rw [h6];decide)
 have hon:∀ d:Nat,QA3.on (d:Int) = ((decide (d < 3) && !(d == 1)) && !(d == 2)):=fun d=>(l2 d).trans (by rw [h6])
 have hg:gA.Ok QA3:=SP.lose_geo h5 _
 refine ⟨h2.lose _,(SP.lose_off _ _).trans h3,Nat.le_trans (SP.lose_L _ _) h4,hg,(hon 0).trans (by decide),?_⟩
 rw [<- SP.ons_filter hg]
 have e:(fun d:Nat=>QA3.on (d:Int)) = fun d:Nat=>((decide (d < 3) && !(d == 1)) && !(d == 2)):=by funext d;exact hon d
 rw [e]
 decide
set_option maxHeartbeats 6400000 in
theorem awake8 (w:World):Calls Tryz.prog 6 #[] w fun e w'=>e = .returned (.bool true) /\ w.grownBy w' none:=by
 have MD:Hid (Calls Tryz.prog 7 #[.int .i64 2,.int .i64 1,.int .i64 1,.int .i64 3] w fun e w'=>∃ s t,e = .returned (.tuple #[ptr s,.pointer (some ⟨t,0,none⟩)]) /\ ∃ F G a r,Duo F G w w' s a t r gA QA0):=made8_yes w (k:=2) (more:=1) (S:=1) (f:=3) (by decide) (by decide) (by decide) (by decide) (by decide) (by decide)
 have DT:Hid (∀ w',Calls Tryz.prog 10 #[.int .i64 2,.int .u8 7] w' fun e w''=>∃ p n c,e = .returned (.slice p n c) /\ Own w'.heap.size w'' (.slice p n c) (datL 2 7) /\ w'.grownBy w'' none):=fun w'=>data_yes w' (k:=2) (x:=7) (by decide) (by decide) (by decide)
 go_enter Tryz.func6,Tryz.ntmps6
 go_wp2_with (first
  | (go_at_call 7;refine MD.out.mono ?_;rintro e w1 ⟨s,t,rfl,F1,G1,a,r,du⟩;have I1:Hid (SI F1 w1 s a gA QA0):=du.i;have B1:Hid (Base w F1 w1):=⟨du.gr,du.bi⟩;clear du)
  | fail)
 clear MD
 refine (DT.out w1).mono ?_
 rintro e w2 ⟨p2,n2,c2,rfl,o2,g2⟩
 have V2:Hid (Aw F1 w2 (.slice p2 n2 c2) (datL 2 7)):=o2.aw I1.out.i.lt
 have I2:Hid (SI F1 w2 s a gA QA0):=I1.out.keep g2
 have B2:Hid (Base w F1 w2):=B1.out.keep g2
 clear o2 g2 I1 B1
 have WR:Hid (Calls Tryz.prog 11 #[ptr s,.int .i64 0,.int .u64 5,.slice p2 n2 c2] w2 fun e w'=>e = .returned (.int .i64 0) /\ ∃ F',SI F' w' s a gA QA1 /\ Base w F' w'):=by
  have h0:=swrite_all I2.out ((0:Nat):Int) 5 V2.out (by decide)
  rw [qa1.1] at h0
  refine h0.mono ?_
  rintro e w' ⟨rfl,F',i,st⟩
  exact ⟨rfl,F',i,B2.out.step st⟩
 clear V2
 go_wp2_with (first
  | (go_at_call 11;refine WR.out.mono ?_;rintro e w3 ⟨rfl,F3,i3,b3⟩;have I3:Hid (SI F3 w3 s a gA QA1):=i3;have B3:Hid (Base w F3 w3):=b3;clear i3 b3)
  | (go_at_call 9;refine (sarray_yes I3.out).mono ?_;rintro e w9 ⟨rfl,hw9⟩;obtain rfl:=hw9.symm;clear hw9)
  | fail)
 clear WR I2 B2
 have L1:Hid (Calls Tryz.prog 25 #[ptr a,.int .i64 1] w3 fun e w'=>e = .returned (.int .i64 0) /\ ∃ F',SI F' w' s a gA QA2 /\ Base w F' w'):=by
  refine (lose_at (d:=((1:Nat):Int)) I3.out.i (by have:=qa1.2.2.2.1;omega) (c:=0) (by rw [qa2.1];rfl) rfl).mono ?_
  rintro e w' ⟨rfl,F',i,st⟩
  exact ⟨rfl,F',I3.out.step i st qa2.2.2.2.2.1,B3.out.step st⟩
 go_wp2_with (first
  | (go_at_call 25;refine L1.out.mono ?_;rintro e w4 ⟨rfl,F4,i4,b4⟩;have I4:Hid (SI F4 w4 s a gA QA2):=i4;have B4:Hid (Base w F4 w4):=b4;clear i4 b4)
  | fail)
 clear L1 I3 B3
 have R1:Hid (Calls Tryz.prog 14 #[ptr s,.int .i64 0,.int .u64 5] w4 fun e w'=>∃ p n c,e = .returned (.tuple #[.slice p n c,.int .i64 0]) /\ Own w4.heap.size w' (.slice p n c) (datL 2 7) /\ w4.grownBy w' none):=by
  refine (sread_all I4.out ((0:Nat):Int) 5).mono ?_
  rintro e w' ⟨v,er,out,rfl,hr,ho,hg⟩
  obtain ⟨h1,h2⟩:=(qa2.2.1.read qa2.2.2.2.2.1 (by decide) (by decide) (datL_small 2 7) (datL_len 2 7) qa2.2.2.1 (by decide) hr).1 (by rw [qa2.2.2.2.2.2.2];decide)
  rw [h1] at ho
  rw [h2]
  obtain ⟨p,n,c,rfl,_⟩:=ho.vec.opened
  exact ⟨p,n,c,rfl,ho,hg⟩
 go_wp2_with (first
  | (go_at_call 14;refine R1.out.mono ?_;rintro e w5 ⟨p5,n5,c5,rfl,v5,g5⟩;have V5:Hid (Aw F4 w5 (.slice p5 n5 c5) (datL 2 7)):=v5.aw I4.out.i.lt;have I5:Hid (SI F4 w5 s a gA QA2):=I4.out.keep g5;have B5:Hid (Base w F4 w5):=B4.out.keep g5;clear v5 g5)
  | (go_at_call 9;refine (sarray_yes I5.out).mono ?_;rintro e w9 ⟨rfl,hw9⟩;obtain rfl:=hw9.symm;clear hw9)
  | fail)
 clear R1 I4 B4
 have L2:Hid (Calls Tryz.prog 25 #[ptr a,.int .i64 2] w5 fun e w'=>∃ c,e = .returned (.int .i64 c) /\ ∃ F',SI F' w' s a gA QA3 /\ Base w F' w' /\ Aw F' w' (.slice p5 n5 c5) (datL 2 7)):=by
  refine (lose_at (d:=((2:Nat):Int)) I5.out.i (by have:=qa2.2.2.2.1;omega) rfl rfl).mono ?_
  rintro e w' ⟨rfl,F',i,st⟩
  exact ⟨_,rfl,F',I5.out.step i st qa3.2.2.2.1,B5.out.step st,V5.out.step st⟩
 go_wp2_with (first
  | (go_at_call 25;refine L2.out.mono ?_;rintro e w6 ⟨c6,rfl,F6,i6,b6,v6⟩;have I6:Hid (SI F6 w6 s a gA QA3):=i6;have B6:Hid (Base w F6 w6):=b6;have V6:Hid (Aw F6 w6 (.slice p5 n5 c5) (datL 2 7)):=v6;clear i6 b6 v6)
  | fail)
 clear L2 I5 B5 V5
 have R2:Hid (Calls Tryz.prog 14 #[ptr s,.int .i64 0,.int .u64 5] w6 fun e w'=>∃ p n c,e = .returned (.tuple #[.slice p n c,.int .i64 20]) /\ w6.grownBy w' none):=by
  refine (sread_all I6.out ((0:Nat):Int) 5).mono ?_
  rintro e w' ⟨v,er,out,rfl,hr,ho,hg⟩
  obtain ⟨h1,h2⟩:=(qa3.1.read qa3.2.2.2.1 (by decide) (by decide) (datL_small 2 7) (datL_len 2 7) qa3.2.1 (by decide) hr).2 (by rw [qa3.2.2.2.2.2];decide)
  rw [h2]
  obtain ⟨p,n,c,rfl,_⟩:=ho.vec.opened
  exact ⟨p,n,c,rfl,hg⟩
 have HI:Hid (SP.hiN QA3 gA ((0:Nat):Int) = 5 /\ SP.why QA3 gA ((0:Nat):Int) = 0):=by
  have hy:SP.why QA3 gA ((0:Nat):Int) = 0:=by
   unfold SP.why
   rw [qa3.2.1]
   simp only [Bool.false_eq_true,if_false]
   rw [if_pos (by decide)]
  refine ⟨?_,hy⟩
  unfold SP.hiN
  rw [if_pos hy]
  exact qa3.1.high (by decide) (d:=0) (by decide) qa3.2.2.2.2.1
 have HH:Hid (∀ w',w6.grownBy w' none -> Calls Tryz.prog 23 #[ptr s,.int .i64 0] w' fun e w''=>e = .returned (.tuple #[.int .u64 5,.int .i64 0]) /\ w'.grownBy w'' none):=fun w' g1=>by
  have:=shigh_all (I6.out.keep g1) ((0:Nat):Int)
  rw [HI.out.1,HI.out.2] at this
  exact this
 clear HI
 go_wp2_with (first
  | (go_at_call 14;refine R2.out.mono ?_;rintro e w7 ⟨p7,n7,c7,rfl,g7⟩;have G7:Hid (w6.grownBy w7 none):=g7;clear g7)
  | (go_at_call 23;refine (HH.out _ G7.out).mono ?_;rintro e w8 ⟨rfl,g8⟩;have G8:Hid (w6.grownBy w8 none):=grown_trans G7.out g8;clear g8)
  | (go_at_call 10;refine (DT.out _).mono ?_;rintro e wa ⟨pa,na,ca,rfl,oa,ga⟩;have GA:Hid (w6.grownBy wa none):=grown_trans G8.out ga;have VA:Hid (Vec wa (.slice pa na ca) (datL 2 7) /\ Vec wa (.slice p5 n5 c5) (datL 2 7)):=⟨oa.vec,V6.out.vec.keep GA.out⟩;clear oa ga)
  | (go_at_call 13;refine (equal_at VA.out.2 VA.out.1 rfl).mono ?_;rintro e w9 ⟨rfl,hw9⟩;obtain rfl:=hw9.symm;clear hw9))
 go_ret
 exact ⟨rfl,grown_trans B6.out.grown GA.out⟩
end Go.Proofs.YtfjlpifaaknmpaaGreat
