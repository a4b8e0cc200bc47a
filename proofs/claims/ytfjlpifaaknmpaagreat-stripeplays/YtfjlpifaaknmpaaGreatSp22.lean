/- Packed: RSt8, RTk8, RPu8, PW8, High8, OM8. -/
import Derived.Test.YtfjlpifaaknmpaaGreatSp21
set_option linter.unusedSimpArgs false
set_option linter.unusedVariables false
set_option maxRecDepth 100000
namespace Go.Proofs.YtfjlpifaaknmpaaGreat
open Go.RowKit
abbrev tptr (t:Nat):Value:=.pointer (some ⟨t,0,none⟩)
section
variable {G G':Nat -> Prop} {w w':World} {t r:Nat} {g:SP.Geo} {R R':AM.Raw}
theorem RSI.dark (h:RSI G w t r g R):w.cell? ⟨r,4,none⟩ = some (.bool R.off):=by
 obtain ⟨A,⟨dp,dc,ds,lp,lc,fs,hrl⟩,hs⟩:=h.j
 obtain ⟨_,_,_,_,z4⟩:=hrl.topCells
 rw [hs.dark] at z4
 exact z4
theorem rswhy_yes (h:RSI G w t r g R) (d slot:Int):Calls Tryz.prog 50 #[tptr t,.int .i64 d,.int .i64 slot] w fun e w'=>e = .returned (.int .i64 (SP.whyD R g d slot:Int)) /\ w' = w:=by
 have c0:=h.at1
 have c2:=h.at3
 have c3:=h.at4
 have c4:=h.dark
 obtain ⟨y,hy⟩:∃ y,y = SP.whyD R g d slot:=⟨_,rfl⟩
 rw [<- hy]
 unfold SP.whyD SP.why at hy
 obtain ⟨b,hb⟩:∃ b,b = R.off:=⟨_,rfl⟩
 rw [<- hb] at c4 hy
 clear h hb
 cases b
 ·simp only [Bool.false_eq_true,if_false] at hy
  by_cases h1:slot < 0
  ·rw [if_neg (show ¬ (0 <= slot /\ slot < (g.s:Int)) by omega)] at hy
   have hy':y = 6:=hy
   subst hy'
   clear hy
   go_enter Tryz.func50,Tryz.ntmps50
   go_wp2
   go_ret
   exact ⟨rfl,rfl⟩
  ·by_cases h2:slot < (g.s:Int)
   ·have h3:¬ (g.s:Int) <= slot:=by omega
    rw [if_pos (show 0 <= slot /\ slot < (g.s:Int) by omega)] at hy
    by_cases h4:d < 0
    ·have hy':y = 6:=by rw [hy,if_neg (by omega),if_neg (by omega)]
     subst hy'
     clear hy
     go_enter Tryz.func50,Tryz.ntmps50
     go_wp2
     go_ret
     exact ⟨rfl,rfl⟩
    ·by_cases h5:d < (g.n:Int)
     ·have h6:¬ (g.n:Int) <= d:=by omega
      have hy':y = 0:=by rw [hy,if_neg (by omega),if_pos (by omega)]
      subst hy'
      clear hy
      go_enter Tryz.func50,Tryz.ntmps50
      go_wp2
      go_ret
      exact ⟨rfl,rfl⟩
     ·have h6:(g.n:Int) <= d:=by omega
      have hy':y = 6:=by rw [hy,if_neg (by omega),if_neg (by omega)]
      subst hy'
      clear hy
      go_enter Tryz.func50,Tryz.ntmps50
      go_wp2
      go_ret
      exact ⟨rfl,rfl⟩
   ·have h3:(g.s:Int) <= slot:=by omega
    rw [if_neg (show ¬ (0 <= slot /\ slot < (g.s:Int)) by omega)] at hy
    have hy':y = 6:=hy
    subst hy'
    clear hy
    go_enter Tryz.func50,Tryz.ntmps50
    go_wp2
    go_ret
    exact ⟨rfl,rfl⟩
 ·have hy':y = 8:=hy
  subst hy'
  clear hy
  go_enter Tryz.func50,Tryz.ntmps50
  go_wp2
  go_ret
  exact ⟨rfl,rfl⟩
theorem rswhy_at (h:RSI G w t r g R) {d slot c:Int} (hc:(SP.whyD R g d slot:Int) = c):Calls Tryz.prog 50 #[tptr t,.int .i64 d,.int .i64 slot] w fun e w'=>e = .returned (.int .i64 c) /\ w' = w:=by
 subst hc;exact rswhy_yes h d slot
theorem whyD_0 (hg:g.Ok R) (slot:Int):SP.whyD R g 0 slot = SP.why R g slot:=by
 unfold SP.whyD
 have h1:=hg.k1
 have h2:=hg.kn
 by_cases c:SP.why R g slot = 0
 ·rw [if_neg (by omega),if_pos (by omega),c]
 ·rw [if_pos c]
theorem rswhy_0 (h:RSI G w t r g R) {slot c:Int} (hc:(SP.why R g slot:Int) = c):Calls Tryz.prog 50 #[tptr t,.int .i64 0,.int .i64 slot] w fun e w'=>e = .returned (.int .i64 c) /\ w' = w :=
 rswhy_at h (by rw [whyD_0 h.ok];exact hc)
theorem RSI.on (h:RSI G w t r g R) (d:Int):Calls Tryz.prog 53 #[rptr r,.int .i64 d] w fun e w'=>e = .returned (.bool (R.on d)) /\ w' = w:=by
 obtain ⟨A,hj,hs⟩:=h.j
 have:=ron_yes hj d
 rw [hs.on] at this
 exact this
theorem RSI.read (h:RSI G w t r g R) (hL:R.L.length <= 1000000) (d k:Int):Calls Tryz.prog 69 #[rptr r,.int .i64 d,.int .i64 k] w fun e w'=>∃ p n m,e = .returned (.tuple #[.slice p n m,.int .i64 (R.reach d k:Int)]) /\ Own w.heap.size w' (.slice p n m) (R.read d k) /\ w.grownBy w' none:=by
 obtain ⟨A,hj,hs⟩:=h.j
 exact rread_at hj hs hL rfl rfl
theorem RSI.sect (h:RSI G w t r g R) (hL:R.L.length <= 1000000) (h0:R.off = false) {d slot i:Nat} (hd:d < g.n) (hs:slot < g.s) (hi:i < 8):Calls Tryz.prog 69 #[rptr r,.int .i64 (d:Int),.int .i64 ((g.f + 8 * slot + i:Nat):Int)] w fun e w'=>∃ p n m,e = .returned (.tuple #[.slice p n m,.int .i64 (if R.on (d:Int) = true then 0 else 9)]) /\ (R.on (d:Int) = true -> Own w.heap.size w' (.slice p n m) (AM.look R.C d (g.f + 8 * slot + i))) /\ w.grownBy w' none:=by
 have hr:=SP.reach_on h.ok h0 hs hi hd
 refine (h.read hL (d:Int) ((g.f + 8 * slot + i:Nat):Int)).mono ?_
 rintro e w' ⟨p,n,m,rfl,h1,h2⟩
 refine ⟨p,n,m,?_,fun ho=>?_,h2⟩
 ·rw [hr];split <;> rfl
 ·rw [if_pos ho] at hr
  have e1:R.read (d:Int) ((g.f + 8 * slot + i:Nat):Int) = AM.look R.C d (g.f + 8 * slot + i):=by
   obtain ⟨A,_,hs⟩:=h.j
   rw [<- hs.reads,hs.read,if_pos hr,Int.toNat_natCast,Int.toNat_natCast]
  rw [e1] at h1
  exact h1
theorem sec_sums {R:AM.Raw} {g:SP.Geo} (hg:g.Ok R) (hn:R.n <= 4096) {slot k:Nat} (hs:slot < g.s) (hk:k <= 8):IntKind.i64.wrap (8 * (slot:Int)) = 8 * (slot:Int) /\ IntKind.i64.wrap ((g.f:Int) + 8 * (slot:Int)) = ((g.f + 8 * slot:Nat):Int) /\ IntKind.i64.wrap (((g.f + 8 * slot:Nat):Int) + (k:Int)) = ((g.f + 8 * slot + k:Nat):Int):=by
 have h1:=hg.room
 refine ⟨IntWalk.i64_in _ (by omega),?_,?_⟩
 ·have e:(g.f:Int) + 8 * (slot:Int) = ((g.f + 8 * slot:Nat):Int):=by omega
  rw [e];exact IntWalk.i64_in _ (by omega)
 ·have e:((g.f + 8 * slot:Nat):Int) + (k:Int) = ((g.f + 8 * slot + k:Nat):Int):=by omega
  rw [e];exact IntWalk.i64_in _ (by omega)
theorem RSI.n (h:RSI G w t r g R):R.n <= 4096:=by
 obtain ⟨A,_,hs⟩:=h.j
 exact hs.ok.n2
end
section
variable {G G':Nat -> Prop} {w w':World} {t r:Nat} {g:SP.Geo} {R R':AM.Raw}
set_option maxHeartbeats 1600000 in
theorem rstake_on (h:RSI G w t r g R) (hL:R.L.length <= 1000000) (h0:R.off = false) {d slot:Nat} (hd:d < g.n) (hs:slot < g.s) (ho:R.on (d:Int) = true) :
 Calls Tryz.prog 59 #[tptr t,.int .i64 (d:Int),.int .i64 (slot:Int)] w fun e w'=>∃ u,e = .returned (.tuple #[.int .u64 ((SP.numD R g slot d:Nat):Int),u,.bool (SP.yesD R g slot d)]) /\ Own w.heap.size w' u (SP.datD R g slot d) /\ w.grownBy w' none:=by
 have c0:=h.at1
 have H:Hid (RSI G w t r g R):=h
 have HON:Hid (Calls Tryz.prog 53 #[rptr r,.int .i64 (d:Int)] w fun e w'=>e = .returned (.bool true) /\ w' = w):=by have:=h.on (d:Int);rw [ho] at this;exact this
 have HS:Hid (∀ w',w.grownBy w' none -> w'.cell? ⟨t,0,none⟩ = some (rptr r) /\ w'.cell? ⟨t,4,none⟩ = some (.int .i64 (g.f:Int))):=fun w' g'=>⟨(h.keep g').at1,(h.keep g').at5⟩
 obtain ⟨q,hq⟩:∃ q:Nat -> Nat,q = fun k=>g.f + 8 * slot + k:=⟨_,rfl⟩
 obtain ⟨b,hb⟩:∃ b:Nat,b = g.f + 8 * slot:=⟨_,rfl⟩
 have HW:Hid (∀ (k:Nat),k <= 8 -> IntKind.i64.wrap (8 * (slot:Int)) = 8 * (slot:Int) /\ IntKind.i64.wrap ((g.f:Int) + 8 * (slot:Int)) = (b:Int) /\ IntKind.i64.wrap ((b:Int) + (k:Int)) = ((q k:Nat):Int)):=fun k hk=>by
  have eq9:q k = g.f + 8 * slot + k:=by rw [hq]
  rw [hb,eq9]
  exact sec_sums h.ok h.n hs hk
 have RD:Hid (∀ (k:Nat) (W:World),k < 8 -> w.grownBy W none -> Calls Tryz.prog 69 #[rptr r,.int .i64 (d:Int),.int .i64 ((q k:Nat):Int)] W fun e w'=>∃ p n m,e = .returned (.tuple #[.slice p n m,.int .i64 0]) /\ Own W.heap.size w' (.slice p n m) (AM.look R.C d (q k)) /\ W.grownBy w' none):=fun k W hk gW=>by
  have eq9:q k = g.f + 8 * slot + k:=by rw [hq]
  rw [eq9]
  have:=(h.keep gW).sect hL h0 hd hs hk
  rw [if_pos ho] at this
  refine this.mono ?_
  rintro e w' ⟨p,n,m,rfl,h1,h2⟩
  exact ⟨p,n,m,rfl,h1 ho,h2⟩
 have HT:Hid (∀ (k:Nat),SP.sectTo R g slot d (k + 1) = SP.sectTo R g slot d k ++ [AM.look R.C d (q k)]):=fun k=>by
  have eq9:q k = g.f + 8 * slot + k:=by rw [hq]
  rw [eq9]
  exact SP.sectTo_succ R g slot d k
 have HF:Hid (SP.numD R g slot d = CM.tN (SP.sectTo R g slot d 8) /\ SP.yesD R g slot d = CM.yes (SP.sectTo R g slot d 8) /\ SP.datD R g slot d = CM.tL (SP.sectTo R g slot d 8)):=by
  unfold SP.numD SP.yesD SP.datD
  rw [SP.sects_on ho]
  exact ⟨rfl,rfl,rfl⟩
 clear h hL h0 hd hs ho hq hb
 go_enter Tryz.func59,Tryz.ntmps59
 go_wp2_with (first | (go_at_call 53;refine HON.out.mono ?_;rintro e w9 ⟨rfl,hw9⟩;obtain rfl:=hw9.symm;clear hw9) | fail)
 clear c0 HON
 go_loopw [9,10] (fun tl ti wr=>∃ k:Nat,k <= 8 /\ ti = .int .i64 k /\ Hid (∃ us,RMat 5 w.heap.size wr tl us (SP.sectTo R g slot d k)) /\ Hid (w.grownBy wr none)) (fun _ ti _=>8 - (intOf ti).toNat)
 case atStart=>exact ⟨0,by omega,rfl,⟨[],RMat.nil _ _ _⟩,World.grownBy.refl _ _⟩
 case round =>
  obtain ⟨k,hk,rfl,OK,GK⟩:=hrel
  obtain ⟨us,OM⟩:=OK.out
  have MK:Hid (RMat 5 w.heap.size wr u9 us (SP.sectTo R g slot d k)):=OM
  have HL:Hid ((us.length + 1) * 24 <= 140737488351232):=by show _ <= _;rw [OM.same,SP.sectTo_len];omega
  clear OM OK
  by_cases hlt:k < 8
  ·have i4:(k:Int) < 8:=by omega
   have GD:Hid (w.grownBy (wr.drewN 1) none):=grown_trans GK.out (grown_drewN wr 1)
   obtain ⟨j1,j2,j3⟩:=HW.out k hk
   have RK:Hid (Calls Tryz.prog 69 #[rptr r,.int .i64 (d:Int),.int .i64 ((q k:Nat):Int)] (wr.drewN 1) fun e w'=>∃ p n m,e = .returned (.tuple #[.slice p n m,.int .i64 0]) /\ Own (wr.drewN 1).heap.size w' (.slice p n m) (AM.look R.C d (q k)) /\ (wr.drewN 1).grownBy w' none):=RD.out k _ hlt GD.out
   have HS1:Hid (SP.sectTo R g slot d (k + 1) = SP.sectTo R g slot d k ++ [AM.look R.C d (q k)]):=HT.out k
   generalize SP.sectTo R g slot d k = XK at *
   generalize AM.look R.C d (q k) = SK at *
   generalize q k = z at *
   go_wp2_with fail
   go_region_held3 (fun w'=>w'.cell? ⟨t,0,none⟩ = some (rptr r) /\ w'.cell? ⟨t,4,none⟩ = some (.int .i64 (g.f:Int))) (first | exact HS.out _ GD.out | exact HS.out _ (grown_trans GD.out G1.out))
    ((go_at_call 69;refine RK.out.mono ?_;rintro e w2 ⟨p,pn,pm,rfl,op,g2⟩;have G1:Hid ((wr.drewN 1).grownBy w2 none):=g2;have OP:Hid (Arr 5 w.heap.size w2 (.slice p pn pm) SK):=op.arr.down GD.out.size;clear op g2))
   have M1:Hid (RMat 5 w.heap.size w2 u9 us XK):=(MK.out.keep (grown_drewN wr 1)).keep G1.out
   have G2:Hid (w.grownBy w2 none):=grown_trans GD.out G1.out
   clear RK GD G1 MK
   go_wp2_with (at_builtin;refine wpList_append_row rfl _ _ rfl _ ⟨w2.heap.size,0,none⟩ rfl rfl (M1.out.keep (World.grownBy_alloc w2 _ none)).row (cell_new1 _ _ rfl) rfl (gb_alloc G2.out _).size HL.out ?_;intro v3 w3 r3 g3 at3;have M3:Hid (RMat 5 w.heap.size w3 v3 (us ++ [.slice p pn pm]) (XK ++ [SK])):=(M1.out.keep (World.grownBy_alloc w2 _ none)).more (by decide) (OP.out.keep (World.grownBy_alloc w2 _ none)) HL.out r3 g3;have G3:Hid (w.grownBy w3 none):=grown_new (gb_alloc G2.out _) g3 (fun i e=>M1.out.lo i e);clear r3 g3 at3)
   go_roundw
   case rel=>exact ⟨k + 1,by omega,by go_num,⟨_,by rw [HS1.out];exact M3.out⟩,G3⟩
   case measure=>simp [intOf];omega
  ·obtain rfl:k = 8:=by omega
   have TK:Hid (Calls Tryz.prog 109 #[u9] wr fun e w'=>∃ u,e = .returned (.tuple #[.int .u64 ((SP.numD R g slot d:Nat):Int),u,.bool (SP.yesD R g slot d)]) /\ Own w.heap.size w' u (SP.datD R g slot d) /\ w.grownBy w' none):=by
    rw [HF.out.1,HF.out.2.1,HF.out.2.2]
    refine (refTake7 MK.out.mat).mono ?_
    rintro e w' ⟨u,rfl,ou,gu⟩
    exact ⟨u,rfl,ou.down GK.out.size,grown_trans GK.out gu⟩
   clear HF MK HL
   go_wp2_with (go_at_call 109;refine TK.out.mono ?_;rintro e w3 ⟨u,rfl,ou,gu⟩;have OU:Hid (Own w.heap.size w3 u (SP.datD R g slot d) /\ w.grownBy w3 none):=⟨ou,gu⟩;clear ou gu)
   go_ret3
   exact ⟨_,rfl,OU.out⟩
theorem rstake_any (h:RSI G w t r g R) (hL:R.L.length <= 1000000) (h0:R.off = false) {d slot:Nat} (hd:d < g.n) (hs:slot < g.s) :
 Calls Tryz.prog 59 #[tptr t,.int .i64 (d:Int),.int .i64 (slot:Int)] w fun e w'=>∃ u,e = .returned (.tuple #[.int .u64 ((SP.numD R g slot d:Nat):Int),u,.bool (SP.yesD R g slot d)]) /\ Own w.heap.size w' u (SP.datD R g slot d) /\ w.grownBy w' none:=by
 cases ho:R.on (d:Int) with
 | true=>exact rstake_on h hL h0 hd hs ho
 | false =>
   have e0:SP.sects R g slot d = []:=SP.sects_off ho g slot
   have y0:CM.yes ([]:List (List Nat)) = false:=by simp [CM.yes]
   have e1:SP.numD R g slot d = 0:=by unfold SP.numD;rw [e0];exact tN_no y0
   have e2:SP.yesD R g slot d = false:=by unfold SP.yesD;rw [e0];exact y0
   have e3:SP.datD R g slot d = []:=by unfold SP.datD;rw [e0];exact tL_no y0
   rw [e1,e2,e3]
   have c0:=h.at1
   have HON:Hid (Calls Tryz.prog 53 #[rptr r,.int .i64 (d:Int)] w fun e w'=>e = .returned (.bool false) /\ w' = w):=by have:=h.on (d:Int);rw [ho] at this;exact this
   clear h hL h0 hd hs ho e0 y0 e1 e2 e3
   go_enter Tryz.func59,Tryz.ntmps59
   go_wp2_with (first | (go_at_call 53;refine HON.out.mono ?_;rintro e w9 ⟨rfl,hw9⟩;obtain rfl:=hw9.symm;clear hw9) | fail)
   go_ret3
   exact ⟨_,rfl,Own.nil _ _,World.grownBy.refl _ _⟩
end
section
variable {G G':Nat -> Prop} {w w':World} {t r:Nat} {g:SP.Geo} {R R':AM.Raw}
set_option maxHeartbeats 3200000 in
theorem rsput_any (h:RSI G w t r g R) {d slot m:Nat} {v:Value} {part:List Nat} (hs:slot < g.s) (hv:Vec w v part) (hm:m ≠ 0) (hm2:m < 18446744073709551616) (hp:part.length = 448) (hL:R.L.length <= 999000) :
 Calls Tryz.prog 54 #[tptr t,.int .i64 (d:Int),.int .i64 (slot:Int),.int .u64 (m:Int),v] w fun e w'=>e = .returned (.int .i64 ((SP.lays R g slot d m part).1:Int)) /\ ∃ G',RSI G' w' t r g (SP.lays R g slot d m part).2 /\ Step G w G' w':=by
 have H:Hid (RSI G w t r g R):=h
 have hf:CM.fit m part = true:=CM.fit_iff.2 ⟨hm,by omega,by omega,by omega⟩
 have hE:CM.putE m part = 0:=(CM.putE_fit m part).2 hf
 have hS:CM.putS m part = CM.secs m part 8:=by unfold CM.putS;rw [if_pos hf,hp]
 have RP:Hid (Calls Tryz.prog 102 #[.int .u64 (m:Int),v] w fun e w'=>∃ u us,e = .returned (.tuple #[u,.int .i64 0]) /\ RMat 5 w.heap.size w' u us (CM.secs m part 8) /\ w.grownBy w' none):=by
  have:=refPut7 (n:=m) hm2 hv
  rw [hE,hS] at this
  exact this
 have HN:Hid (slot < g.s /\ R.L.length <= 999000 /\ g.f + 8 * slot + 8 <= 4096):=⟨hs,hL,by have:=h.ok.room;have:=h.n;omega⟩
 have HW:Hid (∀ (k:Nat),k <= 8 -> IntKind.i64.wrap (8 * (slot:Int)) = 8 * (slot:Int) /\ IntKind.i64.wrap ((g.f:Int) + 8 * (slot:Int)) = ((g.f + 8 * slot:Nat):Int) /\ IntKind.i64.wrap (((g.f + 8 * slot:Nat):Int) + (k:Int)) = ((g.f + 8 * slot + k:Nat):Int)):=fun k hk=>sec_sums h.ok h.n hs hk
 have HK:Hid (∀ (j:Nat),SP.Kept R (SP.layTo R g slot d (CM.secs m part 8) j).2):=SP.layTo_kept R g slot d (CM.secs m part 8)
 have HLL:Hid (∀ (j:Nat),(SP.layTo R g slot d (CM.secs m part 8) j).2.L.length <= R.L.length + j):=layTo_len R g slot d (CM.secs m part 8)
 unfold SP.lays
 have HX:Hid (∀ (j:Nat),j < 8 -> (SP.layTo R g slot d (CM.secs m part 8) j).1 = 0 -> SP.layTo R g slot d (CM.secs m part 8) (j + 1) = (SP.layTo R g slot d (CM.secs m part 8) j).2.writes (d:Int) ((g.f + 8 * slot + j:Nat):Int) ((CM.secs m part 8).getD j [])):=fun j _ h0=>SP.layTo_succ h0
 have HY:Hid (∀ (j:Nat),j <= 8 -> (SP.layTo R g slot d (CM.secs m part 8) j).1 ≠ 0 -> SP.layTo R g slot d (CM.secs m part 8) 8 = SP.layTo R g slot d (CM.secs m part 8) j):=fun j hj h0=>SP.layTo_stop h0 8 hj
 have HX0:Hid (SP.layTo R g slot d (CM.secs m part 8) 0 = (0,R)):=rfl
 have HSL:Hid ((CM.secs m part 8).length = 8):=CM.secs_len _ _ _
 clear h hf hE hS hv hm hm2 hp hL hs
 generalize SP.layTo R g slot d (CM.secs m part 8) = LT at *
 generalize CM.secs m part 8 = S at *
 go_enter Tryz.func54,Tryz.ntmps54
 go_wp2_with (first | (go_at_call 102;refine RP.out.mono ?_;rintro e w1 ⟨u,us,rfl,m1,g1⟩;have hs8:=m1.same;obtain ⟨q,N,cap,rfl,hN⟩:=m1.mat.row.opened;have M1:Hid (RMat 5 w.heap.size w1 (.slice q N cap) us S):=m1;have G1:Hid (w.grownBy w1 none):=g1;have HNN:Hid (N = 8 /\ us.length = 8):=⟨by have:=HSL.out;omega,by have:=HSL.out;omega⟩;have hN8:N = 8:=HNN.out.1;clear m1 g1 hs8 hN) | fail)
 subst hN8
 have S1:Hid (RSI G w1 t r g R):=H.out.keep G1.out
 clear RP
 go_loopw [13] (fun ti wr=>∃ k:Nat,k <= 8 /\ ti = .int .i64 k /\ Hid ((LT k).1 = 0) /\ Hid (∃ G',RSI G' wr t r g (LT k).2 /\ Step G w1 G' wr)) (fun ti _=>8 - (intOf ti).toNat)
 case atStart=>exact ⟨0,by omega,rfl,(by show _ = _;rw [HX0.out]),⟨G,by rw [HX0.out];exact S1.out,Step.refl _ _⟩⟩
 case round =>
  clear S1
  obtain ⟨k,hk,rfl,OK,HR⟩:=hrel
  obtain ⟨G1',i1,st1⟩:=HR.out
  have I1:Hid (RSI G1' wr t r g (LT k).2):=i1
  have T1:Hid (Step G w1 G1' wr):=st1
  clear HR i1 st1
  by_cases hlt:k < 8
  ·have i4:(k:Int) < 8:=by omega
   have i5:(0:Int) <= (k:Int):=by omega
   obtain ⟨b0,off,rfl,hr0⟩:=M1.out.mat.row.spot (k:=k) (by have:=HNN.out;omega)
   obtain ⟨pk,nk,ck,ek,hnk⟩:=(M1.out.mat.vec k (by have:=HSL.out;omega)).opened
   have hbk:¬ G b0:=fun hf=>by
    have h1:=M1.out.lo b0 rfl
    have h2:=H.out.glt b0 hf
    omega
   rw [ek] at hr0
   have HROW:Hid (∀ (W:World) (G9:Nat -> Prop),Step G w1 G9 W -> W.cell? ⟨b0,off + k,none⟩ = some (.slice pk nk ck)):=fun W G9 st=>st.upd.cell hr0 hbk
   have AV:Hid (Aw G1' wr (.slice pk nk ck) (S.getD k [])):=by
    have hv:=M1.out.vec k (by have:=HSL.out;omega)
    rw [ek] at hv
    have a0:Aw G w1 (.slice pk nk ck) (S.getD k []):=⟨hv.vec,fun _ g' hg' hf=>by
     have h1:=hv.lo g' hg'
     have h2:=H.out.glt g' hf
     omega⟩
    exact a0.step T1.out
   clear hr0 ek hnk hbk
   have GW:Hid (wr.grownBy (wr.drewN 1) none):=grown_drewN wr 1
   obtain ⟨j1,j2,j3⟩:=HW.out k hk
   obtain ⟨b,hb⟩:∃ b,b = g.f + 8 * slot:=⟨_,rfl⟩
   obtain ⟨z,hz⟩:∃ z,z = g.f + 8 * slot + k:=⟨_,rfl⟩
   have hx:=HX.out k hlt OK.out
   rw [<- hz] at j3 hx
   rw [<- hb] at j2 j3
   obtain ⟨c,hc⟩:∃ c,c = (LT (k + 1)).1:=⟨_,rfl⟩
   have WR:Hid (Calls Tryz.prog 37 #[rptr r,.int .i64 (d:Int),.int .i64 (z:Int),.slice pk nk ck] (wr.drewN 1) fun e w'=>e = .returned (.int .i64 (c:Int)) /\ ∃ G',RSI G' w' t r g (LT (k + 1)).2 /\ Step G w1 G' w'):=by
    obtain ⟨A,hj,hsim⟩:=(I1.out.keep GW.out).j
    have hv9:=AV.out.keep GW.out
    have h1:=rwrite_at (d:=(d:Int)) (k:=(z:Int)) hj hsim (by have h1:=HLL.out k;have h2:=HN.out.2.1;omega) hv9 rfl
    have h2:=(hsim.write (d:Int) (z:Int) hv9.vec.small).2
    rw [<- hx] at h1 h2
    rw [<- hc] at h1
    refine h1.mono ?_
    rintro e w9 ⟨rfl,G9,i9,s9⟩
    exact ⟨rfl,G9,(I1.out.keep GW.out).step i9 h2 s9 (H.out.ok.kept (HK.out (k + 1))),(T1.out.trans (Step.new GW.out)).trans s9⟩
   have HCE:Hid (c = (LT (k + 1)).1):=hc
   have HC:Hid ((wr.drewN 1).cell? ⟨t,0,none⟩ = some (rptr r) /\ (wr.drewN 1).cell? ⟨t,4,none⟩ = some (.int .i64 (g.f:Int)) /\ (wr.drewN 1).cell? ⟨b0,off + k,none⟩ = some (.slice pk nk ck)):=⟨(I1.out.keep GW.out).at1,(I1.out.keep GW.out).at5,HROW.out _ _ (T1.out.trans (Step.new GW.out))⟩
   have HEQ:Hid (c ≠ 0 -> LT 8 = LT (k + 1)):=fun h0=>HY.out (k + 1) (by omega) (by rw [<- HCE.out];exact h0)
   clear hb hz hc AV GW hx
   by_cases h0:c = 0
   ·subst h0
    go_wp2_with fail
    go_region_held3 (fun w'=>w'.cell? ⟨t,0,none⟩ = some (rptr r) /\ w'.cell? ⟨t,4,none⟩ = some (.int .i64 (g.f:Int)) /\ w'.cell? ⟨b0,off + k,none⟩ = some (.slice pk nk ck)) (first | exact HC.out | exact HC2.out)
     ((go_at_call 37;refine WR.out.mono ?_;rintro e w2 ⟨rfl,G2,i2,st2⟩;have I2:Hid (RSI G2 w2 t r g (LT (k + 1)).2):=i2;have T2:Hid (Step G w1 G2 w2):=st2;have HC2:Hid (w2.cell? ⟨t,0,none⟩ = some (rptr r) /\ w2.cell? ⟨t,4,none⟩ = some (.int .i64 (g.f:Int)) /\ w2.cell? ⟨b0,off + k,none⟩ = some (.slice pk nk ck)):=⟨I2.out.at1,I2.out.at5,HROW.out _ _ T2.out⟩;clear i2 st2))
    go_wp2
    go_roundw
    case rel=>exact ⟨k + 1,by omega,by go_num,HCE.out.symm,⟨G2,I2.out,T2.out⟩⟩
    case measure=>simp [intOf];omega
   ·have hne:((c:Int) != 0) = true:=neb_yes (b:=0) h0
    have HEQ2:Hid (LT 8 = LT (k + 1)):=HEQ.out h0
    go_wp2_with fail
    go_region_held3 (fun w'=>w'.cell? ⟨t,0,none⟩ = some (rptr r) /\ w'.cell? ⟨t,4,none⟩ = some (.int .i64 (g.f:Int)) /\ w'.cell? ⟨b0,off + k,none⟩ = some (.slice pk nk ck)) (first | exact HC.out | exact HC2.out)
     ((go_at_call 37;refine WR.out.mono ?_;rintro e w2 ⟨rfl,G2,i2,st2⟩;have I2:Hid (RSI G2 w2 t r g (LT (k + 1)).2):=i2;have T2:Hid (Step G w1 G2 w2):=st2;have HC2:Hid (w2.cell? ⟨t,0,none⟩ = some (rptr r) /\ w2.cell? ⟨t,4,none⟩ = some (.int .i64 (g.f:Int)) /\ w2.cell? ⟨b0,off + k,none⟩ = some (.slice pk nk ck)):=⟨I2.out.at1,I2.out.at5,HROW.out _ _ T2.out⟩;clear i2 st2))
    go_wp2
    go_ret
    rw [HEQ2.out,<- HCE.out]
    exact ⟨rfl,G2,I2.out,(Step.new G1.out).trans T2.out⟩
  ·obtain rfl:k = 8:=by omega
   go_wp2
   go_ret
   rw [OK.out]
   exact ⟨rfl,G1',I1.out,(Step.new G1.out).trans T1.out⟩
theorem rsPut_all (h:RSI G w t r g R) (d slot:Int) (m:Nat) (hm2:m < 18446744073709551616) {v:Value} {xs:List Nat} (hv:Vec w v xs) (hL:R.L.length <= 990000) :
 Calls Tryz.prog 18 #[tptr t,.int .i64 d,.int .i64 slot,.int .u64 (m:Int),v] w fun e w'=>e = .returned (.int .i64 ((SP.put R g d slot m xs).1:Int)) /\ ∃ G',RSI G' w' t r g (SP.put R g d slot m xs).2 /\ Step G w G' w':=by
 obtain ⟨q,N,cap,rfl,hN⟩:=hv.opened
 unfold SP.put
 by_cases hy:SP.whyD R g d slot = 0
 ·have HR:Hid (Calls Tryz.prog 50 #[tptr t,.int .i64 d,.int .i64 slot] w fun e w''=>e = .returned (.int .i64 0) /\ w'' = w):=rswhy_at h (by rw [hy];rfl)
  rw [if_neg (by omega)]
  have H:Hid (RSI G w t r g R):=h
  by_cases ha:m = 0 \/ xs.length ≠ 448
  ·rw [if_pos ha]
   by_cases hm:m = 0
   ·subst hm
    clear h hy ha hv hN hm2 hL
    go_enter Tryz.func18,Tryz.ntmps18
    go_wp2_with (go_at_call 50;refine HR.out.mono ?_;rintro e w9 ⟨rfl,hw9⟩;obtain rfl:=hw9.symm;clear hw9)
    go_ret
    exact ⟨rfl,G,H.out,Step.refl _ _⟩
   ·have i1:((m:Int) == 0) = false:=eqb_no (b:=0) hm
    have i2:((N:Int) != 448) = true:=neb_yes (b:=448) (by rcases ha with h' | h' <;> omega)
    clear h hy ha hv hN hm2 hL hm
    go_enter Tryz.func18,Tryz.ntmps18
    go_wp2_with (go_at_call 50;refine HR.out.mono ?_;rintro e w9 ⟨rfl,hw9⟩;obtain rfl:=hw9.symm;clear hw9)
    go_ret
    exact ⟨rfl,G,H.out,Step.refl _ _⟩
  ·rw [if_neg ha]
   obtain ⟨y1,y2,y3⟩:=SP.whyD_zero hy
   obtain ⟨y4,y5,y6⟩:=SP.why_zero y1
   obtain ⟨d',rfl⟩:∃ n:Nat,d = (n:Int):=⟨d.toNat,by omega⟩
   obtain ⟨sl,rfl⟩:∃ n:Nat,slot = (n:Int):=⟨slot.toNat,by omega⟩
   rw [Int.toNat_natCast,Int.toNat_natCast]
   have hm:m ≠ 0:=fun e=>ha (.inl e)
   have hx:xs.length = 448:=Classical.byContradiction fun e=>ha (.inr e)
   have PU:Hid (Calls Tryz.prog 54 #[tptr t,.int .i64 (d':Int),.int .i64 (sl:Int),.int .u64 (m:Int),.slice q N cap] w fun e w'=>e = .returned (.int .i64 ((SP.lays R g sl d' m xs).1:Int)) /\ ∃ G',RSI G' w' t r g (SP.lays R g sl d' m xs).2 /\ Step G w G' w'):=rsput_any h (by omega) hv hm hm2 hx (by omega)
   have i1:((m:Int) == 0) = false:=eqb_no (b:=0) hm
   have i2:((N:Int) != 448) = false:=neb_no (b:=448) (by omega)
   generalize SP.lays R g sl d' m xs = LL at *
   clear h hy ha hv hN hm2 hL hm hx y1 y2 y3 y4 y5 y6
   go_enter Tryz.func18,Tryz.ntmps18
   go_wp2_with (first
    | (go_at_call 50;refine HR.out.mono ?_;rintro e w9 ⟨rfl,hw9⟩;obtain rfl:=hw9.symm;clear hw9)
    | (go_at_call 54;refine PU.out.mono ?_;rintro e w2 ⟨rfl,hp2⟩;have HP2:Hid (∃ G',RSI G' w2 t r g LL.2 /\ Step G w G' w2):=hp2;clear hp2))
   go_ret
   exact ⟨rfl,HP2.out⟩
 ·rw [if_pos hy]
  have H:Hid (RSI G w t r g R):=h
  obtain ⟨y,hy1⟩:∃ y,y = SP.whyD R g d slot:=⟨_,rfl⟩
  have HR:Hid (Calls Tryz.prog 50 #[tptr t,.int .i64 d,.int .i64 slot] w fun e w''=>e = .returned (.int .i64 (y:Int)) /\ w'' = w):=rswhy_at h (by rw [hy1])
  rw [<- hy1] at hy ⊢
  have hne:((y:Int) != 0) = true:=neb_yes (b:=0) hy
  clear h hy hy1 hv hN hm2 hL
  go_enter Tryz.func18,Tryz.ntmps18
  go_wp2_with (go_at_call 50;refine HR.out.mono ?_;rintro e w9 ⟨rfl,hw9⟩;obtain rfl:=hw9.symm;clear hw9)
  go_ret
  exact ⟨rfl,G,H.out,Step.refl _ _⟩
theorem rshas_all (h:RSI G w t r g R) (hL:R.L.length <= 1000000) (d slot:Int) (m:Nat) :
 Calls Tryz.prog 20 #[tptr t,.int .i64 d,.int .i64 slot,.int .u64 (m:Int)] w fun e w'=>e = .returned (.tuple #[.bool (SP.hasV R g d slot m),.int .i64 (SP.hasE R g d slot m:Int)]) /\ w.grownBy w' none:=by
 by_cases hy:SP.whyD R g d slot = 0
 ·have HR:Hid (Calls Tryz.prog 50 #[tptr t,.int .i64 d,.int .i64 slot] w fun e w''=>e = .returned (.int .i64 0) /\ w'' = w):=rswhy_at h (by rw [hy];rfl)
  by_cases hm:m = 0
  ·have e1:SP.hasE R g d slot m = 1:=by unfold SP.hasE;rw [if_neg (by omega),if_pos hm]
   have e2:SP.hasV R g d slot m = false:=by unfold SP.hasV;rw [e1];rfl
   rw [e1,e2]
   subst hm
   clear h hL hy e1 e2
   go_enter Tryz.func20,Tryz.ntmps20
   go_wp2_with (go_at_call 50;refine HR.out.mono ?_;rintro e w9 ⟨rfl,hw9⟩;obtain rfl:=hw9.symm;clear hw9)
   go_ret2
   exact ⟨rfl,World.grownBy.refl _ _⟩
  ·have e1:SP.hasE R g d slot m = 0:=by unfold SP.hasE;rw [if_neg (by omega),if_neg hm]
   obtain ⟨y1,y2,y3⟩:=SP.whyD_zero hy
   obtain ⟨y4,y5,y6⟩:=SP.why_zero y1
   have e2:SP.hasV R g d slot m = (SP.yesD R g slot.toNat d.toNat && decide (SP.numD R g slot.toNat d.toNat = m)):=by unfold SP.hasV;rw [e1];simp
   obtain ⟨d',rfl⟩:∃ n:Nat,d = (n:Int):=⟨d.toNat,by omega⟩
   obtain ⟨sl,rfl⟩:∃ n:Nat,slot = (n:Int):=⟨slot.toNat,by omega⟩
   rw [Int.toNat_natCast,Int.toNat_natCast] at e2
   have TK:Hid (Calls Tryz.prog 59 #[tptr t,.int .i64 (d':Int),.int .i64 (sl:Int)] w fun e w'=>∃ u,e = .returned (.tuple #[.int .u64 ((SP.numD R g sl d':Nat):Int),u,.bool (SP.yesD R g sl d')]) /\ w.grownBy w' none):=(rstake_any h hL y4 (by omega) (by omega)).mono fun e w' ⟨u,q1,_,q2⟩=>⟨u,q1,q2⟩
   have hne:((m:Int) == 0) = false:=eqb_no (b:=0) hm
   rw [e1,e2]
   clear h hL hy e1 e2 y1 y2 y3 y4 y5 y6 hm
   generalize SP.numD R g sl d' = Nn at *
   generalize SP.yesD R g sl d' = Y at *
   cases Y
   ·go_enter Tryz.func20,Tryz.ntmps20
    go_wp2_with (first
     | (go_at_call 50;refine HR.out.mono ?_;rintro e w9 ⟨rfl,hw9⟩;obtain rfl:=hw9.symm;clear hw9)
     | (go_at_call 59;refine TK.out.mono ?_;rintro e w1 ⟨u,rfl,g1⟩;have G1:Hid (w.grownBy w1 none):=g1;clear g1))
    go_ret2
    exact ⟨rfl,G1.out⟩
   ·by_cases he:Nn = m
    ·have i3:((Nn:Int) == (m:Int)) = true:=eqb_yes he
     have HD:Hid (decide (Nn = m) = true):=decide_eq_true he
     clear he
     go_enter Tryz.func20,Tryz.ntmps20
     go_wp2_with (first
      | (go_at_call 50;refine HR.out.mono ?_;rintro e w9 ⟨rfl,hw9⟩;obtain rfl:=hw9.symm;clear hw9)
      | (go_at_call 59;refine TK.out.mono ?_;rintro e w1 ⟨u,rfl,g1⟩;have G1:Hid (w.grownBy w1 none):=g1;clear g1))
     go_ret2
     exact ⟨by rw [HD.out];rfl,G1.out⟩
    ·have i3:((Nn:Int) == (m:Int)) = false:=eqb_no he
     have HD:Hid (decide (Nn = m) = false):=decide_eq_false he
     clear he
     go_enter Tryz.func20,Tryz.ntmps20
     go_wp2_with (first
      | (go_at_call 50;refine HR.out.mono ?_;rintro e w9 ⟨rfl,hw9⟩;obtain rfl:=hw9.symm;clear hw9)
      | (go_at_call 59;refine TK.out.mono ?_;rintro e w1 ⟨u,rfl,g1⟩;have G1:Hid (w.grownBy w1 none):=g1;clear g1))
     go_ret2
     exact ⟨by rw [HD.out];rfl,G1.out⟩
 ·have e1:SP.hasE R g d slot m = SP.whyD R g d slot:=by unfold SP.hasE;rw [if_pos hy]
  have e2:SP.hasV R g d slot m = false:=by unfold SP.hasV;rw [e1,decide_eq_false hy];rfl
  rw [e1,e2]
  obtain ⟨y,hy1⟩:∃ y,y = SP.whyD R g d slot:=⟨_,rfl⟩
  have HR:Hid (Calls Tryz.prog 50 #[tptr t,.int .i64 d,.int .i64 slot] w fun e w''=>e = .returned (.int .i64 (y:Int)) /\ w'' = w):=rswhy_at h (by rw [hy1])
  rw [<- hy1] at hy ⊢
  have hne:((y:Int) != 0) = true:=neb_yes (b:=0) hy
  clear h hL hy hy1 e1 e2
  go_enter Tryz.func20,Tryz.ntmps20
  go_wp2_with (go_at_call 50;refine HR.out.mono ?_;rintro e w9 ⟨rfl,hw9⟩;obtain rfl:=hw9.symm;clear hw9)
  go_ret2
  exact ⟨rfl,World.grownBy.refl _ _⟩
end
end Go.Proofs.YtfjlpifaaknmpaaGreat
namespace Go.Proofs.YtfjlpifaaknmpaaGreat
namespace SP
def bestTo (R:AM.Raw) (g:Geo) (slot d:Nat):Nat:=top ((stampTo R g slot d).filter (fun m=>decide (g.k <= (hits R g slot m g.n).length)))
theorem best_zero (R:AM.Raw) (g:Geo) (slot:Nat):bestTo R g slot 0 = 0:=by simp [bestTo,stampTo,top]
theorem best_no {R:AM.Raw} {g:Geo} {slot d:Nat} (hy:yesD R g slot d = false):bestTo R g slot (d + 1) = bestTo R g slot d:=by
 unfold bestTo
 rw [stampTo_succ,hy]
 simp
theorem best_few {R:AM.Raw} {g:Geo} {slot d:Nat} (hy:yesD R g slot d = true) (h:¬ g.k <= (hits R g slot (numD R g slot d) g.n).length):bestTo R g slot (d + 1) = bestTo R g slot d:=by
 unfold bestTo
 rw [stampTo_succ,hy,if_pos rfl,List.filter_append]
 have e:List.filter (fun m=>decide (g.k <= (hits R g slot m g.n).length)) [numD R g slot d] = []:=by simp [h]
 rw [e,List.append_nil]
theorem best_more {R:AM.Raw} {g:Geo} {slot d:Nat} (hy:yesD R g slot d = true) (h:g.k <= (hits R g slot (numD R g slot d) g.n).length):bestTo R g slot (d + 1) = max (bestTo R g slot d) (numD R g slot d):=by
 unfold bestTo
 rw [stampTo_succ,hy,if_pos rfl,List.filter_append]
 have e:List.filter (fun m=>decide (g.k <= (hits R g slot m g.n).length)) [numD R g slot d] = [numD R g slot d]:=by simp [h]
 rw [e,top_app]
theorem best_all (R:AM.Raw) (g:Geo) (slot:Nat):bestTo R g slot g.n = whole R g slot:=by
 unfold bestTo whole often
 congr 1
 apply List.filter_congr
 intro m _
 rw [hits_count]
theorem num_ne {R:AM.Raw} {g:Geo} {slot d:Nat} (hy:yesD R g slot d = true):numD R g slot d ≠ 0:=by
 unfold yesD at hy
 have h:=CM.yes_iff.1 hy
 have h0:=h.2.2 0 (by omega)
 unfold numD CM.tN
 rw [if_pos hy]
 exact h0.2.2
theorem marks_on {R:AM.Raw} {g:Geo} {slot d:Nat} (ho:R.on (d:Int) = true):marks R g slot d = (List.range 8).map (fun i=>SM.val (AM.look R.C d (g.f + 8 * slot + i)) 8):=by
 unfold marks
 rw [sects_on ho]
 simp [sectTo]
theorem marks_off {R:AM.Raw} {g:Geo} {slot d:Nat} (ho:R.on (d:Int) = false):marks R g slot d = []:=by
 unfold marks
 rw [sects_off ho]
 rfl
end SP
open Go.RowKit
theorem max_run (m n:Nat) (ts:Array TypeId) (t:TypeId) (W:World):(Builtin.max_ ts t #[.int .u64 (m:Int),.int .u64 (n:Int)]).run Tryz.prog W = .ok (.int .u64 ((max m n:Nat):Int)) W:=by
 simp only [Builtin.max_,List.foldlM]
 rcases Nat.lt_or_ge m n with h | h
 ·have h1:(m:Int) < (n:Int):=by omega
  simp [Builtin.max2,h1,Nat.max_eq_right (Nat.le_of_lt h)]
 ·have h1:¬ (m:Int) < (n:Int):=by omega
  simp [Builtin.max2,h1,Nat.max_eq_left h]
def SP.hiN (R:AM.Raw) (g:SP.Geo) (slot:Int):Nat:=if SP.why R g slot = 0 then SP.high R g slot.toNat else 0
theorem top_take {L0 M:List Nat} {i:Nat} (hi:i < M.length):SP.top (L0 ++ M.take (i + 1)) = max (SP.top (L0 ++ M.take i)) (M.getD i 0):=by
 rw [List.take_succ_eq_append_getElem hi,<- List.append_assoc,SP.top_app]
 simp [List.getD,hi]
section
variable {F F':Nat -> Prop} {w w':World} {s a:Nat} {g:SP.Geo} {R R':AM.Raw}
theorem sects_row (ok:R.Ok) (h:g.Ok R) {slot d:Nat} (hs:slot < g.s) {i:Nat} (hi:i < (SP.sects R g slot d).length):((SP.sects R g slot d).getD i []).length = 64:=by
 cases c:R.on (d:Int)
 ·rw [SP.sects_off c] at hi;simp at hi
 ·rw [SP.sects_on c] at hi ⊢
  rw [SP.sectTo_len] at hi
  have e:(SP.sectTo R g slot d 8).getD i [] = AM.look R.C d (g.f + 8 * slot + i):=by simp [SP.sectTo,List.getD,hi]
  rw [e]
  exact (SP.sect_ok ok h hs hi c).1
theorem shigh_err (h:SI F w s a g R) {slot:Int} (hy:SP.why R g slot ≠ 0) :
 Calls Tryz.prog 23 #[ptr s,.int .i64 slot] w fun e w'=>e = .returned (.tuple #[.int .u64 0,.int .i64 (SP.why R g slot:Int)]) /\ w' = w:=by
 obtain ⟨y,hy1⟩:∃ y,y = SP.why R g slot:=⟨_,rfl⟩
 have HR:Hid (Calls Tryz.prog 45 #[ptr s,.int .i64 slot] w fun e w''=>e = .returned (.int .i64 (y:Int)) /\ w'' = w):=by rw [hy1];exact sreach_yes h slot
 rw [<- hy1] at hy ⊢
 have hne:((y:Int) != 0) = true:=neb_yes (b:=0) hy
 clear h hy hy1
 go_enter Tryz.func23,Tryz.ntmps23
 go_wp2_with (go_at_call 45;refine HR.out.mono ?_;rintro e w9 ⟨rfl,hw9⟩;obtain rfl:=hw9.symm;clear hw9)
 go_ret2
 exact ⟨rfl,rfl⟩
set_option maxHeartbeats 6400000 in
theorem shigh_main (h:SI F w s a g R) {slot:Nat} (hy:SP.why R g (slot:Int) = 0) :
 Calls Tryz.prog 23 #[ptr s,.int .i64 (slot:Int)] w fun e w'=>e = .returned (.tuple #[.int .u64 ((SP.high R g slot:Nat):Int),.int .i64 0]) /\ w.grownBy w' none:=by
 have HR:Hid (Calls Tryz.prog 45 #[ptr s,.int .i64 (slot:Int)] w fun e w''=>e = .returned (.int .i64 0) /\ w'' = w):=sreach_at h (by rw [hy];rfl)
 obtain ⟨q0,q1,q2⟩:=SP.why_zero hy
 have c2:=h.at3
 have H:Hid (SI F w s a g R):=h
 have HN:Hid (R.off = false /\ slot < g.s /\ R.Ok):=⟨q0,by omega,h.i.ok⟩
 have hn255:g.n <= 255:=h.ok.n255
 clear h hy q0 q1 q2
 go_enter Tryz.func23,Tryz.ntmps23
 go_wp2_with (first | (go_at_call 45;refine HR.out.mono ?_;rintro e w9 ⟨rfl,hw9⟩;obtain rfl:=hw9.symm;clear hw9) | fail)
 clear c2 HR
 go_loopw [7,25] (fun th ti wr=>∃ k:Nat,k <= g.n /\ ti = .int .i64 k /\ th = .int .u64 ((SP.top (SP.markTo R g slot k):Nat):Int) /\ Hid (w.grownBy wr none)) (fun _ ti _=>g.n - (intOf ti).toNat)
 case atStart=>exact ⟨0,by omega,rfl,rfl,World.grownBy.refl _ _⟩
 case round =>
  obtain ⟨k,hk,rfl,rfl,GK⟩:=hrel
  obtain ⟨wa,hwa⟩:∃ wa,wa = wr:=⟨wr,rfl⟩
  subst hwa
  by_cases hlt:k < g.n
  ·have i4:(k:Int) < (g.n:Int):=by omega
   have SEC:Hid (Calls Tryz.prog 65 #[ptr s,.int .i64 (k:Int),.int .i64 (slot:Int)] wa fun e w'=>∃ v us,e = .returned v /\ Mat w' v us (SP.sects R g slot k) /\ wa.grownBy w' none):=ssectors_any (H.out.keep GK.out) HN.out.1 hlt HN.out.2.1
   have H64:Hid (∀ i,i < (SP.sects R g slot k).length -> ((SP.sects R g slot k).getD i []).length = 64):=fun i hi=>sects_row HN.out.2.2 H.out.ok HN.out.2.1 hi
   have HM:Hid (SP.markTo R g slot (k + 1) = SP.markTo R g slot k ++ (SP.sects R g slot k).map (fun b=>SM.val b 8)):=SP.markTo_succ R g slot k
   generalize SP.sects R g slot k = X at *
   generalize SP.markTo R g slot k = L0 at *
   obtain ⟨M,hM⟩:∃ M,M = X.map (fun b=>SM.val b 8):=⟨_,rfl⟩
   have HMM:Hid (M = X.map (fun b=>SM.val b 8)):=hM
   rw [<- hM] at HM
   clear hM
   go_wp2_with (first
    | (go_at_call 65;refine SEC.out.mono ?_;rintro e w1 ⟨v,us,rfl,m1,g1⟩;have hs1:=m1.same;obtain ⟨q,N,cp,rfl,hN⟩:=m1.row.opened;have M1:Hid (Mat w1 (.slice q N cp) us X):=m1;have G1:Hid (w.grownBy w1 none):=grown_trans GK.out g1;have HNN:Hid (N = us.length /\ N = X.length):=⟨hN,(by omega)⟩;have hNl:N <= 140737488351232:=(by have:=m1.row.len;omega);clear m1 g1 hN hs1)
    | fail)
   clear SEC
   go_loopw [7,33] (fun th ti wr=>∃ i:Nat,i <= N /\ ti = .int .i64 i /\ th = .int .u64 ((SP.top (L0 ++ M.take i):Nat):Int) /\ Hid (w1.grownBy wr none)) (fun _ ti _=>N - (intOf ti).toNat)
   case atStart=>exact ⟨0,by omega,rfl,by simp,World.grownBy.refl _ _⟩
   case round =>
    obtain ⟨i,hi,rfl,rfl,GI⟩:=hrel
    by_cases hlt2:i < N
    ·have i5:(i:Int) < (N:Int):=by omega
     have i6:(0:Int) <= (i:Int):=by omega
     obtain ⟨b,off,rfl,hr⟩:=(M1.out.keep GI.out).row.spot (k:=i) (by have:=HNN.out;omega)
     obtain ⟨pk,nk,ck,ek,hnk⟩:=((M1.out.keep GI.out).vec i (by have:=HNN.out;omega)).opened
     have TK:Hid (Calls Tryz.prog 68 #[.slice pk nk ck] wr fun e w'=>∃ p k er,e = .returned (.tuple #[.int .u64 ((M.getD i 0:Nat):Int),.slice p k k,.int .i64 er]) /\ wr.grownBy w' none):=by
      have hv:=(M1.out.keep GI.out).vec i (by have:=HNN.out;omega)
      rw [ek] at hv
      have e1:takeN (X.getD i []) = M.getD i 0:=by
       have hil:i < X.length:=by have:=HNN.out;omega
       unfold takeN
       rw [if_pos (H64.out i hil),HMM.out]
       simp [List.getD,hil]
      refine (take_all hv).mono ?_
      rintro e w9 ⟨p,k9,rfl,_,g9⟩
      exact ⟨p,k9,_,by rw [e1],g9⟩
     have HT:Hid (SP.top (L0 ++ M.take (i + 1)) = max (SP.top (L0 ++ M.take i)) (M.getD i 0)):=top_take (by rw [HMM.out,List.length_map];have:=HNN.out;omega)
     rw [ek] at hr
     clear ek hnk
     generalize SP.top (L0 ++ M.take i) = T0 at *
     generalize M.getD i 0 = Z at *
     have hmx:=max_run T0 Z
     obtain ⟨T1,hT1⟩:∃ T1,T1 = max T0 Z:=⟨_,rfl⟩
     rw [<- hT1] at hmx
     have HT1:Hid (T1 = SP.top (L0 ++ M.take (i + 1))):=by show _ = _;rw [HT.out,hT1]
     clear hT1
     go_wp2_with (go_at_call 68;refine TK.out.mono ?_;rintro e w5 ⟨p,k5,er,rfl,g5⟩;have G5:Hid (w1.grownBy w5 none):=grown_trans GI.out g5;clear g5)
     go_roundw
     case rel=>exact ⟨i + 1,by omega,by go_num,by rw [HT1.out],G5⟩
     case measure=>simp [intOf];omega
    ·have i5:¬ (i:Int) < (N:Int):=by omega
     have HE:Hid (SP.top (L0 ++ M.take i) = SP.top (SP.markTo R g slot (k + 1))):=by
      show _ = _
      rw [HM.out,List.take_of_length_le (by rw [HMM.out,List.length_map];have:=HNN.out;omega)]
     go_wp2
     go_roundw
     case rel=>exact ⟨k + 1,by omega,by go_num,by rw [HE.out],grown_trans G1.out GI.out⟩
     case measure=>simp [intOf];omega
  ·have i4:¬ (k:Int) < (g.n:Int):=by omega
   have hkn:Hid (k = g.n):=by show _ = _;omega
   go_wp2
   go_ret2
   exact ⟨by unfold SP.high;rw [hkn.out];rfl,GK.out⟩
theorem shigh_all (h:SI F w s a g R) (slot:Int) :
 Calls Tryz.prog 23 #[ptr s,.int .i64 slot] w fun e w'=>e = .returned (.tuple #[.int .u64 ((SP.hiN R g slot:Nat):Int),.int .i64 (SP.why R g slot:Int)]) /\ w.grownBy w' none:=by
 unfold SP.hiN
 by_cases hy:SP.why R g slot = 0
 ·obtain ⟨_,q1,_⟩:=SP.why_zero hy
  obtain ⟨n,rfl⟩:∃ n:Nat,slot = (n:Int):=⟨slot.toNat,by omega⟩
  rw [if_pos hy,hy,Int.toNat_natCast]
  exact shigh_main h hy
 ·rw [if_neg hy]
  refine (shigh_err h hy).mono ?_
  rintro e w' ⟨rfl,rfl⟩
  exact ⟨rfl,World.grownBy.refl _ _⟩
end
end Go.Proofs.YtfjlpifaaknmpaaGreat
namespace Go.Proofs.YtfjlpifaaknmpaaGreat
namespace SP
def Sorted (T:List Nat):Prop:=∀ i j,i <= j -> j < T.length -> T.getD i 0 <= T.getD j 0
theorem two_spots {x:Nat}:∀ {T:List Nat} {k:Nat},k + 1 <= T.count x -> ∃ i j,i + k <= j /\ j < T.length /\ T.getD i 0 = x /\ T.getD j 0 = x
 | [],k,h=>by simp at h
 | y :: T,k,h=>by
   by_cases c:y = x
   ·subst c
    cases k with
    | zero=>exact ⟨0,0,by omega,by simp,by simp [List.getD],by simp [List.getD]⟩
    | succ k =>
      rw [List.count_cons_self] at h
      obtain ⟨i,j,h1,h2,h3,h4⟩:=two_spots (T:=T) (x:=y) (k:=k) (by omega)
      exact ⟨0,j + 1,by omega,by simp;omega,by simp [List.getD],by simpa [List.getD] using h4⟩
   ·rw [List.count_cons_of_ne c] at h
    obtain ⟨i,j,h1,h2,h3,h4⟩:=two_spots (T:=T) (k:=k) h
    exact ⟨i + 1,j + 1,by omega,by simp;omega,by simpa [List.getD] using h3,by simpa [List.getD] using h4⟩
theorem many_of {T:List Nat} (hs:Sorted T) {i k:Nat} (hk:i + k < T.length) (h:T.getD i 0 = T.getD (i + k) 0):k + 1 <= T.count (T.getD (i + k) 0):=by
 have e:(T.drop i).take (k + 1) = List.replicate (k + 1) (T.getD (i + k) 0):=by
  rw [List.eq_replicate_iff]
  refine ⟨by simp;omega,fun b hb=>?_⟩
  obtain ⟨j,hj,rfl⟩:=List.getElem_of_mem hb
  simp at hj
  have e1:((T.drop i).take (k + 1))[j] = T.getD (i + j) 0:=by
   simp [List.getD,show i + j < T.length from by omega]
  rw [e1]
  have h1:=hs i (i + j) (by omega) (by omega)
  have h2:=hs (i + j) (i + k) (by omega) hk
  omega
 have hsub:((T.drop i).take (k + 1)).Sublist T:=(List.take_sublist _ _).trans (List.drop_sublist _ _)
 have:=hsub.count_le (T.getD (i + k) 0)
 rw [e,List.count_replicate_self] at this
 exact this
theorem often_at {T:List Nat} (hs:Sorted T) {k l:Nat} (hk:1 <= k) (hl:l < T.length) (hkl:k <= l + 1) (h:T.getD (l + 1 - k) 0 = T.getD l 0)
 (hno:∀ j,l < j -> j < T.length -> T.getD (j + 1 - k) 0 ≠ T.getD j 0):often T k = T.getD l 0:=by
 unfold often
 apply Nat.le_antisymm
 ·refine top_le fun x hx=>?_
  obtain ⟨_,hc⟩:=List.mem_filter.1 hx
  obtain ⟨i,j,h1,h2,h3,h4⟩:=two_spots (T:=T) (x:=x) (k:=k - 1) (by have:=of_decide_eq_true hc;omega)
  by_cases c:l < j
  ·exfalso
   refine hno j c h2 ?_
   have e1:=hs i (j + 1 - k) (by omega) (by omega)
   have e2:=hs (j + 1 - k) j (by omega) h2
   omega
  ·have:=hs j l (by omega) hl
   omega
 ·refine le_top (List.mem_filter.2 ⟨?_,?_⟩)
  ·rw [show T.getD l 0 = T[l] from by simp [List.getD,hl]]
   exact List.getElem_mem hl
  ·have:=many_of hs (i:=l + 1 - k) (k:=k - 1) (by omega) (by rw [show l + 1 - k + (k - 1) = l from by omega];exact h)
   rw [show l + 1 - k + (k - 1) = l from by omega] at this
   exact decide_eq_true (by omega)
theorem often_none {T:List Nat} (hs:Sorted T) {k:Nat} (hk:1 <= k) (hno:∀ j,k <= j + 1 -> j < T.length -> T.getD (j + 1 - k) 0 ≠ T.getD j 0):often T k = 0:=by
 unfold often
 have e:T.filter (fun m=>decide (k <= T.count m)) = []:=by
  rw [List.filter_eq_nil_iff]
  intro x hx hc
  obtain ⟨i,j,h1,h2,h3,h4⟩:=two_spots (T:=T) (x:=x) (k:=k - 1) (by have:=of_decide_eq_true hc;omega)
  refine hno j (by omega) h2 ?_
  have e1:=hs i (j + 1 - k) (by omega) (by omega)
  have e2:=hs (j + 1 - k) j (by omega) h2
  omega
 rw [e]
 rfl
def swap (T:List Nat) (j:Nat):List Nat:=(T.set j (T.getD (j - 1) 0)).set (j - 1) (T.getD j 0)
theorem swap_len (T:List Nat) (j:Nat):(swap T j).length = T.length:=by simp [swap]
theorem swap_perm {T:List Nat} {j:Nat} (h0:0 < j) (h:j < T.length):(swap T j).Perm T:=by
 have e:T = T.take (j - 1) ++ T.getD (j - 1) 0 :: T.getD j 0 :: T.drop (j + 1):=by
  apply List.ext_getElem?
  intro i
  by_cases c1:i < j - 1
  ·rw [List.getElem?_append_left (by simp;omega),List.getElem?_take,if_pos c1]
  ·rw [List.getElem?_append_right (by simp;omega)]
   simp only [List.length_take,Nat.min_eq_left (show j - 1 <= T.length from by omega)]
   by_cases c2:i = j - 1
   ·subst c2
    simp [List.getD,show j - 1 < T.length from by omega]
   ·by_cases c3:i = j
    ·subst c3
     rw [show i - (i - 1) = 1 from by omega]
     simp [List.getD,h]
    ·rw [show i - (j - 1) = (i - (j + 1)) + 2 from by omega]
     simp only [List.getElem?_cons_succ,List.getElem?_drop]
     congr 1
     omega
 have e':swap T j = T.take (j - 1) ++ T.getD j 0 :: T.getD (j - 1) 0 :: T.drop (j + 1):=by
  apply List.ext_getElem?
  intro i
  unfold swap
  by_cases c1:i < j - 1
  ·rw [List.getElem?_append_left (by simp;omega),List.getElem?_take,if_pos c1,List.getElem?_set_ne (by omega),List.getElem?_set_ne (by omega)]
  ·rw [List.getElem?_append_right (by simp;omega)]
   simp only [List.length_take,Nat.min_eq_left (show j - 1 <= T.length from by omega)]
   by_cases c2:i = j - 1
   ·subst c2
    rw [List.getElem?_set_self (by simp;omega)]
    simp
   ·by_cases c3:i = j
    ·subst c3
     rw [show i - (i - 1) = 1 from by omega,List.getElem?_set_ne (by omega),List.getElem?_set_self h]
     simp
    ·rw [show i - (j - 1) = (i - (j + 1)) + 2 from by omega,List.getElem?_set_ne (by omega),List.getElem?_set_ne (by omega)]
     simp only [List.getElem?_cons_succ,List.getElem?_drop]
     congr 1
     omega
 rw [e']
 conv=>rhs;rw [e]
 exact List.Perm.append_left _ (List.Perm.swap _ _ _)
theorem swap_get {T:List Nat} {j:Nat} (h0:0 < j) (h:j < T.length) (i:Nat):(swap T j).getD i 0 = if i = j then T.getD (j - 1) 0 else if i = j - 1 then T.getD j 0 else T.getD i 0:=by
 unfold swap
 simp only [List.getD,List.getElem?_set,List.length_set]
 by_cases c1:i = j
 ·subst c1
  rw [if_neg (show ¬ i - 1 = i by omega),if_pos rfl,if_pos h]
  simp
 ·by_cases c2:i = j - 1
  ·subst c2
   simp [show j - 1 < T.length from by omega]
   intro h'
   omega
  ·simp [c1,c2,Ne.symm c1,Ne.symm c2]
structure Ins (S T:List Nat) (i j:Nat):Prop where
 perm:T.Perm S
 ji:j <= i
 il:i < T.length
 srt:∀ p q,p <= q -> q <= i -> p ≠ j -> q ≠ j -> T.getD p 0 <= T.getD q 0
 up:∀ q,j < q -> q <= i -> T.getD j 0 <= T.getD q 0
structure Pre (S T:List Nat) (i:Nat):Prop where
 perm:T.Perm S
 srt:∀ p q,p <= q -> q < i -> T.getD p 0 <= T.getD q 0
theorem Pre.start (S:List Nat):Pre S S 1:=⟨List.Perm.refl _,fun p q h1 h2=>by obtain rfl:p = q:=by omega
                                                                              omega⟩
theorem Pre.len {S T:List Nat} {i:Nat} (h:Pre S T i):T.length = S.length:=h.perm.length_eq
theorem Pre.ins {S T:List Nat} {i:Nat} (h:Pre S T i) (hi:i < T.length):Ins S T i i:=⟨h.perm,Nat.le_refl _,hi,fun p q h1 h2 h3 h4=>h.srt p q h1 (by omega),fun q h1 h2=>by omega⟩
theorem Ins.done0 {S T:List Nat} {i:Nat} (h:Ins S T i 0):Pre S T (i + 1):=⟨h.perm,fun p q h1 h2=>by
 by_cases c1:p = 0
 ·subst c1
  by_cases c2:q = 0
  ·subst c2;omega
  ·exact h.up q (by omega) (by omega)
 ·exact h.srt p q h1 (by omega) c1 (by omega)⟩
theorem Ins.done {S T:List Nat} {i j:Nat} (h:Ins S T i j) (hj:0 < j) (hle:T.getD (j - 1) 0 <= T.getD j 0):Pre S T (i + 1):=⟨h.perm,fun p q h1 h2=>by
 have ji:=h.ji
 by_cases c1:p = j
 ·subst c1
  by_cases c2:q = p
  ·subst c2;omega
  ·exact h.up q (by omega) (by omega)
 ·by_cases c2:q = j
  ·subst c2
   by_cases c3:p = q - 1
   ·subst c3;exact hle
   ·have:=h.srt p (q - 1) (by omega) (by omega) c1 (by omega)
    omega
  ·exact h.srt p q h1 (by omega) c1 c2⟩
theorem Ins.swap {S T:List Nat} {i j:Nat} (h:Ins S T i j) (hj:0 < j) (hlt:T.getD j 0 < T.getD (j - 1) 0):Ins S (SP.swap T j) i (j - 1):=by
 have ji:=h.ji
 have il:=h.il
 have sg:=swap_get (T:=T) (j:=j) hj (by omega)
 refine ⟨(swap_perm hj (by omega)).trans h.perm,by omega,by rw [swap_len];exact il,fun p q h1 h2 h3 h4=>?_,fun q h1 h2=>?_⟩
 ·rw [sg,sg,if_neg h3,if_neg h4]
  by_cases c1:p = j
  ·rw [if_pos c1]
   by_cases c2:q = j
   ·rw [if_pos c2];omega
   ·rw [if_neg c2]
    exact h.srt (j - 1) q (by omega) h2 (by omega) c2
  ·rw [if_neg c1]
   by_cases c2:q = j
   ·rw [if_pos c2]
    exact h.srt p (j - 1) (by omega) (by omega) c1 (by omega)
   ·rw [if_neg c2]
    exact h.srt p q h1 h2 c1 c2
 ·rw [sg,sg,if_neg (show ¬ j - 1 = j by omega),if_pos rfl,if_neg (show ¬ q = j - 1 by omega)]
  by_cases c1:q = j
  ·rw [if_pos c1];omega
  ·rw [if_neg c1]
   exact h.up q (by omega) h2
end SP
end Go.Proofs.YtfjlpifaaknmpaaGreat
