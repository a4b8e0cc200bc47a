/- Packed: MAsk9, RSt8, RTk8, RPu8, RAsk9. -/
import Derived.Test.YtaalagkbpeinkaaGreatMp22
set_option linter.unusedSimpArgs false
set_option linter.unusedVariables false
set_option maxRecDepth 100000
namespace Go.Proofs.YtaalagkbpeinkaaGreat
open Go.RowKit
theorem enters_mi:∀ args w,(callFunc 67 args).run Tryz.prog w=.ok (.enter 67 args) w:=by
 intro args w
 simp[go_sem,callFunc,Tryz.func67,Tryz.f67]
theorem enters_ma:∀ args w,(callFunc 69 args).run Tryz.prog w=.ok (.enter 69 args) w:=by
 intro args w
 simp[go_sem,callFunc,Tryz.func69,Tryz.f69]
section
variable {F F':Nat->Prop} {w w':World} {s a:Nat} {g:SP.Geo} {R R':AM.Raw}
theorem mi_each (h:SI F w s a g R) {slot m:Nat} (h0:R.off=false) (hs:slot < g.s) (hm:m ≠ 0) {A:Nat} {w4:World} (T:MiI w A w4 (.slice none 0 0) []) :
 Calls Tryz.prog 66 #[ptr s,.int .i64 (slot:Int),.int .u64 (m:Int),.func (.func 67) #[] #[.pointer (some ⟨A,0,none⟩)]] w4 fun e w'=>e=.returned (.int .i64 0)/\∃ va,MiI w A w' va (SP.wants R g slot m g.n):=by
 have hn:=h.ok.n255
 refine (meach_any (g:=g) (a:=a) hs hm enters_mi (fun _=>R) (fun j w'=>j<=g.n/\∃ va,MiI w A w' va (SP.wants R g slot m j)) (fun _ _=>False) (fun _=>0) ?_ ?_ ?_ ?_ ?_).mono ?_
 ·rintro j w' ⟨_,va,t⟩
  exact⟨h0,F,h.keep t.gr⟩
 ·rintro j w1 w2 ⟨hj,va,t⟩ g1
  exact⟨hj,va,t.keep g1⟩
 ·rintro j w' hj ho ⟨_,va,t⟩
  refine⟨by omega,va,?_⟩
  rw[SP.wants_succ,SP.want_off ho]
  simpa using t
 ·rintro j w' hj ho ⟨_,va,t⟩
  have e:=SP.wants_succ R g slot m j
  rw[SP.want_on ho] at e
  cases hb:SP.has R g slot m j
  ·rw[hb] at e
   have hl:=SP.wants_len_le R g slot m j
   refine (miss_no t j (by omega)).mono ?_
   rintro e2 w2 ⟨rfl,va',t'⟩
   refine⟨rfl,?_⟩
   rw[if_pos rfl]
   exact⟨by omega,va',by rw[e];simpa using t'⟩
  ·rw[hb] at e
   refine (miss_yes t j).mono ?_
   rintro e2 w2 ⟨rfl,rfl⟩
   refine⟨rfl,?_⟩
   rw[if_pos rfl]
   exact⟨by omega,va,by rw[e];simpa using t⟩
 ·exact⟨by omega,_,T⟩
 ·rintro e w' (⟨rfl,_,t⟩ | ⟨_,_,hc,_⟩)
  ·exact⟨rfl,t⟩
  ·exact absurd rfl hc
theorem mmiss_all (h:SI F w s a g R) (slot:Int) (m:Nat) :
 Calls Tryz.prog 18 #[ptr s,.int .i64 slot,.int .u64 (m:Int)] w fun e w'=>∃ v,e=.returned (.tuple #[v,.int .i64 ((SP.askE R g slot m:Nat):Int)])/\IOwn w.heap.size w' v (SP.ints (SP.missL R g slot m))/\w.grownBy w' none:=by
 have T0:Hid (MiI w w.heap.size (w.alloc (.cells #[.slice none 0 0] 50)) (.slice none 0 0) []):=⟨Boxed.new w _ _,IOwn.nil _ _,Nat.le_refl _,World.grownBy_alloc w _ none⟩
 unfold SP.missL
 by_cases he:SP.askE R g slot m=0
 ·rw[if_pos he,he]
  obtain⟨y,hm⟩:=SP.askE_zero he
  obtain⟨h0,q1,q2⟩:=SP.why_zero y
  obtain⟨sl,rfl⟩:∃ n:Nat,slot=(n:Int):=⟨slot.toNat,by omega⟩
  rw[Int.toNat_natCast]
  have EA:Hid (∀ A w4,MiI w A w4 (.slice none 0 0) []->Calls Tryz.prog 66 #[ptr s,.int .i64 (sl:Int),.int .u64 (m:Int),.func (.func 67) #[] #[.pointer (some ⟨A,0,none⟩)]] w4 fun e w'=>e=.returned (.int .i64 0)/\∃ va,MiI w A w' va (SP.wants R g sl m g.n)):=fun A w4 T=>mi_each h h0 (by omega) hm T
  clear h he y hm h0 q1 q2
  go_enter Tryz.func18,Tryz.ntmps18
  go_wp2_with (go_at_call 66;refine (EA.out _ _ T0.out).mono ?_;rintro e w5 ⟨rfl,va,t5⟩;have c5:=t5.ba.cell;obtain⟨ap,an,ac,rfl,ha⟩:=t5.ia.ivec.opened;have T5:Hid (MiI w w.heap.size w5 (.slice ap an ac) (SP.wants R g sl m g.n)):=t5;clear t5 ha)
  go_ret2
  exact⟨_,rfl,T5.out.ia,T5.out.gr⟩
 ·rw[if_neg he]
  obtain⟨c,hc⟩:∃ c,c=SP.askE R g slot m:=⟨_,rfl⟩
  have EA:Hid (∀ (f:Nat) (cap:Array Value) w4,w.grownBy w4 none->Calls Tryz.prog 66 #[ptr s,.int .i64 slot,.int .u64 (m:Int),.func (.func f) #[] cap] w4 fun e w'=>e=.returned (.int .i64 (c:Int))/\w4.grownBy w' none):=fun f cap w4 g4=>by
   rw[hc]
   exact meach_err (h.keep g4) he f cap
  rw[<- hc] at he ⊢
  have hne:((c:Int) != 0)=true:=neb_yes (b:=0) he
  clear h hc he
  go_enter Tryz.func18,Tryz.ntmps18
  go_wp2_with (go_at_call 66;refine (EA.out _ _ _ T0.out.gr).mono ?_;rintro e w5 ⟨rfl,g5⟩;have G5:Hid (w.grownBy w5 none):=grown_trans T0.out.gr g5;clear g5)
  go_ret2
  exact⟨_,rfl,IOwn.nil _ _,G5.out⟩
structure MaI (w0:World) (A:Nat) (w:World) (n:Int):Prop where
 ba:Boxed w A 3 (.int .i64 n)
 lA:w0.heap.size<=A
 gr:w0.grownBy w none
theorem ma_each (h:SI F w s a g R) {slot m:Nat} (h0:R.off=false) (hs:slot < g.s) (hm:m ≠ 0) {A:Nat} {w4:World} (T:MaI w A w4 (-(g.k:Int))) :
 Calls Tryz.prog 66 #[ptr s,.int .i64 (slot:Int),.int .u64 (m:Int),.func (.func 69) #[] #[.pointer (some ⟨A,0,none⟩)]] w4 fun e w'=>e=.returned (.int .i64 0)/\MaI w A w' (((SP.hits R g slot m g.n).length:Int) - (g.k:Int)):=by
 have hn:=h.ok.n255
 have hkn:=h.ok.kn
 refine (meach_any (g:=g) (a:=a) hs hm enters_ma (fun _=>R) (fun j w'=>j<=g.n/\MaI w A w' (((SP.hits R g slot m j).length:Int) - (g.k:Int))) (fun _ _=>False) (fun _=>0) ?_ ?_ ?_ ?_ ?_).mono ?_
 ·rintro j w' ⟨_,t⟩
  exact⟨h0,F,h.keep t.gr⟩
 ·rintro j w1 w2 ⟨hj,t⟩ g1
  exact⟨hj,t.ba.kept g1 (by simp),t.lA,grown_trans t.gr g1⟩
 ·rintro j w' hj ho ⟨_,t⟩
  refine⟨by omega,?_⟩
  rw[SP.hits_succ,SP.hits_off ho]
  simpa using t
 ·rintro j w' hj ho ⟨_,t⟩
  have e:=SP.hits_succ R g slot m j
  cases hb:SP.has R g slot m j
  ·rw[hb] at e
   refine (marg_no j).mono ?_
   rintro e2 w2 ⟨rfl,rfl⟩
   refine⟨rfl,?_⟩
   rw[if_pos rfl]
   exact⟨by omega,by rw[e];simpa using t⟩
  ·rw[hb] at e
   have hl:=SP.hits_len_le R g slot m j
   refine (marg_yes t.ba j (by omega) (by omega)).mono ?_
   rintro e2 w2 ⟨rfl,b2,g2⟩
   refine⟨rfl,?_⟩
   rw[if_pos rfl]
   refine⟨by omega,?_,t.lA,grown_new t.gr g2 (fun i e=>by have:=Option.some.inj e;have:=t.lA;omega)⟩
   rw[e]
   have e3:((((SP.hits R g slot m j)++(if true=true then [j] else [])).length:Nat):Int) - (g.k:Int)=((SP.hits R g slot m j).length:Int) - (g.k:Int)+1:=by simp;omega
   rw[e3]
   exact b2
 ·exact⟨by omega,by simpa [SP.hits_zero] using T⟩
 ·rintro e w' (⟨rfl,_,t⟩ | ⟨_,_,hc,_⟩)
  ·exact⟨rfl,t⟩
  ·exact absurd rfl hc
theorem mmarg_all (h:SI F w s a g R) (slot:Int) (m:Nat) :
 Calls Tryz.prog 19 #[ptr s,.int .i64 slot,.int .u64 (m:Int)] w fun e w'=>e=.returned (.tuple #[.int .i64 (SP.marg R g slot m),.int .i64 ((SP.askE R g slot m:Nat):Int)])/\w.grownBy w' none:=by
 have H:Hid (SI F w s a g R):=h
 have hk:g.k<=255:=by have:=h.ok.kn;have:=h.ok.n255;omega
 have hw:IntKind.i64.wrap (-(g.k:Int))=-(g.k:Int):=IntWalk.i64_in _ (by omega)
 have hgf:=geo_k g
 have TM:Hid (∀ w1,w.grownBy w1 none->MaI w w1.heap.size (w1.alloc (.cells #[.int .i64 (-(g.k:Int))] 3)) (-(g.k:Int))):=fun w1 g1=>⟨Boxed.new w1 _ _,g1.size,gb_alloc g1 _⟩
 unfold SP.marg
 by_cases he:SP.askE R g slot m=0
 ·rw[if_pos he,he]
  obtain⟨y,hm⟩:=SP.askE_zero he
  obtain⟨h0,q1,q2⟩:=SP.why_zero y
  obtain⟨sl,rfl⟩:∃ n:Nat,slot=(n:Int):=⟨slot.toNat,by omega⟩
  rw[Int.toNat_natCast]
  have EA:Hid (∀ A w4,MaI w A w4 (-(g.k:Int))->Calls Tryz.prog 66 #[ptr s,.int .i64 (sl:Int),.int .u64 (m:Int),.func (.func 69) #[] #[.pointer (some ⟨A,0,none⟩)]] w4 fun e w'=>e=.returned (.int .i64 0)/\MaI w A w' (((SP.hits R g sl m g.n).length:Int) - (g.k:Int))):=fun A w4 T=>ma_each h h0 (by omega) hm T
  clear h he y hm h0 q1 q2 hk
  go_enter Tryz.func19,Tryz.ntmps19
  go_wp2_with (first
   | (go_at_call 68;refine (sgeo_yes H.out).mono ?_;rintro e w1 ⟨rfl,g1⟩;have G1:Hid (w.grownBy w1 none):=g1;clear g1)
   | (go_at_call 66;refine (EA.out _ _ (TM.out _ G1.out)).mono ?_;rintro e w5 ⟨rfl,t5⟩;have c5:=t5.ba.cell;have T5:Hid (w.grownBy w5 none):=t5.gr;clear t5))
  go_ret2
  exact⟨rfl,T5.out⟩
 ·rw[if_neg he]
  obtain⟨c,hc⟩:∃ c,c=SP.askE R g slot m:=⟨_,rfl⟩
  have EA:Hid (∀ (f:Nat) (cap:Array Value) w4,w.grownBy w4 none->Calls Tryz.prog 66 #[ptr s,.int .i64 slot,.int .u64 (m:Int),.func (.func f) #[] cap] w4 fun e w'=>e=.returned (.int .i64 (c:Int))/\w4.grownBy w' none):=fun f cap w4 g4=>by
   rw[hc]
   exact meach_err (h.keep g4) he f cap
  rw[<- hc] at he ⊢
  have hne:((c:Int) != 0)=true:=neb_yes (b:=0) he
  clear h hc he hk
  go_enter Tryz.func19,Tryz.ntmps19
  go_wp2_with (first
   | (go_at_call 68;refine (sgeo_yes H.out).mono ?_;rintro e w1 ⟨rfl,g1⟩;have G1:Hid (w.grownBy w1 none):=g1;clear g1)
   | (go_at_call 66;refine (EA.out _ _ _ (TM.out _ G1.out).gr).mono ?_;rintro e w5 ⟨rfl,g5⟩;have G5:Hid (w.grownBy w5 none):=grown_trans (TM.out _ G1.out).gr g5;clear g5))
  go_ret2
  exact⟨rfl,G5.out⟩
end
abbrev tptr (t:Nat):Value:=.pointer (some ⟨t,0,none⟩)
section
variable {G G':Nat->Prop} {w w':World} {t r:Nat} {g:SP.Geo} {R R':AM.Raw}
theorem RSI.dark (h:RSI G w t r g R):w.cell? ⟨r,4,none⟩=some (.bool R.off):=by
 obtain⟨A,⟨dp,dc,ds,lp,lc,fs,hrl⟩,hs⟩:=h.j
 obtain⟨_,_,_,_,z4⟩:=hrl.topCells
 rw[hs.dark] at z4
 exact z4
theorem rswhy_yes (h:RSI G w t r g R) (d slot:Int):Calls Tryz.prog 84 #[tptr t,.int .i64 d,.int .i64 slot] w fun e w'=>e=.returned (.int .i64 (SP.whyD R g d slot:Int))/\w'=w:=by
 have c0:=h.at1
 have c2:=h.at3
 have c3:=h.at4
 have c4:=h.dark
 obtain⟨y,hy⟩:∃ y,y=SP.whyD R g d slot:=⟨_,rfl⟩
 rw[<- hy]
 unfold SP.whyD SP.why at hy
 obtain⟨b,hb⟩:∃ b,b=R.off:=⟨_,rfl⟩
 rw[<- hb] at c4 hy
 clear h hb
 cases b
 ·simp only[Bool.false_eq_true,if_false] at hy
  by_cases h1:slot < 0
  ·rw[if_neg (show ¬ (0<=slot/\slot < (g.s:Int)) by omega)] at hy
   have hy':y=6:=hy
   subst hy'
   clear hy
   go_enter Tryz.func84,Tryz.ntmps84
   go_wp2
   go_ret
   exact⟨rfl,rfl⟩
  ·by_cases h2:slot < (g.s:Int)
   ·have h3:¬ (g.s:Int)<=slot:=by omega
    rw[if_pos (show 0<=slot/\slot < (g.s:Int) by omega)] at hy
    by_cases h4:d < 0
    ·have hy':y=6:=by rw[hy,if_neg (by omega),if_neg (by omega)]
     subst hy'
     clear hy
     go_enter Tryz.func84,Tryz.ntmps84
     go_wp2
     go_ret
     exact⟨rfl,rfl⟩
    ·by_cases h5:d < (g.n:Int)
     ·have h6:¬ (g.n:Int)<=d:=by omega
      have hy':y=0:=by rw[hy,if_neg (by omega),if_pos (by omega)]
      subst hy'
      clear hy
      go_enter Tryz.func84,Tryz.ntmps84
      go_wp2
      go_ret
      exact⟨rfl,rfl⟩
     ·have h6:(g.n:Int)<=d:=by omega
      have hy':y=6:=by rw[hy,if_neg (by omega),if_neg (by omega)]
      subst hy'
      clear hy
      go_enter Tryz.func84,Tryz.ntmps84
      go_wp2
      go_ret
      exact⟨rfl,rfl⟩
   ·have h3:(g.s:Int)<=slot:=by omega
    rw[if_neg (show ¬ (0<=slot/\slot < (g.s:Int)) by omega)] at hy
    have hy':y=6:=hy
    subst hy'
    clear hy
    go_enter Tryz.func84,Tryz.ntmps84
    go_wp2
    go_ret
    exact⟨rfl,rfl⟩
 ·have hy':y=8:=hy
  subst hy'
  clear hy
  go_enter Tryz.func84,Tryz.ntmps84
  go_wp2
  go_ret
  exact⟨rfl,rfl⟩
theorem rswhy_at (h:RSI G w t r g R) {d slot c:Int} (hc:(SP.whyD R g d slot:Int)=c):Calls Tryz.prog 84 #[tptr t,.int .i64 d,.int .i64 slot] w fun e w'=>e=.returned (.int .i64 c)/\w'=w:=by
 subst hc;exact rswhy_yes h d slot
theorem whyD_0 (hg:g.Ok R) (slot:Int):SP.whyD R g 0 slot=SP.why R g slot:=by
 unfold SP.whyD
 have h1:=hg.k1
 have h2:=hg.kn
 by_cases c:SP.why R g slot=0
 ·rw[if_neg (by omega),if_pos (by omega),c]
 ·rw[if_pos c]
theorem rswhy_0 (h:RSI G w t r g R) {slot c:Int} (hc:(SP.why R g slot:Int)=c):Calls Tryz.prog 84 #[tptr t,.int .i64 0,.int .i64 slot] w fun e w'=>e=.returned (.int .i64 c)/\w'=w :=
 rswhy_at h (by rw[whyD_0 h.ok];exact hc)
theorem RSI.on (h:RSI G w t r g R) (d:Int):Calls Tryz.prog 52 #[rptr r,.int .i64 d] w fun e w'=>e=.returned (.bool (R.on d))/\w'=w:=by
 obtain⟨A,hj,hs⟩:=h.j
 have:=ron_yes hj d
 rw[hs.on] at this
 exact this
theorem RSI.read (h:RSI G w t r g R) (hL:R.L.length<=1000000) (d k:Int):Calls Tryz.prog 54 #[rptr r,.int .i64 d,.int .i64 k] w fun e w'=>∃ p n m,e=.returned (.tuple #[.slice p n m,.int .i64 (R.reach d k:Int)])/\Own w.heap.size w' (.slice p n m) (R.read d k)/\w.grownBy w' none:=by
 obtain⟨A,hj,hs⟩:=h.j
 exact rread_at hj hs hL rfl rfl
theorem RSI.sect (h:RSI G w t r g R) (hL:R.L.length<=1000000) (h0:R.off=false) {d slot i:Nat} (hd:d < g.n) (hs:slot < g.s) (hi:i < 8):Calls Tryz.prog 54 #[rptr r,.int .i64 (d:Int),.int .i64 ((g.f+8 * slot+i:Nat):Int)] w fun e w'=>∃ p n m,e=.returned (.tuple #[.slice p n m,.int .i64 (if R.on (d:Int)=true then 0 else 9)])/\(R.on (d:Int)=true->Own w.heap.size w' (.slice p n m) (AM.look R.C d (g.f+8 * slot+i)))/\w.grownBy w' none:=by
 have hr:=SP.reach_on h.ok h0 hs hi hd
 refine (h.read hL (d:Int) ((g.f+8 * slot+i:Nat):Int)).mono ?_
 rintro e w' ⟨p,n,m,rfl,h1,h2⟩
 refine⟨p,n,m,?_,fun ho=>?_,h2⟩
 ·rw[hr];split <;> rfl
 ·rw[if_pos ho] at hr
  have e1:R.read (d:Int) ((g.f+8 * slot+i:Nat):Int)=AM.look R.C d (g.f+8 * slot+i):=by
   obtain⟨A,_,hs⟩:=h.j
   rw[<- hs.reads,hs.read,if_pos hr,Int.toNat_natCast,Int.toNat_natCast]
  rw[e1] at h1
  exact h1
theorem sec_sums {R:AM.Raw} {g:SP.Geo} (hg:g.Ok R) (hn:R.n<=4096) {slot k:Nat} (hs:slot < g.s) (hk:k<=8):IntKind.i64.wrap (8 * (slot:Int))=8 * (slot:Int)/\IntKind.i64.wrap ((g.f:Int)+8 * (slot:Int))=((g.f+8 * slot:Nat):Int)/\IntKind.i64.wrap (((g.f+8 * slot:Nat):Int)+(k:Int))=((g.f+8 * slot+k:Nat):Int):=by
 have h1:=hg.room
 refine⟨IntWalk.i64_in _ (by omega),?_,?_⟩
 ·have e:(g.f:Int)+8 * (slot:Int)=((g.f+8 * slot:Nat):Int):=by omega
  rw[e];exact IntWalk.i64_in _ (by omega)
 ·have e:((g.f+8 * slot:Nat):Int)+(k:Int)=((g.f+8 * slot+k:Nat):Int):=by omega
  rw[e];exact IntWalk.i64_in _ (by omega)
theorem RSI.n (h:RSI G w t r g R):R.n<=4096:=by
 obtain⟨A,_,hs⟩:=h.j
 exact hs.ok.n2
end
section
variable {G G':Nat->Prop} {w w':World} {t r:Nat} {g:SP.Geo} {R R':AM.Raw}
set_option maxHeartbeats 1600000 in
theorem rstake_on (h:RSI G w t r g R) (hL:R.L.length<=1000000) (h0:R.off=false) {d slot:Nat} (hd:d < g.n) (hs:slot < g.s) (ho:R.on (d:Int)=true) :
 Calls Tryz.prog 120 #[tptr t,.int .i64 (d:Int),.int .i64 (slot:Int)] w fun e w'=>∃ u,e=.returned (.tuple #[.int .u64 ((SP.numD R g slot d:Nat):Int),u,.bool (SP.yesD R g slot d)])/\Own w.heap.size w' u (SP.datD R g slot d)/\w.grownBy w' none:=by
 have c0:=h.at1
 have H:Hid (RSI G w t r g R):=h
 have HON:Hid (Calls Tryz.prog 52 #[rptr r,.int .i64 (d:Int)] w fun e w'=>e=.returned (.bool true)/\w'=w):=by have:=h.on (d:Int);rw[ho] at this;exact this
 have HS:Hid (∀ w',w.grownBy w' none->w'.cell? ⟨t,0,none⟩=some (rptr r)/\w'.cell? ⟨t,4,none⟩=some (.int .i64 (g.f:Int))):=fun w' g'=>⟨(h.keep g').at1,(h.keep g').at5⟩
 obtain⟨q,hq⟩:∃ q:Nat->Nat,q=fun k=>g.f+8 * slot+k:=⟨_,rfl⟩
 obtain⟨b,hb⟩:∃ b:Nat,b=g.f+8 * slot:=⟨_,rfl⟩
 have HW:Hid (∀ (k:Nat),k<=8->IntKind.i64.wrap (8 * (slot:Int))=8 * (slot:Int)/\IntKind.i64.wrap ((g.f:Int)+8 * (slot:Int))=(b:Int)/\IntKind.i64.wrap ((b:Int)+(k:Int))=((q k:Nat):Int)):=fun k hk=>by
  have eq9:q k=g.f+8 * slot+k:=by rw[hq]
  rw[hb,eq9]
  exact sec_sums h.ok h.n hs hk
 have RD:Hid (∀ (k:Nat) (W:World),k < 8->w.grownBy W none->Calls Tryz.prog 54 #[rptr r,.int .i64 (d:Int),.int .i64 ((q k:Nat):Int)] W fun e w'=>∃ p n m,e=.returned (.tuple #[.slice p n m,.int .i64 0])/\Own W.heap.size w' (.slice p n m) (AM.look R.C d (q k))/\W.grownBy w' none):=fun k W hk gW=>by
  have eq9:q k=g.f+8 * slot+k:=by rw[hq]
  rw[eq9]
  have:=(h.keep gW).sect hL h0 hd hs hk
  rw[if_pos ho] at this
  refine this.mono ?_
  rintro e w' ⟨p,n,m,rfl,h1,h2⟩
  exact⟨p,n,m,rfl,h1 ho,h2⟩
 have HT:Hid (∀ (k:Nat),SP.sectTo R g slot d (k+1)=SP.sectTo R g slot d k++[AM.look R.C d (q k)]):=fun k=>by
  have eq9:q k=g.f+8 * slot+k:=by rw[hq]
  rw[eq9]
  exact SP.sectTo_succ R g slot d k
 have HF:Hid (SP.numD R g slot d=CM.tN (SP.sectTo R g slot d 8)/\SP.yesD R g slot d=CM.yes (SP.sectTo R g slot d 8)/\SP.datD R g slot d=CM.tL (SP.sectTo R g slot d 8)):=by
  unfold SP.numD SP.yesD SP.datD
  rw[SP.sects_on ho]
  exact⟨rfl,rfl,rfl⟩
 clear h hL h0 hd hs ho hq hb
 go_enter Tryz.func120,Tryz.ntmps120
 go_wp2_with (first | (go_at_call 52;refine HON.out.mono ?_;rintro e w9 ⟨rfl,hw9⟩;obtain rfl:=hw9.symm;clear hw9) | fail)
 clear c0 HON
 go_loopw [9,10] (fun tl ti wr=>∃ k:Nat,k<=8/\ti=.int .i64 k/\Hid (∃ us,RMat 5 w.heap.size wr tl us (SP.sectTo R g slot d k))/\Hid (w.grownBy wr none)) (fun _ ti _=>8 - (intOf ti).toNat)
 case atStart=>exact⟨0,by omega,rfl,⟨[],RMat.nil _ _ _⟩,World.grownBy.refl _ _⟩
 case round =>
  obtain⟨k,hk,rfl,OK,GK⟩:=hrel
  obtain⟨us,OM⟩:=OK.out
  have MK:Hid (RMat 5 w.heap.size wr u9 us (SP.sectTo R g slot d k)):=OM
  have HL:Hid ((us.length+1) * 24<=140737488351232):=by show _<=_;rw[OM.same,SP.sectTo_len];omega
  clear OM OK
  by_cases hlt:k < 8
  ·have i4:(k:Int) < 8:=by omega
   have GD:Hid (w.grownBy (wr.drewN 1) none):=grown_trans GK.out (grown_drewN wr 1)
   obtain⟨j1,j2,j3⟩:=HW.out k hk
   have RK:Hid (Calls Tryz.prog 54 #[rptr r,.int .i64 (d:Int),.int .i64 ((q k:Nat):Int)] (wr.drewN 1) fun e w'=>∃ p n m,e=.returned (.tuple #[.slice p n m,.int .i64 0])/\Own (wr.drewN 1).heap.size w' (.slice p n m) (AM.look R.C d (q k))/\(wr.drewN 1).grownBy w' none):=RD.out k _ hlt GD.out
   have HS1:Hid (SP.sectTo R g slot d (k+1)=SP.sectTo R g slot d k++[AM.look R.C d (q k)]):=HT.out k
   generalize SP.sectTo R g slot d k=XK at *
   generalize AM.look R.C d (q k)=SK at *
   generalize q k=z at *
   go_wp2_with fail
   go_region_held3 (fun w'=>w'.cell? ⟨t,0,none⟩=some (rptr r)/\w'.cell? ⟨t,4,none⟩=some (.int .i64 (g.f:Int))) (first | exact HS.out _ GD.out | exact HS.out _ (grown_trans GD.out G1.out))
    ((go_at_call 54;refine RK.out.mono ?_;rintro e w2 ⟨p,pn,pm,rfl,op,g2⟩;have G1:Hid ((wr.drewN 1).grownBy w2 none):=g2;have OP:Hid (Arr 5 w.heap.size w2 (.slice p pn pm) SK):=op.arr.down GD.out.size;clear op g2))
   have M1:Hid (RMat 5 w.heap.size w2 u9 us XK):=(MK.out.keep (grown_drewN wr 1)).keep G1.out
   have G2:Hid (w.grownBy w2 none):=grown_trans GD.out G1.out
   clear RK GD G1 MK
   go_wp2_with (at_builtin;refine wpList_append_row rfl _ _ rfl _ ⟨w2.heap.size,0,none⟩ rfl rfl (M1.out.keep (World.grownBy_alloc w2 _ none)).row (cell_new1 _ _ rfl) rfl (gb_alloc G2.out _).size HL.out ?_;intro v3 w3 r3 g3 at3;have M3:Hid (RMat 5 w.heap.size w3 v3 (us++[.slice p pn pm]) (XK++[SK])):=(M1.out.keep (World.grownBy_alloc w2 _ none)).more (by decide) (OP.out.keep (World.grownBy_alloc w2 _ none)) HL.out r3 g3;have G3:Hid (w.grownBy w3 none):=grown_new (gb_alloc G2.out _) g3 (fun i e=>M1.out.lo i e);clear r3 g3 at3)
   go_roundw
   case rel=>exact⟨k+1,by omega,by go_num,⟨_,by rw[HS1.out];exact M3.out⟩,G3⟩
   case measure=>simp[intOf];omega
  ·obtain rfl:k=8:=by omega
   have TK:Hid (Calls Tryz.prog 136 #[u9] wr fun e w'=>∃ u,e=.returned (.tuple #[.int .u64 ((SP.numD R g slot d:Nat):Int),u,.bool (SP.yesD R g slot d)])/\Own w.heap.size w' u (SP.datD R g slot d)/\w.grownBy w' none):=by
    rw[HF.out.1,HF.out.2.1,HF.out.2.2]
    refine (refTake7 MK.out.mat).mono ?_
    rintro e w' ⟨u,rfl,ou,gu⟩
    exact⟨u,rfl,ou.down GK.out.size,grown_trans GK.out gu⟩
   clear HF MK HL
   go_wp2_with (go_at_call 136;refine TK.out.mono ?_;rintro e w3 ⟨u,rfl,ou,gu⟩;have OU:Hid (Own w.heap.size w3 u (SP.datD R g slot d)/\w.grownBy w3 none):=⟨ou,gu⟩;clear ou gu)
   go_ret3
   exact⟨_,rfl,OU.out⟩
theorem rstake_any (h:RSI G w t r g R) (hL:R.L.length<=1000000) (h0:R.off=false) {d slot:Nat} (hd:d < g.n) (hs:slot < g.s) :
 Calls Tryz.prog 120 #[tptr t,.int .i64 (d:Int),.int .i64 (slot:Int)] w fun e w'=>∃ u,e=.returned (.tuple #[.int .u64 ((SP.numD R g slot d:Nat):Int),u,.bool (SP.yesD R g slot d)])/\Own w.heap.size w' u (SP.datD R g slot d)/\w.grownBy w' none:=by
 cases ho:R.on (d:Int) with
 | true=>exact rstake_on h hL h0 hd hs ho
 | false =>
   have e0:SP.sects R g slot d=[]:=SP.sects_off ho g slot
   have y0:CM.yes ([]:List (List Nat))=false:=by simp[CM.yes]
   have e1:SP.numD R g slot d=0:=by unfold SP.numD;rw[e0];exact tN_no y0
   have e2:SP.yesD R g slot d=false:=by unfold SP.yesD;rw[e0];exact y0
   have e3:SP.datD R g slot d=[]:=by unfold SP.datD;rw[e0];exact tL_no y0
   rw[e1,e2,e3]
   have c0:=h.at1
   have HON:Hid (Calls Tryz.prog 52 #[rptr r,.int .i64 (d:Int)] w fun e w'=>e=.returned (.bool false)/\w'=w):=by have:=h.on (d:Int);rw[ho] at this;exact this
   clear h hL h0 hd hs ho e0 y0 e1 e2 e3
   go_enter Tryz.func120,Tryz.ntmps120
   go_wp2_with (first | (go_at_call 52;refine HON.out.mono ?_;rintro e w9 ⟨rfl,hw9⟩;obtain rfl:=hw9.symm;clear hw9) | fail)
   go_ret3
   exact⟨_,rfl,Own.nil _ _,World.grownBy.refl _ _⟩
end
section
variable {G G':Nat->Prop} {w w':World} {t r:Nat} {g:SP.Geo} {R R':AM.Raw}
set_option maxHeartbeats 3200000 in
theorem rsput_any (h:RSI G w t r g R) {d slot m:Nat} {v:Value} {part:List Nat} (hs:slot < g.s) (hv:Vec w v part) (hm:m ≠ 0) (hm2:m < 18446744073709551616) (hp:part.length=448) (hL:R.L.length<=999000) :
 Calls Tryz.prog 86 #[tptr t,.int .i64 (d:Int),.int .i64 (slot:Int),.int .u64 (m:Int),v] w fun e w'=>e=.returned (.int .i64 ((SP.lays R g slot d m part).1:Int))/\∃ G',RSI G' w' t r g (SP.lays R g slot d m part).2/\Step G w G' w':=by
 have H:Hid (RSI G w t r g R):=h
 have hf:CM.fit m part=true:=CM.fit_iff.2 ⟨hm,by omega,by omega,by omega⟩
 have hE:CM.putE m part=0:=(CM.putE_fit m part).2 hf
 have hS:CM.putS m part=CM.secs m part 8:=by unfold CM.putS;rw[if_pos hf,hp]
 have RP:Hid (Calls Tryz.prog 118 #[.int .u64 (m:Int),v] w fun e w'=>∃ u us,e=.returned (.tuple #[u,.int .i64 0])/\RMat 5 w.heap.size w' u us (CM.secs m part 8)/\w.grownBy w' none):=by
  have:=refPut7 (n:=m) hm2 hv
  rw[hE,hS] at this
  exact this
 have HN:Hid (slot < g.s/\R.L.length<=999000/\g.f+8 * slot+8<=4096):=⟨hs,hL,by have:=h.ok.room;have:=h.n;omega⟩
 have HW:Hid (∀ (k:Nat),k<=8->IntKind.i64.wrap (8 * (slot:Int))=8 * (slot:Int)/\IntKind.i64.wrap ((g.f:Int)+8 * (slot:Int))=((g.f+8 * slot:Nat):Int)/\IntKind.i64.wrap (((g.f+8 * slot:Nat):Int)+(k:Int))=((g.f+8 * slot+k:Nat):Int)):=fun k hk=>sec_sums h.ok h.n hs hk
 have HK:Hid (∀ (j:Nat),SP.Kept R (SP.layTo R g slot d (CM.secs m part 8) j).2):=SP.layTo_kept R g slot d (CM.secs m part 8)
 have HLL:Hid (∀ (j:Nat),(SP.layTo R g slot d (CM.secs m part 8) j).2.L.length<=R.L.length+j):=layTo_len R g slot d (CM.secs m part 8)
 unfold SP.lays
 have HX:Hid (∀ (j:Nat),j < 8->(SP.layTo R g slot d (CM.secs m part 8) j).1=0->SP.layTo R g slot d (CM.secs m part 8) (j+1)=(SP.layTo R g slot d (CM.secs m part 8) j).2.writes (d:Int) ((g.f+8 * slot+j:Nat):Int) ((CM.secs m part 8).getD j [])):=fun j _ h0=>SP.layTo_succ h0
 have HY:Hid (∀ (j:Nat),j<=8->(SP.layTo R g slot d (CM.secs m part 8) j).1 ≠ 0->SP.layTo R g slot d (CM.secs m part 8) 8=SP.layTo R g slot d (CM.secs m part 8) j):=fun j hj h0=>SP.layTo_stop h0 8 hj
 have HX0:Hid (SP.layTo R g slot d (CM.secs m part 8) 0=(0,R)):=rfl
 have HSL:Hid ((CM.secs m part 8).length=8):=CM.secs_len _ _ _
 clear h hf hE hS hv hm hm2 hp hL hs
 generalize SP.layTo R g slot d (CM.secs m part 8)=LT at *
 generalize CM.secs m part 8=S at *
 go_enter Tryz.func86,Tryz.ntmps86
 go_wp2_with (first | (go_at_call 118;refine RP.out.mono ?_;rintro e w1 ⟨u,us,rfl,m1,g1⟩;have hs8:=m1.same;obtain⟨q,N,cap,rfl,hN⟩:=m1.mat.row.opened;have M1:Hid (RMat 5 w.heap.size w1 (.slice q N cap) us S):=m1;have G1:Hid (w.grownBy w1 none):=g1;have HNN:Hid (N=8/\us.length=8):=⟨by have:=HSL.out;omega,by have:=HSL.out;omega⟩;have hN8:N=8:=HNN.out.1;clear m1 g1 hs8 hN) | fail)
 subst hN8
 have S1:Hid (RSI G w1 t r g R):=H.out.keep G1.out
 clear RP
 go_loopw [13] (fun ti wr=>∃ k:Nat,k<=8/\ti=.int .i64 k/\Hid ((LT k).1=0)/\Hid (∃ G',RSI G' wr t r g (LT k).2/\Step G w1 G' wr)) (fun ti _=>8 - (intOf ti).toNat)
 case atStart=>exact⟨0,by omega,rfl,(by show _=_;rw[HX0.out]),⟨G,by rw[HX0.out];exact S1.out,Step.refl _ _⟩⟩
 case round =>
  clear S1
  obtain⟨k,hk,rfl,OK,HR⟩:=hrel
  obtain⟨G1',i1,st1⟩:=HR.out
  have I1:Hid (RSI G1' wr t r g (LT k).2):=i1
  have T1:Hid (Step G w1 G1' wr):=st1
  clear HR i1 st1
  by_cases hlt:k < 8
  ·have i4:(k:Int) < 8:=by omega
   have i5:(0:Int)<=(k:Int):=by omega
   obtain⟨b0,off,rfl,hr0⟩:=M1.out.mat.row.spot (k:=k) (by have:=HNN.out;omega)
   obtain⟨pk,nk,ck,ek,hnk⟩:=(M1.out.mat.vec k (by have:=HSL.out;omega)).opened
   have hbk:¬ G b0:=fun hf=>by
    have h1:=M1.out.lo b0 rfl
    have h2:=H.out.glt b0 hf
    omega
   rw[ek] at hr0
   have HROW:Hid (∀ (W:World) (G9:Nat->Prop),Step G w1 G9 W->W.cell? ⟨b0,off+k,none⟩=some (.slice pk nk ck)):=fun W G9 st=>st.upd.cell hr0 hbk
   have AV:Hid (Aw G1' wr (.slice pk nk ck) (S.getD k [])):=by
    have hv:=M1.out.vec k (by have:=HSL.out;omega)
    rw[ek] at hv
    have a0:Aw G w1 (.slice pk nk ck) (S.getD k []):=⟨hv.vec,fun _ g' hg' hf=>by
     have h1:=hv.lo g' hg'
     have h2:=H.out.glt g' hf
     omega⟩
    exact a0.step T1.out
   clear hr0 ek hnk hbk
   have GW:Hid (wr.grownBy (wr.drewN 1) none):=grown_drewN wr 1
   obtain⟨j1,j2,j3⟩:=HW.out k hk
   obtain⟨b,hb⟩:∃ b,b=g.f+8 * slot:=⟨_,rfl⟩
   obtain⟨z,hz⟩:∃ z,z=g.f+8 * slot+k:=⟨_,rfl⟩
   have hx:=HX.out k hlt OK.out
   rw[<- hz] at j3 hx
   rw[<- hb] at j2 j3
   obtain⟨c,hc⟩:∃ c,c=(LT (k+1)).1:=⟨_,rfl⟩
   have WR:Hid (Calls Tryz.prog 119 #[rptr r,.int .i64 (d:Int),.int .i64 (z:Int),.slice pk nk ck] (wr.drewN 1) fun e w'=>e=.returned (.int .i64 (c:Int))/\∃ G',RSI G' w' t r g (LT (k+1)).2/\Step G w1 G' w'):=by
    obtain⟨A,hj,hsim⟩:=(I1.out.keep GW.out).j
    have hv9:=AV.out.keep GW.out
    have h1:=rwrite_at (d:=(d:Int)) (k:=(z:Int)) hj hsim (by have h1:=HLL.out k;have h2:=HN.out.2.1;omega) hv9 rfl
    have h2:=(hsim.write (d:Int) (z:Int) hv9.vec.small).2
    rw[<- hx] at h1 h2
    rw[<- hc] at h1
    refine h1.mono ?_
    rintro e w9 ⟨rfl,G9,i9,s9⟩
    exact⟨rfl,G9,(I1.out.keep GW.out).step i9 h2 s9 (H.out.ok.kept (HK.out (k+1))),(T1.out.trans (Step.new GW.out)).trans s9⟩
   have HCE:Hid (c=(LT (k+1)).1):=hc
   have HC:Hid ((wr.drewN 1).cell? ⟨t,0,none⟩=some (rptr r)/\(wr.drewN 1).cell? ⟨t,4,none⟩=some (.int .i64 (g.f:Int))/\(wr.drewN 1).cell? ⟨b0,off+k,none⟩=some (.slice pk nk ck)):=⟨(I1.out.keep GW.out).at1,(I1.out.keep GW.out).at5,HROW.out _ _ (T1.out.trans (Step.new GW.out))⟩
   have HEQ:Hid (c ≠ 0->LT 8=LT (k+1)):=fun h0=>HY.out (k+1) (by omega) (by rw[<- HCE.out];exact h0)
   clear hb hz hc AV GW hx
   by_cases h0:c=0
   ·subst h0
    go_wp2_with fail
    go_region_held3 (fun w'=>w'.cell? ⟨t,0,none⟩=some (rptr r)/\w'.cell? ⟨t,4,none⟩=some (.int .i64 (g.f:Int))/\w'.cell? ⟨b0,off+k,none⟩=some (.slice pk nk ck)) (first | exact HC.out | exact HC2.out)
     ((go_at_call 119;refine WR.out.mono ?_;rintro e w2 ⟨rfl,G2,i2,st2⟩;have I2:Hid (RSI G2 w2 t r g (LT (k+1)).2):=i2;have T2:Hid (Step G w1 G2 w2):=st2;have HC2:Hid (w2.cell? ⟨t,0,none⟩=some (rptr r)/\w2.cell? ⟨t,4,none⟩=some (.int .i64 (g.f:Int))/\w2.cell? ⟨b0,off+k,none⟩=some (.slice pk nk ck)):=⟨I2.out.at1,I2.out.at5,HROW.out _ _ T2.out⟩;clear i2 st2))
    go_wp2
    go_roundw
    case rel=>exact⟨k+1,by omega,by go_num,HCE.out.symm,⟨G2,I2.out,T2.out⟩⟩
    case measure=>simp[intOf];omega
   ·have hne:((c:Int) != 0)=true:=neb_yes (b:=0) h0
    have HEQ2:Hid (LT 8=LT (k+1)):=HEQ.out h0
    go_wp2_with fail
    go_region_held3 (fun w'=>w'.cell? ⟨t,0,none⟩=some (rptr r)/\w'.cell? ⟨t,4,none⟩=some (.int .i64 (g.f:Int))/\w'.cell? ⟨b0,off+k,none⟩=some (.slice pk nk ck)) (first | exact HC.out | exact HC2.out)
     ((go_at_call 119;refine WR.out.mono ?_;rintro e w2 ⟨rfl,G2,i2,st2⟩;have I2:Hid (RSI G2 w2 t r g (LT (k+1)).2):=i2;have T2:Hid (Step G w1 G2 w2):=st2;have HC2:Hid (w2.cell? ⟨t,0,none⟩=some (rptr r)/\w2.cell? ⟨t,4,none⟩=some (.int .i64 (g.f:Int))/\w2.cell? ⟨b0,off+k,none⟩=some (.slice pk nk ck)):=⟨I2.out.at1,I2.out.at5,HROW.out _ _ T2.out⟩;clear i2 st2))
    go_wp2
    go_ret
    rw[HEQ2.out,<- HCE.out]
    exact⟨rfl,G2,I2.out,(Step.new G1.out).trans T2.out⟩
  ·obtain rfl:k=8:=by omega
   go_wp2
   go_ret
   rw[OK.out]
   exact⟨rfl,G1',I1.out,(Step.new G1.out).trans T1.out⟩
theorem rsPut_all (h:RSI G w t r g R) (d slot:Int) (m:Nat) (hm2:m < 18446744073709551616) {v:Value} {xs:List Nat} (hv:Vec w v xs) (hL:R.L.length<=990000) :
 Calls Tryz.prog 89 #[tptr t,.int .i64 d,.int .i64 slot,.int .u64 (m:Int),v] w fun e w'=>e=.returned (.int .i64 ((SP.put R g d slot m xs).1:Int))/\∃ G',RSI G' w' t r g (SP.put R g d slot m xs).2/\Step G w G' w':=by
 obtain⟨q,N,cap,rfl,hN⟩:=hv.opened
 unfold SP.put
 by_cases hy:SP.whyD R g d slot=0
 ·have HR:Hid (Calls Tryz.prog 84 #[tptr t,.int .i64 d,.int .i64 slot] w fun e w''=>e=.returned (.int .i64 0)/\w''=w):=rswhy_at h (by rw[hy];rfl)
  rw[if_neg (by omega)]
  have H:Hid (RSI G w t r g R):=h
  by_cases ha:m=0\/xs.length ≠ 448
  ·rw[if_pos ha]
   by_cases hm:m=0
   ·subst hm
    clear h hy ha hv hN hm2 hL
    go_enter Tryz.func89,Tryz.ntmps89
    go_wp2_with (go_at_call 84;refine HR.out.mono ?_;rintro e w9 ⟨rfl,hw9⟩;obtain rfl:=hw9.symm;clear hw9)
    go_ret
    exact⟨rfl,G,H.out,Step.refl _ _⟩
   ·have i1:((m:Int)==0)=false:=eqb_no (b:=0) hm
    have i2:((N:Int) != 448)=true:=neb_yes (b:=448) (by rcases ha with h' | h' <;> omega)
    clear h hy ha hv hN hm2 hL hm
    go_enter Tryz.func89,Tryz.ntmps89
    go_wp2_with (go_at_call 84;refine HR.out.mono ?_;rintro e w9 ⟨rfl,hw9⟩;obtain rfl:=hw9.symm;clear hw9)
    go_ret
    exact⟨rfl,G,H.out,Step.refl _ _⟩
  ·rw[if_neg ha]
   obtain⟨y1,y2,y3⟩:=SP.whyD_zero hy
   obtain⟨y4,y5,y6⟩:=SP.why_zero y1
   obtain⟨d',rfl⟩:∃ n:Nat,d=(n:Int):=⟨d.toNat,by omega⟩
   obtain⟨sl,rfl⟩:∃ n:Nat,slot=(n:Int):=⟨slot.toNat,by omega⟩
   rw[Int.toNat_natCast,Int.toNat_natCast]
   have hm:m ≠ 0:=fun e=>ha (.inl e)
   have hx:xs.length=448:=Classical.byContradiction fun e=>ha (.inr e)
   have PU:Hid (Calls Tryz.prog 86 #[tptr t,.int .i64 (d':Int),.int .i64 (sl:Int),.int .u64 (m:Int),.slice q N cap] w fun e w'=>e=.returned (.int .i64 ((SP.lays R g sl d' m xs).1:Int))/\∃ G',RSI G' w' t r g (SP.lays R g sl d' m xs).2/\Step G w G' w'):=rsput_any h (by omega) hv hm hm2 hx (by omega)
   have i1:((m:Int)==0)=false:=eqb_no (b:=0) hm
   have i2:((N:Int) != 448)=false:=neb_no (b:=448) (by omega)
   generalize SP.lays R g sl d' m xs=LL at *
   clear h hy ha hv hN hm2 hL hm hx y1 y2 y3 y4 y5 y6
   go_enter Tryz.func89,Tryz.ntmps89
   go_wp2_with (first
    | (go_at_call 84;refine HR.out.mono ?_;rintro e w9 ⟨rfl,hw9⟩;obtain rfl:=hw9.symm;clear hw9)
    | (go_at_call 86;refine PU.out.mono ?_;rintro e w2 ⟨rfl,hp2⟩;have HP2:Hid (∃ G',RSI G' w2 t r g LL.2/\Step G w G' w2):=hp2;clear hp2))
   go_ret
   exact⟨rfl,HP2.out⟩
 ·rw[if_pos hy]
  have H:Hid (RSI G w t r g R):=h
  obtain⟨y,hy1⟩:∃ y,y=SP.whyD R g d slot:=⟨_,rfl⟩
  have HR:Hid (Calls Tryz.prog 84 #[tptr t,.int .i64 d,.int .i64 slot] w fun e w''=>e=.returned (.int .i64 (y:Int))/\w''=w):=rswhy_at h (by rw[hy1])
  rw[<- hy1] at hy ⊢
  have hne:((y:Int) != 0)=true:=neb_yes (b:=0) hy
  clear h hy hy1 hv hN hm2 hL
  go_enter Tryz.func89,Tryz.ntmps89
  go_wp2_with (go_at_call 84;refine HR.out.mono ?_;rintro e w9 ⟨rfl,hw9⟩;obtain rfl:=hw9.symm;clear hw9)
  go_ret
  exact⟨rfl,G,H.out,Step.refl _ _⟩
theorem rshas_all (h:RSI G w t r g R) (hL:R.L.length<=1000000) (d slot:Int) (m:Nat) :
 Calls Tryz.prog 87 #[tptr t,.int .i64 d,.int .i64 slot,.int .u64 (m:Int)] w fun e w'=>e=.returned (.tuple #[.bool (SP.hasV R g d slot m),.int .i64 (SP.hasE R g d slot m:Int)])/\w.grownBy w' none:=by
 by_cases hy:SP.whyD R g d slot=0
 ·have HR:Hid (Calls Tryz.prog 84 #[tptr t,.int .i64 d,.int .i64 slot] w fun e w''=>e=.returned (.int .i64 0)/\w''=w):=rswhy_at h (by rw[hy];rfl)
  by_cases hm:m=0
  ·have e1:SP.hasE R g d slot m=1:=by unfold SP.hasE;rw[if_neg (by omega),if_pos hm]
   have e2:SP.hasV R g d slot m=false:=by unfold SP.hasV;rw[e1];rfl
   rw[e1,e2]
   subst hm
   clear h hL hy e1 e2
   go_enter Tryz.func87,Tryz.ntmps87
   go_wp2_with (go_at_call 84;refine HR.out.mono ?_;rintro e w9 ⟨rfl,hw9⟩;obtain rfl:=hw9.symm;clear hw9)
   go_ret2
   exact⟨rfl,World.grownBy.refl _ _⟩
  ·have e1:SP.hasE R g d slot m=0:=by unfold SP.hasE;rw[if_neg (by omega),if_neg hm]
   obtain⟨y1,y2,y3⟩:=SP.whyD_zero hy
   obtain⟨y4,y5,y6⟩:=SP.why_zero y1
   have e2:SP.hasV R g d slot m=(SP.yesD R g slot.toNat d.toNat&&decide (SP.numD R g slot.toNat d.toNat=m)):=by unfold SP.hasV;rw[e1];simp
   obtain⟨d',rfl⟩:∃ n:Nat,d=(n:Int):=⟨d.toNat,by omega⟩
   obtain⟨sl,rfl⟩:∃ n:Nat,slot=(n:Int):=⟨slot.toNat,by omega⟩
   rw[Int.toNat_natCast,Int.toNat_natCast] at e2
   have TK:Hid (Calls Tryz.prog 120 #[tptr t,.int .i64 (d':Int),.int .i64 (sl:Int)] w fun e w'=>∃ u,e=.returned (.tuple #[.int .u64 ((SP.numD R g sl d':Nat):Int),u,.bool (SP.yesD R g sl d')])/\w.grownBy w' none):=(rstake_any h hL y4 (by omega) (by omega)).mono fun e w' ⟨u,q1,_,q2⟩=>⟨u,q1,q2⟩
   have hne:((m:Int)==0)=false:=eqb_no (b:=0) hm
   rw[e1,e2]
   clear h hL hy e1 e2 y1 y2 y3 y4 y5 y6 hm
   generalize SP.numD R g sl d'=Nn at *
   generalize SP.yesD R g sl d'=Y at *
   cases Y
   ·go_enter Tryz.func87,Tryz.ntmps87
    go_wp2_with (first
     | (go_at_call 84;refine HR.out.mono ?_;rintro e w9 ⟨rfl,hw9⟩;obtain rfl:=hw9.symm;clear hw9)
     | (go_at_call 120;refine TK.out.mono ?_;rintro e w1 ⟨u,rfl,g1⟩;have G1:Hid (w.grownBy w1 none):=g1;clear g1))
    go_ret2
    exact⟨rfl,G1.out⟩
   ·by_cases he:Nn=m
    ·have i3:((Nn:Int)==(m:Int))=true:=eqb_yes he
     have HD:Hid (decide (Nn=m)=true):=decide_eq_true he
     clear he
     go_enter Tryz.func87,Tryz.ntmps87
     go_wp2_with (first
      | (go_at_call 84;refine HR.out.mono ?_;rintro e w9 ⟨rfl,hw9⟩;obtain rfl:=hw9.symm;clear hw9)
      | (go_at_call 120;refine TK.out.mono ?_;rintro e w1 ⟨u,rfl,g1⟩;have G1:Hid (w.grownBy w1 none):=g1;clear g1))
     go_ret2
     exact⟨by rw[HD.out];rfl,G1.out⟩
    ·have i3:((Nn:Int)==(m:Int))=false:=eqb_no he
     have HD:Hid (decide (Nn=m)=false):=decide_eq_false he
     clear he
     go_enter Tryz.func87,Tryz.ntmps87
     go_wp2_with (first
      | (go_at_call 84;refine HR.out.mono ?_;rintro e w9 ⟨rfl,hw9⟩;obtain rfl:=hw9.symm;clear hw9)
      | (go_at_call 120;refine TK.out.mono ?_;rintro e w1 ⟨u,rfl,g1⟩;have G1:Hid (w.grownBy w1 none):=g1;clear g1))
     go_ret2
     exact⟨by rw[HD.out];rfl,G1.out⟩
 ·have e1:SP.hasE R g d slot m=SP.whyD R g d slot:=by unfold SP.hasE;rw[if_pos hy]
  have e2:SP.hasV R g d slot m=false:=by unfold SP.hasV;rw[e1,decide_eq_false hy];rfl
  rw[e1,e2]
  obtain⟨y,hy1⟩:∃ y,y=SP.whyD R g d slot:=⟨_,rfl⟩
  have HR:Hid (Calls Tryz.prog 84 #[tptr t,.int .i64 d,.int .i64 slot] w fun e w''=>e=.returned (.int .i64 (y:Int))/\w''=w):=rswhy_at h (by rw[hy1])
  rw[<- hy1] at hy ⊢
  have hne:((y:Int) != 0)=true:=neb_yes (b:=0) hy
  clear h hL hy hy1 e1 e2
  go_enter Tryz.func87,Tryz.ntmps87
  go_wp2_with (go_at_call 84;refine HR.out.mono ?_;rintro e w9 ⟨rfl,hw9⟩;obtain rfl:=hw9.symm;clear hw9)
  go_ret2
  exact⟨rfl,World.grownBy.refl _ _⟩
end
section
variable {G G':Nat->Prop} {w w':World} {t r:Nat} {g:SP.Geo} {R R':AM.Raw}
theorem rhas_main (h:RSI G w t r g R) (hL:R.L.length<=1000000) {slot m d:Nat} (h0:R.off=false) (hs:slot < g.s) (hm:m ≠ 0) (hd:d < g.n) :
 Calls Tryz.prog 87 #[tptr t,.int .i64 (d:Int),.int .i64 (slot:Int),.int .u64 (m:Int)] w fun e w'=>e=.returned (.tuple #[.bool (SP.has R g slot m d),.int .i64 0])/\w.grownBy w' none:=by
 have h1:=rshas_all h hL (d:Int) (slot:Int) m
 obtain⟨e1,e2⟩:=SP.has_at (d:=d) h0 hs hd hm
 rw[e1,e2] at h1
 exact h1
theorem rhas_err (h:RSI G w t r g R) (hL:R.L.length<=1000000) {slot:Int} {m:Nat}:Calls Tryz.prog 87 #[tptr t,.int .i64 0,.int .i64 slot,.int .u64 (m:Int)] w fun e w'=>(∃ b,e=.returned (.tuple #[.bool b,.int .i64 ((SP.askE R g slot m:Nat):Int)]))/\w.grownBy w' none:=by
 refine (rshas_all h hL ((0:Nat):Int) slot m).mono ?_
 rintro e w'' ⟨rfl,g2⟩
 exact⟨⟨_,by rw[SP.has_first (by have:=h.ok.kn;omega)]⟩,g2⟩
set_option maxHeartbeats 3200000 in
theorem rmiss_err (h:RSI G w t r g R) (hL:R.L.length<=1000000) {slot:Int} {m:Nat} (he:SP.askE R g slot m ≠ 0) :
 Calls Tryz.prog 32 #[tptr t,.int .i64 slot,.int .u64 (m:Int)] w fun e w'=>e=.returned (.tuple #[.slice none 0 0,.int .i64 ((SP.askE R g slot m:Nat):Int)])/\w.grownBy w' none:=by
 have HH:Hid (Calls Tryz.prog 87 #[tptr t,.int .i64 0,.int .i64 slot,.int .u64 (m:Int)] w fun e w'=>(∃ b,e=.returned (.tuple #[.bool b,.int .i64 ((SP.askE R g slot m:Nat):Int)]))/\w.grownBy w' none):=rhas_err h hL
 have c2:=h.at3
 have i0:(0:Int) < (g.n:Int):=by have:=h.ok.kn;omega
 obtain⟨c,hc⟩:∃ c,c=SP.askE R g slot m:=⟨_,rfl⟩
 rw[<- hc] at he HH ⊢
 have hne:((c:Int) != 0)=true:=neb_yes (b:=0) he
 clear h hL hc he
 go_enter Tryz.func32,Tryz.ntmps32
 go_wp2_with fail
 go_loopw [9] (fun ti wr=>ti=.int .i64 0/\Hid (wr=w)) (fun _ _=>0)
 case atStart=>exact⟨rfl,rfl⟩
 case round =>
  obtain⟨rfl,hwr⟩:=hrel
  have hw:=hwr.out
  clear hwr
  subst hw
  go_wp2_with (go_at_call 87;refine HH.out.mono ?_;rintro e w2 ⟨⟨b,rfl⟩,g2⟩;have G2:Hid (wr.grownBy w2 none):=g2;clear g2)
  go_ret2
  exact⟨rfl,G2.out⟩
set_option maxHeartbeats 6400000 in
theorem rmiss_main (h:RSI G w t r g R) (hL:R.L.length<=1000000) {slot m:Nat} (h0:R.off=false) (hs:slot < g.s) (hm:m ≠ 0) :
 Calls Tryz.prog 32 #[tptr t,.int .i64 (slot:Int),.int .u64 (m:Int)] w fun e w'=>∃ v,e=.returned (.tuple #[v,.int .i64 0])/\IOwn w.heap.size w' v (SP.ints (SP.wants R g slot m g.n))/\w.grownBy w' none:=by
 have H:Hid (RSI G w t r g R):=h
 have HN:Hid (R.L.length<=1000000/\R.off=false/\slot < g.s/\m ≠ 0):=⟨hL,h0,hs,hm⟩
 have hn255:g.n<=255:=h.ok.n255
 have HS:Hid (∀ w',w.grownBy w' none->w'.cell? ⟨t,0,none⟩=some (rptr r)/\w'.cell? ⟨t,2,none⟩=some (.int .i64 (g.n:Int))):=fun w' g'=>⟨(h.keep g').at1,(h.keep g').at3⟩
 clear h hL h0 hs hm
 go_enter Tryz.func32,Tryz.ntmps32
 go_wp2_with fail
 go_loopw [8,9] (fun tl ti wr=>∃ j:Nat,j<=g.n/\ti=.int .i64 (j:Int)/\Hid (IOwn w.heap.size wr tl (SP.ints (SP.wants R g slot m j)))/\Hid (w.grownBy wr none)) (fun _ ti _=>g.n - (intOf ti).toNat)
 case atStart=>exact⟨0,by omega,rfl,IOwn.nil _ _,World.grownBy.refl _ _⟩
 case round =>
  obtain⟨j,hj,rfl,OK,GK⟩:=hrel
  have c2:=(HS.out _ GK.out).2
  obtain⟨ap,an,ac,e8,ha⟩:=OK.out.ivec.opened
  subst e8
  clear ha
  by_cases hlt:j < g.n
  ·have i3:(j:Int) < (g.n:Int):=by omega
   have HH:Hid (Calls Tryz.prog 87 #[tptr t,.int .i64 (j:Int),.int .i64 (slot:Int),.int .u64 (m:Int)] wr fun e w'=>e=.returned (.tuple #[.bool (SP.has R g slot m j),.int .i64 0])/\wr.grownBy w' none):=rhas_main (H.out.keep GK.out) HN.out.1 HN.out.2.1 HN.out.2.2.1 HN.out.2.2.2 hlt
   have HO:Hid (∀ w',wr.grownBy w' none->Calls Tryz.prog 52 #[rptr r,.int .i64 (j:Int)] w' fun e w''=>e=.returned (.bool (R.on (j:Int)))/\w''=w'):=fun w' g'=>((H.out.keep GK.out).keep g').on (j:Int)
   have HW:Hid (SP.wants R g slot m (j+1)=SP.wants R g slot m j++(if SP.want R g slot m j then [j] else [])):=SP.wants_succ R g slot m j
   have HWW:Hid (SP.want R g slot m j=(R.on (j:Int)&&!(SP.has R g slot m j))):=rfl
   have HLL:Hid ((SP.wants R g slot m j).length<=j):=SP.wants_len_le R g slot m j
   obtain⟨o,ho⟩:∃ o,o=R.on (j:Int):=⟨_,rfl⟩
   obtain⟨b,hb⟩:∃ b,b=SP.has R g slot m j:=⟨_,rfl⟩
   rw[<- ho] at HO HWW
   rw[<- hb] at HH HWW
   clear ho hb
   cases o
   ·have HE:Hid (SP.wants R g slot m (j+1)=SP.wants R g slot m j):=by show _=_;rw[HW.out,HWW.out];simp
    clear HW HWW HLL
    go_wp2_with (first
     | (go_at_call 87;refine HH.out.mono ?_;rintro e w1 ⟨rfl,g1⟩;have G1:Hid (wr.grownBy w1 none):=g1;have c0:=(HS.out _ (grown_trans GK.out g1)).1;clear g1)
     | (go_at_call 52;refine (HO.out _ G1.out).mono ?_;rintro e w9 ⟨rfl,hw⟩;obtain rfl:=hw.symm;clear hw))
    go_roundw
    case rel=>exact⟨j+1,by omega,by go_num,by rw[HE.out];exact OK.out.keep G1.out,grown_trans GK.out G1.out⟩
    case measure=>simp[intOf];omega
   ·cases b
    ·have HE:Hid (SP.wants R g slot m (j+1)=SP.wants R g slot m j++[j]):=by show _=_;rw[HW.out,HWW.out];simp
     have HL:Hid (((SP.ints (SP.wants R g slot m j)).length+1) * 8<=140737488351232):=by show _<=_;rw[SP.ints_len];have:=HLL.out;omega
     clear HW HWW HLL
     go_wp2_with (first
      | (go_at_call 87;refine HH.out.mono ?_;rintro e w1 ⟨rfl,g1⟩;have G1:Hid (wr.grownBy w1 none):=g1;have c0:=(HS.out _ (grown_trans GK.out g1)).1;clear g1)
      | (go_at_call 52;refine (HO.out _ G1.out).mono ?_;rintro e w9 ⟨rfl,hw⟩;obtain rfl:=hw.symm;clear hw;have OA:Hid (IOwn w.heap.size (w1.alloc (.cells #[.int .i64 (j:Int)] 3)) (.slice ap an ac) (SP.ints (SP.wants R g slot m j))):=OK.out.keep (gb_alloc G1.out _);have GA:Hid (w.grownBy (w1.alloc (.cells #[.int .i64 (j:Int)] 3)) none):=grown_trans GK.out (gb_alloc G1.out _))
      | (at_builtin;refine wpList_append_int rfl _ _ rfl _ ⟨w1.heap.size,0,none⟩ rfl rfl OA.out (cell_new1 _ _ rfl) GA.out.size HL.out ?_;intro v2 w2 o2 g2 a2;have O2:Hid (IOwn w.heap.size w2 v2 (SP.ints (SP.wants R g slot m j)++[(j:Int)])):=o2;have G2:Hid (w.grownBy w2 none):=grown_new GA.out g2 (fun i e=>OA.out.lo i e);clear o2 g2 a2))
     go_roundw
     case rel=>exact⟨j+1,by omega,by go_num,by rw[HE.out,SP.ints_app];exact O2.out,G2⟩
     case measure=>simp[intOf];omega
    ·have HE:Hid (SP.wants R g slot m (j+1)=SP.wants R g slot m j):=by show _=_;rw[HW.out,HWW.out];simp
     clear HW HWW HLL
     go_wp2_with (first
      | (go_at_call 87;refine HH.out.mono ?_;rintro e w1 ⟨rfl,g1⟩;have G1:Hid (wr.grownBy w1 none):=g1;have c0:=(HS.out _ (grown_trans GK.out g1)).1;clear g1)
      | (go_at_call 52;refine (HO.out _ G1.out).mono ?_;rintro e w9 ⟨rfl,hw⟩;obtain rfl:=hw.symm;clear hw))
     go_roundw
     case rel=>exact⟨j+1,by omega,by go_num,by rw[HE.out];exact OK.out.keep G1.out,grown_trans GK.out G1.out⟩
     case measure=>simp[intOf];omega
  ·have i3:¬ (j:Int) < (g.n:Int):=by omega
   have hjn:Hid (j=g.n):=by show _=_;omega
   go_wp2
   go_ret2
   exact⟨_,rfl,by rw[<- hjn.out];exact OK.out,GK.out⟩
theorem rmiss_all (h:RSI G w t r g R) (hL:R.L.length<=1000000) (slot:Int) (m:Nat) :
 Calls Tryz.prog 32 #[tptr t,.int .i64 slot,.int .u64 (m:Int)] w fun e w'=>∃ v,e=.returned (.tuple #[v,.int .i64 ((SP.askE R g slot m:Nat):Int)])/\IOwn w.heap.size w' v (SP.ints (SP.missL R g slot m))/\w.grownBy w' none:=by
 unfold SP.missL
 by_cases he:SP.askE R g slot m=0
 ·rw[if_pos he,he]
  obtain⟨y,hm⟩:=SP.askE_zero he
  obtain⟨h0,q1,q2⟩:=SP.why_zero y
  obtain⟨sl,rfl⟩:∃ n:Nat,slot=(n:Int):=⟨slot.toNat,by omega⟩
  rw[Int.toNat_natCast]
  exact rmiss_main h hL h0 (by omega) hm
 ·rw[if_neg he]
  refine (rmiss_err h hL he).mono ?_
  rintro e w' ⟨rfl,g1⟩
  exact⟨_,rfl,IOwn.nil _ _,g1⟩
set_option maxHeartbeats 3200000 in
theorem rmarg_err (h:RSI G w t r g R) (hL:R.L.length<=1000000) {slot:Int} {m:Nat} (he:SP.askE R g slot m ≠ 0) :
 Calls Tryz.prog 33 #[tptr t,.int .i64 slot,.int .u64 (m:Int)] w fun e w'=>e=.returned (.tuple #[.int .i64 0,.int .i64 ((SP.askE R g slot m:Nat):Int)])/\w.grownBy w' none:=by
 have HH:Hid (Calls Tryz.prog 87 #[tptr t,.int .i64 0,.int .i64 slot,.int .u64 (m:Int)] w fun e w'=>(∃ b,e=.returned (.tuple #[.bool b,.int .i64 ((SP.askE R g slot m:Nat):Int)]))/\w.grownBy w' none):=rhas_err h hL
 have c2:=h.at3
 have i0:(0:Int) < (g.n:Int):=by have:=h.ok.kn;omega
 obtain⟨c,hc⟩:∃ c,c=SP.askE R g slot m:=⟨_,rfl⟩
 rw[<- hc] at he HH ⊢
 have hne:((c:Int) != 0)=true:=neb_yes (b:=0) he
 clear h hL hc he
 go_enter Tryz.func33,Tryz.ntmps33
 go_wp2_with fail
 go_loopw [9] (fun ti wr=>ti=.int .i64 0/\Hid (wr=w)) (fun _ _=>0)
 case atStart=>exact⟨rfl,rfl⟩
 case round =>
  obtain⟨rfl,hwr⟩:=hrel
  have hw:=hwr.out
  clear hwr
  subst hw
  go_wp2_with (go_at_call 87;refine HH.out.mono ?_;rintro e w2 ⟨⟨b,rfl⟩,g2⟩;have G2:Hid (wr.grownBy w2 none):=g2;clear g2)
  go_ret2
  exact⟨rfl,G2.out⟩
set_option maxHeartbeats 6400000 in
theorem rmarg_main (h:RSI G w t r g R) (hL:R.L.length<=1000000) {slot m:Nat} (h0:R.off=false) (hs:slot < g.s) (hm:m ≠ 0) :
 Calls Tryz.prog 33 #[tptr t,.int .i64 (slot:Int),.int .u64 (m:Int)] w fun e w'=>e=.returned (.tuple #[.int .i64 (((SP.hits R g slot m g.n).length:Int) - (g.k:Int)),.int .i64 0])/\w.grownBy w' none:=by
 have H:Hid (RSI G w t r g R):=h
 have HN:Hid (R.L.length<=1000000/\R.off=false/\slot < g.s/\m ≠ 0):=⟨hL,h0,hs,hm⟩
 have hn255:g.n<=255:=h.ok.n255
 have hk:g.k<=255:=by have:=h.ok.kn;omega
 have HS:Hid (∀ w',w.grownBy w' none->w'.cell? ⟨t,1,none⟩=some (.int .i64 (g.k:Int))/\w'.cell? ⟨t,2,none⟩=some (.int .i64 (g.n:Int))):=fun w' g'=>⟨(h.keep g').at2,(h.keep g').at3⟩
 clear h hL h0 hs hm
 go_enter Tryz.func33,Tryz.ntmps33
 go_wp2_with fail
 go_loopw [8,9] (fun tn ti wr=>∃ j c:Nat,j<=g.n/\ti=.int .i64 (j:Int)/\tn=.int .i64 (c:Int)/\c<=j/\Hid (c=(SP.hits R g slot m j).length)/\Hid (w.grownBy wr none)) (fun _ ti _=>g.n - (intOf ti).toNat)
 case atStart=>exact⟨0,0,by omega,rfl,rfl,by omega,rfl,World.grownBy.refl _ _⟩
 case round =>
  obtain⟨j,c,hj,rfl,rfl,hcj,HC,GK⟩:=hrel
  have c2:=(HS.out _ GK.out).2
  by_cases hlt:j < g.n
  ·have i3:(j:Int) < (g.n:Int):=by omega
   have HH:Hid (Calls Tryz.prog 87 #[tptr t,.int .i64 (j:Int),.int .i64 (slot:Int),.int .u64 (m:Int)] wr fun e w'=>e=.returned (.tuple #[.bool (SP.has R g slot m j),.int .i64 0])/\wr.grownBy w' none):=rhas_main (H.out.keep GK.out) HN.out.1 HN.out.2.1 HN.out.2.2.1 HN.out.2.2.2 hlt
   have HW:Hid (SP.hits R g slot m (j+1)=SP.hits R g slot m j++(if SP.has R g slot m j then [j] else [])):=SP.hits_succ R g slot m j
   obtain⟨b,hb⟩:∃ b,b=SP.has R g slot m j:=⟨_,rfl⟩
   rw[<- hb] at HH HW
   clear hb
   cases b
   ·have HE:Hid (c=(SP.hits R g slot m (j+1)).length):=by show _=_;rw[HW.out,HC.out];simp
    clear HW HC
    go_wp2_with (go_at_call 87;refine HH.out.mono ?_;rintro e w1 ⟨rfl,g1⟩;have G1:Hid (w.grownBy w1 none):=grown_trans GK.out g1;clear g1)
    go_roundw
    case rel=>exact⟨j+1,c,by omega,by go_num,rfl,by omega,HE,G1⟩
    case measure=>simp[intOf];omega
   ·have HE:Hid (c+1=(SP.hits R g slot m (j+1)).length):=by show _=_;rw[HW.out,HC.out];simp
    have hw:IntKind.i64.wrap ((c:Int)+1)=((c+1:Nat):Int):=by
     have e:(c:Int)+1=((c+1:Nat):Int):=by omega
     rw[e]
     exact IntWalk.i64_in _ (by omega)
    clear HW HC
    go_wp2_with (go_at_call 87;refine HH.out.mono ?_;rintro e w1 ⟨rfl,g1⟩;have G1:Hid (w.grownBy w1 none):=grown_trans GK.out g1;clear g1)
    go_roundw
    case rel=>exact⟨j+1,c+1,by omega,by go_num,rfl,by omega,HE,G1⟩
    case measure=>simp[intOf];omega
  ·have i3:¬ (j:Int) < (g.n:Int):=by omega
   have hjn:Hid (j=g.n):=by show _=_;omega
   have c1:=(HS.out _ GK.out).1
   have hw:IntKind.i64.wrap ((c:Int) - (g.k:Int))=(c:Int) - (g.k:Int):=IntWalk.i64_in _ (by omega)
   go_wp2
   go_ret2
   exact⟨by rw[<- hjn.out,<- HC.out];rfl,GK.out⟩
theorem rmarg_all (h:RSI G w t r g R) (hL:R.L.length<=1000000) (slot:Int) (m:Nat) :
 Calls Tryz.prog 33 #[tptr t,.int .i64 slot,.int .u64 (m:Int)] w fun e w'=>e=.returned (.tuple #[.int .i64 (SP.marg R g slot m),.int .i64 ((SP.askE R g slot m:Nat):Int)])/\w.grownBy w' none:=by
 unfold SP.marg
 by_cases he:SP.askE R g slot m=0
 ·rw[if_pos he,he]
  obtain⟨y,hm⟩:=SP.askE_zero he
  obtain⟨h0,q1,q2⟩:=SP.why_zero y
  obtain⟨sl,rfl⟩:∃ n:Nat,slot=(n:Int):=⟨slot.toNat,by omega⟩
  rw[Int.toNat_natCast]
  exact rmarg_main h hL h0 (by omega) hm
 ·rw[if_neg he]
  exact rmarg_err h hL he
end
set_option maxHeartbeats 3200000 in
theorem same_yes {w:World} {v u:Value} {l:List Int} (hv:IVec w v l) (hu:IVec w u l) (hl:l.length<=1000):Calls Tryz.prog 34 #[v,u] w fun e w'=>e=.returned (.bool true)/\w.grownBy w' none:=by
 obtain⟨p,n,c,rfl,hn⟩:=hv.opened
 obtain⟨p',n',c',rfl,hn'⟩:=hu.opened
 obtain rfl:n'=n:=by omega
 have HV:Hid (IVec w (.slice p n' c) l/\IVec w (.slice p' n' c') l/\n'=l.length):=⟨hv,hu,hn⟩
 have hnb:n'<=1000:=by omega
 clear hv hu hn hn' hl
 go_enter Tryz.func34,Tryz.ntmps34
 go_wp2_with fail
 go_loopw [5] (fun ti wr=>∃ j:Nat,j<=n'/\ti=.int .i64 (j:Int)/\Hid (w.grownBy wr none)) (fun ti _=>n' - (intOf ti).toNat)
 case atStart=>exact⟨0,by omega,rfl,World.grownBy.refl _ _⟩
 case round =>
  obtain⟨j,hj,rfl,GK⟩:=hrel
  by_cases hlt:j < n'
  ·have i3:(j:Int) < (n':Int):=by omega
   have i4:(0:Int)<=(j:Int):=by omega
   obtain⟨b,off,rfl,hc⟩:=HV.out.1.spot (k:=j) (by have:=HV.out.2.2;omega)
   obtain⟨b2,off2,rfl,hc2⟩:=HV.out.2.1.spot (k:=j) (by have:=HV.out.2.2;omega)
   obtain⟨x,hx⟩:∃ x,x=l.getD j 0:=⟨_,rfl⟩
   rw[<- hx] at hc hc2
   have HC:Hid (∀ w',wr.grownBy w' none->w'.cell? ⟨b,off+j,none⟩=some (.int .i64 x)/\w'.cell? ⟨b2,off2+j,none⟩=some (.int .i64 x)):=fun w' g'=>⟨(grown_trans GK.out g').cell hc (by simp),(grown_trans GK.out g').cell hc2 (by simp)⟩
   clear hc hc2 hx
   go_wp2_with fail
   go_region_held3 (fun w'=>w'.cell? ⟨b,off+j,none⟩=some (.int .i64 x)/\w'.cell? ⟨b2,off2+j,none⟩=some (.int .i64 x)) (exact HC.out _ (grown_drewN wr 1)) (fail)
   go_wp2
   go_roundw
   case rel=>exact⟨j+1,by omega,by go_num,grown_trans GK.out (grown_drewN wr 1)⟩
   case measure=>simp[intOf];omega
  ·have i3:¬ (j:Int) < (n':Int):=by omega
   go_wp2
   go_ret
   exact⟨rfl,GK.out⟩
end Go.Proofs.YtaalagkbpeinkaaGreat
