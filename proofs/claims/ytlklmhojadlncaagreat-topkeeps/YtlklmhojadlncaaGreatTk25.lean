/- Packed: MSlot9, MAll9, PH9. -/
import Derived.Test.YtlklmhojadlncaaGreatTk23
import Derived.Test.YtlklmhojadlncaaGreatTk24
set_option linter.unusedSimpArgs false
set_option linter.unusedVariables false
set_option maxRecDepth 100000
namespace Go.Proofs.YtlklmhojadlncaaGreat
open Go.RowKit
theorem enters_sl:∀ args w,(callFunc 58 args).run Tryz.prog w=.ok (.enter 58 args) w:=by
 intro args w
 simp[go_sem,callFunc,Tryz.func58,Tryz.f58]
theorem Mat.upd {F:Nat->Prop} {w w':World} {v:Value} {us:List Value} {X:List (List Nat)} (h:Mat w v us X) (u:Upd F w w') (hv:∀ b,v.ownBlock=some b->¬ F b) (hu:∀ j,j < X.length->∀ b,(us.getD j undef).ownBlock=some b->¬ F b):Mat w' v us X :=
 ⟨⟨h.row.len,by
   obtain⟨p,cap,e,h1,h2,h3⟩:=h.row.form
   refine⟨p,cap,e,h1,h2,fun hne=>?_⟩
   obtain⟨b,off,e2,h4⟩:=h3 hne
   exact⟨b,off,e2,fun j hj=>u.cell (h4 j hj) (hv b (by rw[e,e2];rfl))⟩⟩,h.same,fun j hj=>(h.vec j hj).upd u (fun _ b hb=>hu j hj b hb)⟩
theorem Step.fresh9 {F F':Nat->Prop} {w W w2:World} {bk:Nat} (h:Step F w F' W) (g:W.grownBy w2 (some bk)) (hb:w.heap.size<=bk):Step F w F' w2 :=
 ⟨⟨g.os.trans h.upd.os,g.tape.trans h.upd.tape,g.output.trans h.upd.output,Nat.le_trans h.upd.size g.size,fun i hi hn=>(g.block i (Nat.lt_of_lt_of_le hi h.upd.size) (fun e=>by have:=Option.some.inj e;omega)).trans (h.upd.block i hi hn)⟩,h.sub⟩
theorem SI.beside {F:Nat->Prop} {w w':World} {s a b:Nat} {g:SP.Geo} {R:AM.Raw} (h:SI F w s a g R) (gr:w.grownBy w' (some b)) (hb:¬ F b) (hne:s ≠ b):SI F w' s a g R:=by
 obtain⟨h1,_⟩:=h.i.aside (G:=fun i=>i=b) (Step.of gr (fun i e=>(Option.some.inj e).symm)) (fun k hk hg=>hb (hg ▸ hk))
 exact⟨h1,by rw[gr.block s h.lt (fun e=>hne (Option.some.inj e))];exact h.top,h.nf,h.ok⟩
structure SlS (w0:World) (W P Q T D s:Nat) (dv:Value) (us:List Value):Prop where
 oP:w0.heap.size<=P/\P < D
 oQ:w0.heap.size<=Q/\Q < D
 oT:w0.heap.size<=T/\T < D
 oD:w0.heap.size<=D/\D < W
 ov:∀ b,dv.ownBlock=some b->w0.heap.size<=b/\b < D
 ou:∀ j,j < us.length->∀ b,(us.getD j undef).ownBlock=some b->w0.heap.size<=b/\b < D
 os:s < w0.heap.size
structure SlI (F0:Nat->Prop) (w0:World) (W P Q T D slot m:Nat) (dv:Value) (us:List Value) (xs:List Nat) (s a:Nat) (g:SP.Geo) (F:Nat->Prop) (w:World) (R:AM.Raw) (n:Nat):Prop where
 i:SI F w s a g R
 bw:Boxed w W 3 (.int .i64 (n:Int))
 bs:Boxed w P 31 (ptr s)
 bl:Boxed w Q 3 (.int .i64 (slot:Int))
 bm:Boxed w T 36 (.int .u64 (m:Int))
 bd:Boxed w D 88 dv
 mt:Mat w dv us (SP.parts xs g.k)
 fr:∀ b,w0.heap.size<=b->b<=W->¬ F b
 st:Step F0 w0 F w
section
variable {F0 F F':Nat->Prop} {w0 w w':World} {W P Q T D slot m s a n:Nat} {dv:Value} {us:List Value} {xs:List Nat} {g:SP.Geo} {R R':AM.Raw}
theorem boxed_upd {B:Nat} {t:TypeId} {v:Value} (h:Boxed w B t v) (u:Upd F w w') (hn:¬ F B):Boxed w' B t v:=(u.block B h.lt hn).trans h
theorem SlI.step (h:SlI F0 w0 W P Q T D slot m dv us xs s a g F w R n) (S:SlS w0 W P Q T D s dv us) (i':SI F' w' s a g R') (st:Step F w F' w'):SlI F0 w0 W P Q T D slot m dv us xs s a g F' w' R' n:=by
 have o1:=S.oP
 have o2:=S.oQ
 have o3:=S.oT
 have o4:=S.oD
 refine⟨i',boxed_upd h.bw st.upd (h.fr _ (by omega) (by omega)),boxed_upd h.bs st.upd (h.fr _ (by omega) (by omega)),boxed_upd h.bl st.upd (h.fr _ (by omega) (by omega)),boxed_upd h.bm st.upd (h.fr _ (by omega) (by omega)),boxed_upd h.bd st.upd (h.fr _ (by omega) (by omega)),h.mt.upd st.upd (fun b hb=>h.fr b (S.ov b hb).1 (by have:=(S.ov b hb).2;omega)) (fun j hj b hb=>?_),fun b h1 h2 hf=>?_,h.st.trans st⟩
 ·have hb2:=S.ou j (by rw[h.mt.same];exact hj) b hb
  exact h.fr b hb2.1 (by omega)
 ·rcases st.sub b hf with h3 | h3
  ·exact h.fr b h1 h2 h3
  ·have:=h.bw.lt;omega
theorem SlI.keep (h:SlI F0 w0 W P Q T D slot m dv us xs s a g F w R n) (S:SlS w0 W P Q T D s dv us) (g1:w.grownBy w' none):SlI F0 w0 W P Q T D slot m dv us xs s a g F w' R n:=h.step S (h.i.keep g1) (Step.new g1)
theorem SlI.count (h:SlI F0 w0 W P Q T D slot m dv us xs s a g F w R n) (S:SlS w0 W P Q T D s dv us):SlI F0 w0 W P Q T D slot m dv us xs s a g F (w.setCell ⟨W,0,none⟩ (.int .i64 ((n+1:Nat):Int))) R (n+1):=by
 have o1:=S.oP
 have o2:=S.oQ
 have o3:=S.oT
 have o4:=S.oD
 have gs:=grownBy_setCell' w W (.int .i64 ((n+1:Nat):Int))
 have nW:=h.fr W (by omega) (by omega)
 refine⟨h.i.beside gs nW (by have:=S.os;omega),h.bw.set _,h.bs.kept gs (fun e=>by have:=Option.some.inj e;omega),h.bl.kept gs (fun e=>by have:=Option.some.inj e;omega),h.bm.kept gs (fun e=>by have:=Option.some.inj e;omega),h.bd.kept gs (fun e=>by have:=Option.some.inj e;omega),h.mt.upd (F:=fun i=>i=W) (Upd.of gs (fun i e=>(Option.some.inj e).symm)) (fun b hb e=>by have:=(S.ov b hb).2;omega) (fun j hj b hb e=>?_),h.fr,h.st.fresh9 gs (by omega)⟩
 have hb2:=S.ou j (by rw[h.mt.same];exact hj) b hb
 omega
theorem sl_yes (j:Nat):Calls Tryz.prog 58 #[.int .i64 (j:Int),.bool true,.pointer (some ⟨W,0,none⟩),.pointer (some ⟨P,0,none⟩),.pointer (some ⟨Q,0,none⟩),.pointer (some ⟨T,0,none⟩),.pointer (some ⟨D,0,none⟩)] w fun e w'=>e=.returned (.int .i64 0)/\w'=w:=by
 go_enter Tryz.func58,Tryz.ntmps58
 go_wp2
 go_ret
 exact⟨rfl,rfl⟩
set_option maxHeartbeats 1600000 in
theorem sl_no (h:SlI F0 w0 W P Q T D slot m dv us xs s a g F w R n) (S:SlS w0 W P Q T D s dv us) (h0:R.off=false) {j:Nat} (hl:xs.length=g.k * 448) (hd:j < g.n) (hs:slot < g.s) (hm:m ≠ 0) (hL:R.L.length<=990000) (hn:n<=1000) :
 Calls Tryz.prog 58 #[.int .i64 (j:Int),.bool false,.pointer (some ⟨W,0,none⟩),.pointer (some ⟨P,0,none⟩),.pointer (some ⟨Q,0,none⟩),.pointer (some ⟨T,0,none⟩),.pointer (some ⟨D,0,none⟩)] w fun e w'=>e=.returned (.int .i64 ((SP.lays R g slot j m ((SP.code g xs).getD j [])).1:Int))/\∃ F',SlI F0 w0 W P Q T D slot m dv us xs s a g F' w' (SP.lays R g slot j m ((SP.code g xs).getD j [])).2 (n+1):=by
 have C1:=h.count S
 have kw:=h.bw.cell
 have kf:=h.bw.frozen
 obtain⟨q,N,cap,rfl,hN⟩:=h.mt.row.opened
 have d1:=C1.bs.cell
 have d2:=C1.bl.cell
 have d3:=C1.bm.cell
 have d4:=C1.bd.cell
 have hw:IntKind.i64.wrap ((n:Int)+1)=((n+1:Nat):Int):=by
  have e:(n:Int)+1=((n+1:Nat):Int):=by omega
  rw[e]
  exact IntWalk.i64_in _ (by omega)
 have LA:Hid (Calls Tryz.prog 59 #[ptr s,.int .i64 (j:Int),.int .i64 (slot:Int),.int .u64 (m:Int),.slice q N cap] (w.setCell ⟨W,0,none⟩ (.int .i64 ((n+1:Nat):Int))) fun e w'=>e=.returned (.int .i64 ((SP.lays R g slot j m ((SP.code g xs).getD j [])).1:Int))/\∃ F',SlI F0 w0 W P Q T D slot m (.slice q N cap) us xs s a g F' w' (SP.lays R g slot j m ((SP.code g xs).getD j [])).2 (n+1)):=by
  refine (mlay_yes C1.i h0 C1.mt hl hd hs hm hL).mono ?_
  rintro e w' ⟨rfl,F',i',st⟩
  exact⟨rfl,F',C1.step S i' st⟩
 clear h hN C1 h0 hl hd hs hm hL hn S
 obtain⟨c,hc⟩:∃ c,c=((SP.lays R g slot j m ((SP.code g xs).getD j [])).1:Int):=⟨_,rfl⟩
 rw[<- hc] at LA ⊢
 clear hc
 obtain⟨n1,hn1⟩:∃ n1,n1=n+1:=⟨_,rfl⟩
 rw[<- hn1] at hw d1 d2 d3 d4 LA ⊢
 clear hn1
 go_enter Tryz.func58,Tryz.ntmps58
 go_wp2_with (go_at_call 59;refine LA.out.mono ?_;rintro e w3 ⟨rfl,hp⟩;have HP:Hid (∃ F',SlI F0 w0 W P Q T D slot m (.slice q N cap) us xs s a g F' w3 (SP.lays R g slot j m ((SP.code g xs).getD j [])).2 n1):=hp;clear hp)
 go_ret
 exact⟨rfl,HP.out⟩
theorem mendTo_len (R:AM.Raw) (g:SP.Geo) (slot m:Nat) (E:List (List Nat)):∀ d,(SP.mendTo R g slot m E d).2.L.length<=R.L.length+8 * d
 | 0=>by simp[SP.mendTo]
 | d+1=>by
   have:=mendTo_len R g slot m E d
   unfold SP.mendTo
   split
   ·have:=layTo_len (SP.mendTo R g slot m E d).2 g slot d (CM.secs m (E.getD d []) 8) 8
    unfold SP.lays
    omega
   ·omega
theorem slotM_len (R:AM.Raw) (g:SP.Geo) (slot:Int) (m:Nat) (out:List Nat) (e:Nat):(SP.slotM R g slot m out e).2.L.length<=R.L.length+8 * g.n:=by
 unfold SP.slotM
 split
 ·exact mendTo_len _ _ _ _ _ _
 ·simp
theorem sl_each (h:SlI F0 w0 W P Q T D slot m dv us xs s a g F w R 0) (S:SlS w0 W P Q T D s dv us) (h0:R.off=false) (hl:xs.length=g.k * 448) (hs:slot < g.s) (hm:m ≠ 0) (hL:R.L.length<=980000) :
 Calls Tryz.prog 47 #[ptr s,.int .i64 (slot:Int),.int .u64 (m:Int),.func (.func 58) #[] #[.pointer (some ⟨W,0,none⟩),.pointer (some ⟨P,0,none⟩),.pointer (some ⟨Q,0,none⟩),.pointer (some ⟨T,0,none⟩),.pointer (some ⟨D,0,none⟩)]] w fun e w' =>
  e=.returned (.int .i64 (((SP.mendTo R g slot m (SP.code g xs) g.n).1:Nat):Int))/\∃ F' n',SlI F0 w0 W P Q T D slot m dv us xs s a g F' w' (SP.mendTo R g slot m (SP.code g xs) g.n).2 n'/\((SP.mendTo R g slot m (SP.code g xs) g.n).1=0->n'=(SP.wants R g slot m g.n).length):=by
 have hn:=h.i.ok.n255
 have ok:=h.i.i.ok
 refine (meach_any (g:=g) (a:=a) hs hm enters_sl (fun j=>(SP.mendTo R g slot m (SP.code g xs) j).2)
  (fun j w'=>j<=g.n/\(SP.mendTo R g slot m (SP.code g xs) j).1=0/\∃ F',SlI F0 w0 W P Q T D slot m dv us xs s a g F' w' (SP.mendTo R g slot m (SP.code g xs) j).2 (SP.wants R g slot m j).length)
  (fun j w'=>∃ F' n',SlI F0 w0 W P Q T D slot m dv us xs s a g F' w' (SP.mendTo R g slot m (SP.code g xs) (j+1)).2 n') (fun j=>(SP.mendTo R g slot m (SP.code g xs) (j+1)).1) ?_ ?_ ?_ ?_ ?_).mono ?_
 ·rintro j w' ⟨_,h1,F',t⟩
  exact⟨SP.mendTo_pow h0 j h1,F',t.i⟩
 ·rintro j w1 w2 ⟨hj,h1,F',t⟩ g1
  exact⟨hj,h1,F',t.keep S g1⟩
 ·rintro j w' hj ho ⟨_,h1,F',t⟩
  have ho':R.on (j:Int)=false:=by rw[<- (SP.mendTo_kept R g slot m (SP.code g xs) j).on];exact ho
  have e1:=SP.mendTo_no (E:=SP.code g xs) (SP.want_off (g:=g) (slot:=slot) (m:=m) ho')
  have e2:=SP.wants_succ R g slot m j
  rw[SP.want_off ho'] at e2
  simp only[Bool.false_eq_true,if_false,List.append_nil] at e2
  exact⟨by omega,by rw[e1];exact h1,F',by rw[e1,e2];exact t⟩
 ·rintro j w' hj ho ⟨_,h1,F',t⟩
  have ho':R.on (j:Int)=true:=by rw[<- (SP.mendTo_kept R g slot m (SP.code g xs) j).on];exact ho
  have eh:=SP.mendTo_has ok (g:=g) (slot:=slot) (m:=m) (E:=SP.code g xs) SP.code_small9 h1 (Nat.le_refl j)
  have ew:=SP.want_on (g:=g) (slot:=slot) (m:=m) ho'
  have e2:=SP.wants_succ R g slot m j
  rw[eh]
  cases hb:SP.has R g slot m j
  ·rw[hb] at ew
   have ew':SP.want R g slot m j=true:=ew
   rw[ew'] at e2
   have e1:=SP.mendTo_yes (E:=SP.code g xs) h1 ew'
   have hl1:=SP.wants_len_le R g slot m j
   have hl2:=mendTo_len R g slot m (SP.code g xs) j
   refine (sl_no t S (SP.mendTo_pow h0 j h1) (j:=j) hl hj hs hm (by omega) (by omega)).mono ?_
   rintro e3 w3 ⟨rfl,F3,t3⟩
   rw[<- e1] at t3 ⊢
   refine⟨rfl,?_⟩
   split
   ·rename_i c
    refine⟨by omega,c,F3,?_⟩
    rw[e2]
    simpa using t3
   ·exact⟨F3,_,t3⟩
  ·rw[hb] at ew
   have ew':SP.want R g slot m j=false:=ew
   rw[ew'] at e2
   simp only[Bool.false_eq_true,if_false,List.append_nil] at e2
   have e1:=SP.mendTo_no (E:=SP.code g xs) ew'
   refine (sl_yes j).mono ?_
   rintro e3 w3 ⟨rfl,rfl⟩
   rw[e1,h1]
   refine⟨rfl,?_⟩
   rw[if_pos rfl]
   exact⟨by omega,rfl,F',by rw[e2];exact t⟩
 ·exact⟨by omega,rfl,F,h⟩
 ·rintro e w' (⟨rfl,_,h1,F',t⟩ | ⟨j,hj,hc,rfl,F',n',t⟩)
  ·rw[h1]
   exact⟨rfl,F',_,t,fun _=>rfl⟩
  ·have e1:=SP.mendTo_stop hc g.n (by omega)
   rw[e1]
   exact⟨rfl,F',n',t,fun h=>absurd h hc⟩
end
section
variable {F F':Nat->Prop} {w w':World} {s a:Nat} {g:SP.Geo} {R R':AM.Raw}
theorem rdp_ok {slot:Int} {m:Nat} {out:List Nat} (h:SP.RdP R g slot m out 0):SP.why R g slot=0/\m ≠ 0:=by
 rcases h with ⟨h1,_,h2⟩ | ⟨_,_,_,h2⟩ | ⟨_,_,_,_,h2⟩ | ⟨h1,h2,_⟩
 ·exact absurd h2.symm h1
 ·omega
 ·omega
 ·exact⟨h1,h2⟩
set_option maxHeartbeats 1600000 in
theorem mslot_all (h:SI F w s a g R) (slot:Int) (m:Nat) (hL:R.L.length<=980000) :
 Calls Tryz.prog 35 #[ptr s,.int .i64 slot,.int .u64 (m:Int)] w fun e w'=>∃ out er,SP.RdP R g slot m out er/\e=.returned (.tuple #[.int .i64 ((SP.slotN R g slot m out er:Nat):Int),.int .i64 (((SP.slotM R g slot m out er).1:Nat):Int)])/\∃ F',SI F' w' s a g (SP.slotM R g slot m out er).2/\Step F w F' w':=by
 have G3:Hid (w.grownBy (((w.alloc (.cells #[ptr s] 31)).alloc (.cells #[.int .i64 slot] 3)).alloc (.cells #[.int .u64 (m:Int)] 36)) none):=gb_alloc (gb_alloc (World.grownBy_alloc w _ none) _) _
 have b1:Boxed (((w.alloc (.cells #[ptr s] 31)).alloc (.cells #[.int .i64 slot] 3)).alloc (.cells #[.int .u64 (m:Int)] 36)) w.heap.size 31 (ptr s):=((Boxed.new w _ _).alloc _).alloc _
 have b2:Boxed (((w.alloc (.cells #[ptr s] 31)).alloc (.cells #[.int .i64 slot] 3)).alloc (.cells #[.int .u64 (m:Int)] 36)) (w.heap.size+1) 3 (.int .i64 slot):=by
  have:=(Boxed.new (w.alloc (.cells #[ptr s] 31)) 3 (.int .i64 slot)).alloc (.cells #[.int .u64 (m:Int)] 36)
  rwa [World.size_alloc] at this
 have b3:Boxed (((w.alloc (.cells #[ptr s] 31)).alloc (.cells #[.int .i64 slot] 3)).alloc (.cells #[.int .u64 (m:Int)] 36)) (w.heap.size+1+1) 36 (.int .u64 (m:Int)):=by
  have:=Boxed.new ((w.alloc (.cells #[ptr s] 31)).alloc (.cells #[.int .i64 slot] 3)) 36 (.int .u64 (m:Int))
  rwa [World.size_alloc,World.size_alloc] at this
 have BX:Hid (∀ w',(((w.alloc (.cells #[ptr s] 31)).alloc (.cells #[.int .i64 slot] 3)).alloc (.cells #[.int .u64 (m:Int)] 36)).grownBy w' none->Boxed w' w.heap.size 31 (ptr s)/\Boxed w' (w.heap.size+1) 3 (.int .i64 slot)/\Boxed w' (w.heap.size+1+1) 36 (.int .u64 (m:Int))):=fun w' g'=>⟨b1.kept g' (by simp),b2.kept g' (by simp),b3.kept g' (by simp)⟩
 have H:Hid (SI F w s a g R):=h
 have HL:Hid (R.L.length<=980000):=hL
 have RD:Hid (Calls Tryz.prog 20 #[ptr s,.int .i64 slot,.int .u64 (m:Int)] (((w.alloc (.cells #[ptr s] 31)).alloc (.cells #[.int .i64 slot] 3)).alloc (.cells #[.int .u64 (m:Int)] 36)) fun e w'=>∃ p n c er out,e=.returned (.tuple #[.slice p n c,.int .i64 ((er:Nat):Int)])/\SP.RdP R g slot m out er/\(er=0->out.length=g.k * 448)/\Own w.heap.size w' (.slice p n c) out/\(((w.alloc (.cells #[ptr s] 31)).alloc (.cells #[.int .i64 slot] 3)).alloc (.cells #[.int .u64 (m:Int)] 36)).grownBy w' none):=by
  refine (sread_len (h.keep G3.out) slot m).mono ?_
  rintro e w' ⟨v,er,out,rfl,h1,h2,h3,h4⟩
  obtain⟨p,n,c,rfl,_⟩:=h3.vec.opened
  exact⟨p,n,c,er,out,rfl,h1,h2,h3.down G3.out.size,h4⟩
 clear h hL b1 b2 b3
 go_enter Tryz.func35,Tryz.ntmps35
 go_wp2_with fail
 refine RD.out.mono ?_
 rintro e w1 ⟨p,n,c,er,out,rfl,hr,hlen,ho,g1⟩
 have HR1:Hid (SP.RdP R g slot m out er/\(er=0->out.length=g.k * 448)):=⟨hr,hlen⟩
 have O1:Hid (Own w.heap.size w1 (.slice p n c) out):=ho
 have G1:Hid ((((w.alloc (.cells #[ptr s] 31)).alloc (.cells #[.int .i64 slot] 3)).alloc (.cells #[.int .u64 (m:Int)] 36)).grownBy w1 none):=g1
 clear hr hlen ho g1
 have GW:Hid (w.grownBy w1 none):=grown_trans G3.out G1.out
 have BX1:Hid (∀ w',w1.grownBy w' none->Boxed w' w.heap.size 31 (ptr s)/\Boxed w' (w.heap.size+1) 3 (.int .i64 slot)/\Boxed w' (w.heap.size+1+1) 36 (.int .u64 (m:Int))):=fun w' g'=>BX.out w' (grown_trans G1.out g')
 clear RD BX G3 G1
 by_cases h0:er=0
 ·subst h0
  obtain⟨y,hm⟩:=rdp_ok HR1.out.1
  obtain⟨q0,q1,q2⟩:=SP.why_zero y
  obtain⟨sl,rfl⟩:∃ n:Nat,slot=(n:Int):=⟨slot.toNat,by omega⟩
  have hl:=HR1.out.2 rfl
  have hk1:=H.out.ok.k1
  have hk255:g.k<=255:=by have:=H.out.ok.kn;have:=H.out.ok.n255;omega
  have hnc:n=448 * g.k/\n<=c:=by
   obtain⟨p',cap',e,h3,_⟩:=O1.out.vec.form
   injection e with e1 e2 e3
   exact⟨by rw[e2,hl];omega,by omega⟩
  obtain⟨b,rfl,z1,z2,z3,z4,z5,z6⟩:=O1.out.spot (k:=0) (by rw[hl];omega)
  clear z1 z2 z3 z4 z5 z6
  have CU:Hid (Calls Tryz.prog 57 #[.slice (some ⟨b,0,none⟩) n c] w1 fun e w'=>∃ q N cap,e=.returned (.slice q N cap)/\Out w1.heap.size w' (.slice q N cap) (cutsAt b 0 g.k)/\Mat w' (.slice q N cap) (cutsAt b 0 g.k) (SP.parts out g.k)/\w1.grownBy w' none):=by
   refine (mcut_any O1.out.vec hnc.1 hl (by omega) hk255 hnc.2).mono ?_
   rintro e w' ⟨u,rfl,ou,gu⟩
   have mm:=cuts_mat (O1.out.vec.keep gu) hl ou
   obtain⟨q,N,cap,rfl,_⟩:=mm.row.opened
   exact⟨q,N,cap,rfl,ou,mm,gu⟩
  have HB:Hid (w.heap.size<=b/\b < w1.heap.size):=O1.out.row.lt b rfl
  have HY:Hid (SP.RdP R g (sl:Int) m out 0/\out.length=g.k * 448/\R.off=false/\sl < g.s/\m ≠ 0):=⟨HR1.out.1,hl,q0,by omega,hm⟩
  clear HR1 O1 y hm q0 q1 q2 hl hk1 hk255 hnc
  have e1:SP.slotM R g (sl:Int) m out 0=SP.mendTo R g sl m (SP.code g out) g.n:=by unfold SP.slotM;rw[if_pos rfl,Int.toNat_natCast]
  have HE:Hid (SP.slotN R g (sl:Int) m out 0=if (SP.mendTo R g sl m (SP.code g out) g.n).1=0 then (SP.wants R g sl m g.n).length else 0):=by show _=_;unfold SP.slotN;rw[e1,Int.toNat_natCast]
  have HE1:Hid (SP.slotM R g (sl:Int) m out 0=SP.mendTo R g sl m (SP.code g out) g.n):=e1
  clear e1
  go_wp2_with (first
   | (go_at_call 57;refine CU.out.mono ?_;rintro e w2 ⟨q,N,cap,rfl,o2,m2,g2⟩;have O2:Hid (Out w1.heap.size w2 (.slice q N cap) (cutsAt b 0 g.k)):=o2;have M2:Hid (Mat w2 (.slice q N cap) (cutsAt b 0 g.k) (SP.parts out g.k)):=m2;have G2:Hid (w1.grownBy w2 none):=g2;have GX:Hid (w1.grownBy ((w2.alloc (.cells #[.slice q N cap] 88)).alloc (.cells #[.int .i64 0] 3)) none):=gb_alloc (gb_alloc g2 _) _;have cb:=(BX1.out _ GX.out).1.cell;have cl:=(BX1.out _ GX.out).2.1.cell;have cm:=(BX1.out _ GX.out).2.2.cell;clear o2 m2 g2)
   | fail)
  have S2:SlS w (w2.heap.size+1) w.heap.size (w.heap.size+1) (w.heap.size+1+1) w2.heap.size s (.slice q N cap) (cutsAt b 0 g.k):=by
   have z1:=(BX1.out w2 G2.out).2.2.lt
   have z2:=G2.out.size
   have z3:=GW.out.size
   refine⟨⟨by omega,by omega⟩,⟨by omega,by omega⟩,⟨by omega,by omega⟩,⟨by omega,by omega⟩,fun x hx=>?_,fun j hj x hx=>?_,H.out.lt⟩
   ·have h1:=O2.out.row.lt x hx
    omega
   ·have h1:=HB.out
    have hj2:j < g.k:=by rwa [cutsAt_len] at hj
    rw[show (cutsAt b 0 g.k).getD j undef=.slice (some ⟨b,0+448 * j,none⟩) 448 448 from by simp[cutsAt,List.getD,hj2]] at hx
    have h2:b=x:=by simpa [Value.ownBlock] using hx
    omega
  have T2:SlI F w (w2.heap.size+1) w.heap.size (w.heap.size+1) (w.heap.size+1+1) w2.heap.size sl m (.slice q N cap) (cutsAt b 0 g.k) out s a g F ((w2.alloc (.cells #[.slice q N cap] 88)).alloc (.cells #[.int .i64 0] 3)) R 0:=by
   have bb:=BX1.out _ GX.out
   refine⟨H.out.keep (grown_trans GW.out GX.out),?_,bb.1,bb.2.1,bb.2.2,(Boxed.new w2 _ _).alloc _,M2.out.keep (gb_alloc (World.grownBy_alloc w2 _ none) _),fun x h1 _ hf=>by have:=H.out.i.lt x hf;omega,Step.new (grown_trans GW.out GX.out)⟩
   have:=Boxed.new (w2.alloc (.cells #[.slice q N cap] 88)) 3 (.int .i64 0)
   rwa [World.size_alloc] at this
  have EA:Hid (Calls Tryz.prog 47 #[ptr s,.int .i64 (sl:Int),.int .u64 (m:Int),.func (.func 58) #[] #[.pointer (some ⟨w2.heap.size+1,0,none⟩),.pointer (some ⟨w.heap.size,0,none⟩),.pointer (some ⟨w.heap.size+1,0,none⟩),.pointer (some ⟨w.heap.size+1+1,0,none⟩),.pointer (some ⟨w2.heap.size,0,none⟩)]] ((w2.alloc (.cells #[.slice q N cap] 88)).alloc (.cells #[.int .i64 0] 3)) fun e w' =>
   e=.returned (.int .i64 (((SP.mendTo R g sl m (SP.code g out) g.n).1:Nat):Int))/\∃ F' n',SlI F w (w2.heap.size+1) w.heap.size (w.heap.size+1) (w.heap.size+1+1) w2.heap.size sl m (.slice q N cap) (cutsAt b 0 g.k) out s a g F' w' (SP.mendTo R g sl m (SP.code g out) g.n).2 n'/\((SP.mendTo R g sl m (SP.code g out) g.n).1=0->n'=(SP.wants R g sl m g.n).length)):=sl_each T2 S2 HY.out.2.2.1 HY.out.2.1 HY.out.2.2.2.1 HY.out.2.2.2.2 HL.out
  have HYR:Hid (SP.RdP R g (sl:Int) m out 0):=HY.out.1
  clear S2 T2 CU HB HY O2 M2 BX1 GX GW G2 H HL cb cl cm
  generalize SP.mendTo R g sl m (SP.code g out) g.n=MT at *
  generalize (SP.wants R g sl m g.n).length=WL at *
  obtain⟨c1,R1⟩:=MT
  dsimp only at EA HE
  refine EA.out.mono ?_
  rintro e w5 ⟨rfl,F5,n5,t5,hn5⟩
  have c5:=t5.bw.cell
  have HS5:Hid (SI F5 w5 s a g R1/\Step F w F5 w5):=⟨t5.i,t5.st⟩
  clear t5 EA
  by_cases hc:c1=0
  ·subst hc
   obtain rfl:=hn5 rfl
   clear hn5
   go_wp2
   go_ret2
   exact⟨out,0,HYR.out,by rw[HE.out,HE1.out];first | rfl | (rw[if_pos rfl];rfl),F5,by rw[HE1.out];exact HS5.out.1,HS5.out.2⟩
  ·have hne:((c1:Int) != 0)=true:=neb_yes (b:=0) hc
   have HC:Hid (¬ c1=0):=hc
   clear hn5 c5 hc
   go_wp2
   go_ret2
   exact⟨out,0,HYR.out,by rw[HE.out,HE1.out];first | (rw[if_neg HC.out];rfl) | rfl,F5,by rw[HE1.out];exact HS5.out.1,HS5.out.2⟩
 ·have hne:((er:Int) != 0)=true:=neb_yes (b:=0) h0
  have e1:SP.slotM R g slot m out er=(er,R):=by unfold SP.slotM;rw[if_neg h0]
  have e2:SP.slotN R g slot m out er=0:=by unfold SP.slotN;rw[e1,if_neg h0]
  have HE:Hid (SP.slotM R g slot m out er=(er,R)/\SP.slotN R g slot m out er=0):=⟨e1,e2⟩
  clear h0 e1 e2 BX1 O1
  go_wp2
  go_ret2
  exact⟨out,er,HR1.out.1,by rw[HE.out.1,HE.out.2];rfl,F,by rw[HE.out.1];exact H.out.keep GW.out,Step.new GW.out⟩
end
def uw9 (n:Nat):Value:=.int .u64 (n:Int)
def us9 (st:List Nat):List Value:=st.map uw9
theorem us9_len (st:List Nat):(us9 st).length=st.length:=by simp[us9]
theorem us9_get {st:List Nat} {j:Nat} (h:j < st.length):(us9 st).getD j undef=.int .u64 ((st.getD j 0:Nat):Int):=by simp[us9,uw9,List.getD,h]
namespace SP
theorem allTo_stop {rd:AM.Raw->Int->Nat->List Nat->Nat->Prop} {R R':AM.Raw} {g:Geo} {st:List Nat} {j n e:Nat} (h:allTo rd R g st j n e R') (he:e ≠ 0):∀ i,j<=i->allTo rd R g st i n e R':=fun i hi=>by
 induction i with
 | zero=>obtain rfl:j=0:=by omega
         exact h
 | succ i ih =>
   by_cases c:j=i+1
   ·subst c;exact h
   ·exact⟨n,e,R',ih (by omega),.inl ⟨he,rfl,rfl,rfl⟩⟩
end SP
theorem allTo_len {rd:AM.Raw->Int->Nat->List Nat->Nat->Prop} {R:AM.Raw} {g:SP.Geo} {st:List Nat}:∀ j n e R',SP.allTo rd R g st j n e R'->R'.L.length<=R.L.length+8 * g.n * j
 | 0,n,e,R',h=>by obtain⟨_,_,rfl⟩:=h;simp
 | j+1,n,e,R',h=>by
   obtain⟨n0,e0,R0,h0,h⟩:=h
   have ih:=allTo_len j n0 e0 R0 h0
   have hm:8 * g.n * (j+1)=8 * g.n * j+8 * g.n:=Nat.mul_succ _ _
   rcases h with ⟨_,_,_,rfl⟩ | ⟨_,_,_,_,rfl⟩ | ⟨_,_,out,er,_,rfl,_,_⟩
   ·omega
   ·omega
   ·have:=slotM_len R0 g (j:Int) (st.getD j 0) out er
    omega
theorem allTo_le {rd:AM.Raw->Int->Nat->List Nat->Nat->Prop} {R:AM.Raw} {g:SP.Geo} {st:List Nat}:∀ j n e R',SP.allTo rd R g st j n e R'->n<=g.n * j
 | 0,n,e,R',h=>by obtain⟨rfl,_,_⟩:=h;simp
 | j+1,n,e,R',h=>by
   obtain⟨n0,e0,R0,h0,h⟩:=h
   have ih:=allTo_le j n0 e0 R0 h0
   have hm:g.n * (j+1)=g.n * j+g.n:=Nat.mul_succ _ _
   rcases h with ⟨_,rfl,_,_⟩ | ⟨_,_,rfl,_,_⟩ | ⟨_,_,out,er,_,_,_,rfl⟩
   ·omega
   ·omega
   ·have:=SP.slotN_le R0 g (j:Int) (st.getD j 0) out er
    split <;> omega
section
variable {F F':Nat->Prop} {w w':World} {s a:Nat} {g:SP.Geo} {R R':AM.Raw}
theorem mall_off (h:SI F w s a g R) (h0:R.off=true) (v:Value):Calls Tryz.prog 15 #[ptr s,v] w fun e w'=>e=.returned (.tuple #[.int .i64 0,.int .i64 8])/\w'=w:=by
 have H:Hid (SI F w s a g R):=h
 have OF:Hid (Calls Tryz.prog 33 #[ptr a] w fun e w'=>e=.returned (.bool true)/\w'=w):=by rw[<- h0];exact off_yes h.i
 clear h h0
 go_enter Tryz.func15,Tryz.ntmps15
 go_wp2_with (first
  | (go_at_call 11;refine (sarray_yes H.out).mono ?_;rintro e w9 ⟨rfl,hw9⟩;obtain rfl:=hw9.symm;clear hw9)
  | (go_at_call 33;refine OF.out.mono ?_;rintro e w9 ⟨rfl,hw9⟩;obtain rfl:=hw9.symm;clear hw9))
 go_ret2
 exact⟨rfl,rfl⟩
theorem mall_arg (h:SI F w s a g R) (h0:R.off=false) {p:Option Addr} {N cap:Nat} (hN:N ≠ g.s):Calls Tryz.prog 15 #[ptr s,.slice p N cap] w fun e w'=>e=.returned (.tuple #[.int .i64 0,.int .i64 1])/\w.grownBy w' none:=by
 have H:Hid (SI F w s a g R):=h
 have OF:Hid (Calls Tryz.prog 33 #[ptr a] w fun e w'=>e=.returned (.bool false)/\w'=w):=by rw[<- h0];exact off_yes h.i
 have hne:((N:Int) != (g.s:Int))=true:=neb_yes hN
 have hgf:=geo_s g
 clear h h0 hN
 go_enter Tryz.func15,Tryz.ntmps15
 go_wp2_with (first
  | (go_at_call 11;refine (sarray_yes H.out).mono ?_;rintro e w9 ⟨rfl,hw9⟩;obtain rfl:=hw9.symm;clear hw9)
  | (go_at_call 33;refine OF.out.mono ?_;rintro e w9 ⟨rfl,hw9⟩;obtain rfl:=hw9.symm;clear hw9)
  | (go_at_call 34;refine (sgeo_yes H.out).mono ?_;rintro e w1 ⟨rfl,g1⟩;have G1:Hid (w.grownBy w1 none):=g1;clear g1))
 go_ret2
 exact⟨rfl,G1.out⟩
set_option maxHeartbeats 6400000 in
theorem mall_main (h:SI F w s a g R) (h0:R.off=false) {v:Value} {st:List Nat} (hv:Cells w v (us9 st)) (hF:∀ b,v.ownBlock=some b->¬ F b) (hN:st.length=g.s) (hL:R.L.length+8 * g.n * g.s<=980000) :
 Calls Tryz.prog 15 #[ptr s,v] w fun e w'=>∃ n er R',e=.returned (.tuple #[.int .i64 ((n:Nat):Int),.int .i64 ((er:Nat):Int)])/\SP.allTo (fun R=>SP.RdP R g) R g st g.s n er R'/\∃ F',SI F' w' s a g R'/\Step F w F' w':=by
 obtain⟨p,N,cap,rfl,hNN⟩:=hv.opened
 rw[us9_len] at hNN
 have H:Hid (SI F w s a g R):=h
 have OF:Hid (Calls Tryz.prog 33 #[ptr a] w fun e w'=>e=.returned (.bool false)/\w'=w):=by rw[<- h0];exact off_yes h.i
 have hne:((N:Int) != (g.s:Int))=false:=neb_no (by omega)
 have hgf:=geo_s g
 have HV:Hid (Cells w (.slice p N cap) (us9 st)/\∀ b,(Value.slice p N cap).ownBlock=some b->¬ F b):=⟨hv,hF⟩
 have HN:Hid (N=st.length/\N=g.s/\R.L.length+8 * g.n * g.s<=980000/\g.s<=128/\g.n<=255):=⟨hNN,by omega,hL,h.ok.s2,h.ok.n255⟩
 have hNb:N<=128:=by have:=h.ok.s2;omega
 clear h h0 hv hF hN hL hNN
 go_enter Tryz.func15,Tryz.ntmps15
 go_wp2_with (first
  | (go_at_call 11;refine (sarray_yes H.out).mono ?_;rintro e w9 ⟨rfl,hw9⟩;obtain rfl:=hw9.symm;clear hw9)
  | (go_at_call 33;refine OF.out.mono ?_;rintro e w9 ⟨rfl,hw9⟩;obtain rfl:=hw9.symm;clear hw9)
  | (go_at_call 34;refine (sgeo_yes H.out).mono ?_;rintro e w1 ⟨rfl,g1⟩;have G1:Hid (w.grownBy w1 none):=g1;clear g1)
  | fail)
 have S1:Hid (∃ F',SI F' w1 s a g R/\Step F w F' w1):=⟨F,H.out.keep G1.out,Step.new G1.out⟩
 clear OF hne H G1 hgf
 go_loopw [6,25] (fun ts ti wr=>∃ k n0:Nat,k<=N/\ti=.int .i64 (k:Int)/\ts=.int .i64 (n0:Int)/\Hid (∃ R0,SP.allTo (fun R=>SP.RdP R g) R g st k n0 0 R0/\∃ F',SI F' wr s a g R0/\Step F w F' wr)) (fun _ ti _=>N - (intOf ti).toNat)
 case atStart =>
  obtain⟨F',i',st'⟩:=S1.out
  exact⟨0,0,by omega,rfl,rfl,R,⟨rfl,rfl,rfl⟩,F',i',st'⟩
 case round =>
  clear S1
  obtain⟨k,n0,hk,rfl,rfl,HX⟩:=hrel
  obtain⟨R0,ha,F0,i0,st0⟩:=HX.out
  have AT:Hid (SP.allTo (fun R=>SP.RdP R g) R g st k n0 0 R0):=ha
  have I0:Hid (SI F0 wr s a g R0):=i0
  have T0:Hid (Step F w F0 wr):=st0
  have hn0:=allTo_le _ _ _ _ ha
  clear HX ha i0 st0
  by_cases hlt:k < N
  ·have i4:(k:Int) < (N:Int):=by omega
   have i5:(0:Int)<=(k:Int):=by omega
   have hkl:k < st.length:=by have:=HN.out.1;omega
   obtain⟨b,off,rfl,hc0⟩:=HV.out.1.spot (k:=k) (by rw[us9_len];exact hkl)
   rw[us9_get hkl] at hc0
   have hc:=T0.out.upd.cell hc0 (HV.out.2 b rfl)
   obtain⟨x,hx⟩:∃ x,x=st.getD k 0:=⟨_,rfl⟩
   have HXX:Hid (x=st.getD k 0):=hx
   rw[<- hx] at hc
   have hmul:g.n * k<=255 * 128:=Nat.mul_le_mul HN.out.2.2.2.2 (by omega)
   clear hc0 hx
   by_cases hx0:x=0
   ·subst hx0
    have HA:Hid (SP.allTo (fun R=>SP.RdP R g) R g st (k+1) n0 0 R0):=⟨n0,0,R0,AT.out,.inr (.inl ⟨rfl,HXX.out.symm,rfl,rfl,rfl⟩)⟩
    clear hn0 hmul AT
    go_wp2
    go_roundw
    case rel=>exact⟨k+1,n0,by omega,by go_num,rfl,R0,HA.out,F0,I0.out,T0.out⟩
    case measure=>simp[intOf];omega
   ·have hne:((x:Int)==0)=false:=eqb_no (b:=0) hx0
    have SL:Hid (Calls Tryz.prog 35 #[ptr s,.int .i64 (k:Int),.int .u64 (x:Int)] wr fun e w'=>∃ out er,SP.RdP R0 g (k:Int) x out er/\e=.returned (.tuple #[.int .i64 ((SP.slotN R0 g (k:Int) x out er:Nat):Int),.int .i64 (((SP.slotM R0 g (k:Int) x out er).1:Nat):Int)])/\∃ F',SI F' w' s a g (SP.slotM R0 g (k:Int) x out er).2/\Step F w F' w'):=by
     have hlen:=allTo_len _ _ _ _ AT.out
     have h2:8 * g.n * k<=8 * g.n * g.s:=Nat.mul_le_mul_left _ (by have:=HN.out.2.1;omega)
     refine (mslot_all I0.out (k:Int) x (by have:=HN.out.2.2.1;omega)).mono ?_
     rintro e w' ⟨out,er,hr,rfl,F',i',st'⟩
     exact⟨out,er,hr,rfl,F',i',T0.out.trans st'⟩
    have HX0:Hid (x ≠ 0):=hx0
    have HB:Hid (n0<=g.n * k/\g.n * k<=255 * 128):=⟨hn0,hmul⟩
    clear hn0 hmul hx0
    go_wp2_with fail
    refine SL.out.mono ?_
    rintro e w5 ⟨out,er,hr,rfl,hp⟩
    have HR:Hid (SP.RdP R0 g (k:Int) x out er):=hr
    have HP:Hid (∃ F',SI F' w5 s a g (SP.slotM R0 g (k:Int) x out er).2/\Step F w F' w5):=hp
    obtain⟨c,hcc⟩:∃ c,c=(SP.slotM R0 g (k:Int) x out er).1:=⟨_,rfl⟩
    obtain⟨n5,hn5⟩:∃ n5,n5=SP.slotN R0 g (k:Int) x out er:=⟨_,rfl⟩
    rw[<- hcc,<- hn5]
    have HC:Hid (c=(SP.slotM R0 g (k:Int) x out er).1/\n5=SP.slotN R0 g (k:Int) x out er):=⟨hcc,hn5⟩
    clear hr hp hcc hn5 SL
    have hn5:n5<=255:=by
     have:=SP.slotN_le R0 g (k:Int) x out er
     have:=HN.out.2.2.2.2
     have:=HC.out.2
     omega
    by_cases hc0:c=0
    ·subst hc0
     have HA:Hid (SP.allTo (fun R=>SP.RdP R g) R g st (k+1) (n0+n5) 0 (SP.slotM R0 g (k:Int) x out er).2):=by
      refine⟨n0,0,R0,AT.out,.inr (.inr ⟨rfl,by rw[<- HXX.out];exact HX0.out,out,er,?_,?_,?_,?_⟩)⟩
      ·rw[<- HXX.out];exact HR.out
      ·rw[<- HXX.out]
      ·rw[<- HXX.out];exact HC.out.1
      ·rw[<- HXX.out,if_pos rfl,HC.out.2]
     have hw:IntKind.i64.wrap ((n0:Int)+(n5:Int))=((n0+n5:Nat):Int):=by
      have e:(n0:Int)+(n5:Int)=((n0+n5:Nat):Int):=by omega
      rw[e]
      exact IntWalk.i64_in _ (by have:=HB.out;omega)
     clear HC HR
     go_wp2
     go_roundw
     case rel=>exact⟨k+1,n0+n5,by omega,by go_num,rfl,_,HA.out,HP.out⟩
     case measure=>simp[intOf];omega
    ·have hce:((c:Int) != 0)=true:=neb_yes (b:=0) hc0
     have HA:Hid (SP.allTo (fun R=>SP.RdP R g) R g st g.s 0 c (SP.slotM R0 g (k:Int) x out er).2):=by
      refine SP.allTo_stop (j:=k+1) ?_ hc0 g.s (by have:=HN.out.2.1;omega)
      refine⟨n0,0,R0,AT.out,.inr (.inr ⟨rfl,by rw[<- HXX.out];exact HX0.out,out,er,?_,?_,?_,?_⟩)⟩
      ·rw[<- HXX.out];exact HR.out
      ·rw[<- HXX.out]
      ·rw[<- HXX.out];exact HC.out.1
      ·rw[if_neg hc0]
     clear HC HR hc0
     go_wp2
     go_ret2
     first | exact⟨0,c,_,rfl,HA.out,HP.out⟩ | exact⟨0,c,rfl,_,HA.out,HP.out⟩
  ·have i4:¬ (k:Int) < (N:Int):=by omega
   have hkn:Hid (k=g.s):=by show _=_;have:=HN.out.2.1;omega
   clear hn0
   go_wp2
   go_ret2
   first | exact⟨n0,0,R0,rfl,by rw[<- hkn.out];exact AT.out,F0,I0.out,T0.out⟩ | exact⟨n0,0,rfl,R0,by rw[<- hkn.out];exact AT.out,F0,I0.out,T0.out⟩
theorem mall_all (h:SI F w s a g R) {v:Value} {st:List Nat} (hv:Cells w v (us9 st)) (hF:∀ b,v.ownBlock=some b->¬ F b) (hL:R.L.length+8 * g.n * g.s<=980000) :
 Calls Tryz.prog 15 #[ptr s,v] w fun e w'=>∃ n er R',e=.returned (.tuple #[.int .i64 ((n:Nat):Int),.int .i64 ((er:Nat):Int)])/\SP.allP (fun R=>SP.RdP R g) R g st n er R'/\∃ F',SI F' w' s a g R'/\Step F w F' w':=by
 cases h0:R.off
 ·by_cases hN:st.length=g.s
  ·refine (mall_main h h0 hv hF hN hL).mono ?_
   rintro e w' ⟨n,er,R',rfl,h1,h2⟩
   exact⟨n,er,R',rfl,.inr (.inr ⟨h0,hN,h1⟩),h2⟩
  ·obtain⟨p,N,cap,rfl,hNN⟩:=hv.opened
   rw[us9_len] at hNN
   refine (mall_arg h h0 (by omega)).mono ?_
   rintro e w' ⟨rfl,g1⟩
   exact⟨0,1,R,rfl,.inr (.inl ⟨h0,hN,rfl,rfl,rfl⟩),F,h.keep g1,Step.new g1⟩
 ·refine (mall_off h h0 v).mono ?_
  rintro e w' ⟨rfl,rfl⟩
  exact⟨0,8,R,rfl,.inl ⟨h0,rfl,rfl,rfl⟩,F,h,Step.refl _ _⟩
end
end Go.Proofs.YtlklmhojadlncaaGreat
namespace Go.Proofs.YtlklmhojadlncaaGreat
namespace SP
def chk (g:Geo) (m:Nat) (xs:List Nat) (d i:Nat):List Nat:=(CM.secs m ((code g xs).getD d []) 8).getD i []
theorem chunk_of {R:AM.Raw} {g:Geo} {slot m d:Nat} {xs:List Nat} (ho:R.on (d:Int)=true) (hd:d < g.n) (hm:m ≠ 0) (hm2:m < 256 ^ 8) (h:∀ i,i < 8->cont R.C g slot d i=chk g m xs d i):has R g slot m d=true/\datD R g slot d=(code g xs).getD d []:=by
 have hE:=code_row g xs hd
 obtain⟨hf,hp⟩:=fit448 hm hE
 have h1:=CM.put_take hm2 hf
 rw[hp] at h1
 have hs:sects R g slot d=CM.secs m ((code g xs).getD d []) 8:=(sects_on ho _ _).trans (sectTo_cont (CM.secs_len _ _ _) h)
 unfold has yesD numD datD
 rw[hs,h1.1,h1.2.1]
 exact⟨by simp,h1.2.2⟩
theorem blank_sec (i:Nat) (hi:i < 8):(CM.secs 0 (List.replicate 448 0) 8).getD i []=AM.zs 64:=by
 rw[CM.secs_get 0 _ hi]
 have e:CM.ld (List.replicate 448 0) i=List.replicate 56 0:=by
  unfold CM.ld
  rw[List.drop_replicate,List.take_replicate]
  congr 1
  omega
 rw[e]
 decide
theorem layTo_err {R:AM.Raw} {g:Geo} (hg:g.Ok R) {slot d:Nat} (hs:slot < g.s) (hd:d < g.n) (h0:R.off=false) (ho:R.on (d:Int)=true) {S:List (List Nat)} (hS:∀ i,i < 8->(S.getD i []).length=64) :
 ∀ j,j<=8->(layTo R g slot d S j).1=0\/((layTo R g slot d S j).1=8/\(layTo R g slot d S j).2.off=true)
 | 0,_=>.inl rfl
 | j+1,hj=>by
   rcases layTo_err hg hs hd h0 ho hS j (by omega) with h1 | h1
   ·rw[layTo_succ h1]
    have h2:=layTo_pow (g:=g) (slot:=slot) (d:=d) (S:=S) h0 j h1
    have hk:=layTo_kept R g slot d S j
    have hr:=reach_on (hg.kept hk) h2 hs (i:=j) (by omega) hd
    rw[hk.on,if_pos ho] at hr
    generalize (layTo R g slot d S j).2=R1 at *
    unfold AM.Raw.writes
    rw[if_neg (by omega),if_neg (by rw[hS j (by omega)];omega)]
    split
    ·rename_i c
     refine .inr ⟨rfl,?_⟩
     show R1.burnt.off=true
     unfold AM.Raw.burns at c
     unfold AM.Raw.burnt
     have:R1.fuse=1:=by simpa using c
     rw[if_neg (by omega)]
     exact c
    ·exact .inl rfl
   ·have:=layTo_stop (R:=R) (g:=g) (slot:=slot) (d:=d) (S:=S) (j:=j) (by omega) (j+1) (by omega)
    rw[this]
    exact .inr h1
theorem mendTo_err {R:AM.Raw} {g:Geo} (hg:g.Ok R) {slot m:Nat} (hs:slot < g.s) (h0:R.off=false) {E:List (List Nat)} (hE:∀ d,d < g.n->(E.getD d []).length=448) :
 ∀ d,d<=g.n->(mendTo R g slot m E d).1=0\/((mendTo R g slot m E d).1=8/\(mendTo R g slot m E d).2.off=true)
 | 0,_=>.inl rfl
 | d+1,hd=>by
   rcases mendTo_err hg hs h0 hE (m:=m) d (by omega) with h1 | h1
   ·cases ho:want R g slot m d
    ·rw[mendTo_no ho];exact .inl h1
    ·rw[mendTo_yes h1 ho]
     have hk:=mendTo_kept R g slot m E d
     have hp:=mendTo_pow (g:=g) (slot:=slot) (m:=m) (E:=E) h0 d h1
     have hSl:∀ i,i < 8->((CM.secs m (E.getD d []) 8).getD i []).length=64:=fun i hi=>by
      rw[CM.secs_get m _ hi]
      have hl:=hE d (by omega)
      exact SM.sec_len (by rw[CM.ld_len (by omega)];omega)
     have ho':(mendTo R g slot m E d).2.on (d:Int)=true:=by rw[hk.on];exact (want_yes ho).1
     have hg':=hg.kept hk
     unfold lays
     generalize (mendTo R g slot m E d).2=R1 at *
     generalize CM.secs m (E.getD d []) 8=S at *
     exact layTo_err hg' hs (by omega) hp ho' hSl 8 (by omega)
   ·have:=mendTo_stop (R:=R) (g:=g) (slot:=slot) (m:=m) (E:=E) (j:=d) (by omega) (d+1) (by omega)
    rw[this]
    exact .inr h1
theorem marg_at {R:AM.Raw} {g:Geo} {slot m:Nat} (h0:R.off=false) (hs:slot < g.s) (hm:m ≠ 0):marg R g (slot:Int) m=((hits R g slot m g.n).length:Int) - (g.k:Int):=by
 unfold marg
 rw[if_pos (askE_at h0 hs hm),Int.toNat_natCast]
theorem slotM_at (R:AM.Raw) (g:Geo) (slot m:Nat) (out:List Nat):slotM R g (slot:Int) m out 0=mendTo R g slot m (code g out) g.n:=by
 unfold slotM
 rw[if_pos rfl,Int.toNat_natCast]
end SP
end Go.Proofs.YtlklmhojadlncaaGreat
