/- Packed: MSlot9, PH9, New8, Ply6, RNew8, Made8, Data8. -/
import Derived.Test.YtaalagkbpeinkaaGreatMw14
import Derived.Test.YtaalagkbpeinkaaGreatMw15
set_option linter.unusedSimpArgs false
set_option linter.unusedVariables false
set_option maxRecDepth 100000
namespace Go.Proofs.YtaalagkbpeinkaaGreat
open Go.RowKit
theorem enters_sl:∀ args w,(callFunc 71 args).run Tryz.prog w = .ok (.enter 71 args) w:=by
 intro args w
 simp [go_sem,callFunc,Tryz.func71,Tryz.f71]
theorem Mat.upd {F:Nat -> Prop} {w w':World} {v:Value} {us:List Value} {X:List (List Nat)} (h:Mat w v us X) (u:Upd F w w') (hv:∀ b,v.ownBlock = some b -> ¬ F b) (hu:∀ j,j < X.length -> ∀ b,(us.getD j undef).ownBlock = some b -> ¬ F b):Mat w' v us X :=
 ⟨⟨h.row.len,by
   obtain ⟨p,cap,e,h1,h2,h3⟩:=h.row.form
   refine ⟨p,cap,e,h1,h2,fun hne=>?_⟩
   obtain ⟨b,off,e2,h4⟩:=h3 hne
   exact ⟨b,off,e2,fun j hj=>u.cell (h4 j hj) (hv b (by rw [e,e2];rfl))⟩⟩,h.same,fun j hj=>(h.vec j hj).upd u (fun _ b hb=>hu j hj b hb)⟩
theorem Step.fresh9 {F F':Nat -> Prop} {w W w2:World} {bk:Nat} (h:Step F w F' W) (g:W.grownBy w2 (some bk)) (hb:w.heap.size <= bk):Step F w F' w2 :=
 ⟨⟨g.os.trans h.upd.os,g.tape.trans h.upd.tape,g.output.trans h.upd.output,Nat.le_trans h.upd.size g.size,fun i hi hn=>(g.block i (Nat.lt_of_lt_of_le hi h.upd.size) (fun e=>by have:=Option.some.inj e;omega)).trans (h.upd.block i hi hn)⟩,h.sub⟩
theorem SI.beside {F:Nat -> Prop} {w w':World} {s a b:Nat} {g:SP.Geo} {R:AM.Raw} (h:SI F w s a g R) (gr:w.grownBy w' (some b)) (hb:¬ F b) (hne:s ≠ b):SI F w' s a g R:=by
 obtain ⟨h1,_⟩:=h.i.aside (G:=fun i=>i = b) (Step.of gr (fun i e=>(Option.some.inj e).symm)) (fun k hk hg=>hb (hg ▸ hk))
 exact ⟨h1,by rw [gr.block s h.lt (fun e=>hne (Option.some.inj e))];exact h.top,h.nf,h.ok⟩
structure SlS (w0:World) (W P Q T D s:Nat) (dv:Value) (us:List Value):Prop where
 oP:w0.heap.size <= P /\ P < D
 oQ:w0.heap.size <= Q /\ Q < D
 oT:w0.heap.size <= T /\ T < D
 oD:w0.heap.size <= D /\ D < W
 ov:∀ b,dv.ownBlock = some b -> w0.heap.size <= b /\ b < D
 ou:∀ j,j < us.length -> ∀ b,(us.getD j undef).ownBlock = some b -> w0.heap.size <= b /\ b < D
 os:s < w0.heap.size
structure SlI (F0:Nat -> Prop) (w0:World) (W P Q T D slot m:Nat) (dv:Value) (us:List Value) (xs:List Nat) (s a:Nat) (g:SP.Geo) (F:Nat -> Prop) (w:World) (R:AM.Raw) (n:Nat):Prop where
 i:SI F w s a g R
 bw:Boxed w W 3 (.int .i64 (n:Int))
 bs:Boxed w P 23 (ptr s)
 bl:Boxed w Q 3 (.int .i64 (slot:Int))
 bm:Boxed w T 30 (.int .u64 (m:Int))
 bd:Boxed w D 95 dv
 mt:Mat w dv us (SP.parts xs g.k)
 fr:∀ b,w0.heap.size <= b -> b <= W -> ¬ F b
 st:Step F0 w0 F w
section
variable {F0 F F':Nat -> Prop} {w0 w w':World} {W P Q T D slot m s a n:Nat} {dv:Value} {us:List Value} {xs:List Nat} {g:SP.Geo} {R R':AM.Raw}
theorem boxed_upd {B:Nat} {t:TypeId} {v:Value} (h:Boxed w B t v) (u:Upd F w w') (hn:¬ F B):Boxed w' B t v:=(u.block B h.lt hn).trans h
theorem SlI.step (h:SlI F0 w0 W P Q T D slot m dv us xs s a g F w R n) (S:SlS w0 W P Q T D s dv us) (i':SI F' w' s a g R') (st:Step F w F' w'):SlI F0 w0 W P Q T D slot m dv us xs s a g F' w' R' n:=by
 have o1:=S.oP
 have o2:=S.oQ
 have o3:=S.oT
 have o4:=S.oD
 refine ⟨i',boxed_upd h.bw st.upd (h.fr _ (by omega) (by omega)),boxed_upd h.bs st.upd (h.fr _ (by omega) (by omega)),boxed_upd h.bl st.upd (h.fr _ (by omega) (by omega)),boxed_upd h.bm st.upd (h.fr _ (by omega) (by omega)),boxed_upd h.bd st.upd (h.fr _ (by omega) (by omega)),h.mt.upd st.upd (fun b hb=>h.fr b (S.ov b hb).1 (by have:=(S.ov b hb).2;omega)) (fun j hj b hb=>?_),fun b h1 h2 hf=>?_,h.st.trans st⟩
 ·have hb2:=S.ou j (by rw [h.mt.same];exact hj) b hb
  exact h.fr b hb2.1 (by omega)
 ·rcases st.sub b hf with h3 | h3
  ·exact h.fr b h1 h2 h3
  ·have:=h.bw.lt;omega
theorem SlI.keep (h:SlI F0 w0 W P Q T D slot m dv us xs s a g F w R n) (S:SlS w0 W P Q T D s dv us) (g1:w.grownBy w' none):SlI F0 w0 W P Q T D slot m dv us xs s a g F w' R n:=h.step S (h.i.keep g1) (Step.new g1)
theorem SlI.count (h:SlI F0 w0 W P Q T D slot m dv us xs s a g F w R n) (S:SlS w0 W P Q T D s dv us):SlI F0 w0 W P Q T D slot m dv us xs s a g F (w.setCell ⟨W,0,none⟩ (.int .i64 ((n + 1:Nat):Int))) R (n + 1):=by
 have o1:=S.oP
 have o2:=S.oQ
 have o3:=S.oT
 have o4:=S.oD
 have gs:=grownBy_setCell' w W (.int .i64 ((n + 1:Nat):Int))
 have nW:=h.fr W (by omega) (by omega)
 refine ⟨h.i.beside gs nW (by have:=S.os;omega),h.bw.set _,h.bs.kept gs (fun e=>by have:=Option.some.inj e;omega),h.bl.kept gs (fun e=>by have:=Option.some.inj e;omega),h.bm.kept gs (fun e=>by have:=Option.some.inj e;omega),h.bd.kept gs (fun e=>by have:=Option.some.inj e;omega),h.mt.upd (F:=fun i=>i = W) (Upd.of gs (fun i e=>(Option.some.inj e).symm)) (fun b hb e=>by have:=(S.ov b hb).2;omega) (fun j hj b hb e=>?_),h.fr,h.st.fresh9 gs (by omega)⟩
 have hb2:=S.ou j (by rw [h.mt.same];exact hj) b hb
 omega
theorem sl_yes (j:Nat):Calls Tryz.prog 71 #[.int .i64 (j:Int),.bool true,.pointer (some ⟨W,0,none⟩),.pointer (some ⟨P,0,none⟩),.pointer (some ⟨Q,0,none⟩),.pointer (some ⟨T,0,none⟩),.pointer (some ⟨D,0,none⟩)] w fun e w'=>e = .returned (.int .i64 0) /\ w' = w:=by
 go_enter Tryz.func71,Tryz.ntmps71
 go_wp2
 go_ret
 exact ⟨rfl,rfl⟩
set_option maxHeartbeats 1600000 in
theorem sl_no (h:SlI F0 w0 W P Q T D slot m dv us xs s a g F w R n) (S:SlS w0 W P Q T D s dv us) (h0:R.off = false) {j:Nat} (hl:xs.length = g.k * 448) (hd:j < g.n) (hs:slot < g.s) (hm:m ≠ 0) (hL:R.L.length <= 990000) (hn:n <= 1000) :
 Calls Tryz.prog 71 #[.int .i64 (j:Int),.bool false,.pointer (some ⟨W,0,none⟩),.pointer (some ⟨P,0,none⟩),.pointer (some ⟨Q,0,none⟩),.pointer (some ⟨T,0,none⟩),.pointer (some ⟨D,0,none⟩)] w fun e w'=>e = .returned (.int .i64 ((SP.lays R g slot j m ((SP.code g xs).getD j [])).1:Int)) /\ ∃ F',SlI F0 w0 W P Q T D slot m dv us xs s a g F' w' (SP.lays R g slot j m ((SP.code g xs).getD j [])).2 (n + 1):=by
 have C1:=h.count S
 have kw:=h.bw.cell
 have kf:=h.bw.frozen
 obtain ⟨q,N,cap,rfl,hN⟩:=h.mt.row.opened
 have d1:=C1.bs.cell
 have d2:=C1.bl.cell
 have d3:=C1.bm.cell
 have d4:=C1.bd.cell
 have hw:IntKind.i64.wrap ((n:Int) + 1) = ((n + 1:Nat):Int):=by
  have e:(n:Int) + 1 = ((n + 1:Nat):Int):=by omega
  rw [e]
  exact IntWalk.i64_in _ (by omega)
 have LA:Hid (Calls Tryz.prog 72 #[ptr s,.int .i64 (j:Int),.int .i64 (slot:Int),.int .u64 (m:Int),.slice q N cap] (w.setCell ⟨W,0,none⟩ (.int .i64 ((n + 1:Nat):Int))) fun e w'=>e = .returned (.int .i64 ((SP.lays R g slot j m ((SP.code g xs).getD j [])).1:Int)) /\ ∃ F',SlI F0 w0 W P Q T D slot m (.slice q N cap) us xs s a g F' w' (SP.lays R g slot j m ((SP.code g xs).getD j [])).2 (n + 1)):=by
  refine (mlay_yes C1.i h0 C1.mt hl hd hs hm hL).mono ?_
  rintro e w' ⟨rfl,F',i',st⟩
  exact ⟨rfl,F',C1.step S i' st⟩
 clear h hN C1 h0 hl hd hs hm hL hn S
 obtain ⟨c,hc⟩:∃ c,c = ((SP.lays R g slot j m ((SP.code g xs).getD j [])).1:Int):=⟨_,rfl⟩
 rw [<- hc] at LA ⊢
 clear hc
 obtain ⟨n1,hn1⟩:∃ n1,n1 = n + 1:=⟨_,rfl⟩
 rw [<- hn1] at hw d1 d2 d3 d4 LA ⊢
 clear hn1
 go_enter Tryz.func71,Tryz.ntmps71
 go_wp2_with (go_at_call 72;refine LA.out.mono ?_;rintro e w3 ⟨rfl,hp⟩;have HP:Hid (∃ F',SlI F0 w0 W P Q T D slot m (.slice q N cap) us xs s a g F' w3 (SP.lays R g slot j m ((SP.code g xs).getD j [])).2 n1):=hp;clear hp)
 go_ret
 exact ⟨rfl,HP.out⟩
theorem mendTo_len (R:AM.Raw) (g:SP.Geo) (slot m:Nat) (E:List (List Nat)):∀ d,(SP.mendTo R g slot m E d).2.L.length <= R.L.length + 8 * d
 | 0=>by simp [SP.mendTo]
 | d + 1=>by
   have:=mendTo_len R g slot m E d
   unfold SP.mendTo
   split
   ·have:=layTo_len (SP.mendTo R g slot m E d).2 g slot d (CM.secs m (E.getD d []) 8) 8
    unfold SP.lays
    omega
   ·omega
theorem slotM_len (R:AM.Raw) (g:SP.Geo) (slot:Int) (m:Nat) (out:List Nat) (e:Nat):(SP.slotM R g slot m out e).2.L.length <= R.L.length + 8 * g.n:=by
 unfold SP.slotM
 split
 ·exact mendTo_len _ _ _ _ _ _
 ·simp
theorem sl_each (h:SlI F0 w0 W P Q T D slot m dv us xs s a g F w R 0) (S:SlS w0 W P Q T D s dv us) (h0:R.off = false) (hl:xs.length = g.k * 448) (hs:slot < g.s) (hm:m ≠ 0) (hL:R.L.length <= 980000) :
 Calls Tryz.prog 66 #[ptr s,.int .i64 (slot:Int),.int .u64 (m:Int),.func (.func 71) #[] #[.pointer (some ⟨W,0,none⟩),.pointer (some ⟨P,0,none⟩),.pointer (some ⟨Q,0,none⟩),.pointer (some ⟨T,0,none⟩),.pointer (some ⟨D,0,none⟩)]] w fun e w' =>
  e = .returned (.int .i64 (((SP.mendTo R g slot m (SP.code g xs) g.n).1:Nat):Int)) /\ ∃ F' n',SlI F0 w0 W P Q T D slot m dv us xs s a g F' w' (SP.mendTo R g slot m (SP.code g xs) g.n).2 n' /\ ((SP.mendTo R g slot m (SP.code g xs) g.n).1 = 0 -> n' = (SP.wants R g slot m g.n).length):=by
 have hn:=h.i.ok.n255
 have ok:=h.i.i.ok
 refine (meach_any (g:=g) (a:=a) hs hm enters_sl (fun j=>(SP.mendTo R g slot m (SP.code g xs) j).2)
  (fun j w'=>j <= g.n /\ (SP.mendTo R g slot m (SP.code g xs) j).1 = 0 /\ ∃ F',SlI F0 w0 W P Q T D slot m dv us xs s a g F' w' (SP.mendTo R g slot m (SP.code g xs) j).2 (SP.wants R g slot m j).length)
  (fun j w'=>∃ F' n',SlI F0 w0 W P Q T D slot m dv us xs s a g F' w' (SP.mendTo R g slot m (SP.code g xs) (j + 1)).2 n') (fun j=>(SP.mendTo R g slot m (SP.code g xs) (j + 1)).1) ?_ ?_ ?_ ?_ ?_).mono ?_
 ·rintro j w' ⟨_,h1,F',t⟩
  exact ⟨SP.mendTo_pow h0 j h1,F',t.i⟩
 ·rintro j w1 w2 ⟨hj,h1,F',t⟩ g1
  exact ⟨hj,h1,F',t.keep S g1⟩
 ·rintro j w' hj ho ⟨_,h1,F',t⟩
  have ho':R.on (j:Int) = false:=by rw [<- (SP.mendTo_kept R g slot m (SP.code g xs) j).on];exact ho
  have e1:=SP.mendTo_no (E:=SP.code g xs) (SP.want_off (g:=g) (slot:=slot) (m:=m) ho')
  have e2:=SP.wants_succ R g slot m j
  rw [SP.want_off ho'] at e2
  simp only [Bool.false_eq_true,if_false,List.append_nil] at e2
  exact ⟨by omega,by rw [e1];exact h1,F',by rw [e1,e2];exact t⟩
 ·rintro j w' hj ho ⟨_,h1,F',t⟩
  have ho':R.on (j:Int) = true:=by rw [<- (SP.mendTo_kept R g slot m (SP.code g xs) j).on];exact ho
  have eh:=SP.mendTo_has ok (g:=g) (slot:=slot) (m:=m) (E:=SP.code g xs) SP.code_small9 h1 (Nat.le_refl j)
  have ew:=SP.want_on (g:=g) (slot:=slot) (m:=m) ho'
  have e2:=SP.wants_succ R g slot m j
  rw [eh]
  cases hb:SP.has R g slot m j
  ·rw [hb] at ew
   have ew':SP.want R g slot m j = true:=ew
   rw [ew'] at e2
   have e1:=SP.mendTo_yes (E:=SP.code g xs) h1 ew'
   have hl1:=SP.wants_len_le R g slot m j
   have hl2:=mendTo_len R g slot m (SP.code g xs) j
   refine (sl_no t S (SP.mendTo_pow h0 j h1) (j:=j) hl hj hs hm (by omega) (by omega)).mono ?_
   rintro e3 w3 ⟨rfl,F3,t3⟩
   rw [<- e1] at t3 ⊢
   refine ⟨rfl,?_⟩
   split
   ·rename_i c
    refine ⟨by omega,c,F3,?_⟩
    rw [e2]
    simpa using t3
   ·exact ⟨F3,_,t3⟩
  ·rw [hb] at ew
   have ew':SP.want R g slot m j = false:=ew
   rw [ew'] at e2
   simp only [Bool.false_eq_true,if_false,List.append_nil] at e2
   have e1:=SP.mendTo_no (E:=SP.code g xs) ew'
   refine (sl_yes j).mono ?_
   rintro e3 w3 ⟨rfl,rfl⟩
   rw [e1,h1]
   refine ⟨rfl,?_⟩
   rw [if_pos rfl]
   exact ⟨by omega,rfl,F',by rw [e2];exact t⟩
 ·exact ⟨by omega,rfl,F,h⟩
 ·rintro e w' (⟨rfl,_,h1,F',t⟩ | ⟨j,hj,hc,rfl,F',n',t⟩)
  ·rw [h1]
   exact ⟨rfl,F',_,t,fun _=>rfl⟩
  ·have e1:=SP.mendTo_stop hc g.n (by omega)
   rw [e1]
   exact ⟨rfl,F',n',t,fun h=>absurd h hc⟩
end
section
variable {F F':Nat -> Prop} {w w':World} {s a:Nat} {g:SP.Geo} {R R':AM.Raw}
theorem rdp_ok {slot:Int} {m:Nat} {out:List Nat} (h:SP.RdP R g slot m out 0):SP.why R g slot = 0 /\ m ≠ 0:=by
 rcases h with ⟨h1,_,h2⟩ | ⟨_,_,_,h2⟩ | ⟨_,_,_,_,h2⟩ | ⟨h1,h2,_⟩
 ·exact absurd h2.symm h1
 ·omega
 ·omega
 ·exact ⟨h1,h2⟩
set_option maxHeartbeats 1600000 in
theorem mslot_all (h:SI F w s a g R) (slot:Int) (m:Nat) (hL:R.L.length <= 980000) :
 Calls Tryz.prog 21 #[ptr s,.int .i64 slot,.int .u64 (m:Int)] w fun e w'=>∃ out er,SP.RdP R g slot m out er /\ e = .returned (.tuple #[.int .i64 ((SP.slotN R g slot m out er:Nat):Int),.int .i64 (((SP.slotM R g slot m out er).1:Nat):Int)]) /\ ∃ F',SI F' w' s a g (SP.slotM R g slot m out er).2 /\ Step F w F' w':=by
 have G3:Hid (w.grownBy (((w.alloc (.cells #[ptr s] 23)).alloc (.cells #[.int .i64 slot] 3)).alloc (.cells #[.int .u64 (m:Int)] 30)) none):=gb_alloc (gb_alloc (World.grownBy_alloc w _ none) _) _
 have b1:Boxed (((w.alloc (.cells #[ptr s] 23)).alloc (.cells #[.int .i64 slot] 3)).alloc (.cells #[.int .u64 (m:Int)] 30)) w.heap.size 23 (ptr s):=((Boxed.new w _ _).alloc _).alloc _
 have b2:Boxed (((w.alloc (.cells #[ptr s] 23)).alloc (.cells #[.int .i64 slot] 3)).alloc (.cells #[.int .u64 (m:Int)] 30)) (w.heap.size + 1) 3 (.int .i64 slot):=by
  have:=(Boxed.new (w.alloc (.cells #[ptr s] 23)) 3 (.int .i64 slot)).alloc (.cells #[.int .u64 (m:Int)] 30)
  rwa [World.size_alloc] at this
 have b3:Boxed (((w.alloc (.cells #[ptr s] 23)).alloc (.cells #[.int .i64 slot] 3)).alloc (.cells #[.int .u64 (m:Int)] 30)) (w.heap.size + 1 + 1) 30 (.int .u64 (m:Int)):=by
  have:=Boxed.new ((w.alloc (.cells #[ptr s] 23)).alloc (.cells #[.int .i64 slot] 3)) 30 (.int .u64 (m:Int))
  rwa [World.size_alloc,World.size_alloc] at this
 have BX:Hid (∀ w',(((w.alloc (.cells #[ptr s] 23)).alloc (.cells #[.int .i64 slot] 3)).alloc (.cells #[.int .u64 (m:Int)] 30)).grownBy w' none -> Boxed w' w.heap.size 23 (ptr s) /\ Boxed w' (w.heap.size + 1) 3 (.int .i64 slot) /\ Boxed w' (w.heap.size + 1 + 1) 30 (.int .u64 (m:Int))):=fun w' g'=>⟨b1.kept g' (by simp),b2.kept g' (by simp),b3.kept g' (by simp)⟩
 have H:Hid (SI F w s a g R):=h
 have HL:Hid (R.L.length <= 980000):=hL
 have RD:Hid (Calls Tryz.prog 22 #[ptr s,.int .i64 slot,.int .u64 (m:Int)] (((w.alloc (.cells #[ptr s] 23)).alloc (.cells #[.int .i64 slot] 3)).alloc (.cells #[.int .u64 (m:Int)] 30)) fun e w'=>∃ p n c er out,e = .returned (.tuple #[.slice p n c,.int .i64 ((er:Nat):Int)]) /\ SP.RdP R g slot m out er /\ (er = 0 -> out.length = g.k * 448) /\ Own w.heap.size w' (.slice p n c) out /\ (((w.alloc (.cells #[ptr s] 23)).alloc (.cells #[.int .i64 slot] 3)).alloc (.cells #[.int .u64 (m:Int)] 30)).grownBy w' none):=by
  refine (sread_len (h.keep G3.out) slot m).mono ?_
  rintro e w' ⟨v,er,out,rfl,h1,h2,h3,h4⟩
  obtain ⟨p,n,c,rfl,_⟩:=h3.vec.opened
  exact ⟨p,n,c,er,out,rfl,h1,h2,h3.down G3.out.size,h4⟩
 clear h hL b1 b2 b3
 go_enter Tryz.func21,Tryz.ntmps21
 go_wp2_with fail
 refine RD.out.mono ?_
 rintro e w1 ⟨p,n,c,er,out,rfl,hr,hlen,ho,g1⟩
 have HR1:Hid (SP.RdP R g slot m out er /\ (er = 0 -> out.length = g.k * 448)):=⟨hr,hlen⟩
 have O1:Hid (Own w.heap.size w1 (.slice p n c) out):=ho
 have G1:Hid ((((w.alloc (.cells #[ptr s] 23)).alloc (.cells #[.int .i64 slot] 3)).alloc (.cells #[.int .u64 (m:Int)] 30)).grownBy w1 none):=g1
 clear hr hlen ho g1
 have GW:Hid (w.grownBy w1 none):=grown_trans G3.out G1.out
 have BX1:Hid (∀ w',w1.grownBy w' none -> Boxed w' w.heap.size 23 (ptr s) /\ Boxed w' (w.heap.size + 1) 3 (.int .i64 slot) /\ Boxed w' (w.heap.size + 1 + 1) 30 (.int .u64 (m:Int))):=fun w' g'=>BX.out w' (grown_trans G1.out g')
 clear RD BX G3 G1
 by_cases h0:er = 0
 ·subst h0
  obtain ⟨y,hm⟩:=rdp_ok HR1.out.1
  obtain ⟨q0,q1,q2⟩:=SP.why_zero y
  obtain ⟨sl,rfl⟩:∃ n:Nat,slot = (n:Int):=⟨slot.toNat,by omega⟩
  have hl:=HR1.out.2 rfl
  have hk1:=H.out.ok.k1
  have hk255:g.k <= 255:=by have:=H.out.ok.kn;have:=H.out.ok.n255;omega
  have hnc:n = 448 * g.k /\ n <= c:=by
   obtain ⟨p',cap',e,h3,_⟩:=O1.out.vec.form
   injection e with e1 e2 e3
   exact ⟨by rw [e2,hl];omega,by omega⟩
  obtain ⟨b,rfl,z1,z2,z3,z4,z5,z6⟩:=O1.out.spot (k:=0) (by rw [hl];omega)
  clear z1 z2 z3 z4 z5 z6
  have CU:Hid (Calls Tryz.prog 70 #[.slice (some ⟨b,0,none⟩) n c] w1 fun e w'=>∃ q N cap,e = .returned (.slice q N cap) /\ Out w1.heap.size w' (.slice q N cap) (cutsAt b 0 g.k) /\ Mat w' (.slice q N cap) (cutsAt b 0 g.k) (SP.parts out g.k) /\ w1.grownBy w' none):=by
   refine (mcut_any O1.out.vec hnc.1 hl (by omega) hk255 hnc.2).mono ?_
   rintro e w' ⟨u,rfl,ou,gu⟩
   have mm:=cuts_mat (O1.out.vec.keep gu) hl ou
   obtain ⟨q,N,cap,rfl,_⟩:=mm.row.opened
   exact ⟨q,N,cap,rfl,ou,mm,gu⟩
  have HB:Hid (w.heap.size <= b /\ b < w1.heap.size):=O1.out.row.lt b rfl
  have HY:Hid (SP.RdP R g (sl:Int) m out 0 /\ out.length = g.k * 448 /\ R.off = false /\ sl < g.s /\ m ≠ 0):=⟨HR1.out.1,hl,q0,by omega,hm⟩
  clear HR1 O1 y hm q0 q1 q2 hl hk1 hk255 hnc
  have e1:SP.slotM R g (sl:Int) m out 0 = SP.mendTo R g sl m (SP.code g out) g.n:=by unfold SP.slotM;rw [if_pos rfl,Int.toNat_natCast]
  have HE:Hid (SP.slotN R g (sl:Int) m out 0 = if (SP.mendTo R g sl m (SP.code g out) g.n).1 = 0 then (SP.wants R g sl m g.n).length else 0):=by show _ = _;unfold SP.slotN;rw [e1,Int.toNat_natCast]
  have HE1:Hid (SP.slotM R g (sl:Int) m out 0 = SP.mendTo R g sl m (SP.code g out) g.n):=e1
  clear e1
  go_wp2_with (first
   | (go_at_call 70;refine CU.out.mono ?_;rintro e w2 ⟨q,N,cap,rfl,o2,m2,g2⟩;have O2:Hid (Out w1.heap.size w2 (.slice q N cap) (cutsAt b 0 g.k)):=o2;have M2:Hid (Mat w2 (.slice q N cap) (cutsAt b 0 g.k) (SP.parts out g.k)):=m2;have G2:Hid (w1.grownBy w2 none):=g2;have GX:Hid (w1.grownBy ((w2.alloc (.cells #[.slice q N cap] 95)).alloc (.cells #[.int .i64 0] 3)) none):=gb_alloc (gb_alloc g2 _) _;have cb:=(BX1.out _ GX.out).1.cell;have cl:=(BX1.out _ GX.out).2.1.cell;have cm:=(BX1.out _ GX.out).2.2.cell;clear o2 m2 g2)
   | fail)
  have S2:SlS w (w2.heap.size + 1) w.heap.size (w.heap.size + 1) (w.heap.size + 1 + 1) w2.heap.size s (.slice q N cap) (cutsAt b 0 g.k):=by
   have z1:=(BX1.out w2 G2.out).2.2.lt
   have z2:=G2.out.size
   have z3:=GW.out.size
   refine ⟨⟨by omega,by omega⟩,⟨by omega,by omega⟩,⟨by omega,by omega⟩,⟨by omega,by omega⟩,fun x hx=>?_,fun j hj x hx=>?_,H.out.lt⟩
   ·have h1:=O2.out.row.lt x hx
    omega
   ·have h1:=HB.out
    have hj2:j < g.k:=by rwa [cutsAt_len] at hj
    rw [show (cutsAt b 0 g.k).getD j undef = .slice (some ⟨b,0 + 448 * j,none⟩) 448 448 from by simp [cutsAt,List.getD,hj2]] at hx
    have h2:b = x:=by simpa [Value.ownBlock] using hx
    omega
  have T2:SlI F w (w2.heap.size + 1) w.heap.size (w.heap.size + 1) (w.heap.size + 1 + 1) w2.heap.size sl m (.slice q N cap) (cutsAt b 0 g.k) out s a g F ((w2.alloc (.cells #[.slice q N cap] 95)).alloc (.cells #[.int .i64 0] 3)) R 0:=by
   have bb:=BX1.out _ GX.out
   refine ⟨H.out.keep (grown_trans GW.out GX.out),?_,bb.1,bb.2.1,bb.2.2,(Boxed.new w2 _ _).alloc _,M2.out.keep (gb_alloc (World.grownBy_alloc w2 _ none) _),fun x h1 _ hf=>by have:=H.out.i.lt x hf;omega,Step.new (grown_trans GW.out GX.out)⟩
   have:=Boxed.new (w2.alloc (.cells #[.slice q N cap] 95)) 3 (.int .i64 0)
   rwa [World.size_alloc] at this
  have EA:Hid (Calls Tryz.prog 66 #[ptr s,.int .i64 (sl:Int),.int .u64 (m:Int),.func (.func 71) #[] #[.pointer (some ⟨w2.heap.size + 1,0,none⟩),.pointer (some ⟨w.heap.size,0,none⟩),.pointer (some ⟨w.heap.size + 1,0,none⟩),.pointer (some ⟨w.heap.size + 1 + 1,0,none⟩),.pointer (some ⟨w2.heap.size,0,none⟩)]] ((w2.alloc (.cells #[.slice q N cap] 95)).alloc (.cells #[.int .i64 0] 3)) fun e w' =>
   e = .returned (.int .i64 (((SP.mendTo R g sl m (SP.code g out) g.n).1:Nat):Int)) /\ ∃ F' n',SlI F w (w2.heap.size + 1) w.heap.size (w.heap.size + 1) (w.heap.size + 1 + 1) w2.heap.size sl m (.slice q N cap) (cutsAt b 0 g.k) out s a g F' w' (SP.mendTo R g sl m (SP.code g out) g.n).2 n' /\ ((SP.mendTo R g sl m (SP.code g out) g.n).1 = 0 -> n' = (SP.wants R g sl m g.n).length)):=sl_each T2 S2 HY.out.2.2.1 HY.out.2.1 HY.out.2.2.2.1 HY.out.2.2.2.2 HL.out
  have HYR:Hid (SP.RdP R g (sl:Int) m out 0):=HY.out.1
  clear S2 T2 CU HB HY O2 M2 BX1 GX GW G2 H HL cb cl cm
  generalize SP.mendTo R g sl m (SP.code g out) g.n = MT at *
  generalize (SP.wants R g sl m g.n).length = WL at *
  obtain ⟨c1,R1⟩:=MT
  dsimp only at EA HE
  refine EA.out.mono ?_
  rintro e w5 ⟨rfl,F5,n5,t5,hn5⟩
  have c5:=t5.bw.cell
  have HS5:Hid (SI F5 w5 s a g R1 /\ Step F w F5 w5):=⟨t5.i,t5.st⟩
  clear t5 EA
  by_cases hc:c1 = 0
  ·subst hc
   obtain rfl:=hn5 rfl
   clear hn5
   go_wp2
   go_ret2
   exact ⟨out,0,HYR.out,by rw [HE.out,HE1.out];first | rfl | (rw [if_pos rfl];rfl),F5,by rw [HE1.out];exact HS5.out.1,HS5.out.2⟩
  ·have hne:((c1:Int) != 0) = true:=neb_yes (b:=0) hc
   have HC:Hid (¬ c1 = 0):=hc
   clear hn5 c5 hc
   go_wp2
   go_ret2
   exact ⟨out,0,HYR.out,by rw [HE.out,HE1.out];first | (rw [if_neg HC.out];rfl) | rfl,F5,by rw [HE1.out];exact HS5.out.1,HS5.out.2⟩
 ·have hne:((er:Int) != 0) = true:=neb_yes (b:=0) h0
  have e1:SP.slotM R g slot m out er = (er,R):=by unfold SP.slotM;rw [if_neg h0]
  have e2:SP.slotN R g slot m out er = 0:=by unfold SP.slotN;rw [e1,if_neg h0]
  have HE:Hid (SP.slotM R g slot m out er = (er,R) /\ SP.slotN R g slot m out er = 0):=⟨e1,e2⟩
  clear h0 e1 e2 BX1 O1
  go_wp2
  go_ret2
  exact ⟨out,er,HR1.out.1,by rw [HE.out.1,HE.out.2];rfl,F,by rw [HE.out.1];exact H.out.keep GW.out,Step.new GW.out⟩
end
end Go.Proofs.YtaalagkbpeinkaaGreat
namespace Go.Proofs.YtaalagkbpeinkaaGreat
namespace SP
def chk (g:Geo) (m:Nat) (xs:List Nat) (d i:Nat):List Nat:=(CM.secs m ((code g xs).getD d []) 8).getD i []
structure Half (R:AM.Raw) (g:Geo) (slot m:Nat) (xs:List Nat):Prop where
 ok:g.Ok R
 off:R.off = false
 on:∀ d,d < g.n -> R.on (d:Int) = true
 just:∀ d,d < g.n -> has R g slot m d = true -> ∀ i,i < 8 -> cont R.C g slot d i = chk g m xs d i
theorem chunk_of {R:AM.Raw} {g:Geo} {slot m d:Nat} {xs:List Nat} (ho:R.on (d:Int) = true) (hd:d < g.n) (hm:m ≠ 0) (hm2:m < 256 ^ 8) (h:∀ i,i < 8 -> cont R.C g slot d i = chk g m xs d i):has R g slot m d = true /\ datD R g slot d = (code g xs).getD d []:=by
 have hE:=code_row g xs hd
 obtain ⟨hf,hp⟩:=fit448 hm hE
 have h1:=CM.put_take hm2 hf
 rw [hp] at h1
 have hs:sects R g slot d = CM.secs m ((code g xs).getD d []) 8:=(sects_on ho _ _).trans (sectTo_cont (CM.secs_len _ _ _) h)
 unfold has yesD numD datD
 rw [hs,h1.1,h1.2.1]
 exact ⟨by simp,h1.2.2⟩
theorem Half.dat {R:AM.Raw} {g:Geo} {slot m:Nat} {xs:List Nat} (h:Half R g slot m xs) (hm:m ≠ 0) (hm2:m < 256 ^ 8) {d:Nat} (hd:d < g.n) (hh:has R g slot m d = true):datD R g slot d = (code g xs).getD d [] :=
 (chunk_of (h.on d hd) hd hm hm2 (h.just d hd hh)).2
theorem Half.read {R:AM.Raw} {g:Geo} {slot m:Nat} {xs:List Nat} (h:Half R g slot m xs) (hs:slot < g.s) (hm:m ≠ 0) (hm2:m < 256 ^ 8) (hx:∀ x ∈ xs,x < 256) (hl:xs.length = g.k * 448) (hk:g.k <= (hits R g slot m g.n).length) {out:List Nat} {e:Nat} (hr:RdP R g (slot:Int) m out e):out = xs /\ e = 0:=by
 have hy:=why_at h.off hs
 rcases rdp_or h.ok hy hm hx hl (fun d hd hd'=>h.dat hm hm2 hd hd') hr with ⟨h1,h2⟩ | h1
 ·exact ⟨h2,h1⟩
 ·subst h1
  unfold RdP at hr
  rw [Int.toNat_natCast] at hr
  rcases hr with ⟨a1,_,_⟩ | ⟨_,a2,_⟩ | ⟨_,_,a3,_⟩ | ⟨_,_,_,a4,_⟩
  ·exact absurd hy a1
  ·exact absurd a2 hm
  ·omega
  ·omega
theorem Half.heals {R:AM.Raw} {g:Geo} {slot m:Nat} {xs:List Nat} (h:Half R g slot m xs) (ok:R.Ok) (hf:R.fuse = 0) (hs:slot < g.s) (hm:m ≠ 0) :
 (mendTo R g slot m (code g xs) g.n).1 = 0 /\ Wrote (mendTo R g slot m (code g xs) g.n).2 g slot m xs /\ (mendTo R g slot m (code g xs) g.n).2.off = false /\ (mendTo R g slot m (code g xs) g.n).2.fuse = 0 /\ (∀ d,d < g.n -> (mendTo R g slot m (code g xs) g.n).2.on (d:Int) = true):=by
 obtain ⟨h1,h2,h3⟩:=mendTo_sure h.ok hs h.off hf (m:=m) (E:=code g xs) (fun d hd=>code_row g xs hd) g.n (Nat.le_refl _)
 obtain ⟨_,h5⟩:=mendTo_done ok (g:=g) (slot:=slot) (m:=m) (E:=code g xs) code_small9 g.n h1
 have hk:=mendTo_kept R g slot m (code g xs) g.n
 refine ⟨h1,fun d hd hon i hi=>?_,h2,h3,fun d hd=>by rw [hk.on];exact h.on d hd⟩
 rw [h5 d i hi]
 by_cases c:want R g slot m d = true
 ·rw [if_pos ⟨hd,c⟩]
 ·rw [if_neg (fun hh=>c hh.2)]
  rw [want_on (h.on d hd)] at c
  exact h.just d hd (by simpa using c) i hi
theorem count_all {R:AM.Raw} {g:Geo} {slot m:Nat}:∀ j:Nat,(∀ d:Nat,d < j -> R.on (d:Int) = true) -> (wants R g slot m j).length + (hits R g slot m j).length = j
 | 0,_=>by simp [wants,hits]
 | j + 1,h=>by
   have ih:=count_all (R:=R) (g:=g) (slot:=slot) (m:=m) j (fun d hd=>h d (by omega))
   rw [wants_succ,hits_succ,want_on (h j (by omega)),List.length_append,List.length_append]
   cases has R g slot m j <;> simp <;> omega
theorem Wrote.none {R:AM.Raw} {g:Geo} {slot m:Nat} {xs:List Nat} (h:Wrote R g slot m xs) (hm:m ≠ 0) (hm2:m < 256 ^ 8):wants R g slot m g.n = []:=by
 unfold wants
 rw [List.filter_eq_nil_iff]
 intro d hd
 have:=h.has hm hm2 (List.mem_range.1 hd)
 unfold want
 rw [this]
 simp
theorem blank_sec (i:Nat) (hi:i < 8):(CM.secs 0 (List.replicate 448 0) 8).getD i [] = AM.zs 64:=by
 rw [CM.secs_get 0 _ hi]
 have e:CM.ld (List.replicate 448 0) i = List.replicate 56 0:=by
  unfold CM.ld
  rw [List.drop_replicate,List.take_replicate]
  congr 1
  omega
 rw [e]
 decide
theorem blank_has {R:AM.Raw} {g:Geo} {slot m d:Nat} (hm:m ≠ 0) (h:∀ i,i < 8 -> cont R.C g slot d i = AM.zs 64):has R g slot m d = false:=by
 cases c:has R g slot m d
 ·rfl
 ·exfalso
  have ho:=has_on c
  have hs:sects R g slot d = CM.secs 0 (List.replicate 448 0) 8:=(sects_on ho _ _).trans (sectTo_cont (CM.secs_len _ _ _) (fun i hi=>(h i hi).trans (blank_sec i hi).symm))
  unfold has at c
  simp only [Bool.and_eq_true,beq_iff_eq] at c
  have h2:=c.2
  unfold numD CM.tN at h2
  rw [hs,blank_sec 0 (by omega)] at h2
  have h3:SM.val (AM.zs 64) 8 = 0:=by decide
  rw [h3] at h2
  split at h2 <;> omega
structure Gaps (R:AM.Raw) (g:Geo) (slot m:Nat) (xs:List Nat) (l:List Nat):Prop where
 ok:g.Ok R
 off:R.off = false
 fuse:R.fuse = 0
 on:∀ d,d < g.n -> R.on (d:Int) = true
 full:∀ d,d < g.n -> d ∉ l -> ∀ i,i < 8 -> cont R.C g slot d i = chk g m xs d i
 gap:∀ d,d < g.n -> d ∈ l -> ∀ i,i < 8 -> cont R.C g slot d i = AM.zs 64
theorem Gaps.has_eq {R:AM.Raw} {g:Geo} {slot m:Nat} {xs l:List Nat} (h:Gaps R g slot m xs l) (hm:m ≠ 0) (hm2:m < 256 ^ 8) {d:Nat} (hd:d < g.n):has R g slot m d = !(decide (d ∈ l)):=by
 by_cases c:d ∈ l
 ·rw [decide_eq_true c,blank_has hm (h.gap d hd c)];rfl
 ·rw [decide_eq_false c,(chunk_of (h.on d hd) hd hm hm2 (h.full d hd c)).1];rfl
theorem Gaps.half {R:AM.Raw} {g:Geo} {slot m:Nat} {xs l:List Nat} (h:Gaps R g slot m xs l) (hm:m ≠ 0) (hm2:m < 256 ^ 8):Half R g slot m xs:=⟨h.ok,h.off,h.on,fun d hd hh=>by
 rw [h.has_eq hm hm2 hd] at hh
 exact h.full d hd (by simpa using hh)⟩
theorem Gaps.wants {R:AM.Raw} {g:Geo} {slot m:Nat} {xs l:List Nat} (h:Gaps R g slot m xs l) (hm:m ≠ 0) (hm2:m < 256 ^ 8):wants R g slot m g.n = (List.range g.n).filter (fun d=>decide (d ∈ l)):=by
 unfold SP.wants
 refine List.filter_congr fun d hd=>?_
 have hd':=List.mem_range.1 hd
 rw [want_on (h.on d hd'),h.has_eq hm hm2 hd']
 simp
theorem renew {R:AM.Raw} {g:Geo} (hg:g.Ok R) {d:Nat} (hd:R.on (d:Int) = true):(R.lose (d:Int)).1 = 0 /\ ((R.lose (d:Int)).2.replace (d:Int)).1 = 0 /\ ((R.lose (d:Int)).2.replace (d:Int)).2.off = R.off /\ ((R.lose (d:Int)).2.replace (d:Int)).2.fuse = R.fuse /\ (R.L = [] -> ((R.lose (d:Int)).2.replace (d:Int)).2.L = []) /\ ((R.lose (d:Int)).2.replace (d:Int)).2.L.length <= R.L.length /\
 ((R.lose (d:Int)).2.replace (d:Int)).2.C = R.C.set d (some (AM.zs (R.n * 64))) /\ ((R.lose (d:Int)).2.replace (d:Int)).2.n = R.n:=by
 obtain ⟨h1,h2,xs,hx⟩:=AM.on_iff hd
 have hf:R.find (d:Int) = 0:=by unfold AM.Raw.find;rw [if_pos ⟨h1,h2⟩]
 have e:R.lose (d:Int) = (0,R.lost d):=by
  unfold AM.Raw.lose
  rw [if_neg (by omega),if_pos hd,Int.toNat_natCast]
 rw [e]
 have hf2:(R.lost d).find (d:Int) = 0:=by
  unfold AM.Raw.find AM.Raw.lost
  rw [if_pos ⟨h1,by simpa using h2⟩]
 have ho2:(R.lost d).on (d:Int) = false:=by
  rw [on_iff_C]
  have hl:d < R.C.length:=by omega
  simp [AM.Raw.lost,List.getD,hl]
 have e2:(R.lost d).replace (d:Int) = (0,(R.lost d).blank d):=by
  unfold AM.Raw.replace
  rw [if_neg (by omega),if_neg (by rw [ho2];decide),Int.toNat_natCast]
 dsimp only
 rw [e2]
 refine ⟨rfl,rfl,rfl,rfl,fun hL=>?_,List.length_filter_le _ _,?_,rfl⟩
 ·show R.L.filter _ = []
  rw [hL];rfl
 ·show (R.C.set d none).set d _ = _
  rw [List.set_set]
  rfl
theorem Gaps.step {R:AM.Raw} {g:Geo} {slot m:Nat} {xs l:List Nat} (h:Gaps R g slot m xs l) (hs:slot < g.s) {d:Nat} (hd:d < g.n):Gaps ((R.lose (d:Int)).2.replace (d:Int)).2 g slot m xs (l ++ [d]):=by
 obtain ⟨_,_,h3,h4,_,_,h6,h7⟩:=renew h.ok (h.on d hd)
 have hl:d < R.C.length:=by rw [h.ok.len];exact hd
 have hc:∀ e i,i < 8 -> cont ((R.lose (d:Int)).2.replace (d:Int)).2.C g slot e i = if e = d then AM.zs 64 else cont R.C g slot e i:=fun e i hi=>by
  unfold cont
  rw [h6]
  split
  ·rename_i c
   subst c
   rw [AM.look_at _ (xs:=AM.zs (R.n * 64)) (by simp [hl])]
   exact AM.sec_zs (fitG h.ok hs hi)
  ·rename_i c
   unfold AM.look
   simp [List.getD,Ne.symm c]
 refine ⟨⟨h.ok.k1,h.ok.kn,h.ok.n255,h.ok.s1,h.ok.s2,by rw [h7];exact h.ok.room,by rw [h6,List.length_set];exact h.ok.len⟩,h3.trans h.off,h4.trans h.fuse,fun e he=>?_,fun e he hne i hi=>?_,fun e he hin i hi=>?_⟩
 ·rw [on_iff_C,h6]
  by_cases c:e = d
  ·subst c;simp [List.getD,hl]
  ·have:=h.on e he
   rw [on_iff_C] at this
   simpa [List.getD,Ne.symm c] using this
 ·rw [hc e i hi,if_neg (fun c=>hne (by simp [c]))]
  exact h.full e he (fun c=>hne (by simp [c])) i hi
 ·rw [hc e i hi]
  split
  ·rfl
  ·rename_i c
   refine h.gap e he ?_ i hi
   rcases List.mem_append.1 hin with h8 | h8
   ·exact h8
   ·exact absurd (List.mem_singleton.1 h8) c
theorem Wrote.gaps {R:AM.Raw} {g:Geo} {slot m:Nat} {xs:List Nat} (h:Wrote R g slot m xs) (hg:g.Ok R) (h0:R.off = false) (hf:R.fuse = 0) (hon:∀ d,d < g.n -> R.on (d:Int) = true):Gaps R g slot m xs []:=⟨hg,h0,hf,hon,fun d hd _=>h d hd (hon d hd),by simp⟩
theorem missL_at {R:AM.Raw} {g:Geo} {slot m:Nat} (h0:R.off = false) (hs:slot < g.s) (hm:m ≠ 0):missL R g (slot:Int) m = wants R g slot m g.n:=by
 unfold missL
 rw [if_pos (askE_at h0 hs hm),Int.toNat_natCast]
theorem marg_at {R:AM.Raw} {g:Geo} {slot m:Nat} (h0:R.off = false) (hs:slot < g.s) (hm:m ≠ 0):marg R g (slot:Int) m = ((hits R g slot m g.n).length:Int) - (g.k:Int):=by
 unfold marg
 rw [if_pos (askE_at h0 hs hm),Int.toNat_natCast]
theorem slotM_at (R:AM.Raw) (g:Geo) (slot m:Nat) (out:List Nat):slotM R g (slot:Int) m out 0 = mendTo R g slot m (code g out) g.n:=by
 unfold slotM
 rw [if_pos rfl,Int.toNat_natCast]
theorem slotN_at (R:AM.Raw) (g:Geo) (slot m:Nat) (out:List Nat):slotN R g (slot:Int) m out 0 = if (mendTo R g slot m (code g out) g.n).1 = 0 then (wants R g slot m g.n).length else 0:=by
 unfold slotN
 rw [slotM_at,Int.toNat_natCast]
theorem Half.slot {R:AM.Raw} {g:Geo} {slot m:Nat} {xs:List Nat} (h:Half R g slot m xs) (ok:R.Ok) (hf:R.fuse = 0) (hs:slot < g.s) (hm:m ≠ 0):∃ R',slotM R g (slot:Int) m xs 0 = (0,R') /\ slotN R g (slot:Int) m xs 0 = (wants R g slot m g.n).length /\ Wrote R' g slot m xs /\ R'.off = false /\ R'.fuse = 0 /\ (∀ d,d < g.n -> R'.on (d:Int) = true) /\ g.Ok R':=by
 obtain ⟨h1,h2,h3,h4,h5⟩:=h.heals ok hf hs hm
 have hk:=mendTo_kept R g slot m (code g xs) g.n
 refine ⟨(mendTo R g slot m (code g xs) g.n).2,?_,?_,h2,h3,h4,h5,h.ok.kept hk⟩
 ·rw [slotM_at]
  exact Prod.ext h1 rfl
 ·rw [slotN_at,if_pos h1]
end SP
open Go.RowKit
def SP.okNew (R:AM.Raw) (K N S f:Int):Bool:=mayI K N && (decide (1 <= S) && (decide (S <= 128) && (decide (0 <= f) && (decide ((R.C.length:Int) = N) && decide (f <= (R.n:Int) - 8 * S)))))
theorem SP.okNew_iff {R:AM.Raw} {K N S f:Int}:SP.okNew R K N S f = true ↔ (1 <= K /\ K < N /\ N <= 255) /\ 1 <= S /\ S <= 128 /\ 0 <= f /\ (R.C.length:Int) = N /\ f <= (R.n:Int) - 8 * S:=by
 unfold SP.okNew
 simp only [Bool.and_eq_true,decide_eq_true_eq,mayI_iff]
section
variable {F F':Nat -> Prop} {w w':World} {s a:Nat} {g:SP.Geo} {R R':AM.Raw}
set_option maxHeartbeats 6400000 in
theorem sfits_any (h:Is F w a R) {K N S f:Int} (hS:1 <= S) (hS2:S <= 128) :
 Calls Tryz.prog 82 #[ptr a,.agg #[.int .i64 K,.int .i64 N,.int .i64 S],.int .i64 f] w fun e w'=>e = .returned (.bool (decide ((R.C.length:Int) = N) && decide (f <= (R.n:Int) - 8 * S))) /\ w.grownBy w' none:=by
 have hn2:=h.ok.n2
 obtain ⟨L,hL⟩:∃ L,L = R.C.length:=⟨_,rfl⟩
 obtain ⟨n,hn⟩:∃ n,n = R.n:=⟨_,rfl⟩
 have GA:Hid (w.grownBy (w.alloc (.cells #[.int .i64 K,.int .i64 N,.int .i64 S] 39)) none):=World.grownBy_alloc w _ none
 have Q1:Hid (∀ w1,w.grownBy w1 none -> Calls Tryz.prog 44 #[ptr a] w1 fun e w'=>e = .returned (.int .i64 (L:Int)) /\ w' = w1):=fun w1 g1=>by rw [hL];exact disks_yes (h.keep g1)
 have Q2:Hid (∀ w1,w.grownBy w1 none -> Calls Tryz.prog 45 #[ptr a] w1 fun e w'=>e = .returned (.int .i64 (n:Int)) /\ w' = w1):=fun w1 g1=>by rw [hn];exact sectors_yes (h.keep g1)
 rw [<- hL,<- hn]
 have hw1:IntKind.i64.wrap (8 * S) = 8 * S:=IntWalk.i64_in _ (by omega)
 have hw2:IntKind.i64.wrap ((n:Int) - 8 * S) = (n:Int) - 8 * S:=IntWalk.i64_in _ (by omega)
 clear h hn2 hL hn hS hS2
 by_cases h1:(L:Int) = N
 ·have i1:((L:Int) == N) = true:=by simp [h1]
  rw [decide_eq_true h1,Bool.true_and]
  clear h1
  go_enter Tryz.func82,Tryz.ntmps82
  go_wp2_with fail
  go_quiet ((first
   | (go_at_call 44;exact Calls.quiet_of_same (Q1.out _ (grown_trans GA.out (grown_drewN _ _))))
   | (go_at_call 45;exact Calls.quiet_of_same (Q2.out _ (grown_trans GA.out (grown_drewN _ _))))))
  go_wp2
  go_ret
  exact ⟨rfl,by first | exact grown_trans GA.out (grown_drewN _ _) | exact GA.out | exact gb_drew GA.out⟩
 ·have i1:((L:Int) == N) = false:=by simp [h1]
  rw [decide_eq_false h1,Bool.false_and]
  clear h1
  go_enter Tryz.func82,Tryz.ntmps82
  go_wp2_with fail
  go_quiet ((first
   | (go_at_call 44;exact Calls.quiet_of_same (Q1.out _ (grown_trans GA.out (grown_drewN _ _))))
   | (go_at_call 45;exact Calls.quiet_of_same (Q2.out _ (grown_trans GA.out (grown_drewN _ _))))))
  go_wp2
  go_ret
  exact ⟨rfl,by first | exact grown_trans GA.out (grown_drewN _ _) | exact GA.out | exact gb_drew GA.out⟩
set_option maxHeartbeats 6400000 in
theorem snew_yes (h:Is F w a R) (hg:g.Ok R) :
 Calls Tryz.prog 29 #[ptr a,geoV g,.int .i64 (g.f:Int)] w fun e w'=>∃ s,e = .returned (.tuple #[ptr s,.int .i64 0]) /\ SI F w' s a g R /\ w.heap.size <= s /\ w.grownBy w' none:=by
 have hk:mayI (g.k:Int) (g.n:Int) = true:=mayI_iff.2 ⟨by have:=hg.k1;omega,by have:=hg.kn;omega,by have:=hg.n255;omega⟩
 have i1:¬ (g.s:Int) < 1:=by have:=hg.s1;omega
 have i2:¬ (128:Int) < (g.s:Int):=by have:=hg.s2;omega
 have i3:¬ (g.f:Int) < 0:=by omega
 have FI:Hid (∀ w',w.grownBy w' none -> Calls Tryz.prog 82 #[ptr a,geoV g,.int .i64 (g.f:Int)] w' fun e w''=>e = .returned (.bool true) /\ w'.grownBy w'' none):=fun w' g1=>by
  refine (sfits_any (h.keep g1) (K:=(g.k:Int)) (N:=(g.n:Int)) (S:=(g.s:Int)) (f:=(g.f:Int)) (by have:=hg.s1;omega) (by have:=hg.s2;omega)).mono ?_
  rintro e w'' ⟨rfl,g2⟩
  refine ⟨?_,g2⟩
  rw [decide_eq_true (show (R.C.length:Int) = (g.n:Int) by have:=hg.len;omega),decide_eq_true (show (g.f:Int) <= (R.n:Int) - 8 * (g.s:Int) by have:=hg.room;omega)]
  rfl
 have MA:Hid (∀ w',Calls Tryz.prog 81 #[.int .i64 (g.k:Int),.int .i64 (g.n:Int)] w' fun e w''=>e = .returned (.bool true) /\ w'' = w'):=fun w'=>by
  have:=codeMay_any (g.k:Int) (g.n:Int) w'
  rwa [hk] at this
 have H:Hid (Is F w a R /\ g.Ok R):=⟨h,hg⟩
 have GA:Hid (w.grownBy (w.alloc (.cells #[.int .i64 (g.k:Int),.int .i64 (g.n:Int),.int .i64 (g.s:Int)] 39)) none):=World.grownBy_alloc w _ none
 have GC:Hid (∀ w',(w.alloc (.cells #[.int .i64 (g.k:Int),.int .i64 (g.n:Int),.int .i64 (g.s:Int)] 39)).grownBy w' none -> w'.cell? ⟨w.heap.size,0,none⟩ = some (.int .i64 (g.k:Int)) /\ w'.cell? ⟨w.heap.size,1,none⟩ = some (.int .i64 (g.n:Int)) /\ w'.cell? ⟨w.heap.size,2,none⟩ = some (.int .i64 (g.s:Int))):=fun w' g1=>by
  have h0:=heap_alloc_new w (.cells #[.int .i64 (g.k:Int),.int .i64 (g.n:Int),.int .i64 (g.s:Int)] 39)
  exact ⟨g1.cell (cell_of_row _ _ 0 _ _ _ h0) (by simp),g1.cell (cell_of_row _ _ 1 _ _ _ h0) (by simp),g1.cell (cell_of_row _ _ 2 _ _ _ h0) (by simp)⟩
 clear h hg hk
 go_enter Tryz.func29,Tryz.ntmps29
 go_wp2_with (first
  | (go_at_call 81;refine (MA.out _).mono ?_;rintro e w9 ⟨rfl,hw9⟩;obtain rfl:=hw9.symm;clear hw9)
  | (go_at_call 82;refine (FI.out _ GA.out).mono ?_;rintro e w2 ⟨rfl,g2⟩;have G2:Hid (w.grownBy w2 none):=grown_trans GA.out g2;obtain ⟨hb1,hb2,hb3⟩:=GC.out w2 g2;clear g2))
 go_ret2
 have g3:=gb_alloc G2.out (.cells #[ptr a,.int .i64 (g.k:Int),.int .i64 (g.n:Int),.int .i64 (g.s:Int),.int .i64 (g.f:Int)] 94)
 exact ⟨_,rfl,⟨H.out.1.keep g3,heap_alloc_new w2 _,fun hf=>(by have h1:=H.out.1.lt _ hf;have h2:=G2.out.size;omega),H.out.2⟩,G2.out.size,g3⟩
end
section
variable {F G F' G':Nat -> Prop} {w0 w w':World} {a r:Nat} {R R':AM.Raw} {A A':AM.RA}
theorem rnew_at {w:World} {N n:Nat} (h1:1 <= N) (h2:N <= 255) (h3:1 <= n) (h4:n <= 4096) {c d:Int} (hc:(N:Int) = c) (hd:(n:Int) = d) :
 Calls Tryz.prog 28 #[.int .i64 c,.int .i64 d] w fun e w'=>∃ r,e = .returned (.tuple #[rptr r,.int .i64 0]) /\ ∃ G,RIs G w' r (AM.RA.new N n) /\ Base w G w':=by
 subst hc
 subst hd
 exact rnew_yes h1 h2 h3 h4
end
structure RSI (G:Nat -> Prop) (w:World) (t r:Nat) (g:SP.Geo) (R:AM.Raw):Prop where
 j:∃ A,RIs G w r A /\ AM.Sim R A
 top:w.heap[t]? = some (.cells #[rptr r,.int .i64 (g.k:Int),.int .i64 (g.n:Int),.int .i64 (g.s:Int),.int .i64 (g.f:Int)] 41 (0,0))
 nf:¬ G t
 ok:g.Ok R
section
variable {G G':Nat -> Prop} {w w':World} {t r:Nat} {g:SP.Geo} {R R':AM.Raw} {A:AM.RA}
set_option maxHeartbeats 6400000 in
theorem rsnew_any (h:RIs G w r A) (hs:AM.Sim R A) (hok:R.Ok) {K N S f:Int} (hf:f < 9223372036854775808) :
 Calls Tryz.prog 30 #[rptr r,.agg #[.int .i64 K,.int .i64 N,.int .i64 S],.int .i64 f] w fun e w'=>(SP.okNew R K N S f = true /\ ∃ t,e = .returned (.tuple #[.pointer (some ⟨t,0,none⟩),.int .i64 0]) /\ w'.heap[t]? = some (.cells #[rptr r,.int .i64 K,.int .i64 N,.int .i64 S,.int .i64 f] 41 (0,0)) /\ w.heap.size <= t /\ w.grownBy w' none) \/
  (SP.okNew R K N S f = false /\ e = .returned (.tuple #[.pointer none,.int .i64 1]) /\ w.grownBy w' none):=by
 obtain ⟨b,hb⟩:∃ b,b = mayI K N:=⟨_,rfl⟩
 have MA:Hid (∀ w',Calls Tryz.prog 83 #[.int .i64 K,.int .i64 N] w' fun e w''=>e = .returned (.bool b) /\ w'' = w'):=fun w'=>by
  rw [hb];exact refMay4_any K N w'
 have GA:Hid (w.grownBy (w.alloc (.cells #[.int .i64 K,.int .i64 N,.int .i64 S] 39)) none):=World.grownBy_alloc w _ none
 have HOK:Hid (SP.okNew R K N S f = true ↔ b = true /\ 1 <= S /\ S <= 128 /\ 0 <= f /\ (R.C.length:Int) = N /\ f <= (R.n:Int) - 8 * S):=by
  show _ ↔ _
  rw [SP.okNew_iff,hb,mayI_iff]
 have HNO:Hid (¬ (b = true /\ 1 <= S /\ S <= 128 /\ 0 <= f /\ (R.C.length:Int) = N /\ f <= (R.n:Int) - 8 * S) -> SP.okNew R K N S f = false):=fun hh=>by
  rw [Bool.eq_false_iff]
  exact fun hc=>hh (HOK.out.1 hc)
 have hn2:=hok.n2
 obtain ⟨dp,dc,ds,lp,lc,fs,hrl⟩:=h.keep GA.out
 obtain ⟨z0,z1,_,_,_⟩:=hrl.topCells
 rw [hs.len] at z0
 rw [hs.n] at z1
 obtain ⟨L,hL⟩:∃ L,L = R.C.length:=⟨_,rfl⟩
 obtain ⟨n,hn⟩:∃ n,n = R.n:=⟨_,rfl⟩
 rw [<- hL] at z0
 rw [<- hn] at z1 hn2
 have HLn:Hid (L = R.C.length /\ n = R.n):=⟨hL,hn⟩
 clear h hs hok hb hrl hL hn
 cases b
 ·go_enter Tryz.func30,Tryz.ntmps30
  go_wp2_with (go_at_call 83;refine (MA.out _).mono ?_;rintro e w9 ⟨rfl,hw9⟩;obtain rfl:=hw9.symm;clear hw9)
  go_ret2
  exact .inr ⟨HNO.out (fun h=>by simp at h),rfl,GA.out⟩
 ·by_cases h1:S < 1
  ·go_enter Tryz.func30,Tryz.ntmps30
   go_wp2_with (go_at_call 83;refine (MA.out _).mono ?_;rintro e w9 ⟨rfl,hw9⟩;obtain rfl:=hw9.symm;clear hw9)
   go_ret2
   exact .inr ⟨HNO.out (fun h=>by omega),rfl,GA.out⟩
  ·by_cases h2:128 < S
   ·go_enter Tryz.func30,Tryz.ntmps30
    go_wp2_with (go_at_call 83;refine (MA.out _).mono ?_;rintro e w9 ⟨rfl,hw9⟩;obtain rfl:=hw9.symm;clear hw9)
    go_ret2
    exact .inr ⟨HNO.out (fun h=>by omega),rfl,GA.out⟩
   ·by_cases h3:f < 0
    ·go_enter Tryz.func30,Tryz.ntmps30
     go_wp2_with (go_at_call 83;refine (MA.out _).mono ?_;rintro e w9 ⟨rfl,hw9⟩;obtain rfl:=hw9.symm;clear hw9)
     go_ret2
     exact .inr ⟨HNO.out (fun h=>by omega),rfl,GA.out⟩
    ·have HF:Hid (0 <= f /\ f < 9223372036854775808 /\ 1 <= S /\ S <= 128):=⟨by omega,hf,by omega,by omega⟩
     have hw1:IntKind.i64.wrap (8 * S) = 8 * S:=IntWalk.i64_in _ (by omega)
     have hw2:IntKind.i64.wrap ((n:Int) - f) = (n:Int) - f:=IntWalk.i64_in _ (by omega)
     by_cases h4:(L:Int) = N
     ·have i4:((L:Int) != N) = false:=by simp [h4]
      by_cases h5:(n:Int) < f
      ·have i5:decide ((n:Int) < f) = true:=decide_eq_true h5
       go_enter Tryz.func30,Tryz.ntmps30
       go_wp2_with (first | (go_at_call 83;refine (MA.out _).mono ?_;rintro e w9 ⟨rfl,hw9⟩;obtain rfl:=hw9.symm;clear hw9) | fail)
       go_quiet (fail)
       go_wp2
       go_ret2
       exact .inr ⟨HNO.out (fun h=>by have:=HLn.out;have:=HF.out;omega),rfl,by first | exact grown_trans GA.out (grown_drewN _ _) | exact GA.out⟩
      ·have i5:decide ((n:Int) < f) = false:=decide_eq_false h5
       by_cases h6:(n:Int) - f < 8 * S
       ·have i6:decide ((n:Int) - f < 8 * S) = true:=decide_eq_true h6
        go_enter Tryz.func30,Tryz.ntmps30
        go_wp2_with (first | (go_at_call 83;refine (MA.out _).mono ?_;rintro e w9 ⟨rfl,hw9⟩;obtain rfl:=hw9.symm;clear hw9) | fail)
        go_quiet (fail)
        go_wp2
        go_ret2
        exact .inr ⟨HNO.out (fun h=>by have:=HLn.out;have:=HF.out;omega),rfl,by first | exact grown_trans GA.out (grown_drewN _ _) | exact GA.out⟩
       ·have i6:decide ((n:Int) - f < 8 * S) = false:=decide_eq_false h6
        go_enter Tryz.func30,Tryz.ntmps30
        go_wp2_with (first | (go_at_call 83;refine (MA.out _).mono ?_;rintro e w9 ⟨rfl,hw9⟩;obtain rfl:=hw9.symm;clear hw9) | fail)
        go_quiet (fail)
        go_wp2
        go_ret2
        refine .inl ⟨HOK.out.2 ⟨by first | rfl | trivial,by omega,by omega,by omega,by have:=HLn.out;omega,by have:=HLn.out;omega⟩,_,rfl,?_,?_,?_⟩
        ·rw [show w.heap.size + 1 = ((w.alloc (.cells #[.int .i64 K,.int .i64 N,.int .i64 S] 39)).drewN nq).heap.size from by simp]
         exact heap_alloc_new _ _
        ·simp
        ·exact gb_alloc (grown_trans GA.out (grown_drewN _ _)) _
     ·have i4:((L:Int) != N) = true:=by simp [h4]
      go_enter Tryz.func30,Tryz.ntmps30
      go_wp2_with (first | (go_at_call 83;refine (MA.out _).mono ?_;rintro e w9 ⟨rfl,hw9⟩;obtain rfl:=hw9.symm;clear hw9) | fail)
      go_quiet (fail)
      go_wp2
      go_ret2
      exact .inr ⟨HNO.out (fun h=>by have:=HLn.out;omega),rfl,by first | exact grown_trans GA.out (grown_drewN _ _) | exact GA.out⟩
theorem rsnew_yes (h:RIs G w r A) (hs:AM.Sim R A) (hg:g.Ok R) :
 Calls Tryz.prog 30 #[rptr r,geoV g,.int .i64 (g.f:Int)] w fun e w'=>∃ t,e = .returned (.tuple #[.pointer (some ⟨t,0,none⟩),.int .i64 0]) /\ RSI G w' t r g R /\ w.heap.size <= t /\ w.grownBy w' none:=by
 have hfn:(g.f:Int) < 9223372036854775808:=by have:=hg.room;have:=hs.ok.n2;omega
 refine (rsnew_any h hs hs.ok hfn).mono ?_
 rintro e w' (⟨_,t,rfl,h1,h2,h3⟩ | ⟨h1,_,_⟩)
 ·refine ⟨t,rfl,⟨⟨A,h.keep h3,hs⟩,h1,fun hf=>?_,hg⟩,h2,h3⟩
  have:=h.lt t hf
  omega
 ·exfalso
  rw [Bool.eq_false_iff] at h1
  have:=hg.k1
  have:=hg.kn
  have:=hg.n255
  have:=hg.s1
  have:=hg.s2
  have:=hg.room
  have:=hg.len
  exact h1 (SP.okNew_iff.2 ⟨⟨by omega,by omega,by omega⟩,by omega,by omega,by omega,by omega,by omega⟩)
end
structure Duo (F G:Nat -> Prop) (w0 w:World) (s a t r:Nat) (g:SP.Geo) (R:AM.Raw):Prop where
 i:SI F w s a g R
 j:RSI G w t r g R
 ap:∀ k,F k -> G k -> False
 bi:∀ k,F k -> w0.heap.size <= k
 bj:∀ k,G k -> w0.heap.size <= k
 ls:w0.heap.size <= s
 lt:w0.heap.size <= t
 nt:¬ F t
 ns:¬ G s
 gr:w0.grownBy w none
section
variable {F G F' G':Nat -> Prop} {w0 w w':World} {s a t r:Nat} {g:SP.Geo} {R R':AM.Raw}
set_option maxHeartbeats 6400000 in
theorem made8_yes (w:World) {k more S f:Nat} (h1:1 <= k) (h2:1 <= more) (h3:k + more <= 255) (h4:1 <= S) (h5:S <= 128) (h6:f + 8 * S <= 4096) :
 Calls Tryz.prog 7 #[.int .i64 (k:Int),.int .i64 (more:Int),.int .i64 (S:Int),.int .i64 (f:Int)] w fun e w'=>∃ s t,e = .returned (.tuple #[ptr s,.pointer (some ⟨t,0,none⟩)]) /\ ∃ F G a r,Duo F G w w' s a t r ⟨k,k + more,S,f⟩ (AM.Raw.new (k + more) (f + 8 * S)):=by
 obtain ⟨N,hN⟩:∃ N,N = k + more:=⟨_,rfl⟩
 obtain ⟨n,hn⟩:∃ n,n = f + 8 * S:=⟨_,rfl⟩
 rw [<- hN,<- hn]
 have hw1:IntKind.i64.wrap ((k:Int) + (more:Int)) = (N:Int):=by
  have e:(k:Int) + (more:Int) = (N:Int):=by omega
  rw [e];exact IntWalk.i64_in _ (by omega)
 have hw2:IntKind.i64.wrap (8 * (S:Int)) = 8 * (S:Int):=IntWalk.i64_in _ (by omega)
 have hw3:IntKind.i64.wrap ((f:Int) + 8 * (S:Int)) = (n:Int):=by
  have e:(f:Int) + 8 * (S:Int) = (n:Int):=by omega
  rw [e];exact IntWalk.i64_in _ (by omega)
 have HG:Hid (∀ R:AM.Raw,R.C.length = N -> R.n = n -> SP.Geo.Ok ⟨k,N,S,f⟩ R):=fun R e1 e2=>⟨h1,by show k < N;omega,by show N <= 255;omega,h4,h5,by show f + 8 * S <= R.n;omega,e1⟩
 have HNN:Hid (1 <= N /\ N <= 255 /\ 1 <= n /\ n <= 4096):=⟨by omega,by omega,by omega,by omega⟩
 have HB:Hid (∀ w',(w.alloc (.cells #[.int .i64 (k:Int),.int .i64 (N:Int),.int .i64 (S:Int)] 39)).grownBy w' none -> w'.cell? ⟨w.heap.size,0,none⟩ = some (.int .i64 (k:Int)) /\ w'.cell? ⟨w.heap.size,1,none⟩ = some (.int .i64 (N:Int)) /\ w'.cell? ⟨w.heap.size,2,none⟩ = some (.int .i64 (S:Int))):=fun w' g1=>by
  have h0:=heap_alloc_new w (.cells #[.int .i64 (k:Int),.int .i64 (N:Int),.int .i64 (S:Int)] 39)
  exact ⟨g1.cell (cell_of_row _ _ 0 _ _ _ h0) (by simp),g1.cell (cell_of_row _ _ 1 _ _ _ h0) (by simp),g1.cell (cell_of_row _ _ 2 _ _ _ h0) (by simp)⟩
 have HR:Hid ((AM.Raw.new N n).C.length = N /\ (AM.Raw.new N n).n = n /\ AM.Sim (AM.Raw.new N n) (AM.RA.new N n)):=⟨by simp [AM.Raw.new],rfl,AM.sim_new (by omega) (by omega) (by omega) (by omega)⟩
 have GA:Hid (w.grownBy (w.alloc (.cells #[.int .i64 (k:Int),.int .i64 (N:Int),.int .i64 (S:Int)] 39)) none):=World.grownBy_alloc w _ none
 clear h1 h2 h3 h4 h5 h6 hN hn
 go_enter Tryz.func7,Tryz.ntmps7
 go_wp2_with (first
  | (go_at_call 27;refine (new_at HNN.out.1 HNN.out.2.1 HNN.out.2.2.1 HNN.out.2.2.2 rfl rfl).mono ?_;rintro e w1 ⟨a,rfl,F,i1,b1⟩;have I1:Hid (Is F w1 a (AM.Raw.new N n)):=i1;have B1:Hid (Base (w.alloc (.cells #[.int .i64 (k:Int),.int .i64 (N:Int),.int .i64 (S:Int)] 39)) F w1):=b1;obtain ⟨b10,b11,b12⟩:=HB.out _ b1.grown;clear i1 b1)
  | fail)
 clear b10 b12
 go_wp2_with (first
  | (go_at_call 28;refine (rnew_at HNN.out.1 HNN.out.2.1 HNN.out.2.2.1 HNN.out.2.2.2 rfl rfl).mono ?_;rintro e w2 ⟨r,rfl,G,j2,b2⟩;have J2:Hid (RIs G w2 r (AM.RA.new N n)):=j2;have B2:Hid (Base w1 G w2):=b2;obtain ⟨b20,b21,b22⟩:=HB.out _ (grown_trans B1.out.grown b2.grown);clear j2 b2)
  | fail)
 have I2:Hid (Is F w2 a (AM.Raw.new N n)):=I1.out.keep B2.out.grown
 have AP:Hid ((∀ i,F i -> G i -> False) /\ (∀ i,F i -> w.heap.size <= i) /\ (∀ i,G i -> w.heap.size <= i) /\ (∀ i,F i -> i < w1.heap.size) /\ (∀ i,G i -> i < w2.heap.size)):=by
  have s0:=GA.out.size
  have s1:=B1.out.grown.size
  have s2:=B2.out.grown.size
  refine ⟨fun i hf hg=>?_,fun i hf=>?_,fun i hg=>?_,fun i hf=>I1.out.lt i hf,fun i hg=>J2.out.lt i hg⟩
  ·have:=I1.out.lt i hf;have:=B2.out.lo i hg;omega
  ·have:=B1.out.lo i hf;omega
  ·have:=B2.out.lo i hg;omega
 have G2:Hid (w.grownBy w2 none):=grown_trans GA.out (grown_trans B1.out.grown B2.out.grown)
 have SN:Hid (Calls Tryz.prog 29 #[ptr a,.agg #[.int .i64 (k:Int),.int .i64 (N:Int),.int .i64 (S:Int)],.int .i64 (f:Int)] w2 fun e w'=>∃ s,e = .returned (.tuple #[ptr s,.int .i64 0]) /\ SI F w' s a ⟨k,N,S,f⟩ (AM.Raw.new N n) /\ w2.heap.size <= s /\ w2.grownBy w' none):=snew_yes I2.out (HG.out _ HR.out.1 HR.out.2.1)
 have HB2:Hid (∀ w',w2.grownBy w' none -> w'.cell? ⟨w.heap.size,0,none⟩ = some (.int .i64 (k:Int)) /\ w'.cell? ⟨w.heap.size,1,none⟩ = some (.int .i64 (N:Int)) /\ w'.cell? ⟨w.heap.size,2,none⟩ = some (.int .i64 (S:Int))):=fun w' g1=>HB.out _ (grown_trans (grown_trans B1.out.grown B2.out.grown) g1)
 have SZ:Hid (w1.heap.size <= w2.heap.size):=B2.out.grown.size
 clear I1 B1 B2 b11 HB
 go_wp2_with (first
  | (go_at_call 29;refine SN.out.mono ?_;rintro e w3 ⟨s,rfl,i3,l3,g3⟩;have I3:Hid (SI F w3 s a ⟨k,N,S,f⟩ (AM.Raw.new N n) /\ w2.heap.size <= s):=⟨i3,l3⟩;have G3:Hid (w2.grownBy w3 none):=g3;obtain ⟨b30,b31,b32⟩:=HB2.out _ g3;clear i3 l3 g3)
  | fail)
 have RN:Hid (Calls Tryz.prog 30 #[rptr r,.agg #[.int .i64 (k:Int),.int .i64 (N:Int),.int .i64 (S:Int)],.int .i64 (f:Int)] w3 fun e w'=>∃ t,e = .returned (.tuple #[.pointer (some ⟨t,0,none⟩),.int .i64 0]) /\ RSI G w' t r ⟨k,N,S,f⟩ (AM.Raw.new N n) /\ w3.heap.size <= t /\ w3.grownBy w' none):=rsnew_yes (J2.out.keep G3.out) HR.out.2.2 (HG.out _ HR.out.1 HR.out.2.1)
 clear SN J2 I2 HB2
 go_wp2_with (go_at_call 30;refine RN.out.mono ?_;rintro e w4 ⟨t,rfl,j4,l4,g4⟩;have J4:Hid (RSI G w4 t r ⟨k,N,S,f⟩ (AM.Raw.new N n) /\ w3.heap.size <= t):=⟨j4,l4⟩;have G4:Hid (w3.grownBy w4 none):=g4;clear j4 l4 g4)
 go_ret2
 have s0:=G2.out.size
 have s1:=SZ.out
 have s3:=G3.out.size
 have s4:=J4.out.2
 have s5:=I3.out.2
 exact ⟨_,_,rfl,F,G,a,r,I3.out.1.keep G4.out,J4.out.1,AP.out.1,AP.out.2.1,AP.out.2.2.1,by omega,by omega,fun hf=>by have:=AP.out.2.2.2.1 _ hf;omega,fun hg=>by have:=AP.out.2.2.2.2 _ hg;omega,grown_trans G2.out (grown_trans G3.out G4.out)⟩
end
def dat8 (x i:Nat):Nat:=(x + i % 251 + i / 448) % 256
def datL (k x:Nat):List Nat:=(List.range (k * 448)).map (dat8 x)
theorem datL_len (k x:Nat):(datL k x).length = k * 448:=by simp [datL]
theorem datL_small (k x:Nat):∀ y ∈ datL k x,y < 256:=fun y hy=>by
 unfold datL at hy
 obtain ⟨i,_,rfl⟩:=List.mem_map.1 hy
 unfold dat8
 omega
def datTo (k x j:Nat):List Nat:=(List.range (k * 448)).map fun i=>if i < j then dat8 x i else 0
theorem datTo_zero (k x:Nat):datTo k x 0 = List.replicate (k * 448) 0:=by
 apply List.ext_getElem
 ·simp [datTo]
 ·intro i h1 h2
  simp [datTo]
theorem datTo_all (k x:Nat):datTo k x (k * 448) = datL k x:=by
 unfold datTo datL
 apply List.map_congr_left
 intro i hi
 rw [if_pos (List.mem_range.1 hi)]
theorem datTo_succ (k x:Nat) {j:Nat} (h:j < k * 448):(datTo k x j).set j (dat8 x j) = datTo k x (j + 1):=by
 apply List.ext_getElem
 ·simp [datTo]
 ·intro i h1 h2
  simp only [datTo,List.getElem_set,List.getElem_map,List.getElem_range]
  by_cases c:j = i
  ·subst c;simp
  ·rw [if_neg c]
   by_cases c2:i < j
   ·rw [if_pos c2,if_pos (by omega)]
   ·rw [if_neg c2,if_neg (by omega)]
set_option maxHeartbeats 3200000 in
theorem data_yes (w:World) {k x:Nat} (hk:1 <= k) (hk2:k <= 255) (hx:x < 256) :
 Calls Tryz.prog 12 #[.int .i64 (k:Int),.int .u8 (x:Int)] w fun e w'=>∃ p n c,e = .returned (.slice p n c) /\ Own w.heap.size w' (.slice p n c) (datL k x) /\ w.grownBy w' none:=by
 obtain ⟨n,hn⟩:∃ n,n = k * 448:=⟨_,rfl⟩
 have hw:IntKind.i64.wrap ((k:Int) * 448) = (n:Int):=by
  have e:(k:Int) * 448 = (n:Int):=by omega
  rw [e]
  exact IntWalk.i64_in _ (by omega)
 have hnl:n <= 200000:=by omega
 have HN:Hid (n = k * 448 /\ k <= 255):=⟨hn,hk2⟩
 clear hn hk hk2
 go_enter Tryz.func12,Tryz.ntmps12
 go_wp2_with (at_make;refine wpList_make_vec rfl _ _ rfl n rfl rfl (by omega) ?_;intro w1 p o1 g1;have O1:Hid (Own w.heap.size w1 (.slice p n n) (List.replicate n 0)):=o1;have G1:Hid (w.grownBy w1 none):=g1;clear o1 g1)
 clear hw
 go_loopw [12] (fun ti wr=>∃ j:Nat,j <= n /\ ti = .int .i64 j /\ Hid (Own w.heap.size wr (.slice p n n) (datTo k x j)) /\ Hid (w.grownBy wr none)) (fun ti _=>n - (intOf ti).toNat)
 case atStart=>exact ⟨0,by omega,rfl,by rw [datTo_zero,<- HN.out.1];exact O1.out,G1⟩
 case round =>
  clear O1 G1
  obtain ⟨j,hj,rfl,OK,GK⟩:=hrel
  by_cases hlt:j < n
  ·have i3:(j:Int) < (n:Int):=by omega
   have i4:(0:Int) <= (j:Int):=by omega
   have hlo:=OK.out.lo
   obtain ⟨b,hpb,_,hr,hf,hb,hset,hgr⟩:=OK.out.spot (k:=j) (by have:=HN.out;simp [datTo];omega)
   subst hpb
   have HLO:Hid (w.heap.size <= b):=hlo b rfl
   have HS:Hid (∀ z:Nat,z < 256 -> Own w.heap.size (wr.setCell ⟨b,j,none⟩ (.int .u8 (z:Int))) (.slice (some ⟨b,0,none⟩) n n) ((datTo k x j).set j z)):=hset
   have HG:Hid (∀ u,wr.grownBy (wr.setCell ⟨b,j,none⟩ u) (some b)):=hgr
   clear hlo hset hgr hb OK
   go_wp2
   have HV:((x:Int) + (j:Int) % 251 + (j:Int) / 448) % 256 = ((dat8 x j:Nat):Int):=by unfold dat8;omega
   rw [HV]
   go_roundw
   case rel=>exact ⟨j + 1,by omega,by go_num,(by
    have h1:=HS.out (dat8 x j) (by unfold dat8;omega)
    rw [datTo_succ k x (by have:=HN.out;omega)] at h1
    exact h1),grown_new GK.out (HG.out _) (fun i e=>by have:=Option.some.inj e;have:=HLO.out;omega)⟩
   case measure=>simp [intOf];omega
  ·have i3:¬ (j:Int) < (n:Int):=by omega
   have hjn:Hid (j = k * 448):=by show _ = _;have:=HN.out;omega
   go_wp2
   go_ret
   exact ⟨_,_,_,rfl,by rw [<- datTo_all,<- hjn.out];exact OK.out,GK.out⟩
end Go.Proofs.YtaalagkbpeinkaaGreat
