/- Packed: Run9, PL9, Bits9, PW9, Wak9. -/
import Derived.Test.YtaalagkbpeinkaaGreatMt18
set_option linter.unusedSimpArgs false
set_option linter.unusedVariables false
set_option maxRecDepth 100000
namespace Go.Proofs.YtaalagkbpeinkaaGreat
open Go.RowKit
structure Iaw (F:Nat -> Prop) (w:World) (v:Value) (l:List Int):Prop where
 vec:IVec w v l
 off:l ≠ [] -> ∀ b,v.ownBlock = some b -> ¬ F b
theorem IVec.place {w:World} {v:Value} {l:List Int} (h:IVec w v l) (hne:l ≠ []):∃ b,v.ownBlock = some b /\ b < w.heap.size:=by
 obtain ⟨p,cap,e,h1,h2,h3⟩:=h.form
 obtain ⟨b,off,e2,h4⟩:=h3 hne
 refine ⟨b,by rw [e,e2];rfl,?_⟩
 have h6:=h4 0 (by cases l with
  | nil=>exact absurd rfl hne
  | cons x l=>simp)
 exact World.block_lt_of_cell? w _ h6
theorem Iaw.step {F F':Nat -> Prop} {w w':World} {v:Value} {l:List Int} (h:Iaw F w v l) (s:Step F w F' w'):Iaw F' w' v l:=by
 refine ⟨⟨h.vec.len,?_⟩,fun hne b hb hf=>?_⟩
 ·obtain ⟨p,cap,e,h1,h2,h3⟩:=h.vec.form
  refine ⟨p,cap,e,h1,h2,fun hne=>?_⟩
  obtain ⟨b,off,e2,h4⟩:=h3 hne
  exact ⟨b,off,e2,fun j hj=>s.upd.cell (h4 j hj) (h.off hne b (by rw [e,e2];rfl))⟩
 ·rcases s.sub b hf with h1 | h1
  ·exact h.off hne b hb h1
  ·obtain ⟨b',hb',hlt⟩:=h.vec.place hne
   rw [hb] at hb'
   obtain rfl:=Option.some.inj hb'
   omega
theorem IOwn.aw {F:Nat -> Prop} {w w':World} {v:Value} {l:List Int} (h:IOwn w.heap.size w' v l) (hF:∀ i,F i -> i < w.heap.size):Iaw F w' v l :=
 ⟨h.ivec,fun _ b hb hf=>by have h1:=(h.row.lt b hb).1;have h2:=hF b hf;omega⟩
def Run (w0 w:World) (s a:Nat) (g:SP.Geo) (R:AM.Raw) (vs:List (Value × List Nat)) (ns:List (Value × List Int)):Prop :=
 ∃ F,SI F w s a g R /\ Base w0 F w /\ (∀ p ∈ vs,Aw F w p.1 p.2) /\ (∀ p ∈ ns,Iaw F w p.1 p.2)
section
variable {w0 w w':World} {s a:Nat} {g:SP.Geo} {R R':AM.Raw} {vs:List (Value × List Nat)} {ns:List (Value × List Int)}
theorem Run.step {F F':Nat -> Prop} (i':SI F' w' s a g R') (st:Step F w F' w') (b:Base w0 F w) (hv:∀ p ∈ vs,Aw F w p.1 p.2) (hn:∀ p ∈ ns,Iaw F w p.1 p.2):Run w0 w' s a g R' vs ns :=
 ⟨F',i',b.step st,fun p hp=>(hv p hp).step st,fun p hp=>(hn p hp).step st⟩
theorem Run.keep (h:Run w0 w s a g R vs ns) (gr:w.grownBy w' none):Run w0 w' s a g R vs ns:=by
 obtain ⟨F,i,b,hv,hn⟩:=h
 exact Run.step (i.keep gr) (Step.new gr) b hv hn
theorem Run.grown (h:Run w0 w s a g R vs ns):w0.grownBy w none:=by
 obtain ⟨F,i,b,_⟩:=h
 exact b.grown
theorem Run.raw (h:Run w0 w s a g R vs ns):R.Ok:=by
 obtain ⟨F,i,b,_⟩:=h
 exact i.i.ok
theorem Run.addV (h:Run w0 w s a g R vs ns) {v:Value} {xs:List Nat} (o:Own w.heap.size w' v xs) (gr:w.grownBy w' none):Run w0 w' s a g R ((v,xs) :: vs) ns:=by
 obtain ⟨F,i,b,hv,hn⟩:=h
 refine ⟨F,i.keep gr,b.keep gr,fun p hp=>?_,fun p hp=>(hn p hp).step (Step.new gr)⟩
 rcases List.mem_cons.1 hp with rfl | hp
 ·exact o.aw i.i.lt
 ·exact (hv p hp).keep gr
theorem Run.addN (h:Run w0 w s a g R vs ns) {v:Value} {l:List Int} (o:IOwn w.heap.size w' v l) (gr:w.grownBy w' none):Run w0 w' s a g R vs ((v,l) :: ns):=by
 obtain ⟨F,i,b,hv,hn⟩:=h
 refine ⟨F,i.keep gr,b.keep gr,fun p hp=>(hv p hp).keep gr,fun p hp=>?_⟩
 rcases List.mem_cons.1 hp with rfl | hp
 ·exact o.aw i.i.lt
 ·exact (hn p hp).step (Step.new gr)
theorem Run.vec (h:Run w0 w s a g R vs ns) {v:Value} {xs:List Nat} (hm:(v,xs) ∈ vs):Vec w v xs:=by
 obtain ⟨F,i,b,hv,hn⟩:=h
 exact (hv _ hm).vec
theorem Run.nums (h:Run w0 w s a g R vs ns) {v:Value} {l:List Int} (hm:(v,l) ∈ ns):IVec w v l:=by
 obtain ⟨F,i,b,hv,hn⟩:=h
 exact (hn _ hm).vec
theorem Duo.run {F G:Nat -> Prop} {t r:Nat} (h:Duo F G w0 w s a t r g R):Run w0 w s a g R [] []:=⟨F,h.i,⟨h.gr,h.bi⟩,by simp,by simp⟩
theorem Run.arr (h:Run w0 w s a g R vs ns):Calls Tryz.prog 11 #[ptr s] w fun e w'=>e = .returned (ptr a) /\ w' = w:=by
 obtain ⟨F,i,_⟩:=h
 exact sarray_yes i
theorem si_lose {F:Nat -> Prop} (h:SI F w s a g R) (hL:R.L.length <= 1000000) (d:Int):Calls Tryz.prog 16 #[ptr a,.int .i64 d] w fun e w'=>e = .returned (.int .i64 ((R.lose d).1:Int)) /\ ∃ F',SI F' w' s a g (R.lose d).2 /\ Step F w F' w':=by
 refine (lose_at h.i hL rfl rfl).mono ?_
 rintro e w' ⟨rfl,F',i,st⟩
 exact ⟨rfl,F',h.step i st (SP.lose_geo h.ok d),st⟩
theorem replace_kept9 (h:g.Ok R) (d:Int):g.Ok (R.replace d).2:=by
 have hn:(R.replace d).2.n = R.n /\ (R.replace d).2.C.length = R.C.length:=by
  unfold AM.Raw.replace
  split
  ·exact ⟨rfl,rfl⟩
  ·split
   ·exact ⟨rfl,rfl⟩
   ·exact ⟨rfl,by simp [AM.Raw.blank]⟩
 exact ⟨h.k1,h.kn,h.n255,h.s1,h.s2,by rw [hn.1];exact h.room,by rw [hn.2];exact h.len⟩
theorem Run.lose (h:Run w0 w s a g R vs ns) {d:Int} {c:Nat} (hL:R.L.length <= 1000000) (hc:R.lose d = (c,R')):Calls Tryz.prog 16 #[ptr a,.int .i64 d] w fun e w'=>e = .returned (.int .i64 (c:Int)) /\ Run w0 w' s a g R' vs ns:=by
 obtain ⟨F,i,b,hv,hn⟩:=h
 refine (si_lose i hL d).mono ?_
 rw [hc]
 rintro e w' ⟨rfl,F',i',st⟩
 exact ⟨rfl,Run.step i' st b hv hn⟩
theorem Run.replace (h:Run w0 w s a g R vs ns) {d:Int} {c:Nat} (hc:R.replace d = (c,R')):Calls Tryz.prog 17 #[ptr a,.int .i64 d] w fun e w'=>e = .returned (.int .i64 (c:Int)) /\ Run w0 w' s a g R' vs ns:=by
 obtain ⟨F,i,b,hv,hn⟩:=h
 have hg:=replace_kept9 i.ok d
 rw [hc] at hg
 refine (replace_at i.i rfl rfl).mono ?_
 rw [hc]
 rintro e w' ⟨rfl,F',i',st⟩
 exact ⟨rfl,Run.step (i.step i' st hg) st b hv hn⟩
theorem Run.barrier (h:Run w0 w s a g R vs ns) {c:Nat} (hc:R.barrier = (c,R')):Calls Tryz.prog 14 #[ptr a] w fun e w'=>e = .returned (.int .i64 (c:Int)) /\ Run w0 w' s a g R' vs ns:=by
 obtain ⟨F,i,b,hv,hn⟩:=h
 have hk:=(SP.barrier_kept R).1
 rw [hc] at hk
 refine (barrier_at i.i rfl rfl).mono ?_
 rw [hc]
 rintro e w' ⟨rfl,F',i',st⟩
 exact ⟨rfl,Run.step (i.step i' st (i.ok.kept hk)) st b hv hn⟩
theorem Run.fuse (h:Run w0 w s a g R vs ns) {n:Int} (hn':n < 9223372036854775808):Calls Tryz.prog 23 #[ptr a,.int .i64 n] w fun e w'=>e = .returned (.tuple #[]) /\ Run w0 w' s a g (R.fused n) vs ns:=by
 obtain ⟨F,i,b,hv,hn⟩:=h
 refine (fuse_at i.i hn' rfl).mono ?_
 rintro e w' ⟨rfl,F',i',st⟩
 exact ⟨rfl,Run.step (i.step i' st ⟨i.ok.k1,i.ok.kn,i.ok.n255,i.ok.s1,i.ok.s2,i.ok.room,i.ok.len⟩) st b hv hn⟩
theorem Run.crash (h:Run w0 w s a g R vs ns) (hL:R.L.length <= 1000000) {v:Value} {ps:List Nat} (hp:Vec w0 v ps):Calls Tryz.prog 25 #[ptr a,v] w fun e w'=>e = .returned (.tuple #[]) /\ Run w0 w' s a g (R.crash ps) vs ns:=by
 obtain ⟨F,i,b,hv,hn⟩:=h
 refine (crash_at i.i hL (b.aw hp) rfl).mono ?_
 rintro e w' ⟨rfl,F',i',st⟩
 exact ⟨rfl,Run.step (i.step i' st (i.ok.kept (SP.crash_kept R ps).1)) st b hv hn⟩
theorem Run.off (h:Run w0 w s a g R vs ns) {b:Bool} (hb:R.off = b):Calls Tryz.prog 24 #[ptr a] w fun e w'=>e = .returned (.bool b) /\ w' = w:=by
 obtain ⟨F,i,_⟩:=h
 rw [<- hb]
 exact off_yes i.i
theorem Run.write (h:Run w0 w s a g R vs ns) (hL:R.L.length <= 990000) {slot:Int} {m c:Nat} {v:Value} {xs:List Nat} (hm:(v,xs) ∈ vs) (hc:SP.write R g slot m xs = (c,R')):Calls Tryz.prog 13 #[ptr s,.int .i64 slot,.int .u64 (m:Int),v] w fun e w'=>e = .returned (.int .i64 (c:Int)) /\ Run w0 w' s a g R' vs ns:=by
 obtain ⟨F,i,b,hv,hn⟩:=h
 refine (swrite_all i slot m (hv _ hm) hL).mono ?_
 rw [hc]
 rintro e w' ⟨rfl,F',i',st⟩
 exact ⟨rfl,Run.step i' st b hv hn⟩
theorem Run.read (h:Run w0 w s a g R vs ns) {slot:Int} {m er:Nat} {out:List Nat} (hr:∀ out' er',SP.RdP R g slot m out' er' -> out' = out /\ er' = er):Calls Tryz.prog 22 #[ptr s,.int .i64 slot,.int .u64 (m:Int)] w fun e w'=>∃ p n c,e = .returned (.tuple #[.slice p n c,.int .i64 (er:Int)]) /\ Run w0 w' s a g R ((.slice p n c,out) :: vs) ns:=by
 obtain ⟨F,i,b,hv,hn⟩:=h
 refine (sread_all i slot m).mono ?_
 rintro e w' ⟨v,er',out',rfl,h1,h2,h3⟩
 obtain ⟨rfl,rfl⟩:=hr _ _ h1
 obtain ⟨p,n,c,rfl,_⟩:=h2.vec.opened
 have H:Run w0 w s a g R vs ns:=⟨F,i,b,hv,hn⟩
 exact ⟨p,n,c,rfl,H.addV h2 h3⟩
theorem Run.missing (h:Run w0 w s a g R vs ns) {slot:Int} {m er:Nat} {l:List Nat} (he:SP.askE R g slot m = er) (hl:SP.missL R g slot m = l):Calls Tryz.prog 18 #[ptr s,.int .i64 slot,.int .u64 (m:Int)] w fun e w'=>∃ p c,e = .returned (.tuple #[.slice p l.length c,.int .i64 (er:Int)]) /\ Run w0 w' s a g R vs ((.slice p l.length c,SP.ints l) :: ns):=by
 obtain ⟨F,i,b,hv,hn⟩:=h
 refine (mmiss_all i slot m).mono ?_
 rw [he,hl]
 rintro e w' ⟨v,rfl,h2,h3⟩
 obtain ⟨p,n,c,rfl,hq⟩:=h2.ivec.opened
 rw [SP.ints_len] at hq
 subst hq
 have H:Run w0 w s a g R vs ns:=⟨F,i,b,hv,hn⟩
 exact ⟨p,c,rfl,H.addN h2 h3⟩
theorem Run.margin (h:Run w0 w s a g R vs ns) {slot n:Int} {m er:Nat} (he:SP.askE R g slot m = er) (hl:SP.marg R g slot m = n):Calls Tryz.prog 19 #[ptr s,.int .i64 slot,.int .u64 (m:Int)] w fun e w'=>e = .returned (.tuple #[.int .i64 n,.int .i64 (er:Int)]) /\ Run w0 w' s a g R vs ns:=by
 obtain ⟨F,i,b,hv,hn⟩:=h
 refine (mmarg_all i slot m).mono ?_
 rw [he,hl]
 rintro e w' ⟨rfl,h3⟩
 have H:Run w0 w s a g R vs ns:=⟨F,i,b,hv,hn⟩
 exact ⟨rfl,H.keep h3⟩
theorem Run.slot (h:Run w0 w s a g R vs ns) (hL:R.L.length <= 980000) {slot:Int} {m er c n:Nat} {out:List Nat} (hr:∀ out' er',SP.RdP R g slot m out' er' -> out' = out /\ er' = er) (hc:SP.slotM R g slot m out er = (c,R')) (hn':SP.slotN R g slot m out er = n):Calls Tryz.prog 21 #[ptr s,.int .i64 slot,.int .u64 (m:Int)] w fun e w'=>e = .returned (.tuple #[.int .i64 (n:Int),.int .i64 (c:Int)]) /\ Run w0 w' s a g R' vs ns:=by
 obtain ⟨F,i,b,hv,hn⟩:=h
 refine (mslot_all i slot m hL).mono ?_
 rintro e w' ⟨out',er',h1,rfl,F',i',st⟩
 obtain ⟨rfl,rfl⟩:=hr _ _ h1
 rw [hc] at i' ⊢
 rw [hn']
 exact ⟨rfl,Run.step i' st b hv hn⟩
theorem Run.all (h:Run w0 w s a g R vs ns) (gr:w.grownBy w' none) (hL:R.L.length + 8 * g.n * g.s <= 980000) {v:Value} {st:List Nat} (hv:Cells w' v (us9 st)) (hb:∀ b,v.ownBlock = some b -> w.heap.size <= b) {n er:Nat} (ha:∀ n' er' R1,SP.allP (fun R=>SP.RdP R g) R g st n' er' R1 -> n' = n /\ er' = er /\ R1 = R') :
 Calls Tryz.prog 26 #[ptr s,v] w' fun e w''=>e = .returned (.tuple #[.int .i64 (n:Int),.int .i64 (er:Int)]) /\ Run w0 w'' s a g R' vs ns:=by
 obtain ⟨F,i,b,hv',hn'⟩:=h
 refine (mall_all (i.keep gr) hv (fun k hk hf=>by have h1:=hb k hk;have h2:=i.i.lt k hf;omega) hL).mono ?_
 rintro e w'' ⟨n',er',R1,rfl,h1,F',i',st'⟩
 obtain ⟨rfl,rfl,rfl⟩:=ha _ _ _ h1
 exact ⟨rfl,Run.step i' ((Step.new gr).trans st') b hv' hn'⟩
end
theorem us9_lit1 (w:World) (x:Nat):Cells (w.alloc (.cells #[.int .u64 (x:Int)] 30)) (.slice (some ⟨w.heap.size,0,none⟩) 1 1) (us9 [x]) :=
 ⟨by simp [us9],some ⟨w.heap.size,0,none⟩,1,by simp [us9],by simp [us9],by decide,fun _=>⟨w.heap.size,0,rfl,fun j hj=>by
   obtain rfl:j = 0:=by simp [us9] at hj;omega
   exact (cell_of_row _ _ 0 _ _ _ (heap_alloc_new w _)).trans rfl⟩⟩
end Go.Proofs.YtaalagkbpeinkaaGreat
namespace Go.Proofs.YtaalagkbpeinkaaGreat
def bitZ (L j:Nat):Int:=bits BinOp.and IntKind.u16 ((L:Int) / 2 ^ min j 16) 1
def bitsTo (L most:Nat):Nat -> List Nat
 | 0=>[]
 | j + 1=>if bitZ L j = 1 /\ (bitsTo L most j).length < most then bitsTo L most j ++ [j] else bitsTo L most j
theorem bitsTo_len (L most:Nat):∀ j,(bitsTo L most j).length <= most
 | 0=>by simp [bitsTo]
 | j + 1=>by
   have:=bitsTo_len L most j
   unfold bitsTo
   split
   ·simp;omega
   ·exact this
def bitSel (L most d:Nat):Bool:=decide (bitZ L d = 1 /\ (bitsTo L most d).length < most)
theorem bitsTo_filter (L most:Nat):∀ j,bitsTo L most j = (List.range j).filter (bitSel L most)
 | 0=>rfl
 | j + 1=>by
   rw [List.range_succ,List.filter_append,<- bitsTo_filter L most j]
   conv=>lhs;unfold bitsTo
   by_cases h:bitZ L j = 1 /\ (bitsTo L most j).length < most
   ·rw [if_pos h];simp [bitSel,h]
   ·rw [if_neg h];simp [bitSel,h]
theorem bitsTo_lt {L most n x:Nat} (h:x ∈ bitsTo L most n):x < n:=by
 rw [bitsTo_filter] at h
 exact List.mem_range.1 (List.mem_filter.1 h).1
theorem bitsTo_pair (L most n:Nat):(bitsTo L most n).Pairwise (· < ·):=by
 rw [bitsTo_filter]
 exact List.Pairwise.filter _ List.pairwise_lt_range
theorem bitsTo_self (L most n:Nat):(List.range n).filter (fun d=>decide (d ∈ bitsTo L most n)) = bitsTo L most n:=by
 conv=>rhs;rw [bitsTo_filter]
 refine List.filter_congr fun d hd=>?_
 have hm:d ∈ bitsTo L most n ↔ bitSel L most d = true:=by
  rw [bitsTo_filter,List.mem_filter]
  exact ⟨fun h=>h.2,fun h=>⟨hd,h⟩⟩
 by_cases c:bitSel L most d = true
 ·rw [c];exact decide_eq_true (hm.2 c)
 ·rw [Bool.eq_false_iff.2 c];exact decide_eq_false (fun h=>c (hm.1 h))
theorem bitsTo_new {L most n j:Nat} (hj:j < (bitsTo L most n).length):(bitsTo L most n).getD j 0 < n /\ (bitsTo L most n).getD j 0 ∉ (bitsTo L most n).take j:=by
 have e:(bitsTo L most n).getD j 0 = (bitsTo L most n)[j]:=by simp [List.getD,hj]
 rw [e]
 refine ⟨bitsTo_lt (List.getElem_mem hj),fun hm=>?_⟩
 obtain ⟨i,hi,he⟩:=List.mem_iff_getElem.1 hm
 rw [List.length_take] at hi
 rw [List.getElem_take] at he
 have:=List.pairwise_iff_getElem.1 (bitsTo_pair L most n) i j (by omega) hj (by omega)
 omega
theorem take_more (l:List Nat) {j:Nat} (hj:j < l.length):l.take (j + 1) = l.take j ++ [l.getD j 0]:=by
 rw [List.take_succ_eq_append_getElem hj]
 simp [List.getD,hj]
def gM9 (k m:Nat):SP.Geo:=⟨k,k + m,1,0⟩
namespace SP
theorem calm7 {k m:Nat} {xs:List Nat} (h1:1 <= k) (h2:k <= 5) (h3:1 <= m) (h4:m <= 4) (hx:∀ x ∈ xs,x < 256) (hl:xs.length = k * 448) :
 ∃ R1 R2,write (AM.Raw.new (k + m) (0 + 8 * 1)) (gM9 k m) ((0:Nat):Int) 7 xs = (0,R1) /\ R1.barrier = (0,R2) /\ R2.L = [] /\ Gaps R2 (gM9 k m) 0 7 xs []:=by
 have hg:Geo.Ok (gM9 k m) (AM.Raw.new (k + m) (0 + 8 * 1)):=new_geo (n:=0 + 8 * 1) rfl h1 (by omega) (by omega) (by omega) (by omega)
 have h0:=new_ok (N:=k + m) (n:=0 + 8 * 1) (by omega) (by omega) (by omega) (by omega)
 have hons:=new_ons (N:=k + m) (n:=0 + 8 * 1) hg rfl (by omega) (by omega) (by omega) (by omega)
 have hon:∀ d:Nat,d < k + m -> (AM.Raw.new (k + m) (0 + 8 * 1)).on (d:Int) = true:=fun d hd=>by rw [h0.2];exact decide_eq_true hd
 obtain ⟨a1,a2,a3,a4,a5⟩:=write_sure h0.1 hg (slot:=0) (m:=7) (by show 0 < 1;omega) rfl rfl (by decide) hx hl (by rw [hons];show k <= k + m;omega)
 have hk:=write_kept (AM.Raw.new (k + m) (0 + 8 * 1)) (gM9 k m) ((0:Nat):Int) 7 xs
 generalize hW:write (AM.Raw.new (k + m) (0 + 8 * 1)) (gM9 k m) ((0:Nat):Int) 7 xs = W at *
 obtain ⟨c,R1⟩:=W
 simp only at a1 a2 a3 a4 a5 hk
 subst a1
 have hb:R1.barrier = (0,{ R1.burnt with L:=[] }):=by
  unfold AM.Raw.barrier
  rw [a3]
  simp [AM.Raw.burns,a4]
 have hbu:R1.burnt = R1:=by unfold AM.Raw.burnt;rw [if_pos a4]
 rw [hbu] at hb
 exact ⟨R1,{ R1 with L:=[] },rfl,hb,rfl,hg.kept ⟨hk.len,hk.n,hk.on⟩,a3,a4,fun d hd=>(hk.on d).trans (hon d hd),fun d hd _=>a2 d hd ((hk.on d).trans (hon d hd)),by simp⟩
theorem Gaps.told {R:AM.Raw} {k m L most:Nat} {xs:List Nat} (h:Gaps R (gM9 k m) 0 7 xs (bitsTo L most (k + m))):missL R (gM9 k m) ((0:Nat):Int) 7 = bitsTo L most (k + m) /\ marg R (gM9 k m) ((0:Nat):Int) 7 = (m:Int) - ((bitsTo L most (k + m)).length:Int) /\ askE R (gM9 k m) ((0:Nat):Int) 7 = 0 /\ SP.wants R (gM9 k m) 0 7 (k + m) = bitsTo L most (k + m) /\ (SP.hits R (gM9 k m) 0 7 (k + m)).length + (bitsTo L most (k + m)).length = k + m:=by
 have hs:0 < (gM9 k m).s:=by show 0 < 1;omega
 have hw:SP.wants R (gM9 k m) 0 7 (k + m) = bitsTo L most (k + m):=by
  have:=h.wants (by decide) (by decide)
  rw [show (gM9 k m).n = k + m from rfl,bitsTo_self] at this
  exact this
 have hc:=count_all (R:=R) (g:=gM9 k m) (slot:=0) (m:=7) (k + m) h.on
 rw [hw] at hc
 refine ⟨by rw [missL_at h.off hs (by decide)];exact hw,?_,askE_at h.off hs (by decide),hw,by omega⟩
 rw [marg_at h.off hs (by decide)]
 show ((SP.hits R (gM9 k m) 0 7 (k + m)).length:Int) - (k:Int) = _
 omega
theorem Wrote.told {R:AM.Raw} {k m:Nat} {xs:List Nat} (h:Wrote R (gM9 k m) 0 7 xs) (h0:R.off = false) (hon:∀ d,d < k + m -> R.on (d:Int) = true):missL R (gM9 k m) ((0:Nat):Int) 7 = [] /\ marg R (gM9 k m) ((0:Nat):Int) 7 = (m:Int) /\ askE R (gM9 k m) ((0:Nat):Int) 7 = 0:=by
 have hs:0 < (gM9 k m).s:=by show 0 < 1;omega
 have hw:=h.none (by decide) (by decide)
 have hc:=count_all (R:=R) (g:=gM9 k m) (slot:=0) (m:=7) (k + m) hon
 rw [show SP.wants R (gM9 k m) 0 7 (k + m) = [] from hw] at hc
 simp at hc
 refine ⟨by rw [missL_at h0 hs (by decide)];exact hw,?_,askE_at h0 hs (by decide)⟩
 rw [marg_at h0 hs (by decide)]
 show ((SP.hits R (gM9 k m) 0 7 (k + m)).length:Int) - (k:Int) = _
 omega
end SP
open Go.RowKit
set_option maxHeartbeats 1600000 in
theorem bits_yes (w:World) {L n most:Nat} (hn:n <= 255) (hm:most <= 255):Calls Tryz.prog 15 #[.int .u16 (L:Int),.int .i64 (n:Int),.int .i64 (most:Int)] w fun e w'=>∃ p c,e = .returned (.slice p (bitsTo L most n).length c) /\ IOwn w.heap.size w' (.slice p (bitsTo L most n).length c) (SP.ints (bitsTo L most n)) /\ w.grownBy w' none:=by
 go_enter Tryz.func15,Tryz.ntmps15
 go_wp2_with fail
 go_loopw [7,8] (fun tl ti wr=>∃ j:Nat,j <= n /\ ti = .int .i64 (j:Int) /\ Hid (IOwn w.heap.size wr tl (SP.ints (bitsTo L most j))) /\ Hid (w.grownBy wr none)) (fun _ ti _=>n - (intOf ti).toNat)
 case atStart=>exact ⟨0,by omega,rfl,IOwn.nil _ _,World.grownBy.refl _ _⟩
 case round =>
  obtain ⟨j,hj,rfl,OK,GK⟩:=hrel
  obtain ⟨ap,an,ac,e8,ha⟩:=OK.out.ivec.opened
  subst e8
  rw [SP.ints_len] at ha
  have HA:Hid (an = (bitsTo L most j).length):=ha
  have HE:Hid (bitsTo L most (j + 1) = if bitZ L j = 1 /\ (bitsTo L most j).length < most then bitsTo L most j ++ [j] else bitsTo L most j):=rfl
  clear ha
  by_cases hlt:j < n
  ·have i3:(j:Int) < (n:Int):=by omega
   obtain ⟨B,hB⟩:∃ B,bits BinOp.and IntKind.u16 ((L:Int) / 2 ^ min j 16) 1 = B:=⟨_,rfl⟩
   have HB:Hid (bitZ L j = B):=hB
   by_cases h1:B = 1
   ·subst h1
    by_cases h2:an < most
    ·have i4:(an:Int) < (most:Int):=by omega
     have HX:Hid (bitsTo L most (j + 1) = bitsTo L most j ++ [j]):=by show _ = _;rw [HE.out,if_pos ⟨HB.out,by rw [<- HA.out];exact h2⟩]
     have HL:Hid (((SP.ints (bitsTo L most j)).length + 1) * 8 <= 140737488351232):=by show _ <= _;rw [SP.ints_len,<- HA.out];omega
     have OA:Hid (IOwn w.heap.size (wr.alloc (.cells #[.int .i64 (j:Int)] 3)) (.slice ap an ac) (SP.ints (bitsTo L most j))):=OK.out.keep (World.grownBy_alloc wr _ none)
     have GA:Hid (w.grownBy (wr.alloc (.cells #[.int .i64 (j:Int)] 3)) none):=gb_alloc GK.out _
     clear HE h2
     go_wp2_with (at_builtin;refine wpList_append_int rfl _ _ rfl _ ⟨wr.heap.size,0,none⟩ rfl rfl OA.out (cell_new1 _ _ rfl) GA.out.size HL.out ?_;intro v2 w2 o2 g2 a2;have O2:Hid (IOwn w.heap.size w2 v2 (SP.ints (bitsTo L most j) ++ [(j:Int)])):=o2;have G2:Hid (w.grownBy w2 none):=grown_new GA.out g2 (fun i e=>OA.out.lo i e);clear o2 g2 a2)
     go_roundw
     case rel=>exact ⟨j + 1,by omega,by go_num,by rw [HX.out,SP.ints_app];exact O2.out,G2⟩
     case measure=>simp [intOf];omega
    ·have i4:¬ (an:Int) < (most:Int):=by omega
     have HX:Hid (bitsTo L most (j + 1) = bitsTo L most j):=by show _ = _;rw [HE.out,if_neg (fun hh=>h2 (by rw [HA.out];exact hh.2))]
     clear HE h2
     go_wp2
     go_roundw
     case rel=>exact ⟨j + 1,by omega,by go_num,by rw [HX.out];exact OK.out,GK⟩
     case measure=>simp [intOf];omega
   ·have i5:(B == 1) = false:=by simpa using h1
    have HX:Hid (bitsTo L most (j + 1) = bitsTo L most j):=by show _ = _;rw [HE.out,if_neg (fun hh=>h1 (by rw [<- HB.out];exact hh.1))]
    clear HE
    go_wp2
    go_roundw
    case rel=>exact ⟨j + 1,by omega,by go_num,by rw [HX.out];exact OK.out,GK⟩
    case measure=>simp [intOf];omega
  ·have i3:¬ (j:Int) < (n:Int):=by omega
   obtain rfl:j = n:=by omega
   obtain rfl:=HA.out
   go_wp2
   go_ret
   exact ⟨_,_,rfl,OK.out,GK.out⟩
end Go.Proofs.YtaalagkbpeinkaaGreat
namespace Go.Proofs.YtaalagkbpeinkaaGreat
def gW:SP.Geo:=⟨2,4,1,0⟩
def QW0:AM.Raw:=AM.Raw.new 4 8
theorem gW_ok:gW.Ok QW0:=SP.new_geo (k:=2) (N:=4) (S:=1) (f:=0) (n:=8) rfl (by decide) (by decide) (by decide) (by decide) (by decide)
theorem wake_states:∃ R1 R2 R3 R4 R5 R6 R7,SP.write QW0 gW ((0:Nat):Int) 5 (datL 2 9) = (0,R1) /\ R1.L.length <= 32 /\ R1.lose ((1:Nat):Int) = (0,R2) /\ SP.missL R2 gW ((0:Nat):Int) 5 = [] /\ SP.marg R2 gW ((0:Nat):Int) 5 = 1 /\ R2.off = false /\ R2.replace ((1:Nat):Int) = (0,R3) /\ SP.missL R3 gW ((0:Nat):Int) 5 = [1] /\ R3.off = false /\ R3.L.length <= 32 /\
 (∀ out e,R3.Ok -> SP.RdP R3 gW ((0:Nat):Int) 5 out e -> out = datL 2 9 /\ e = 0) /\ (R3.Ok -> SP.slotM R3 gW ((0:Nat):Int) 5 (datL 2 9) 0 = (0,R4) /\ SP.slotN R3 gW ((0:Nat):Int) 5 (datL 2 9) 0 = 1) /\ R4.L.length <= 64 /\
 R4.lose ((0:Nat):Int) = (0,R5) /\ R5.L.length <= 64 /\ R5.lose ((2:Nat):Int) = (0,R6) /\ R6.L.length <= 64 /\ (R3.Ok -> ∀ out e,SP.RdP R6 gW ((0:Nat):Int) 5 out e -> out = datL 2 9 /\ e = 0) /\ R6.lose ((3:Nat):Int) = (0,R7) /\ R7.L.length <= 64 /\ (R3.Ok -> ∀ out e,SP.RdP R7 gW ((0:Nat):Int) 5 out e -> out = [] /\ e = 20):=by
 have h0:=SP.new_ok (N:=4) (n:=8) (by decide) (by decide) (by decide) (by decide)
 have hons:=SP.new_ons (N:=4) (n:=8) gW_ok rfl (by decide) (by decide) (by decide) (by decide)
 have hx:=datL_small 2 9
 have hl:=datL_len 2 9
 obtain ⟨a1,a2,a3,a4,a5⟩:=SP.write_sure (R:=QW0) h0.1 gW_ok (slot:=0) (m:=5) (by decide) rfl rfl (by decide) hx hl (by show 2 <= QW0.ons;unfold QW0;rw [hons];decide)
 have hk:=SP.write_kept QW0 gW ((0:Nat):Int) 5 (datL 2 9)
 have hll:=SP.write_len (R:=QW0) (g:=gW) ((0:Nat):Int) 5 (datL 2 9) writes_len8
 have hon0:∀ d:Nat,QW0.on (d:Int) = decide (d < 4):=h0.2
 generalize hW:SP.write QW0 gW ((0:Nat):Int) 5 (datL 2 9) = W at *
 obtain ⟨c,R1⟩:=W
 dsimp only at a1 a2 a3 a4 a5 hk hll
 subst a1
 have hg1:gW.Ok R1:=gW_ok.kept hk
 have hon1:∀ d:Nat,d < 4 -> R1.on (d:Int) = true:=fun d hd=>by rw [hk.on,hon0];exact decide_eq_true hd
 have hL1:R1.L.length <= 32:=hll
 obtain ⟨l1,l2⟩:=SP.lose_yes (R:=R1) (d:=1) (hon1 1 (by decide))
 obtain ⟨_,r2,r3,r4,_,r6,_,_⟩:=SP.renew hg1 (hon1 1 (by decide))
 have W2:SP.Wrote (R1.lose ((1:Nat):Int)).2 gW 0 5 (datL 2 9):=a2.lose _
 have o2:(R1.lose ((1:Nat):Int)).2.off = false:=(SP.lose_off _ _).trans a3
 have g2:gW.Ok (R1.lose ((1:Nat):Int)).2:=SP.lose_geo hg1 _
 have on2:∀ d:Nat,d < 4 -> (R1.lose ((1:Nat):Int)).2.on (d:Int) = !(d == 1):=fun d hd=>by rw [l2,hon1 d hd];rfl
 have n2:(R1.lose ((1:Nat):Int)).2.ons = 3:=by
  rw [<- SP.ons_filter g2]
  have e:(List.range gW.n).filter (fun d:Nat=>(R1.lose ((1:Nat):Int)).2.on (d:Int)) = (List.range 4).filter (fun d:Nat=>!(d == 1)):=List.filter_congr fun d hd=>on2 d (List.mem_range.1 hd)
  rw [e]
  decide
 have G1:SP.Gaps R1 gW 0 5 (datL 2 9) []:=a2.gaps hg1 a3 a4 hon1
 have G3:SP.Gaps ((R1.lose ((1:Nat):Int)).2.replace ((1:Nat):Int)).2 gW 0 5 (datL 2 9) [1]:=G1.step (by decide) (d:=1) (by decide)
 have e1:R1.lose ((1:Nat):Int) = (0,(R1.lose ((1:Nat):Int)).2):=Prod.ext l1 rfl
 generalize (R1.lose ((1:Nat):Int)).2 = R2 at *
 have e2:R2.replace ((1:Nat):Int) = (0,(R2.replace ((1:Nat):Int)).2):=Prod.ext r2 rfl
 generalize (R2.replace ((1:Nat):Int)).2 = R3 at *
 have w3:SP.wants R3 gW 0 5 gW.n = [1]:=by
  rw [G3.wants (by decide) (by decide)]
  decide
 have H3:=G3.half (by decide) (by decide)
 have hc3:=SP.count_all (R:=R3) (g:=gW) (slot:=0) (m:=5) gW.n H3.on
 rw [w3] at hc3
 have hk3:gW.k <= (SP.hits R3 gW 0 5 gW.n).length:=by
  have:(SP.hits R3 gW 0 5 gW.n).length = 3:=by
   have h4:gW.n = 4:=rfl
   rw [h4] at hc3 ⊢
   simp at hc3
   omega
  rw [this]
  decide
 obtain ⟨R4,s1,s2,s3,s4,s5,s6,s7⟩:∃ R4,(R3.Ok -> SP.slotM R3 gW ((0:Nat):Int) 5 (datL 2 9) 0 = (0,R4)) /\ (R3.Ok -> SP.slotN R3 gW ((0:Nat):Int) 5 (datL 2 9) 0 = 1) /\ (R3.Ok -> SP.Wrote R4 gW 0 5 (datL 2 9)) /\ R4.off = false /\ (∀ d,d < gW.n -> R4.on (d:Int) = true) /\ gW.Ok R4 /\ R4.L.length <= 64:=by
  have hm:=SP.mendTo_sure H3.ok (slot:=0) (m:=5) (by decide) H3.off G3.fuse (E:=SP.code gW (datL 2 9)) (fun d hd=>SP.code_row gW _ hd) gW.n (Nat.le_refl _)
  have hk:=SP.mendTo_kept R3 gW 0 5 (SP.code gW (datL 2 9)) gW.n
  refine ⟨(SP.mendTo R3 gW 0 5 (SP.code gW (datL 2 9)) gW.n).2,fun ok=>?_,fun ok=>?_,fun ok=>(H3.heals ok G3.fuse (by decide) (by decide)).2.1,hm.2.1,fun d hd=>by rw [hk.on];exact H3.on d hd,H3.ok.kept hk,?_⟩
  ·rw [SP.slotM_at]
   exact Prod.ext hm.1 rfl
  ·rw [SP.slotN_at,if_pos hm.1,w3];rfl
  ·have:=mendTo_len R3 gW 0 5 (SP.code gW (datL 2 9)) gW.n
   have h4:8 * gW.n = 32:=rfl
   omega
 obtain ⟨p1,p2⟩:=SP.lose_yes (R:=R4) (d:=0) (s5 0 (by decide))
 have e5:R4.lose ((0:Nat):Int) = (0,(R4.lose ((0:Nat):Int)).2):=Prod.ext p1 rfl
 have W5:=fun ok=>(s3 ok).lose ((0:Nat):Int)
 have o5:(R4.lose ((0:Nat):Int)).2.off = false:=(SP.lose_off _ _).trans s4
 have g5:gW.Ok (R4.lose ((0:Nat):Int)).2:=SP.lose_geo s6 _
 have L5:(R4.lose ((0:Nat):Int)).2.L.length <= 64:=Nat.le_trans (SP.lose_L _ _) s7
 have on5:∀ d:Nat,d < 4 -> (R4.lose ((0:Nat):Int)).2.on (d:Int) = !(d == 0):=fun d hd=>by rw [p2,s5 d hd];rfl
 generalize (R4.lose ((0:Nat):Int)).2 = R5 at *
 obtain ⟨q1,q2⟩:=SP.lose_yes (R:=R5) (d:=2) (by rw [on5 2 (by decide)];decide)
 have e6:R5.lose ((2:Nat):Int) = (0,(R5.lose ((2:Nat):Int)).2):=Prod.ext q1 rfl
 have W6:=fun ok=>(W5 ok).lose ((2:Nat):Int)
 have o6:(R5.lose ((2:Nat):Int)).2.off = false:=(SP.lose_off _ _).trans o5
 have g6:gW.Ok (R5.lose ((2:Nat):Int)).2:=SP.lose_geo g5 _
 have L6:(R5.lose ((2:Nat):Int)).2.L.length <= 64:=Nat.le_trans (SP.lose_L _ _) L5
 have on6:∀ d:Nat,d < 4 -> (R5.lose ((2:Nat):Int)).2.on (d:Int) = (!(d == 0) && !(d == 2)):=fun d hd=>by rw [q2,on5 d hd]
 generalize (R5.lose ((2:Nat):Int)).2 = R6 at *
 have n6:R6.ons = 2:=by
  rw [<- SP.ons_filter g6]
  have e:(List.range gW.n).filter (fun d:Nat=>R6.on (d:Int)) = (List.range 4).filter (fun d:Nat=>(!(d == 0) && !(d == 2))):=List.filter_congr fun d hd=>on6 d (List.mem_range.1 hd)
  rw [e]
  decide
 obtain ⟨t1,t2⟩:=SP.lose_yes (R:=R6) (d:=3) (by rw [on6 3 (by decide)];decide)
 have e7:R6.lose ((3:Nat):Int) = (0,(R6.lose ((3:Nat):Int)).2):=Prod.ext t1 rfl
 have W7:=fun ok=>(W6 ok).lose ((3:Nat):Int)
 have o7:(R6.lose ((3:Nat):Int)).2.off = false:=(SP.lose_off _ _).trans o6
 have g7:gW.Ok (R6.lose ((3:Nat):Int)).2:=SP.lose_geo g6 _
 have L7:(R6.lose ((3:Nat):Int)).2.L.length <= 64:=Nat.le_trans (SP.lose_L _ _) L6
 have on7:∀ d:Nat,d < 4 -> (R6.lose ((3:Nat):Int)).2.on (d:Int) = (!(d == 0) && !(d == 2) && !(d == 3)):=fun d hd=>by rw [t2,on6 d hd]
 generalize (R6.lose ((3:Nat):Int)).2 = R7 at *
 have n7:R7.ons = 1:=by
  rw [<- SP.ons_filter g7]
  have e:(List.range gW.n).filter (fun d:Nat=>R7.on (d:Int)) = (List.range 4).filter (fun d:Nat=>(!(d == 0) && !(d == 2) && !(d == 3))):=List.filter_congr fun d hd=>on7 d (List.mem_range.1 hd)
  rw [e]
  decide
 refine ⟨R1,R2,R3,R4,R5,R6,R7,rfl,hL1,e1,?_,?_,o2,e2,?_,G3.off,Nat.le_trans r6 hL1,fun out e _ hr=>H3.read (by decide) (by decide) (by decide) hx hl hk3 hr,fun ok=>⟨s1 ok,s2 ok⟩,s7,e5,L5,e6,L6,fun ok out e hr=>((W6 ok).read g6 (by decide) (by decide) hx hl o6 (by decide) hr).1 (by rw [n6];decide),e7,L7,fun ok out e hr=>((W7 ok).read g7 (by decide) (by decide) hx hl o7 (by decide) hr).2 (by rw [n7];decide)⟩
 ·rw [SP.missL_at o2 (by decide) (by decide)]
  exact W2.none (by decide) (by decide)
 ·rw [SP.marg_at o2 (by decide) (by decide),W2.hits g2 (by decide) (by decide),n2]
  rfl
 ·rw [SP.missL_at G3.off (by decide) (by decide)]
  exact w3
open Go.RowKit
set_option maxHeartbeats 6400000 in
theorem wakes9 (w:World):Calls Tryz.prog 8 #[] w fun e w'=>e = .returned (.bool true) /\ w.grownBy w' none:=by
 obtain ⟨R1,R2,R3,R4,R5,R6,R7,f1,l1,f2,m2,n2,o2,f3,m3,o3,l3,r3,s3,l4,f5,l5,f6,l6,r6,f7,l7,r7⟩:=wake_states
 have F1:Hid (SP.write QW0 gW ((0:Nat):Int) 5 (datL 2 9) = (0,R1) /\ R1.L.length <= 32 /\ R1.lose ((1:Nat):Int) = (0,R2)):=⟨f1,l1,f2⟩
 have F2:Hid (SP.missL R2 gW ((0:Nat):Int) 5 = [] /\ SP.marg R2 gW ((0:Nat):Int) 5 = 1 /\ R2.off = false /\ R2.replace ((1:Nat):Int) = (0,R3)):=⟨m2,n2,o2,f3⟩
 have F3:Hid (SP.missL R3 gW ((0:Nat):Int) 5 = [1] /\ R3.off = false /\ R3.L.length <= 32 /\ (∀ out e,R3.Ok -> SP.RdP R3 gW ((0:Nat):Int) 5 out e -> out = datL 2 9 /\ e = 0) /\ (R3.Ok -> SP.slotM R3 gW ((0:Nat):Int) 5 (datL 2 9) 0 = (0,R4) /\ SP.slotN R3 gW ((0:Nat):Int) 5 (datL 2 9) 0 = 1)):=⟨m3,o3,l3,r3,s3⟩
 have F4:Hid (R4.L.length <= 64 /\ R4.lose ((0:Nat):Int) = (0,R5) /\ R5.L.length <= 64 /\ R5.lose ((2:Nat):Int) = (0,R6) /\ R6.L.length <= 64 /\ R6.lose ((3:Nat):Int) = (0,R7) /\ R7.L.length <= 64):=⟨l4,f5,l5,f6,l6,f7,l7⟩
 have F5:Hid ((R3.Ok -> ∀ out e,SP.RdP R6 gW ((0:Nat):Int) 5 out e -> out = datL 2 9 /\ e = 0) /\ (R3.Ok -> ∀ out e,SP.RdP R7 gW ((0:Nat):Int) 5 out e -> out = [] /\ e = 20)):=⟨r6,r7⟩
 clear f1 l1 f2 m2 n2 o2 f3 m3 o3 l3 r3 s3 l4 f5 l5 f6 l6 r6 f7 l7 r7
 have DT:Hid (∀ w',Calls Tryz.prog 12 #[.int .i64 2,.int .u8 9] w' fun e w''=>∃ p n c,e = .returned (.slice p n c) /\ Own w'.heap.size w'' (.slice p n c) (datL 2 9) /\ w'.grownBy w'' none):=fun w'=>data_yes w' (k:=2) (x:=9) (by decide) (by decide) (by decide)
 go_enter Tryz.func8,Tryz.ntmps8
 go_wp2_with fail
 refine (made8_yes w (k:=2) (more:=2) (S:=1) (f:=0) (by decide) (by decide) (by decide) (by decide) (by decide) (by decide)).mono ?_
 rintro e w1 ⟨s,t,rfl,F,G,a,r,du⟩
 have H:Hid (Run w w1 s a gW QW0 [] []):=du.run
 clear du
 go_wp2_with fail
 refine (DT.out w1).mono ?_
 rintro e w2 ⟨p2,n2,c2,rfl,ox,gx⟩
 have h2:=H.out.addV ox gx
 clear ox gx
 have Hx:Hid (Run w w2 s a gW QW0 [(.slice p2 n2 c2,datL 2 9)] []):=h2
 clear h2 H
 have H:=Hx
 clear Hx
 go_wp2_with (first | (go_at_call 11;refine H.out.arr.mono ?_;rintro e w9 ⟨rfl,hw9⟩;obtain rfl:=hw9.symm;clear hw9) | fail)
 refine (H.out.write (slot:=((0:Nat):Int)) (m:=5) (by decide) (by simp) F1.out.1).mono ?_
 rintro e w3 ⟨rfl,h3⟩
 have Hx:Hid (Run w w3 s a gW R1 [(.slice p2 n2 c2,datL 2 9)] []):=h3
 clear h3 H
 have H:=Hx
 clear Hx
 go_wp2_with (first | (go_at_call 11;refine H.out.arr.mono ?_;rintro e w9 ⟨rfl,hw9⟩;obtain rfl:=hw9.symm;clear hw9) | fail)
 refine (H.out.lose (d:=((1:Nat):Int)) (by have:=F1.out.2.1;omega) F1.out.2.2).mono ?_
 rintro e w4 ⟨rfl,h4⟩
 have Hx:Hid (Run w w4 s a gW R2 [(.slice p2 n2 c2,datL 2 9)] []):=h4
 clear h4 H
 have H:=Hx
 clear Hx
 go_wp2_with (first | (go_at_call 11;refine H.out.arr.mono ?_;rintro e w9 ⟨rfl,hw9⟩;obtain rfl:=hw9.symm;clear hw9) | fail)
 refine (H.out.missing (slot:=((0:Nat):Int)) (m:=5) (SP.askE_at F2.out.2.2.1 (by decide) (by decide)) F2.out.1).mono ?_
 rintro e w5 ⟨p5,c5,rfl,h5⟩
 have Hx:Hid (Run w w5 s a gW R2 [(.slice p2 n2 c2,datL 2 9)] [(.slice p5 0 c5,[])]):=h5
 clear h5 H
 have H:=Hx
 clear Hx
 go_wp2_with (first | (go_at_call 11;refine H.out.arr.mono ?_;rintro e w9 ⟨rfl,hw9⟩;obtain rfl:=hw9.symm;clear hw9) | fail)
 refine (H.out.margin (slot:=((0:Nat):Int)) (m:=5) (SP.askE_at F2.out.2.2.1 (by decide) (by decide)) F2.out.2.1).mono ?_
 rintro e w6 ⟨rfl,h6⟩
 have Hx:Hid (Run w w6 s a gW R2 [(.slice p2 n2 c2,datL 2 9)] [(.slice p5 0 c5,[])]):=h6
 clear h6 H
 have H:=Hx
 clear Hx
 go_wp2_with (first | (go_at_call 11;refine H.out.arr.mono ?_;rintro e w9 ⟨rfl,hw9⟩;obtain rfl:=hw9.symm;clear hw9) | fail)
 refine (H.out.replace (d:=((1:Nat):Int)) F2.out.2.2.2).mono ?_
 rintro e w7 ⟨rfl,h7⟩
 have Hx:Hid (Run w w7 s a gW R3 [(.slice p2 n2 c2,datL 2 9)] [(.slice p5 0 c5,[])]):=h7
 clear h7 H
 have H:=Hx
 clear Hx
 have OK3:Hid R3.Ok:=H.out.raw
 go_wp2_with (first | (go_at_call 11;refine H.out.arr.mono ?_;rintro e w9 ⟨rfl,hw9⟩;obtain rfl:=hw9.symm;clear hw9) | fail)
 refine (H.out.missing (slot:=((0:Nat):Int)) (m:=5) (SP.askE_at F3.out.2.1 (by decide) (by decide)) F3.out.1).mono ?_
 rintro e w8 ⟨p8,c8,rfl,h8⟩
 have Hx:Hid (Run w w8 s a gW R3 [(.slice p2 n2 c2,datL 2 9)] [(.slice p8 1 c8,[1]),(.slice p5 0 c5,[])]):=h8
 clear h8 H
 have H:=Hx
 clear Hx
 go_wp2_with (first | (go_at_call 11;refine H.out.arr.mono ?_;rintro e w9 ⟨rfl,hw9⟩;obtain rfl:=hw9.symm;clear hw9) | fail)
 refine (H.out.slot (slot:=((0:Nat):Int)) (m:=5) (by have:=F3.out.2.2.1;omega) (fun o e h=>F3.out.2.2.2.1 o e OK3.out h) (F3.out.2.2.2.2 OK3.out).1 (F3.out.2.2.2.2 OK3.out).2).mono ?_
 rintro e w10 ⟨rfl,h10⟩
 have Hx:Hid (Run w w10 s a gW R4 [(.slice p2 n2 c2,datL 2 9)] [(.slice p8 1 c8,[1]),(.slice p5 0 c5,[])]):=h10
 clear h10 H
 have H:=Hx
 clear Hx
 obtain ⟨b8,off8,rfl,hc8⟩:=(H.out.nums (v:=.slice p8 1 c8) (l:=[1]) (by simp)).spot (k:=0) (by simp)
 have d8:w10.cell? ⟨b8,off8,none⟩ = some (.int .i64 1):=hc8
 clear hc8
 go_wp2_with (first | (go_at_call 11;refine H.out.arr.mono ?_;rintro e w9 ⟨rfl,hw9⟩;obtain rfl:=hw9.symm;clear hw9) | fail)
 refine (H.out.lose (d:=((0:Nat):Int)) (by have:=F4.out.1;omega) F4.out.2.1).mono ?_
 rintro e w11 ⟨rfl,h11⟩
 clear d8
 have Hx:Hid (Run w w11 s a gW R5 [(.slice p2 n2 c2,datL 2 9)] [(.slice (some ⟨b8,off8,none⟩) 1 c8,[1]),(.slice p5 0 c5,[])]):=h11
 clear h11 H
 have H:=Hx
 clear Hx
 go_wp2_with (first | (go_at_call 11;refine H.out.arr.mono ?_;rintro e w9 ⟨rfl,hw9⟩;obtain rfl:=hw9.symm;clear hw9) | fail)
 refine (H.out.lose (d:=((2:Nat):Int)) (by have:=F4.out.2.2.1;omega) F4.out.2.2.2.1).mono ?_
 rintro e w12 ⟨rfl,h12⟩
 have Hx:Hid (Run w w12 s a gW R6 [(.slice p2 n2 c2,datL 2 9)] [(.slice (some ⟨b8,off8,none⟩) 1 c8,[1]),(.slice p5 0 c5,[])]):=h12
 clear h12 H
 have H:=Hx
 clear Hx
 go_wp2_with (first | (go_at_call 11;refine H.out.arr.mono ?_;rintro e w9 ⟨rfl,hw9⟩;obtain rfl:=hw9.symm;clear hw9) | fail)
 refine (H.out.read (slot:=((0:Nat):Int)) (m:=5) (F5.out.1 OK3.out)).mono ?_
 rintro e w13 ⟨p13,n13,c13,rfl,h13⟩
 have Hx:Hid (Run w w13 s a gW R6 [(.slice p13 n13 c13,datL 2 9),(.slice p2 n2 c2,datL 2 9)] [(.slice (some ⟨b8,off8,none⟩) 1 c8,[1]),(.slice p5 0 c5,[])]):=h13
 clear h13 H
 have H:=Hx
 clear Hx
 go_wp2_with (first | (go_at_call 11;refine H.out.arr.mono ?_;rintro e w9 ⟨rfl,hw9⟩;obtain rfl:=hw9.symm;clear hw9) | fail)
 refine (H.out.lose (d:=((3:Nat):Int)) (by have:=F4.out.2.2.2.2.1;omega) F4.out.2.2.2.2.2.1).mono ?_
 rintro e w14 ⟨rfl,h14⟩
 have Hx:Hid (Run w w14 s a gW R7 [(.slice p13 n13 c13,datL 2 9),(.slice p2 n2 c2,datL 2 9)] [(.slice (some ⟨b8,off8,none⟩) 1 c8,[1]),(.slice p5 0 c5,[])]):=h14
 clear h14 H
 have H:=Hx
 clear Hx
 have SM:Hid (SP.slotM R7 gW ((0:Nat):Int) 5 [] 20 = (20,R7) /\ SP.slotN R7 gW ((0:Nat):Int) 5 [] 20 = 0):=by
  have e1:SP.slotM R7 gW ((0:Nat):Int) 5 [] 20 = (20,R7):=rfl
  exact ⟨e1,by unfold SP.slotN;rw [e1];rfl⟩
 go_wp2_with (first | (go_at_call 11;refine H.out.arr.mono ?_;rintro e w9 ⟨rfl,hw9⟩;obtain rfl:=hw9.symm;clear hw9) | fail)
 refine (H.out.slot (slot:=((0:Nat):Int)) (m:=5) (by have:=F4.out.2.2.2.2.2.2;omega) (F5.out.2 OK3.out) SM.out.1 SM.out.2).mono ?_
 rintro e w15 ⟨rfl,h15⟩
 have Hx:Hid (Run w w15 s a gW R7 [(.slice p13 n13 c13,datL 2 9),(.slice p2 n2 c2,datL 2 9)] [(.slice (some ⟨b8,off8,none⟩) 1 c8,[1]),(.slice p5 0 c5,[])]):=h15
 clear h15 H
 have H:=Hx
 clear Hx
 have V15:Hid (∀ w',w15.grownBy w' none -> Vec w' (.slice p13 n13 c13) (datL 2 9)):=fun w' g'=>(H.out.vec (by simp)).keep g'
 have GW:Hid (w.grownBy w15 none):=H.out.grown
 have CZ:Hid (∀ w',w15.grownBy w' none -> (convert 31 9 (.slice p13 n13 c13)).run Tryz.prog w' = .ok (.string (strOf (datL 2 9))) w'):=fun w' g'=>convert_vec (V15.out w' g')
 clear H F1 F2 F3 F4 F5 OK3 SM V15
 obtain ⟨st,hst⟩:∃ st,st = strOf (datL 2 9):=⟨_,rfl⟩
 rw [<- hst] at CZ
 have HST:Hid (st = strOf (datL 2 9)):=hst
 clear hst
 go_wp2_with fail
 refine wp_region_held_drew (S:=fun w'=>(convert 31 9 (.slice p13 n13 c13)).run Tryz.prog w' = .ok (.string st) w') (by kernel_rfl) ?_ (fun hHeld=>?_)
 ·exact CZ.out _ (grown_drewN w15 1)
 refine wpAnyH_take (i:=0) (v:=?_) rfl (by kernel_rfl) (by kernel_rfl) (by kernel_rfl) (fun _ _ _ h=>h) (Or.inl ⟨by rfl,?_⟩) (by assumption) ?_
 rotate_left
 ·intro w hSw;(try dsimp only at hSw);first | (go_simp;done) | (go_simp;with_reducible rfl)
 simp only [Act.put,lay9]
 refine wpAnyH_take (i:=1) (v:=?_) rfl (by kernel_rfl) (by kernel_rfl) (by kernel_rfl) (fun _ _ _ h=>h) (Or.inl ⟨by rfl,?_⟩) (by assumption) ?_
 rotate_left
 ·intro w hSw;(try dsimp only at hSw);first | (go_simp;done) | (go_simp;with_reducible rfl)
 simp only [Act.put,lay9]
 refine wpAnyH_take (i:=2) (v:=?_) rfl (by kernel_rfl) (by kernel_rfl) (by kernel_rfl) (fun _ _ _ h=>h) (Or.inl ⟨by rfl,?_⟩) (by assumption) ?_
 rotate_left
 ·intro w hSw;(try dsimp only at hSw);first | (go_simp;done) | (go_simp;with_reducible rfl)
 simp only [Act.put,lay9]
 refine wpAnyH_take (i:=3) (v:=?_) rfl (by kernel_rfl) (by kernel_rfl) (by kernel_rfl) (fun _ _ _ h=>h) (Or.inl ⟨by rfl,?_⟩) (by assumption) ?_
 rotate_left
 ·intro w hSw;(try dsimp only at hSw);first | (go_simp;done) | (go_simp;with_reducible rfl)
 simp only [Act.put,lay9]
 refine wpAnyH_take (i:=4) (v:=?_) rfl (by kernel_rfl) (by kernel_rfl) (by kernel_rfl) (fun _ _ _ h=>h) (Or.inl ⟨by rfl,?_⟩) (by assumption) ?_
 rotate_left
 ·intro w hSw;(try dsimp only at hSw);first | (go_simp;done) | (go_simp;with_reducible rfl)
 simp only [Act.put,lay9]
 refine wpAnyH_ready (rs:=[5]) (by kernel_rfl) (by simp) ?_
 refine AllReadyH.cons rfl (fun K hK=>?_) AllReadyH.nil
 go_simp
 refine (DT.out _).mono ?_
 rintro e wa ⟨pa,na,ca,rfl,oa,ga⟩
 have GZ:Hid (w15.grownBy wa none):=grown_trans (grown_drewN w15 1) ga
 have cz:(convert 31 9 (.slice pa na ca)).run Tryz.prog wa = .ok (.string st) wa:=by rw [HST.out];exact convert_vec oa.vec
 clear oa ga
 refine hK.out _ _ (CZ.out _ GZ.out) (fun hHeld=>?_)
 clear hK K
 (try simp only [Act.put,lay9])
 refine wpAnyH_ready (rs:=[6]) (by kernel_rfl) (by simp) ?_
 refine AllReadyH.cons rfl (fun K hK=>?_) AllReadyH.nil
 go_simp
 refine hK.out _ _ (CZ.out _ GZ.out) (fun hHeld=>?_)
 clear hK K
 clear cz
 (try simp only [Act.put,lay9])
 refine wpAnyH_take (i:=7) (v:=?_) rfl (by kernel_rfl) (by kernel_rfl) (by kernel_rfl) (fun _ _ _ h=>h) (Or.inl ⟨by rfl,?_⟩) (by assumption) ?_
 rotate_left
 ·intro w hSw;(try dsimp only at hSw);first | (go_simp;done) | (go_simp;with_reducible rfl)
 simp only [Act.put,lay9]
 refine wpAnyH_take (i:=8) (v:=?_) rfl (by kernel_rfl) (by kernel_rfl) (by kernel_rfl) (fun _ _ _ h=>h) (Or.inl ⟨by rfl,?_⟩) (by assumption) ?_
 rotate_left
 ·intro w hSw;(try dsimp only at hSw);first | (go_simp;done) | (go_simp;with_reducible rfl)
 simp only [Act.put,lay9]
 refine wpAnyH_take (i:=9) (v:=?_) rfl (by kernel_rfl) (by kernel_rfl) (by kernel_rfl) (fun _ _ _ h=>h) (Or.inl ⟨by rfl,?_⟩) (by assumption) ?_
 rotate_left
 ·intro w hSw;(try dsimp only at hSw);first | (go_simp;done) | (go_simp;with_reducible rfl)
 simp only [Act.put,lay9]
 refine wpAnyH_take (i:=10) (v:=?_) rfl (by kernel_rfl) (by kernel_rfl) (by kernel_rfl) (fun _ _ _ h=>h) (Or.inl ⟨by rfl,?_⟩) (by assumption) ?_
 rotate_left
 ·intro w hSw;(try dsimp only at hSw);first | (go_simp;done) | (go_simp;with_reducible rfl)
 simp only [Act.put,lay9]
 refine wpAnyH_take (i:=11) (v:=?_) rfl (by kernel_rfl) (by kernel_rfl) (by kernel_rfl) (fun _ _ _ h=>h) (Or.inl ⟨by rfl,?_⟩) (by assumption) ?_
 rotate_left
 ·intro w hSw;(try dsimp only at hSw);first | (go_simp;done) | (go_simp;with_reducible rfl)
 simp only [Act.put,lay9]
 refine wpAnyH_take (i:=12) (v:=?_) rfl (by kernel_rfl) (by kernel_rfl) (by kernel_rfl) (fun _ _ _ h=>h) (Or.inl ⟨by rfl,?_⟩) (by assumption) ?_
 rotate_left
 ·intro w hSw;(try dsimp only at hSw);first | (go_simp;done) | (go_simp;with_reducible rfl)
 simp only [Act.put,lay9]
 refine wpAnyH_take (i:=13) (v:=?_) rfl (by kernel_rfl) (by kernel_rfl) (by kernel_rfl) (fun _ _ _ h=>h) (Or.inl ⟨by rfl,?_⟩) (by assumption) ?_
 rotate_left
 ·intro w hSw;(try dsimp only at hSw);first | (go_simp;done) | (go_simp;with_reducible rfl)
 simp only [Act.put,lay9]
 refine wpAnyH_done (by kernel_rfl) ?_ _
 go_wp2
 go_ret
 exact ⟨rfl,grown_trans GW.out GZ.out⟩
end Go.Proofs.YtaalagkbpeinkaaGreat
