/- Packed: New6, Base6, SMath, KMath, PM8. -/
import Derived.Test.YtlklmhojadlncaaGreatTk10
import Derived.Test.YtlklmhojadlncaaGreatTk9
import GoSem.Op.String
set_option linter.unusedSimpArgs false
set_option linter.unusedVariables false
set_option maxRecDepth 100000
namespace Go.Proofs.YtlklmhojadlncaaGreat
open Go.RowKit
def newTo (N n i:Nat):AM.Raw:=⟨List.replicate i (some (AM.zs (n * 64)))++List.replicate (N - i) none,n,[],0,false⟩
theorem newTo_len {N n i:Nat} (h:i<=N):(newTo N n i).C.length=N:=by simp[newTo];omega
theorem newTo_all (N n:Nat):newTo N n N=AM.Raw.new N n:=by simp[newTo,AM.Raw.new]
theorem newTo_step {N n i:Nat} (h:i < N):(newTo N n i).C.set i (some (AM.zs (n * 64)))=(newTo N n (i+1)).C:=by
 simp only[newTo]
 rw[List.set_append_right _ _ (by simp)]
 have e:N - i=(N - (i+1))+1:=by omega
 rw[e,List.replicate_succ,List.length_replicate,Nat.sub_self,List.set_cons_zero,List.replicate_succ',List.append_assoc]
 rfl
theorem newTo_ok {N n i:Nat} (h:i<=N) (h1:1<=N) (h2:N<=255) (h3:1<=n) (h4:n<=4096):(newTo N n i).Ok:=by
 refine⟨by rw[newTo_len h];exact h1,by rw[newTo_len h];exact h2,h3,h4,fun d xs hx=>?_,fun l hl=>by simp[newTo] at hl,by simp[newTo]⟩
 have hm:=List.mem_of_getElem? hx
 simp only[newTo,List.mem_append,List.mem_replicate] at hm
 rcases hm with ⟨_,hm⟩ | ⟨_,hm⟩
 ·injection hm with hm
  subst hm
  exact⟨AM.zs_len _,AM.zs_small _⟩
 ·cases hm
theorem Tryz.infoDrv:(Tryz.prog.info? 72).map (fun i=>(i.zero,i.size,i.bytes))=some (some (.slice none 0 0),1,24):=by kernel_rfl
theorem run_make_drvs (W:World) {n:Nat} (hn:n<=255):(Instr.makeSlice 73 (.int .i64 (n:Int)) (.int .i64 (n:Int))).run Tryz.prog W=.ok (.slice (some ⟨W.heap.size,0,none⟩) n n) (W.alloc (.cells (List.replicate n (Value.slice none 0 0)).toArray 72)):=by
 have h:=run_make_row' (P:=Tryz.prog) 73 72 _ 24 Tryz.underlying73 Tryz.infoDrv rfl .i64 .i64 n (by omega) (by omega) W
 rw[h]
 congr 3
 apply Array.ext'
 have:=made_list (.slice none 0 0) n
 rw[List.take_of_length_le (by simp[madeCells])] at this
 rw[this]
theorem new_start {w:World} {N n:Nat} (h1:1<=N) (h2:N<=255) (h3:1<=n) (h4:n<=4096) :
 Lies (fun i=>i=w.heap.size+1\/i=w.heap.size) ((w.alloc (.cells (List.replicate N (Value.slice none 0 0)).toArray 72)).alloc (.cells #[.slice (some ⟨w.heap.size,0,none⟩) N N,.int .i64 (n:Int),.slice none 0 0,.int .i64 0,.bool false] 76)) (w.heap.size+1) w.heap.size (List.replicate N (.slice none 0 0)) none 0 (newTo N n 0):=by
 have hl:(newTo N n 0).C.length=N:=newTo_len (Nat.zero_le _)
 refine⟨newTo_ok (Nat.zero_le _) h1 h2 h3 h4,fun i hi=>by rcases hi with rfl | rfl <;> simp <;> omega,?_,?_,by simp[hl],?_,?_,.inl rfl,.inr rfl,?_,?_,?_⟩
 ·rw[hl]
  exact heap_new _ _ _ (by simp)
 ·exact heap_old _ _ (heap_alloc_new w _)
 ·intro i v hv
  have hm:=(List.mem_replicate.1 (List.mem_of_getElem? hv)).2
  have hlt:i < N:=by simpa using (List.getElem?_eq_some_iff.1 hv).1
  exact .inl ⟨by simp[newTo,hlt],hm⟩
 ·exact World.ownsRow_nil _ 0 81 130
 ·intro i v hv g hg
  rw[(List.mem_replicate.1 (List.mem_of_getElem? hv)).2] at hg
  cases hg
 ·intro g hg;cases hg
 ·intro i j u v hu hv g hg
  rw[(List.mem_replicate.1 (List.mem_of_getElem? hu)).2] at hg
  cases hg
set_option maxHeartbeats 800000 in
theorem new_yes {w:World} {N n:Nat} (h1:1<=N) (h2:N<=255) (h3:1<=n) (h4:n<=4096) :
 Calls Tryz.prog 22 #[.int .i64 (N:Int),.int .i64 (n:Int)] w fun e w'=>∃ a,e=.returned (.tuple #[ptr a,.int .i64 0])/\(∃ F,Is F w' a (AM.Raw.new N n)/\∀ i,F i->w.heap.size<=i)/\w.grownBy w' none:=by
 have hmd:∀ W:World,(Instr.makeSlice 73 (.int .i64 (N:Int)) (.int .i64 (N:Int))).run Tryz.prog W=.ok (.slice (some ⟨W.heap.size,0,none⟩) N N) (W.alloc (.cells (List.replicate N (Value.slice none 0 0)).toArray 72)):=fun W=>run_make_drvs W h2
 have HL0:=new_start (w:=w) h1 h2 h3 h4
 have G0:Hid (w.grownBy ((w.alloc (.cells (List.replicate N (Value.slice none 0 0)).toArray 72)).alloc (.cells #[.slice (some ⟨w.heap.size,0,none⟩) N N,.int .i64 (n:Int),.slice none 0 0,.int .i64 0,.bool false] 76)) none):=gb_alloc (gb_alloc (World.grownBy.refl _ _) _) _
 have H0:Hid (Lies (fun i=>i=w.heap.size+1\/i=w.heap.size) ((w.alloc (.cells (List.replicate N (Value.slice none 0 0)).toArray 72)).alloc (.cells #[.slice (some ⟨w.heap.size,0,none⟩) N N,.int .i64 (n:Int),.slice none 0 0,.int .i64 0,.bool false] 76)) (w.heap.size+1) w.heap.size (List.replicate N (.slice none 0 0)) none 0 (newTo N n 0)):=HL0
 have HLO:Hid (∀ i,(i=w.heap.size+1\/i=w.heap.size)->w.heap.size<=i):=fun i hi=>by omega
 clear HL0
 obtain⟨ZD,hZD⟩:∃ ZD,ZD=(List.replicate N (Value.slice none 0 0)).toArray:=⟨_,rfl⟩
 rw[<- hZD] at hmd H0 G0
 clear hZD
 have j1:¬ (N:Int) < 1:=by omega
 have j2:¬ (255:Int) < (N:Int):=by omega
 have j3:¬ (n:Int) < 1:=by omega
 have j4:¬ (4096:Int) < (n:Int):=by omega
 go_enter Tryz.func22,Tryz.ntmps22
 go_wp2
 generalize w.heap.size+1=a at *
 generalize (w.alloc (.cells ZD 72)).alloc (.cells #[.slice (some ⟨w.heap.size,0,none⟩) N N,.int .i64 (n:Int),.slice none 0 0,.int .i64 0,.bool false] 76)=W0 at *
 clear hmd
 have hmk:∀ W:World,(Instr.makeSlice 72 (.int .i64 (n:Int)) (.int .i64 (n:Int))).run Tryz.prog W=.ok (.slice (some ⟨W.heap.size,0,none⟩) n n) (W.alloc (.cells (rowOf (AM.zs (n * 64))) 79)):=fun W=>run_make_drv W h4
 go_loopw [32] (fun ti wr=>∃ i:Nat,i<=N/\ti=.int .i64 (i:Int)/\Hid (∃ F dv,Lies F wr a w.heap.size dv none 0 (newTo N n i)/\(∀ i,F i->w.heap.size<=i))/\Hid (w.grownBy wr none)) (fun ti _=>N - (intOf ti).toNat)
 case atStart=>exact⟨0,by omega,rfl,⟨_,_,H0.out,HLO.out⟩,G0⟩
 case round =>
  clear H0 G0 HLO
  obtain⟨i,hi,rfl,OK,GK⟩:=hrel
  by_cases hlt:i < N
  ·have i1:(i:Int) < (N:Int):=by omega
   obtain⟨F,dv,h,hF⟩:=OK.out
   have hCl:(newTo N n i).C.length=N:=newTo_len hi
   have hdl:i < dv.length:=by rw[h.len,hCl];exact hlt
   have hdv:dv[i]?=some dv[i]:=List.getElem?_eq_getElem hdl
   have c0:wr.cell? ⟨a,0,none⟩=some (.slice (some ⟨w.heap.size,0,none⟩) N N):=by
    have h0:wr.cell? ⟨a,0,none⟩=some (.slice (some ⟨w.heap.size,0,none⟩) (newTo N n i).C.length (newTo N n i).C.length):=topCell (j:=0) h.top rfl
    rw[hCl] at h0
    exact h0
   have cd:wr.cell? ⟨w.heap.size,i,none⟩=some dv[i]:=topCell h.dsk (by rw[List.getElem?_toArray];exact hdv)
   have fd:=topFrozen i h.dsk
   have hla:w.heap.size < wr.heap.size:=h.lt _ h.Fd
   have cd1:(wr.alloc (.cells (rowOf (AM.zs (n * 64))) 79)).cell? ⟨w.heap.size,i,none⟩=some dv[i]:=(World.grownBy_alloc wr _ none).cell cd (by simp)
   have fd1:(wr.alloc (.cells (rowOf (AM.zs (n * 64))) 79)).frozen? ⟨w.heap.size,i,none⟩=false:=by rw[World.frozen?_of_block (w:=wr) ((World.grownBy_alloc wr _ none).block _ hla (by simp))];exact fd
   have HS:Hid (wr.cell? ⟨a,0,none⟩=some (.slice (some ⟨w.heap.size,0,none⟩) N N)):=c0
   have HK1:Hid ((wr.alloc (.cells (rowOf (AM.zs (n * 64))) 79)).cell? ⟨a,0,none⟩=some (.slice (some ⟨w.heap.size,0,none⟩) N N)):=(World.grownBy_alloc wr _ none).cell c0 (by simp)
   have HK2:Hid (∀ v,((wr.alloc (.cells (rowOf (AM.zs (n * 64))) 79)).setCell ⟨w.heap.size,i,none⟩ v).cell? ⟨a,0,none⟩=some (.slice (some ⟨w.heap.size,0,none⟩) N N)):=fun v=>by rw[World.cell?_setCell_far _ _ _ _ (Ne.symm h.a_dg)];exact HK1.out
   have g1:wr.grownBy (wr.drew.alloc (.cells (rowOf (AM.zs (n * 64))) 79)) none:=gb_alloc (gb_drew (World.grownBy.refl wr none)) _
   have hrow:(wr.drew.alloc (.cells (rowOf (AM.zs (n * 64))) 79)).ownsRow 0 79 64 (.slice (some ⟨wr.heap.size,0,none⟩) n n) n ((AM.zs (n * 64)).map bv):=blank_row h4 (heap_alloc_new wr.drew _)
   have hl:=h.drove (F':=fun i=>F i\/i=wr.heap.size) (w1:=wr.drew.alloc (.cells (rowOf (AM.zs (n * 64))) 79)) (w':=(wr.drew.alloc (.cells (rowOf (AM.zs (n * 64))) 79)).setCell ⟨w.heap.size,i,none⟩ (.slice (some ⟨wr.heap.size,0,none⟩) n n)) (fun i h=>.inl h)
    (fun i hi=>by
      rcases hi with hi | rfl
      ·exact Nat.lt_of_lt_of_le (h.lt i hi) g1.size
      ·simp) g1 (d:=i) (by rw[hCl];exact hlt) (D:=some (AM.zs (n * 64))) (.inr ⟨_,rfl,hrow⟩) (fun g hg=>by
      obtain rfl:wr.heap.size=g:=Option.some.inj hg
      exact⟨.inr rfl,fun hf=>Nat.lt_irrefl _ (h.lt _ hf)⟩) (by rw[newTo_step hlt];exact newTo_ok (by omega) h1 h2 h3 h4) rfl
   have HN:Hid (∃ F dv,Lies F ((wr.drew.alloc (.cells (rowOf (AM.zs (n * 64))) 79)).setCell ⟨w.heap.size,i,none⟩ (.slice (some ⟨wr.heap.size,0,none⟩) n n)) a w.heap.size dv none 0 (newTo N n (i+1))/\(∀ i,F i->w.heap.size<=i)):=by
    rw[newTo_step hlt] at hl
    refine⟨_,_,hl,fun j hj=>?_⟩
    rcases hj with hj | rfl
    ·exact hF j hj
    ·omega
   have HG:Hid (w.grownBy ((wr.drew.alloc (.cells (rowOf (AM.zs (n * 64))) 79)).setCell ⟨w.heap.size,i,none⟩ (.slice (some ⟨wr.heap.size,0,none⟩) n n)) none):=gb_setCell (gb_alloc (gb_drew GK.out) _) (Nat.le_refl _) _
   obtain⟨ov,hov⟩:∃ ov,ov=dv[i]:=⟨_,rfl⟩
   rw[<- hov] at cd1
   clear hl hrow g1 cd fd hla hdv hCl OK GK h hF hov
   go_wp2_with fail
   go_region_held3 (fun w'=>w'.cell? ⟨a,0,none⟩=some (.slice (some ⟨w.heap.size,0,none⟩) N N)) (first | exact HS.out | exact HK1.out | exact HK2.out _) (fail)
   go_wp2
   go_roundw
   case rel=>exact⟨i+1,by omega,by go_num,HN,HG⟩
   case measure=>simp[intOf];omega
  ·have i1:¬ (i:Int) < (N:Int):=by omega
   have e:i=N:=by omega
   have HE:Hid (∃ F,Is F wr a (AM.Raw.new N n)/\∀ i,F i->w.heap.size<=i):=by
    obtain⟨F,dv,h,hF⟩:=OK.out
    rw[e,newTo_all] at h
    exact⟨F,h.is,hF⟩
   clear OK e
   go_wp2
   go_ret2
   exact⟨a,rfl,HE.out,GK.out⟩
structure Aw (F:Nat->Prop) (w:World) (v:Value) (xs:List Nat):Prop where
 vec:Vec w v xs
 off:xs ≠ []->∀ g,v.ownBlock=some g->¬ F g
structure Base (w0:World) (F:Nat->Prop) (w:World):Prop where
 grown:w0.grownBy w none
 lo:∀ i,F i->w0.heap.size<=i
theorem Vec.block {w:World} {v:Value} {xs:List Nat} (h:Vec w v xs) (hx:xs ≠ []) {g:Nat} (hg:v.ownBlock=some g):g < w.heap.size:=by
 obtain⟨p,cap,rfl,_,_,h5⟩:=h.form
 obtain⟨b,off,rfl,hc⟩:=h5 hx
 obtain rfl:b=g:=Option.some.inj hg
 have h0:0 < xs.length:=List.length_pos_iff.2 hx
 exact World.block_lt_of_cell? w _ (hc 0 h0)
theorem Aw.step {F F':Nat->Prop} {w w':World} {v:Value} {xs:List Nat} (h:Aw F w v xs) (s:Step F w F' w'):Aw F' w' v xs :=
 ⟨h.vec.upd s.upd h.off,fun hx g hg hf=>by
   rcases s.sub g hf with h1 | h1
   ·exact h.off hx g hg h1
   ·have:=h.vec.block hx hg;omega⟩
theorem Aw.keep {F:Nat->Prop} {w w':World} {v:Value} {xs:List Nat} (h:Aw F w v xs) (g:w.grownBy w' none):Aw F w' v xs:=h.step (Step.new g)
theorem Part_a.aw {F:Nat->Prop} {w w':World} {v:Value} {xs:List Nat} (h:Part_a w.heap.size w' v xs) (hF:∀ i,F i->i < w.heap.size):Aw F w' v xs :=
 ⟨h.vec,fun _ g hg hf=>by have h1:=(h.lt hg).1;have h2:=hF g hf;omega⟩
theorem Own.aw {F:Nat->Prop} {w w':World} {v:Value} {xs:List Nat} (h:Own w.heap.size w' v xs) (hF:∀ i,F i->i < w.heap.size):Aw F w' v xs:=h.part.aw hF
theorem Base.aw {w0 w:World} {F:Nat->Prop} {v:Value} {xs:List Nat} (h:Base w0 F w) (hv:Vec w0 v xs):Aw F w v xs :=
 ⟨hv.keep h.grown,fun hx g hg hf=>by have h1:=h.lo g hf;have h2:=hv.block hx hg;omega⟩
theorem Base.step {w0 w w':World} {F F':Nat->Prop} (h:Base w0 F w) (s:Step F w F' w'):Base w0 F' w':=by
 obtain⟨h1,h2⟩:=s.low h.grown h.lo
 exact⟨h1,h2⟩
theorem Base.keep {w0 w w':World} {F:Nat->Prop} (h:Base w0 F w) (g:w.grownBy w' none):Base w0 F w':=h.step (Step.new g)
section
variable {F:Nat->Prop} {w:World} {a:Nat} {R:AM.Raw}
theorem write_at (h:Is F w a R) {d k:Int} {v:Value} {b:List Nat} (hv:Aw F w v b) (hL:R.L.length<=1000000) {c:Int} {R':AM.Raw} (h1:((R.writes d k b).1:Int)=c) (h2:(R.writes d k b).2=R') :
 Calls Tryz.prog 72 #[ptr a,.int .i64 d,.int .i64 k,v] w fun e w'=>e=.returned (.int .i64 c)/\∃ F',Is F' w' a R'/\Step F w F' w':=by
 subst h1
 subst h2
 exact write_any h d k hv.vec hv.off hL
theorem crash_at (h:Is F w a R) (hL:R.L.length<=1000000) {v:Value} {ps:List Nat} (hv:Aw F w v ps) {R':AM.Raw} (h2:R.crash ps=R') :
 Calls Tryz.prog 19 #[ptr a,v] w fun e w'=>e=.returned (.tuple #[])/\∃ F',Is F' w' a R'/\Step F w F' w':=by
 subst h2
 refine (crash_yes h hL hv.vec hv.off).mono ?_
 rintro e w' ⟨rfl,h3,h4⟩
 exact⟨rfl,F,h3,h4⟩
theorem lose_at (h:Is F w a R) {d:Int} (hL:R.L.length<=1000000) {c:Int} {R':AM.Raw} (h1:((R.lose d).1:Int)=c) (h2:(R.lose d).2=R') :
 Calls Tryz.prog 13 #[ptr a,.int .i64 d] w fun e w'=>e=.returned (.int .i64 c)/\∃ F',Is F' w' a R'/\Step F w F' w':=by
 subst h1
 subst h2
 refine (lose_any h d hL).mono ?_
 rintro e w' ⟨rfl,h3,h4⟩
 exact⟨rfl,F,h3,h4⟩
theorem replace_at (h:Is F w a R) {d:Int} {c:Int} {R':AM.Raw} (h1:((R.replace d).1:Int)=c) (h2:(R.replace d).2=R') :
 Calls Tryz.prog 14 #[ptr a,.int .i64 d] w fun e w'=>e=.returned (.int .i64 c)/\∃ F',Is F' w' a R'/\Step F w F' w':=by
 subst h1
 subst h2
 exact replace_any h d
theorem barrier_at (h:Is F w a R) {c:Int} {R':AM.Raw} (h1:(R.barrier.1:Int)=c) (h2:R.barrier.2=R') :
 Calls Tryz.prog 16 #[ptr a] w fun e w'=>e=.returned (.int .i64 c)/\∃ F',Is F' w' a R'/\Step F w F' w':=by
 subst h1
 subst h2
 refine (barrier_yes h).mono ?_
 rintro e w' ⟨rfl,h3,h4⟩
 exact⟨rfl,F,h3,h4⟩
theorem fuse_at (h:Is F w a R) {n:Int} (hn:n < 9223372036854775808) {R':AM.Raw} (h2:R.fused n=R') :
 Calls Tryz.prog 18 #[ptr a,.int .i64 n] w fun e w'=>e=.returned (.tuple #[])/\∃ F',Is F' w' a R'/\Step F w F' w':=by
 subst h2
 refine (fuse_yes h hn).mono ?_
 rintro e w' ⟨rfl,h3,h4⟩
 exact⟨rfl,F,h3,h4⟩
end
theorem new_at {w:World} {N n:Nat} (h1:1<=N) (h2:N<=255) (h3:1<=n) (h4:n<=4096) {c d:Int} (hc:(N:Int)=c) (hd:(n:Int)=d) :
 Calls Tryz.prog 22 #[.int .i64 c,.int .i64 d] w fun e w'=>∃ a,e=.returned (.tuple #[ptr a,.int .i64 0])/\∃ F,Is F w' a (AM.Raw.new N n)/\Base w F w':=by
 subst hc
 subst hd
 refine (new_yes h1 h2 h3 h4).mono ?_
 rintro e w' ⟨a,rfl,⟨F,h5,h6⟩,h7⟩
 exact⟨a,rfl,F,h5,h7,h6⟩
end Go.Proofs.YtlklmhojadlncaaGreat
namespace Go.Proofs.YtlklmhojadlncaaGreat
namespace SM
def z (n:Nat):List Nat:=List.replicate n 0
theorem z_len (n:Nat):(z n).length=n:=by simp[z]
theorem z_small (n:Nat):∀ x ∈ z n,x < 256:=fun x hx=>by rw[(List.mem_replicate.1 hx).2];decide
theorem z_drop (n k:Nat):(z n).drop k=z (n - k):=by simp[z]
def mk (n:Nat):List Nat:=(List.range 8).map fun i=>n / 256 ^ (7 - i) % 256
def val (xs:List Nat):Nat->Nat
 | 0=>0
 | k+1=>256 * val xs k+xs.getD k 0
def sec (n:Nat) (ld:List Nat):List Nat:=mk n++(ld++z (56 - ld.length))
theorem mk_len (n:Nat):(mk n).length=8:=by simp[mk]
theorem mk_small (n:Nat):∀ x ∈ mk n,x < 256:=fun x hx=>by
 obtain⟨i,_,rfl⟩:=List.mem_map.1 hx
 exact Nat.mod_lt _ (by decide)
theorem mk_get (n:Nat) {i:Nat} (h:i < 8):(mk n).getD i 0=n / 256 ^ (7 - i) % 256:=by simp[mk,List.getD,h]
theorem sec_len {n:Nat} {ld:List Nat} (h:ld.length<=56):(sec n ld).length=64:=by simp[sec,mk_len,z_len];omega
theorem sec_small {n:Nat} {ld:List Nat} (h:∀ x ∈ ld,x < 256):∀ x ∈ sec n ld,x < 256:=fun x hx=>by
 rcases List.mem_append.1 hx with h1 | h1
 ·exact mk_small n x h1
 ·rcases List.mem_append.1 h1 with h2 | h2
  ·exact h x h2
  ·exact z_small _ x h2
theorem getD_lt {xs:List Nat} (h:∀ x ∈ xs,x < 256) (k:Nat):xs.getD k 0 < 256:=by
 by_cases hk:k < xs.length
 ·exact h _ (by simp[List.getD,hk])
 ·simp[List.getD,hk]
theorem ext_getD {xs ys:List Nat} (hl:xs.length=ys.length) (h:∀ i,i < xs.length->xs.getD i 0=ys.getD i 0):xs=ys:=by
 apply List.ext_getElem hl
 intro i h1 h2
 have:=h i h1
 simpa [List.getD,h1,h2] using this
theorem val_lt {xs:List Nat} (h:∀ x ∈ xs,x < 256):∀ k,val xs k < 256 ^ k
 | 0=>by simp[val]
 | k+1=>by
   have h1:=val_lt h k
   have h2:=getD_lt h k
   show 256 * val xs k+xs.getD k 0 < _
   rw[Nat.pow_succ]
   omega
theorem val_app (xs ys:List Nat):∀ k,k<=xs.length->val (xs++ys) k=val xs k
 | 0,_=>rfl
 | k+1,h=>by
   show 256 * val (xs++ys) k+(xs++ys).getD k 0=256 * val xs k+xs.getD k 0
   rw[val_app xs ys k (by omega)]
   have:(xs++ys).getD k 0=xs.getD k 0:=by
    have hk:k < xs.length:=by omega
    simp only[List.getD]
    rw[List.getElem?_append_left hk]
   rw[this]
theorem val_mkTo {n:Nat} (h:n < 256 ^ 8):∀ k,k<=8->val (mk n) k=n / 256 ^ (8 - k)
 | 0,_=>by
   show 0=n / 256 ^ 8
   exact (Nat.div_eq_of_lt h).symm
 | k+1,hk=>by
   show 256 * val (mk n) k+(mk n).getD k 0=_
   rw[val_mkTo h k (by omega),mk_get n (by omega)]
   have e1:8 - k=(7 - k)+1:=by omega
   have e2:8 - (k+1)=7 - k:=by omega
   rw[e1,e2,Nat.pow_succ,<- Nat.div_div_eq_div_mul]
   omega
theorem val_mk {n:Nat} (h:n < 256 ^ 8):val (mk n) 8=n:=by
 rw[val_mkTo h 8 (Nat.le_refl _)];simp
theorem val_sec {n:Nat} (h:n < 256 ^ 8) (ld:List Nat):val (sec n ld) 8=n:=by
 unfold sec
 rw[val_app _ _ 8 (by rw[mk_len];exact Nat.le_refl _),val_mk h]
end SM
namespace CM
def ld (xs:List Nat) (i:Nat):List Nat:=(xs.drop (56 * i)).take 56
def secs (n:Nat) (xs:List Nat) (m:Nat):List (List Nat):=(List.range m).map fun i=>SM.sec n (ld xs i)
def fit (n:Nat) (xs:List Nat):Bool:=decide (n ≠ 0)&&(decide (0 < xs.length)&&(decide (xs.length % 56=0)&&decide (xs.length<=3584)))
def putS (n:Nat) (xs:List Nat):List (List Nat):=if fit n xs then secs n xs (xs.length / 56) else []
def putE (n:Nat) (xs:List Nat):Int:=if n=0 then 1 else if xs.length=0\/xs.length % 56 ≠ 0 then 4 else if 3584 < xs.length then 3 else 0
def okTo (X:List (List Nat)) (k:Nat):Prop:=∀ j,j < k->(X.getD j []).length=64/\SM.val (X.getD j []) 8=SM.val (X.getD 0 []) 8/\SM.val (X.getD j []) 8 ≠ 0
def okB (X:List (List Nat)) (k:Nat):Bool:=(List.range k).all fun j=>((X.getD j []).length==64)&&((SM.val (X.getD j []) 8==SM.val (X.getD 0 []) 8)&&(SM.val (X.getD j []) 8 != 0))
theorem okB_iff (X:List (List Nat)) (k:Nat):okB X k=true ↔ okTo X k:=by
 simp only[okB,okTo,List.all_eq_true,List.mem_range,Bool.and_eq_true,beq_iff_eq,bne_iff_ne]
def yes (X:List (List Nat)):Bool:=decide (1<=X.length)&&(decide (X.length<=64)&&okB X X.length)
def tN (X:List (List Nat)):Nat:=if yes X then SM.val (X.getD 0 []) 8 else 0
def loads (X:List (List Nat)) (k:Nat):List Nat:=((X.take k).map fun x=>x.drop 8).flatten
def tL (X:List (List Nat)):List Nat:=if yes X then loads X X.length else []
theorem ld_len {xs:List Nat} {i:Nat} (h:56 * i+56<=xs.length):(ld xs i).length=56:=by simp[ld];omega
theorem ld_small {xs:List Nat} (h:∀ x ∈ xs,x < 256) (i:Nat):∀ x ∈ ld xs i,x < 256:=fun x hx=>h x (List.mem_of_mem_drop (List.mem_of_mem_take hx))
theorem secs_len (n:Nat) (xs:List Nat) (m:Nat):(secs n xs m).length=m:=by simp[secs]
theorem secs_get (n:Nat) (xs:List Nat) {m j:Nat} (h:j < m):(secs n xs m).getD j []=SM.sec n (ld xs j):=by simp[secs,List.getD,h]
theorem fit_iff {n:Nat} {xs:List Nat}:fit n xs=true ↔ n ≠ 0/\0 < xs.length/\xs.length % 56=0/\xs.length<=3584:=by simp[fit]
theorem putE_fit (n:Nat) (xs:List Nat):putE n xs=0 ↔ fit n xs=true:=by
 rw[fit_iff]
 unfold putE
 by_cases h1:n=0
 ·simp[h1]
 ·rw[if_neg h1]
  by_cases h2:xs.length=0\/xs.length % 56 ≠ 0
  ·rw[if_pos h2];simp only[Int.reduceEq,false_iff];omega
  ·rw[if_neg h2]
   by_cases h3:3584 < xs.length
   ·rw[if_pos h3];simp only[Int.reduceEq,false_iff];omega
   ·rw[if_neg h3];simp only[true_iff];omega
theorem yes_iff {X:List (List Nat)}:yes X=true ↔ 1<=X.length/\X.length<=64/\okTo X X.length:=by
 rw[<- okB_iff];simp[yes]
theorem loads_zero (X:List (List Nat)):loads X 0=[]:=by simp[loads]
theorem loads_succ (X:List (List Nat)) {k:Nat} (h:k < X.length):loads X (k+1)=loads X k++(X.getD k []).drop 8:=by
 have e:X[k]=X.getD k []:=by simp[List.getD,h]
 simp[loads,List.take_succ_eq_append_getElem h,e]
theorem loads_len {X:List (List Nat)}:∀ {k:Nat},k<=X.length->(∀ j,j < k->(X.getD j []).length=64)->(loads X k).length=56 * k
 | 0,_,_=>by simp[loads]
 | k+1,h,h2=>by
   rw[loads_succ X (by omega),List.length_append,loads_len (by omega) (fun j hj=>h2 j (by omega)),List.length_drop,h2 k (by omega)]
   omega
theorem loads_secs (n:Nat) (xs:List Nat) (m:Nat) (h:56 * m<=xs.length):∀ k,k<=m->loads (secs n xs m) k=xs.take (56 * k)
 | 0,_=>by simp[loads]
 | k+1,hk=>by
   rw[loads_succ _ (by rw[secs_len];omega),loads_secs n xs m h k (by omega),secs_get n xs (by omega)]
   have e1:(SM.sec n (ld xs k)).drop 8=ld xs k:=by
    unfold SM.sec
    rw[ld_len (by omega)]
    simp[SM.mk_len,SM.z]
   rw[e1]
   unfold ld
   have e2:56 * (k+1)=56 * k+56:=by omega
   rw[e2,List.take_add]
theorem okTo_secs {n:Nat} (h0:n ≠ 0) (hn:n < 256 ^ 8) (xs:List Nat) (m:Nat) (h:56 * m<=xs.length):okTo (secs n xs m) m:=fun j hj=>by
 rw[secs_get n xs hj,secs_get n xs (j:=0) (by omega)]
 exact⟨SM.sec_len (by rw[ld_len (by omega)];exact Nat.le_refl _),by rw[SM.val_sec hn,SM.val_sec hn],by rw[SM.val_sec hn];exact h0⟩
theorem put_take {n:Nat} {xs:List Nat} (hn:n < 256 ^ 8) (h:fit n xs=true):yes (putS n xs)=true/\tN (putS n xs)=n/\tL (putS n xs)=xs:=by
 obtain⟨h0,h1,h2,h3⟩:=fit_iff.1 h
 have e:putS n xs=secs n xs (xs.length / 56):=by simp[putS,h]
 rw[e]
 have hl:56 * (xs.length / 56)=xs.length:=by omega
 have hy:yes (secs n xs (xs.length / 56))=true:=by
  rw[yes_iff,secs_len]
  exact⟨by omega,by omega,okTo_secs h0 hn xs _ (by omega)⟩
 refine⟨hy,?_,?_⟩
 ·unfold tN
  rw[if_pos hy,secs_get n xs (by omega),SM.val_sec hn]
 ·unfold tL
  rw[if_pos hy,loads_secs n xs _ (by omega) _ (by rw[secs_len];exact Nat.le_refl _),secs_len,hl,List.take_of_length_le (Nat.le_refl _)]
def mix (c:List Bool) (x y:List (List Nat)) (k:Nat):List (List Nat):=(List.range k).map fun i=>if c.getD i false=true then y.getD i [] else x.getD i []
def cnt (c:List Bool) (k:Nat):Nat:=((List.range k).filter fun i=>c.getD i false).length
theorem mix_len (c:List Bool) (x y:List (List Nat)) (k:Nat):(mix c x y k).length=k:=by simp[mix]
theorem mix_get (c:List Bool) (x y:List (List Nat)) {k j:Nat} (h:j < k):(mix c x y k).getD j []=if c.getD j false=true then y.getD j [] else x.getD j []:=by simp[mix,List.getD,h];rfl
theorem cnt_succ (c:List Bool) (k:Nat):cnt c (k+1)=cnt c k+if c.getD k false=true then 1 else 0:=by
 simp only[cnt,List.range_succ,List.filter_append,List.length_append]
 split <;> simp_all
theorem cnt_le (c:List Bool):∀ k,cnt c k<=k
 | 0=>by simp[cnt]
 | k+1=>by have:=cnt_le c k;rw[cnt_succ];split <;> omega
theorem cnt_none (c:List Bool):∀ {k:Nat},cnt c k=0->∀ j,j < k->c.getD j false=false
 | 0,_,j,hj=>by omega
 | k+1,h,j,hj=>by
   rw[cnt_succ] at h
   by_cases e:j=k
   ·subst e
    cases hc:c.getD j false with
    | false=>rfl
    | true=>rw[hc] at h;simp at h
   ·exact cnt_none c (k:=k) (by omega) j (by omega)
theorem cnt_all (c:List Bool):∀ {k:Nat},cnt c k=k->∀ j,j < k->c.getD j false=true
 | 0,_,j,hj=>by omega
 | k+1,h,j,hj=>by
   rw[cnt_succ] at h
   have h2:=cnt_le c k
   by_cases e:j=k
   ·subst e
    cases hc:c.getD j false with
    | true=>rfl
    | false=>rw[hc] at h;simp at h;omega
   ·refine cnt_all c (k:=k) ?_ j (by omega)
    split at h <;> omega
theorem mix_none {c:List Bool} {x y:List (List Nat)} {k:Nat} (h:cnt c k=0) (hx:x.length=k):mix c x y k=x:=by
 apply List.ext_getElem
 ·rw[mix_len,hx]
 ·intro i h1 h2
  have e1:(mix c x y k)[i]=(mix c x y k).getD i []:=by simp[List.getD,h1]
  have e2:x[i]=x.getD i []:=by simp[List.getD,h2]
  rw[e1,e2,mix_get c x y (by omega),cnt_none c h i (by omega)]
  simp
theorem mix_all {c:List Bool} {x y:List (List Nat)} {k:Nat} (h:cnt c k=k) (hy:y.length=k):mix c x y k=y:=by
 apply List.ext_getElem
 ·rw[mix_len,hy]
 ·intro i h1 h2
  have e1:(mix c x y k)[i]=(mix c x y k).getD i []:=by simp[List.getD,h1]
  have e2:y[i]=y.getD i []:=by simp[List.getD,h2]
  rw[e1,e2,mix_get c x y (by omega),cnt_all c h i (by omega)]
  simp
theorem some_of {c:List Bool} {k:Nat} (h0:cnt c k ≠ 0) (hk:cnt c k ≠ k):(∃ i,i < k/\c.getD i false=true)/\∃ j,j < k/\c.getD j false=false:=by
 constructor
 ·refine Classical.byContradiction fun hn=>h0 ?_
  have:∀ i,i < k->c.getD i false=false:=fun i hi=>by
   cases e:c.getD i false with
   | false=>rfl
   | true=>exact absurd ⟨i,hi,e⟩ hn
  clear hn h0 hk
  induction k with
  | zero=>simp[cnt]
  | succ k ih=>rw[cnt_succ,ih (fun i hi=>this i (by omega)),this k (by omega)];simp
 ·refine Classical.byContradiction fun hn=>hk ?_
  have:∀ i,i < k->c.getD i false=true:=fun i hi=>by
   cases e:c.getD i false with
   | true=>rfl
   | false=>exact absurd ⟨i,hi,e⟩ hn
  clear hn h0 hk
  induction k with
  | zero=>simp[cnt]
  | succ k ih=>rw[cnt_succ,ih (fun i hi=>this i (by omega)),this k (by omega)];simp
theorem mix_yes {c:List Bool} {n m k:Nat} {xa xb:List Nat} (hn:n < 256 ^ 8) (hm:m < 256 ^ 8) (m0:m ≠ 0) (h1:1<=k) (h64:k<=64) (ha:56 * k<=xa.length) (hb:56 * k<=xb.length) (h0:cnt c k ≠ 0) (hk:cnt c k ≠ k) :
 yes (mix c (secs n xa k) (secs m xb k) k)=decide (n=m):=by
 have hv:∀ j,j < k->SM.val ((mix c (secs n xa k) (secs m xb k) k).getD j []) 8=if c.getD j false=true then m else n:=fun j hj=>by
  rw[mix_get c _ _ hj]
  split
  ·rw[secs_get m xb hj,SM.val_sec hm]
  ·rw[secs_get n xa hj,SM.val_sec hn]
 have hl:∀ j,j < k->((mix c (secs n xa k) (secs m xb k) k).getD j []).length=64:=fun j hj=>by
  rw[mix_get c _ _ hj]
  split
  ·rw[secs_get m xb hj,SM.sec_len (by rw[ld_len (by omega)];exact Nat.le_refl _)]
  ·rw[secs_get n xa hj,SM.sec_len (by rw[ld_len (by omega)];exact Nat.le_refl _)]
 rw[Bool.eq_iff_iff,decide_eq_true_eq,yes_iff,mix_len]
 constructor
 ·rintro ⟨_,_,ok⟩
  obtain⟨⟨i,hi,ei⟩,j,hj,ej⟩:=some_of h0 hk
  have h2:=(ok i hi).2.1
  have h3:=(ok j hj).2.1
  rw[hv i hi,ei] at h2
  rw[hv j hj,ej] at h3
  simp at h2 h3
  exact h3.trans h2.symm
 ·rintro rfl
  refine⟨h1,h64,fun j hj=>⟨hl j hj,?_,?_⟩⟩
  ·rw[hv j hj,hv 0 (by omega)];split <;> split <;> rfl
  ·rw[hv j hj];split <;> assumption
end CM
namespace SP
structure Geo where
 k:Nat
 n:Nat
 s:Nat
 f:Nat
structure Geo.Ok (g:Geo) (R:AM.Raw):Prop where
 k1:1<=g.k
 kn:g.k < g.n
 n255:g.n<=255
 s1:1<=g.s
 s2:g.s<=128
 room:g.f+8 * g.s<=R.n
 len:R.C.length=g.n
def why (R:AM.Raw) (g:Geo) (slot:Int):Nat:=if R.off then 8 else if 0<=slot/\slot < g.s then 0 else 6
def whyD (R:AM.Raw) (g:Geo) (d slot:Int):Nat:=if why R g slot ≠ 0 then why R g slot else if 0<=d/\d < g.n then 0 else 6
theorem why_zero {R:AM.Raw} {g:Geo} {slot:Int} (h:why R g slot=0):R.off=false/\0<=slot/\slot < g.s:=by
 unfold why at h
 split at h
 ·omega
 ·split at h
  ·rename_i h1 h2
   exact⟨by simpa using h1,h2⟩
  ·omega
theorem whyD_zero {R:AM.Raw} {g:Geo} {d slot:Int} (h:whyD R g d slot=0):why R g slot=0/\0<=d/\d < g.n:=by
 unfold whyD at h
 split at h
 ·omega
 ·split at h
  ·rename_i h1 h2
   exact⟨by omega,h2⟩
  ·omega
def sects (R:AM.Raw) (g:Geo) (slot d:Nat):List (List Nat):=if R.on (d:Int) then (List.range 8).map (fun i=>AM.look R.C d (g.f+8 * slot+i)) else []
def sectTo (R:AM.Raw) (g:Geo) (slot d i:Nat):List (List Nat):=(List.range i).map (fun i=>AM.look R.C d (g.f+8 * slot+i))
theorem sectTo_len (R:AM.Raw) (g:Geo) (slot d i:Nat):(sectTo R g slot d i).length=i:=by simp[sectTo]
theorem sectTo_succ (R:AM.Raw) (g:Geo) (slot d i:Nat):sectTo R g slot d (i+1)=sectTo R g slot d i++[AM.look R.C d (g.f+8 * slot+i)]:=by simp[sectTo,List.range_succ]
theorem sects_on {R:AM.Raw} {d:Nat} (h:R.on (d:Int)=true) (g:Geo) (slot:Nat):sects R g slot d=sectTo R g slot d 8:=by simp[sects,sectTo,h]
theorem sects_off {R:AM.Raw} {d:Nat} (h:R.on (d:Int)=false) (g:Geo) (slot:Nat):sects R g slot d=[]:=by simp[sects,h]
theorem on_iff_C {R:AM.Raw} {d:Nat}:R.on (d:Int)=(R.C.getD d none).isSome:=by
 by_cases hl:d < R.C.length
 ·simp[AM.Raw.on,hl]
 ·simp[AM.Raw.on,hl,List.getD]
theorem fitG {g:Geo} {R:AM.Raw} (h:g.Ok R) {slot i:Nat} (hs:slot < g.s) (hi:i < 8):g.f+8 * slot+i < R.n:=by
 have:=h.room
 omega
theorem reach_on {g:Geo} {R:AM.Raw} (h:g.Ok R) (h0:R.off=false) {slot d i:Nat} (hs:slot < g.s) (hi:i < 8) (hd:d < g.n):R.reach (d:Int) ((g.f+8 * slot+i:Nat):Int)=if R.on (d:Int) then 0 else 9:=by
 have h1:=fitG h hs hi
 have h2:=h.len
 unfold AM.Raw.reach
 rw[h0]
 simp only[Bool.false_eq_true,if_false]
 rw[if_pos ⟨by omega,by omega,by omega,by omega⟩]
def yesD (R:AM.Raw) (g:Geo) (slot d:Nat):Bool:=CM.yes (sects R g slot d)
def numD (R:AM.Raw) (g:Geo) (slot d:Nat):Nat:=CM.tN (sects R g slot d)
def datD (R:AM.Raw) (g:Geo) (slot d:Nat):List Nat:=CM.tL (sects R g slot d)
theorem yes_on {R:AM.Raw} {g:Geo} {slot d:Nat} (h:yesD R g slot d=true):R.on (d:Int)=true:=by
 cases c:R.on (d:Int)
 ·unfold yesD at h
  rw[sects_off c] at h
  simp[CM.yes] at h
 ·rfl
theorem dat_len {R:AM.Raw} {g:Geo} {slot d:Nat} (h:yesD R g slot d=true):(datD R g slot d).length=448:=by
 have hon:=yes_on h
 unfold yesD at h
 have h':=(CM.yes_iff.1 h)
 unfold datD CM.tL
 rw[if_pos h]
 rw[sects_on hon] at h' ⊢
 rw[sectTo_len] at h' ⊢
 rw[CM.loads_len (by rw[sectTo_len];omega) (fun j hj=>(h'.2.2 j hj).1)]
def has (R:AM.Raw) (g:Geo) (slot m d:Nat):Bool:=yesD R g slot d&&(numD R g slot d==m)
def hits (R:AM.Raw) (g:Geo) (slot m j:Nat):List Nat:=(List.range j).filter (has R g slot m)
theorem hits_zero (R:AM.Raw) (g:Geo) (slot m:Nat):hits R g slot m 0=[]:=rfl
theorem hits_succ (R:AM.Raw) (g:Geo) (slot m j:Nat):hits R g slot m (j+1)=hits R g slot m j++(if has R g slot m j then [j] else []):=by
 unfold hits
 rw[List.range_succ,List.filter_append]
 congr 1
 cases h:has R g slot m j <;> simp[h]
theorem hits_mem {R:AM.Raw} {g:Geo} {slot m j x:Nat} (h:x ∈ hits R g slot m j):x < j/\has R g slot m x=true:=by
 unfold hits at h
 obtain⟨h1,h2⟩:=List.mem_filter.1 h
 exact⟨List.mem_range.1 h1,h2⟩
theorem hits_len_le (R:AM.Raw) (g:Geo) (slot m j:Nat):(hits R g slot m j).length<=j:=by
 have:=List.length_filter_le (has R g slot m) (List.range j)
 simpa [hits] using this
theorem hits_pre {R:AM.Raw} {g:Geo} {slot m j i:Nat} (h:j<=i):∃ l,hits R g slot m i=hits R g slot m j++l:=by
 induction i with
 | zero=>obtain rfl:j=0:=by omega
         exact⟨[],by simp⟩
 | succ i ih =>
   by_cases c:j=i+1
   ·subst c;exact⟨[],by simp⟩
   ·obtain⟨l,hl⟩:=ih (by omega)
    rw[hits_succ,hl]
    exact⟨_,List.append_assoc _ _ _⟩
theorem hits_take {R:AM.Raw} {g:Geo} {slot m j:Nat} (hj:j<=g.n) (h:(hits R g slot m j).length=g.k):hits R g slot m j=(hits R g slot m g.n).take g.k:=by
 obtain⟨l,hl⟩:=hits_pre (R:=R) (g:=g) (slot:=slot) (m:=m) hj
 rw[hl,<- h,List.take_left]
theorem hits_pair (R:AM.Raw) (g:Geo) (slot m j:Nat):(hits R g slot m j).Pairwise (· < ·):=by
 unfold hits
 exact List.Pairwise.filter _ (List.pairwise_lt_range)
def found (R:AM.Raw) (g:Geo) (slot m:Nat):List Nat:=(hits R g slot m g.n).take g.k
def told (R:AM.Raw) (g:Geo) (slot:Nat) (l:List Nat):List (List Nat):=l.map (datD R g slot)
def layTo (R:AM.Raw) (g:Geo) (slot d:Nat) (S:List (List Nat)):Nat->Nat × AM.Raw
 | 0=>(0,R)
 | j+1=>if (layTo R g slot d S j).1=0 then (layTo R g slot d S j).2.writes (d:Int) ((g.f+8 * slot+j:Nat):Int) (S.getD j []) else layTo R g slot d S j
def lays (R:AM.Raw) (g:Geo) (slot d m:Nat) (part:List Nat):Nat × AM.Raw:=layTo R g slot d (CM.secs m part 8) 8
theorem layTo_succ {R:AM.Raw} {g:Geo} {slot d:Nat} {S:List (List Nat)} {j:Nat} (h:(layTo R g slot d S j).1=0):layTo R g slot d S (j+1)=(layTo R g slot d S j).2.writes (d:Int) ((g.f+8 * slot+j:Nat):Int) (S.getD j []):=by
 simp[layTo,h]
theorem layTo_stop {R:AM.Raw} {g:Geo} {slot d:Nat} {S:List (List Nat)} {j:Nat} (h:(layTo R g slot d S j).1 ≠ 0):∀ i,j<=i->layTo R g slot d S i=layTo R g slot d S j:=fun i hi=>by
 induction i with
 | zero=>obtain rfl:j=0:=by omega
         rfl
 | succ i ih =>
   by_cases c:j=i+1
   ·subst c;rfl
   ·have:=ih (by omega)
    simp[layTo,this,h]
structure Kept (R R':AM.Raw):Prop where
 len:R'.C.length=R.C.length
 n:R'.n=R.n
 on:∀ d:Int,R'.on d=R.on d
theorem Kept.refl (R:AM.Raw):Kept R R:=⟨rfl,rfl,fun _=>rfl⟩
theorem Kept.trans {R R' R'':AM.Raw} (h:Kept R R') (k:Kept R' R''):Kept R R'':=⟨k.len.trans h.len,k.n.trans h.n,fun d=>(k.on d).trans (h.on d)⟩
theorem burnt_kept (R:AM.Raw):Kept R R.burnt:=by
 unfold AM.Raw.burnt
 split
 ·exact Kept.refl R
 ·exact⟨rfl,rfl,fun _=>rfl⟩
theorem fly_kept (R:AM.Raw) (d k:Nat) (b:List Nat):Kept R (R.fly d k b):=by
 refine⟨by simp[AM.Raw.fly,AM.lay_len],rfl,fun e=>?_⟩
 unfold AM.Raw.on AM.Raw.fly
 simp only[AM.lay_len,AM.lay_on]
theorem writes_kept (R:AM.Raw) (d k:Int) (b:List Nat):Kept R (R.writes d k b).2:=by
 unfold AM.Raw.writes
 split
 ·exact Kept.refl R
 ·split
  ·exact Kept.refl R
  ·split
   ·exact burnt_kept R
   ·exact (burnt_kept R).trans (fly_kept _ _ _ _)
theorem layTo_kept (R:AM.Raw) (g:Geo) (slot d:Nat) (S:List (List Nat)):∀ j,Kept R (layTo R g slot d S j).2
 | 0=>Kept.refl R
 | j+1=>by
   unfold layTo
   split
   ·exact (layTo_kept R g slot d S j).trans (writes_kept _ _ _ _)
   ·exact layTo_kept R g slot d S j
theorem Geo.Ok.kept {g:Geo} {R R':AM.Raw} (h:g.Ok R) (k:Kept R R'):g.Ok R':=⟨h.k1,h.kn,h.n255,h.s1,h.s2,by rw[k.n];exact h.room,by rw[k.len];exact h.len⟩
def wrTo (R:AM.Raw) (g:Geo) (slot m:Nat) (E:List (List Nat)):Nat->Nat × AM.Raw
 | 0=>(0,R)
 | d+1=>if (wrTo R g slot m E d).1=0/\R.on (d:Int)=true then lays (wrTo R g slot m E d).2 g slot d m (E.getD d []) else wrTo R g slot m E d
theorem wrTo_on {R:AM.Raw} {g:Geo} {slot m:Nat} {E:List (List Nat)} {d:Nat} (h:(wrTo R g slot m E d).1=0) (ho:R.on (d:Int)=true):wrTo R g slot m E (d+1)=lays (wrTo R g slot m E d).2 g slot d m (E.getD d []):=by
 simp[wrTo,h,ho]
theorem wrTo_off {R:AM.Raw} {g:Geo} {slot m:Nat} {E:List (List Nat)} {d:Nat} (ho:R.on (d:Int)=false):wrTo R g slot m E (d+1)=wrTo R g slot m E d:=by
 simp[wrTo,ho]
theorem wrTo_stop {R:AM.Raw} {g:Geo} {slot m:Nat} {E:List (List Nat)} {j:Nat} (h:(wrTo R g slot m E j).1 ≠ 0):∀ i,j<=i->wrTo R g slot m E i=wrTo R g slot m E j:=fun i hi=>by
 induction i with
 | zero=>obtain rfl:j=0:=by omega
         rfl
 | succ i ih =>
   by_cases c:j=i+1
   ·subst c;rfl
   ·have:=ih (by omega)
    simp[wrTo,this,h]
theorem wrTo_kept (R:AM.Raw) (g:Geo) (slot m:Nat) (E:List (List Nat)):∀ d,Kept R (wrTo R g slot m E d).2
 | 0=>Kept.refl R
 | d+1=>by
   unfold wrTo
   split
   ·exact (wrTo_kept R g slot m E d).trans (layTo_kept _ _ _ _ _ _)
   ·exact wrTo_kept R g slot m E d
end SP
end Go.Proofs.YtlklmhojadlncaaGreat
