/- Packed: Vec, Mem, Rowsets, Grid, Math. -/
import Derived.Test.YtlklmhojadlncaaGreatChecked
import Derived.WalkKit
import Derived.WalkSpells
import Derived.WalkLawsBesides
import Derived.Deep.OwnRows
import Derived.Laws.BytesArg
import Derived.Deep.RegionHeld3
import Derived.Maps.AppendAt
import Derived.Laws.CopyOwn
import Derived.Deep.DrawnRows
set_option maxRecDepth 100000
namespace Go.Proofs.YtlklmhojadlncaaGreat
open Go.RowKit
abbrev bv (x:Nat):Value:=.int .u8 (x:Int)
structure Vec (w:World) (v:Value) (xs:List Nat):Prop where
 small:∀ x ∈ xs,x < 256
 len:xs.length<=140737488351232
 form:∃ p cap,v=.slice p xs.length cap/\xs.length<=cap/\cap<=maxLen /\
  (xs ≠ []->∃ b off,p=some ⟨b,off,none⟩/\∀ j,j < xs.length->w.cell? ⟨b,off+j,none⟩=some (bv (xs.getD j 0)))
structure Own (B:Nat) (w:World) (v:Value) (xs:List Nat):Prop where
 small:∀ x ∈ xs,x < 256
 len:xs.length<=140737488351232
 row:w.ownsRow B 5 1 v xs.length (xs.map bv)
structure Cells (w:World) (v:Value) (vs:List Value):Prop where
 len:vs.length * 24<=140737488351232
 form:∃ p cap,v=.slice p vs.length cap/\vs.length<=cap/\cap<=maxLen /\
  (vs ≠ []->∃ b off,p=some ⟨b,off,none⟩/\∀ j,j < vs.length->w.cell? ⟨b,off+j,none⟩=some (vs.getD j undef))
structure Mat (w:World) (v:Value) (vs:List Value) (xss:List (List Nat)):Prop where
 row:Cells w v vs
 same:vs.length=xss.length
 vec:∀ j,j < xss.length->Vec w (vs.getD j undef) (xss.getD j [])
def Lo (B:Nat) (v:Value):Prop:=∀ k,v.ownBlock=some k->B<=k
def Hi (B:Nat) (v:Value):Prop:=∀ k,v.ownBlock=some k->k < B
theorem apart_of {H:Nat} {v u:Value} (hv:Hi H v) (hu:Lo H u):v.ownBlock=none\/v.ownBlock ≠ u.ownBlock:=by
 cases h:v.ownBlock with
 | none=>exact .inl rfl
 | some k =>
   refine .inr fun e=>?_
   have h1:=hv k h
   have h2:=hu k e.symm
   omega
theorem Own.lo {B:Nat} {w:World} {v:Value} {xs:List Nat} (h:Own B w v xs):Lo B v:=fun k hk=>(h.row.lt k hk).1
theorem Own.hi {B:Nat} {w:World} {v:Value} {xs:List Nat} (h:Own B w v xs):Hi w.heap.size v:=fun k hk=>(h.row.lt k hk).2
theorem Own.kept {B:Nat} {w w':World} {v:Value} {xs:List Nat} {row:Option Nat} (h:Own B w v xs) (g:w.grownBy w' row) (ne:v.ownBlock=none\/v.ownBlock ≠ row):Own B w' v xs :=
 ⟨h.small,h.len,h.row.kept g ne⟩
theorem Own.keep {B:Nat} {w w':World} {v:Value} {xs:List Nat} (h:Own B w v xs) (g:w.grownBy w' none):Own B w' v xs :=
 h.kept g (by cases h:v.ownBlock <;> simp)
theorem Vec.kept {w w':World} {v:Value} {xs:List Nat} {row:Option Nat} (h:Vec w v xs) (g:w.grownBy w' row) (ne:v.ownBlock=none\/v.ownBlock ≠ row):Vec w' v xs:=by
 obtain⟨h1,h2,p,cap,rfl,h3,h4,h5⟩:=h
 refine⟨h1,h2,p,cap,rfl,h3,h4,fun hx=>?_⟩
 obtain⟨b,off,rfl,hc⟩:=h5 hx
 refine⟨b,off,rfl,fun j hj=>g.cell (hc j hj) ?_⟩
 rcases ne with ne | ne
 ·simp[Value.ownBlock] at ne
 ·simpa [Value.ownBlock] using ne
theorem Vec.keep {w w':World} {v:Value} {xs:List Nat} (h:Vec w v xs) (g:w.grownBy w' none):Vec w' v xs :=
 h.kept g (by cases h:v.ownBlock <;> simp)
theorem getD_map_bv (xs:List Nat) (j:Nat) (h:j < xs.length):(xs.map bv)[j]?=some (bv (xs.getD j 0)):=by
 simp[List.getD,h]
theorem add_at (g j:Nat):(⟨g,0,none⟩:Addr).add j=⟨g,0+j,none⟩:=by
 unfold Addr.add;split <;> simp_all
theorem add_off (g o j:Nat):(⟨g,o,none⟩:Addr).add j=⟨g,o+j,none⟩:=by
 unfold Addr.add;split <;> simp_all
theorem Own.vec {B:Nat} {w:World} {v:Value} {xs:List Nat} (h:Own B w v xs):Vec w v xs:=by
 refine⟨h.small,h.len,?_⟩
 have hr:=h.row
 rcases h.row.2 with ⟨rfl,hn⟩ | ⟨g,cap,cur,rfl,hb,hg,hc,hm,hs,ht⟩
 ·have:xs=[]:=List.eq_nil_of_length_eq_zero hn
  subst this
  exact⟨none,0,rfl,Nat.le_refl _,by decide,fun h=>absurd rfl h⟩
 ·refine⟨some ⟨g,0,none⟩,cap,rfl,hc,hm,fun _=>⟨g,0,rfl,fun j hj=>?_⟩⟩
  have:=hr.cells (g:=g) rfl j _ (getD_map_bv xs j hj)
  rwa [add_at] at this
theorem grown_trans {a b c:World} {row:Option Nat} (h:a.grownBy b row) (k:b.grownBy c row):a.grownBy c row :=
 ⟨k.os.trans h.os,k.tape.trans h.tape,k.output.trans h.output,Nat.le_trans h.size k.size,fun i hi hr=>(k.block i (Nat.lt_of_lt_of_le hi h.size) hr).trans (h.block i hi hr)⟩
theorem grown_any {a b:World} (h:a.grownBy b none) (row:Option Nat):a.grownBy b row :=
 ⟨h.os,h.tape,h.output,h.size,fun i hi _=>h.block i hi (by simp)⟩
theorem grown_new {a b c:World} {row:Option Nat} (h:a.grownBy b none) (k:b.grownBy c row) (hr:∀ i,row=some i->a.heap.size<=i):a.grownBy c none :=
 ⟨k.os.trans h.os,k.tape.trans h.tape,k.output.trans h.output,Nat.le_trans h.size k.size,fun i hi _=>(k.block i (Nat.lt_of_lt_of_le hi h.size) (fun e=>by have:=hr i e.symm;omega)).trans (h.block i hi (by simp))⟩
theorem grown_drewN (w:World) (n:Nat):w.grownBy (w.drewN n) none:=⟨rfl,rfl,rfl,Nat.le_refl _,fun _ _ _=>rfl⟩
theorem grown_below {a b:World} {row:Option Nat} {B:Nat} (h:a.grownBy b row) (hB:B<=a.heap.size) (hr:∀ i,row=some i->B<=i):Below B a b :=
 (Below.refl B a).grown h hB hr
theorem Cells.kept {w w':World} {v:Value} {vs:List Value} {row:Option Nat} (h:Cells w v vs) (g:w.grownBy w' row) (ne:v.ownBlock=none\/v.ownBlock ≠ row):Cells w' v vs:=by
 obtain⟨h2,p,cap,rfl,h3,h4,h5⟩:=h
 refine⟨h2,p,cap,rfl,h3,h4,fun hx=>?_⟩
 obtain⟨b,off,rfl,hc⟩:=h5 hx
 refine⟨b,off,rfl,fun j hj=>g.cell (hc j hj) ?_⟩
 rcases ne with ne | ne
 ·simp[Value.ownBlock] at ne
 ·simpa [Value.ownBlock] using ne
theorem Cells.keep {w w':World} {v:Value} {vs:List Value} (h:Cells w v vs) (g:w.grownBy w' none):Cells w' v vs :=
 h.kept g (by cases h:v.ownBlock <;> simp)
theorem Mat.keep {w w':World} {v:Value} {vs:List Value} {xss:List (List Nat)} (h:Mat w v vs xss) (g:w.grownBy w' none):Mat w' v vs xss :=
 ⟨h.row.keep g,h.same,fun j hj=>(h.vec j hj).keep g⟩
theorem Vec.at {w:World} {v:Value} {xs:List Nat} (h:Vec w v xs) {k:Nat} (hk:k < xs.length) :
 ∃ b off cap,v=.slice (some ⟨b,off,none⟩) xs.length cap/\w.cell? ⟨b,off+k,none⟩=some (.int .u8 ((xs.getD k 0:Nat):Int))/\xs.getD k 0 < 256:=by
 obtain⟨h1,h2,p,cap,rfl,h3,h4,h5⟩:=h
 obtain⟨b,off,rfl,hc⟩:=h5 (fun e=>by subst e;simp at hk)
 refine⟨b,off,cap,rfl,hc k hk,h1 _ ?_⟩
 simp[List.getD,hk]
theorem Cells.at {w:World} {v:Value} {vs:List Value} (h:Cells w v vs) {k:Nat} (hk:k < vs.length) :
 ∃ b off cap,v=.slice (some ⟨b,off,none⟩) vs.length cap/\w.cell? ⟨b,off+k,none⟩=some (vs.getD k undef):=by
 obtain⟨h2,p,cap,rfl,h3,h4,h5⟩:=h
 obtain⟨b,off,rfl,hc⟩:=h5 (fun e=>by subst e;simp at hk)
 exact⟨b,off,cap,rfl,hc k hk⟩
theorem Tryz.info5:(Tryz.prog.info? 5).map (fun i=>(i.zero,i.size,i.bytes))=some (some (.int .u8 0),1,1):=by kernel_rfl
theorem lay9:(∀ {α:Type} {xs:List α} {i:Nat} (h:i < xs.toArray.size),xs.toArray[i]=xs[i]'(by simpa using h))/\(∀ {α:Type} {a:α} {xs:List α} {i:Nat} (h:i+1 < (a :: xs).length),(a :: xs)[i+1]=xs[i]'(by simpa using h))/\(∀ {α:Type} {a:α} {xs:List α} (h:0 < (a :: xs).length),(a :: xs)[0]=a) /\
 (∀ {α:Type} {l:List α} {i:Nat} {a:α},l.toArray.setIfInBounds i a=(l.set i a).toArray)/\(∀ {α:Type} {x:α} {xs:List α} {a:α},(x :: xs).set 0 a=a :: xs)/\(∀ {α:Type} {x:α} {xs:List α} {n:Nat} {a:α},(x :: xs).set (n+1) a=x :: xs.set n a):=by
 refine⟨?_,?_,?_,?_,?_,?_⟩ <;> intros <;> simp
def strOf (xs:List Nat):ByteArray:=strOfNums (xs.map fun (x:Nat)=>(x:Int))
theorem convert_vec {w:World} {v:Value} {xs:List Nat} (h:Vec w v xs):(convert 26 9 v).run Tryz.prog w=.ok (.string (strOf xs)) w:=by
 obtain⟨h1,h2,p,cap,rfl,h3,h4,h5⟩:=h
 by_cases hx:xs=[]
 ·subst hx
  cases p with
  | none=>exact run_convert_bytes_nil w 26 5 Tryz.underlying26 Tryz.underlying5 _ _ 9 Tryz.underlying9
  | some a =>
    rw[run_convert_bytes_string w 26 9 5 _ _ cap Tryz.underlying26 Tryz.underlying5 Tryz.underlying9]
    have hl:(loadCells a 0).run Tryz.prog w=.ok (([]:List Int).map (Value.int .u8)).toArray w:=by simpa using run_loadCells_list (P:=Tryz.prog) w a [] (by simp)
    exact run_bytesToString w a 0 cap [] hl
 ·obtain⟨b,off,rfl,hc⟩:=h5 hx
  refine run_convert_bytes_arg w 26 5 Tryz.underlying26 Tryz.underlying5 b off xs.length cap _ (by simp) (fun i hi=>?_) 9 Tryz.underlying9
  rw[hc i hi]
  simp[List.getD,hi]
theorem run_append_vec {B:Nat} {w:World} {d s:Value} {xs ys:List Nat} (hd:Own B w d xs) (hs:Vec w s ys) (hB:B<=w.heap.size) (hl:xs.length+ys.length<=140737488351232) (ty:TypeId) :
 ∃ v' w',(Builtin.append_ #[26,26] ty #[d,s]).run Tryz.prog w=.ok v' w'/\Own B w' v' (xs++ys)/\w.grownBy w' d.ownBlock:=by
 obtain⟨i0,hi,hz0,hz1,hz2⟩:=info_parts Tryz.info5
 have hsm:∀ x ∈ xs++ys,x < 256:=fun x hx=>by
  rcases List.mem_append.1 hx with h | h
  ·exact hd.small x h
  ·exact hs.small x h
 obtain⟨s1,s2,p,cap,rfl,s3,s4,s5⟩:=hs
 cases p with
 | none =>
   have hy:ys=[]:=by
    refine Classical.byContradiction fun hy=>?_
    obtain⟨b,off,e,_⟩:=s5 hy
    cases e
   subst hy
   rcases hd.row.2 with ⟨rfl,hn⟩ | ⟨g,dcap,cur,rfl,hb,hg,hcc,hm,hcs,ht⟩
   ·have hx:xs=[]:=List.eq_nil_of_length_eq_zero hn
    subst hx
    refine⟨.slice none 0 0,w,?_,hd,World.grownBy.refl _ _⟩
    simp[Builtin.append_,run_underlying Tryz.underlying26,sizeOf,typeInfo,hi,Builtin.lenOf,Builtin.firstCells]
   ·refine⟨.slice (some ⟨g,0,none⟩) xs.length dcap,w,?_,by simpa using hd,World.grownBy.refl _ _⟩
    simp[Builtin.append_,run_underlying Tryz.underlying26,sizeOf,typeInfo,hi,Builtin.lenOf,Builtin.firstCells,hcc,storeCells]
 | some a =>
   obtain⟨v',w',h1,h2,h3,_⟩:=run_append_own (P:=Tryz.prog) w B 26 ty 5 i0 (.int .u8 0) 1 1 Tryz.underlying26 hi hz0 hz1 hz2 rfl (by decide) d xs.length (xs.map bv) hd.row a ys.length cap (ys.map bv) (by simp)
    (fun j u hj=>by
      have hj':j < ys.length:=by
       have:=(List.getElem?_eq_some_iff.1 hj).1
       simpa using this
      obtain⟨b,off,e,hc⟩:=s5 (fun e=>by subst e;simp at hj')
      obtain rfl:=Option.some.inj e
      rw[getD_map_bv ys j hj'] at hj
      rw[add_off,hc j hj'];exact hj)
    (fun v hv=>by obtain⟨x,_,rfl⟩:=List.mem_map.1 hv;rfl) (by unfold maxLen;omega) (by omega) hB
   exact⟨v',w',h1,⟨hsm,by simpa using hl,by simpa using h2⟩,h3⟩
theorem Own.nil (B:Nat) (w:World):Own B w (.slice none 0 0) []:=⟨by simp,by simp,World.ownsRow_nil w B 5 1⟩
theorem wpList_append_vec {w:World} {ops:Array Oper} {rest:List Oper} {o:Oper} {a:Act} {Q:Exit->Act->World->Prop} (hgd:o.guard=none) (d s:Operand)
 (ho:o.op=.call { callee:=.builtin .append,args:=#[d,s],argTypes:=#[26,26] }) (dv sv:Value) (hed:a.eval d=dv) (hes:a.eval s=sv)
 {B:Nat} {xs ys:List Nat} (hd:Own B w dv xs) (hs:Vec w sv ys) (hB:B<=w.heap.size) (hl:xs.length+ys.length<=140737488351232)
 (h:∀ v' w',Own B w' v' (xs++ys)->w.grownBy w' dv.ownBlock->wpList Tryz.prog ops Q rest (a.put o.dst v') w'):wpList Tryz.prog ops Q (o :: rest) a w:=by
 refine wpList_plain hgd fun K hK=>?_
 obtain⟨v',w',hrun,h1,h2⟩:=run_append_vec hd hs hB hl o.type
 unfold Oper.wp
 simp[execOp,ho,resolve,invoke,builtin,hed,hes,hrun,Result.andThen]
 exact hK _ _ (h _ _ h1 h2)
theorem Vec.opened {w:World} {v:Value} {xs:List Nat} (h:Vec w v xs):∃ p n cap,v=.slice p n cap/\n=xs.length:=by
 obtain⟨p,cap,e,_⟩:=h.form
 exact⟨p,_,cap,e,rfl⟩
theorem getD_small {xs:List Nat} (hx:∀ x ∈ xs,x < 256) (j:Nat):xs.getD j 0 < 256:=by
 by_cases hj:j < xs.length
 ·exact hx _ (by simp[List.getD,hj])
 ·simp[List.getD,hj]
theorem Cells.opened {w:World} {v:Value} {vs:List Value} (h:Cells w v vs):∃ p n cap,v=.slice p n cap/\n=vs.length:=by
 obtain⟨p,cap,e,_⟩:=h.form
 exact⟨p,_,cap,e,rfl⟩
theorem Vec.spot {w:World} {p:Option Addr} {n cap:Nat} {xs:List Nat} (h:Vec w (.slice p n cap) xs) {k:Nat} (hk:k < xs.length) :
 ∃ b off,p=some ⟨b,off,none⟩/\w.cell? ⟨b,off+k,none⟩=some (.int .u8 ((xs.getD k 0:Nat):Int))/\xs.getD k 0 < 256:=by
 obtain⟨b,off,cap',e,h1,h2⟩:=h.at hk
 injection e with e1 _ _
 exact⟨b,off,e1,h1,h2⟩
theorem Cells.spot {w:World} {p:Option Addr} {n cap:Nat} {vs:List Value} (h:Cells w (.slice p n cap) vs) {k:Nat} (hk:k < vs.length) :
 ∃ b off,p=some ⟨b,off,none⟩/\w.cell? ⟨b,off+k,none⟩=some (vs.getD k undef):=by
 obtain⟨b,off,cap',e,h1⟩:=h.at hk
 injection e with e1 _ _
 exact⟨b,off,e1,h1⟩
theorem Own.down {B B':Nat} {w:World} {v:Value} {xs:List Nat} (h:Own B' w v xs) (hB:B<=B'):Own B w v xs :=
 ⟨h.small,h.len,h.row.1,by
   rcases h.row.2 with h | ⟨g,cp,cur,a1,a2,a3⟩
   ·exact .inl h
   ·exact .inr ⟨g,cp,cur,a1,by omega,a3⟩⟩
theorem take_small {xs:List Nat} (h:∀ x ∈ xs,x < 256) (n:Nat):∀ x ∈ xs.take n,x < 256:=fun x hx=>h x (List.mem_of_mem_take hx)
theorem Vec.cut {w:World} {p:Option Addr} {len cap:Nat} {xs:List Nat} (h:Vec w (.slice p len cap) xs) {n:Nat} (hn:n<=xs.length):Vec w (.slice p n cap) (xs.take n):=by
 obtain⟨h1,h2,p',cap',e,h3,h4,h5⟩:=h
 injection e with e1 e2 e3
 subst e1
 subst e3
 have hl:(xs.take n).length=n:=by simp;omega
 refine⟨take_small h1 n,by omega,p,cap,by rw[hl],by omega,h4,fun hne=>?_⟩
 obtain⟨b,off,e,hc⟩:=h5 (fun e=>hne (by rw[e];simp))
 refine⟨b,off,e,fun j hj=>?_⟩
 rw[hl] at hj
 rw[hc j (by omega)]
 simp[List.getD,hj,show j < xs.length from by omega]
theorem heap_new (w:World) (o:Obj) (g:Nat) (h:g=w.heap.size):(w.alloc o).heap[g]?=some o:=by subst h;exact heap_alloc_new w o
theorem heap_old (w:World) (o:Obj) {g:Nat} {b:Obj} (h:w.heap[g]?=some b):(w.alloc o).heap[g]?=some b:=by
 exact (Below.heap_alloc w o g (Array.getElem?_eq_some_iff.1 h).1).trans h
theorem Tryz.info22:(Tryz.prog.info? 26).map (fun i=>(i.zero,i.size,i.bytes))=some (some (.slice none 0 0),1,24):=by kernel_rfl
structure OwnMat (B:Nat) (w:World) (v:Value) (us:List Value) (xss:List (List Nat)):Prop where
 len:us.length * 24<=140737488351232
 row:w.ownsRow B 26 1 v us.length us
 same:us.length=xss.length
 vec:∀ j,j < xss.length->Own B w (us.getD j undef) (xss.getD j [])
theorem apart_kinds {B B':Nat} {w:World} {v u:Value} {n:Nat} {us:List Value} {xs:List Nat} (hv:w.ownsRow B 26 1 v n us) (hu:Own B' w u xs):u.ownBlock=none\/u.ownBlock ≠ v.ownBlock:=by
 rcases hu.row.2 with ⟨rfl,_⟩ | ⟨g,cap,cur,rfl,_,hg,_⟩
 ·exact .inl rfl
 ·rcases hv.2 with ⟨rfl,_⟩ | ⟨g',cap',cur',rfl,_,hg',_⟩
  ·exact .inr (by simp[Value.ownBlock])
  ·refine .inr fun e=>?_
   simp only[Value.ownBlock,Option.some.injEq] at e
   subst e
   rw[hg] at hg'
   simp at hg'
theorem OwnMat.nil (B:Nat) (w:World):OwnMat B w (.slice none 0 0) [] []:=⟨by simp,World.ownsRow_nil w B 26 1,rfl,by simp⟩
theorem OwnMat.lo {B:Nat} {w:World} {v:Value} {us:List Value} {xss:List (List Nat)} (h:OwnMat B w v us xss):Lo B v:=fun k hk=>(h.row.lt k hk).1
theorem OwnMat.hi {B:Nat} {w:World} {v:Value} {us:List Value} {xss:List (List Nat)} (h:OwnMat B w v us xss):Hi w.heap.size v:=fun k hk=>(h.row.lt k hk).2
theorem OwnMat.keep {B:Nat} {w w':World} {v:Value} {us:List Value} {xss:List (List Nat)} (h:OwnMat B w v us xss) (g:w.grownBy w' none):OwnMat B w' v us xss :=
 ⟨h.len,h.row.kept g (by cases h:v.ownBlock <;> simp),h.same,fun j hj=>(h.vec j hj).keep g⟩
theorem OwnMat.mat {B:Nat} {w:World} {v:Value} {us:List Value} {xss:List (List Nat)} (h:OwnMat B w v us xss):Mat w v us xss:=by
 refine⟨⟨h.len,?_⟩,h.same,fun j hj=>(h.vec j hj).vec⟩
 have hr:=h.row
 rcases h.row.2 with ⟨rfl,hn⟩ | ⟨g,cap,cur,rfl,hb,hg,hc,hm,hs,ht⟩
 ·have:us=[]:=List.eq_nil_of_length_eq_zero hn
  subst this
  exact⟨none,0,rfl,Nat.le_refl _,by decide,fun h=>absurd rfl h⟩
 ·refine⟨some ⟨g,0,none⟩,cap,rfl,hc,hm,fun _=>⟨g,0,rfl,fun j hj=>?_⟩⟩
  have:=hr.cells (g:=g) rfl j (us.getD j undef) (by simp[List.getD,hj])
  rwa [add_at] at this
theorem Own.spot {B:Nat} {w:World} {p:Option Addr} {n cap:Nat} {xs:List Nat} (h:Own B w (.slice p n cap) xs) {k:Nat} (hk:k < xs.length) :
 ∃ g,p=some ⟨g,0,none⟩/\n=xs.length/\w.cell? ⟨g,k,none⟩=some (.int .u8 ((xs.getD k 0:Nat):Int))/\w.frozen? ⟨g,k,none⟩=false/\xs.getD k 0 < 256 /\
   (∀ z:Nat,z < 256->Own B (w.setCell ⟨g,k,none⟩ (.int .u8 (z:Int))) (.slice (some ⟨g,0,none⟩) n cap) (xs.set k z))/\∀ u,w.grownBy (w.setCell ⟨g,k,none⟩ u) (some g):=by
 have hv:=h.vec.at hk
 have hr:=h.row
 rcases h.row.2 with ⟨e,hn⟩ | ⟨g,cap',cur,e,hb,hg,hc,hm,hs,ht⟩
 ·omega
 ·injection e with e1 e2 e3
  subst e1
  subst e2
  subst e3
  obtain⟨b,off,c2,e4,hcell,hsm⟩:=hv
  injection e4 with e5 _ _
  injection e5 with e5
  injection e5 with e6 e7
  subst e6
  subst e7
  rw[Nat.zero_add] at hcell
  refine⟨g,rfl,rfl,hcell,by simp[World.frozen?,hg],hsm,fun z hz=>⟨fun x hx=>?_,by simpa using h.len,by simp,.inr ⟨g,cap,cur.setIfInBounds k (.int .u8 (z:Int)),by simp,hb,?_,by simpa using hc,hm,by simpa using hs,?_⟩⟩,fun u=>⟨rfl,rfl,rfl,by simp,fun i hi hne=>Below.heap_setCell _ _ _ _ (by simpa using hne)⟩⟩
  ·rcases List.mem_or_eq_of_mem_set hx with h1 | h1
   ·exact h.small x h1
   ·rw[h1];exact hz
  ·rw[setCell_eq_setRow w g k cur 5 (0,0) _ hg]
   exact setRow_heap w g cur _ 5 _ hg
  ·simp only[Array.toList_setIfInBounds,List.length_set,List.map_set]
   rw[<- ht,List.take_set]
structure Out (B:Nat) (w:World) (v:Value) (us:List Value):Prop where
 len:us.length * 24<=140737488351232
 row:w.ownsRow B 26 1 v us.length us
theorem Out.lo {B:Nat} {w:World} {v:Value} {us:List Value} (h:Out B w v us):Lo B v:=fun k hk=>(h.row.lt k hk).1
theorem Out.kept {B:Nat} {w w':World} {v:Value} {us:List Value} {row:Option Nat} (h:Out B w v us) (g:w.grownBy w' row) (ne:v.ownBlock=none\/v.ownBlock ≠ row):Out B w' v us :=
 ⟨h.len,h.row.kept g ne⟩
theorem Out.keep {B:Nat} {w w':World} {v:Value} {us:List Value} (h:Out B w v us) (g:w.grownBy w' none):Out B w' v us :=
 h.kept g (by cases h:v.ownBlock <;> simp)
theorem OwnMat.out {B:Nat} {w:World} {v:Value} {us:List Value} {xss:List (List Nat)} (h:OwnMat B w v us xss):Out B w v us:=⟨h.len,h.row⟩
theorem Out.cells {B:Nat} {w:World} {v:Value} {us:List Value} (h:Out B w v us):Cells w v us:=by
 refine⟨h.len,?_⟩
 have hr:=h.row
 rcases h.row.2 with ⟨rfl,hn⟩ | ⟨g,cap,cur,rfl,hb,hg,hc,hm,hs,ht⟩
 ·have:us=[]:=List.eq_nil_of_length_eq_zero hn
  subst this
  exact⟨none,0,rfl,Nat.le_refl _,by decide,fun h=>absurd rfl h⟩
 ·refine⟨some ⟨g,0,none⟩,cap,rfl,hc,hm,fun _=>⟨g,0,rfl,fun j hj=>?_⟩⟩
  have:=hr.cells (g:=g) rfl j (us.getD j undef) (by simp[List.getD,hj])
  rwa [add_at] at this
def Ap (v u:Value):Prop:=v.ownBlock=none\/v.ownBlock ≠ u.ownBlock
theorem Ap.symm {v u:Value} (h:Ap v u):Ap u v:=by
 unfold Ap at *
 cases hu:u.ownBlock with
 | none=>exact .inl rfl
 | some k =>
   rcases h with h | h
   ·rw[h];exact .inr (by simp)
   ·exact .inr fun e=>h (by rw[hu,e])
theorem ap_nil (n c:Nat) (u:Value):Ap (.slice none n c) u:=.inl rfl
def Sep (us:List Value):Prop:=∀ i j,i < us.length->j < us.length->i ≠ j->Ap (us.getD i undef) (us.getD j undef)
theorem getD_set_self {α:Type} (us:List α) (k:Nat) (u d:α) (h:k < us.length):(us.set k u).getD k d=u:=by simp[List.getD,h]
theorem getD_set_ne {α:Type} (us:List α) {k j:Nat} (u d:α) (h:k ≠ j):(us.set k u).getD j d=us.getD j d:=by simp[List.getD,h]
theorem getD_replicate {α:Type} (n j:Nat) (a d:α) (h:j < n):(List.replicate n a).getD j d=a:=by simp[List.getD,h]
theorem Sep.nils (n:Nat):Sep (List.replicate n (.slice none 0 0)):=fun i j hi _ _=>by
 rw[getD_replicate _ _ _ _ (by simpa using hi)];exact ap_nil _ _ _
theorem ap_of {H:Nat} {v u:Value} (hv:Hi H v) (hu:Lo H u):Ap v u:=apart_of hv hu
theorem Sep.put {H:Nat} {us:List Value} (h:Sep us) (hh:∀ j,j < us.length->Hi H (us.getD j undef)) {u:Value} (hu:Lo H u) (k:Nat):Sep (us.set k u):=by
 intro i j hi hj hne
 simp only[List.length_set] at hi hj
 by_cases e1:k=i
 ·subst e1
  rw[getD_set_self _ _ _ _ hi,getD_set_ne _ _ _ hne]
  exact (ap_of (hh j hj) hu).symm
 ·rw[getD_set_ne _ _ _ e1]
  by_cases e2:k=j
  ·subst e2
   rw[getD_set_self _ _ _ _ hj]
   exact ap_of (hh i hi) hu
  ·rw[getD_set_ne _ _ _ e2]
   exact h i j hi hj hne
theorem Sep.swap {us:List Value} (h:Sep us) {a b:Nat} (ha:a < us.length) (hb:b < us.length):Sep ((us.set a (us.getD b undef)).set b (us.getD a undef)):=by
 have key:∀ i,i < us.length->((us.set a (us.getD b undef)).set b (us.getD a undef)).getD i undef=us.getD (if i=b then a else if i=a then b else i) undef:=by
  intro i hi
  by_cases e:b=i
  ·subst e
   rw[getD_set_self _ _ _ _ (by simpa using hi)];simp
  ·rw[getD_set_ne _ _ _ e,if_neg (fun x=>e x.symm)]
   by_cases e2:a=i
   ·subst e2
    rw[getD_set_self _ _ _ _ hi];simp
   ·rw[getD_set_ne _ _ _ e2,if_neg (fun x=>e2 x.symm)]
 intro i j hi hj hne
 simp only[List.length_set] at hi hj
 rw[key i hi,key j hj]
 refine h _ _ ?_ ?_ ?_
 ·split
  ·exact ha
  ·split <;> assumption
 ·split
  ·exact ha
  ·split <;> assumption
 ·split <;> split <;> (try split) <;> (try split) <;> omega
theorem OwnMat.rowSet {B:Nat} {w w':World} {v:Value} {us:List Value} {X:List (List Nat)} {k:Nat} {ys:List Nat} (h:OwnMat B w v us X) (hs:Sep us) (hk:k < X.length)
 (o:Own B w' (us.getD k undef) ys) (g:w.grownBy w' (us.getD k undef).ownBlock):OwnMat B w' v us (X.set k ys):=by
 have hsm:=h.same
 have hap:Ap v (us.getD k undef):=Ap.symm (show Ap _ _ from apart_kinds h.row (h.vec k hk))
 refine⟨h.len,h.row.kept g hap,by simpa using h.same,fun j hj=>?_⟩
 simp only[List.length_set] at hj
 by_cases e:k=j
 ·subst e
  rw[getD_set_self _ _ _ _ hk];exact o
 ·rw[getD_set_ne _ _ _ e]
  exact (h.vec j hj).kept g (hs j k (by omega) (by omega) (fun x=>e x.symm))
theorem OwnMat.place {B:Nat} {w:World} {p:Option Addr} {n cap:Nat} {us:List Value} {X:List (List Nat)} (h:OwnMat B w (.slice p n cap) us X) {k:Nat} (hk:k < X.length) :
 ∃ g,p=some ⟨g,0,none⟩/\B<=g/\w.cell? ⟨g,k,none⟩=some (us.getD k undef)/\w.frozen? ⟨g,k,none⟩=false /\
   (∀ u ys,Own B w u ys->OwnMat B (w.setCell ⟨g,k,none⟩ u) (.slice (some ⟨g,0,none⟩) n cap) (us.set k u) (X.set k ys))/\(∀ u ys,Own B w u ys->Own B (w.setCell ⟨g,k,none⟩ u) u ys)/\∀ u,w.grownBy (w.setCell ⟨g,k,none⟩ u) (some g):=by
 have hsm:=h.same
 have hr:=h.row
 have hrow:=h.row
 rcases h.row.2 with ⟨e,hn⟩ | ⟨g,cap',cur,e,hb,hg,hc,hm,hs,ht⟩
 ·omega
 ·injection e with e1 e2 e3
  subst e1
  subst e2
  subst e3
  have hcell:w.cell? ⟨g,k,none⟩=some (us.getD k undef):=by
   have:=hr.cells (g:=g) rfl k (us.getD k undef) (by simp[List.getD,show k < us.length from by omega])
   rwa [add_at,Nat.zero_add] at this
  have hgr:∀ u,w.grownBy (w.setCell ⟨g,k,none⟩ u) (some g):=fun u=>⟨rfl,rfl,rfl,by simp,fun i hi hne=>Below.heap_setCell _ _ _ _ (by simpa using hne)⟩
  have hown:∀ u u' ys,Own B w u ys->Own B (w.setCell ⟨g,k,none⟩ u') u ys:=fun u u' ys hu=>hu.kept (hgr u') (apart_kinds hrow hu)
  refine⟨g,rfl,hb,hcell,by simp[World.frozen?,hg],fun u ys hu=>⟨by simpa using h.len,⟨by simp,.inr ⟨g,cap,cur.setIfInBounds k u,by simp,hb,?_,by simpa using hc,hm,by simpa using hs,?_⟩⟩,by simpa using h.same,fun j hj=>?_⟩,fun u ys hu=>hown u u ys hu,hgr⟩
  ·rw[setCell_eq_setRow w g k cur 26 (0,0) _ hg]
   exact setRow_heap w g cur _ 26 _ hg
  ·simp only[Array.toList_setIfInBounds,List.length_set]
   rw[List.take_set,ht]
  ·simp only[List.length_set] at hj
   by_cases e:k=j
   ·subst e
    rw[getD_set_self _ _ _ _ (by omega),getD_set_self _ _ _ _ hj]
    exact hown u u ys hu
   ·rw[getD_set_ne _ _ _ e,getD_set_ne _ _ _ e]
    exact hown _ u _ (h.vec j hj)
theorem OwnMat.hiRow {B:Nat} {w:World} {v:Value} {us:List Value} {X:List (List Nat)} (h:OwnMat B w v us X) (j:Nat) (hj:j < us.length):Hi w.heap.size (us.getD j undef):=(h.vec j (by have:=h.same;omega)).hi
theorem OwnMat.down {B B':Nat} {w:World} {v:Value} {us:List Value} {X:List (List Nat)} (h:OwnMat B' w v us X) (hB:B<=B'):OwnMat B w v us X :=
 ⟨h.len,⟨h.row.1,by
   rcases h.row.2 with h | ⟨g,cp,cur,a1,a2,a3⟩
   ·exact .inl h
   ·exact .inr ⟨g,cp,cur,a1,by omega,a3⟩⟩,h.same,fun j hj=>(h.vec j hj).down hB⟩
theorem made_list (z:Value) (n:Nat):(madeCells #[z] n).toList.take n=List.replicate n z:=by
 apply List.ext_getElem
 ·simp[madeCells]
 ·intro i h1 h2
  simp[madeCells,Nat.mod_one]
theorem made_own {w w':World} {n:Nat} (hn:n<=140737488351232) (e:w'=w.alloc (.cells (madeCells #[.int .u8 0] n) 5)):Own w.heap.size w' (.slice (some ⟨w.heap.size,0,none⟩) n n) (List.replicate n 0):=by
 subst e
 refine⟨fun x hx=>by rw[(List.mem_replicate.1 hx).2];decide,by simpa using hn,by simp,.inr ⟨w.heap.size,n,_,by simp,Nat.le_refl _,heap_alloc_new w _,by simp,by unfold maxLen;omega,?_,?_⟩⟩
 ·simp[madeCells]
 ·rw[List.map_replicate,Nat.mul_one,List.length_replicate];exact made_list _ n
theorem made_rows {w w':World} {n:Nat} (hn:n * 24<=140737488351232) (e:w'=w.alloc (.cells (madeCells #[.slice none 0 0] n) 26)):OwnMat w.heap.size w' (.slice (some ⟨w.heap.size,0,none⟩) n n) (List.replicate n (.slice none 0 0)) (List.replicate n []):=by
 subst e
 refine⟨by simpa using hn,⟨by simp,.inr ⟨w.heap.size,n,_,by simp,Nat.le_refl _,heap_alloc_new w _,by simp,by unfold maxLen;omega,?_,?_⟩⟩,by simp,fun j hj=>?_⟩
 ·simp[madeCells]
 ·rw[Nat.mul_one,List.length_replicate];exact made_list _ n
 ·simp only[List.length_replicate] at hj
  rw[getD_replicate _ _ _ _ hj,getD_replicate _ _ _ _ hj]
  exact Own.nil _ _
theorem wpList_make_vec {w:World} {ops:Array Oper} {rest:List Oper} {o:Oper} {a:Act} {Q:Exit->Act->World->Prop} (hgd:o.guard=none) (l c:Operand)
 (ho:o.op=Op.makeSlice 26 l c) (n:Nat) (hel:a.eval l=.int .i64 (n:Int)) (hec:a.eval c=.int .i64 (n:Int)) (hn:n<=140737488351232)
 (h:∀ w1 p,Own w.heap.size w1 (.slice p n n) (List.replicate n 0)->w.grownBy w1 none->wpList Tryz.prog ops Q rest (a.put o.dst (.slice p n n)) w1):wpList Tryz.prog ops Q (o :: rest) a w:=by
 obtain⟨i0,hi,hz0,hz1,hz2⟩:=info_parts Tryz.info5
 refine wpList_make_row _ hgd l c 26 ho 5 i0 (.int .u8 0) Tryz.underlying26 hi hz0 hz1 rfl _ _ n hel hec (by rw[hz2];omega) (by omega) ?_
 exact h _ _ (made_own hn rfl) (World.grownBy_alloc _ _ none)
theorem wpList_make_rows {w:World} {ops:Array Oper} {rest:List Oper} {o:Oper} {a:Act} {Q:Exit->Act->World->Prop} (hgd:o.guard=none) (l c:Operand)
 (ho:o.op=Op.makeSlice 137 l c) (n:Nat) (hel:a.eval l=.int .i64 (n:Int)) (hec:a.eval c=.int .i64 (n:Int)) (hn:n * 24<=140737488351232)
 (h:∀ w1 p,OwnMat w.heap.size w1 (.slice p n n) (List.replicate n (.slice none 0 0)) (List.replicate n [])->w.grownBy w1 none->wpList Tryz.prog ops Q rest (a.put o.dst (.slice p n n)) w1):wpList Tryz.prog ops Q (o :: rest) a w:=by
 obtain⟨i0,hi,hz0,hz1,hz2⟩:=info_parts Tryz.info22
 refine wpList_make_row _ hgd l c 137 ho 26 i0 (.slice none 0 0) Tryz.underlying137 hi hz0 hz1 rfl _ _ n hel hec (by rw[hz2];omega) (by omega) ?_
 exact h _ _ (made_rows hn rfl) (World.grownBy_alloc _ _ none)
end Go.Proofs.YtlklmhojadlncaaGreat
namespace Go.Proofs.YtlklmhojadlncaaGreat.M
def dbl (x:Nat):Nat:=(2 * x % 256) ^^^ (if 128<=x then 29 else 0)
def mulGo:Nat->Nat->Nat->Nat->Nat
 | 0,s,_,_=>s
 | k+1,s,a,b=>mulGo k (s ^^^ (if b % 2=1 then a else 0)) (dbl a) (b / 2)
def mul (a b:Nat):Nat:=mulGo 8 0 a b
def pw:Nat->Nat
 | 0=>1
 | k+1=>dbl (pw k)
def lgTo:Nat->Nat->Nat
 | 0,_=>0
 | n+1,a=>if pw n=a then n else lgTo n a
def lg (a:Nat):Nat:=lgTo 255 a
def inv (a:Nat):Nat:=pw ((255 - lg a) % 255)
theorem xor_lt {a b:Nat} (ha:a < 256) (hb:b < 256):a ^^^ b < 256:=Nat.xor_lt_two_pow (n:=8) ha hb
theorem dbl_lt (x:Nat):dbl x < 256:=by
 unfold dbl
 exact xor_lt (by omega) (by split <;> omega)
theorem pw_lt:∀ k,pw k < 256
 | 0=>by decide
 | k+1=>dbl_lt (pw k)
theorem inv_lt (a:Nat):inv a < 256:=pw_lt _
theorem lgTo_lt:∀ k a,k ≠ 0->lgTo k a < k
 | k+1,a,_=>by
   unfold lgTo
   split
   ·omega
   ·by_cases h:k=0
    ·subst h;simp[lgTo]
    ·have:=lgTo_lt k a h;omega
theorem lg_lt (a:Nat):lg a < 255:=lgTo_lt 255 a (by decide)
theorem bit7 {x:Nat} (h:x < 256):x.testBit 7=decide (128<=x):=by
 rw[Nat.testBit_eq_decide_div_mod_eq]
 apply decide_eq_decide.2
 omega
theorem dbl_xor {x y:Nat} (hx:x < 256) (hy:y < 256):dbl (x ^^^ y)=dbl x ^^^ dbl y:=by
 have e:2 * (x ^^^ y) % 256=(2 * x % 256) ^^^ (2 * y % 256):=by
  have h1:∀ z,2 * z=z <<< 1:=fun z=>by rw[Nat.shiftLeft_eq];omega
  rw[h1,h1,h1,Nat.shiftLeft_xor_distrib,show (256:Nat)=2 ^ 8 from rfl,Nat.xor_mod_two_pow]
 have t:(x ^^^ y).testBit 7=(x.testBit 7 ^^ y.testBit 7):=Nat.testBit_xor ..
 rw[bit7 hx,bit7 hy,bit7 (xor_lt hx hy)] at t
 unfold dbl
 rw[e]
 generalize 2 * x % 256=u
 generalize 2 * y % 256=v
 by_cases h1:128<=x <;> by_cases h2:128<=y <;> simp only[h1,h2,decide_true,decide_false,Bool.bne_true,Bool.bne_false,Bool.not_true,Bool.not_false,decide_eq_true_eq,decide_eq_false_iff_not] at t <;> simp only[h1,h2,t,if_true,if_false]
 ·rw[Nat.xor_zero,Nat.xor_assoc u 29,<- Nat.xor_assoc 29 v 29,Nat.xor_comm 29 v,Nat.xor_assoc v 29 29,Nat.xor_self,Nat.xor_zero]
 ·rw[Nat.xor_assoc u,Nat.xor_assoc u,Nat.xor_comm 29];simp
 ·rw[Nat.xor_assoc,Nat.xor_zero]
 ·simp
theorem mulGo_sum:∀ k s a b,mulGo k s a b=s ^^^ mulGo k 0 a b
 | 0,s,a,b=>by simp[mulGo]
 | k+1,s,a,b=>by
   unfold mulGo
   rw[mulGo_sum k (s ^^^ _),mulGo_sum k (0 ^^^ _),Nat.zero_xor,Nat.xor_assoc]
theorem mulGo_succ (k a b:Nat):mulGo (k+1) 0 a b=(if b % 2=1 then a else 0) ^^^ mulGo k 0 (dbl a) (b / 2):=by
 show mulGo k (0 ^^^ _) _ _=_
 rw[mulGo_sum,Nat.zero_xor]
theorem mulGo_lt:∀ k a b,a < 256->mulGo k 0 a b < 256
 | 0,_,_,_=>by simp[mulGo]
 | k+1,a,b,h=>by
   rw[mulGo_succ]
   exact xor_lt (by split <;> omega) (mulGo_lt k _ _ (dbl_lt a))
theorem mul_lt {a:Nat} (b:Nat) (h:a < 256):mul a b < 256:=mulGo_lt 8 a b h
theorem mulGo_xor:∀ k a c b,a < 256->c < 256->mulGo k 0 (a ^^^ c) b=mulGo k 0 a b ^^^ mulGo k 0 c b
 | 0,_,_,_,_,_=>by simp[mulGo]
 | k+1,a,c,b,ha,hc=>by
   rw[mulGo_succ,mulGo_succ,mulGo_succ,dbl_xor ha hc,mulGo_xor k _ _ _ (dbl_lt a) (dbl_lt c)]
   generalize mulGo k 0 (dbl a) (b / 2)=u
   generalize mulGo k 0 (dbl c) (b / 2)=v
   split
   ·rw[Nat.xor_assoc,Nat.xor_assoc,<- Nat.xor_assoc c,Nat.xor_comm c u,Nat.xor_assoc u]
   ·simp
theorem mul_xor {a c:Nat} (b:Nat) (ha:a < 256) (hc:c < 256):mul (a ^^^ c) b=mul a b ^^^ mul c b:=mulGo_xor 8 a c b ha hc
theorem dbl_zero:dbl 0=0:=by decide
theorem mulGo_dbl:∀ k a b,a < 256->mulGo k 0 (dbl a) b=dbl (mulGo k 0 a b)
 | 0,_,_,_=>by simp[mulGo,dbl_zero]
 | k+1,a,b,h=>by
   rw[mulGo_succ,mulGo_succ,mulGo_dbl k _ _ (dbl_lt a),dbl_xor (by split <;> omega) (mulGo_lt k _ _ (dbl_lt a))]
   split
   ·rfl
   ·rw[dbl_zero]
theorem mul_dbl {a:Nat} (b:Nat) (h:a < 256):mul (dbl a) b=dbl (mul a b):=mulGo_dbl 8 a b h
theorem mulGo_zero_left:∀ k b,mulGo k 0 0 b=0
 | 0,_=>rfl
 | k+1,b=>by rw[mulGo_succ,dbl_zero,mulGo_zero_left k];simp
theorem mulGo_zero_right:∀ k a,mulGo k 0 a 0=0
 | 0,_=>rfl
 | k+1,a=>by rw[mulGo_succ,Nat.zero_div,mulGo_zero_right k];simp
theorem zero_mul (b:Nat):mul 0 b=0:=mulGo_zero_left 8 b
theorem mul_zero (a:Nat):mul a 0=0:=mulGo_zero_right 8 a
theorem one_mul {b:Nat} (h:b < 256):mul 1 b=b:=by
 have key:∀ b,b < 256->mul 1 b=b:=by decide +kernel
 exact key b h
def tab (t k:Nat):Nat:=(t >>> (8 * k)) % 256
def pt:Nat:=70160881166704368827218703435136616750530459438269794890424969378298545675077208731798828898087927652446353395360628748027273188182808436399538186061104243134188885576122562338679313492324190829158544377810568631194580132524405266702234305646236648896994794467054525044798919765581988418950285252905306116225263236585714808161311289784028762024137133735135393922581566890382566480334369299400480864790538739986285574563168380416343369614948461817839620668187777978661530364712890858126432457562886306102556561631759900551331094983229723298224611133722330829711659991602983068895685602467964643306841827719562658305
def lt:Nat:=22135253156888987530748098150270024343632497605293634117281264061560962248099620766229961468867162294233796152347975563017024165690400661622462404646302566225833645086064538892198543335321514950294300187779610338557442029018619797274438901674641748676613670242915365385819254959901651105240253464034662486586186382979728982817772067067513442677601938078891989292316012868233806586592927239821351197800766822366321181463280924672822998103315976779850880337712374790938628529953751181886374687897611504386983350015558142994211516619836411558782076806704747441947939324473761869443721989389604670425385080942269787340800
theorem tab_step:∀ k,k < 254->dbl (tab pt k)=tab pt (k+1):=by decide +kernel
theorem tab_back:∀ k,k < 255->tab lt (tab pt k)=k:=by decide +kernel
theorem tab_there:∀ a,a < 256->a=0\/tab pt (tab lt a)=a/\tab lt a < 255:=by decide +kernel
theorem pw_tab:∀ k,k < 255->pw k=tab pt k
 | 0,_=>by decide +kernel
 | k+1,h=>by
   show dbl (pw k)=_
   rw[pw_tab k (by omega),tab_step k (by omega)]
theorem pw_255:pw 255=1:=by
 show dbl (pw 254)=1
 rw[pw_tab 254 (by omega)]
 decide +kernel
theorem pw_add_255:∀ n,pw (n+255)=pw n
 | 0=>by rw[Nat.zero_add];exact pw_255
 | n+1=>by
   show dbl (pw (n+255))=dbl (pw n)
   rw[pw_add_255 n]
theorem pw_mul_255:∀ k n,pw (n+255 * k)=pw n
 | 0,n=>rfl
 | k+1,n=>by rw[show n+255 * (k+1)=(n+255 * k)+255 from by omega,pw_add_255,pw_mul_255 k]
theorem pw_mod (n:Nat):pw (n % 255)=pw n:=by
 have h:=pw_mul_255 (n / 255) (n % 255)
 rw[show n % 255+255 * (n / 255)=n from by omega] at h
 exact h.symm
theorem pw_inj {m n:Nat} (hm:m < 255) (hn:n < 255) (h:pw m=pw n):m=n:=by
 rw[pw_tab m hm,pw_tab n hn] at h
 have:=congrArg (tab lt) h
 rwa [tab_back m hm,tab_back n hn] at this
theorem lgTo_of:∀ k a n,n < k->pw n=a->(∀ m,m < k->pw m=a->m=n)->lgTo k a=n
 | k+1,a,n,hn,hp,hu=>by
   unfold lgTo
   split
   ·rename_i h;exact hu k (by omega) h
   ·rename_i h
    have:n ≠ k:=fun e=>h (e ▸ hp)
    exact lgTo_of k a n (by omega) hp (fun m hm=>hu m (by omega))
theorem lg_pw {n:Nat} (h:n < 255):lg (pw n)=n:=lgTo_of 255 _ n h rfl (fun _ hm e=>pw_inj hm h e)
theorem pw_lg {a:Nat} (h0:0 < a) (h:a < 256):pw (lg a)=a:=by
 obtain⟨n,hn,rfl⟩:∃ n,n < 255/\pw n=a:=by
  rcases tab_there a h with h1 | ⟨h1,h2⟩
  ·omega
  ·exact⟨tab lt a,h2,by rw[pw_tab _ h2];exact h1⟩
 rw[lg_pw hn]
theorem pw_pos (n:Nat):0 < pw n:=by
 have key:∀ k,k < 255->0 < tab pt k:=by decide +kernel
 rw[<- pw_mod,pw_tab _ (by omega)]
 exact key _ (by omega)
theorem mul_pw (x:Nat):∀ m,mul (pw m) (pw x)=pw (m+x)
 | 0=>by rw[Nat.zero_add];exact one_mul (pw_lt x)
 | m+1=>by
   rw[show m+1+x=(m+x)+1 from by omega]
   show mul (dbl (pw m)) (pw x)=dbl (pw (m+x))
   rw[mul_dbl _ (pw_lt m),mul_pw x m]
theorem exists_pw {a:Nat} (h0:0 < a) (h:a < 256):∃ m,m < 255/\lg a=m/\a=pw m:=⟨lg a,lg_lt a,rfl,(pw_lg h0 h).symm⟩
theorem mul_comm {a b:Nat} (ha:a < 256) (hb:b < 256):mul a b=mul b a:=by
 rcases Nat.eq_zero_or_pos a with rfl | ha0
 ·rw[zero_mul,mul_zero]
 rcases Nat.eq_zero_or_pos b with rfl | hb0
 ·rw[zero_mul,mul_zero]
 obtain⟨m,_,_,rfl⟩:=exists_pw ha0 ha
 obtain⟨n,_,_,rfl⟩:=exists_pw hb0 hb
 rw[mul_pw,mul_pw,Nat.add_comm]
theorem mul_assoc {a b c:Nat} (ha:a < 256) (hb:b < 256) (hc:c < 256):mul (mul a b) c=mul a (mul b c):=by
 rcases Nat.eq_zero_or_pos a with rfl | ha0
 ·rw[zero_mul,zero_mul,zero_mul]
 rcases Nat.eq_zero_or_pos b with rfl | hb0
 ·rw[zero_mul,mul_zero,zero_mul]
 rcases Nat.eq_zero_or_pos c with rfl | hc0
 ·rw[mul_zero,mul_zero,mul_zero]
 obtain⟨m,_,_,rfl⟩:=exists_pw ha0 ha
 obtain⟨n,_,_,rfl⟩:=exists_pw hb0 hb
 obtain⟨k,_,_,rfl⟩:=exists_pw hc0 hc
 rw[mul_pw,mul_pw,mul_pw,mul_pw,Nat.add_assoc]
theorem mul_one {a:Nat} (ha:a < 256):mul a 1=a:=by rw[mul_comm ha (by decide),one_mul ha]
theorem mul_pos {a b:Nat} (ha:a < 256) (hb:b < 256) (ha0:0 < a) (hb0:0 < b):0 < mul a b:=by
 obtain⟨m,_,_,rfl⟩:=exists_pw ha0 ha
 obtain⟨n,_,_,rfl⟩:=exists_pw hb0 hb
 rw[mul_pw]
 exact pw_pos _
theorem inv_pw {m:Nat} (h:m < 255):inv (pw m)=pw ((255 - m) % 255):=by unfold inv;rw[lg_pw h]
theorem mul_inv {a:Nat} (ha:a < 256) (ha0:0 < a):mul a (inv a)=1:=by
 obtain⟨m,hm,_,rfl⟩:=exists_pw ha0 ha
 rw[inv_pw hm,pw_mod,mul_pw,show m+(255 - m)=255 from by omega]
 exact pw_255
theorem inv_mul {a:Nat} (ha:a < 256) (ha0:0 < a):mul (inv a) a=1:=by rw[mul_comm (inv_lt a) ha];exact mul_inv ha ha0
end Go.Proofs.YtlklmhojadlncaaGreat.M
