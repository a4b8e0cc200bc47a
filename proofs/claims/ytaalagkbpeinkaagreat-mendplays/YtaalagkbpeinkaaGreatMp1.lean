/- Packed: Vec, Mem, Rowsets, Grid, Math, Leaf, RefMath, RefMul. -/
import Derived.Test.YtaalagkbpeinkaaGreatChecked
import Derived.WalkKit
import Derived.WalkSpells
import Derived.WalkLawsBesides
import Derived.Deep.OwnRows
import Derived.Laws.BytesArg
import Derived.Deep.RegionHeld3
import Derived.Maps.AppendAt
import Derived.Laws.CopyOwn
import Derived.Deep.DrawnRows
set_option maxRecDepth 100000
namespace Go.Proofs.YtaalagkbpeinkaaGreat
open Go.RowKit
abbrev bv (x:Nat):Value:=.int .u8 (x:Int)
structure Vec (w:World) (v:Value) (xs:List Nat):Prop where
 small:∀ x ∈ xs,x < 256
 len:xs.length<=140737488351232
 form:∃ p cap,v=.slice p xs.length cap/\xs.length<=cap/\cap<=maxLen /\
  (xs ≠ []->∃ b off,p=some ⟨b,off,none⟩/\∀ j,j < xs.length->w.cell? ⟨b,off+j,none⟩=some (bv (xs.getD j 0)))
structure Own (B:Nat) (w:World) (v:Value) (xs:List Nat):Prop where
 small:∀ x ∈ xs,x < 256
 len:xs.length<=140737488351232
 row:w.ownsRow B 5 1 v xs.length (xs.map bv)
structure Cells (w:World) (v:Value) (vs:List Value):Prop where
 len:vs.length * 24<=140737488351232
 form:∃ p cap,v=.slice p vs.length cap/\vs.length<=cap/\cap<=maxLen /\
  (vs ≠ []->∃ b off,p=some ⟨b,off,none⟩/\∀ j,j < vs.length->w.cell? ⟨b,off+j,none⟩=some (vs.getD j undef))
structure Mat (w:World) (v:Value) (vs:List Value) (xss:List (List Nat)):Prop where
 row:Cells w v vs
 same:vs.length=xss.length
 vec:∀ j,j < xss.length->Vec w (vs.getD j undef) (xss.getD j [])
def Lo (B:Nat) (v:Value):Prop:=∀ k,v.ownBlock=some k->B<=k
def Hi (B:Nat) (v:Value):Prop:=∀ k,v.ownBlock=some k->k < B
theorem apart_of {H:Nat} {v u:Value} (hv:Hi H v) (hu:Lo H u):v.ownBlock=none\/v.ownBlock ≠ u.ownBlock:=by
 cases h:v.ownBlock with
 | none=>exact .inl rfl
 | some k =>
   refine .inr fun e=>?_
   have h1:=hv k h
   have h2:=hu k e.symm
   omega
theorem Own.lo {B:Nat} {w:World} {v:Value} {xs:List Nat} (h:Own B w v xs):Lo B v:=fun k hk=>(h.row.lt k hk).1
theorem Own.hi {B:Nat} {w:World} {v:Value} {xs:List Nat} (h:Own B w v xs):Hi w.heap.size v:=fun k hk=>(h.row.lt k hk).2
theorem Own.kept {B:Nat} {w w':World} {v:Value} {xs:List Nat} {row:Option Nat} (h:Own B w v xs) (g:w.grownBy w' row) (ne:v.ownBlock=none\/v.ownBlock ≠ row):Own B w' v xs :=
 ⟨h.small,h.len,h.row.kept g ne⟩
theorem Own.keep {B:Nat} {w w':World} {v:Value} {xs:List Nat} (h:Own B w v xs) (g:w.grownBy w' none):Own B w' v xs :=
 h.kept g (by cases h:v.ownBlock <;> simp)
theorem Vec.kept {w w':World} {v:Value} {xs:List Nat} {row:Option Nat} (h:Vec w v xs) (g:w.grownBy w' row) (ne:v.ownBlock=none\/v.ownBlock ≠ row):Vec w' v xs:=by
 obtain⟨h1,h2,p,cap,rfl,h3,h4,h5⟩:=h
 refine⟨h1,h2,p,cap,rfl,h3,h4,fun hx=>?_⟩
 obtain⟨b,off,rfl,hc⟩:=h5 hx
 refine⟨b,off,rfl,fun j hj=>g.cell (hc j hj) ?_⟩
 rcases ne with ne | ne
 ·simp[Value.ownBlock] at ne
 ·simpa [Value.ownBlock] using ne
theorem Vec.keep {w w':World} {v:Value} {xs:List Nat} (h:Vec w v xs) (g:w.grownBy w' none):Vec w' v xs :=
 h.kept g (by cases h:v.ownBlock <;> simp)
theorem getD_map_bv (xs:List Nat) (j:Nat) (h:j < xs.length):(xs.map bv)[j]?=some (bv (xs.getD j 0)):=by
 simp[List.getD,h]
theorem add_at (g j:Nat):(⟨g,0,none⟩:Addr).add j=⟨g,0+j,none⟩:=by
 unfold Addr.add;split <;> simp_all
theorem add_off (g o j:Nat):(⟨g,o,none⟩:Addr).add j=⟨g,o+j,none⟩:=by
 unfold Addr.add;split <;> simp_all
theorem Own.vec {B:Nat} {w:World} {v:Value} {xs:List Nat} (h:Own B w v xs):Vec w v xs:=by
 refine⟨h.small,h.len,?_⟩
 have hr:=h.row
 rcases h.row.2 with ⟨rfl,hn⟩ | ⟨g,cap,cur,rfl,hb,hg,hc,hm,hs,ht⟩
 ·have:xs=[]:=List.eq_nil_of_length_eq_zero hn
  subst this
  exact⟨none,0,rfl,Nat.le_refl _,by decide,fun h=>absurd rfl h⟩
 ·refine⟨some ⟨g,0,none⟩,cap,rfl,hc,hm,fun _=>⟨g,0,rfl,fun j hj=>?_⟩⟩
  have:=hr.cells (g:=g) rfl j _ (getD_map_bv xs j hj)
  rwa [add_at] at this
theorem grown_trans {a b c:World} {row:Option Nat} (h:a.grownBy b row) (k:b.grownBy c row):a.grownBy c row :=
 ⟨k.os.trans h.os,k.tape.trans h.tape,k.output.trans h.output,Nat.le_trans h.size k.size,fun i hi hr=>(k.block i (Nat.lt_of_lt_of_le hi h.size) hr).trans (h.block i hi hr)⟩
theorem grown_any {a b:World} (h:a.grownBy b none) (row:Option Nat):a.grownBy b row :=
 ⟨h.os,h.tape,h.output,h.size,fun i hi _=>h.block i hi (by simp)⟩
theorem grown_new {a b c:World} {row:Option Nat} (h:a.grownBy b none) (k:b.grownBy c row) (hr:∀ i,row=some i->a.heap.size<=i):a.grownBy c none :=
 ⟨k.os.trans h.os,k.tape.trans h.tape,k.output.trans h.output,Nat.le_trans h.size k.size,fun i hi _=>(k.block i (Nat.lt_of_lt_of_le hi h.size) (fun e=>by have:=hr i e.symm;omega)).trans (h.block i hi (by simp))⟩
theorem grown_drewN (w:World) (n:Nat):w.grownBy (w.drewN n) none:=⟨rfl,rfl,rfl,Nat.le_refl _,fun _ _ _=>rfl⟩
theorem grown_below {a b:World} {row:Option Nat} {B:Nat} (h:a.grownBy b row) (hB:B<=a.heap.size) (hr:∀ i,row=some i->B<=i):Below B a b :=
 (Below.refl B a).grown h hB hr
theorem Cells.kept {w w':World} {v:Value} {vs:List Value} {row:Option Nat} (h:Cells w v vs) (g:w.grownBy w' row) (ne:v.ownBlock=none\/v.ownBlock ≠ row):Cells w' v vs:=by
 obtain⟨h2,p,cap,rfl,h3,h4,h5⟩:=h
 refine⟨h2,p,cap,rfl,h3,h4,fun hx=>?_⟩
 obtain⟨b,off,rfl,hc⟩:=h5 hx
 refine⟨b,off,rfl,fun j hj=>g.cell (hc j hj) ?_⟩
 rcases ne with ne | ne
 ·simp[Value.ownBlock] at ne
 ·simpa [Value.ownBlock] using ne
theorem Cells.keep {w w':World} {v:Value} {vs:List Value} (h:Cells w v vs) (g:w.grownBy w' none):Cells w' v vs :=
 h.kept g (by cases h:v.ownBlock <;> simp)
theorem Mat.keep {w w':World} {v:Value} {vs:List Value} {xss:List (List Nat)} (h:Mat w v vs xss) (g:w.grownBy w' none):Mat w' v vs xss :=
 ⟨h.row.keep g,h.same,fun j hj=>(h.vec j hj).keep g⟩
theorem Vec.at {w:World} {v:Value} {xs:List Nat} (h:Vec w v xs) {k:Nat} (hk:k < xs.length) :
 ∃ b off cap,v=.slice (some ⟨b,off,none⟩) xs.length cap/\w.cell? ⟨b,off+k,none⟩=some (.int .u8 ((xs.getD k 0:Nat):Int))/\xs.getD k 0 < 256:=by
 obtain⟨h1,h2,p,cap,rfl,h3,h4,h5⟩:=h
 obtain⟨b,off,rfl,hc⟩:=h5 (fun e=>by subst e;simp at hk)
 refine⟨b,off,cap,rfl,hc k hk,h1 _ ?_⟩
 simp[List.getD,hk]
theorem Cells.at {w:World} {v:Value} {vs:List Value} (h:Cells w v vs) {k:Nat} (hk:k < vs.length) :
 ∃ b off cap,v=.slice (some ⟨b,off,none⟩) vs.length cap/\w.cell? ⟨b,off+k,none⟩=some (vs.getD k undef):=by
 obtain⟨h2,p,cap,rfl,h3,h4,h5⟩:=h
 obtain⟨b,off,rfl,hc⟩:=h5 (fun e=>by subst e;simp at hk)
 exact⟨b,off,cap,rfl,hc k hk⟩
theorem Tryz.info5:(Tryz.prog.info? 5).map (fun i=>(i.zero,i.size,i.bytes))=some (some (.int .u8 0),1,1):=by kernel_rfl
theorem lay9:(∀ {α:Type} {xs:List α} {i:Nat} (h:i < xs.toArray.size),xs.toArray[i]=xs[i]'(by simpa using h))/\(∀ {α:Type} {a:α} {xs:List α} {i:Nat} (h:i+1 < (a :: xs).length),(a :: xs)[i+1]=xs[i]'(by simpa using h))/\(∀ {α:Type} {a:α} {xs:List α} (h:0 < (a :: xs).length),(a :: xs)[0]=a) /\
 (∀ {α:Type} {l:List α} {i:Nat} {a:α},l.toArray.setIfInBounds i a=(l.set i a).toArray)/\(∀ {α:Type} {x:α} {xs:List α} {a:α},(x :: xs).set 0 a=a :: xs)/\(∀ {α:Type} {x:α} {xs:List α} {n:Nat} {a:α},(x :: xs).set (n+1) a=x :: xs.set n a):=by
 refine⟨?_,?_,?_,?_,?_,?_⟩ <;> intros <;> simp
def strOf (xs:List Nat):ByteArray:=strOfNums (xs.map fun (x:Nat)=>(x:Int))
theorem convert_vec {w:World} {v:Value} {xs:List Nat} (h:Vec w v xs):(convert 31 9 v).run Tryz.prog w=.ok (.string (strOf xs)) w:=by
 obtain⟨h1,h2,p,cap,rfl,h3,h4,h5⟩:=h
 by_cases hx:xs=[]
 ·subst hx
  cases p with
  | none=>exact run_convert_bytes_nil w 31 5 Tryz.underlying31 Tryz.underlying5 _ _ 9 Tryz.underlying9
  | some a =>
    rw[run_convert_bytes_string w 31 9 5 _ _ cap Tryz.underlying31 Tryz.underlying5 Tryz.underlying9]
    have hl:(loadCells a 0).run Tryz.prog w=.ok (([]:List Int).map (Value.int .u8)).toArray w:=by simpa using run_loadCells_list (P:=Tryz.prog) w a [] (by simp)
    exact run_bytesToString w a 0 cap [] hl
 ·obtain⟨b,off,rfl,hc⟩:=h5 hx
  refine run_convert_bytes_arg w 31 5 Tryz.underlying31 Tryz.underlying5 b off xs.length cap _ (by simp) (fun i hi=>?_) 9 Tryz.underlying9
  rw[hc i hi]
  simp[List.getD,hi]
theorem strOf_eq {xs ys:List Nat} (hx:∀ x ∈ xs,x < 256) (hy:∀ x ∈ ys,x < 256) (h:strOf xs=strOf ys):xs=ys:=by
 have e:∀ zs:List Nat,(∀ x ∈ zs,x < 256)->(strOf zs).data.toList.map UInt8.toNat=zs:=fun zs hz=>by
  simp only[strOf,strOfNums,List.map_map,List.toList_toArray]
  apply List.ext_getElem
  ·simp
  ·intro i h1 h2
   have:=hz zs[i] (List.getElem_mem _)
   simp
   omega
 rw[<- e xs hx,<- e ys hy,h]
theorem str_cmp {xs ys:List Nat} (hx:∀ x ∈ xs,x < 256) (hy:∀ x ∈ ys,x < 256):((strOf xs).toList==(strOf ys).toList)=decide (xs=ys):=by
 by_cases e:xs=ys
 ·subst e;simp
 ·have:(strOf xs).toList ≠ (strOf ys).toList:=fun h=>e (strOf_eq hx hy (by
   rw[ByteArray.toList_eq,ByteArray.toList_eq] at h
   have h2:=Array.toList_inj.1 h
   cases hx:strOf xs
   cases hy:strOf ys
   rw[hx,hy] at h2
   exact congrArg ByteArray.mk h2))
  simp[this,e]
theorem run_append_vec {B:Nat} {w:World} {d s:Value} {xs ys:List Nat} (hd:Own B w d xs) (hs:Vec w s ys) (hB:B<=w.heap.size) (hl:xs.length+ys.length<=140737488351232) (ty:TypeId) :
 ∃ v' w',(Builtin.append_ #[31,31] ty #[d,s]).run Tryz.prog w=.ok v' w'/\Own B w' v' (xs++ys)/\w.grownBy w' d.ownBlock:=by
 obtain⟨i0,hi,hz0,hz1,hz2⟩:=info_parts Tryz.info5
 have hsm:∀ x ∈ xs++ys,x < 256:=fun x hx=>by
  rcases List.mem_append.1 hx with h | h
  ·exact hd.small x h
  ·exact hs.small x h
 obtain⟨s1,s2,p,cap,rfl,s3,s4,s5⟩:=hs
 cases p with
 | none =>
   have hy:ys=[]:=by
    refine Classical.byContradiction fun hy=>?_
    obtain⟨b,off,e,_⟩:=s5 hy
    cases e
   subst hy
   rcases hd.row.2 with ⟨rfl,hn⟩ | ⟨g,dcap,cur,rfl,hb,hg,hcc,hm,hcs,ht⟩
   ·have hx:xs=[]:=List.eq_nil_of_length_eq_zero hn
    subst hx
    refine⟨.slice none 0 0,w,?_,hd,World.grownBy.refl _ _⟩
    simp[Builtin.append_,run_underlying Tryz.underlying31,sizeOf,typeInfo,hi,Builtin.lenOf,Builtin.firstCells]
   ·refine⟨.slice (some ⟨g,0,none⟩) xs.length dcap,w,?_,by simpa using hd,World.grownBy.refl _ _⟩
    simp[Builtin.append_,run_underlying Tryz.underlying31,sizeOf,typeInfo,hi,Builtin.lenOf,Builtin.firstCells,hcc,storeCells]
 | some a =>
   obtain⟨v',w',h1,h2,h3,_⟩:=run_append_own (P:=Tryz.prog) w B 31 ty 5 i0 (.int .u8 0) 1 1 Tryz.underlying31 hi hz0 hz1 hz2 rfl (by decide) d xs.length (xs.map bv) hd.row a ys.length cap (ys.map bv) (by simp)
    (fun j u hj=>by
      have hj':j < ys.length:=by
       have:=(List.getElem?_eq_some_iff.1 hj).1
       simpa using this
      obtain⟨b,off,e,hc⟩:=s5 (fun e=>by subst e;simp at hj')
      obtain rfl:=Option.some.inj e
      rw[getD_map_bv ys j hj'] at hj
      rw[add_off,hc j hj'];exact hj)
    (fun v hv=>by obtain⟨x,_,rfl⟩:=List.mem_map.1 hv;rfl) (by unfold maxLen;omega) (by omega) hB
   exact⟨v',w',h1,⟨hsm,by simpa using hl,by simpa using h2⟩,h3⟩
theorem Own.nil (B:Nat) (w:World):Own B w (.slice none 0 0) []:=⟨by simp,by simp,World.ownsRow_nil w B 5 1⟩
theorem wpList_append_vec {w:World} {ops:Array Oper} {rest:List Oper} {o:Oper} {a:Act} {Q:Exit->Act->World->Prop} (hgd:o.guard=none) (d s:Operand)
 (ho:o.op=.call { callee:=.builtin .append,args:=#[d,s],argTypes:=#[31,31] }) (dv sv:Value) (hed:a.eval d=dv) (hes:a.eval s=sv)
 {B:Nat} {xs ys:List Nat} (hd:Own B w dv xs) (hs:Vec w sv ys) (hB:B<=w.heap.size) (hl:xs.length+ys.length<=140737488351232)
 (h:∀ v' w',Own B w' v' (xs++ys)->w.grownBy w' dv.ownBlock->wpList Tryz.prog ops Q rest (a.put o.dst v') w'):wpList Tryz.prog ops Q (o :: rest) a w:=by
 refine wpList_plain hgd fun K hK=>?_
 obtain⟨v',w',hrun,h1,h2⟩:=run_append_vec hd hs hB hl o.type
 unfold Oper.wp
 simp[execOp,ho,resolve,invoke,builtin,hed,hes,hrun,Result.andThen]
 exact hK _ _ (h _ _ h1 h2)
theorem Vec.opened {w:World} {v:Value} {xs:List Nat} (h:Vec w v xs):∃ p n cap,v=.slice p n cap/\n=xs.length:=by
 obtain⟨p,cap,e,_⟩:=h.form
 exact⟨p,_,cap,e,rfl⟩
theorem getD_small {xs:List Nat} (hx:∀ x ∈ xs,x < 256) (j:Nat):xs.getD j 0 < 256:=by
 by_cases hj:j < xs.length
 ·exact hx _ (by simp[List.getD,hj])
 ·simp[List.getD,hj]
theorem Cells.opened {w:World} {v:Value} {vs:List Value} (h:Cells w v vs):∃ p n cap,v=.slice p n cap/\n=vs.length:=by
 obtain⟨p,cap,e,_⟩:=h.form
 exact⟨p,_,cap,e,rfl⟩
theorem Vec.spot {w:World} {p:Option Addr} {n cap:Nat} {xs:List Nat} (h:Vec w (.slice p n cap) xs) {k:Nat} (hk:k < xs.length) :
 ∃ b off,p=some ⟨b,off,none⟩/\w.cell? ⟨b,off+k,none⟩=some (.int .u8 ((xs.getD k 0:Nat):Int))/\xs.getD k 0 < 256:=by
 obtain⟨b,off,cap',e,h1,h2⟩:=h.at hk
 injection e with e1 _ _
 exact⟨b,off,e1,h1,h2⟩
theorem Cells.spot {w:World} {p:Option Addr} {n cap:Nat} {vs:List Value} (h:Cells w (.slice p n cap) vs) {k:Nat} (hk:k < vs.length) :
 ∃ b off,p=some ⟨b,off,none⟩/\w.cell? ⟨b,off+k,none⟩=some (vs.getD k undef):=by
 obtain⟨b,off,cap',e,h1⟩:=h.at hk
 injection e with e1 _ _
 exact⟨b,off,e1,h1⟩
theorem Own.down {B B':Nat} {w:World} {v:Value} {xs:List Nat} (h:Own B' w v xs) (hB:B<=B'):Own B w v xs :=
 ⟨h.small,h.len,h.row.1,by
   rcases h.row.2 with h | ⟨g,cp,cur,a1,a2,a3⟩
   ·exact .inl h
   ·exact .inr ⟨g,cp,cur,a1,by omega,a3⟩⟩
theorem take_small {xs:List Nat} (h:∀ x ∈ xs,x < 256) (n:Nat):∀ x ∈ xs.take n,x < 256:=fun x hx=>h x (List.mem_of_mem_take hx)
theorem Vec.cut {w:World} {p:Option Addr} {len cap:Nat} {xs:List Nat} (h:Vec w (.slice p len cap) xs) {n:Nat} (hn:n<=xs.length):Vec w (.slice p n cap) (xs.take n):=by
 obtain⟨h1,h2,p',cap',e,h3,h4,h5⟩:=h
 injection e with e1 e2 e3
 subst e1
 subst e3
 have hl:(xs.take n).length=n:=by simp;omega
 refine⟨take_small h1 n,by omega,p,cap,by rw[hl],by omega,h4,fun hne=>?_⟩
 obtain⟨b,off,e,hc⟩:=h5 (fun e=>hne (by rw[e];simp))
 refine⟨b,off,e,fun j hj=>?_⟩
 rw[hl] at hj
 rw[hc j (by omega)]
 simp[List.getD,hj,show j < xs.length from by omega]
theorem own_lit {B g n:Nat} {w:World} {xs:List Nat} (h:w.heap[g]?=some (.cells (xs.map bv).toArray 5 (0,0))) (hB:B<=g) (hn:n=xs.length) (hx:∀ x ∈ xs,x < 256) (hl:xs.length<=140737488351232) :
 Own B w (.slice (some ⟨g,0,none⟩) n n) xs:=by
 subst hn
 exact⟨hx,hl,by simp,.inr ⟨g,_,_,rfl,hB,h,Nat.le_refl _,by unfold maxLen;omega,by simp,by simp[List.take_of_length_le]⟩⟩
theorem heap_new (w:World) (o:Obj) (g:Nat) (h:g=w.heap.size):(w.alloc o).heap[g]?=some o:=by subst h;exact heap_alloc_new w o
theorem heap_old (w:World) (o:Obj) {g:Nat} {b:Obj} (h:w.heap[g]?=some b):(w.alloc o).heap[g]?=some b:=by
 exact (Below.heap_alloc w o g (Array.getElem?_eq_some_iff.1 h).1).trans h
theorem Tryz.info22:(Tryz.prog.info? 31).map (fun i=>(i.zero,i.size,i.bytes))=some (some (.slice none 0 0),1,24):=by kernel_rfl
structure OwnMat (B:Nat) (w:World) (v:Value) (us:List Value) (xss:List (List Nat)):Prop where
 len:us.length * 24<=140737488351232
 row:w.ownsRow B 31 1 v us.length us
 same:us.length=xss.length
 vec:∀ j,j < xss.length->Own B w (us.getD j undef) (xss.getD j [])
theorem apart_kinds {B B':Nat} {w:World} {v u:Value} {n:Nat} {us:List Value} {xs:List Nat} (hv:w.ownsRow B 31 1 v n us) (hu:Own B' w u xs):u.ownBlock=none\/u.ownBlock ≠ v.ownBlock:=by
 rcases hu.row.2 with ⟨rfl,_⟩ | ⟨g,cap,cur,rfl,_,hg,_⟩
 ·exact .inl rfl
 ·rcases hv.2 with ⟨rfl,_⟩ | ⟨g',cap',cur',rfl,_,hg',_⟩
  ·exact .inr (by simp[Value.ownBlock])
  ·refine .inr fun e=>?_
   simp only[Value.ownBlock,Option.some.injEq] at e
   subst e
   rw[hg] at hg'
   simp at hg'
theorem OwnMat.nil (B:Nat) (w:World):OwnMat B w (.slice none 0 0) [] []:=⟨by simp,World.ownsRow_nil w B 31 1,rfl,by simp⟩
theorem OwnMat.lo {B:Nat} {w:World} {v:Value} {us:List Value} {xss:List (List Nat)} (h:OwnMat B w v us xss):Lo B v:=fun k hk=>(h.row.lt k hk).1
theorem OwnMat.hi {B:Nat} {w:World} {v:Value} {us:List Value} {xss:List (List Nat)} (h:OwnMat B w v us xss):Hi w.heap.size v:=fun k hk=>(h.row.lt k hk).2
theorem OwnMat.keep {B:Nat} {w w':World} {v:Value} {us:List Value} {xss:List (List Nat)} (h:OwnMat B w v us xss) (g:w.grownBy w' none):OwnMat B w' v us xss :=
 ⟨h.len,h.row.kept g (by cases h:v.ownBlock <;> simp),h.same,fun j hj=>(h.vec j hj).keep g⟩
theorem OwnMat.mat {B:Nat} {w:World} {v:Value} {us:List Value} {xss:List (List Nat)} (h:OwnMat B w v us xss):Mat w v us xss:=by
 refine⟨⟨h.len,?_⟩,h.same,fun j hj=>(h.vec j hj).vec⟩
 have hr:=h.row
 rcases h.row.2 with ⟨rfl,hn⟩ | ⟨g,cap,cur,rfl,hb,hg,hc,hm,hs,ht⟩
 ·have:us=[]:=List.eq_nil_of_length_eq_zero hn
  subst this
  exact⟨none,0,rfl,Nat.le_refl _,by decide,fun h=>absurd rfl h⟩
 ·refine⟨some ⟨g,0,none⟩,cap,rfl,hc,hm,fun _=>⟨g,0,rfl,fun j hj=>?_⟩⟩
  have:=hr.cells (g:=g) rfl j (us.getD j undef) (by simp[List.getD,hj])
  rwa [add_at] at this
theorem OwnMat.more {B:Nat} {w w2:World} {v v' u:Value} {us:List Value} {xss:List (List Nat)} {xs:List Nat} (h:OwnMat B w v us xss) (hu:Own B w u xs)
 (hl:(us.length+1) * 24<=140737488351232) (hr:w2.ownsRow B 31 1 v' (us.length+1) (us++[u])) (hg:w.grownBy w2 v.ownBlock):OwnMat B w2 v' (us++[u]) (xss++[xs]):=by
 refine⟨by simpa using hl,by simpa using hr,by simp[h.same],fun j hj=>?_⟩
 have hs:=h.same
 by_cases hj':j < xss.length
 ·have e1:(us++[u]).getD j undef=us.getD j undef:=by simp[List.getD,List.getElem?_append,show j < us.length from by omega]
  have e2:(xss++[xs]).getD j []=xss.getD j []:=by simp[List.getD,List.getElem?_append,hj']
  rw[e1,e2]
  exact (h.vec j hj').kept hg (apart_kinds h.row (h.vec j hj'))
 ·have hj2:j=xss.length:=by simp at hj;omega
  have e1:(us++[u]).getD j undef=u:=by simp[List.getD,hj2,<- hs]
  have e2:(xss++[xs]).getD j []=xs:=by simp[List.getD,hj2]
  rw[e1,e2]
  exact hu.kept hg (apart_kinds h.row hu)
theorem Own.spot {B:Nat} {w:World} {p:Option Addr} {n cap:Nat} {xs:List Nat} (h:Own B w (.slice p n cap) xs) {k:Nat} (hk:k < xs.length) :
 ∃ g,p=some ⟨g,0,none⟩/\n=xs.length/\w.cell? ⟨g,k,none⟩=some (.int .u8 ((xs.getD k 0:Nat):Int))/\w.frozen? ⟨g,k,none⟩=false/\xs.getD k 0 < 256 /\
   (∀ z:Nat,z < 256->Own B (w.setCell ⟨g,k,none⟩ (.int .u8 (z:Int))) (.slice (some ⟨g,0,none⟩) n cap) (xs.set k z))/\∀ u,w.grownBy (w.setCell ⟨g,k,none⟩ u) (some g):=by
 have hv:=h.vec.at hk
 have hr:=h.row
 rcases h.row.2 with ⟨e,hn⟩ | ⟨g,cap',cur,e,hb,hg,hc,hm,hs,ht⟩
 ·omega
 ·injection e with e1 e2 e3
  subst e1
  subst e2
  subst e3
  obtain⟨b,off,c2,e4,hcell,hsm⟩:=hv
  injection e4 with e5 _ _
  injection e5 with e5
  injection e5 with e6 e7
  subst e6
  subst e7
  rw[Nat.zero_add] at hcell
  refine⟨g,rfl,rfl,hcell,by simp[World.frozen?,hg],hsm,fun z hz=>⟨fun x hx=>?_,by simpa using h.len,by simp,.inr ⟨g,cap,cur.setIfInBounds k (.int .u8 (z:Int)),by simp,hb,?_,by simpa using hc,hm,by simpa using hs,?_⟩⟩,fun u=>⟨rfl,rfl,rfl,by simp,fun i hi hne=>Below.heap_setCell _ _ _ _ (by simpa using hne)⟩⟩
  ·rcases List.mem_or_eq_of_mem_set hx with h1 | h1
   ·exact h.small x h1
   ·rw[h1];exact hz
  ·rw[setCell_eq_setRow w g k cur 5 (0,0) _ hg]
   exact setRow_heap w g cur _ 5 _ hg
  ·simp only[Array.toList_setIfInBounds,List.length_set,List.map_set]
   rw[<- ht,List.take_set]
structure Out (B:Nat) (w:World) (v:Value) (us:List Value):Prop where
 len:us.length * 24<=140737488351232
 row:w.ownsRow B 31 1 v us.length us
theorem Out.lo {B:Nat} {w:World} {v:Value} {us:List Value} (h:Out B w v us):Lo B v:=fun k hk=>(h.row.lt k hk).1
theorem Out.kept {B:Nat} {w w':World} {v:Value} {us:List Value} {row:Option Nat} (h:Out B w v us) (g:w.grownBy w' row) (ne:v.ownBlock=none\/v.ownBlock ≠ row):Out B w' v us :=
 ⟨h.len,h.row.kept g ne⟩
theorem Out.keep {B:Nat} {w w':World} {v:Value} {us:List Value} (h:Out B w v us) (g:w.grownBy w' none):Out B w' v us :=
 h.kept g (by cases h:v.ownBlock <;> simp)
theorem OwnMat.out {B:Nat} {w:World} {v:Value} {us:List Value} {xss:List (List Nat)} (h:OwnMat B w v us xss):Out B w v us:=⟨h.len,h.row⟩
theorem Out.cells {B:Nat} {w:World} {v:Value} {us:List Value} (h:Out B w v us):Cells w v us:=by
 refine⟨h.len,?_⟩
 have hr:=h.row
 rcases h.row.2 with ⟨rfl,hn⟩ | ⟨g,cap,cur,rfl,hb,hg,hc,hm,hs,ht⟩
 ·have:us=[]:=List.eq_nil_of_length_eq_zero hn
  subst this
  exact⟨none,0,rfl,Nat.le_refl _,by decide,fun h=>absurd rfl h⟩
 ·refine⟨some ⟨g,0,none⟩,cap,rfl,hc,hm,fun _=>⟨g,0,rfl,fun j hj=>?_⟩⟩
  have:=hr.cells (g:=g) rfl j (us.getD j undef) (by simp[List.getD,hj])
  rwa [add_at] at this
def Ap (v u:Value):Prop:=v.ownBlock=none\/v.ownBlock ≠ u.ownBlock
theorem Ap.symm {v u:Value} (h:Ap v u):Ap u v:=by
 unfold Ap at *
 cases hu:u.ownBlock with
 | none=>exact .inl rfl
 | some k =>
   rcases h with h | h
   ·rw[h];exact .inr (by simp)
   ·exact .inr fun e=>h (by rw[hu,e])
theorem run_append_out {B:Nat} {w:World} {dv:Value} {us:List Value} (hd:Out B w dv us) (ad:Addr) {u:Value} (hu:w.cell? ad=some u) (h1:u.oneCell'=true) (hB:B<=w.heap.size) (hl:(us.length+1) * 24<=140737488351232) (ty:TypeId) :
 ∃ v' w',(Builtin.append_ #[95,95] ty #[dv,.slice (some ad) 1 1]).run Tryz.prog w=.ok v' w'/\Out B w' v' (us++[u])/\w.grownBy w' dv.ownBlock/\(v'.ownBlock=dv.ownBlock\/v'.ownBlock=some w.heap.size):=by
 obtain⟨i0,hi,hz0,hz1,hz2⟩:=info_parts Tryz.info22
 obtain⟨v',w',r1,r2,r3,_,r5⟩:=run_append_own_at (P:=Tryz.prog) w B 95 ty 31 i0 (.slice none 0 0) 1 24 Tryz.underlying95 hi hz0 hz1 hz2 rfl (by decide) dv us.length us hd.row ad 1 1 [u] (by simp)
  (fun j v hj=>by
    match j,hj with
    | 0,hj=>simp at hj;subst hj;simpa [Addr.add] using hu)
  (fun v hv=>by simp at hv;subst hv;exact h1) (by unfold maxLen;omega) (by omega) hB
 exact⟨v',w',r1,⟨by simpa using hl,by simpa using r2⟩,r3,r5⟩
theorem wpList_append_out {w:World} {ops:Array Oper} {rest:List Oper} {o:Oper} {a:Act} {Q:Exit->Act->World->Prop} (hgd:o.guard=none) (d s:Operand)
 (ho:o.op=.call { callee:=.builtin .append,args:=#[d,s],argTypes:=#[95,95] }) (dv:Value) (ad:Addr) (hed:a.eval d=dv) (hes:a.eval s=.slice (some ad) 1 1)
 {B:Nat} {us:List Value} {u:Value} (hd:Out B w dv us) (hu:w.cell? ad=some u) (h1:u.oneCell'=true) (hB:B<=w.heap.size) (hl:(us.length+1) * 24<=140737488351232)
 (h:∀ v' w',Out B w' v' (us++[u])->w.grownBy w' dv.ownBlock->(v'.ownBlock=dv.ownBlock\/v'.ownBlock=some w.heap.size)->wpList Tryz.prog ops Q rest (a.put o.dst v') w'):wpList Tryz.prog ops Q (o :: rest) a w:=by
 refine wpList_plain hgd fun K hK=>?_
 obtain⟨v',w',hrun,r1,r2,r3⟩:=run_append_out hd ad hu h1 hB hl o.type
 unfold Oper.wp
 simp[execOp,ho,resolve,invoke,builtin,hed,hes,hrun,Result.andThen]
 exact hK _ _ (h _ _ r1 r2 r3)
theorem ap_nil (n c:Nat) (u:Value):Ap (.slice none n c) u:=.inl rfl
def Sep (us:List Value):Prop:=∀ i j,i < us.length->j < us.length->i ≠ j->Ap (us.getD i undef) (us.getD j undef)
theorem getD_set_self {α:Type} (us:List α) (k:Nat) (u d:α) (h:k < us.length):(us.set k u).getD k d=u:=by simp[List.getD,h]
theorem getD_set_ne {α:Type} (us:List α) {k j:Nat} (u d:α) (h:k ≠ j):(us.set k u).getD j d=us.getD j d:=by simp[List.getD,h]
theorem getD_replicate {α:Type} (n j:Nat) (a d:α) (h:j < n):(List.replicate n a).getD j d=a:=by simp[List.getD,h]
theorem Sep.nils (n:Nat):Sep (List.replicate n (.slice none 0 0)):=fun i j hi _ _=>by
 rw[getD_replicate _ _ _ _ (by simpa using hi)];exact ap_nil _ _ _
theorem ap_of {H:Nat} {v u:Value} (hv:Hi H v) (hu:Lo H u):Ap v u:=apart_of hv hu
theorem Sep.put {H:Nat} {us:List Value} (h:Sep us) (hh:∀ j,j < us.length->Hi H (us.getD j undef)) {u:Value} (hu:Lo H u) (k:Nat):Sep (us.set k u):=by
 intro i j hi hj hne
 simp only[List.length_set] at hi hj
 by_cases e1:k=i
 ·subst e1
  rw[getD_set_self _ _ _ _ hi,getD_set_ne _ _ _ hne]
  exact (ap_of (hh j hj) hu).symm
 ·rw[getD_set_ne _ _ _ e1]
  by_cases e2:k=j
  ·subst e2
   rw[getD_set_self _ _ _ _ hj]
   exact ap_of (hh i hi) hu
  ·rw[getD_set_ne _ _ _ e2]
   exact h i j hi hj hne
theorem Sep.swap {us:List Value} (h:Sep us) {a b:Nat} (ha:a < us.length) (hb:b < us.length):Sep ((us.set a (us.getD b undef)).set b (us.getD a undef)):=by
 have key:∀ i,i < us.length->((us.set a (us.getD b undef)).set b (us.getD a undef)).getD i undef=us.getD (if i=b then a else if i=a then b else i) undef:=by
  intro i hi
  by_cases e:b=i
  ·subst e
   rw[getD_set_self _ _ _ _ (by simpa using hi)];simp
  ·rw[getD_set_ne _ _ _ e,if_neg (fun x=>e x.symm)]
   by_cases e2:a=i
   ·subst e2
    rw[getD_set_self _ _ _ _ hi];simp
   ·rw[getD_set_ne _ _ _ e2,if_neg (fun x=>e2 x.symm)]
 intro i j hi hj hne
 simp only[List.length_set] at hi hj
 rw[key i hi,key j hj]
 refine h _ _ ?_ ?_ ?_
 ·split
  ·exact ha
  ·split <;> assumption
 ·split
  ·exact ha
  ·split <;> assumption
 ·split <;> split <;> (try split) <;> (try split) <;> omega
theorem OwnMat.rowSet {B:Nat} {w w':World} {v:Value} {us:List Value} {X:List (List Nat)} {k:Nat} {ys:List Nat} (h:OwnMat B w v us X) (hs:Sep us) (hk:k < X.length)
 (o:Own B w' (us.getD k undef) ys) (g:w.grownBy w' (us.getD k undef).ownBlock):OwnMat B w' v us (X.set k ys):=by
 have hsm:=h.same
 have hap:Ap v (us.getD k undef):=Ap.symm (show Ap _ _ from apart_kinds h.row (h.vec k hk))
 refine⟨h.len,h.row.kept g hap,by simpa using h.same,fun j hj=>?_⟩
 simp only[List.length_set] at hj
 by_cases e:k=j
 ·subst e
  rw[getD_set_self _ _ _ _ hk];exact o
 ·rw[getD_set_ne _ _ _ e]
  exact (h.vec j hj).kept g (hs j k (by omega) (by omega) (fun x=>e x.symm))
theorem OwnMat.place {B:Nat} {w:World} {p:Option Addr} {n cap:Nat} {us:List Value} {X:List (List Nat)} (h:OwnMat B w (.slice p n cap) us X) {k:Nat} (hk:k < X.length) :
 ∃ g,p=some ⟨g,0,none⟩/\B<=g/\w.cell? ⟨g,k,none⟩=some (us.getD k undef)/\w.frozen? ⟨g,k,none⟩=false /\
   (∀ u ys,Own B w u ys->OwnMat B (w.setCell ⟨g,k,none⟩ u) (.slice (some ⟨g,0,none⟩) n cap) (us.set k u) (X.set k ys))/\(∀ u ys,Own B w u ys->Own B (w.setCell ⟨g,k,none⟩ u) u ys)/\∀ u,w.grownBy (w.setCell ⟨g,k,none⟩ u) (some g):=by
 have hsm:=h.same
 have hr:=h.row
 have hrow:=h.row
 rcases h.row.2 with ⟨e,hn⟩ | ⟨g,cap',cur,e,hb,hg,hc,hm,hs,ht⟩
 ·omega
 ·injection e with e1 e2 e3
  subst e1
  subst e2
  subst e3
  have hcell:w.cell? ⟨g,k,none⟩=some (us.getD k undef):=by
   have:=hr.cells (g:=g) rfl k (us.getD k undef) (by simp[List.getD,show k < us.length from by omega])
   rwa [add_at,Nat.zero_add] at this
  have hgr:∀ u,w.grownBy (w.setCell ⟨g,k,none⟩ u) (some g):=fun u=>⟨rfl,rfl,rfl,by simp,fun i hi hne=>Below.heap_setCell _ _ _ _ (by simpa using hne)⟩
  have hown:∀ u u' ys,Own B w u ys->Own B (w.setCell ⟨g,k,none⟩ u') u ys:=fun u u' ys hu=>hu.kept (hgr u') (apart_kinds hrow hu)
  refine⟨g,rfl,hb,hcell,by simp[World.frozen?,hg],fun u ys hu=>⟨by simpa using h.len,⟨by simp,.inr ⟨g,cap,cur.setIfInBounds k u,by simp,hb,?_,by simpa using hc,hm,by simpa using hs,?_⟩⟩,by simpa using h.same,fun j hj=>?_⟩,fun u ys hu=>hown u u ys hu,hgr⟩
  ·rw[setCell_eq_setRow w g k cur 31 (0,0) _ hg]
   exact setRow_heap w g cur _ 31 _ hg
  ·simp only[Array.toList_setIfInBounds,List.length_set]
   rw[List.take_set,ht]
  ·simp only[List.length_set] at hj
   by_cases e:k=j
   ·subst e
    rw[getD_set_self _ _ _ _ (by omega),getD_set_self _ _ _ _ hj]
    exact hown u u ys hu
   ·rw[getD_set_ne _ _ _ e,getD_set_ne _ _ _ e]
    exact hown _ u _ (h.vec j hj)
theorem OwnMat.hiRow {B:Nat} {w:World} {v:Value} {us:List Value} {X:List (List Nat)} (h:OwnMat B w v us X) (j:Nat) (hj:j < us.length):Hi w.heap.size (us.getD j undef):=(h.vec j (by have:=h.same;omega)).hi
theorem OwnMat.down {B B':Nat} {w:World} {v:Value} {us:List Value} {X:List (List Nat)} (h:OwnMat B' w v us X) (hB:B<=B'):OwnMat B w v us X :=
 ⟨h.len,⟨h.row.1,by
   rcases h.row.2 with h | ⟨g,cp,cur,a1,a2,a3⟩
   ·exact .inl h
   ·exact .inr ⟨g,cp,cur,a1,by omega,a3⟩⟩,h.same,fun j hj=>(h.vec j hj).down hB⟩
theorem made_list (z:Value) (n:Nat):(madeCells #[z] n).toList.take n=List.replicate n z:=by
 apply List.ext_getElem
 ·simp[madeCells]
 ·intro i h1 h2
  simp[madeCells,Nat.mod_one]
theorem made_own {w w':World} {n:Nat} (hn:n<=140737488351232) (e:w'=w.alloc (.cells (madeCells #[.int .u8 0] n) 5)):Own w.heap.size w' (.slice (some ⟨w.heap.size,0,none⟩) n n) (List.replicate n 0):=by
 subst e
 refine⟨fun x hx=>by rw[(List.mem_replicate.1 hx).2];decide,by simpa using hn,by simp,.inr ⟨w.heap.size,n,_,by simp,Nat.le_refl _,heap_alloc_new w _,by simp,by unfold maxLen;omega,?_,?_⟩⟩
 ·simp[madeCells]
 ·rw[List.map_replicate,Nat.mul_one,List.length_replicate];exact made_list _ n
theorem made_rows {w w':World} {n:Nat} (hn:n * 24<=140737488351232) (e:w'=w.alloc (.cells (madeCells #[.slice none 0 0] n) 31)):OwnMat w.heap.size w' (.slice (some ⟨w.heap.size,0,none⟩) n n) (List.replicate n (.slice none 0 0)) (List.replicate n []):=by
 subst e
 refine⟨by simpa using hn,⟨by simp,.inr ⟨w.heap.size,n,_,by simp,Nat.le_refl _,heap_alloc_new w _,by simp,by unfold maxLen;omega,?_,?_⟩⟩,by simp,fun j hj=>?_⟩
 ·simp[madeCells]
 ·rw[Nat.mul_one,List.length_replicate];exact made_list _ n
 ·simp only[List.length_replicate] at hj
  rw[getD_replicate _ _ _ _ hj,getD_replicate _ _ _ _ hj]
  exact Own.nil _ _
theorem wpList_make_vec {w:World} {ops:Array Oper} {rest:List Oper} {o:Oper} {a:Act} {Q:Exit->Act->World->Prop} (hgd:o.guard=none) (l c:Operand)
 (ho:o.op=Op.makeSlice 31 l c) (n:Nat) (hel:a.eval l=.int .i64 (n:Int)) (hec:a.eval c=.int .i64 (n:Int)) (hn:n<=140737488351232)
 (h:∀ w1 p,Own w.heap.size w1 (.slice p n n) (List.replicate n 0)->w.grownBy w1 none->wpList Tryz.prog ops Q rest (a.put o.dst (.slice p n n)) w1):wpList Tryz.prog ops Q (o :: rest) a w:=by
 obtain⟨i0,hi,hz0,hz1,hz2⟩:=info_parts Tryz.info5
 refine wpList_make_row _ hgd l c 31 ho 5 i0 (.int .u8 0) Tryz.underlying31 hi hz0 hz1 rfl _ _ n hel hec (by rw[hz2];omega) (by omega) ?_
 exact h _ _ (made_own hn rfl) (World.grownBy_alloc _ _ none)
theorem wpList_make_rows {w:World} {ops:Array Oper} {rest:List Oper} {o:Oper} {a:Act} {Q:Exit->Act->World->Prop} (hgd:o.guard=none) (l c:Operand)
 (ho:o.op=Op.makeSlice 178 l c) (n:Nat) (hel:a.eval l=.int .i64 (n:Int)) (hec:a.eval c=.int .i64 (n:Int)) (hn:n * 24<=140737488351232)
 (h:∀ w1 p,OwnMat w.heap.size w1 (.slice p n n) (List.replicate n (.slice none 0 0)) (List.replicate n [])->w.grownBy w1 none->wpList Tryz.prog ops Q rest (a.put o.dst (.slice p n n)) w1):wpList Tryz.prog ops Q (o :: rest) a w:=by
 obtain⟨i0,hi,hz0,hz1,hz2⟩:=info_parts Tryz.info22
 refine wpList_make_row _ hgd l c 178 ho 31 i0 (.slice none 0 0) Tryz.underlying178 hi hz0 hz1 rfl _ _ n hel hec (by rw[hz2];omega) (by omega) ?_
 exact h _ _ (made_rows hn rfl) (World.grownBy_alloc _ _ none)
end Go.Proofs.YtaalagkbpeinkaaGreat
namespace Go.Proofs.YtaalagkbpeinkaaGreat.M
def dbl (x:Nat):Nat:=(2 * x % 256) ^^^ (if 128<=x then 29 else 0)
def mulGo:Nat->Nat->Nat->Nat->Nat
 | 0,s,_,_=>s
 | k+1,s,a,b=>mulGo k (s ^^^ (if b % 2=1 then a else 0)) (dbl a) (b / 2)
def mul (a b:Nat):Nat:=mulGo 8 0 a b
def pw:Nat->Nat
 | 0=>1
 | k+1=>dbl (pw k)
def lgTo:Nat->Nat->Nat
 | 0,_=>0
 | n+1,a=>if pw n=a then n else lgTo n a
def lg (a:Nat):Nat:=lgTo 255 a
def inv (a:Nat):Nat:=pw ((255 - lg a) % 255)
theorem xor_lt {a b:Nat} (ha:a < 256) (hb:b < 256):a ^^^ b < 256:=Nat.xor_lt_two_pow (n:=8) ha hb
theorem dbl_lt (x:Nat):dbl x < 256:=by
 unfold dbl
 exact xor_lt (by omega) (by split <;> omega)
theorem pw_lt:∀ k,pw k < 256
 | 0=>by decide
 | k+1=>dbl_lt (pw k)
theorem inv_lt (a:Nat):inv a < 256:=pw_lt _
theorem lgTo_lt:∀ k a,k ≠ 0->lgTo k a < k
 | k+1,a,_=>by
   unfold lgTo
   split
   ·omega
   ·by_cases h:k=0
    ·subst h;simp[lgTo]
    ·have:=lgTo_lt k a h;omega
theorem lg_lt (a:Nat):lg a < 255:=lgTo_lt 255 a (by decide)
theorem bit7 {x:Nat} (h:x < 256):x.testBit 7=decide (128<=x):=by
 rw[Nat.testBit_eq_decide_div_mod_eq]
 apply decide_eq_decide.2
 omega
theorem dbl_xor {x y:Nat} (hx:x < 256) (hy:y < 256):dbl (x ^^^ y)=dbl x ^^^ dbl y:=by
 have e:2 * (x ^^^ y) % 256=(2 * x % 256) ^^^ (2 * y % 256):=by
  have h1:∀ z,2 * z=z <<< 1:=fun z=>by rw[Nat.shiftLeft_eq];omega
  rw[h1,h1,h1,Nat.shiftLeft_xor_distrib,show (256:Nat)=2 ^ 8 from rfl,Nat.xor_mod_two_pow]
 have t:(x ^^^ y).testBit 7=(x.testBit 7 ^^ y.testBit 7):=Nat.testBit_xor ..
 rw[bit7 hx,bit7 hy,bit7 (xor_lt hx hy)] at t
 unfold dbl
 rw[e]
 generalize 2 * x % 256=u
 generalize 2 * y % 256=v
 by_cases h1:128<=x <;> by_cases h2:128<=y <;> simp only[h1,h2,decide_true,decide_false,Bool.bne_true,Bool.bne_false,Bool.not_true,Bool.not_false,decide_eq_true_eq,decide_eq_false_iff_not] at t <;> simp only[h1,h2,t,if_true,if_false]
 ·rw[Nat.xor_zero,Nat.xor_assoc u 29,<- Nat.xor_assoc 29 v 29,Nat.xor_comm 29 v,Nat.xor_assoc v 29 29,Nat.xor_self,Nat.xor_zero]
 ·rw[Nat.xor_assoc u,Nat.xor_assoc u,Nat.xor_comm 29];simp
 ·rw[Nat.xor_assoc,Nat.xor_zero]
 ·simp
theorem mulGo_sum:∀ k s a b,mulGo k s a b=s ^^^ mulGo k 0 a b
 | 0,s,a,b=>by simp[mulGo]
 | k+1,s,a,b=>by
   unfold mulGo
   rw[mulGo_sum k (s ^^^ _),mulGo_sum k (0 ^^^ _),Nat.zero_xor,Nat.xor_assoc]
theorem mulGo_succ (k a b:Nat):mulGo (k+1) 0 a b=(if b % 2=1 then a else 0) ^^^ mulGo k 0 (dbl a) (b / 2):=by
 show mulGo k (0 ^^^ _) _ _=_
 rw[mulGo_sum,Nat.zero_xor]
theorem mulGo_lt:∀ k a b,a < 256->mulGo k 0 a b < 256
 | 0,_,_,_=>by simp[mulGo]
 | k+1,a,b,h=>by
   rw[mulGo_succ]
   exact xor_lt (by split <;> omega) (mulGo_lt k _ _ (dbl_lt a))
theorem mul_lt {a:Nat} (b:Nat) (h:a < 256):mul a b < 256:=mulGo_lt 8 a b h
theorem mulGo_xor:∀ k a c b,a < 256->c < 256->mulGo k 0 (a ^^^ c) b=mulGo k 0 a b ^^^ mulGo k 0 c b
 | 0,_,_,_,_,_=>by simp[mulGo]
 | k+1,a,c,b,ha,hc=>by
   rw[mulGo_succ,mulGo_succ,mulGo_succ,dbl_xor ha hc,mulGo_xor k _ _ _ (dbl_lt a) (dbl_lt c)]
   generalize mulGo k 0 (dbl a) (b / 2)=u
   generalize mulGo k 0 (dbl c) (b / 2)=v
   split
   ·rw[Nat.xor_assoc,Nat.xor_assoc,<- Nat.xor_assoc c,Nat.xor_comm c u,Nat.xor_assoc u]
   ·simp
theorem mul_xor {a c:Nat} (b:Nat) (ha:a < 256) (hc:c < 256):mul (a ^^^ c) b=mul a b ^^^ mul c b:=mulGo_xor 8 a c b ha hc
theorem dbl_zero:dbl 0=0:=by decide
theorem mulGo_dbl:∀ k a b,a < 256->mulGo k 0 (dbl a) b=dbl (mulGo k 0 a b)
 | 0,_,_,_=>by simp[mulGo,dbl_zero]
 | k+1,a,b,h=>by
   rw[mulGo_succ,mulGo_succ,mulGo_dbl k _ _ (dbl_lt a),dbl_xor (by split <;> omega) (mulGo_lt k _ _ (dbl_lt a))]
   split
   ·rfl
   ·rw[dbl_zero]
theorem mul_dbl {a:Nat} (b:Nat) (h:a < 256):mul (dbl a) b=dbl (mul a b):=mulGo_dbl 8 a b h
theorem mulGo_zero_left:∀ k b,mulGo k 0 0 b=0
 | 0,_=>rfl
 | k+1,b=>by rw[mulGo_succ,dbl_zero,mulGo_zero_left k];simp
theorem mulGo_zero_right:∀ k a,mulGo k 0 a 0=0
 | 0,_=>rfl
 | k+1,a=>by rw[mulGo_succ,Nat.zero_div,mulGo_zero_right k];simp
theorem zero_mul (b:Nat):mul 0 b=0:=mulGo_zero_left 8 b
theorem mul_zero (a:Nat):mul a 0=0:=mulGo_zero_right 8 a
theorem one_mul {b:Nat} (h:b < 256):mul 1 b=b:=by
 have key:∀ b,b < 256->mul 1 b=b:=by decide +kernel
 exact key b h
def tab (t k:Nat):Nat:=(t >>> (8 * k)) % 256
def pt:Nat:=70160881166704368827218703435136616750530459438269794890424969378298545675077208731798828898087927652446353395360628748027273188182808436399538186061104243134188885576122562338679313492324190829158544377810568631194580132524405266702234305646236648896994794467054525044798919765581988418950285252905306116225263236585714808161311289784028762024137133735135393922581566890382566480334369299400480864790538739986285574563168380416343369614948461817839620668187777978661530364712890858126432457562886306102556561631759900551331094983229723298224611133722330829711659991602983068895685602467964643306841827719562658305
def lt:Nat:=22135253156888987530748098150270024343632497605293634117281264061560962248099620766229961468867162294233796152347975563017024165690400661622462404646302566225833645086064538892198543335321514950294300187779610338557442029018619797274438901674641748676613670242915365385819254959901651105240253464034662486586186382979728982817772067067513442677601938078891989292316012868233806586592927239821351197800766822366321181463280924672822998103315976779850880337712374790938628529953751181886374687897611504386983350015558142994211516619836411558782076806704747441947939324473761869443721989389604670425385080942269787340800
theorem tab_step:∀ k,k < 254->dbl (tab pt k)=tab pt (k+1):=by decide +kernel
theorem tab_back:∀ k,k < 255->tab lt (tab pt k)=k:=by decide +kernel
theorem tab_there:∀ a,a < 256->a=0\/tab pt (tab lt a)=a/\tab lt a < 255:=by decide +kernel
theorem pw_tab:∀ k,k < 255->pw k=tab pt k
 | 0,_=>by decide +kernel
 | k+1,h=>by
   show dbl (pw k)=_
   rw[pw_tab k (by omega),tab_step k (by omega)]
theorem pw_255:pw 255=1:=by
 show dbl (pw 254)=1
 rw[pw_tab 254 (by omega)]
 decide +kernel
theorem pw_add_255:∀ n,pw (n+255)=pw n
 | 0=>by rw[Nat.zero_add];exact pw_255
 | n+1=>by
   show dbl (pw (n+255))=dbl (pw n)
   rw[pw_add_255 n]
theorem pw_mul_255:∀ k n,pw (n+255 * k)=pw n
 | 0,n=>rfl
 | k+1,n=>by rw[show n+255 * (k+1)=(n+255 * k)+255 from by omega,pw_add_255,pw_mul_255 k]
theorem pw_mod (n:Nat):pw (n % 255)=pw n:=by
 have h:=pw_mul_255 (n / 255) (n % 255)
 rw[show n % 255+255 * (n / 255)=n from by omega] at h
 exact h.symm
theorem pw_inj {m n:Nat} (hm:m < 255) (hn:n < 255) (h:pw m=pw n):m=n:=by
 rw[pw_tab m hm,pw_tab n hn] at h
 have:=congrArg (tab lt) h
 rwa [tab_back m hm,tab_back n hn] at this
theorem lgTo_of:∀ k a n,n < k->pw n=a->(∀ m,m < k->pw m=a->m=n)->lgTo k a=n
 | k+1,a,n,hn,hp,hu=>by
   unfold lgTo
   split
   ·rename_i h;exact hu k (by omega) h
   ·rename_i h
    have:n ≠ k:=fun e=>h (e ▸ hp)
    exact lgTo_of k a n (by omega) hp (fun m hm=>hu m (by omega))
theorem lg_pw {n:Nat} (h:n < 255):lg (pw n)=n:=lgTo_of 255 _ n h rfl (fun _ hm e=>pw_inj hm h e)
theorem pw_lg {a:Nat} (h0:0 < a) (h:a < 256):pw (lg a)=a:=by
 obtain⟨n,hn,rfl⟩:∃ n,n < 255/\pw n=a:=by
  rcases tab_there a h with h1 | ⟨h1,h2⟩
  ·omega
  ·exact⟨tab lt a,h2,by rw[pw_tab _ h2];exact h1⟩
 rw[lg_pw hn]
theorem pw_pos (n:Nat):0 < pw n:=by
 have key:∀ k,k < 255->0 < tab pt k:=by decide +kernel
 rw[<- pw_mod,pw_tab _ (by omega)]
 exact key _ (by omega)
theorem mul_pw (x:Nat):∀ m,mul (pw m) (pw x)=pw (m+x)
 | 0=>by rw[Nat.zero_add];exact one_mul (pw_lt x)
 | m+1=>by
   rw[show m+1+x=(m+x)+1 from by omega]
   show mul (dbl (pw m)) (pw x)=dbl (pw (m+x))
   rw[mul_dbl _ (pw_lt m),mul_pw x m]
theorem exists_pw {a:Nat} (h0:0 < a) (h:a < 256):∃ m,m < 255/\lg a=m/\a=pw m:=⟨lg a,lg_lt a,rfl,(pw_lg h0 h).symm⟩
theorem mul_comm {a b:Nat} (ha:a < 256) (hb:b < 256):mul a b=mul b a:=by
 rcases Nat.eq_zero_or_pos a with rfl | ha0
 ·rw[zero_mul,mul_zero]
 rcases Nat.eq_zero_or_pos b with rfl | hb0
 ·rw[zero_mul,mul_zero]
 obtain⟨m,_,_,rfl⟩:=exists_pw ha0 ha
 obtain⟨n,_,_,rfl⟩:=exists_pw hb0 hb
 rw[mul_pw,mul_pw,Nat.add_comm]
theorem mul_assoc {a b c:Nat} (ha:a < 256) (hb:b < 256) (hc:c < 256):mul (mul a b) c=mul a (mul b c):=by
 rcases Nat.eq_zero_or_pos a with rfl | ha0
 ·rw[zero_mul,zero_mul,zero_mul]
 rcases Nat.eq_zero_or_pos b with rfl | hb0
 ·rw[zero_mul,mul_zero,zero_mul]
 rcases Nat.eq_zero_or_pos c with rfl | hc0
 ·rw[mul_zero,mul_zero,mul_zero]
 obtain⟨m,_,_,rfl⟩:=exists_pw ha0 ha
 obtain⟨n,_,_,rfl⟩:=exists_pw hb0 hb
 obtain⟨k,_,_,rfl⟩:=exists_pw hc0 hc
 rw[mul_pw,mul_pw,mul_pw,mul_pw,Nat.add_assoc]
theorem mul_one {a:Nat} (ha:a < 256):mul a 1=a:=by rw[mul_comm ha (by decide),one_mul ha]
theorem mul_pos {a b:Nat} (ha:a < 256) (hb:b < 256) (ha0:0 < a) (hb0:0 < b):0 < mul a b:=by
 obtain⟨m,_,_,rfl⟩:=exists_pw ha0 ha
 obtain⟨n,_,_,rfl⟩:=exists_pw hb0 hb
 rw[mul_pw]
 exact pw_pos _
theorem inv_pw {m:Nat} (h:m < 255):inv (pw m)=pw ((255 - m) % 255):=by unfold inv;rw[lg_pw h]
theorem mul_inv {a:Nat} (ha:a < 256) (ha0:0 < a):mul a (inv a)=1:=by
 obtain⟨m,hm,_,rfl⟩:=exists_pw ha0 ha
 rw[inv_pw hm,pw_mod,mul_pw,show m+(255 - m)=255 from by omega]
 exact pw_255
theorem inv_mul {a:Nat} (ha:a < 256) (ha0:0 < a):mul (inv a) a=1:=by rw[mul_comm (inv_lt a) ha];exact mul_inv ha ha0
theorem inv_unique {a b:Nat} (ha:a < 256) (hb:b < 256) (ha0:0 < a) (h:mul a b=1):b=inv a:=by
 have h1:mul (inv a) (mul a b)=b:=by rw[<- mul_assoc (inv_lt a) ha hb,inv_mul ha ha0,one_mul hb]
 rw[h,mul_one (inv_lt a)] at h1
 exact h1.symm
end Go.Proofs.YtaalagkbpeinkaaGreat.M
namespace Go.Proofs.YtaalagkbpeinkaaGreat
open Go.RowKit
theorem ret_int {k:IntKind} {a b:Int} (h:a=b):Ending.returned (.int k a)=.returned (.int k b):=by rw[h]
theorem mask_any (x:Int) (w:World) :
 Calls Tryz.prog 161 #[.int .u8 x] w fun e w'=>e=.returned (.int .u8 (-x % 256))/\w'=w:=by
 go_enter Tryz.func161,Tryz.ntmps161
 go_wp2
 go_ret
 exact⟨rfl,rfl⟩
theorem dbl_bits (x:Nat) (h:x < 256):bits .xor .u8 ((x:Int) * 2 % 256) (bits .and .u8 29 (-((x:Int) / 128) % 256))=((M.dbl x:Nat):Int):=by
 have e:(x:Int) * 2 % 256=((2 * x % 256:Nat):Int):=by omega
 rw[e]
 by_cases hx:128<=x
 ·have:-((x:Int) / 128) % 256=((255:Nat):Int):=by omega
  rw[this,show (29:Int)=((29:Nat):Int) from rfl,u8_and_nat 29 255 (by omega) (by omega),u8_xor_nat _ _ (by omega) (by decide)]
  simp[M.dbl,hx]
 ·have:-((x:Int) / 128) % 256=((0:Nat):Int):=by omega
  rw[this,show (29:Int)=((29:Nat):Int) from rfl,u8_and_nat 29 0 (by omega) (by omega),u8_xor_nat _ _ (by omega) (by decide)]
  simp[M.dbl,hx]
theorem double_any (x:Int) (w:World) (h0:0<=x) (h1:x < 256) :
 Calls Tryz.prog 162 #[.int .u8 x] w fun e w'=>e=.returned (.int .u8 ((M.dbl x.toNat:Nat):Int))/\w'=w:=by
 go_enter Tryz.func162,Tryz.ntmps162
 go_wp2_with (go_at_call 161;refine (mask_any _ _).mono ?_;rintro e w' ⟨rfl,rfl⟩)
 go_ret
 obtain⟨n,rfl⟩:=Int.eq_ofNat_of_zero_le h0
 exact⟨ret_int (dbl_bits n (by omega)),rfl⟩
theorem add_any (x y:Int) (w:World) (h0:0<=x) (h1:x < 256) (h2:0<=y) (h3:y < 256) :
 Calls Tryz.prog 141 #[.int .u8 x,.int .u8 y] w fun e w'=>e=.returned (.int .u8 ((x.toNat ^^^ y.toNat:Nat):Int))/\w'=w:=by
 go_enter Tryz.func141,Tryz.ntmps141
 go_wp2
 go_ret
 exact⟨ret_int (u8_xor _ _ h0 h1 h2 h3),rfl⟩
theorem round_any (x:Int) (w:World) :
 Calls Tryz.prog 154 #[.int .i64 x] w fun e w'=>e=.returned (.int .i64 (x % 255))/\w'=w:=by
 go_enter Tryz.func154,Tryz.ntmps154
 have hb:-255 < x.tmod 255/\x.tmod 255 < 255:=by
  have:=Int.tmod_lt_of_pos x (b:=255) (by decide)
  have:=Int.lt_tmod_of_pos x (b:=255) (by decide)
  omega
 have he:x.tmod 255=x % 255 - (if 0<=x\/(255:Int) ∣ x then 0 else 255):=by
  rw[Int.tmod_eq_emod];split <;> simp
 have HB:Hid (-255 < x.tmod 255/\x.tmod 255 < 255):=hb
 have HE:Hid (x.tmod 255=x % 255 - (if 0<=x\/(255:Int) ∣ x then 0 else 255)):=he
 clear hb he
 go_wp2
 all_goals
  go_ret
  refine⟨ret_int ?_,rfl⟩
 ·rw[show wrap64 (x.tmod 255+255)=x.tmod 255+255 from by have:=HB.out;unfold wrap64;omega]
  have h:=HE.out
  rename_i h1
  split at h <;> omega
 ·have h:=HE.out
  rename_i h1
  split at h <;> omega
theorem and_one (b:Nat) (h:b < 256):bits .and .u8 (b:Int) 1=((b % 2:Nat):Int):=by
 rw[show (1:Int)=((1:Nat):Int) from rfl,u8_and_nat b 1 h (by omega),Nat.and_one_is_mod]
theorem mul_step (s a b:Nat) (hs:s < 256) (ha:a < 256) :
 bits .xor .u8 (s:Int) (bits .and .u8 (a:Int) (-((b % 2:Nat):Int) % 256))=((s ^^^ (if b % 2=1 then a else 0):Nat):Int):=by
 rcases Nat.mod_two_eq_zero_or_one b with h | h
 ·rw[h,show -((0:Nat):Int) % 256=((0:Nat):Int) from rfl,u8_and_nat a 0 ha (by omega),u8_xor_nat _ _ hs (by simp)]
  simp
 ·rw[h,show -((1:Nat):Int) % 256=((255:Nat):Int) from rfl,u8_and_nat a 255 ha (by omega)]
  have:a &&& 255=a:=by
   have:=Nat.and_two_pow_sub_one_eq_mod a 8
   simpa [Nat.mod_eq_of_lt ha] using this
  rw[this,u8_xor_nat _ _ hs ha]
  simp
set_option maxHeartbeats 800000 in
theorem mul_any (x y:Int) (w:World) (h0:0<=x) (h1:x < 256) (h2:0<=y) (h3:y < 256) :
 Calls Tryz.prog 152 #[.int .u8 x,.int .u8 y] w fun e w'=>e=.returned (.int .u8 ((M.mul x.toNat y.toNat:Nat):Int))/\w'=w:=by
 go_enter Tryz.func152,Tryz.ntmps152
 go_wp2
 go_loop [0,1,5,6] (fun ta tb ts ti=>∃ k s a b:Nat,k<=8/\s < 256/\a < 256/\b < 256/\Hid (M.mulGo (8 - k) s a b=M.mul x.toNat y.toNat)/\ta=.int .u8 a/\tb=.int .u8 b/\ts=.int .u8 s/\ti=.int .i64 k) (fun _ _ _ ti=>8 - (intOf ti).toNat)
 case atStart =>
  obtain⟨m,rfl⟩:=Int.eq_ofNat_of_zero_le h0
  obtain⟨n,rfl⟩:=Int.eq_ofNat_of_zero_le h2
  exact⟨0,0,m,n,by omega,by omega,by omega,by omega,rfl,rfl,rfl,rfl,rfl⟩
 case round =>
  obtain⟨k,s,a,b,hk,hs,ha,hb,HM,rfl,rfl,rfl,rfl⟩:=hrel
  by_cases hlt:k < 8
  ·have hb1:=and_one b hb
   go_wp2_with (first | (go_at_call 161;refine (mask_any _ _).mono ?_;rintro e w' ⟨rfl,rfl⟩) | (go_at_call 162;refine (double_any _ _ (by omega) (by omega)).mono ?_;rintro e w' ⟨rfl,rfl⟩))
   go_round
   case rel =>
    refine⟨k+1,s ^^^ (if b % 2=1 then a else 0),M.dbl a,b / 2,by omega,?_,M.dbl_lt a,by omega,?_,rfl,by go_num,?_,by go_num⟩
    ·exact Nat.xor_lt_two_pow (n:=8) (by omega) (by split <;> omega)
    ·have h:=HM.out
     rw[show 8 - k=(8 - (k+1))+1 from by omega] at h
     exact h
    ·have h:=mul_step s a b hs ha
     rw[show (((b % 2:Nat):Int))=(b:Int) % 2 from by omega] at h
     rw[h]
   case measure=>simp[intOf];omega
  ·go_wp2
   go_ret
   have h:=HM.out
   rw[show 8 - k=0 from by omega] at h
   exact⟨ret_int (by rw[<- h];rfl),rfl⟩
end Go.Proofs.YtaalagkbpeinkaaGreat
namespace Go.Proofs.YtaalagkbpeinkaaGreat.M
def cl:Nat->Nat->Nat->Nat
 | 0,_,_=>0
 | k+1,a,b=>cl k a b ^^^ (if b / 2 ^ k % 2=1 then a * 2 ^ k else 0)
def rs (i p:Nat):Nat:=p ^^^ (if p / 2 ^ i % 2=1 then 285 * 2 ^ (i - 8) else 0)
def red:Nat->Nat->Nat
 | 0,p=>p
 | n+1,p=>red n (rs (n+8) p)
def dblN:Nat->Nat->Nat
 | 0,a=>a
 | k+1,a=>dbl (dblN k a)
def ms:Nat->Nat->Nat->Nat
 | 0,_,_=>0
 | k+1,a,b=>ms k a b ^^^ (if b / 2 ^ k % 2=1 then dblN k a else 0)
theorem mulGo_ms:∀ n k a b,mulGo n (ms k a b) (dblN k a) (b / 2 ^ k)=ms (k+n) a b
 | 0,_,_,_=>rfl
 | n+1,k,a,b=>by
   have h:=mulGo_ms n (k+1) a b
   rw[show k+1+n=k+(n+1) from by omega] at h
   rw[<- h]
   show mulGo n _ _ (b / 2 ^ k / 2)=_
   rw[Nat.div_div_eq_div_mul,<- Nat.pow_succ]
   rfl
theorem mul_ms (a b:Nat):mul a b=ms 8 a b:=by
 have h:=mulGo_ms 8 0 a b
 rw[Nat.pow_zero,Nat.div_one,Nat.zero_add] at h
 exact h
theorem rs_xor (i p q:Nat):rs i (p ^^^ q)=rs i p ^^^ rs i q:=by
 have t:(p ^^^ q).testBit i=(p.testBit i ^^ q.testBit i):=Nat.testBit_xor ..
 rw[Nat.testBit_eq_decide_div_mod_eq,Nat.testBit_eq_decide_div_mod_eq,Nat.testBit_eq_decide_div_mod_eq] at t
 unfold rs
 generalize 285 * 2 ^ (i - 8)=c
 by_cases h1:p / 2 ^ i % 2=1 <;> by_cases h2:q / 2 ^ i % 2=1 <;> simp only[h1,h2,decide_true,decide_false,Bool.bne_true,Bool.bne_false,Bool.not_true,Bool.not_false,decide_eq_true_eq,decide_eq_false_iff_not] at t <;> simp only[h1,h2,t,if_true,if_false]
 ·rw[Nat.xor_zero,Nat.xor_assoc p c,<- Nat.xor_assoc c q c,Nat.xor_comm c q,Nat.xor_assoc q c c,Nat.xor_self,Nat.xor_zero]
 ·rw[Nat.xor_zero,Nat.xor_assoc,Nat.xor_assoc,Nat.xor_comm c]
 ·rw[Nat.xor_zero,Nat.xor_assoc]
 ·simp
theorem red_xor:∀ n p q,red n (p ^^^ q)=red n p ^^^ red n q
 | 0,_,_=>rfl
 | n+1,p,q=>by
   show red n (rs _ _)=_
   rw[rs_xor,red_xor n]
   rfl
theorem red_zero:∀ n,red n 0=0
 | 0=>rfl
 | n+1=>by
   show red n (rs _ 0)=0
   have:rs (n+8) 0=0:=by simp[rs]
   rw[this,red_zero n]
theorem red_shift:∀ k,k < 8->∀ a,a < 256->red 7 (a * 2 ^ k) % 256=dblN k a:=by decide +kernel
theorem red_cl {a:Nat} (b:Nat) (ha:a < 256):∀ k,k<=8->red 7 (cl k a b) % 256=ms k a b
 | 0,_=>by rw[show cl 0 a b=0 from rfl,red_zero];rfl
 | k+1,h=>by
   show red 7 (cl k a b ^^^ _) % 256=ms k a b ^^^ _
   rw[red_xor,show (256:Nat)=2 ^ 8 from rfl,Nat.xor_mod_two_pow,show (2 ^ 8:Nat)=256 from rfl,red_cl b ha k (by omega)]
   congr 1
   split
   ·exact red_shift k (by omega) a ha
   ·rw[red_zero]
theorem ref_mul {a:Nat} (b:Nat) (ha:a < 256):red 7 (cl 8 a b) % 256=mul a b:=by rw[mul_ms];exact red_cl b ha 8 (Nat.le_refl 8)
theorem shift_lt:∀ k,k < 8->∀ a,a < 256->a * 2 ^ k < 32768:=by
 intro k hk a ha
 have h2:2 ^ k<=2 ^ 7:=Nat.pow_le_pow_right (by decide) (by omega)
 have:a * 2 ^ k<=255 * 2 ^ 7:=Nat.mul_le_mul (by omega) h2
 omega
theorem poly_lt:∀ i,i<=14->285 * 2 ^ (i - 8) < 32768:=by
 intro i hi
 have h2:2 ^ (i - 8)<=2 ^ 6:=Nat.pow_le_pow_right (by decide) (by omega)
 omega
theorem xor_lt15 {a b:Nat} (ha:a < 32768) (hb:b < 32768):a ^^^ b < 32768:=Nat.xor_lt_two_pow (n:=15) ha hb
theorem cl_lt {a:Nat} (b:Nat) (ha:a < 256):∀ k,k<=8->cl k a b < 32768
 | 0,_=>Nat.zero_lt_succ _
 | k+1,h=>xor_lt15 (cl_lt b ha k (by omega)) (by split <;> first | exact shift_lt k (by omega) a ha | omega)
theorem rs_lt {i p:Nat} (hi:i<=14) (hp:p < 32768):rs i p < 32768 :=
 xor_lt15 hp (by split <;> first | exact poly_lt i hi | omega)
end Go.Proofs.YtaalagkbpeinkaaGreat.M
namespace Go.Proofs.YtaalagkbpeinkaaGreat
open Go.RowKit
theorem ofInt_i64 (a:Nat) (ha:a < 4611686018427387904):(BitVec.ofInt 64 (a:Int)).toNat=a:=by
 rw[BitVec.ofInt_natCast,BitVec.toNat_ofNat];exact Nat.mod_eq_of_lt (by omega)
theorem i64_xor_nat (a b:Nat) (ha:a < 4611686018427387904) (hb:b < 4611686018427387904):bits .xor .i64 (a:Int) (b:Int)=((a ^^^ b:Nat):Int):=by
 have hx:a ^^^ b < 2 ^ 62:=Nat.xor_lt_two_pow (by omega) (by omega)
 show IntKind.i64.wrap ((BitVec.ofInt 64 (a:Int) ^^^ BitVec.ofInt 64 (b:Int)).toNat:Int)=_
 rw[BitVec.toNat_xor,ofInt_i64 a ha,ofInt_i64 b hb,IntWalk.i64_in _ (by omega)]
theorem i64_and_nat (a b:Nat) (ha:a < 4611686018427387904) (hb:b < 4611686018427387904):bits .and .i64 (a:Int) (b:Int)=((a &&& b:Nat):Int):=by
 have hx:a &&& b < 2 ^ 62:=Nat.and_lt_two_pow _ (by omega)
 show IntKind.i64.wrap ((BitVec.ofInt 64 (a:Int) &&& BitVec.ofInt 64 (b:Int)).toNat:Int)=_
 rw[BitVec.toNat_and,ofInt_i64 a ha,ofInt_i64 b hb,IntWalk.i64_in _ (by omega)]
theorem i64_and_one (a:Nat) (ha:a < 4611686018427387904):bits .and .i64 (a:Int) 1=((a % 2:Nat):Int):=by
 rw[show (1:Int)=((1:Nat):Int) from rfl,i64_and_nat a 1 ha (by omega),Nat.and_one_is_mod]
theorem wrap_small (n:Int) (h0:0<=n) (h1:n < 32768):wrap64 n=n:=by unfold wrap64;omega
theorem bit_test (b k:Nat) (hb:b < 32768):bits .and .i64 ((b:Int) / 2 ^ k) 1=((b / 2 ^ k % 2:Nat):Int):=by
 have e:(b:Int) / 2 ^ k=((b / 2 ^ k:Nat):Int):=by
  rw[Int.natCast_ediv,Int.natCast_pow];rfl
 have:b / 2 ^ k<=b:=Nat.div_le_self ..
 rw[e,i64_and_one _ (by omega)]
theorem xor_shift (p a k:Nat) (hp:p < 32768) (h:a * 2 ^ k < 32768):bits .xor .i64 (p:Int) (wrap64 ((a:Int) * 2 ^ k))=((p ^^^ (a * 2 ^ k):Nat):Int):=by
 have e:(a:Int) * 2 ^ k=((a * 2 ^ k:Nat):Int):=by
  rw[Int.natCast_mul,Int.natCast_pow];rfl
 rw[e,wrap_small _ (by omega) (by omega),i64_xor_nat _ _ (by omega) (by omega)]
set_option maxHeartbeats 800000 in
theorem refMul_nat (a b:Nat) (w:World) (ha:a < 256) (hb:b < 256) :
 Calls Tryz.prog 117 #[.int .u8 (a:Int),.int .u8 (b:Int)] w fun e w'=>e=.returned (.int .u8 ((M.mul a b:Nat):Int))/\w'=w:=by
 go_enter Tryz.func117,Tryz.ntmps117
 go_wp2
 go_loop [5,6] (fun tp ti=>∃ k p:Nat,k<=8/\Hid (p=M.cl k a b)/\tp=.int .i64 p/\ti=.int .i64 k) (fun _ ti=>8 - (intOf ti).toNat)
 case atStart=>exact⟨0,0,by omega,rfl,rfl,rfl⟩
 case round =>
  obtain⟨k,p,hk,HP,rfl,rfl⟩:=hrel
  have hp:p < 32768:=by have h:=M.cl_lt b ha k hk;rw[<- HP.out] at h;exact h
  by_cases hlt:k < 8
  ·have ht:=bit_test b k (by omega)
   have hx:=xor_shift p a k hp (M.shift_lt k hlt a ha)
   have HX:Hid (bits .xor .i64 (p:Int) (wrap64 ((a:Int) * 2 ^ k))=((p ^^^ (a * 2 ^ k):Nat):Int)):=hx
   have HT:Hid (bits .and .i64 ((b:Int) / 2 ^ k) 1=((b / 2 ^ k % 2:Nat):Int)):=ht
   clear hx ht
   go_wp2
   ·rename_i hbit
    rw[HT.out] at hbit
    have hb1:b / 2 ^ k % 2=1:=by have:=eq_of_beq hbit;omega
    go_round
    case rel=>exact⟨k+1,p ^^^ (a * 2 ^ k),by omega,by show _=M.cl k a b ^^^ _;rw[if_pos hb1,HP.out],by rw[HX.out],by go_num⟩
    case measure=>simp[intOf];omega
   ·rename_i hbit
    rw[HT.out] at hbit
    have hb1:¬ b / 2 ^ k % 2=1:=fun e=>by rw[e] at hbit;exact absurd hbit (by decide)
    go_round
    case rel=>exact⟨k+1,p,by omega,by show _=M.cl k a b ^^^ _;rw[if_neg hb1,HP.out,Nat.xor_zero],rfl,by go_num⟩
    case measure=>simp[intOf];omega
  ·go_wp2
   go_loop [5,7] (fun tp ti=>∃ i q:Nat,7<=i/\i<=14/\q < 32768/\Hid (M.red (i - 7) q=M.red 7 (M.cl 8 a b))/\tp=.int .i64 q/\ti=.int .i64 i) (fun _ ti=>(intOf ti).toNat)
   case atStart =>
    refine⟨14,p,by omega,by omega,hp,?_,rfl,rfl⟩
    have h:k=8:=by omega
    show M.red 7 p=_
    rw[HP.out,h]
   case round =>
    obtain⟨i,q,hi,hi',hq,HR,rfl,rfl⟩:=hrel
    by_cases hle:8<=i
    ·have HX:Hid (bits .xor .i64 (q:Int) (wrap64 (285 * 2 ^ (i - 8)))=((q ^^^ (285 * 2 ^ (i - 8)):Nat):Int)):=xor_shift q 285 (i - 8) hq (M.poly_lt i hi')
     have HT:Hid (bits .and .i64 ((q:Int) / 2 ^ i) 1=((q / 2 ^ i % 2:Nat):Int)):=bit_test q i hq
     have hs:M.red (i - 1 - 7) (M.rs i q)=M.red 7 (M.cl 8 a b):=by
      rw[<- HR.out,show i - 7=(i - 1 - 7)+1 from by omega]
      show _=M.red _ (M.rs (i - 1 - 7+8) q)
      rw[show i - 1 - 7+8=i from by omega]
     have HS:Hid (M.red (i - 1 - 7) (M.rs i q)=M.red 7 (M.cl 8 a b)):=hs
     clear hs
     go_wp2
     ·rename_i hbit
      rw[HT.out] at hbit
      have hb1:q / 2 ^ i % 2=1:=by have:=eq_of_beq hbit;omega
      have e:M.rs i q=q ^^^ (285 * 2 ^ (i - 8)):=by unfold M.rs;rw[if_pos hb1]
      go_round
      case rel=>exact⟨i - 1,M.rs i q,by omega,by omega,M.rs_lt hi' hq,HS,by rw[HX.out,e],by go_num⟩
      case measure=>simp[intOf];omega
     ·rename_i hbit
      rw[HT.out] at hbit
      have hb1:¬ q / 2 ^ i % 2=1:=fun e=>by rw[e] at hbit;exact absurd hbit (by decide)
      have e:M.rs i q=q:=by unfold M.rs;rw[if_neg hb1,Nat.xor_zero]
      go_round
      case rel=>exact⟨i - 1,M.rs i q,by omega,by omega,M.rs_lt hi' hq,HS,by rw[e],by go_num⟩
      case measure=>simp[intOf];omega
    ·go_wp2
     go_ret
     have h:i=7:=by omega
     subst h
     have h2:q % 256=M.mul a b:=by rw[<- M.ref_mul b ha,<- HR.out];rfl
     exact⟨ret_int (by rw[<- h2];omega),rfl⟩
theorem refMul_any (x y:Int) (w:World) (h0:0<=x) (h1:x < 256) (h2:0<=y) (h3:y < 256) :
 Calls Tryz.prog 117 #[.int .u8 x,.int .u8 y] w fun e w'=>e=.returned (.int .u8 ((M.mul x.toNat y.toNat:Nat):Int))/\w'=w:=by
 obtain⟨a,rfl⟩:=Int.eq_ofNat_of_zero_le h0
 obtain⟨b,rfl⟩:=Int.eq_ofNat_of_zero_le h2
 exact refMul_nat a b w (by omega) (by omega)
set_option maxHeartbeats 800000 in
set_option maxRecDepth 100000 in
theorem refInv_any (a:Nat) (w:World) (h0:0 < a) (h1:a < 256) :
 Calls Tryz.prog 134 #[.int .u8 (a:Int)] w fun e w'=>e=.returned (.tuple #[.int .u8 ((M.inv a:Nat):Int),.int .i64 0])/\w'=w:=by
 have hl:=M.inv_lt a
 have hpos:1<=M.inv a:=M.pw_pos _
 go_enter Tryz.func134,Tryz.ntmps134
 go_wp2
 go_loop [4] (fun ti=>∃ k:Nat,1<=k/\k<=M.inv a/\ti=.int .i64 k) (fun ti=>255 - (intOf ti).toNat)
 case atStart=>exact⟨1,by omega,by omega,rfl⟩
 case round =>
  obtain⟨k,hk1,hk,rfl⟩:=hrel
  have hk2:(k:Int) % 256=k:=by omega
  by_cases hlt:k < M.inv a
  ·have hne:(((M.mul a k:Nat):Int)==1)=false:=by
    have:M.mul a k ≠ 1:=fun e=>by
     have:=M.inv_unique h1 (by omega) h0 e
     omega
    simp;omega
   go_wp2_with (go_at_call 117;refine (refMul_any _ _ _ (by omega) (by omega) (by omega) (by omega)).mono ?_;rintro e w1 ⟨rfl,hw⟩;obtain rfl:=hw.symm;clear hw)
   go_round
   case rel=>exact⟨k+1,by omega,by omega,by go_num⟩
   case measure=>simp[intOf];omega
  ·have he:k=M.inv a:=by omega
   have heq:(((M.mul a k:Nat):Int)==1)=true:=by rw[he,M.mul_inv h1 h0];rfl
   have HE:Hid (k=M.inv a):=he
   clear he
   go_wp2_with (go_at_call 117;refine (refMul_any _ _ _ (by omega) (by omega) (by omega) (by omega)).mono ?_;rintro e w1 ⟨rfl,hw⟩;obtain rfl:=hw.symm;clear hw)
   go_ret2
   exact⟨by rw[<- HE.out];rfl,rfl⟩
end Go.Proofs.YtaalagkbpeinkaaGreat
