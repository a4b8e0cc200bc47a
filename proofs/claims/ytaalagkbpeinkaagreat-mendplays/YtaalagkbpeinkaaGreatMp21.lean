/- Packed: Late2, RdC8, Con8, Read8, EncB4. -/
import Derived.Test.YtaalagkbpeinkaaGreatMp20
import Derived.Lib.AppendZeros
set_option linter.unusedSimpArgs false
set_option linter.unusedVariables false
set_option maxRecDepth 100000
namespace Go.Proofs.YtaalagkbpeinkaaGreat
section
variable {P:Program} {md:Region.Mode} {Q:Exit->Act->World->Prop} {S:World->Prop}
theorem held_of_any {ops:Array Oper}:∀ (fuel:Nat) (listed:Array Bool) (a:Act) (w:World),wpAny P md ops Q fuel listed a w->wpAnyH P md ops Q (fun _=>True) fuel listed a w
 | 0,_,_,_,h=>h
 | fuel+1,_,_,_,h=>⟨h.1,fun i hi=>wpOp_mono (fun a' w' h'=>⟨trivial,held_of_any fuel _ a' w' h'⟩) (h.2 i hi)⟩
theorem region_last2 {id:Nat} {ops all:Array Oper} {o1 o2:Oper} {a:Act} {w:World} (he:all=(ops.push o1).push o2) (hm:P.follows .mixedOrders=true) (hl1:lastOk .any (ops.push o1)=true) (hl2:lastOk .any ((ops.push o1).push o2)=true) (hS:S w.drew)
 (h:S w.drew->wpAnyH P .any ops (lastQ P (ops.push o1) o1 (lastQ P ((ops.push o1).push o2) o2 Q)) S ops.size (Array.replicate ops.size false) a w.drew):(Code.region id all true).wp P Q a w:=by
 refine region_last (S:=fun _=>True) he hm hl2 trivial (fun _=>?_)
 have:=any_last (Q:=lastQ P ((ops.push o1).push o2) o2 Q) (S:=S) (lastOk_of hl1) ops.size (Array.replicate ops.size false) a w.drew (by simp) (fun j o ho hj=>by
  by_cases c:j < ops.size <;> simp[c] at hj) (h hS)
 have e:Array.replicate (ops.push o1).size false=(Array.replicate ops.size false).push false:=by rw[Array.size_push,Array.replicate_succ]
 rw[e,Array.size_push]
 exact held_of_any _ _ _ _ this
theorem push_of_back {all ops:Array Oper} {oL:Oper} (hp:all.pop=ops) (hb:all.back?=some oL):all=ops.push oL:=by
 subst hp
 have hne:all.size ≠ 0:=fun h0=>by
  have:all=#[]:=Array.eq_empty_of_size_eq_zero h0
  subst this
  simp at hb
 rw[Array.back?_eq_getElem?] at hb
 obtain⟨h1,h2⟩:=Array.getElem?_eq_some_iff.1 hb
 apply Array.ext_getElem?
 intro k
 rw[Array.getElem?_push,Array.getElem?_pop,Array.size_pop]
 by_cases c:k=all.size - 1
 ·subst c;simp[hb]
 ·by_cases c2:k < all.size - 1
  ·simp[c]
   intro hk
   omega
  ·simp[c]
   intro hk
   omega
theorem region_late2 {id:Nat} {ops ops1 all:Array Oper} {o1 o2:Oper} {a:Act} {w:World} (hp2:all.pop=ops1) (hp1:ops1.pop=ops) (hb2:all.back?=some o2) (hb1:ops1.back?=some o1) (hm:P.follows .mixedOrders=true)
 (hl1:lastOk .any ops1=true) (hl2:lastOk .any all=true) (hS:S w.drew)
 (h:S w.drew->wpAnyH P .any ops (lastQ P ops1 o1 (lastQ P all o2 Q)) S ops.size (Array.replicate ops.size false) a w.drew):(Code.region id all true).wp P Q a w:=by
 have e1:=push_of_back hp1 hb1
 have e2:=push_of_back hp2 hb2
 subst e1
 subst e2
 exact region_last2 (S:=S) rfl hm hl1 hl2 hS h
end
open Go.RowKit
structure RdI (w0:World) (B0 A D Sb s m:Nat) (w:World) (va va':Value) (l:List Nat) (vt vt':Value) (us:List Value) (X:List (List Nat)):Prop where
 b0:Boxed w B0 30 (.int .u64 (m:Int))
 ba:Boxed w A 50 va
 bd:Boxed w D 95 vt
 bs:Boxed w Sb 23 (ptr s)
 ia:IOwn w0.heap.size w va' (SP.ints l)
 mt:RMat 5 w0.heap.size w vt' us X
 lA:w0.heap.size<=A
 lD:w0.heap.size<=D
 gr:w0.grownBy w none
theorem boxed_ne {w:World} {A D:Nat} {t t':TypeId} {u v:Value} (h:Boxed w A t u) (h':Boxed w D t' v) (ne:t ≠ t'):A ≠ D:=fun e=>by
 subst e
 have h3:=(show w.heap[A]?=_ from h).symm.trans (show w.heap[A]?=_ from h')
 simp at h3
 exact ne h3.2
theorem RMat.boxed {T:TypeId} {B A:Nat} {w:World} {v u:Value} {us:List Value} {X:List (List Nat)} {t:TypeId} (h:RMat T B w v us X) (hb:Boxed w A t u) (h1:t ≠ 31) (h2:t ≠ T) {w':World} (g:w.grownBy w' (some A)):RMat T B w' v us X :=
 h.kept g (fun r hr c f=>by
  obtain rfl:=Option.some.inj hr
  rw[show w.heap[A]?=_ from hb]
  simp[h1,h2])
theorem RMat.rowed {T:TypeId} {B B' n:Nat} {w:World} {v u:Value} {us xs:List Value} {X:List (List Nat)} {t:TypeId} (h:RMat T B w v us X) (hr:w.ownsRow B' t 1 u n xs) (h1:t ≠ 31) (h2:t ≠ T) {w':World} (g:w.grownBy w' u.ownBlock):RMat T B w' v us X :=
 h.kept g (fun r e c f=>by
  obtain⟨c',hc'⟩:=rowBlock hr e
  rw[hc']
  simp[h1,h2])
section
variable {w0 w w':World} {B0 A D Sb s m:Nat} {va va' vt vt':Value} {l:List Nat} {us:List Value} {X:List (List Nat)}
theorem RdI.keep (h:RdI w0 B0 A D Sb s m w va va' l vt vt' us X) (g:w.grownBy w' none):RdI w0 B0 A D Sb s m w' va va' l vt vt' us X :=
 ⟨h.b0.kept g (by simp),h.ba.kept g (by simp),h.bd.kept g (by simp),h.bs.kept g (by simp),h.ia.keep g,h.mt.keep g,h.lA,h.lD,grown_trans h.gr g⟩
theorem RdI.cells (h:RdI w0 B0 A D Sb s m w va va' l vt vt' us X):w.cell? ⟨A,0,none⟩=some va/\w.cell? ⟨D,0,none⟩=some vt:=⟨h.ba.cell,h.bd.cell⟩
theorem RdI.app1 (h:RdI w0 B0 A D Sb s m w va va' l vt vt' us X) {v2:Value} {j:Nat} (o:IOwn w0.heap.size w' v2 (SP.ints l++[(j:Int)])) (g:w.grownBy w' va'.ownBlock):RdI w0 B0 A D Sb s m w' va v2 (l++[j]) vt vt' us X :=
 ⟨h.b0.kept g (h.b0.not_row (by decide) h.ia.row),h.ba.kept g (h.ba.not_row (by decide) h.ia.row),h.bd.kept g (h.bd.not_row (by decide) h.ia.row),h.bs.kept g (h.bs.not_row (by decide) h.ia.row),by rw[SP.ints_app];exact o,h.mt.rowed h.ia.row (by decide) (by decide) g,h.lA,h.lD,grown_new h.gr g (fun i e=>h.ia.lo i e)⟩
theorem RdI.app2 (h:RdI w0 B0 A D Sb s m w va va' l vt vt' us X) {v2 v:Value} {ys:List Nat} (hu:Arr 5 w0.heap.size w v ys) (hl:(us.length+1) * 24<=140737488351232) (hr:w'.ownsRow w0.heap.size 31 1 v2 (us.length+1) (us++[v])) (g:w.grownBy w' vt'.ownBlock):RdI w0 B0 A D Sb s m w' va va' l vt v2 (us++[v]) (X++[ys]) :=
 ⟨h.b0.kept g (h.b0.not_row (by decide) h.mt.row),h.ba.kept g (h.ba.not_row (by decide) h.mt.row),h.bd.kept g (h.bd.not_row (by decide) h.mt.row),h.bs.kept g (h.bs.not_row (by decide) h.mt.row),h.ia.kept g (row_apart (by decide) h.ia.row h.mt.row),h.mt.more (by decide) hu hl hr g,h.lA,h.lD,grown_new h.gr g (fun i e=>h.mt.lo i e)⟩
theorem IOwn.boxed {B A:Nat} {w w':World} {v u:Value} {ls:List Int} {t:TypeId} (h:IOwn B w v ls) (hb:Boxed w A t u) (ht:t ≠ 3) (g:w.grownBy w' (some A)):IOwn B w' v ls :=
 h.kept g (by
  have:=hb.not_row ht h.row
  cases e:v.ownBlock with
  | none=>exact .inl rfl
  | some k=>exact .inr (fun e2=>this (by rw[e,<- e2])))
theorem RdI.setA (h:RdI w0 B0 A D Sb s m w va va' l vt vt' us X):RdI w0 B0 A D Sb s m (w.setCell ⟨A,0,none⟩ va') va' va' l vt vt' us X :=
 have g:=grownBy_setCell' w A va'
 ⟨h.b0.kept g (fun e=>boxed_ne h.b0 h.ba (by decide) (Option.some.inj e)),h.ba.set _,h.bd.kept g (fun e=>boxed_ne h.bd h.ba (by decide) (Option.some.inj e)),h.bs.kept g (fun e=>boxed_ne h.bs h.ba (by decide) (Option.some.inj e)),h.ia.boxed h.ba (by decide) g,h.mt.boxed h.ba (by decide) (by decide) g,h.lA,h.lD,grown_new h.gr g (fun i e=>by have:=Option.some.inj e;have:=h.lA;omega)⟩
theorem RdI.setD (h:RdI w0 B0 A D Sb s m w va va' l vt vt' us X):RdI w0 B0 A D Sb s m (w.setCell ⟨D,0,none⟩ vt') va va' l vt' vt' us X :=
 have g:=grownBy_setCell' w D vt'
 ⟨h.b0.kept g (fun e=>boxed_ne h.b0 h.bd (by decide) (Option.some.inj e)),h.ba.kept g (fun e=>boxed_ne h.ba h.bd (by decide) (Option.some.inj e)),h.bd.set _,h.bs.kept g (fun e=>boxed_ne h.bs h.bd (by decide) (Option.some.inj e)),h.ia.boxed h.bd (by decide) g,h.mt.boxed h.bd (by decide) (by decide) g,h.lA,h.lD,grown_new h.gr g (fun i e=>by have:=Option.some.inj e;have:=h.lD;omega)⟩
set_option maxHeartbeats 3200000 in
theorem rd_no (h:RdI w0 B0 A D Sb s m w va va l vt vt us X) {j n k:Nat} {v:Value} (hn:n ≠ m) (hK:∀ w',w0.grownBy w' none->w'.cell? ⟨s,1,none⟩=some (.int .i64 (k:Int))) :
 Calls Tryz.prog 74 #[.int .i64 (j:Int),.int .u64 (n:Int),v,.pointer (some ⟨B0,0,none⟩),.pointer (some ⟨A,0,none⟩),.pointer (some ⟨D,0,none⟩),.pointer (some ⟨Sb,0,none⟩)] w fun e w'=>e=.returned (.bool (decide (l.length < k)))/\RdI w0 B0 A D Sb s m w' va va l vt vt us X:=by
 obtain⟨ap,an,ac,rfl,ha⟩:=h.ia.ivec.opened
 have HA:Hid (an=l.length):=by show _=_;rw[ha,SP.ints_len]
 have T:Hid (RdI w0 B0 A D Sb s m w (.slice ap an ac) (.slice ap an ac) l vt vt us X):=h
 have HK:Hid (∀ w',w0.grownBy w' none->w'.cell? ⟨s,1,none⟩=some (.int .i64 (k:Int))):=hK
 have hne:((n:Int)==(m:Int))=false:=eqb_no hn
 have c0:=h.b0.cell
 clear h ha hK hn
 go_enter Tryz.func74,Tryz.ntmps74
 go_wp2_with fail
 have HS9:Hid (∀ w',w.grownBy w' none->w'.cell? ⟨A,0,none⟩=some (.slice ap an ac)/\w'.cell? ⟨Sb,0,none⟩=some (ptr s)/\w'.cell? ⟨s,1,none⟩=some (.int .i64 (k:Int))):=fun w' g'=>⟨(T.out.keep g').ba.cell,(T.out.keep g').bs.cell,HK.out w' (T.out.keep g').gr⟩
 clear c0
 go_region_held3 (fun w'=>w'.cell? ⟨A,0,none⟩=some (.slice ap an ac)/\w'.cell? ⟨Sb,0,none⟩=some (ptr s)/\w'.cell? ⟨s,1,none⟩=some (.int .i64 (k:Int))) (exact HS9.out _ (grown_drewN w 1)) (fail)
 go_wp2
 go_ret
 exact⟨by rw[HA.out];rfl,T.out.keep (grown_drewN w 1)⟩
set_option maxHeartbeats 12800000 in
theorem rd_yes {vp:Option Addr} {vn vc:Nat} (h:RdI w0 B0 A D Sb s m w va va l (.slice vp vn vc) (.slice vp vn vc) us X) {j k:Nat} {pv:Option Addr} {nv cv:Nat} {ys:List Nat} (hv:Own w0.heap.size w (.slice pv nv cv) ys) (hl:l.length < 255) (hl2:us.length < 255) (hK:∀ w',w0.grownBy w' none->w'.cell? ⟨s,1,none⟩=some (.int .i64 (k:Int))) :
 Calls Tryz.prog 74 #[.int .i64 (j:Int),.int .u64 (m:Int),.slice pv nv cv,.pointer (some ⟨B0,0,none⟩),.pointer (some ⟨A,0,none⟩),.pointer (some ⟨D,0,none⟩),.pointer (some ⟨Sb,0,none⟩)] w fun e w'=>e=.returned (.bool (decide ((l++[j]).length < k)))/\∃ va' vt' us',RdI w0 B0 A D Sb s m w' va' va' (l++[j]) vt' vt' us' (X++[ys]):=by
 have HK:Hid (∀ w',w0.grownBy w' none->w'.cell? ⟨s,1,none⟩=some (.int .i64 (k:Int))):=hK
 have hne:((m:Int)==(m:Int))=true:=eqb_yes rfl
 have c0:=h.b0.cell
 have HL:Hid (((SP.ints l).length+1) * 8<=140737488351232/\(us.length+1) * 24<=140737488351232):=⟨by rw[SP.ints_len];omega,by omega⟩
 have HLL:Hid ((l++[j]).length=l.length+1):=by show _=_;simp
 have T:Hid (RdI w0 B0 A D Sb s m w.drew va va l (.slice vp vn vc) (.slice vp vn vc) us X):=h.keep (gb_drew (World.grownBy.refl _ _))
 obtain⟨H,hH⟩:∃ H,H=w0.heap.size:=⟨_,rfl⟩
 have V:Hid (Own w0.heap.size w.drew (.slice pv nv cv) ys):=hv.keep (gb_drew (World.grownBy.refl _ _))
 clear h hv hl hl2 hK hH H
 go_enter Tryz.func74,Tryz.ntmps74
 go_wp2_with fail
 clear c0 hne
 refine region_late2 (S:=fun w'=>w'.cell? ⟨A,0,none⟩=some va/\w'.cell? ⟨D,0,none⟩=some (.slice vp vn vc)) (by simp only[List.pop_toArray,List.dropLast];exact rfl) (by simp only[List.pop_toArray,List.dropLast];exact rfl) (by rfl) (by rfl) (by kernel_rfl) (by kernel_rfl) (by kernel_rfl) ?_ (fun hHeld=>?_)
 ·exact T.out.cells
 generalize w.drew=wd at *
 refine wpAnyH_take (i:=0) (v:=?_) rfl (by kernel_rfl) (by kernel_rfl) (by kernel_rfl) (fun _ _ _ h=>h) (Or.inl ⟨by rfl,?_⟩) (by assumption) ?_
 rotate_left
 ·intro w hSw;(try dsimp only at hSw);obtain⟨hS1,hS2⟩:=hSw;first | (go_simp;done) | (go_simp;with_reducible rfl)
 simp only[Act.put,lay9]
 refine wpAnyH_take (i:=1) (v:=?_) rfl (by kernel_rfl) (by kernel_rfl) (by kernel_rfl) (fun _ _ _ h=>h) (Or.inl ⟨by rfl,?_⟩) (by assumption) ?_
 rotate_left
 ·intro w hSw;(try dsimp only at hSw);obtain⟨hS1,hS2⟩:=hSw;first | (go_simp;done) | (go_simp;with_reducible rfl)
 simp only[Act.put,lay9]
 refine wpAnyH_take (i:=4) (v:=?_) rfl (by kernel_rfl) (by kernel_rfl) (by kernel_rfl) (fun _ _ _ h=>h) (Or.inl ⟨by rfl,?_⟩) (by assumption) ?_
 rotate_left
 ·intro w hSw;(try dsimp only at hSw);obtain⟨hS1,hS2⟩:=hSw;first | (go_simp;done) | (go_simp;with_reducible rfl)
 simp only[Act.put,lay9]
 refine wpAnyH_take (i:=5) (v:=?_) rfl (by kernel_rfl) (by kernel_rfl) (by kernel_rfl) (fun _ _ _ h=>h) (Or.inl ⟨by rfl,?_⟩) (by assumption) ?_
 rotate_left
 ·intro w hSw;(try dsimp only at hSw);obtain⟨hS1,hS2⟩:=hSw;first | (go_simp;done) | (go_simp;with_reducible rfl)
 simp only[Act.put,lay9]
 refine wpAnyH_ready (rs:=[2,6]) (by kernel_rfl) (by simp) ?_
 refine AllReadyH.cons rfl (fun K hK=>?_) (AllReadyH.cons rfl (fun K hK=>?_) AllReadyH.nil)
 ·skip
  go_simp
  have Tn:Hid (RdI w0 B0 A D Sb s m (wd.alloc (.cells #[.int .i64 (j:Int)] 3)) va va l (.slice vp vn vc) (.slice vp vn vc) us X):=T.out.keep (World.grownBy_alloc wd _ none)
  have Vn:Hid (Own w0.heap.size (wd.alloc (.cells #[.int .i64 (j:Int)] 3)) (.slice pv nv cv) ys):=V.out.keep (World.grownBy_alloc wd _ none)
  have C2:Hid (Boxed (wd.alloc (.cells #[.int .i64 (j:Int)] 3)) wd.heap.size 3 (.int .i64 (j:Int))):=Boxed.new wd _ _
  refine hK.out _ _ (Tn.out.cells) (fun hHeld=>?_)
  clear hK K
  (try simp only[Act.put,lay9])
  clear T V
  have T:=Tn
  have V:=Vn
  clear Tn Vn
  obtain⟨z2,hz2⟩:∃ z,z=wd.heap.size:=⟨_,rfl⟩
  rw[<- hz2] at C2
  (try rw[<- hz2])
  clear hz2
  generalize wd.alloc (.cells #[.int .i64 (j:Int)] 3)=w1 at *
  refine wpAnyH_ready (rs:=[3,6]) (by kernel_rfl) (by simp) ?_
  refine AllReadyH.cons rfl (fun K hK=>?_) (AllReadyH.cons rfl (fun K hK=>?_) AllReadyH.nil)
  ·skip
   refine step_append_int (by rfl) _ _ (by rfl) va ⟨z2,0,none⟩ (by rfl) (by rfl) T.out.ia C2.out.cell T.out.gr.size HL.out.1 ?_
   intro va2 w2 oa ga ata
   have Tn:Hid (RdI w0 B0 A D Sb s m w2 va va2 (l++[j]) (.slice vp vn vc) (.slice vp vn vc) us X):=T.out.app1 oa ga
   have Vn:Hid (Own w0.heap.size w2 (.slice pv nv cv) ys):=V.out.kept ga (row_apart (by decide) V.out.row T.out.ia.row)
   clear oa ga ata
   refine hK.out _ _ (Tn.out.cells) (fun hHeld=>?_)
   clear hK K
   (try simp only[Act.put,lay9])
   clear T V C2
   have T:=Tn
   have V:=Vn
   clear Tn Vn
   refine wpAnyH_ready (rs:=[6]) (by kernel_rfl) (by simp) ?_
   refine AllReadyH.cons rfl (fun K hK=>?_) AllReadyH.nil
   go_simp
   have Tn:Hid (RdI w0 B0 A D Sb s m (w2.alloc (.cells #[.slice pv nv cv] 31)) va va2 (l++[j]) (.slice vp vn vc) (.slice vp vn vc) us X):=T.out.keep (World.grownBy_alloc w2 _ none)
   have Vn:Hid (Own w0.heap.size (w2.alloc (.cells #[.slice pv nv cv] 31)) (.slice pv nv cv) ys):=V.out.keep (World.grownBy_alloc w2 _ none)
   have C6:Hid (Boxed (w2.alloc (.cells #[.slice pv nv cv] 31)) w2.heap.size 31 (.slice pv nv cv)):=Boxed.new w2 _ _
   refine hK.out _ _ (Tn.out.cells) (fun hHeld=>?_)
   clear hK K
   (try simp only[Act.put,lay9])
   clear T V
   have T:=Tn
   have V:=Vn
   clear Tn Vn
   obtain⟨z6,hz6⟩:∃ z,z=w2.heap.size:=⟨_,rfl⟩
   rw[<- hz6] at C6
   (try rw[<- hz6])
   clear hz6
   generalize w2.alloc (.cells #[.slice pv nv cv] 31)=w3 at *
   refine wpAnyH_ready (rs:=[7]) (by kernel_rfl) (by simp) ?_
   refine AllReadyH.cons rfl (fun K hK=>?_) AllReadyH.nil
   refine step_append_row (by rfl) _ _ (by rfl) (.slice vp vn vc) ⟨z6,0,none⟩ (by rfl) (by rfl) T.out.mt.row C6.out.cell rfl T.out.gr.size HL.out.2 ?_
   intro vt2 w4 rt gt att
   have Tn:Hid (RdI w0 B0 A D Sb s m w4 va va2 (l++[j]) (.slice vp vn vc) vt2 (us++[.slice pv nv cv]) (X++[ys])):=T.out.app2 V.out.arr HL.out.2 rt gt
   clear rt gt att
   refine hK.out _ _ (Tn.out.cells) (fun hHeld=>?_)
   clear hK K
   (try simp only[Act.put,lay9])
   clear T V C6
   have T:=Tn
   clear Tn
   refine wpAnyH_done (by kernel_rfl) ?_ _
   refine lastQ_normal ?_
   obtain⟨ap,an,ac,rfl,ha2⟩:=T.out.ia.ivec.opened
   obtain⟨tp,tn,tc,rfl,ht2⟩:=T.out.mt.mat.row.opened
   have kc:=T.out.ba.cell
   have kf:=T.out.ba.frozen
   have hal:an=l.length+1:=by rw[ha2,SP.ints_len];simp
   have HAL:Hid (an=l.length+1):=hal
   clear ha2 ht2 hal
   go_wp2
   clear kc kf
   have Tn:Hid (RdI w0 B0 A D Sb s m (w4.setCell ⟨A,0,none⟩ (.slice ap an ac)) (.slice ap an ac) (.slice ap an ac) (l++[j]) (.slice vp vn vc) (.slice tp tn tc) (us++[.slice pv nv cv]) (X++[ys])):=T.out.setA
   clear T
   have T:=Tn
   clear Tn
   generalize w4.setCell ⟨A,0,none⟩ (.slice ap an ac)=w8 at *
   refine lastQ_normal ?_
   have kc:=T.out.bd.cell
   have kf:=T.out.bd.frozen
   go_wp2_with fail
   clear kc kf
   have Tn:Hid (RdI w0 B0 A D Sb s m (w8.setCell ⟨D,0,none⟩ (.slice tp tn tc)) (.slice ap an ac) (.slice ap an ac) (l++[j]) (.slice tp tn tc) (.slice tp tn tc) (us++[.slice pv nv cv]) (X++[ys])):=T.out.setD
   clear T
   have T:=Tn
   clear Tn
   generalize w8.setCell ⟨D,0,none⟩ (.slice tp tn tc)=w9 at *
   have HS9:Hid (∀ w',w9.grownBy w' none->w'.cell? ⟨A,0,none⟩=some (.slice ap an ac)/\w'.cell? ⟨Sb,0,none⟩=some (ptr s)/\w'.cell? ⟨s,1,none⟩=some (.int .i64 (k:Int))):=fun w' g'=>⟨(T.out.keep g').ba.cell,(T.out.keep g').bs.cell,HK.out w' (T.out.keep g').gr⟩
   go_region_held3 (fun w'=>w'.cell? ⟨A,0,none⟩=some (.slice ap an ac)/\w'.cell? ⟨Sb,0,none⟩=some (ptr s)/\w'.cell? ⟨s,1,none⟩=some (.int .i64 (k:Int))) (exact HS9.out _ (grown_drewN w9 1)) (fail)
   go_wp2
   go_ret
   exact⟨by rw[HAL.out,HLL.out];rfl,_,_,_,T.out.keep (grown_drewN w9 1)⟩
  ·skip
   go_simp
   have Tn:Hid (RdI w0 B0 A D Sb s m (w1.alloc (.cells #[.slice pv nv cv] 31)) va va l (.slice vp vn vc) (.slice vp vn vc) us X):=T.out.keep (World.grownBy_alloc w1 _ none)
   have Vn:Hid (Own w0.heap.size (w1.alloc (.cells #[.slice pv nv cv] 31)) (.slice pv nv cv) ys):=V.out.keep (World.grownBy_alloc w1 _ none)
   have C6:Hid (Boxed (w1.alloc (.cells #[.slice pv nv cv] 31)) w1.heap.size 31 (.slice pv nv cv)):=Boxed.new w1 _ _
   have Cn:Hid (Boxed (w1.alloc (.cells #[.slice pv nv cv] 31)) z2 3 (.int .i64 (j:Int))):=C2.out.alloc _
   refine hK.out _ _ (Tn.out.cells) (fun hHeld=>?_)
   clear hK K
   (try simp only[Act.put,lay9])
   clear T V C2
   have T:=Tn
   have V:=Vn
   clear Tn Vn
   have C2:=Cn
   clear Cn
   obtain⟨z6,hz6⟩:∃ z,z=w1.heap.size:=⟨_,rfl⟩
   rw[<- hz6] at C6
   (try rw[<- hz6])
   clear hz6
   generalize w1.alloc (.cells #[.slice pv nv cv] 31)=w2 at *
   refine wpAnyH_ready (rs:=[3]) (by kernel_rfl) (by simp) ?_
   refine AllReadyH.cons rfl (fun K hK=>?_) AllReadyH.nil
   refine step_append_int (by rfl) _ _ (by rfl) va ⟨z2,0,none⟩ (by rfl) (by rfl) T.out.ia C2.out.cell T.out.gr.size HL.out.1 ?_
   intro va2 w3 oa ga ata
   have Tn:Hid (RdI w0 B0 A D Sb s m w3 va va2 (l++[j]) (.slice vp vn vc) (.slice vp vn vc) us X):=T.out.app1 oa ga
   have Vn:Hid (Own w0.heap.size w3 (.slice pv nv cv) ys):=V.out.kept ga (row_apart (by decide) V.out.row T.out.ia.row)
   have Cn:Hid (Boxed w3 z6 31 (.slice pv nv cv)):=C6.out.kept ga (C6.out.not_row (by decide) T.out.ia.row)
   clear oa ga ata
   refine hK.out _ _ (Tn.out.cells) (fun hHeld=>?_)
   clear hK K
   (try simp only[Act.put,lay9])
   clear T V C2 C6
   have T:=Tn
   have V:=Vn
   clear Tn Vn
   have C6:=Cn
   clear Cn
   refine wpAnyH_ready (rs:=[7]) (by kernel_rfl) (by simp) ?_
   refine AllReadyH.cons rfl (fun K hK=>?_) AllReadyH.nil
   refine step_append_row (by rfl) _ _ (by rfl) (.slice vp vn vc) ⟨z6,0,none⟩ (by rfl) (by rfl) T.out.mt.row C6.out.cell rfl T.out.gr.size HL.out.2 ?_
   intro vt2 w4 rt gt att
   have Tn:Hid (RdI w0 B0 A D Sb s m w4 va va2 (l++[j]) (.slice vp vn vc) vt2 (us++[.slice pv nv cv]) (X++[ys])):=T.out.app2 V.out.arr HL.out.2 rt gt
   clear rt gt att
   refine hK.out _ _ (Tn.out.cells) (fun hHeld=>?_)
   clear hK K
   (try simp only[Act.put,lay9])
   clear T V C6
   have T:=Tn
   clear Tn
   refine wpAnyH_done (by kernel_rfl) ?_ _
   refine lastQ_normal ?_
   obtain⟨ap,an,ac,rfl,ha2⟩:=T.out.ia.ivec.opened
   obtain⟨tp,tn,tc,rfl,ht2⟩:=T.out.mt.mat.row.opened
   have kc:=T.out.ba.cell
   have kf:=T.out.ba.frozen
   have hal:an=l.length+1:=by rw[ha2,SP.ints_len];simp
   have HAL:Hid (an=l.length+1):=hal
   clear ha2 ht2 hal
   go_wp2
   clear kc kf
   have Tn:Hid (RdI w0 B0 A D Sb s m (w4.setCell ⟨A,0,none⟩ (.slice ap an ac)) (.slice ap an ac) (.slice ap an ac) (l++[j]) (.slice vp vn vc) (.slice tp tn tc) (us++[.slice pv nv cv]) (X++[ys])):=T.out.setA
   clear T
   have T:=Tn
   clear Tn
   generalize w4.setCell ⟨A,0,none⟩ (.slice ap an ac)=w8 at *
   refine lastQ_normal ?_
   have kc:=T.out.bd.cell
   have kf:=T.out.bd.frozen
   go_wp2_with fail
   clear kc kf
   have Tn:Hid (RdI w0 B0 A D Sb s m (w8.setCell ⟨D,0,none⟩ (.slice tp tn tc)) (.slice ap an ac) (.slice ap an ac) (l++[j]) (.slice tp tn tc) (.slice tp tn tc) (us++[.slice pv nv cv]) (X++[ys])):=T.out.setD
   clear T
   have T:=Tn
   clear Tn
   generalize w8.setCell ⟨D,0,none⟩ (.slice tp tn tc)=w9 at *
   have HS9:Hid (∀ w',w9.grownBy w' none->w'.cell? ⟨A,0,none⟩=some (.slice ap an ac)/\w'.cell? ⟨Sb,0,none⟩=some (ptr s)/\w'.cell? ⟨s,1,none⟩=some (.int .i64 (k:Int))):=fun w' g'=>⟨(T.out.keep g').ba.cell,(T.out.keep g').bs.cell,HK.out w' (T.out.keep g').gr⟩
   go_region_held3 (fun w'=>w'.cell? ⟨A,0,none⟩=some (.slice ap an ac)/\w'.cell? ⟨Sb,0,none⟩=some (ptr s)/\w'.cell? ⟨s,1,none⟩=some (.int .i64 (k:Int))) (exact HS9.out _ (grown_drewN w9 1)) (fail)
   go_wp2
   go_ret
   exact⟨by rw[HAL.out,HLL.out];rfl,_,_,_,T.out.keep (grown_drewN w9 1)⟩
 ·skip
  go_simp
  have Tn:Hid (RdI w0 B0 A D Sb s m (wd.alloc (.cells #[.slice pv nv cv] 31)) va va l (.slice vp vn vc) (.slice vp vn vc) us X):=T.out.keep (World.grownBy_alloc wd _ none)
  have Vn:Hid (Own w0.heap.size (wd.alloc (.cells #[.slice pv nv cv] 31)) (.slice pv nv cv) ys):=V.out.keep (World.grownBy_alloc wd _ none)
  have C6:Hid (Boxed (wd.alloc (.cells #[.slice pv nv cv] 31)) wd.heap.size 31 (.slice pv nv cv)):=Boxed.new wd _ _
  refine hK.out _ _ (Tn.out.cells) (fun hHeld=>?_)
  clear hK K
  (try simp only[Act.put,lay9])
  clear T V
  have T:=Tn
  have V:=Vn
  clear Tn Vn
  obtain⟨z6,hz6⟩:∃ z,z=wd.heap.size:=⟨_,rfl⟩
  rw[<- hz6] at C6
  (try rw[<- hz6])
  clear hz6
  generalize wd.alloc (.cells #[.slice pv nv cv] 31)=w1 at *
  refine wpAnyH_ready (rs:=[2]) (by kernel_rfl) (by simp) ?_
  refine AllReadyH.cons rfl (fun K hK=>?_) AllReadyH.nil
  go_simp
  have Tn:Hid (RdI w0 B0 A D Sb s m (w1.alloc (.cells #[.int .i64 (j:Int)] 3)) va va l (.slice vp vn vc) (.slice vp vn vc) us X):=T.out.keep (World.grownBy_alloc w1 _ none)
  have Vn:Hid (Own w0.heap.size (w1.alloc (.cells #[.int .i64 (j:Int)] 3)) (.slice pv nv cv) ys):=V.out.keep (World.grownBy_alloc w1 _ none)
  have C2:Hid (Boxed (w1.alloc (.cells #[.int .i64 (j:Int)] 3)) w1.heap.size 3 (.int .i64 (j:Int))):=Boxed.new w1 _ _
  have Cn:Hid (Boxed (w1.alloc (.cells #[.int .i64 (j:Int)] 3)) z6 31 (.slice pv nv cv)):=C6.out.alloc _
  refine hK.out _ _ (Tn.out.cells) (fun hHeld=>?_)
  clear hK K
  (try simp only[Act.put,lay9])
  clear T V C6
  have T:=Tn
  have V:=Vn
  clear Tn Vn
  have C6:=Cn
  clear Cn
  obtain⟨z2,hz2⟩:∃ z,z=w1.heap.size:=⟨_,rfl⟩
  rw[<- hz2] at C2
  (try rw[<- hz2])
  clear hz2
  generalize w1.alloc (.cells #[.int .i64 (j:Int)] 3)=w2 at *
  refine wpAnyH_ready (rs:=[3]) (by kernel_rfl) (by simp) ?_
  refine AllReadyH.cons rfl (fun K hK=>?_) AllReadyH.nil
  refine step_append_int (by rfl) _ _ (by rfl) va ⟨z2,0,none⟩ (by rfl) (by rfl) T.out.ia C2.out.cell T.out.gr.size HL.out.1 ?_
  intro va2 w3 oa ga ata
  have Tn:Hid (RdI w0 B0 A D Sb s m w3 va va2 (l++[j]) (.slice vp vn vc) (.slice vp vn vc) us X):=T.out.app1 oa ga
  have Vn:Hid (Own w0.heap.size w3 (.slice pv nv cv) ys):=V.out.kept ga (row_apart (by decide) V.out.row T.out.ia.row)
  have Cn:Hid (Boxed w3 z6 31 (.slice pv nv cv)):=C6.out.kept ga (C6.out.not_row (by decide) T.out.ia.row)
  clear oa ga ata
  refine hK.out _ _ (Tn.out.cells) (fun hHeld=>?_)
  clear hK K
  (try simp only[Act.put,lay9])
  clear T V C2 C6
  have T:=Tn
  have V:=Vn
  clear Tn Vn
  have C6:=Cn
  clear Cn
  refine wpAnyH_ready (rs:=[7]) (by kernel_rfl) (by simp) ?_
  refine AllReadyH.cons rfl (fun K hK=>?_) AllReadyH.nil
  refine step_append_row (by rfl) _ _ (by rfl) (.slice vp vn vc) ⟨z6,0,none⟩ (by rfl) (by rfl) T.out.mt.row C6.out.cell rfl T.out.gr.size HL.out.2 ?_
  intro vt2 w4 rt gt att
  have Tn:Hid (RdI w0 B0 A D Sb s m w4 va va2 (l++[j]) (.slice vp vn vc) vt2 (us++[.slice pv nv cv]) (X++[ys])):=T.out.app2 V.out.arr HL.out.2 rt gt
  clear rt gt att
  refine hK.out _ _ (Tn.out.cells) (fun hHeld=>?_)
  clear hK K
  (try simp only[Act.put,lay9])
  clear T V C6
  have T:=Tn
  clear Tn
  refine wpAnyH_done (by kernel_rfl) ?_ _
  refine lastQ_normal ?_
  obtain⟨ap,an,ac,rfl,ha2⟩:=T.out.ia.ivec.opened
  obtain⟨tp,tn,tc,rfl,ht2⟩:=T.out.mt.mat.row.opened
  have kc:=T.out.ba.cell
  have kf:=T.out.ba.frozen
  have hal:an=l.length+1:=by rw[ha2,SP.ints_len];simp
  have HAL:Hid (an=l.length+1):=hal
  clear ha2 ht2 hal
  go_wp2
  clear kc kf
  have Tn:Hid (RdI w0 B0 A D Sb s m (w4.setCell ⟨A,0,none⟩ (.slice ap an ac)) (.slice ap an ac) (.slice ap an ac) (l++[j]) (.slice vp vn vc) (.slice tp tn tc) (us++[.slice pv nv cv]) (X++[ys])):=T.out.setA
  clear T
  have T:=Tn
  clear Tn
  generalize w4.setCell ⟨A,0,none⟩ (.slice ap an ac)=w8 at *
  refine lastQ_normal ?_
  have kc:=T.out.bd.cell
  have kf:=T.out.bd.frozen
  go_wp2_with fail
  clear kc kf
  have Tn:Hid (RdI w0 B0 A D Sb s m (w8.setCell ⟨D,0,none⟩ (.slice tp tn tc)) (.slice ap an ac) (.slice ap an ac) (l++[j]) (.slice tp tn tc) (.slice tp tn tc) (us++[.slice pv nv cv]) (X++[ys])):=T.out.setD
  clear T
  have T:=Tn
  clear Tn
  generalize w8.setCell ⟨D,0,none⟩ (.slice tp tn tc)=w9 at *
  have HS9:Hid (∀ w',w9.grownBy w' none->w'.cell? ⟨A,0,none⟩=some (.slice ap an ac)/\w'.cell? ⟨Sb,0,none⟩=some (ptr s)/\w'.cell? ⟨s,1,none⟩=some (.int .i64 (k:Int))):=fun w' g'=>⟨(T.out.keep g').ba.cell,(T.out.keep g').bs.cell,HK.out w' (T.out.keep g').gr⟩
  go_region_held3 (fun w'=>w'.cell? ⟨A,0,none⟩=some (.slice ap an ac)/\w'.cell? ⟨Sb,0,none⟩=some (ptr s)/\w'.cell? ⟨s,1,none⟩=some (.int .i64 (k:Int))) (exact HS9.out _ (grown_drewN w9 1)) (fail)
  go_wp2
  go_ret
  exact⟨by rw[HAL.out,HLL.out];rfl,_,_,_,T.out.keep (grown_drewN w9 1)⟩
end
theorem Tryz.underI:Tryz.prog.underlying 3=some (.int .i64):=by kernel_rfl
theorem run_zeros (w:World) {n:Nat} (h0:0 < n) (hn:n<=1000000) (ty:TypeId):∃ w' C,(Builtin.append_ #[31,3] ty #[.slice none 0 0,.int .i64 (n:Int)]).run Tryz.prog w=.ok (.slice (some ⟨w.heap.size,0,none⟩) n C) w'/\Own w.heap.size w' (.slice (some ⟨w.heap.size,0,none⟩) 0 C) []/\w.grownBy w' none/\n<=C:=by
 obtain⟨i0,hi,hz0,hz1,hz2⟩:=info_parts Tryz.info5
 have hr:=Lib.run_append_nil_zeros (P:=Tryz.prog) w 31 3 ty 5 i0 (.int .u8 0) .i64 .i64 Tryz.underlying31 Tryz.underI hi hz0 n h0 (by rw[hz1];decide) (by omega) (by rw[hz2];omega)
 have h1:=grownCap_ge w n 0 5
 have h2:=grownCap_le_maxLen w n 0 5 (by unfold maxLen;omega)
 refine⟨_,_,hr,⟨by simp,by simp,⟨by simp,.inr ⟨w.heap.size,_,_,rfl,Nat.le_refl _,heap_alloc_new w.drew _,Nat.zero_le _,h2,?_,by simp⟩⟩⟩,gb_alloc (gb_drew (World.grownBy.refl _ _)) _,h1⟩
 simp[Builtin.zeroCells,Value.cells]
 omega
set_option maxHeartbeats 1600000 in
theorem grow_none (w:World) {n:Nat} (h0:0 < n) (hn:n<=1000000):Calls Tryz.prog 114 #[.slice none 0 0,.int .i64 (n:Int)] w fun e w'=>∃ v,e=.returned v/\Own w.heap.size w' v []/\w.grownBy w' none:=by
 have i1:¬ (n:Int) < 0:=by omega
 have i2:(0:Int) < (n:Int):=by omega
 have i3:IntKind.i64.wrap (n:Int)=(n:Int):=IntWalk.i64_in _ (by omega)
 have HR:Hid (∀ ty,∃ w' C,(Builtin.append_ #[31,3] ty #[.slice none 0 0,.int .i64 (n:Int)]).run Tryz.prog w=.ok (.slice (some ⟨w.heap.size,0,none⟩) n C) w'/\Own w.heap.size w' (.slice (some ⟨w.heap.size,0,none⟩) 0 C) []/\w.grownBy w' none/\n<=C):=fun ty=>run_zeros w h0 hn ty
 clear h0 hn
 go_enter Tryz.func114,Tryz.ntmps114
 go_wp2_with (at_builtin;obtain⟨w1,C,hr,ho,hg,hC⟩:=HR.out _;refine Lib.wpList_append_run _ rfl _ _ _ _ rfl _ _ rfl rfl _ _ hr ?_;have O1:Hid (Own w.heap.size w1 (.slice (some ⟨w.heap.size,0,none⟩) 0 C) []):=ho;have G1:Hid (w.grownBy w1 none):=hg;have hC0:¬ C=0:=(by omega);clear hr ho hg hC)
 go_ret
 exact⟨_,rfl,O1.out,G1.out⟩
theorem take_flat {X:List (List Nat)} {j:Nat} (h:j < X.length):(X.take (j+1)).flatten=(X.take j).flatten++X.getD j []:=by
 rw[List.take_succ_eq_append_getElem h,List.flatten_append]
 simp[List.getD,h]
theorem flat_len {X:List (List Nat)} (h:∀ j,j < X.length->(X.getD j []).length=448):∀ j,j<=X.length->((X.take j).flatten).length=448 * j
 | 0,_=>by simp
 | j+1,hj=>by
   rw[take_flat (by omega),List.length_append,flat_len h j (by omega),h j (by omega)]
   omega
set_option maxHeartbeats 3200000 in
theorem concat_yes {w:World} {r:Value} {us:List Value} {X:List (List Nat)} (mr:Mat w r us X) (h1:1<=X.length) (h2:X.length<=255) (hl:∀ j,j < X.length->(X.getD j []).length=448) :
 Calls Tryz.prog 76 #[r] w fun e w'=>∃ v,e=.returned v/\Own w.heap.size w' v X.flatten/\w.grownBy w' none:=by
 obtain⟨q,N,cap,rfl,hN⟩:=mr.row.opened
 have hs:=mr.same
 have hNl:N<=255:=by omega
 have MR:Hid (Mat w (.slice q N cap) us X):=mr
 have HN:Hid (N=us.length/\N=X.length/\1<=N/\N<=255/\∀ j,j < X.length->(X.getD j []).length=448):=⟨hN,by omega,by omega,by omega,hl⟩
 clear mr hN hs h1 h2 hl
 go_enter Tryz.func76,Tryz.ntmps76
 go_wp2_with fail
 go_loopw [3,11] (fun ts ti wr=>∃ j:Nat,j<=N/\ts=.int .i64 ((448 * j:Nat):Int)/\ti=.int .i64 j/\Hid (w.grownBy wr none)) (fun _ ti _=>N - (intOf ti).toNat)
 case atStart=>exact⟨0,by omega,rfl,rfl,World.grownBy.refl _ _⟩
 case round =>
  obtain⟨j,hj,rfl,rfl,GK⟩:=hrel
  by_cases hlt:j < N
  ·have i3:(j:Int) < (N:Int):=by omega
   have i4:(0:Int)<=(j:Int):=by omega
   obtain⟨b,off,rfl,hr⟩:=(MR.out.keep GK.out).row.spot (k:=j) (by have:=HN.out;omega)
   obtain⟨pk,nk,ck,ek,hnk⟩:=((MR.out.keep GK.out).vec j (by have:=HN.out;omega)).opened
   have hn448:nk=448:=by rw[hnk];exact HN.out.2.2.2.2 j (by have:=HN.out;omega)
   subst hn448
   rw[ek] at hr
   have hw:IntKind.i64.wrap (((448 * j:Nat):Int)+448)=((448 * (j+1):Nat):Int):=by
    have e:((448 * j:Nat):Int)+448=((448 * (j+1):Nat):Int):=by omega
    rw[e]
    exact IntWalk.i64_in _ (by omega)
   obtain⟨t,ht⟩:∃ t,t=448 * (j+1):=⟨_,rfl⟩
   rw[<- ht] at hw
   have i5:¬ (t:Int) < 0:=by omega
   have HT:Hid (t=448 * (j+1)):=ht
   obtain⟨t0,ht0⟩:∃ t0,t0=448 * j:=⟨_,rfl⟩
   rw[<- ht0] at hw ⊢
   clear ek hnk ht ht0
   go_wp2
   go_roundw
   case rel=>exact⟨j+1,by omega,by rw[HT.out],by go_num,GK⟩
   case measure=>simp[intOf];omega
  ·have i3:¬ (j:Int) < (N:Int):=by omega
   have hjN:j=N:=by omega
   obtain⟨t,ht⟩:∃ t,t=448 * j:=⟨_,rfl⟩
   rw[<- ht]
   have GR:Hid (Calls Tryz.prog 114 #[.slice none 0 0,.int .i64 (t:Int)] wr fun e w'=>∃ v,e=.returned v/\Own wr.heap.size w' v []/\wr.grownBy w' none):=grow_none wr (by have:=HN.out;omega) (by have:=HN.out;omega)
   clear ht hjN
   go_wp2_with (first
    | (go_at_call 114;refine GR.out.mono ?_;rintro e w1 ⟨v,rfl,o1,g1⟩;have O1:Hid (Own w.heap.size w1 v []):=o1.down GK.out.size;have G1:Hid (w.grownBy w1 none):=grown_trans GK.out g1;clear o1 g1)
    | fail)
   clear GR GK
   go_loopw [6,27] (fun tv ti wr=>∃ j:Nat,j<=N/\ti=.int .i64 j/\Hid (Own w.heap.size wr tv (X.take j).flatten)/\Hid (w.grownBy wr none)) (fun _ ti _=>N - (intOf ti).toNat)
   case atStart=>exact⟨0,by omega,rfl,O1,G1⟩
   case round =>
    clear O1 G1
    obtain⟨k,hk,rfl,OK,GK⟩:=hrel
    by_cases hlt2:k < N
    ·have i6:(k:Int) < (N:Int):=by omega
     have i7:(0:Int)<=(k:Int):=by omega
     obtain⟨b,off,rfl,hr⟩:=(MR.out.keep GK.out).row.spot (k:=k) (by have:=HN.out;omega)
     obtain⟨pk,nk,ck,ek,hnk⟩:=((MR.out.keep GK.out).vec k (by have:=HN.out;omega)).opened
     have VX:Hid (Vec wr (.slice pk nk ck) (X.getD k [])):=by rw[<- ek];exact (MR.out.keep GK.out).vec k (by have:=HN.out;omega)
     rw[ek] at hr
     have HL:Hid ((X.take k).flatten.length+(X.getD k []).length<=140737488351232):=by
      show _<=_
      rw[flat_len HN.out.2.2.2.2 k (by have:=HN.out;omega),HN.out.2.2.2.2 k (by have:=HN.out;omega)]
      have:=HN.out
      omega
     have HF:Hid ((X.take (k+1)).flatten=(X.take k).flatten++X.getD k []):=take_flat (by have:=HN.out;omega)
     obtain⟨dp,dn,dc,rfl,hd0⟩:=OK.out.vec.opened
     clear ek hnk hd0
     generalize (X.take k).flatten=FX at *
     generalize X.getD k []=XK at *
     go_wp2_with (at_builtin;refine wpList_append_vec rfl _ _ rfl _ _ rfl rfl OK.out VX.out GK.out.size HL.out ?_;intro v2 w2 o2 g2;have O2:Hid (Own w.heap.size w2 v2 (FX++XK)):=o2;have G2:Hid (w.grownBy w2 none):=grown_new GK.out g2 (fun i e=>OK.out.lo i e);clear o2 g2)
     go_roundw
     case rel=>exact⟨k+1,by omega,by go_num,by rw[HF.out];exact O2,G2⟩
     case measure=>simp[intOf];omega
    ·have i6:¬ (k:Int) < (N:Int):=by omega
     have HX:Hid ((X.take k).flatten=X.flatten):=by
      show _=_
      rw[List.take_of_length_le (by have:=HN.out;omega)]
     go_wp2
     go_ret
     exact⟨_,rfl,by rw[<- HX.out];exact OK.out,GK.out⟩
theorem enters_rd:∀ args w,(callFunc 74 args).run Tryz.prog w=.ok (.enter 74 args) w:=by
 intro args w
 simp[go_sem,callFunc,Tryz.func74,Tryz.f74]
section
variable {F F':Nat->Prop} {w w':World} {s a:Nat} {g:SP.Geo} {R R':AM.Raw}
theorem rd_walk {B0 A D Sb m slot:Nat} {w4:World} (h:SI F w s a g R) (h0:R.off=false) (hs:slot < g.s) (T:RdI w B0 A D Sb s m w4 (.slice none 0 0) (.slice none 0 0) [] (.slice none 0 0) (.slice none 0 0) [] []) :
 Calls Tryz.prog 73 #[ptr s,.int .i64 (slot:Int),.func (.func 74) #[] #[.pointer (some ⟨B0,0,none⟩),.pointer (some ⟨A,0,none⟩),.pointer (some ⟨D,0,none⟩),.pointer (some ⟨Sb,0,none⟩)]] w4 fun e w' =>
  e=.returned (.tuple #[])/\∃ va vt us,RdI w B0 A D Sb s m w' va va (SP.found R g slot m) vt vt us (SP.told R g slot (SP.found R g slot m)):=by
 have hk1:=h.ok.k1
 refine (swalk_any (g:=g) (R:=R) (F:=F) (a:=a) (B:=w.heap.size) h0 hs enters_rd
  (fun j w'=>(SP.hits R g slot m j).length < g.k/\j<=g.n/\∃ va vt us,RdI w B0 A D Sb s m w' va va (SP.hits R g slot m j) vt vt us (SP.told R g slot (SP.hits R g slot m j)))
  (fun w'=>∃ va vt us,RdI w B0 A D Sb s m w' va va (SP.found R g slot m) vt vt us (SP.told R g slot (SP.found R g slot m)))
  (fun j=>decide ((SP.hits R g slot m (j+1)).length < g.k)) ?_ ?_ ?_ ?_ ?_ ?_).mono ?_
 ·rintro j w1 ⟨_,_,_,_,_,T1⟩
  exact h.keep T1.gr
 ·rintro j w1 ⟨_,_,_,_,_,T1⟩
  exact T1.gr.size
 ·rintro j w1 w2 ⟨h1,h2,va,vt,us,T1⟩ g1
  exact⟨h1,h2,va,vt,us,T1.keep g1⟩
 ·rintro j w1 hj hy ⟨h1,h2,va,vt,us,T1⟩
  have e:SP.hits R g slot m (j+1)=SP.hits R g slot m j:=by rw[SP.hits_succ];simp[SP.has,hy]
  rw[e]
  exact⟨h1,by omega,va,vt,us,T1⟩
 ·rintro j w1 v hj hy ⟨h1,h2,va,vt,us,T1⟩ hv
  obtain⟨pv,nv,cv,rfl,_⟩:=hv.vec.opened
  have HK:∀ w',w.grownBy w' none->w'.cell? ⟨s,1,none⟩=some (.int .i64 (g.k:Int)):=fun w' g'=>(h.keep g').at2
  by_cases hm:SP.numD R g slot j=m
  ·have e:SP.hits R g slot m (j+1)=SP.hits R g slot m j++[j]:=by rw[SP.hits_succ];simp[SP.has,hy,hm]
   obtain⟨vp,vn,vc,rfl,_⟩:=T1.mt.mat.row.opened
   have hsame:=T1.mt.same
   rw[SP.told_len] at hsame
   have hle:=SP.hits_len_le R g slot m j
   have hn255:=h.ok.n255
   rw[hm]
   refine (rd_yes T1 (j:=j) (k:=g.k) hv (by omega) (by omega) HK).mono ?_
   rintro e2 w2 ⟨rfl,va',vt',us',T2⟩
   refine⟨by rw[e],?_⟩
   rw[<- e,<- SP.told_app,<- e] at T2
   by_cases hc:(SP.hits R g slot m (j+1)).length < g.k
   ·rw[if_pos (decide_eq_true hc)]
    exact⟨hc,by omega,va',vt',us',T2⟩
   ·rw[if_neg (by simpa using hc)]
    have hfe:SP.hits R g slot m (j+1)=SP.found R g slot m:=SP.hits_take (by omega) (by
     have:(SP.hits R g slot m (j+1)).length=(SP.hits R g slot m j).length+1:=by rw[e];simp
     omega)
    rw[hfe] at T2
    exact⟨va',vt',us',T2⟩
  ·have e:SP.hits R g slot m (j+1)=SP.hits R g slot m j:=by rw[SP.hits_succ];simp[SP.has,hm]
   refine (rd_no T1 (j:=j) (k:=g.k) hm HK).mono ?_
   rintro e2 w2 ⟨rfl,T2⟩
   refine⟨by rw[e],?_⟩
   rw[if_pos (by rw[e];exact decide_eq_true h1)]
   rw[e]
   exact⟨h1,by omega,va,vt,us,T2⟩
 ·exact⟨by rw[SP.hits_zero];simp;omega,by omega,_,_,_,T⟩
 ·rintro e w' ⟨rfl,h1⟩
  refine⟨rfl,?_⟩
  rcases h1 with ⟨h1,_,va,vt,us,T1⟩ | h1
  ·have hfe:SP.hits R g slot m g.n=SP.found R g slot m:=(List.take_of_length_le (by omega)).symm
   rw[hfe] at T1
   exact⟨va,vt,us,T1⟩
  ·exact h1
theorem sread_err (h:SI F w s a g R) {slot:Int} {m:Nat} (hy:SP.why R g slot ≠ 0) :
 Calls Tryz.prog 22 #[ptr s,.int .i64 slot,.int .u64 (m:Int)] w fun e w'=>e=.returned (.tuple #[.slice none 0 0,.int .i64 (SP.why R g slot:Int)])/\w.grownBy w' none:=by
 obtain⟨y,hy1⟩:∃ y,y=SP.why R g slot:=⟨_,rfl⟩
 have HR:Hid (∀ w',w.grownBy w' none->Calls Tryz.prog 57 #[ptr s,.int .i64 slot] w' fun e w''=>e=.returned (.int .i64 (y:Int))/\w''=w'):=fun w' g1=>by rw[hy1];exact sreach_yes (h.keep g1) slot
 rw[<- hy1] at hy ⊢
 have hne:((y:Int) != 0)=true:=neb_yes (b:=0) hy
 have HG:Hid (∀ A B T T',w.grownBy ((w.alloc (.cells A T)).alloc (.cells B T')) none):=fun A B T T'=>gb_alloc (World.grownBy_alloc w _ none) _
 clear h hy hy1
 go_enter Tryz.func22,Tryz.ntmps22
 go_wp2_with (go_at_call 57;refine (HR.out _ (HG.out _ _ _ _)).mono ?_;rintro e w9 ⟨rfl,hw9⟩;obtain rfl:=hw9.symm;clear hw9)
 go_ret2
 exact⟨rfl,HG.out _ _ _ _⟩
theorem sread_arg (h:SI F w s a g R) {slot:Int} (hy:SP.why R g slot=0) :
 Calls Tryz.prog 22 #[ptr s,.int .i64 slot,.int .u64 0] w fun e w'=>e=.returned (.tuple #[.slice none 0 0,.int .i64 1])/\w.grownBy w' none:=by
 have HR:Hid (∀ w',w.grownBy w' none->Calls Tryz.prog 57 #[ptr s,.int .i64 slot] w' fun e w''=>e=.returned (.int .i64 0)/\w''=w'):=fun w' g1=>sreach_at (h.keep g1) (by rw[hy];rfl)
 have HG:Hid (∀ A B T T',w.grownBy ((w.alloc (.cells A T)).alloc (.cells B T')) none):=fun A B T T'=>gb_alloc (World.grownBy_alloc w _ none) _
 clear h hy
 go_enter Tryz.func22,Tryz.ntmps22
 go_wp2_with (go_at_call 57;refine (HR.out _ (HG.out _ _ _ _)).mono ?_;rintro e w9 ⟨rfl,hw9⟩;obtain rfl:=hw9.symm;clear hw9)
 go_ret2
 exact⟨rfl,HG.out _ _ _ _⟩
theorem rdi_start (w:World) (s m:Nat):RdI w (w.heap.size+1) (w.heap.size+1+1) (w.heap.size+1+1+1) w.heap.size s m ((((w.alloc (.cells #[ptr s] 23)).alloc (.cells #[.int .u64 (m:Int)] 30)).alloc (.cells #[.slice none 0 0] 50)).alloc (.cells #[.slice none 0 0] 95)) (.slice none 0 0) (.slice none 0 0) [] (.slice none 0 0) (.slice none 0 0) [] []:=by
 have b1:=Boxed.new w 23 (ptr s)
 have b2:=Boxed.new (w.alloc (.cells #[ptr s] 23)) 30 (.int .u64 (m:Int))
 have b3:=Boxed.new ((w.alloc (.cells #[ptr s] 23)).alloc (.cells #[.int .u64 (m:Int)] 30)) 50 (.slice none 0 0)
 have b4:=Boxed.new (((w.alloc (.cells #[ptr s] 23)).alloc (.cells #[.int .u64 (m:Int)] 30)).alloc (.cells #[.slice none 0 0] 50)) 95 (.slice none 0 0)
 rw[World.size_alloc] at b2
 rw[World.size_alloc,World.size_alloc] at b3
 rw[World.size_alloc,World.size_alloc,World.size_alloc] at b4
 exact⟨(b2.alloc _).alloc _,b3.alloc _,b4,((b1.alloc _).alloc _).alloc _,IOwn.nil _ _,RMat.nil _ _ _,by omega,by omega,gb_alloc (gb_alloc (gb_alloc (World.grownBy_alloc w _ none) _) _) _⟩
set_option maxHeartbeats 6400000 in
theorem sread_main (h:SI F w s a g R) {slot m:Nat} (hy:SP.why R g (slot:Int)=0) (hm:m ≠ 0) :
 Calls Tryz.prog 22 #[ptr s,.int .i64 (slot:Int),.int .u64 (m:Int)] w fun e w'=>∃ v er out,e=.returned (.tuple #[v,.int .i64 ((er:Nat):Int)])/\SP.RdP R g (slot:Int) m out er/\(er=0->out.length=g.k * 448)/\Own w.heap.size w' v out/\w.grownBy w' none:=by
 have HR:Hid (∀ w',w.grownBy w' none->Calls Tryz.prog 57 #[ptr s,.int .i64 (slot:Int)] w' fun e w''=>e=.returned (.int .i64 0)/\w''=w'):=fun w' g1=>sreach_at (h.keep g1) (by rw[hy];rfl)
 obtain⟨q0,q1,q2⟩:=SP.why_zero hy
 have HW:Hid (∀ B0 A D Sb w4,RdI w B0 A D Sb s m w4 (.slice none 0 0) (.slice none 0 0) [] (.slice none 0 0) (.slice none 0 0) [] []->Calls Tryz.prog 73 #[ptr s,.int .i64 (slot:Int),.func (.func 74) #[] #[.pointer (some ⟨B0,0,none⟩),.pointer (some ⟨A,0,none⟩),.pointer (some ⟨D,0,none⟩),.pointer (some ⟨Sb,0,none⟩)]] w4 fun e w' =>
  e=.returned (.tuple #[])/\∃ va vt us,RdI w B0 A D Sb s m w' va va (SP.found R g slot m) vt vt us (SP.told R g slot (SP.found R g slot m))):=fun B0 A D Sb w4 T=>rd_walk h q0 (by omega) T
 have HG:Hid (∀ A B T T',w.grownBy ((w.alloc (.cells A T)).alloc (.cells B T')) none):=fun A B T T'=>gb_alloc (World.grownBy_alloc w _ none) _
 have HS:Hid (∀ w',w.grownBy w' none->w'.cell? ⟨s,1,none⟩=some (.int .i64 (g.k:Int))/\w'.cell? ⟨s,2,none⟩=some (.int .i64 (g.n:Int))):=fun w' g'=>⟨(h.keep g').at2,(h.keep g').at3⟩
 have T0:Hid (RdI w _ _ _ _ s m _ _ _ _ _ _ _ _):=rdi_start w s m
 have hne:((m:Int)==0)=false:=eqb_no (b:=0) hm
 have HY:Hid (SP.why R g (slot:Int)=0/\m ≠ 0/\g.Ok R):=⟨hy,hm,h.ok⟩
 have HP:Hid (SP.Pick R g slot (SP.found R g slot m)):=SP.found_pick R g slot m
 have HFL:Hid (g.k<=(SP.hits R g slot m g.n).length->(SP.found R g slot m).length=g.k):=SP.found_len
 have HFS:Hid (¬ g.k<=(SP.hits R g slot m g.n).length->(SP.found R g slot m).length < g.k):=fun hh=>by simp[SP.found];omega
 clear h hy hm q0 q1 q2
 go_enter Tryz.func22,Tryz.ntmps22
 go_wp2_with (first
  | (go_at_call 57;refine (HR.out _ (HG.out _ _ _ _)).mono ?_;rintro e w9 ⟨rfl,hw9⟩;obtain rfl:=hw9.symm;clear hw9)
  | (go_at_call 73;refine (HW.out _ _ _ _ _ T0.out).mono ?_;rintro e w5 ⟨rfl,va,vt,us,t5⟩;obtain⟨ap,an,ac,rfl,ha⟩:=t5.ia.ivec.opened;obtain⟨tp,tn,tc,rfl,ht⟩:=t5.mt.mat.row.opened;have T5:Hid (RdI w _ _ _ _ s m w5 (.slice ap an ac) (.slice ap an ac) (SP.found R g slot m) (.slice tp tn tc) (.slice tp tn tc) us (SP.told R g slot (SP.found R g slot m))):=t5;have HAN:Hid (an=(SP.found R g slot m).length):=(by show _=_;rw[ha,SP.ints_len]);clear t5 ha ht))
 have HC5:Hid (∀ w',w5.grownBy w' none->w'.cell? ⟨w.heap.size+1+1,0,none⟩=some (.slice ap an ac)/\w'.cell? ⟨w.heap.size+1+1+1,0,none⟩=some (.slice tp tn tc)/\w'.cell? ⟨w.heap.size,0,none⟩=some (ptr s)/\w'.cell? ⟨s,1,none⟩=some (.int .i64 (g.k:Int))/\w'.cell? ⟨s,2,none⟩=some (.int .i64 (g.n:Int))):=fun w' g'=>⟨(T5.out.keep g').ba.cell,(T5.out.keep g').bd.cell,(T5.out.keep g').bs.cell,HS.out w' (T5.out.keep g').gr⟩
 clear T0 HW HR HG HS
 go_region_held3 (fun w'=>w'.cell? ⟨w.heap.size+1+1,0,none⟩=some (.slice ap an ac)/\w'.cell? ⟨w.heap.size,0,none⟩=some (ptr s)/\w'.cell? ⟨s,1,none⟩=some (.int .i64 (g.k:Int))) (exact⟨(HC5.out _ (grown_drewN w5 1)).1,(HC5.out _ (grown_drewN w5 1)).2.2.1,(HC5.out _ (grown_drewN w5 1)).2.2.2.1⟩) (fail)
 by_cases hk:g.k<=(SP.hits R g slot m g.n).length
 ·have hfl:=HFL.out hk
  have i1:¬ (an:Int) < (g.k:Int):=by have:=HAN.out;omega
  have DEC:Hid (∀ w',w.grownBy w' none->w5.grownBy w' none->Calls Tryz.prog 75 #[.int .i64 (g.k:Int),.int .i64 (g.n:Int),.slice ap an ac,.slice tp tn tc] w' fun e w''=>∃ p m' c us' D,e=.returned (.tuple #[.slice p m' c,.int .i64 0])/\OwnMat w'.heap.size w'' (.slice p m' c) us' D/\Shape D g.k 448/\SP.RdP R g (slot:Int) m D.flatten 0/\w'.grownBy w'' none):=fun w' _ g1=>by
   have T6:=T5.out.keep g1
   have hok:=HP.out.ok HY.out.2.2
   have hL:((SP.told R g slot (SP.found R g slot m)).getD 0 []).length=448:=HP.out.row (by have:=HY.out.2.2.k1;omega)
   refine (decode_yes (k:=g.k) (n:=g.n) T6.ia.ivec T6.mt.mat hok (by rw[SP.ints_len];omega)).mono ?_
   rintro e w2 ⟨p,m',c,us',D,rfl,om,_,sh,tl,gg⟩
   rw[hL] at sh
   refine⟨p,m',c,us',D,rfl,om,sh,?_,gg⟩
   unfold SP.RdP
   rw[Int.toNat_natCast]
   refine .inr (.inr (.inr ⟨HY.out.1,HY.out.2.1,hk,rfl,D,0,.inr (.inr ⟨hok,by rw[SP.ints_len];omega,rfl,?_⟩),rfl⟩))
   rw[Int.toNat_natCast]
   exact tl
  have HKK:Hid (1<=g.k/\g.k<=255):=⟨HY.out.2.2.k1,by have:=HY.out.2.2.kn;have:=HY.out.2.2.n255;omega⟩
  clear HP HFL HFS hfl hk
  go_wp2_with fail
  go_region_held3 (fun w'=>w'.cell? ⟨w.heap.size+1+1,0,none⟩=some (.slice ap an ac)/\w'.cell? ⟨w.heap.size+1+1+1,0,none⟩=some (.slice tp tn tc)/\w'.cell? ⟨w.heap.size,0,none⟩=some (ptr s)/\w'.cell? ⟨s,1,none⟩=some (.int .i64 (g.k:Int))/\w'.cell? ⟨s,2,none⟩=some (.int .i64 (g.n:Int))) (first | exact HC5.out _ (grown_trans (grown_drewN w5 1) (grown_drewN _ 1)) | exact HC5.out _ (grown_trans (grown_trans (grown_drewN w5 1) (grown_drewN _ 1)) G7.out))
   ((go_at_call 75;refine (DEC.out _ (grown_trans T5.out.gr (grown_trans (grown_drewN w5 1) (grown_drewN _ 1))) (grown_trans (grown_drewN w5 1) (grown_drewN _ 1))).mono ?_;rintro e w7 ⟨p7,m7,c7,us7,D7,rfl,om7,sh7,rp7,g7⟩;have M7:Hid (Mat w7 (.slice p7 m7 c7) us7 D7):=om7.mat;have S7:Hid (Shape D7 g.k 448/\SP.RdP R g (slot:Int) m D7.flatten 0):=⟨sh7,rp7⟩;have G7:Hid (((w5.drewN 1).drewN 1).grownBy w7 none):=g7;clear om7 sh7 rp7 g7))
  have GW:Hid (w.grownBy w7 none):=grown_trans (grown_trans T5.out.gr (grown_trans (grown_drewN w5 1) (grown_drewN _ 1))) G7.out
  have CC:Hid (Calls Tryz.prog 76 #[.slice p7 m7 c7] w7 fun e w'=>∃ v,e=.returned v/\Own w7.heap.size w' v D7.flatten/\w7.grownBy w' none):=by
   have hl:=S7.out.1.len
   have hr:=S7.out.1.row
   have:=HKK.out
   exact concat_yes M7.out (by omega) (by omega) (fun j hj=>hr j (by omega))
  clear DEC HC5 T5
  go_wp2_with (go_at_call 76;refine CC.out.mono ?_;rintro e w8 ⟨v8,rfl,o8,g8⟩;have O8:Hid (Own w.heap.size w8 v8 D7.flatten):=o8.down GW.out.size;have G8:Hid (w.grownBy w8 none):=grown_trans GW.out g8;clear o8 g8)
  go_ret2
  exact⟨_,0,_,rfl,S7.out.2,fun _=>(by
   have h1:=flat_len (X:=D7) (fun j hj=>S7.out.1.row j (by have:=S7.out.1.len;omega)) g.k (by have:=S7.out.1.len;omega)
   rw[List.take_of_length_le (by have:=S7.out.1.len;omega)] at h1
   omega),O8.out,G8.out⟩
 ·have hfs:=HFS.out hk
  have i1:(an:Int) < (g.k:Int):=by have:=HAN.out;omega
  have HK:Hid (¬ g.k<=(SP.hits R g slot m g.n).length):=hk
  clear hfs hk HP HFL HFS
  go_wp2_with fail
  go_ret2
  refine⟨_,20,[],rfl,?_,fun h=>absurd h (by decide),Own.nil _ _,grown_trans T5.out.gr (grown_drewN w5 1)⟩
  unfold SP.RdP
  rw[Int.toNat_natCast]
  exact .inr (.inr (.inl ⟨HY.out.1,HY.out.2.1,by have:=HK.out;omega,rfl,rfl⟩))
theorem sread_len (h:SI F w s a g R) (slot:Int) (m:Nat) :
 Calls Tryz.prog 22 #[ptr s,.int .i64 slot,.int .u64 (m:Int)] w fun e w'=>∃ v er out,e=.returned (.tuple #[v,.int .i64 ((er:Nat):Int)])/\SP.RdP R g slot m out er/\(er=0->out.length=g.k * 448)/\Own w.heap.size w' v out/\w.grownBy w' none:=by
 by_cases hy:SP.why R g slot=0
 ·by_cases hm:m=0
  ·subst hm
   refine (sread_arg h hy).mono ?_
   rintro e w' ⟨rfl,g1⟩
   exact⟨_,1,[],rfl,.inr (.inl ⟨hy,rfl,rfl,rfl⟩),fun h=>absurd h (by decide),Own.nil _ _,g1⟩
  ·obtain⟨_,q1,_⟩:=SP.why_zero hy
   obtain⟨n,rfl⟩:∃ n:Nat,slot=(n:Int):=⟨slot.toNat,by omega⟩
   exact sread_main h hy hm
 ·refine (sread_err h hy).mono ?_
  rintro e w' ⟨rfl,g1⟩
  exact⟨_,_,[],rfl,.inl ⟨hy,rfl,rfl⟩,fun h=>absurd h hy,Own.nil _ _,g1⟩
theorem sread_all (h:SI F w s a g R) (slot:Int) (m:Nat) :
 Calls Tryz.prog 22 #[ptr s,.int .i64 slot,.int .u64 (m:Int)] w fun e w'=>∃ v er out,e=.returned (.tuple #[v,.int .i64 ((er:Nat):Int)])/\SP.RdP R g slot m out er/\Own w.heap.size w' v out/\w.grownBy w' none:=by
 refine (sread_len h slot m).mono ?_
 rintro e w' ⟨v,er,out,rfl,h1,_,h2,h3⟩
 exact⟨v,er,out,rfl,h1,h2,h3⟩
end
def encL (k n:Int) (X:List (List Nat)):List (List Nat):=if fitsB k n X then codeList X k.toNat n.toNat (X.getD 0 []).length else []
def encE (k n:Int) (X:List (List Nat)):Int:=if fitsB k n X then 0 else 1
def oneB (k n i:Int) (X:List (List Nat)):Bool:=fitsB k n X&&(decide (0<=i)&&decide (i < n))
def oneL (k n i:Int) (X:List (List Nat)):List Nat:=if oneB k n i X then codeRow X k.toNat (X.getD 0 []).length i.toNat else []
def oneE (k n i:Int) (X:List (List Nat)):Int:=if oneB k n i X then 0 else 1
theorem fits_parts {k n:Int} {X:List (List Nat)} (h:fitsB k n X=true):k=(k.toNat:Int)/\n=(n.toNat:Int)/\1<=k.toNat/\k.toNat < n.toNat/\n.toNat<=255/\Shape X k.toNat (X.getD 0 []).length:=by
 obtain⟨h1,h2,h3⟩:=fitsB_iff.1 h
 refine⟨by omega,by omega,by omega,by omega,by omega,?_⟩
 have:=even_shape h3
 rwa [show X.length=k.toNat by omega] at this
theorem Sep.none:Sep []:=fun i j hi _ _=>absurd hi (by simp)
theorem made_none {w w':World} (g:w.grownBy w' none) (er:Int):Made w [] er (.returned (.tuple #[.slice none 0 0,.int .i64 er])) w' :=
 ⟨none,0,0,[],rfl,OwnMat.nil _ _,Sep.none,g⟩
theorem encode_all {w:World} {r:Value} {vs:List Value} {X:List (List Nat)} (k n:Int) (mr:Mat w r vs X) :
 Calls Tryz.prog 58 #[.int .i64 k,.int .i64 n,r] w (Made w (encL k n X) (encE k n X)):=by
 unfold encL encE
 by_cases hf:fitsB k n X=true
 ·obtain⟨e1,e2,h1,h2,h3,hs⟩:=fits_parts hf
  rw[if_pos hf,if_pos hf]
  have:=encode_yes mr hs h1 h2 h3
  rwa [<- e1,<- e2] at this
 ·rw[if_neg hf,if_neg hf]
  refine (encode_no mr (by simpa using hf)).mono ?_
  rintro e w' ⟨rfl,rfl⟩
  exact made_none (World.grownBy.refl _ _) 1
theorem one_all {w:World} {r:Value} {vs:List Value} {X:List (List Nat)} (k n i:Int) (mr:Mat w r vs X) :
 Calls Tryz.prog 106 #[.int .i64 k,.int .i64 n,.int .i64 i,r] w fun e w'=>∃ p m c,e=.returned (.tuple #[.slice p m c,.int .i64 (oneE k n i X)])/\Own w.heap.size w' (.slice p m c) (oneL k n i X)/\w.grownBy w' none:=by
 unfold oneL oneE
 by_cases hb:oneB k n i X=true
 ·rw[if_pos hb,if_pos hb]
  unfold oneB at hb
  rw[Bool.and_eq_true,Bool.and_eq_true,decide_eq_true_iff,decide_eq_true_iff] at hb
  obtain⟨e1,e2,h1,h2,h3,hs⟩:=fits_parts hb.1
  have e3:i=(i.toNat:Int):=by omega
  have:=one_yes (i:=i.toNat) mr hs h1 h2 h3 (by omega)
  rwa [<- e1,<- e2,<- e3] at this
 ·rw[if_neg hb,if_neg hb]
  refine (one_no mr ?_).mono ?_
  ·unfold oneB at hb
   rw[Bool.and_eq_true,Bool.and_eq_true,decide_eq_true_iff,decide_eq_true_iff] at hb
   by_cases hf:fitsB k n X=true
   ·right
    by_cases h0:0<=i
    ·right
     refine Classical.byContradiction fun hc=>hb ⟨hf,h0,by omega⟩
    ·left;omega
   ·left;simpa using hf
  ·rintro e w' ⟨rfl,rfl⟩
   exact⟨none,0,0,rfl,Own.nil _ _,World.grownBy.refl _ _⟩
end Go.Proofs.YtaalagkbpeinkaaGreat
