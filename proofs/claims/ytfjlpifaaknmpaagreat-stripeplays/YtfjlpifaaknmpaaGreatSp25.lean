/- Packed: RdC8, Con8, RRd8, Acts8. -/
import Derived.Test.YtfjlpifaaknmpaaGreatSp23
import Derived.Test.YtfjlpifaaknmpaaGreatSp24
import Derived.Lib.AppendZeros
import Derived.Lib.SmallJoins
import Derived.Deep.Slices
set_option linter.unusedSimpArgs false
set_option linter.unusedVariables false
set_option maxRecDepth 100000
namespace Go.Proofs.YtfjlpifaaknmpaaGreat
open Go.RowKit
structure RdI (w0:World) (B0 A D Sb s m:Nat) (w:World) (va va':Value) (l:List Nat) (vt vt':Value) (us:List Value) (X:List (List Nat)):Prop where
 b0:Boxed w B0 39 (.int .u64 (m:Int))
 ba:Boxed w A 95 va
 bd:Boxed w D 87 vt
 bs:Boxed w Sb 27 (ptr s)
 ia:IOwn w0.heap.size w va' (SP.ints l)
 mt:RMat 5 w0.heap.size w vt' us X
 lA:w0.heap.size <= A
 lD:w0.heap.size <= D
 gr:w0.grownBy w none
theorem boxed_ne {w:World} {A D:Nat} {t t':TypeId} {u v:Value} (h:Boxed w A t u) (h':Boxed w D t' v) (ne:t ≠ t'):A ≠ D:=fun e=>by
 subst e
 have h3:=(show w.heap[A]? = _ from h).symm.trans (show w.heap[A]? = _ from h')
 simp at h3
 exact ne h3.2
theorem RMat.boxed {T:TypeId} {B A:Nat} {w:World} {v u:Value} {us:List Value} {X:List (List Nat)} {t:TypeId} (h:RMat T B w v us X) (hb:Boxed w A t u) (h1:t ≠ 40) (h2:t ≠ T) {w':World} (g:w.grownBy w' (some A)):RMat T B w' v us X :=
 h.kept g (fun r hr c f=>by
  obtain rfl:=Option.some.inj hr
  rw [show w.heap[A]? = _ from hb]
  simp [h1,h2])
theorem RMat.rowed {T:TypeId} {B B' n:Nat} {w:World} {v u:Value} {us xs:List Value} {X:List (List Nat)} {t:TypeId} (h:RMat T B w v us X) (hr:w.ownsRow B' t 1 u n xs) (h1:t ≠ 40) (h2:t ≠ T) {w':World} (g:w.grownBy w' u.ownBlock):RMat T B w' v us X :=
 h.kept g (fun r e c f=>by
  obtain ⟨c',hc'⟩:=rowBlock hr e
  rw [hc']
  simp [h1,h2])
section
variable {w0 w w':World} {B0 A D Sb s m:Nat} {va va' vt vt':Value} {l:List Nat} {us:List Value} {X:List (List Nat)}
theorem RdI.keep (h:RdI w0 B0 A D Sb s m w va va' l vt vt' us X) (g:w.grownBy w' none):RdI w0 B0 A D Sb s m w' va va' l vt vt' us X :=
 ⟨h.b0.kept g (by simp),h.ba.kept g (by simp),h.bd.kept g (by simp),h.bs.kept g (by simp),h.ia.keep g,h.mt.keep g,h.lA,h.lD,grown_trans h.gr g⟩
theorem RdI.cells (h:RdI w0 B0 A D Sb s m w va va' l vt vt' us X):w.cell? ⟨A,0,none⟩ = some va /\ w.cell? ⟨D,0,none⟩ = some vt:=⟨h.ba.cell,h.bd.cell⟩
theorem RdI.app1 (h:RdI w0 B0 A D Sb s m w va va' l vt vt' us X) {v2:Value} {j:Nat} (o:IOwn w0.heap.size w' v2 (SP.ints l ++ [(j:Int)])) (g:w.grownBy w' va'.ownBlock):RdI w0 B0 A D Sb s m w' va v2 (l ++ [j]) vt vt' us X :=
 ⟨h.b0.kept g (h.b0.not_row (by decide) h.ia.row),h.ba.kept g (h.ba.not_row (by decide) h.ia.row),h.bd.kept g (h.bd.not_row (by decide) h.ia.row),h.bs.kept g (h.bs.not_row (by decide) h.ia.row),by rw [SP.ints_app];exact o,h.mt.rowed h.ia.row (by decide) (by decide) g,h.lA,h.lD,grown_new h.gr g (fun i e=>h.ia.lo i e)⟩
theorem RdI.app2 (h:RdI w0 B0 A D Sb s m w va va' l vt vt' us X) {v2 v:Value} {ys:List Nat} (hu:Arr 5 w0.heap.size w v ys) (hl:(us.length + 1) * 24 <= 140737488351232) (hr:w'.ownsRow w0.heap.size 40 1 v2 (us.length + 1) (us ++ [v])) (g:w.grownBy w' vt'.ownBlock):RdI w0 B0 A D Sb s m w' va va' l vt v2 (us ++ [v]) (X ++ [ys]) :=
 ⟨h.b0.kept g (h.b0.not_row (by decide) h.mt.row),h.ba.kept g (h.ba.not_row (by decide) h.mt.row),h.bd.kept g (h.bd.not_row (by decide) h.mt.row),h.bs.kept g (h.bs.not_row (by decide) h.mt.row),h.ia.kept g (row_apart (by decide) h.ia.row h.mt.row),h.mt.more (by decide) hu hl hr g,h.lA,h.lD,grown_new h.gr g (fun i e=>h.mt.lo i e)⟩
theorem IOwn.boxed {B A:Nat} {w w':World} {v u:Value} {ls:List Int} {t:TypeId} (h:IOwn B w v ls) (hb:Boxed w A t u) (ht:t ≠ 3) (g:w.grownBy w' (some A)):IOwn B w' v ls :=
 h.kept g (by
  have:=hb.not_row ht h.row
  cases e:v.ownBlock with
  | none=>exact .inl rfl
  | some k=>exact .inr (fun e2=>this (by rw [e,<- e2])))
theorem RdI.setA (h:RdI w0 B0 A D Sb s m w va va' l vt vt' us X):RdI w0 B0 A D Sb s m (w.setCell ⟨A,0,none⟩ va') va' va' l vt vt' us X :=
 have g:=grownBy_setCell' w A va'
 ⟨h.b0.kept g (fun e=>boxed_ne h.b0 h.ba (by decide) (Option.some.inj e)),h.ba.set _,h.bd.kept g (fun e=>boxed_ne h.bd h.ba (by decide) (Option.some.inj e)),h.bs.kept g (fun e=>boxed_ne h.bs h.ba (by decide) (Option.some.inj e)),h.ia.boxed h.ba (by decide) g,h.mt.boxed h.ba (by decide) (by decide) g,h.lA,h.lD,grown_new h.gr g (fun i e=>by have:=Option.some.inj e;have:=h.lA;omega)⟩
theorem RdI.setD (h:RdI w0 B0 A D Sb s m w va va' l vt vt' us X):RdI w0 B0 A D Sb s m (w.setCell ⟨D,0,none⟩ vt') va va' l vt' vt' us X :=
 have g:=grownBy_setCell' w D vt'
 ⟨h.b0.kept g (fun e=>boxed_ne h.b0 h.bd (by decide) (Option.some.inj e)),h.ba.kept g (fun e=>boxed_ne h.ba h.bd (by decide) (Option.some.inj e)),h.bd.set _,h.bs.kept g (fun e=>boxed_ne h.bs h.bd (by decide) (Option.some.inj e)),h.ia.boxed h.bd (by decide) g,h.mt.boxed h.bd (by decide) (by decide) g,h.lA,h.lD,grown_new h.gr g (fun i e=>by have:=Option.some.inj e;have:=h.lD;omega)⟩
set_option maxHeartbeats 3200000 in
theorem rd_no (h:RdI w0 B0 A D Sb s m w va va l vt vt us X) {j n k:Nat} {v:Value} (hn:n ≠ m) (hK:∀ w',w0.grownBy w' none -> w'.cell? ⟨s,1,none⟩ = some (.int .i64 (k:Int))) :
 Calls Tryz.prog 56 #[.int .i64 (j:Int),.int .u64 (n:Int),v,.pointer (some ⟨B0,0,none⟩),.pointer (some ⟨A,0,none⟩),.pointer (some ⟨D,0,none⟩),.pointer (some ⟨Sb,0,none⟩)] w fun e w'=>e = .returned (.bool (decide (l.length < k))) /\ RdI w0 B0 A D Sb s m w' va va l vt vt us X:=by
 obtain ⟨ap,an,ac,rfl,ha⟩:=h.ia.ivec.opened
 have HA:Hid (an = l.length):=by show _ = _;rw [ha,SP.ints_len]
 have T:Hid (RdI w0 B0 A D Sb s m w (.slice ap an ac) (.slice ap an ac) l vt vt us X):=h
 have HK:Hid (∀ w',w0.grownBy w' none -> w'.cell? ⟨s,1,none⟩ = some (.int .i64 (k:Int))):=hK
 have hne:((n:Int) == (m:Int)) = false:=eqb_no hn
 have c0:=h.b0.cell
 clear h ha hK hn
 go_enter Tryz.func56,Tryz.ntmps56
 go_wp2_with fail
 have HS9:Hid (∀ w',w.grownBy w' none -> w'.cell? ⟨A,0,none⟩ = some (.slice ap an ac) /\ w'.cell? ⟨Sb,0,none⟩ = some (ptr s) /\ w'.cell? ⟨s,1,none⟩ = some (.int .i64 (k:Int))):=fun w' g'=>⟨(T.out.keep g').ba.cell,(T.out.keep g').bs.cell,HK.out w' (T.out.keep g').gr⟩
 clear c0
 go_region_held3 (fun w'=>w'.cell? ⟨A,0,none⟩ = some (.slice ap an ac) /\ w'.cell? ⟨Sb,0,none⟩ = some (ptr s) /\ w'.cell? ⟨s,1,none⟩ = some (.int .i64 (k:Int))) (exact HS9.out _ (grown_drewN w 1)) (fail)
 go_wp2
 go_ret
 exact ⟨by rw [HA.out];rfl,T.out.keep (grown_drewN w 1)⟩
set_option maxHeartbeats 12800000 in
theorem rd_yes {vp:Option Addr} {vn vc:Nat} (h:RdI w0 B0 A D Sb s m w va va l (.slice vp vn vc) (.slice vp vn vc) us X) {j k:Nat} {pv:Option Addr} {nv cv:Nat} {ys:List Nat} (hv:Own w0.heap.size w (.slice pv nv cv) ys) (hl:l.length < 255) (hl2:us.length < 255) (hK:∀ w',w0.grownBy w' none -> w'.cell? ⟨s,1,none⟩ = some (.int .i64 (k:Int))) :
 Calls Tryz.prog 56 #[.int .i64 (j:Int),.int .u64 (m:Int),.slice pv nv cv,.pointer (some ⟨B0,0,none⟩),.pointer (some ⟨A,0,none⟩),.pointer (some ⟨D,0,none⟩),.pointer (some ⟨Sb,0,none⟩)] w fun e w'=>e = .returned (.bool (decide ((l ++ [j]).length < k))) /\ ∃ va' vt' us',RdI w0 B0 A D Sb s m w' va' va' (l ++ [j]) vt' vt' us' (X ++ [ys]):=by
 have HK:Hid (∀ w',w0.grownBy w' none -> w'.cell? ⟨s,1,none⟩ = some (.int .i64 (k:Int))):=hK
 have hne:((m:Int) == (m:Int)) = true:=eqb_yes rfl
 have c0:=h.b0.cell
 have HL:Hid (((SP.ints l).length + 1) * 8 <= 140737488351232 /\ (us.length + 1) * 24 <= 140737488351232):=⟨by rw [SP.ints_len];omega,by omega⟩
 have HLL:Hid ((l ++ [j]).length = l.length + 1):=by show _ = _;simp
 have T:Hid (RdI w0 B0 A D Sb s m w.drew va va l (.slice vp vn vc) (.slice vp vn vc) us X):=h.keep (gb_drew (World.grownBy.refl _ _))
 obtain ⟨H,hH⟩:∃ H,H = w0.heap.size:=⟨_,rfl⟩
 have V:Hid (Own w0.heap.size w.drew (.slice pv nv cv) ys):=hv.keep (gb_drew (World.grownBy.refl _ _))
 clear h hv hl hl2 hK hH H
 go_enter Tryz.func56,Tryz.ntmps56
 go_wp2_with fail
 clear c0 hne
 refine region_late2 (S:=fun w'=>w'.cell? ⟨A,0,none⟩ = some va /\ w'.cell? ⟨D,0,none⟩ = some (.slice vp vn vc)) (by simp only [List.pop_toArray,List.dropLast];exact rfl) (by simp only [List.pop_toArray,List.dropLast];exact rfl) (by rfl) (by rfl) (by kernel_rfl) (by kernel_rfl) (by kernel_rfl) ?_ (fun hHeld=>?_)
 ·exact T.out.cells
 generalize w.drew = wd at *
 refine wpAnyH_take (i:=0) (v:=?_) rfl (by kernel_rfl) (by kernel_rfl) (by kernel_rfl) (fun _ _ _ h=>h) (Or.inl ⟨by rfl,?_⟩) (by assumption) ?_
 rotate_left
 ·intro w hSw;(try dsimp only at hSw);obtain ⟨hS1,hS2⟩:=hSw;first | (go_simp;done) | (go_simp;with_reducible rfl)
 simp only [Act.put,lay9]
 refine wpAnyH_take (i:=1) (v:=?_) rfl (by kernel_rfl) (by kernel_rfl) (by kernel_rfl) (fun _ _ _ h=>h) (Or.inl ⟨by rfl,?_⟩) (by assumption) ?_
 rotate_left
 ·intro w hSw;(try dsimp only at hSw);obtain ⟨hS1,hS2⟩:=hSw;first | (go_simp;done) | (go_simp;with_reducible rfl)
 simp only [Act.put,lay9]
 refine wpAnyH_take (i:=4) (v:=?_) rfl (by kernel_rfl) (by kernel_rfl) (by kernel_rfl) (fun _ _ _ h=>h) (Or.inl ⟨by rfl,?_⟩) (by assumption) ?_
 rotate_left
 ·intro w hSw;(try dsimp only at hSw);obtain ⟨hS1,hS2⟩:=hSw;first | (go_simp;done) | (go_simp;with_reducible rfl)
 simp only [Act.put,lay9]
 refine wpAnyH_take (i:=5) (v:=?_) rfl (by kernel_rfl) (by kernel_rfl) (by kernel_rfl) (fun _ _ _ h=>h) (Or.inl ⟨by rfl,?_⟩) (by assumption) ?_
 rotate_left
 ·intro w hSw;(try dsimp only at hSw);obtain ⟨hS1,hS2⟩:=hSw;first | (go_simp;done) | (go_simp;with_reducible rfl)
 simp only [Act.put,lay9]
 refine wpAnyH_ready (rs:=[2,6]) (by kernel_rfl) (by simp) ?_
 refine AllReadyH.cons rfl (fun K hK=>?_) (AllReadyH.cons rfl (fun K hK=>?_) AllReadyH.nil)
 ·skip
  go_simp
  have Tn:Hid (RdI w0 B0 A D Sb s m (wd.alloc (.cells #[.int .i64 (j:Int)] 3)) va va l (.slice vp vn vc) (.slice vp vn vc) us X):=T.out.keep (World.grownBy_alloc wd _ none)
  have Vn:Hid (Own w0.heap.size (wd.alloc (.cells #[.int .i64 (j:Int)] 3)) (.slice pv nv cv) ys):=V.out.keep (World.grownBy_alloc wd _ none)
  have C2:Hid (Boxed (wd.alloc (.cells #[.int .i64 (j:Int)] 3)) wd.heap.size 3 (.int .i64 (j:Int))):=Boxed.new wd _ _
  refine hK.out _ _ (Tn.out.cells) (fun hHeld=>?_)
  clear hK K
  (try simp only [Act.put,lay9])
  clear T V
  have T:=Tn
  have V:=Vn
  clear Tn Vn
  obtain ⟨z2,hz2⟩:∃ z,z = wd.heap.size:=⟨_,rfl⟩
  rw [<- hz2] at C2
  (try rw [<- hz2])
  clear hz2
  generalize wd.alloc (.cells #[.int .i64 (j:Int)] 3) = w1 at *
  refine wpAnyH_ready (rs:=[3,6]) (by kernel_rfl) (by simp) ?_
  refine AllReadyH.cons rfl (fun K hK=>?_) (AllReadyH.cons rfl (fun K hK=>?_) AllReadyH.nil)
  ·skip
   refine step_append_int (by rfl) _ _ (by rfl) va ⟨z2,0,none⟩ (by rfl) (by rfl) T.out.ia C2.out.cell T.out.gr.size HL.out.1 ?_
   intro va2 w2 oa ga ata
   have Tn:Hid (RdI w0 B0 A D Sb s m w2 va va2 (l ++ [j]) (.slice vp vn vc) (.slice vp vn vc) us X):=T.out.app1 oa ga
   have Vn:Hid (Own w0.heap.size w2 (.slice pv nv cv) ys):=V.out.kept ga (row_apart (by decide) V.out.row T.out.ia.row)
   clear oa ga ata
   refine hK.out _ _ (Tn.out.cells) (fun hHeld=>?_)
   clear hK K
   (try simp only [Act.put,lay9])
   clear T V C2
   have T:=Tn
   have V:=Vn
   clear Tn Vn
   refine wpAnyH_ready (rs:=[6]) (by kernel_rfl) (by simp) ?_
   refine AllReadyH.cons rfl (fun K hK=>?_) AllReadyH.nil
   go_simp
   have Tn:Hid (RdI w0 B0 A D Sb s m (w2.alloc (.cells #[.slice pv nv cv] 40)) va va2 (l ++ [j]) (.slice vp vn vc) (.slice vp vn vc) us X):=T.out.keep (World.grownBy_alloc w2 _ none)
   have Vn:Hid (Own w0.heap.size (w2.alloc (.cells #[.slice pv nv cv] 40)) (.slice pv nv cv) ys):=V.out.keep (World.grownBy_alloc w2 _ none)
   have C6:Hid (Boxed (w2.alloc (.cells #[.slice pv nv cv] 40)) w2.heap.size 40 (.slice pv nv cv)):=Boxed.new w2 _ _
   refine hK.out _ _ (Tn.out.cells) (fun hHeld=>?_)
   clear hK K
   (try simp only [Act.put,lay9])
   clear T V
   have T:=Tn
   have V:=Vn
   clear Tn Vn
   obtain ⟨z6,hz6⟩:∃ z,z = w2.heap.size:=⟨_,rfl⟩
   rw [<- hz6] at C6
   (try rw [<- hz6])
   clear hz6
   generalize w2.alloc (.cells #[.slice pv nv cv] 40) = w3 at *
   refine wpAnyH_ready (rs:=[7]) (by kernel_rfl) (by simp) ?_
   refine AllReadyH.cons rfl (fun K hK=>?_) AllReadyH.nil
   refine step_append_row (by rfl) _ _ (by rfl) (.slice vp vn vc) ⟨z6,0,none⟩ (by rfl) (by rfl) T.out.mt.row C6.out.cell rfl T.out.gr.size HL.out.2 ?_
   intro vt2 w4 rt gt att
   have Tn:Hid (RdI w0 B0 A D Sb s m w4 va va2 (l ++ [j]) (.slice vp vn vc) vt2 (us ++ [.slice pv nv cv]) (X ++ [ys])):=T.out.app2 V.out.arr HL.out.2 rt gt
   clear rt gt att
   refine hK.out _ _ (Tn.out.cells) (fun hHeld=>?_)
   clear hK K
   (try simp only [Act.put,lay9])
   clear T V C6
   have T:=Tn
   clear Tn
   refine wpAnyH_done (by kernel_rfl) ?_ _
   refine lastQ_normal ?_
   obtain ⟨ap,an,ac,rfl,ha2⟩:=T.out.ia.ivec.opened
   obtain ⟨tp,tn,tc,rfl,ht2⟩:=T.out.mt.mat.row.opened
   have kc:=T.out.ba.cell
   have kf:=T.out.ba.frozen
   have hal:an = l.length + 1:=by rw [ha2,SP.ints_len];simp
   have HAL:Hid (an = l.length + 1):=hal
   clear ha2 ht2 hal
   go_wp2
   clear kc kf
   have Tn:Hid (RdI w0 B0 A D Sb s m (w4.setCell ⟨A,0,none⟩ (.slice ap an ac)) (.slice ap an ac) (.slice ap an ac) (l ++ [j]) (.slice vp vn vc) (.slice tp tn tc) (us ++ [.slice pv nv cv]) (X ++ [ys])):=T.out.setA
   clear T
   have T:=Tn
   clear Tn
   generalize w4.setCell ⟨A,0,none⟩ (.slice ap an ac) = w8 at *
   refine lastQ_normal ?_
   have kc:=T.out.bd.cell
   have kf:=T.out.bd.frozen
   go_wp2_with fail
   clear kc kf
   have Tn:Hid (RdI w0 B0 A D Sb s m (w8.setCell ⟨D,0,none⟩ (.slice tp tn tc)) (.slice ap an ac) (.slice ap an ac) (l ++ [j]) (.slice tp tn tc) (.slice tp tn tc) (us ++ [.slice pv nv cv]) (X ++ [ys])):=T.out.setD
   clear T
   have T:=Tn
   clear Tn
   generalize w8.setCell ⟨D,0,none⟩ (.slice tp tn tc) = w9 at *
   have HS9:Hid (∀ w',w9.grownBy w' none -> w'.cell? ⟨A,0,none⟩ = some (.slice ap an ac) /\ w'.cell? ⟨Sb,0,none⟩ = some (ptr s) /\ w'.cell? ⟨s,1,none⟩ = some (.int .i64 (k:Int))):=fun w' g'=>⟨(T.out.keep g').ba.cell,(T.out.keep g').bs.cell,HK.out w' (T.out.keep g').gr⟩
   go_region_held3 (fun w'=>w'.cell? ⟨A,0,none⟩ = some (.slice ap an ac) /\ w'.cell? ⟨Sb,0,none⟩ = some (ptr s) /\ w'.cell? ⟨s,1,none⟩ = some (.int .i64 (k:Int))) (exact HS9.out _ (grown_drewN w9 1)) (fail)
   go_wp2
   go_ret
   exact ⟨by rw [HAL.out,HLL.out];rfl,_,_,_,T.out.keep (grown_drewN w9 1)⟩
  ·skip
   go_simp
   have Tn:Hid (RdI w0 B0 A D Sb s m (w1.alloc (.cells #[.slice pv nv cv] 40)) va va l (.slice vp vn vc) (.slice vp vn vc) us X):=T.out.keep (World.grownBy_alloc w1 _ none)
   have Vn:Hid (Own w0.heap.size (w1.alloc (.cells #[.slice pv nv cv] 40)) (.slice pv nv cv) ys):=V.out.keep (World.grownBy_alloc w1 _ none)
   have C6:Hid (Boxed (w1.alloc (.cells #[.slice pv nv cv] 40)) w1.heap.size 40 (.slice pv nv cv)):=Boxed.new w1 _ _
   have Cn:Hid (Boxed (w1.alloc (.cells #[.slice pv nv cv] 40)) z2 3 (.int .i64 (j:Int))):=C2.out.alloc _
   refine hK.out _ _ (Tn.out.cells) (fun hHeld=>?_)
   clear hK K
   (try simp only [Act.put,lay9])
   clear T V C2
   have T:=Tn
   have V:=Vn
   clear Tn Vn
   have C2:=Cn
   clear Cn
   obtain ⟨z6,hz6⟩:∃ z,z = w1.heap.size:=⟨_,rfl⟩
   rw [<- hz6] at C6
   (try rw [<- hz6])
   clear hz6
   generalize w1.alloc (.cells #[.slice pv nv cv] 40) = w2 at *
   refine wpAnyH_ready (rs:=[3]) (by kernel_rfl) (by simp) ?_
   refine AllReadyH.cons rfl (fun K hK=>?_) AllReadyH.nil
   refine step_append_int (by rfl) _ _ (by rfl) va ⟨z2,0,none⟩ (by rfl) (by rfl) T.out.ia C2.out.cell T.out.gr.size HL.out.1 ?_
   intro va2 w3 oa ga ata
   have Tn:Hid (RdI w0 B0 A D Sb s m w3 va va2 (l ++ [j]) (.slice vp vn vc) (.slice vp vn vc) us X):=T.out.app1 oa ga
   have Vn:Hid (Own w0.heap.size w3 (.slice pv nv cv) ys):=V.out.kept ga (row_apart (by decide) V.out.row T.out.ia.row)
   have Cn:Hid (Boxed w3 z6 40 (.slice pv nv cv)):=C6.out.kept ga (C6.out.not_row (by decide) T.out.ia.row)
   clear oa ga ata
   refine hK.out _ _ (Tn.out.cells) (fun hHeld=>?_)
   clear hK K
   (try simp only [Act.put,lay9])
   clear T V C2 C6
   have T:=Tn
   have V:=Vn
   clear Tn Vn
   have C6:=Cn
   clear Cn
   refine wpAnyH_ready (rs:=[7]) (by kernel_rfl) (by simp) ?_
   refine AllReadyH.cons rfl (fun K hK=>?_) AllReadyH.nil
   refine step_append_row (by rfl) _ _ (by rfl) (.slice vp vn vc) ⟨z6,0,none⟩ (by rfl) (by rfl) T.out.mt.row C6.out.cell rfl T.out.gr.size HL.out.2 ?_
   intro vt2 w4 rt gt att
   have Tn:Hid (RdI w0 B0 A D Sb s m w4 va va2 (l ++ [j]) (.slice vp vn vc) vt2 (us ++ [.slice pv nv cv]) (X ++ [ys])):=T.out.app2 V.out.arr HL.out.2 rt gt
   clear rt gt att
   refine hK.out _ _ (Tn.out.cells) (fun hHeld=>?_)
   clear hK K
   (try simp only [Act.put,lay9])
   clear T V C6
   have T:=Tn
   clear Tn
   refine wpAnyH_done (by kernel_rfl) ?_ _
   refine lastQ_normal ?_
   obtain ⟨ap,an,ac,rfl,ha2⟩:=T.out.ia.ivec.opened
   obtain ⟨tp,tn,tc,rfl,ht2⟩:=T.out.mt.mat.row.opened
   have kc:=T.out.ba.cell
   have kf:=T.out.ba.frozen
   have hal:an = l.length + 1:=by rw [ha2,SP.ints_len];simp
   have HAL:Hid (an = l.length + 1):=hal
   clear ha2 ht2 hal
   go_wp2
   clear kc kf
   have Tn:Hid (RdI w0 B0 A D Sb s m (w4.setCell ⟨A,0,none⟩ (.slice ap an ac)) (.slice ap an ac) (.slice ap an ac) (l ++ [j]) (.slice vp vn vc) (.slice tp tn tc) (us ++ [.slice pv nv cv]) (X ++ [ys])):=T.out.setA
   clear T
   have T:=Tn
   clear Tn
   generalize w4.setCell ⟨A,0,none⟩ (.slice ap an ac) = w8 at *
   refine lastQ_normal ?_
   have kc:=T.out.bd.cell
   have kf:=T.out.bd.frozen
   go_wp2_with fail
   clear kc kf
   have Tn:Hid (RdI w0 B0 A D Sb s m (w8.setCell ⟨D,0,none⟩ (.slice tp tn tc)) (.slice ap an ac) (.slice ap an ac) (l ++ [j]) (.slice tp tn tc) (.slice tp tn tc) (us ++ [.slice pv nv cv]) (X ++ [ys])):=T.out.setD
   clear T
   have T:=Tn
   clear Tn
   generalize w8.setCell ⟨D,0,none⟩ (.slice tp tn tc) = w9 at *
   have HS9:Hid (∀ w',w9.grownBy w' none -> w'.cell? ⟨A,0,none⟩ = some (.slice ap an ac) /\ w'.cell? ⟨Sb,0,none⟩ = some (ptr s) /\ w'.cell? ⟨s,1,none⟩ = some (.int .i64 (k:Int))):=fun w' g'=>⟨(T.out.keep g').ba.cell,(T.out.keep g').bs.cell,HK.out w' (T.out.keep g').gr⟩
   go_region_held3 (fun w'=>w'.cell? ⟨A,0,none⟩ = some (.slice ap an ac) /\ w'.cell? ⟨Sb,0,none⟩ = some (ptr s) /\ w'.cell? ⟨s,1,none⟩ = some (.int .i64 (k:Int))) (exact HS9.out _ (grown_drewN w9 1)) (fail)
   go_wp2
   go_ret
   exact ⟨by rw [HAL.out,HLL.out];rfl,_,_,_,T.out.keep (grown_drewN w9 1)⟩
 ·skip
  go_simp
  have Tn:Hid (RdI w0 B0 A D Sb s m (wd.alloc (.cells #[.slice pv nv cv] 40)) va va l (.slice vp vn vc) (.slice vp vn vc) us X):=T.out.keep (World.grownBy_alloc wd _ none)
  have Vn:Hid (Own w0.heap.size (wd.alloc (.cells #[.slice pv nv cv] 40)) (.slice pv nv cv) ys):=V.out.keep (World.grownBy_alloc wd _ none)
  have C6:Hid (Boxed (wd.alloc (.cells #[.slice pv nv cv] 40)) wd.heap.size 40 (.slice pv nv cv)):=Boxed.new wd _ _
  refine hK.out _ _ (Tn.out.cells) (fun hHeld=>?_)
  clear hK K
  (try simp only [Act.put,lay9])
  clear T V
  have T:=Tn
  have V:=Vn
  clear Tn Vn
  obtain ⟨z6,hz6⟩:∃ z,z = wd.heap.size:=⟨_,rfl⟩
  rw [<- hz6] at C6
  (try rw [<- hz6])
  clear hz6
  generalize wd.alloc (.cells #[.slice pv nv cv] 40) = w1 at *
  refine wpAnyH_ready (rs:=[2]) (by kernel_rfl) (by simp) ?_
  refine AllReadyH.cons rfl (fun K hK=>?_) AllReadyH.nil
  go_simp
  have Tn:Hid (RdI w0 B0 A D Sb s m (w1.alloc (.cells #[.int .i64 (j:Int)] 3)) va va l (.slice vp vn vc) (.slice vp vn vc) us X):=T.out.keep (World.grownBy_alloc w1 _ none)
  have Vn:Hid (Own w0.heap.size (w1.alloc (.cells #[.int .i64 (j:Int)] 3)) (.slice pv nv cv) ys):=V.out.keep (World.grownBy_alloc w1 _ none)
  have C2:Hid (Boxed (w1.alloc (.cells #[.int .i64 (j:Int)] 3)) w1.heap.size 3 (.int .i64 (j:Int))):=Boxed.new w1 _ _
  have Cn:Hid (Boxed (w1.alloc (.cells #[.int .i64 (j:Int)] 3)) z6 40 (.slice pv nv cv)):=C6.out.alloc _
  refine hK.out _ _ (Tn.out.cells) (fun hHeld=>?_)
  clear hK K
  (try simp only [Act.put,lay9])
  clear T V C6
  have T:=Tn
  have V:=Vn
  clear Tn Vn
  have C6:=Cn
  clear Cn
  obtain ⟨z2,hz2⟩:∃ z,z = w1.heap.size:=⟨_,rfl⟩
  rw [<- hz2] at C2
  (try rw [<- hz2])
  clear hz2
  generalize w1.alloc (.cells #[.int .i64 (j:Int)] 3) = w2 at *
  refine wpAnyH_ready (rs:=[3]) (by kernel_rfl) (by simp) ?_
  refine AllReadyH.cons rfl (fun K hK=>?_) AllReadyH.nil
  refine step_append_int (by rfl) _ _ (by rfl) va ⟨z2,0,none⟩ (by rfl) (by rfl) T.out.ia C2.out.cell T.out.gr.size HL.out.1 ?_
  intro va2 w3 oa ga ata
  have Tn:Hid (RdI w0 B0 A D Sb s m w3 va va2 (l ++ [j]) (.slice vp vn vc) (.slice vp vn vc) us X):=T.out.app1 oa ga
  have Vn:Hid (Own w0.heap.size w3 (.slice pv nv cv) ys):=V.out.kept ga (row_apart (by decide) V.out.row T.out.ia.row)
  have Cn:Hid (Boxed w3 z6 40 (.slice pv nv cv)):=C6.out.kept ga (C6.out.not_row (by decide) T.out.ia.row)
  clear oa ga ata
  refine hK.out _ _ (Tn.out.cells) (fun hHeld=>?_)
  clear hK K
  (try simp only [Act.put,lay9])
  clear T V C2 C6
  have T:=Tn
  have V:=Vn
  clear Tn Vn
  have C6:=Cn
  clear Cn
  refine wpAnyH_ready (rs:=[7]) (by kernel_rfl) (by simp) ?_
  refine AllReadyH.cons rfl (fun K hK=>?_) AllReadyH.nil
  refine step_append_row (by rfl) _ _ (by rfl) (.slice vp vn vc) ⟨z6,0,none⟩ (by rfl) (by rfl) T.out.mt.row C6.out.cell rfl T.out.gr.size HL.out.2 ?_
  intro vt2 w4 rt gt att
  have Tn:Hid (RdI w0 B0 A D Sb s m w4 va va2 (l ++ [j]) (.slice vp vn vc) vt2 (us ++ [.slice pv nv cv]) (X ++ [ys])):=T.out.app2 V.out.arr HL.out.2 rt gt
  clear rt gt att
  refine hK.out _ _ (Tn.out.cells) (fun hHeld=>?_)
  clear hK K
  (try simp only [Act.put,lay9])
  clear T V C6
  have T:=Tn
  clear Tn
  refine wpAnyH_done (by kernel_rfl) ?_ _
  refine lastQ_normal ?_
  obtain ⟨ap,an,ac,rfl,ha2⟩:=T.out.ia.ivec.opened
  obtain ⟨tp,tn,tc,rfl,ht2⟩:=T.out.mt.mat.row.opened
  have kc:=T.out.ba.cell
  have kf:=T.out.ba.frozen
  have hal:an = l.length + 1:=by rw [ha2,SP.ints_len];simp
  have HAL:Hid (an = l.length + 1):=hal
  clear ha2 ht2 hal
  go_wp2
  clear kc kf
  have Tn:Hid (RdI w0 B0 A D Sb s m (w4.setCell ⟨A,0,none⟩ (.slice ap an ac)) (.slice ap an ac) (.slice ap an ac) (l ++ [j]) (.slice vp vn vc) (.slice tp tn tc) (us ++ [.slice pv nv cv]) (X ++ [ys])):=T.out.setA
  clear T
  have T:=Tn
  clear Tn
  generalize w4.setCell ⟨A,0,none⟩ (.slice ap an ac) = w8 at *
  refine lastQ_normal ?_
  have kc:=T.out.bd.cell
  have kf:=T.out.bd.frozen
  go_wp2_with fail
  clear kc kf
  have Tn:Hid (RdI w0 B0 A D Sb s m (w8.setCell ⟨D,0,none⟩ (.slice tp tn tc)) (.slice ap an ac) (.slice ap an ac) (l ++ [j]) (.slice tp tn tc) (.slice tp tn tc) (us ++ [.slice pv nv cv]) (X ++ [ys])):=T.out.setD
  clear T
  have T:=Tn
  clear Tn
  generalize w8.setCell ⟨D,0,none⟩ (.slice tp tn tc) = w9 at *
  have HS9:Hid (∀ w',w9.grownBy w' none -> w'.cell? ⟨A,0,none⟩ = some (.slice ap an ac) /\ w'.cell? ⟨Sb,0,none⟩ = some (ptr s) /\ w'.cell? ⟨s,1,none⟩ = some (.int .i64 (k:Int))):=fun w' g'=>⟨(T.out.keep g').ba.cell,(T.out.keep g').bs.cell,HK.out w' (T.out.keep g').gr⟩
  go_region_held3 (fun w'=>w'.cell? ⟨A,0,none⟩ = some (.slice ap an ac) /\ w'.cell? ⟨Sb,0,none⟩ = some (ptr s) /\ w'.cell? ⟨s,1,none⟩ = some (.int .i64 (k:Int))) (exact HS9.out _ (grown_drewN w9 1)) (fail)
  go_wp2
  go_ret
  exact ⟨by rw [HAL.out,HLL.out];rfl,_,_,_,T.out.keep (grown_drewN w9 1)⟩
end
theorem Tryz.underI:Tryz.prog.underlying 3 = some (.int .i64):=by kernel_rfl
theorem run_zeros (w:World) {n:Nat} (h0:0 < n) (hn:n <= 1000000) (ty:TypeId):∃ w' C,(Builtin.append_ #[40,3] ty #[.slice none 0 0,.int .i64 (n:Int)]).run Tryz.prog w = .ok (.slice (some ⟨w.heap.size,0,none⟩) n C) w' /\ Own w.heap.size w' (.slice (some ⟨w.heap.size,0,none⟩) 0 C) [] /\ w.grownBy w' none /\ n <= C:=by
 obtain ⟨i0,hi,hz0,hz1,hz2⟩:=info_parts Tryz.info5
 have hr:=Lib.run_append_nil_zeros (P:=Tryz.prog) w 40 3 ty 5 i0 (.int .u8 0) .i64 .i64 Tryz.underlying40 Tryz.underI hi hz0 n h0 (by rw [hz1];decide) (by omega) (by rw [hz2];omega)
 have h1:=grownCap_ge w n 0 5
 have h2:=grownCap_le_maxLen w n 0 5 (by unfold maxLen;omega)
 refine ⟨_,_,hr,⟨by simp,by simp,⟨by simp,.inr ⟨w.heap.size,_,_,rfl,Nat.le_refl _,heap_alloc_new w.drew _,Nat.zero_le _,h2,?_,by simp⟩⟩⟩,gb_alloc (gb_drew (World.grownBy.refl _ _)) _,h1⟩
 simp [Builtin.zeroCells,Value.cells]
 omega
set_option maxHeartbeats 1600000 in
theorem grow_none (w:World) {n:Nat} (h0:0 < n) (hn:n <= 1000000):Calls Tryz.prog 108 #[.slice none 0 0,.int .i64 (n:Int)] w fun e w'=>∃ v,e = .returned v /\ Own w.heap.size w' v [] /\ w.grownBy w' none:=by
 have i1:¬ (n:Int) < 0:=by omega
 have i2:(0:Int) < (n:Int):=by omega
 have i3:IntKind.i64.wrap (n:Int) = (n:Int):=IntWalk.i64_in _ (by omega)
 have HR:Hid (∀ ty,∃ w' C,(Builtin.append_ #[40,3] ty #[.slice none 0 0,.int .i64 (n:Int)]).run Tryz.prog w = .ok (.slice (some ⟨w.heap.size,0,none⟩) n C) w' /\ Own w.heap.size w' (.slice (some ⟨w.heap.size,0,none⟩) 0 C) [] /\ w.grownBy w' none /\ n <= C):=fun ty=>run_zeros w h0 hn ty
 clear h0 hn
 go_enter Tryz.func108,Tryz.ntmps108
 go_wp2_with (at_builtin;obtain ⟨w1,C,hr,ho,hg,hC⟩:=HR.out _;refine Lib.wpList_append_run _ rfl _ _ _ _ rfl _ _ rfl rfl _ _ hr ?_;have O1:Hid (Own w.heap.size w1 (.slice (some ⟨w.heap.size,0,none⟩) 0 C) []):=ho;have G1:Hid (w.grownBy w1 none):=hg;have hC0:¬ C = 0:=(by omega);clear hr ho hg hC)
 go_ret
 exact ⟨_,rfl,O1.out,G1.out⟩
theorem take_flat {X:List (List Nat)} {j:Nat} (h:j < X.length):(X.take (j + 1)).flatten = (X.take j).flatten ++ X.getD j []:=by
 rw [List.take_succ_eq_append_getElem h,List.flatten_append]
 simp [List.getD,h]
theorem flat_len {X:List (List Nat)} (h:∀ j,j < X.length -> (X.getD j []).length = 448):∀ j,j <= X.length -> ((X.take j).flatten).length = 448 * j
 | 0,_=>by simp
 | j + 1,hj=>by
   rw [take_flat (by omega),List.length_append,flat_len h j (by omega),h j (by omega)]
   omega
set_option maxHeartbeats 3200000 in
theorem concat_yes {w:World} {r:Value} {us:List Value} {X:List (List Nat)} (mr:Mat w r us X) (h1:1 <= X.length) (h2:X.length <= 255) (hl:∀ j,j < X.length -> (X.getD j []).length = 448) :
 Calls Tryz.prog 58 #[r] w fun e w'=>∃ v,e = .returned v /\ Own w.heap.size w' v X.flatten /\ w.grownBy w' none:=by
 obtain ⟨q,N,cap,rfl,hN⟩:=mr.row.opened
 have hs:=mr.same
 have hNl:N <= 255:=by omega
 have MR:Hid (Mat w (.slice q N cap) us X):=mr
 have HN:Hid (N = us.length /\ N = X.length /\ 1 <= N /\ N <= 255 /\ ∀ j,j < X.length -> (X.getD j []).length = 448):=⟨hN,by omega,by omega,by omega,hl⟩
 clear mr hN hs h1 h2 hl
 go_enter Tryz.func58,Tryz.ntmps58
 go_wp2_with fail
 go_loopw [3,11] (fun ts ti wr=>∃ j:Nat,j <= N /\ ts = .int .i64 ((448 * j:Nat):Int) /\ ti = .int .i64 j /\ Hid (w.grownBy wr none)) (fun _ ti _=>N - (intOf ti).toNat)
 case atStart=>exact ⟨0,by omega,rfl,rfl,World.grownBy.refl _ _⟩
 case round =>
  obtain ⟨j,hj,rfl,rfl,GK⟩:=hrel
  by_cases hlt:j < N
  ·have i3:(j:Int) < (N:Int):=by omega
   have i4:(0:Int) <= (j:Int):=by omega
   obtain ⟨b,off,rfl,hr⟩:=(MR.out.keep GK.out).row.spot (k:=j) (by have:=HN.out;omega)
   obtain ⟨pk,nk,ck,ek,hnk⟩:=((MR.out.keep GK.out).vec j (by have:=HN.out;omega)).opened
   have hn448:nk = 448:=by rw [hnk];exact HN.out.2.2.2.2 j (by have:=HN.out;omega)
   subst hn448
   rw [ek] at hr
   have hw:IntKind.i64.wrap (((448 * j:Nat):Int) + 448) = ((448 * (j + 1):Nat):Int):=by
    have e:((448 * j:Nat):Int) + 448 = ((448 * (j + 1):Nat):Int):=by omega
    rw [e]
    exact IntWalk.i64_in _ (by omega)
   obtain ⟨t,ht⟩:∃ t,t = 448 * (j + 1):=⟨_,rfl⟩
   rw [<- ht] at hw
   have i5:¬ (t:Int) < 0:=by omega
   have HT:Hid (t = 448 * (j + 1)):=ht
   obtain ⟨t0,ht0⟩:∃ t0,t0 = 448 * j:=⟨_,rfl⟩
   rw [<- ht0] at hw ⊢
   clear ek hnk ht ht0
   go_wp2
   go_roundw
   case rel=>exact ⟨j + 1,by omega,by rw [HT.out],by go_num,GK⟩
   case measure=>simp [intOf];omega
  ·have i3:¬ (j:Int) < (N:Int):=by omega
   have hjN:j = N:=by omega
   obtain ⟨t,ht⟩:∃ t,t = 448 * j:=⟨_,rfl⟩
   rw [<- ht]
   have GR:Hid (Calls Tryz.prog 108 #[.slice none 0 0,.int .i64 (t:Int)] wr fun e w'=>∃ v,e = .returned v /\ Own wr.heap.size w' v [] /\ wr.grownBy w' none):=grow_none wr (by have:=HN.out;omega) (by have:=HN.out;omega)
   clear ht hjN
   go_wp2_with (first
    | (go_at_call 108;refine GR.out.mono ?_;rintro e w1 ⟨v,rfl,o1,g1⟩;have O1:Hid (Own w.heap.size w1 v []):=o1.down GK.out.size;have G1:Hid (w.grownBy w1 none):=grown_trans GK.out g1;clear o1 g1)
    | fail)
   clear GR GK
   go_loopw [6,27] (fun tv ti wr=>∃ j:Nat,j <= N /\ ti = .int .i64 j /\ Hid (Own w.heap.size wr tv (X.take j).flatten) /\ Hid (w.grownBy wr none)) (fun _ ti _=>N - (intOf ti).toNat)
   case atStart=>exact ⟨0,by omega,rfl,O1,G1⟩
   case round =>
    clear O1 G1
    obtain ⟨k,hk,rfl,OK,GK⟩:=hrel
    by_cases hlt2:k < N
    ·have i6:(k:Int) < (N:Int):=by omega
     have i7:(0:Int) <= (k:Int):=by omega
     obtain ⟨b,off,rfl,hr⟩:=(MR.out.keep GK.out).row.spot (k:=k) (by have:=HN.out;omega)
     obtain ⟨pk,nk,ck,ek,hnk⟩:=((MR.out.keep GK.out).vec k (by have:=HN.out;omega)).opened
     have VX:Hid (Vec wr (.slice pk nk ck) (X.getD k [])):=by rw [<- ek];exact (MR.out.keep GK.out).vec k (by have:=HN.out;omega)
     rw [ek] at hr
     have HL:Hid ((X.take k).flatten.length + (X.getD k []).length <= 140737488351232):=by
      show _ <= _
      rw [flat_len HN.out.2.2.2.2 k (by have:=HN.out;omega),HN.out.2.2.2.2 k (by have:=HN.out;omega)]
      have:=HN.out
      omega
     have HF:Hid ((X.take (k + 1)).flatten = (X.take k).flatten ++ X.getD k []):=take_flat (by have:=HN.out;omega)
     obtain ⟨dp,dn,dc,rfl,hd0⟩:=OK.out.vec.opened
     clear ek hnk hd0
     generalize (X.take k).flatten = FX at *
     generalize X.getD k [] = XK at *
     go_wp2_with (at_builtin;refine wpList_append_vec rfl _ _ rfl _ _ rfl rfl OK.out VX.out GK.out.size HL.out ?_;intro v2 w2 o2 g2;have O2:Hid (Own w.heap.size w2 v2 (FX ++ XK)):=o2;have G2:Hid (w.grownBy w2 none):=grown_new GK.out g2 (fun i e=>OK.out.lo i e);clear o2 g2)
     go_roundw
     case rel=>exact ⟨k + 1,by omega,by go_num,by rw [HF.out];exact O2,G2⟩
     case measure=>simp [intOf];omega
    ·have i6:¬ (k:Int) < (N:Int):=by omega
     have HX:Hid ((X.take k).flatten = X.flatten):=by
      show _ = _
      rw [List.take_of_length_le (by have:=HN.out;omega)]
     go_wp2
     go_ret
     exact ⟨_,rfl,by rw [<- HX.out];exact OK.out,GK.out⟩
structure RdS (w0 w:World) (va vt:Value) (l:List Nat) (us:List Value) (X:List (List Nat)):Prop where
 ia:IOwn w0.heap.size w va (SP.ints l)
 mt:RMat 5 w0.heap.size w vt us X
 gr:w0.grownBy w none
section
variable {w0 w w':World} {va vt:Value} {l:List Nat} {us:List Value} {X:List (List Nat)}
theorem RdS.keep (h:RdS w0 w va vt l us X) (g:w.grownBy w' none):RdS w0 w' va vt l us X:=⟨h.ia.keep g,h.mt.keep g,grown_trans h.gr g⟩
theorem RdS.app1 (h:RdS w0 w va vt l us X) {v2:Value} {j:Nat} (o:IOwn w0.heap.size w' v2 (SP.ints l ++ [(j:Int)])) (g:w.grownBy w' va.ownBlock):RdS w0 w' v2 vt (l ++ [j]) us X :=
 ⟨by rw [SP.ints_app];exact o,h.mt.rowed h.ia.row (by decide) (by decide) g,grown_new h.gr g (fun i e=>h.ia.lo i e)⟩
theorem RdS.app2 (h:RdS w0 w va vt l us X) {v2 v:Value} {ys:List Nat} (hu:Arr 5 w0.heap.size w v ys) (hl:(us.length + 1) * 24 <= 140737488351232) (hr:w'.ownsRow w0.heap.size 40 1 v2 (us.length + 1) (us ++ [v])) (g:w.grownBy w' vt.ownBlock):RdS w0 w' va v2 l (us ++ [v]) (X ++ [ys]) :=
 ⟨h.ia.kept g (row_apart (by decide) h.ia.row h.mt.row),h.mt.more (by decide) hu hl hr g,grown_new h.gr g (fun i e=>h.mt.lo i e)⟩
end
section
variable {G G':Nat -> Prop} {w w':World} {t r:Nat} {g:SP.Geo} {R R':AM.Raw}
def RdOut (w:World) (R:AM.Raw) (g:SP.Geo) (slot:Int) (m:Nat) (e:Ending) (w':World):Prop:=∃ v er out,e = .returned (.tuple #[v,.int .i64 ((er:Nat):Int)]) /\ SP.RdR R g slot m out er /\ Own w.heap.size w' v out /\ w.grownBy w' none
theorem rdOut_mk {w w':World} {R:AM.Raw} {g:SP.Geo} {slot:Int} {m:Nat} {v:Value} {er:Nat} {c:Int} {out:List Nat} (hc:c = (er:Int)) (h1:SP.RdR R g slot m out er) (h2:Own w.heap.size w' v out) (h3:w.grownBy w' none):RdOut w R g slot m (.returned (.tuple #[v,.int .i64 c])) w':=⟨v,er,out,by rw [hc],h1,h2,h3⟩
theorem rsread_err (h:RSI G w t r g R) {slot:Int} {m:Nat} (hy:SP.why R g slot ≠ 0) :
 Calls Tryz.prog 15 #[tptr t,.int .i64 slot,.int .u64 (m:Int)] w fun e w'=>e = .returned (.tuple #[.slice none 0 0,.int .i64 (SP.why R g slot:Int)]) /\ w' = w:=by
 obtain ⟨y,hy1⟩:∃ y,y = SP.why R g slot:=⟨_,rfl⟩
 have HR:Hid (Calls Tryz.prog 50 #[tptr t,.int .i64 0,.int .i64 slot] w fun e w''=>e = .returned (.int .i64 (y:Int)) /\ w'' = w):=rswhy_0 h (by rw [hy1])
 rw [<- hy1] at hy ⊢
 have hne:((y:Int) != 0) = true:=neb_yes (b:=0) hy
 clear h hy hy1
 go_enter Tryz.func15,Tryz.ntmps15
 go_wp2_with (go_at_call 50;refine HR.out.mono ?_;rintro e w9 ⟨rfl,hw9⟩;obtain rfl:=hw9.symm;clear hw9)
 go_ret2
 exact ⟨rfl,rfl⟩
theorem rsread_arg (h:RSI G w t r g R) {slot:Int} (hy:SP.why R g slot = 0) :
 Calls Tryz.prog 15 #[tptr t,.int .i64 slot,.int .u64 0] w fun e w'=>e = .returned (.tuple #[.slice none 0 0,.int .i64 1]) /\ w' = w:=by
 have HR:Hid (Calls Tryz.prog 50 #[tptr t,.int .i64 0,.int .i64 slot] w fun e w''=>e = .returned (.int .i64 0) /\ w'' = w):=rswhy_0 h (by rw [hy];rfl)
 clear h hy
 go_enter Tryz.func15,Tryz.ntmps15
 go_wp2_with (go_at_call 50;refine HR.out.mono ?_;rintro e w9 ⟨rfl,hw9⟩;obtain rfl:=hw9.symm;clear hw9)
 go_ret2
 exact ⟨rfl,rfl⟩
set_option maxHeartbeats 6400000 in
theorem rsread_main (h:RSI G w t r g R) (hL:R.L.length <= 1000000) {slot m:Nat} (hy:SP.why R g (slot:Int) = 0) (hm:m ≠ 0) :
 Calls Tryz.prog 15 #[tptr t,.int .i64 (slot:Int),.int .u64 (m:Int)] w (RdOut w R g (slot:Int) m):=by
 have HR:Hid (Calls Tryz.prog 50 #[tptr t,.int .i64 0,.int .i64 (slot:Int)] w fun e w''=>e = .returned (.int .i64 0) /\ w'' = w):=rswhy_0 h (by rw [hy];rfl)
 obtain ⟨q0,q1,q2⟩:=SP.why_zero hy
 have H:Hid (RSI G w t r g R):=h
 have HS:Hid (∀ w',w.grownBy w' none -> w'.cell? ⟨t,1,none⟩ = some (.int .i64 (g.k:Int)) /\ w'.cell? ⟨t,2,none⟩ = some (.int .i64 (g.n:Int))):=fun w' g'=>⟨(h.keep g').at2,(h.keep g').at3⟩
 have HN:Hid (R.off = false /\ slot < g.s /\ R.L.length <= 1000000):=⟨q0,by omega,hL⟩
 have HY:Hid (SP.why R g (slot:Int) = 0 /\ m ≠ 0 /\ g.Ok R):=⟨hy,hm,h.ok⟩
 have HP:Hid (SP.Pick R g slot (SP.hits R g slot m g.n)):=SP.hits_pick R g slot m
 have hn255:g.n <= 255:=h.ok.n255
 have hne:((m:Int) == 0) = false:=eqb_no (b:=0) hm
 clear h hy hm q0 q1 q2 hL
 go_enter Tryz.func15,Tryz.ntmps15
 go_wp2_with (first | (go_at_call 50;refine HR.out.mono ?_;rintro e w9 ⟨rfl,hw9⟩;obtain rfl:=hw9.symm;clear hw9) | fail)
 clear HR hne
 go_loopw [9,10,11] (fun ta tt ti wr=>∃ j:Nat,j <= g.n /\ ti = .int .i64 (j:Int) /\ Hid (∃ us,RdS w wr ta tt (SP.hits R g slot m j) us (SP.told R g slot (SP.hits R g slot m j)))) (fun _ _ ti _=>g.n - (intOf ti).toNat)
 case atStart=>exact ⟨0,by omega,rfl,[],⟨IOwn.nil _ _,RMat.nil _ _ _,World.grownBy.refl _ _⟩⟩
 case round =>
  obtain ⟨j,hj,rfl,HX⟩:=hrel
  obtain ⟨us,t0⟩:=HX.out
  have T:Hid (RdS w wr u9 u10 (SP.hits R g slot m j) us (SP.told R g slot (SP.hits R g slot m j))):=t0
  clear HX t0
  have c2:=(HS.out _ T.out.gr).2
  by_cases hlt:j < g.n
  ·have i3:(j:Int) < (g.n:Int):=by omega
   have TK:Hid (Calls Tryz.prog 59 #[tptr t,.int .i64 (j:Int),.int .i64 (slot:Int)] wr fun e w'=>∃ p n c,e = .returned (.tuple #[.int .u64 ((SP.numD R g slot j:Nat):Int),.slice p n c,.bool (SP.yesD R g slot j)]) /\ Own wr.heap.size w' (.slice p n c) (SP.datD R g slot j) /\ wr.grownBy w' none):=by
    refine (rstake_any (H.out.keep T.out.gr) HN.out.2.2 HN.out.1 hlt HN.out.2.1).mono ?_
    rintro e w' ⟨u,rfl,o1,g1⟩
    obtain ⟨p,n,c,rfl,_⟩:=o1.vec.opened
    exact ⟨p,n,c,rfl,o1,g1⟩
   have HLL:Hid ((SP.hits R g slot m j).length <= j):=SP.hits_len_le R g slot m j
   have HT1:Hid (SP.has R g slot m j = true -> SP.hits R g slot m (j + 1) = SP.hits R g slot m j ++ [j] /\ SP.told R g slot (SP.hits R g slot m (j + 1)) = SP.told R g slot (SP.hits R g slot m j) ++ [SP.datD R g slot j]):=fun hh=>by
    have e:SP.hits R g slot m (j + 1) = SP.hits R g slot m j ++ [j]:=by rw [SP.hits_succ,hh];rfl
    exact ⟨e,by rw [e,SP.told_app]⟩
   have HT0:Hid (SP.has R g slot m j = false -> SP.hits R g slot m (j + 1) = SP.hits R g slot m j):=fun hh=>by rw [SP.hits_succ,hh];simp
   have HHA:Hid (SP.has R g slot m j = (SP.yesD R g slot j && (SP.numD R g slot j == m))):=rfl
   cases hyes:SP.yesD R g slot j
   ·rw [hyes] at TK HHA
    have HE:Hid (SP.hits R g slot m (j + 1) = SP.hits R g slot m j):=HT0.out (by rw [HHA.out];rfl)
    clear HT0 HT1 HHA hyes
    go_wp2_with (first
     | (go_at_call 59;refine TK.out.mono ?_;rintro e w1 ⟨pu,nu,cu,rfl,ou,gu⟩;have T1:Hid (RdS w w1 u9 u10 (SP.hits R g slot m j) us (SP.told R g slot (SP.hits R g slot m j))):=T.out.keep gu;clear ou gu))
    go_roundw
    case rel=>exact ⟨j + 1,by omega,by go_num,us,by rw [HE.out];exact T1.out⟩
    case measure=>simp [intOf];omega
   ·rw [hyes] at TK HHA
    by_cases he:SP.numD R g slot j = m
    ·have i5:((SP.numD R g slot j:Nat):Int) = (m:Int):=by rw [he]
     have HE:Hid (SP.hits R g slot m (j + 1) = SP.hits R g slot m j ++ [j] /\ SP.told R g slot (SP.hits R g slot m (j + 1)) = SP.told R g slot (SP.hits R g slot m j) ++ [SP.datD R g slot j]):=HT1.out (by rw [HHA.out,he];simp)
     have HL:Hid (((SP.ints (SP.hits R g slot m j)).length + 1) * 8 <= 140737488351232 /\ (us.length + 1) * 24 <= 140737488351232):=⟨by rw [SP.ints_len];have:=HLL.out;omega,by rw [T.out.mt.same,SP.told_len];have:=HLL.out;omega⟩
     have i6:((m:Int) == (m:Int)) = true:=eqb_yes rfl
     rw [he] at TK
     clear HT0 HT1 HHA hyes he i5 HLL
     generalize SP.told R g slot (SP.hits R g slot m j) = XJ at *
     generalize SP.hits R g slot m j = LJ at *
     generalize SP.datD R g slot j = DJ at *
     go_wp2_with (first
      | (go_at_call 59;refine TK.out.mono ?_;rintro e w1 ⟨pu,nu,cu,rfl,ou,gu⟩;have T1:Hid (RdS w w1 u9 u10 LJ us XJ):=T.out.keep gu;have U1:Hid (Own w.heap.size w1 (.slice pu nu cu) DJ):=ou.down T.out.gr.size;have TA:Hid (RdS w (w1.alloc (.cells #[.int .i64 (j:Int)] 3)) u9 u10 LJ us XJ):=T1.out.keep (World.grownBy_alloc w1 _ none);have UA:Hid (Own w.heap.size (w1.alloc (.cells #[.int .i64 (j:Int)] 3)) (.slice pu nu cu) DJ):=U1.out.keep (World.grownBy_alloc w1 _ none);clear ou gu c2)
      | (at_builtin;refine wpList_append_int rfl _ _ rfl _ ⟨w1.heap.size,0,none⟩ rfl rfl TA.out.ia (cell_new1 _ _ rfl) TA.out.gr.size HL.out.1 ?_;intro v2 w2 o2 g2 a2;have T2:Hid (RdS w w2 v2 u10 (LJ ++ [j]) us XJ):=TA.out.app1 o2 g2;have U2:Hid (Own w.heap.size w2 (.slice pu nu cu) DJ):=UA.out.kept g2 (row_apart (by decide) UA.out.row TA.out.ia.row);have TB:Hid (RdS w (w2.alloc (.cells #[.slice pu nu cu] 40)) v2 u10 (LJ ++ [j]) us XJ):=T2.out.keep (World.grownBy_alloc w2 _ none);have UB:Hid (Own w.heap.size (w2.alloc (.cells #[.slice pu nu cu] 40)) (.slice pu nu cu) DJ):=U2.out.keep (World.grownBy_alloc w2 _ none);clear o2 g2 a2)
      | (at_builtin;refine wpList_append_row rfl _ _ rfl _ ⟨w2.heap.size,0,none⟩ rfl rfl TB.out.mt.row (cell_new1 _ _ rfl) rfl TB.out.gr.size HL.out.2 ?_;intro v3 w3 r3 g3 a3;have T3:Hid (RdS w w3 v2 v3 (LJ ++ [j]) (us ++ [.slice pu nu cu]) (XJ ++ [DJ])):=TB.out.app2 UB.out.arr HL.out.2 r3 g3;clear r3 g3 a3))
     go_roundw
     case rel=>exact ⟨j + 1,by omega,by go_num,_,by rw [HE.out.2,HE.out.1];exact T3.out⟩
     case measure=>simp [intOf];omega
    ·have i5:(((SP.numD R g slot j:Nat):Int) == (m:Int)) = false:=eqb_no he
     have HE:Hid (SP.hits R g slot m (j + 1) = SP.hits R g slot m j):=HT0.out (by rw [HHA.out];simp [he])
     clear HT0 HT1 HHA hyes he
     generalize SP.numD R g slot j = Nj at *
     go_wp2_with (first
      | (go_at_call 59;refine TK.out.mono ?_;rintro e w1 ⟨pu,nu,cu,rfl,ou,gu⟩;have T1:Hid (RdS w w1 u9 u10 (SP.hits R g slot m j) us (SP.told R g slot (SP.hits R g slot m j))):=T.out.keep gu;clear ou gu))
     go_roundw
     case rel=>exact ⟨j + 1,by omega,by go_num,us,by rw [HE.out];exact T1.out⟩
     case measure=>simp [intOf];omega
  ·have i3:¬ (j:Int) < (g.n:Int):=by omega
   have hjn:j = g.n:=by omega
   subst hjn
   have c1:=(HS.out _ T.out.gr).1
   obtain ⟨ap,an,ac,e9,ha⟩:=T.out.ia.ivec.opened
   obtain ⟨tp,tn,tc,e10,ht⟩:=T.out.mt.mat.row.opened
   subst e9
   subst e10
   have HAN:Hid (an = (SP.hits R g slot m g.n).length):=by show _ = _;rw [ha,SP.ints_len]
   clear ha ht
   by_cases hk:g.k <= (SP.hits R g slot m g.n).length
   ·have i5:¬ (an:Int) < (g.k:Int):=by have:=HAN.out;omega
    have GD:Hid (w.grownBy (wr.drewN 1) none):=grown_trans T.out.gr (grown_drewN wr 1)
    have DE:Hid (Calls Tryz.prog 60 #[.int .i64 (g.k:Int),.int .i64 (g.n:Int),.slice ap an ac,.slice tp tn tc] (wr.drewN 1) fun e w''=>∃ p n c us' D er,e = .returned (.tuple #[.slice p n c,.int .i64 er]) /\ Mat w'' (.slice p n c) us' D /\ (∀ (i:Nat),i < D.length -> (D.getD i []).length = 448) /\ D.length <= 255 /\ SP.RdR R g (slot:Int) m D.flatten 0 /\ w.grownBy w'' none):=by
     have T6:=T.out.keep (grown_drewN wr 1)
     refine (refDecode_all (k:=(g.k:Int)) (n:=(g.n:Int)) T6.ia.ivec T6.mt.mat).mono ?_
     rintro e w2 ⟨p,n,c,us',D,er,rfl,om,hd,gg⟩
     obtain ⟨_,hs⟩:=SP.DecR.yes hd (HP.out.ok HY.out.2.2) (by rw [SP.ints_len];omega)
     have hk1:=HY.out.2.2.k1
     have hL0:((SP.told R g slot (SP.hits R g slot m g.n)).getD 0 []).length = 448:=HP.out.row (by omega)
     have sh:=hs.1
     rw [hL0,Int.toNat_natCast] at sh
     have hkn:=HY.out.2.2.kn
     refine ⟨p,n,c,us',D,er,rfl,om.mat,fun i hi=>sh.row i (by rw [<- sh.len];exact hi),by rw [sh.len];omega,?_,grown_trans T6.gr gg⟩
     exact .inr (.inr (.inr ⟨HY.out.1,HY.out.2.1,by rw [Int.toNat_natCast];exact hk,rfl,D,er,by rw [Int.toNat_natCast];exact hd,rfl⟩))
    clear T HAN hk HP
    go_wp2_with fail
    clear c1 c2
    go_region_held3 (fun w'=>w'.cell? ⟨t,1,none⟩ = some (.int .i64 (g.k:Int)) /\ w'.cell? ⟨t,2,none⟩ = some (.int .i64 (g.n:Int))) (first | exact HS.out _ GD.out | exact HS.out _ G3.out)
     ((go_at_call 60;refine DE.out.mono ?_;rintro e w3 ⟨p3,n3,c3,us3,D,er,rfl,m3,h448,hD,hR,g3⟩;have M3:Hid (Mat w3 (.slice p3 n3 c3) us3 D):=m3;have HD:Hid ((∀ (i:Nat),i < D.length -> (D.getD i []).length = 448) /\ D.length <= 255 /\ SP.RdR R g (slot:Int) m D.flatten 0):=⟨h448,hD,hR⟩;have G3:Hid (w.grownBy w3 none):=g3;clear m3 g3 h448 hD hR))
    have HNN:Hid (n3 = D.length /\ us3.length = D.length /\ n3 <= 255):=by
     have h1:=M3.out.same
     have h2:=(mat_n M3.out).1
     have h3:=HD.out.2.1
     exact ⟨by omega,by omega,by omega⟩
    have hn3:n3 <= 255:=HNN.out.2.2
    clear DE GD
    go_wp2_with fail
    (try generalize decide ((an:Int) < (g.k:Int)) = dd1 at *)
    (try generalize decide (an < g.k) = dd2 at *)
    go_loopw [17,18] (fun to ti wr=>∃ i:Nat,i <= n3 /\ ti = .int .i64 (i:Int) /\ Hid (Own w3.heap.size wr to (D.take i).flatten) /\ Hid (w3.grownBy wr none)) (fun _ ti _=>n3 - (intOf ti).toNat)
    case atStart=>exact ⟨0,by omega,rfl,by show Own _ _ _ _;simpa using Own.nil _ _,World.grownBy.refl _ _⟩
    case round =>
     obtain ⟨i,hi,rfl,OD,GI⟩:=hrel
     by_cases hlt2:i < n3
     ·have i6:(i:Int) < (n3:Int):=by omega
      have i7:(0:Int) <= (i:Int):=by omega
      obtain ⟨b,off,rfl,hr⟩:=(M3.out.keep GI.out).row.spot (k:=i) (by have:=HNN.out;omega)
      obtain ⟨pk,nk,ck,ek,hnk⟩:=((M3.out.keep GI.out).vec i (by have:=HNN.out;omega)).opened
      rw [ek] at hr
      have VX:Hid (Vec wr (.slice pk nk ck) (D.getD i [])):=by rw [<- ek];exact (M3.out.keep GI.out).vec i (by have:=HNN.out;omega)
      have HF:Hid ((D.take (i + 1)).flatten = (D.take i).flatten ++ D.getD i []):=take_flat (by have:=HNN.out;omega)
      have HLE:Hid ((D.take i).flatten.length + (D.getD i []).length <= 140737488351232):=by
       show _ <= _
       rw [flat_len HD.out.1 i (by have:=HNN.out;omega),HD.out.1 i (by have:=HNN.out;omega)]
       omega
      clear ek hnk
      generalize (D.take i).flatten = PI at *
      generalize D.getD i [] = EI at *
      have OI:Hid (Own w3.heap.size wr u17 PI):=OD.out
      clear OD
      go_wp2_with (at_builtin;refine wpList_append_vec rfl _ _ rfl _ _ rfl rfl OI.out VX.out GI.out.size HLE.out ?_;intro v4 w4 o4 g4;have O4:Hid (Own w3.heap.size w4 v4 (PI ++ EI)):=o4;have G4:Hid (w3.grownBy w4 none):=grown_new GI.out g4 (fun x e=>OI.out.lo x e);clear o4 g4)
      go_roundw
      case rel=>exact ⟨i + 1,by omega,by go_num,by rw [HF.out];exact O4.out,G4⟩
      case measure=>simp [intOf];omega
     ·have i6:¬ (i:Int) < (n3:Int):=by omega
      have HE:Hid ((D.take i).flatten = D.flatten):=by show _ = _;rw [List.take_of_length_le (by have:=HNN.out;omega)]
      have OE:Hid (Own w.heap.size wr u17 D.flatten):=by
       have o:=OD.out
       rw [HE.out] at o
       exact o.down G3.out.size
      clear OD
      go_wp2
      go_ret2
      exact rdOut_mk (er:=0) rfl HD.out.2.2 OE.out (grown_trans G3.out GI.out)
   ·have i5:(an:Int) < (g.k:Int):=by have:=HAN.out;omega
    have HK:Hid ((SP.hits R g slot m g.n).length < g.k):=by show _ < _;omega
    have GT:Hid (w.grownBy wr none):=T.out.gr
    clear T HAN hk
    go_wp2
    go_ret2
    exact rdOut_mk (er:=20) (out:=[]) rfl (.inr (.inr (.inl ⟨HY.out.1,HY.out.2.1,by rw [Int.toNat_natCast];exact HK.out,rfl,rfl⟩))) (Own.nil _ _) GT.out
theorem rsread_all (h:RSI G w t r g R) (hL:R.L.length <= 1000000) (slot:Int) (m:Nat) :
 Calls Tryz.prog 15 #[tptr t,.int .i64 slot,.int .u64 (m:Int)] w (RdOut w R g slot m):=by
 by_cases hy:SP.why R g slot = 0
 ·by_cases hm:m = 0
  ·subst hm
   refine (rsread_arg h hy).mono ?_
   rintro e w' ⟨rfl,rfl⟩
   exact ⟨_,1,[],rfl,.inr (.inl ⟨hy,rfl,rfl,rfl⟩),Own.nil _ _,World.grownBy.refl _ _⟩
  ·obtain ⟨_,q1,_⟩:=SP.why_zero hy
   obtain ⟨n,rfl⟩:∃ n:Nat,slot = (n:Int):=⟨slot.toNat,by omega⟩
   exact rsread_main h hL hy hm
 ·refine (rsread_err h hy).mono ?_
  rintro e w' ⟨rfl,rfl⟩
  exact ⟨_,_,[],rfl,.inl ⟨hy,rfl,rfl⟩,Own.nil _ _,World.grownBy.refl _ _⟩
end
end Go.Proofs.YtfjlpifaaknmpaaGreat
namespace Go.Proofs.YtfjlpifaaknmpaaGreat
open Go.ChangeShapes Go.WideShapes Go.ChangeAt Go.RowKit
structure ActR8 where
 what:Int
 disk:Int
 at_:Int
 mark:Nat
 x:Nat
 bval:Value
 b:List Nat
 short:Bool
def acells8 (c:ActR8):List Value:=[.int .i64 c.what,.int .i64 c.disk,.int .i64 c.at_,.int .u64 (c.mark:Int),.int .u8 (c.x:Int),c.bval,.bool c.short]
def I648 (n:Int):Prop:=-9223372036854775808 <= n /\ n <= 9223372036854775807
theorem i64_wf8 {n:Int} (h:(Lit.int .i64 n).wf = true):I648 n:=by
 have:-9223372036854775808 <= n /\ n <= 9223372036854775807:=by simpa [Lit.wf,IntKind.min,IntKind.max,IntKind.signed,IntKind.bits] using h
 exact this
structure ActOk8 (w:World) (c:ActR8):Prop where
 what:I648 c.what
 disk:I648 c.disk
 at_:I648 c.at_
 mark:c.mark < 18446744073709551616
 x:c.x < 256
 vec:Vec w c.bval c.b
structure Acts8 (w:World) (v:Value) (l:List ActR8):Prop where
 len:l.length <= 140737488351232
 form:∃ p cap,v = .slice p l.length cap /\ (l ≠ [] -> ∃ b off,p = some ⟨b,off,none⟩ /\ ∀ (i:Nat) (c:ActR8),l[i]? = some c -> w.rangeAt b (off + i * 7) (acells8 c))
 ok:∀ c ∈ l,ActOk8 w c
theorem ActOk8.keep {w w':World} {c:ActR8} (h:ActOk8 w c) (g:w.grownBy w' none):ActOk8 w' c:=⟨h.what,h.disk,h.at_,h.mark,h.x,h.vec.keep g⟩
theorem Acts8.keep {w w':World} {v:Value} {l:List ActR8} (h:Acts8 w v l) (g:w.grownBy w' none):Acts8 w' v l:=by
 refine ⟨h.len,?_,fun c hc=>(h.ok c hc).keep g⟩
 obtain ⟨p,cap,rfl,h2⟩:=h.form
 refine ⟨p,cap,rfl,fun hl=>?_⟩
 obtain ⟨b,off,e,h3⟩:=h2 hl
 exact ⟨b,off,e,fun i c hc j u hj=>g.cell (h3 i c hc j u hj) (by simp)⟩
theorem Acts8.opened {w:World} {v:Value} {l:List ActR8} (h:Acts8 w v l):∃ p n cap,v = .slice p n cap /\ n = l.length:=by
 obtain ⟨p,cap,e,_⟩:=h.form
 exact ⟨p,_,cap,e,rfl⟩
theorem Acts8.at {w:World} {p:Option Addr} {n cap:Nat} {l:List ActR8} (h:Acts8 w (.slice p n cap) l) {i:Nat} (hi:i < l.length):∃ b off,p = some ⟨b,off,none⟩ /\ w.rangeAt b (off + i * 7) (acells8 l[i]) /\ ActOk8 w l[i]:=by
 obtain ⟨p',cap',e,h2⟩:=h.form
 injection e with e1 _ _
 subst e1
 obtain ⟨b,off,e,h3⟩:=h2 (fun e=>by subst e;simp at hi)
 exact ⟨b,off,e,h3 i _ (List.getElem?_eq_getElem hi),h.ok _ (List.getElem_mem hi)⟩
theorem Tryz.cellsAct8:Tryz.prog.cellsOf 42 = 7:=by kernel_rfl
theorem Tryz.cellsInt8:Tryz.prog.cellsOf 3 = 1:=by kernel_rfl
theorem u64_wf8 {n:Int} (h:(Lit.int .u64 n).wf = true):0 <= n /\ n < 18446744073709551616:=by
 have:0 <= n /\ n <= 18446744073709551615:=by simpa [Lit.wf,IntKind.min,IntKind.max,IntKind.signed,IntKind.bits] using h
 omega
theorem Tryz.cellsU8:Tryz.prog.cellsOf 39 = 1:=by kernel_rfl
theorem Tryz.cellsBool8:Tryz.prog.cellsOf 4 = 1:=by kernel_rfl
theorem Tryz.bytesAct8:24 <= Tryz.prog.bytesOf 42:=by decide +kernel
section
variable {H:Type} {enc:TypeId × Value -> H}
theorem weights_all8 {P:Program} {t:TypeId}:∀ {l:List (DataW H)} {d:DataW H},d ∈ l -> ∀ n ∈ d.weights P t,n ∈ DataW.weightsAll P t l:=by
 intro l
 induction l with
 | nil=>intro d h;cases h
 | cons x r ih =>
   intro d h n hn
   simp only [DataW.weightsAll,List.mem_append]
   rcases List.mem_cons.1 h with rfl | h
   ·exact .inl hn
   ·exact .inr (ih h n hn)
theorem vec_trod8 {W:World} {v:Value} {y:DataW H × List MemPlace} {fuel:Nat} (hf:DataW.trod enc Tryz.prog W 0 (fun _=>true) true fuel 40 [v] = some y)
 (hz:∀ elems spare,y.1 = .slice elems spare -> (elems.length + spare.length) * Tryz.prog.bytesOf 5 <= reachBytes):∃ xs,Vec W v xs:=by
 rcases open_ints Tryz.underlying40 Tryz.underlying5 Tryz.cells5 hf with ⟨hcs,_⟩ | ⟨x,l,c,zs,hcs,_,hl,hm,hzz,hx,hcell,hwz⟩
 ·simp at hcs
  subst hcs
  exact ⟨[],by simp,by simp,none,0,rfl,Nat.le_refl _,by decide,fun h=>absurd rfl h⟩
 ·simp at hcs
  subst hcs
  simp only [if_true] at hzz
  have hb:=hz _ _ (by rw [hx])
  rw [Tryz.bytes5] at hb
  simp only [lits,List.length_map,List.length_take,List.length_drop,reachBytes] at hb
  refine ⟨_,vec_of (zs:=zs) hl hm (by omega) (by omega) hwz (by simp) (fun a ha c hc=>?_)⟩
  cases ha
  exact hcell c (by omega)
theorem act_trod8 {W:World} {cs:List Value} {y:DataW H × List MemPlace} {fuel:Nat} (hf:DataW.trod enc Tryz.prog W 0 (fun _=>true) true fuel 42 cs = some y)
 (hz:∀ n ∈ y.1.weights Tryz.prog 42,n <= reachBytes):∃ c:ActR8,cs = acells8 c /\ ActOk8 W c:=by
 obtain ⟨q,n,_,hx,hl,hlen,hff⟩:=DataW.trod_struct Tryz.underlying42 hf
 have h8:=hl.trans Tryz.cellsAct8
 match cs,h8 with
 | [c0,c1,c2,c3,c4,c5,c6],_ =>
 match q,hlen with
 | [y0,y1,y2,y3,y4,y5,y6],_ =>
 have t0:=hff 0 _ rfl
 have t1:=hff 1 _ rfl
 have t2:=hff 2 _ rfl
 have t3:=hff 3 _ rfl
 have t4:=hff 4 _ rfl
 have t5:=hff 5 _ rfl
 have t6:=hff 6 _ rfl
 simp [Tryz.cellsInt8] at t0 t1 t2
 simp [Tryz.cellsU8] at t3
 simp [Tryz.cells5] at t4
 simp [Tryz.cells22] at t5
 simp [Tryz.cellsBool8] at t6
 subst hx
 simp [DataW.weights,Tryz.underlying42,DataW.weightsEach] at hz
 obtain ⟨A,e0,_,w0⟩:=DataW.trod_int Tryz.underlying3 t0
 obtain ⟨B,e1,_,w1⟩:=DataW.trod_int Tryz.underlying3 t1
 obtain ⟨C,e2,_,w2⟩:=DataW.trod_int Tryz.underlying3 t2
 obtain ⟨M,e3,_,w3⟩:=DataW.trod_int Tryz.underlying39 t3
 obtain ⟨X,e4,_,w4⟩:=DataW.trod_int Tryz.underlying5 t4
 obtain ⟨S,e6,_⟩:=DataW.trod_bool Tryz.underlying4 t6
 simp at e0 e1 e2 e3 e4 e6
 subst e0 e1 e2 e3 e4 e6
 have b3:=u64_wf8 w3
 have b4:=byte_wf w4
 obtain ⟨M,rfl⟩:=Int.eq_ofNat_of_zero_le b3.1
 obtain ⟨X,rfl⟩:=Int.eq_ofNat_of_zero_le b4.1
 have key:∀ {y:DataW H × List MemPlace},(∀ n ∈ y.1.weights Tryz.prog 40,n <= reachBytes) -> ∀ elems spare,y.1 = .slice elems spare -> (elems.length + spare.length) * Tryz.prog.bytesOf 5 <= reachBytes:=fun hw elems spare e=>hw _ (by rw [e];simp [DataW.weights,Tryz.underlying40])
 obtain ⟨xs,vx⟩:=vec_trod8 t5 (key fun n hn=>hz n (by simp [hn]))
 exact ⟨⟨A,B,C,M,X,c5,xs,S⟩,rfl,i64_wf8 w0,i64_wf8 w1,i64_wf8 w2,by show M < 18446744073709551616;omega,by show X < 256;omega,vx⟩
theorem acts_trod8 {W:World} {v:Value} {y:DataW H × List MemPlace} {fuel:Nat} (hf:DataW.trod enc Tryz.prog W 0 (fun _=>true) true fuel 22 [v] = some y)
 (hz:∀ n ∈ y.1.weights Tryz.prog 22,n <= reachBytes):∃ l,Acts8 W v l:=by
 rcases Deep.open_slice Tryz.underlying22 hf with ⟨hcs,_⟩ | ⟨x,len,cap,m,n,D,Pl,hcs,_,hl,hm,hmm,hx,hrow⟩
 ·simp at hcs
  subst hcs
  exact ⟨[],by simp,⟨none,0,rfl,fun h=>absurd rfl h⟩,by simp⟩
 ·simp at hcs
  subst hcs
  simp only [if_true] at hmm
  subst hmm
  have hx1:=congrArg Prod.fst hx
  simp only at hx1
  rw [hx1] at hz
  simp only [DataW.weights,Tryz.underlying22,List.mem_cons,List.mem_append] at hz
  have hout:=hz _ (.inl rfl)
  have h24:=Tryz.bytesAct8
  simp only [List.length_map,List.length_range,reachBytes] at hout
  have hlen:len * 24 <= 140737488355328:=by
   have h1:len * 24 <= (len + (m - len)) * Tryz.prog.bytesOf 42:=Nat.mul_le_mul (by omega) h24
   omega
  rw [Tryz.cellsAct8] at hrow
  have hex:∀ i,i < len -> ∃ c:ActR8,W.cells? 0 (x.add (i * 7)) 7 = some (acells8 c) /\ ActOk8 W c:=fun i hi=>by
   obtain ⟨cs',h1,h2⟩:=hrow i (by omega)
   obtain ⟨c,e,hc⟩:=act_trod8 h2 (fun n hn=>hz n (.inr (.inl (weights_all8 (d:=D i) (List.mem_map.2 ⟨i,List.mem_range.2 hi,rfl⟩) n hn))))
   exact ⟨c,by rw [h1,e],hc⟩
  have hin:Inhabited ActR8:=⟨⟨0,0,0,0,0,.slice none 0 0,[],false⟩⟩
  obtain ⟨C,hC⟩:=Deep.choose_lt (α:=ActR8) (p:=fun i c=>W.cells? 0 (x.add (i * 7)) 7 = some (acells8 c) /\ ActOk8 W c) hex
  refine ⟨(List.range len).map C,by simp;omega,⟨some x,m,by simp,fun hne=>?_⟩,fun c hc=>?_⟩
  ·have hpos:0 < len:=by
    rcases Nat.eq_zero_or_pos len with h | h
    ·subst h;simp at hne
    ·exact h
   obtain ⟨b,off,spot⟩:=x
   obtain ⟨_,_,hc0⟩:=World.cells?_some (hC 0 hpos).1
   have h0:=(hc0 0 (by decide)).trans (show (acells8 (C 0))[0]? = some (.int .i64 (C 0).what) from rfl)
   have hspot:spot = none:=by simpa [Addr.add] using World.cell?_spot h0
   subst hspot
   refine ⟨b,off,rfl,fun i c hc j u hj=>?_⟩
   obtain ⟨hi,hci⟩:=List.getElem?_eq_some_iff.1 hc
   simp only [List.length_map,List.length_range] at hi
   simp only [List.getElem_map,List.getElem_range] at hci
   subst hci
   have hj6:j < 7:=(List.getElem?_eq_some_iff.1 hj).1
   obtain ⟨_,_,hcell⟩:=World.cells?_some (hC i hi).1
   have:=hcell j hj6
   rw [add_off,add_off,hj] at this
   exact this
  ·obtain ⟨i,hi,rfl⟩:=List.mem_map.1 hc
   exact (hC i (List.mem_range.1 hi)).2
theorem Tryz.cellsPlays8:Tryz.prog.cellsOf 24 = 4:=by kernel_rfl
theorem Tryz.cellsActs8:Tryz.prog.cellsOf 22 = 1:=by kernel_rfl
theorem plays_arg8 {W:World} {v:Value} {d:DataW H} {p:List MemPlace} {base:Nat} (hv:Value.okWide Tryz.prog W .any base 24 v) (h:DataW.Trod enc Tryz.prog W 0 (fun _=>true) true 24 v d p)
 (hz:∀ n ∈ d.weights Tryz.prog 24,n <= reachBytes) :
 ∃ (K M S:Int) (x:Value) (l:List ActR8),v = .agg #[.int .i64 K,.int .i64 M,.int .i64 S,x] /\ Acts8 W x l:=by
 have hv0:=hv
 obtain ⟨cs,rfl,hsz⟩:=okWide_struct Tryz.underlying24 hv
 have h8:=hsz.trans Tryz.cellsPlays8
 obtain ⟨l⟩:=cs
 obtain ⟨fuel,hf⟩:=h
 obtain ⟨q,n,_,hx,hl,hlen,hff⟩:=DataW.trod_struct Tryz.underlying24 hf
 match l,h8 with
 | [c0,c1,c2,c3],_ =>
 match q,hlen with
 | [y0,y1,y2,y3],_ =>
 have t0:=hff 0 _ rfl
 have t1:=hff 1 _ rfl
 have t2:=hff 2 _ rfl
 have t3:=hff 3 _ rfl
 simp [Value.cells,Tryz.cellsInt8] at t0 t1 t2
 simp [Value.cells,Tryz.cellsActs8] at t3
 simp at hx
 obtain ⟨rfl,rfl⟩:=hx
 simp [DataW.weights,Tryz.underlying24,DataW.weightsEach] at hz
 obtain ⟨K,e0,_,w0⟩:=DataW.trod_int Tryz.underlying3 t0
 obtain ⟨M,e1,_,w1⟩:=DataW.trod_int Tryz.underlying3 t1
 obtain ⟨S,e2,_,w2⟩:=DataW.trod_int Tryz.underlying3 t2
 simp at e0 e1 e2
 subst e0 e1 e2
 obtain ⟨l,hl⟩:=acts_trod8 t3 (fun n hn=>hz n (by simp [hn]))
 exact ⟨K,M,S,_,l,rfl,hl⟩
end
end Go.Proofs.YtfjlpifaaknmpaaGreat
