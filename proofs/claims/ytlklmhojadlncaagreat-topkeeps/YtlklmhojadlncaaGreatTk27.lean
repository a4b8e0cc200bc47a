/- Packed: TPl9. -/
import Derived.Test.YtlklmhojadlncaaGreatTk25
set_option linter.unusedSimpArgs false
set_option linter.unusedVariables false
set_option maxRecDepth 100000
namespace Go.Proofs.YtlklmhojadlncaaGreat
namespace SP
def news (g:Geo) (st:List Nat) (xss:List (List Nat)) (d q:Nat):List Nat:=chk g (st.getD (q / 8) 0) (xss.getD (q / 8) []) d (q % 8)
theorem news_at (g:Geo) (st:List Nat) (xss:List (List Nat)) (d:Nat) {slot i:Nat} (hf:g.f=0) (hi:i < 8):news g st xss d (g.f+8 * slot+i)=chk g (st.getD slot 0) (xss.getD slot []) d i:=by
 unfold news
 rw[hf,show (0+8 * slot+i) / 8=slot by omega,show (0+8 * slot+i) % 8=i by omega]
theorem news_small (g:Geo) (st:List Nat) (xss:List (List Nat)):∀ d q,∀ x ∈ news g st xss d q,x < 256:=fun d q=>code_small9 d (q % 8) (Nat.mod_lt _ (by decide))
structure MidQ (C0 C1:List AM.Disk) (new:Nat->Nat->List Nat) (R:AM.Raw):Prop where
 ok:R.Ok
 mix:∀ d q,AM.look R.C d q=AM.look C1 d q\/AM.look R.C d q=new d q
 fly:∀ l ∈ R.L,l.now=new l.d l.k
 undo:AM.undoTo R.C R.L 0=C0
theorem MidQ.start {R:AM.Raw} (ok:R.Ok) (h:R.L=[]) (new:Nat->Nat->List Nat):MidQ R.C R.C new R:=⟨ok,fun _ _=>.inl rfl,by rw[h];simp,by rw[h];simp[AM.undoTo]⟩
theorem MidQ.here {C0 C1:List AM.Disk} {new:Nat->Nat->List Nat} {R:AM.Raw} (h:MidQ C0 C1 new R):MidQ C0 R.C new R:=⟨h.ok,fun _ _=>.inl rfl,h.fly,h.undo⟩
theorem MidQ.through {C0 C1:List AM.Disk} {new:Nat->Nat->List Nat} {R R':AM.Raw} (h:MidQ C0 C1 new R) (k:MidQ C0 R.C new R'):MidQ C0 C1 new R':=⟨k.ok,fun d q=>by
 rcases k.mix d q with e | e
 ·rw[e];exact h.mix d q
 ·exact .inr e,k.fly,k.undo⟩
theorem MidQ.write {C0 C1:List AM.Disk} {new:Nat->Nat->List Nat} {R:AM.Raw} (h:MidQ C0 C1 new R) {d q:Nat} (hs:∀ x ∈ new d q,x < 256):MidQ C0 C1 new (R.writes (d:Int) (q:Int) (new d q)).2:=by
 have ok:=writes_Ok h.ok (d:=d) (k:=q) hs
 by_cases h0:(R.writes (d:Int) (q:Int) (new d q)).1=0
 ·obtain⟨h1,⟨xs,hx⟩,h3,h4,_⟩:=writes_ok h0
  obtain⟨b1,b2,b3⟩:=AM.burnt_C R
  rw[h1] at ok ⊢
  have eC:(R.burnt.fly d q (new d q)).C=AM.lay R.C d q (new d q):=by simp[AM.Raw.fly,b1]
  have eL:(R.burnt.fly d q (new d q)).L=R.L++[⟨d,q,AM.look R.C d q,new d q⟩]:=by simp[AM.Raw.fly,b1,b3]
  refine⟨ok,fun e j=>?_,fun l hl=>?_,?_⟩
  ·rw[eC,look_lay h.ok.C ⟨xs,hx⟩ h3 h4]
   split
   ·rename_i c
    obtain⟨rfl,rfl⟩:=c
    exact .inr rfl
   ·exact h.mix e j
  ·rw[eL,List.mem_append] at hl
   rcases hl with hl | hl
   ·exact h.fly l hl
   ·obtain rfl:=List.mem_singleton.1 hl
    rfl
  ·rw[eC,eL,AM.undo_fly hx (by rw[(h.ok.C d xs hx).1];exact AM.fits h3) h4]
   exact h.undo
 ·obtain⟨h1,h2⟩:=writes_no h0
  refine⟨ok,fun e j=>?_,fun l hl=>?_,?_⟩
  ·rw[h1];exact h.mix e j
  ·rw[h2] at hl;exact h.fly l hl
  ·rw[h1,h2];exact h.undo
theorem MidQ.lay {C0 C1:List AM.Disk} {g:Geo} {slot:Nat} {new:Nat->Nat->List Nat} {R:AM.Raw} (h:MidQ C0 C1 new R) {d:Nat} {S:List (List Nat)} (hS:∀ i,i < 8->S.getD i []=new d (g.f+8 * slot+i)) (hs:∀ d q,∀ x ∈ new d q,x < 256) :
 ∀ j,j<=8->MidQ C0 C1 new (layTo R g slot d S j).2
 | 0,_=>h
 | j+1,hj=>by
   unfold layTo
   split
   ·rw[hS j (by omega)]
    exact (MidQ.lay h hS hs j (by omega)).write (hs _ _)
   ·exact MidQ.lay h hS hs j (by omega)
theorem MidQ.seg {C0 C1:List AM.Disk} {g:Geo} {slot m:Nat} {new:Nat->Nat->List Nat} {R:AM.Raw} (h:MidQ C0 C1 new R) {E:List (List Nat)} (hE:∀ d i,i < 8->(CM.secs m (E.getD d []) 8).getD i []=new d (g.f+8 * slot+i)) (hs:∀ d q,∀ x ∈ new d q,x < 256) :
 ∀ d,MidQ C0 C1 new (wrTo R g slot m E d).2
 | 0=>h
 | d+1=>by
   unfold wrTo
   split
   ·exact (MidQ.seg h hE hs d).lay (fun i hi=>hE d i hi) hs 8 (by omega)
   ·exact MidQ.seg h hE hs d
theorem MidQ.mend {C0 C1:List AM.Disk} {g:Geo} {slot m:Nat} {new:Nat->Nat->List Nat} {R:AM.Raw} (h:MidQ C0 C1 new R) {E:List (List Nat)} (hE:∀ d i,i < 8->(CM.secs m (E.getD d []) 8).getD i []=new d (g.f+8 * slot+i)) (hs:∀ d q,∀ x ∈ new d q,x < 256) :
 ∀ d,MidQ C0 C1 new (mendTo R g slot m E d).2
 | 0=>h
 | d+1=>by
   unfold mendTo
   split
   ·exact (MidQ.mend h hE hs d).lay (fun i hi=>hE d i hi) hs 8 (by omega)
   ·exact MidQ.mend h hE hs d
theorem picked_mixQ {n:Nat} {C0:List AM.Disk} {new:Nat->Nat->List Nat}:∀ (Z:List (AM.Wr × Nat)) (C:List AM.Disk),AM.OkC n C->(∀ x ∈ Z,AM.OkW n C x.1)->(∀ x ∈ Z,x.1.now=new x.1.d x.1.k) ->
 (∀ d q,AM.look C d q=AM.look C0 d q\/AM.look C d q=new d q)->∀ d q,AM.look (Z.foldl AM.pickD C) d q=AM.look C0 d q\/AM.look (Z.foldl AM.pickD C) d q=new d q
 | [],C,_,_,_,h=>h
 | x :: Z,C,hC,hW,hl,h=>by
   simp only[List.foldl_cons]
   have hw:=hW x (by simp)
   refine picked_mixQ (n:=n) Z (AM.pickD C x) ?_ ?_ (fun y hy=>hl y (by simp[hy])) ?_
   ·unfold AM.pickD
    split
    ·exact AM.OkC.lay hC hw.k hw.now hw.nowS
    ·exact hC
   ·intro y hy
    have hy':=hW y (by simp[hy])
    unfold AM.pickD
    split
    ·exact AM.OkW.lay hy' _ _ _
    ·exact hy'
   ·intro d q
    unfold AM.pickD
    split
    ·have h3:=hl x (by simp)
     rw[look_lay hC hw.on hw.k hw.now]
     split
     ·rename_i c
      obtain⟨rfl,rfl⟩:=c
      exact .inr h3
     ·exact h d q
    ·exact h d q
theorem MidQ.crash {C0 C1:List AM.Disk} {new:Nat->Nat->List Nat} {R:AM.Raw} (h:MidQ C0 C1 new R) (ps:List Nat):∀ d q,AM.look (R.crash ps).C d q=AM.look C0 d q\/AM.look (R.crash ps).C d q=new d q:=by
 have hu:=AM.OkC.undo h.ok.C h.ok.L 0
 rw[h.undo] at hu
 have e:(R.crash ps).C=(R.L.zip ps).foldl AM.pickD C0:=by
  show AM.crashC R.C R.L ps=_
  unfold AM.crashC
  rw[h.undo]
 rw[e]
 exact picked_mixQ (n:=R.n) (R.L.zip ps) C0 hu.1 (fun x hx=>hu.2 _ (List.of_mem_zip hx).1) (fun x hx=>h.fly _ (List.of_mem_zip hx).1) (fun _ _=>.inl rfl)
theorem mix_just {R:AM.Raw} {g:Geo} {slot m:Nat} {xs:List Nat} {d:Nat} (hd:d < g.n) (hm:m ≠ 0) (hm2:m < 256 ^ 8) (h:∀ i,i < 8->cont R.C g slot d i=AM.zs 64\/cont R.C g slot d i=chk g m xs d i) (hh:has R g slot m d=true):∀ i,i < 8->cont R.C g slot d i=chk g m xs d i:=fun i hi=>by
 have ho:=has_on hh
 have hE:=code_row g xs hd
 obtain⟨cc,hcc⟩:=mix_of (S:=sectTo R g slot d 8) (X:=CM.secs 0 (List.replicate 448 0) 8) (Y:=CM.secs m ((code g xs).getD d []) 8) (sectTo_len _ _ _ _ _) (fun i hi=>by
  have e:(sectTo R g slot d 8).getD i []=cont R.C g slot d i:=by simp[sectTo,cont,List.getD,hi]
  rw[e]
  rcases h i hi with h1 | h1
  ·left;rw[h1,blank_sec i hi]
  ·right;exact h1)
 have hsec:sects R g slot d=CM.mix cc (CM.secs 0 (List.replicate 448 0) 8) (CM.secs m ((code g xs).getD d []) 8) 8:=(sects_on ho _ _).trans hcc
 by_cases h0:CM.cnt cc 8=0
 ·exfalso
  rw[CM.mix_none h0 (CM.secs_len _ _ _)] at hsec
  unfold has at hh
  simp only[Bool.and_eq_true,beq_iff_eq] at hh
  have h2:=hh.2
  unfold numD CM.tN at h2
  rw[hsec,blank_sec 0 (by omega)] at h2
  have h3:SM.val (AM.zs 64) 8=0:=by decide
  rw[h3] at h2
  split at h2 <;> omega
 ·by_cases h8:CM.cnt cc 8=8
  ·rw[CM.mix_all h8 (CM.secs_len _ _ _)] at hcc
   have e:(sectTo R g slot d 8).getD i []=cont R.C g slot d i:=by simp[sectTo,cont,List.getD,hi]
   rw[<- e,hcc]
   rfl
  ·exfalso
   unfold has yesD at hh
   rw[hsec,CM.mix_yes (by decide) hm2 hm (by omega) (by omega) (by simp) (by rw[hE];omega) h0 h8] at hh
   simp only[Bool.and_eq_true,decide_eq_true_eq] at hh
   exact hm hh.1.symm
theorem cnt_ge {P:Nat->Bool} {Z:List Bool}:∀ j,j<=Z.length->(∀ d,d < j->Z.getD d false=false->P d=true)->j<=((List.range j).filter P).length+(Z.take j).count true
 | 0,_,_=>Nat.zero_le _
 | j+1,hj,h=>by
   have ih:=cnt_ge (P:=P) (Z:=Z) j (by omega) (fun d hd=>h d (by omega))
   have e:Z.take (j+1)=Z.take j++[Z[j]]:=List.take_succ_eq_append_getElem (by omega)
   rw[e,List.range_succ,List.filter_append,List.length_append,List.count_append]
   have hq:Z.getD j false=Z[j]:=by simp[List.getD,show j < Z.length by omega]
   cases c:Z[j]
   ·have:=h j (by omega) (by rw[hq,c])
    simp[this]
    omega
   ·simp
    omega
theorem cnt_map (f:Nat->Bool):∀ j,((List.range j).map (fun d=>!f d)).count true+((List.range j).filter f).length=j
 | 0=>rfl
 | j+1=>by
   have ih:=cnt_map f j
   rw[List.range_succ,List.map_append,List.filter_append,List.count_append,List.length_append]
   cases c:f j <;> simp[c] <;> omega
theorem cnt_set {Z:List Bool}:∀ {d:Nat},(Z.set d true).count true<=Z.count true+1/\(Z.getD d false=true->Z.set d true=Z):=fun {d}=>by
 induction Z generalizing d with
 | nil=>simp
 | cons z Z ih =>
   cases d with
   | zero=>cases z <;> simp
   | succ d =>
     obtain⟨h1,h2⟩:=ih (d:=d)
     refine⟨?_,fun h=>?_⟩
     ·rw[List.set_cons_succ,List.count_cons,List.count_cons]
      omega
     ·rw[List.set_cons_succ,h2 (by simpa using h)]
structure Says (t:Nat) (g:Geo) (st:List Nat) (xss:List (List Nat)):Prop where
 f0:g.f=0
 s3:g.s=3
 t3:t<=3
 sl:st.length=3
 xl:xss.length=3
 st0:∀ j,j < t->st.getD j 0 ≠ 0/\st.getD j 0 < 256 ^ 8
 xs:∀ j,j < t->(xss.getD j []).length=g.k * 448/\∀ x ∈ xss.getD j [],x < 256
structure Kp (t:Nat) (R:AM.Raw) (g:Geo) (st:List Nat) (xss:List (List Nat)) (Z:List Bool):Prop where
 says:Says t g st xss
 geo:g.Ok R
 ok:R.Ok
 zl:Z.length=g.n
 z:Z.count true<=g.n - g.k
 sect:∀ d q,d < g.n->R.on (d:Int)=true->q < 24->AM.look R.C d q=AM.zs 64\/AM.look R.C d q=news g st xss d q
 on:∀ d,d < g.n->Z.getD d false=false->R.on (d:Int)=true
 full:∀ d q,d < g.n->Z.getD d false=false->q < 8 * t->AM.look R.C d q=news g st xss d q
section
variable {t:Nat} {R:AM.Raw} {g:Geo} {st:List Nat} {xss:List (List Nat)} {Z:List Bool}
theorem Kp.move (h:Kp t R g st xss Z) {R':AM.Raw} (k:Kept R R') (ok:R'.Ok) (hm:∀ d q,AM.look R'.C d q=AM.look R.C d q\/AM.look R'.C d q=news g st xss d q):Kp t R' g st xss Z :=
 ⟨h.says,h.geo.kept k,ok,h.zl,h.z,fun d q hd ho hq=>by
   rw[k.on] at ho
   rcases hm d q with e | e
   ·rw[e];exact h.sect d q hd ho hq
   ·exact .inr e,fun d hd hz=>by rw[k.on];exact h.on d hd hz,fun d q hd hz hq=>by
   rcases hm d q with e | e
   ·rw[e];exact h.full d q hd hz hq
   ·exact e⟩
theorem Kp.cont (h:Kp t R g st xss Z) {slot:Nat} (hs:slot < t) {d:Nat} (hd:d < g.n) (ho:R.on (d:Int)=true):∀ i,i < 8->cont R.C g slot d i=AM.zs 64\/cont R.C g slot d i=chk g (st.getD slot 0) (xss.getD slot []) d i:=fun i hi=>by
 have h3:=h.says.t3
 have h0:=h.says.f0
 have:=h.sect d (g.f+8 * slot+i) hd ho (by omega)
 rw[news_at _ _ _ _ h0 hi] at this
 exact this
theorem Kp.just (h:Kp t R g st xss Z) {slot:Nat} (hs:slot < t) {d:Nat} (hd:d < g.n) (hh:has R g slot (st.getD slot 0) d=true):∀ i,i < 8->SP.cont R.C g slot d i=chk g (st.getD slot 0) (xss.getD slot []) d i :=
 mix_just hd (h.says.st0 slot hs).1 (h.says.st0 slot hs).2 (h.cont hs hd (has_on hh)) hh
theorem Kp.has (h:Kp t R g st xss Z) {slot:Nat} (hs:slot < t) {d:Nat} (hd:d < g.n) (hz:Z.getD d false=false):has R g slot (st.getD slot 0) d=true :=
 (chunk_of (h.on d hd hz) hd (h.says.st0 slot hs).1 (h.says.st0 slot hs).2 (fun i hi=>by
   have h0:=h.says.f0
   have:=h.full d (g.f+8 * slot+i) hd hz (by omega)
   rw[news_at _ _ _ _ h0 hi] at this
   exact this)).1
theorem Kp.hits (h:Kp t R g st xss Z) {slot:Nat} (hs:slot < t):g.n<=(hits R g slot (st.getD slot 0) g.n).length+Z.count true:=by
 have:=cnt_ge (P:=SP.has R g slot (st.getD slot 0)) (Z:=Z) g.n (by rw[h.zl];exact Nat.le_refl _) (fun d hd hz=>h.has hs hd hz)
 rw[List.take_of_length_le (by rw[h.zl];exact Nat.le_refl _)] at this
 exact this
theorem Kp.ons (h:Kp t R g st xss Z):g.n<=R.ons+Z.count true:=by
 have:=cnt_ge (P:=fun d:Nat=>R.on (d:Int)) (Z:=Z) g.n (by rw[h.zl];exact Nat.le_refl _) (fun d hd hz=>h.on d hd hz)
 rw[List.take_of_length_le (by rw[h.zl];exact Nat.le_refl _),ons_filter h.geo] at this
 exact this
theorem Kp.ons_k (h:Kp t R g st xss Z):g.k<=R.ons:=by
 have h1:=h.ons
 have h2:=h.z
 have h3:=h.geo.kn
 omega
theorem Kp.read (h:Kp t R g st xss Z) (h0:R.off=false) {slot:Nat} (hs:slot < t) {out:List Nat} {e:Nat} (hr:RdP R g (slot:Int) (st.getD slot 0) out e):out=xss.getD slot []/\e=0:=by
 have hsl:slot < g.s:=by rw[h.says.s3];have:=h.says.t3;omega
 have hy:=why_at h0 hsl
 obtain⟨hm,hm2⟩:=h.says.st0 slot hs
 obtain⟨hl,hx⟩:=h.says.xs slot hs
 rcases rdp_or h.geo hy hm hx hl (fun d hd hd'=>(chunk_of (has_on hd') hd hm hm2 (h.just hs hd hd')).2) hr with ⟨h1,h2⟩ | h1
 ·exact⟨h2,h1⟩
 ·subst h1
  unfold RdP at hr
  rw[Int.toNat_natCast] at hr
  have h5:=h.hits hs
  have h6:=h.z
  have h7:=h.geo.kn
  rcases hr with ⟨a1,_,_⟩ | ⟨_,a2,_⟩ | ⟨_,_,a3,_⟩ | ⟨_,_,_,a4,_⟩
  ·exact absurd hy a1
  ·exact absurd a2 hm
  ·omega
  ·omega
theorem Kp.marg (h:Kp t R g st xss Z) (h0:R.off=false) {slot:Nat} (hs:slot < t):(g.n:Int) - (g.k:Int) - (Z.count true:Int)<=marg R g (slot:Int) (st.getD slot 0)/\askE R g (slot:Int) (st.getD slot 0)=0:=by
 have hsl:slot < g.s:=by rw[h.says.s3];have:=h.says.t3;omega
 obtain⟨hm,hm2⟩:=h.says.st0 slot hs
 have h5:=h.hits hs
 refine⟨?_,askE_at h0 hsl hm⟩
 rw[marg_at h0 hsl hm]
 omega
theorem Kp.write (h:Kp t R g st xss Z) (h0:R.off=false) (hf:R.fuse=0) (hL:R.L=[]) {slot m:Nat} {ys:List Nat} (hs:slot < 3) {t':Nat} (ht3:t'<=3) (ht:∀ j,j < t'->j ≠ slot->j < t) (hm:m ≠ 0) (hm2:m < 256 ^ 8) (hl:ys.length=g.k * 448) (hy:∀ y ∈ ys,y < 256) :
 ∃ R',SP.write R g (slot:Int) m ys=(0,R')/\Kept R R'/\R'.off=false/\R'.fuse=0/\Kp t' R' g (st.set slot m) (xss.set slot ys) Z:=by
 have hsl:slot < g.s:=by rw[h.says.s3];exact hs
 obtain⟨a1,a2,a3,a4,a5⟩:=write_sure h.ok h.geo hsl h0 hf hm hy hl h.ons_k
 have hk:=write_kept R g (slot:Int) m ys
 have gn:∀ j,(st.set slot m).getD j 0=if j=slot then m else st.getD j 0:=fun j=>by
  by_cases c:j=slot
  ·subst c;simp[List.getD,h.says.sl,hs]
  ·simp[List.getD,c,Ne.symm c]
 have gx:∀ j,(xss.set slot ys).getD j []=if j=slot then ys else xss.getD j []:=fun j=>by
  by_cases c:j=slot
  ·subst c;simp[List.getD,h.says.xl,hs]
  ·simp[List.getD,c,Ne.symm c]
 have hM:MidQ R.C R.C (news g (st.set slot m) (xss.set slot ys)) (SP.write R g (slot:Int) m ys).2:=by
  have M0:=MidQ.start h.ok hL (news g (st.set slot m) (xss.set slot ys))
  unfold SP.write
  split
  ·exact M0
  ·split
   ·exact M0
   ·split
    ·exact M0
    ·rw[Int.toNat_natCast]
     refine M0.seg (fun d i hi=>?_) (news_small _ _ _) g.n
     rw[news_at _ _ _ _ h.says.f0 hi,gn,gx,if_pos rfl,if_pos rfl]
     rfl
 have hne:∀ d q,q / 8 ≠ slot->news g (st.set slot m) (xss.set slot ys) d q=news g st xss d q:=fun d q hq=>by
  unfold news
  rw[gn,gx,if_neg hq,if_neg hq]
 have hat:∀ d q,d < g.n->R.on (d:Int)=true->q / 8=slot->AM.look (SP.write R g (slot:Int) m ys).2.C d q=news g (st.set slot m) (xss.set slot ys) d q:=fun d q hd ho hq=>by
  have h1:=a2 d hd (by rw[hk.on];exact ho) (q % 8) (Nat.mod_lt _ (by decide))
  unfold SP.cont at h1
  rw[h.says.f0,show 0+8 * slot+q % 8=q by omega] at h1
  rw[h1]
  unfold news
  rw[gn,gx,if_pos hq,if_pos hq]
  rfl
 refine⟨(SP.write R g (slot:Int) m ys).2,Prod.ext a1 rfl,hk,a3,a4,⟨⟨h.says.f0,h.says.s3,ht3,by rw[List.length_set];exact h.says.sl,by rw[List.length_set];exact h.says.xl,fun j hj=>?_,fun j hj=>?_⟩,h.geo.kept hk,a5,h.zl,h.z,fun d q hd ho hq=>?_,fun d hd hz=>by rw[hk.on];exact h.on d hd hz,fun d q hd hz hq=>?_⟩⟩
 ·rw[gn]
  split
  ·exact⟨hm,hm2⟩
  ·rename_i c;exact h.says.st0 j (ht j hj c)
 ·rw[gx]
  split
  ·exact⟨hl,hy⟩
  ·rename_i c;exact h.says.xs j (ht j hj c)
 ·rw[hk.on] at ho
  by_cases c:q / 8=slot
  ·exact .inr (hat d q hd ho c)
  ·rcases hM.mix d q with e | e
   ·rw[e,hne d q c];exact h.sect d q hd ho hq
   ·exact .inr e
 ·by_cases c:q / 8=slot
  ·exact hat d q hd (h.on d hd hz) c
  ·rcases hM.mix d q with e | e
   ·rw[e,hne d q c]
    exact h.full d q hd hz (by have:=ht (q / 8) (by omega) c;omega)
   ·exact e
theorem barrier_sure (h0:R.off=false) (hf:R.fuse=0):R.barrier=(0,{ R with L:=[] }):=by
 have hbu:R.burnt=R:=by unfold AM.Raw.burnt;rw[if_pos hf]
 unfold AM.Raw.barrier
 rw[h0,hbu]
 simp[AM.Raw.burns,hf,h0]
theorem Kp.barrier (h:Kp t R g st xss Z):Kp t { R with L:=[] } g st xss Z :=
 h.move ⟨rfl,rfl,fun _=>rfl⟩ ⟨h.ok.d1,h.ok.d2,h.ok.n1,h.ok.n2,h.ok.C,by simp,h.ok.fuse⟩ (fun _ _=>.inl rfl)
theorem Kp.all (h:Kp 3 R g st xss Z) (h0:R.off=false) {C0:List AM.Disk} (hm:MidQ C0 R.C (news g st xss) R):∀ j,j<=3->∀ n e R',allTo (fun R=>RdP R g) R g st j n e R' ->
 ((e=0/\R'.off=false)\/e=8)/\Kept R R'/\MidQ C0 R.C (news g st xss) R'/\(R.fuse=0->e=0/\R'.fuse=0/\∀ d q,d < g.n->R.on (d:Int)=true->q < 8 * j->AM.look R'.C d q=news g st xss d q)
 | 0,_,n,e,R',ha=>by
   obtain⟨rfl,rfl,rfl⟩:=ha
   exact⟨.inl ⟨rfl,h0⟩,Kept.refl _,hm,fun hf=>⟨rfl,hf,fun d q _ _ hq=>by omega⟩⟩
 | j+1,hj,n,e,R',ha=>by
   obtain⟨n0,e0,R0,ha0,ha⟩:=ha
   obtain⟨i1,i2,i3,i4⟩:=Kp.all h h0 hm j (by omega) n0 e0 R0 ha0
   obtain⟨s1,s2⟩:=h.says.st0 j (by omega)
   rcases ha with ⟨c1,rfl,rfl,rfl⟩ | ⟨_,c2,_⟩ | ⟨c1,c2,out,er,hr,rfl,rfl,_⟩
   ·exact⟨i1,i2,i3,fun hf=>absurd (i4 hf).1 c1⟩
   ·exact absurd c2 s1
   ·subst c1
    have hoff:R0.off=false:=by
     rcases i1 with i1 | i1
     ·exact i1.2
     ·exact absurd i1 (by decide)
    have K0:Kp 3 R0 g st xss Z:=h.move i2 i3.ok i3.mix
    have hjs:j < g.s:=by rw[h.says.s3];omega
    obtain⟨rfl,rfl⟩:=K0.read hoff (slot:=j) (by omega) hr
    rw[slotM_at]
    have hE:∀ d,d < g.n->((code g (xss.getD j [])).getD d []).length=448:=fun d hd=>code_row g _ hd
    have hk:=mendTo_kept R0 g j (st.getD j 0) (code g (xss.getD j [])) g.n
    have hnew:∀ d i,i < 8->(CM.secs (st.getD j 0) ((code g (xss.getD j [])).getD d []) 8).getD i []=news g st xss d (g.f+8 * j+i):=fun d i hi=>(news_at _ _ _ _ h.says.f0 hi).symm
    have M1:=(i3.here).mend (g:=g) (slot:=j) (m:=st.getD j 0) hnew (news_small _ _ _) g.n
    refine⟨?_,i2.trans hk,i3.through M1,fun hf=>?_⟩
    ·rcases mendTo_err K0.geo hjs hoff hE (m:=st.getD j 0) g.n (Nat.le_refl _) with h1 | h1
     ·exact .inl ⟨h1,mendTo_pow hoff g.n h1⟩
     ·exact .inr h1.1
    ·obtain⟨_,f0,f1⟩:=i4 hf
     obtain⟨b1,b2,b3⟩:=mendTo_sure K0.geo hjs hoff f0 hE (m:=st.getD j 0) g.n (Nat.le_refl _)
     refine⟨b1,b3,fun d q hd ho hq=>?_⟩
     by_cases c:q < 8 * j
     ·rcases M1.mix d q with e | e
      ·rw[e];exact f1 d q hd ho c
      ·exact e
     ·have hq8:q / 8=j:=by omega
      have h9:=(mendTo_done K0.ok (g:=g) (slot:=j) (m:=st.getD j 0) (E:=code g (xss.getD j [])) code_small9 g.n b1).2 d (q % 8) (Nat.mod_lt _ (by decide))
      have ho0:R0.on (d:Int)=true:=by rw[i2.on];exact ho
      have e9:SP.cont (mendTo R0 g j (st.getD j 0) (code g (xss.getD j [])) g.n).2.C g j d (q % 8)=AM.look (mendTo R0 g j (st.getD j 0) (code g (xss.getD j [])) g.n).2.C d q:=by
       unfold SP.cont
       rw[h.says.f0,show 0+8 * j+q % 8=q by omega]
      have en:news g st xss d q=chk g (st.getD j 0) (xss.getD j []) d (q % 8):=by unfold news;rw[hq8]
      rw[<- e9,h9,en]
      by_cases cw:want R0 g j (st.getD j 0) d=true
      ·rw[if_pos ⟨hd,cw⟩];rfl
      ·rw[if_neg (fun hh=>cw hh.2)]
       rw[want_on ho0] at cw
       exact K0.just (by omega) hd (by simpa using cw) (q % 8) (Nat.mod_lt _ (by decide))
theorem Kp.allp (h:Kp 3 R g st xss Z) (h0:R.off=false) (hL:R.L=[]) {n e:Nat} {R':AM.Raw} (ha:allP (fun R=>RdP R g) R g st n e R') :
 (e=0\/e=8)/\Kept R R'/\(e=0->R'.off=false)/\MidQ R.C R.C (news g st xss) R'/\(R.fuse=0->e=0/\R'.fuse=0/\∀ d q,d < g.n->R.on (d:Int)=true->q < 24->AM.look R'.C d q=news g st xss d q):=by
 rcases ha with ⟨a1,_⟩ | ⟨_,a2,_⟩ | ⟨_,_,ha⟩
 ·rw[h0] at a1;cases a1
 ·exact absurd (by rw[h.says.sl,h.says.s3]) a2
 ·rw[h.says.s3] at ha
  obtain⟨i1,i2,i3,i4⟩:=Kp.all h h0 (MidQ.start h.ok hL _) 3 (Nat.le_refl _) n e R' ha
  refine⟨?_,i2,fun he=>?_,i3,i4⟩
  ·rcases i1 with i1 | i1
   ·exact .inl i1.1
   ·exact .inr i1
  ·subst he
   rcases i1 with i1 | i1
   ·exact i1.2
   ·exact absurd i1 (by decide)
theorem Kp.mended (h:Kp 3 R g st xss Z) (h0:R.off=false) (hf:R.fuse=0) (hL:R.L=[]) {n e:Nat} {R':AM.Raw} (ha:allP (fun R=>RdP R g) R g st n e R') :
 e=0/\R'.off=false/\R'.fuse=0/\Kept R R'/\Kp 3 R' g st xss ((List.range g.n).map (fun d:Nat=>!R'.on (d:Int))):=by
 obtain⟨_,hk,i3,i4,i5⟩:=h.allp h0 hL ha
 obtain⟨e0,f0,hw⟩:=i5 hf
 have ho:∀ d:Nat,d < g.n->((List.range g.n).map (fun d:Nat=>!R'.on (d:Int))).getD d false=!R'.on (d:Int):=fun d hd=>by simp[List.getD,hd]
 have hg:=h.geo.kept hk
 refine⟨e0,i3 e0,f0,hk,⟨h.says,hg,i4.ok,by simp,?_,fun d q hd hon hq=>?_,fun d hd hz=>?_,fun d q hd hz hq=>?_⟩⟩
 ·have h1:=cnt_map (fun d:Nat=>R'.on (d:Int)) g.n
  rw[ons_filter hg] at h1
  have h2:R'.ons=R.ons:=by
   rw[<- ons_filter hg,<- ons_filter h.geo]
   congr 1
   exact List.filter_congr fun d _=>hk.on d
  have h3:=h.ons_k
  omega
 ·rw[hk.on] at hon
  exact .inr (hw d q hd hon hq)
 ·rw[ho d hd] at hz
  simpa using hz
 ·rw[ho d hd,hk.on] at hz
  exact hw d q hd (by simpa using hz) (by omega)
theorem Kp.torn (h:Kp 3 R g st xss Z) (h0:R.off=false) (hL:R.L=[]) {f:Int} (hf:f < 9223372036854775808) {n e:Nat} {R':AM.Raw} (ha:allP (fun R=>RdP R g) (R.fused f) g st n e R') (ps:List Nat) :
 (e=0\/e=8)/\Kept R (R'.crash ps)/\Kp 3 (R'.crash ps) g st xss Z:=by
 have okf:(R.fused f).Ok:=⟨h.ok.d1,h.ok.d2,h.ok.n1,h.ok.n2,h.ok.C,h.ok.L,by show f.toNat < _;omega⟩
 have kf:Kept R (R.fused f):=⟨rfl,rfl,fun _=>rfl⟩
 have hF:Kp 3 (R.fused f) g st xss Z:=h.move kf okf (fun _ _=>.inl rfl)
 obtain⟨i1,hk,_,i4,_⟩:=hF.allp h0 hL ha
 have kc:=crash_kept R' ps
 exact⟨i1,(kf.trans hk).trans kc.1,hF.move (hk.trans kc.1) (AM.Raw.Ok.crash i4.ok ps) (i4.crash ps)⟩
theorem lose_at9 (hg:g.Ok R) {d:Nat} (hd:d < g.n):((R.lose (d:Int)).1=0\/(R.lose (d:Int)).1=9)/\(∀ e:Nat,(R.lose (d:Int)).2.on (e:Int)=(R.on (e:Int)&&!(decide (e=d))))/\(R.lose (d:Int)).2.off=R.off/\(R.lose (d:Int)).2.fuse=R.fuse/\(R.L=[]->(R.lose (d:Int)).2.L=[]) /\
 (∀ e q,e ≠ d->AM.look (R.lose (d:Int)).2.C e q=AM.look R.C e q)/\(R.lose (d:Int)).2.n=R.n/\((R.Ok)->(R.lose (d:Int)).2.Ok):=by
 have hl:d < R.C.length:=by rw[hg.len];exact hd
 have hf:R.find (d:Int)=0:=by unfold AM.Raw.find;rw[if_pos ⟨by omega,by omega⟩]
 cases ho:R.on (d:Int)
 ·have e:R.lose (d:Int)=(9,R):=by
   unfold AM.Raw.lose
   rw[if_neg (by omega),ho]
   rfl
  rw[e]
  refine⟨.inr rfl,fun e=>?_,rfl,rfl,id,fun _ _ _=>rfl,rfl,id⟩
  by_cases c:e=d
  ·subst c;simp[ho]
  ·simp[c]
 ·have e:R.lose (d:Int)=(0,R.lost d):=by
   unfold AM.Raw.lose
   rw[if_neg (by omega),ho,if_pos rfl,Int.toNat_natCast]
  rw[e]
  refine⟨.inl rfl,fun e=>?_,rfl,rfl,fun h=>by show R.L.filter _=[];rw[h];rfl,fun e q hne=>?_,rfl,fun h=>h.lost d⟩
  ·rw[on_iff_C,on_iff_C]
   show ((R.C.set d none).getD e none).isSome=_
   by_cases c:e=d
   ·subst c;simp[List.getD,hl]
   ·simp[List.getD,c,Ne.symm c]
  ·show AM.look (R.C.set d none) e q=_
   unfold AM.look
   simp[List.getD,Ne.symm hne]
theorem Kp.lose (h:Kp t R g st xss Z) {d:Nat} (hd:d < g.n) (hc:Z.count true < g.n - g.k\/Z.getD d false=true):Kp t (R.lose (d:Int)).2 g st xss (Z.set d true):=by
 obtain⟨_,a1,_,_,_,a2,a3,a4⟩:=lose_at9 h.geo hd
 have hz:∀ e,(Z.set d true).getD e false=false->e ≠ d/\Z.getD e false=false:=fun e he=>by
  by_cases c:e=d
  ·subst c
   simp[List.getD,h.zl,hd] at he
  ·refine⟨c,?_⟩
   simpa [List.getD,Ne.symm c] using he
 refine⟨h.says,lose_geo h.geo _,a4 h.ok,by rw[List.length_set];exact h.zl,?_,fun e q he hon hq=>?_,fun e he hze=>?_,fun e q he hze hq=>?_⟩
 ·rcases hc with hc | hc
  ·have:=(cnt_set (Z:=Z) (d:=d)).1;omega
  ·rw[(cnt_set (Z:=Z) (d:=d)).2 hc];exact h.z
 ·rw[a1] at hon
  simp only[Bool.and_eq_true,Bool.not_eq_true',decide_eq_false_iff_not] at hon
  rw[a2 e q hon.2]
  exact h.sect e q he hon.1 hq
 ·obtain⟨c,hz'⟩:=hz e hze
  rw[a1,h.on e he hz',decide_eq_false c]
  rfl
 ·obtain⟨c,hz'⟩:=hz e hze
  rw[a2 e q c]
  exact h.full e q he hz' hq
theorem replace_at9 (hg:g.Ok R) {d:Nat} (hd:d < g.n):((R.replace (d:Int)).1=0\/(R.replace (d:Int)).1=1)/\(∀ e:Nat,(R.replace (d:Int)).2.on (e:Int)=(R.on (e:Int) || decide (e=d)))/\(R.replace (d:Int)).2.off=R.off/\(R.replace (d:Int)).2.fuse=R.fuse/\(R.replace (d:Int)).2.L=R.L /\
 (∀ e q,AM.look (R.replace (d:Int)).2.C e q=AM.look R.C e q\/(e=d/\R.on (d:Int)=false/\(q < R.n->AM.look (R.replace (d:Int)).2.C e q=AM.zs 64)))/\(R.replace (d:Int)).2.n=R.n/\(R.replace (d:Int)).2.C.length=R.C.length/\((R.Ok)->(R.replace (d:Int)).2.Ok):=by
 have hl:d < R.C.length:=by rw[hg.len];exact hd
 have hf:R.find (d:Int)=0:=by unfold AM.Raw.find;rw[if_pos ⟨by omega,by omega⟩]
 cases ho:R.on (d:Int)
 ·have er:R.replace (d:Int)=(0,R.blank d):=by
   unfold AM.Raw.replace
   rw[if_neg (by omega),if_neg (by rw[ho];decide),Int.toNat_natCast]
  rw[er]
  refine⟨.inl rfl,fun e=>?_,rfl,rfl,rfl,fun e q=>?_,rfl,by simp[AM.Raw.blank],fun h=>h.blank d⟩
  ·rw[on_iff_C,on_iff_C]
   show ((R.C.set d (some _)).getD e none).isSome=_
   by_cases c:e=d
   ·subst c;simp[List.getD,hl]
   ·simp[List.getD,c,Ne.symm c]
  ·show AM.look (R.C.set d (some (AM.zs (R.n * 64)))) e q=_\/_
   by_cases c:e=d
   ·subst c
    refine .inr ⟨rfl,rfl,fun hq=>?_⟩
    show AM.look (R.C.set e (some (AM.zs (R.n * 64)))) e q=_
    rw[AM.look_at _ (xs:=AM.zs (R.n * 64)) (by simp[hl])]
    exact AM.sec_zs hq
   ·left
    unfold AM.look
    simp[List.getD,Ne.symm c]
 ·have er:R.replace (d:Int)=(1,R):=by
   unfold AM.Raw.replace
   rw[if_neg (by omega),ho]
   rfl
  rw[er]
  refine⟨.inr rfl,fun e=>?_,rfl,rfl,rfl,fun _ _=>.inl rfl,rfl,rfl,id⟩
  by_cases c:e=d
  ·subst c;simp[ho]
  ·simp[c]
theorem Kp.replace (h:Kp t R g st xss Z) {d:Nat} (hd:d < g.n):Kp t (R.replace (d:Int)).2 g st xss Z:=by
 obtain⟨_,a1,_,_,_,a2,a3,a5,a4⟩:=replace_at9 h.geo hd
 have hn:24<=R.n:=by
  have h1:=h.geo.room
  rw[h.says.f0,h.says.s3] at h1
  omega
 refine⟨h.says,⟨h.geo.k1,h.geo.kn,h.geo.n255,h.geo.s1,h.geo.s2,by rw[a3];exact h.geo.room,by rw[a5];exact h.geo.len⟩,a4 h.ok,h.zl,h.z,fun e q he hon hq=>?_,fun e he hze=>?_,fun e q he hze hq=>?_⟩
 ·rcases a2 e q with e1 | ⟨rfl,e2,e3⟩
  ·rw[a1] at hon
   by_cases c:e=d/\R.on (d:Int)=false
   ·obtain⟨rfl,c2⟩:=c
    by_cases c3:AM.look (R.replace (e:Int)).2.C e q=AM.zs 64
    ·exact .inl c3
    ·left
     have hlost:R.C[e]?=some none:=by
      have hl:e < R.C.length:=by rw[h.geo.len];exact he
      rw[on_iff_C] at c2
      simp only[List.getD,List.getElem?_eq_getElem hl,Option.getD_some] at c2
      rw[List.getElem?_eq_getElem hl]
      cases hq:R.C[e] with
      | none=>rfl
      | some x=>rw[hq] at c2;cases c2
     exfalso
     apply c3
     have hl:e < R.C.length:=by rw[h.geo.len];exact he
     have hf:R.find (e:Int)=0:=by unfold AM.Raw.find;rw[if_pos ⟨by omega,by omega⟩]
     have er:R.replace (e:Int)=(0,R.blank e):=by
      unfold AM.Raw.replace
      rw[if_neg (by omega),if_neg (by rw[c2];decide),Int.toNat_natCast]
     rw[er]
     show AM.look (R.C.set e (some (AM.zs (R.n * 64)))) e q=_
     rw[AM.look_at _ (xs:=AM.zs (R.n * 64)) (by simp[hl])]
     exact AM.sec_zs (by omega)
   ·rw[e1]
    refine h.sect e q he ?_ hq
    cases c4:R.on (e:Int)
    ·exfalso
     rw[c4] at hon
     have c5:e=d:=by simpa using hon
     subst c5
     exact c ⟨rfl,c4⟩
    ·rfl
  ·exact .inl (e3 (by omega))
 ·rw[a1,h.on e he hze]
  rfl
 ·rcases a2 e q with e1 | ⟨rfl,e2,e3⟩
  ·rw[e1];exact h.full e q he hze hq
  ·rw[h.on e he hze] at e2
   cases e2
end
theorem Kp.first {k m:Nat} (h1:1<=k) (h2:k<=5) (h3:1<=m) (h4:m<=4):Kp 0 (AM.Raw.new (k+m) (0+8 * 3)) ⟨k,k+m,3,0⟩ [0,0,0] [[],[],[]] (List.replicate (k+m) false):=by
 have hg:Geo.Ok ⟨k,k+m,3,0⟩ (AM.Raw.new (k+m) (0+8 * 3)):=new_geo (n:=0+8 * 3) rfl h1 (by omega) (by omega) (by omega) (by omega)
 have h0:=new_ok (N:=k+m) (n:=0+8 * 3) (by omega) (by omega) (by omega) (by omega)
 refine⟨⟨rfl,rfl,by omega,rfl,rfl,fun j hj=>by omega,fun j hj=>by omega⟩,hg,h0.1,by simp,?_,fun d q hd ho hq=>.inl ?_,fun d hd _=>?_,fun d q hd hz hq=>by omega⟩
 ·rw[List.count_replicate]
  simp
 ·have hl:(AM.Raw.new (k+m) (0+8 * 3)).C[d]?=some (some (AM.zs ((0+8 * 3) * 64))):=by
   have hd':d < k+m:=hd
   simp[AM.Raw.new,List.getElem?_replicate,hd']
  rw[AM.look_at _ hl]
  exact AM.sec_zs (by omega)
 ·rw[h0.2]
  exact decide_eq_true hd
end SP
end Go.Proofs.YtlklmhojadlncaaGreat
