/- Packed: PT8, PA8, PB8, PC8, PM9, MLay9. -/
import Derived.Test.YtlklmhojadlncaaGreatTk21
set_option linter.unusedSimpArgs false
set_option linter.unusedVariables false
set_option maxRecDepth 100000
namespace Go.Proofs.YtlklmhojadlncaaGreat
namespace SP
def cont (C:List AM.Disk) (g:Geo) (slot d i:Nat):List Nat:=AM.look C d (g.f+8 * slot+i)
theorem look_lay {n:Nat} {C:List AM.Disk} (hC:AM.OkC n C) {d k e j:Nat} {b:List Nat} (hd:∃ xs,C[d]?=some (some xs)) (hk:k < n) (hb:b.length=64) :
 AM.look (AM.lay C d k b) e j=if e=d/\j=k then b else AM.look C e j:=by
 obtain⟨xs,hx⟩:=hd
 obtain⟨h1,h2⟩:=hC d xs hx
 by_cases c:e=d
 ·subst c
  rw[AM.look_at _ (AM.lay_at k b hx),AM.look_at _ hx]
  by_cases c2:j=k
  ·subst c2
   rw[if_pos ⟨rfl,rfl⟩,AM.sec_put_same hb (by rw[h1];exact AM.fits hk)]
  ·rw[if_neg (fun h=>c2 h.2),AM.sec_put_ne hb (by rw[h1];exact AM.fits hk) c2]
 ·rw[if_neg (fun h=>c h.1)]
  unfold AM.look
  simp only[List.getD,AM.lay_ne k b c]
theorem writes_ok {R:AM.Raw} {d k:Nat} {b:List Nat} (h:(R.writes (d:Int) (k:Int) b).1=0):(R.writes (d:Int) (k:Int) b).2=R.burnt.fly d k b/\(∃ xs,R.C[d]?=some (some xs))/\k < R.n/\b.length=64/\R.off=false:=by
 unfold AM.Raw.writes at h ⊢
 by_cases h1:R.reach (d:Int) (k:Int)=0
 ·rw[if_neg (by omega)] at h ⊢
  obtain⟨h2,_,_,_,h3,h4⟩:=AM.reach_zero h1
  by_cases h5:b.length=64
  ·rw[if_neg (by omega)] at h ⊢
   by_cases h6:R.burns=true
   ·rw[if_pos h6] at h;simp at h
   ·rw[if_neg h6]
    exact⟨by simp,by simpa using h4,by omega,h5,h2⟩
  ·rw[if_pos h5] at h;simp at h
 ·rw[if_pos h1] at h;exact absurd h h1
theorem writes_no {R:AM.Raw} {d k:Int} {b:List Nat} (h:(R.writes d k b).1 ≠ 0):(R.writes d k b).2.C=R.C/\(R.writes d k b).2.L=R.L:=by
 unfold AM.Raw.writes at h ⊢
 split
 ·exact⟨rfl,rfl⟩
 ·split
  ·exact⟨rfl,rfl⟩
  ·split
   ·exact⟨(AM.burnt_C R).1,(AM.burnt_C R).2.2⟩
   ·rename_i h1 h2 h3
    rw[if_neg h1,if_neg h2,if_neg h3] at h
    simp at h
structure Mid (C0:List AM.Disk) (g:Geo) (slot:Nat) (new:Nat->Nat->List Nat) (R:AM.Raw):Prop where
 ok:R.Ok
 mix:∀ d i,i < 8->cont R.C g slot d i=cont C0 g slot d i\/cont R.C g slot d i=new d i
 fly:∀ l ∈ R.L,∃ i,i < 8/\l.k=g.f+8 * slot+i/\l.now=new l.d i
 undo:AM.undoTo R.C R.L 0=C0
theorem writes_Ok {R:AM.Raw} (ok:R.Ok) {d k:Nat} {b:List Nat} (hs:∀ x ∈ b,x < 256):(R.writes (d:Int) (k:Int) b).2.Ok:=by
 unfold AM.Raw.writes
 by_cases h1:R.reach (d:Int) (k:Int)=0
 ·rw[if_neg (by omega)]
  obtain⟨h2,_,_,_,h3,h4⟩:=AM.reach_zero h1
  split
  ·exact ok
  ·rename_i h5
   split
   ·exact AM.Raw.Ok.burnt ok
   ·have hb:=AM.burnt_C R
    refine AM.Raw.Ok.fly (AM.Raw.Ok.burnt ok) ?_ ?_ (by omega) hs
    ·rw[hb.1];simpa using h4
    ·rw[hb.2.1];simpa using (by omega:(k:Int) < R.n)
 ·rw[if_pos h1]
  exact ok
theorem Mid.write {C0:List AM.Disk} {g:Geo} {slot:Nat} {new:Nat->Nat->List Nat} {R:AM.Raw} (h:Mid C0 g slot new R) {d i:Nat} (hi:i < 8) (hs:∀ x ∈ new d i,x < 256) :
 Mid C0 g slot new (R.writes (d:Int) ((g.f+8 * slot+i:Nat):Int) (new d i)).2:=by
 have ok:=writes_Ok h.ok (d:=d) (k:=g.f+8 * slot+i) hs
 by_cases h0:(R.writes (d:Int) ((g.f+8 * slot+i:Nat):Int) (new d i)).1=0
 ·obtain⟨h1,⟨xs,hx⟩,h3,h4,_⟩:=writes_ok h0
  obtain⟨b1,b2,b3⟩:=AM.burnt_C R
  rw[h1] at ok ⊢
  have eC:(R.burnt.fly d (g.f+8 * slot+i) (new d i)).C=AM.lay R.C d (g.f+8 * slot+i) (new d i):=by simp[AM.Raw.fly,b1]
  have eL:(R.burnt.fly d (g.f+8 * slot+i) (new d i)).L=R.L++[⟨d,g.f+8 * slot+i,AM.look R.C d (g.f+8 * slot+i),new d i⟩]:=by simp[AM.Raw.fly,b1,b3]
  refine⟨ok,fun e j hj=>?_,fun l hl=>?_,?_⟩
  ·unfold cont
   rw[eC,look_lay h.ok.C ⟨xs,hx⟩ h3 h4]
   split
   ·rename_i c
    obtain⟨rfl,c2⟩:=c
    obtain rfl:j=i:=by omega
    exact .inr rfl
   ·exact h.mix e j hj
  ·rw[eL,List.mem_append] at hl
   rcases hl with hl | hl
   ·exact h.fly l hl
   ·obtain rfl:=List.mem_singleton.1 hl
    exact⟨i,hi,rfl,rfl⟩
  ·rw[eC,eL,AM.undo_fly hx (by rw[(h.ok.C d xs hx).1];exact AM.fits h3) h4]
   exact h.undo
 ·obtain⟨h1,h2⟩:=writes_no h0
  refine⟨ok,fun e j hj=>?_,fun l hl=>?_,?_⟩
  ·rw[h1];exact h.mix e j hj
  ·rw[h2] at hl;exact h.fly l hl
  ·rw[h1,h2];exact h.undo
theorem Mid.lay {C0:List AM.Disk} {g:Geo} {slot:Nat} {new:Nat->Nat->List Nat} {R:AM.Raw} (h:Mid C0 g slot new R) {d:Nat} {S:List (List Nat)} (hS:∀ i,i < 8->S.getD i []=new d i) (hs:∀ i,i < 8->∀ x ∈ new d i,x < 256) :
 ∀ j,j<=8->Mid C0 g slot new (layTo R g slot d S j).2
 | 0,_=>h
 | j+1,hj=>by
   unfold layTo
   split
   ·rw[hS j (by omega)]
    exact (Mid.lay h hS hs j (by omega)).write (by omega) (hs j (by omega))
   ·exact Mid.lay h hS hs j (by omega)
theorem layTo_done {R:AM.Raw} (ok:R.Ok) {g:Geo} {slot d:Nat} {S:List (List Nat)} (hs:∀ i,i < 8->∀ x ∈ S.getD i [],x < 256):∀ j,j<=8->(layTo R g slot d S j).1=0->(layTo R g slot d S j).2.Ok /\
 ∀ e i,i < 8->cont (layTo R g slot d S j).2.C g slot e i=if e=d/\i < j then S.getD i [] else cont R.C g slot e i
 | 0,_,_=>⟨ok,fun e i _=>by rw[if_neg (by omega)];rfl⟩
 | j+1,hj,h=>by
   by_cases h0:(layTo R g slot d S j).1=0
   ·obtain⟨ok',ih⟩:=layTo_done ok hs j (by omega) h0
    rw[layTo_succ h0] at h ⊢
    obtain⟨h1,⟨xs,hx⟩,h3,h4,_⟩:=writes_ok h
    refine⟨writes_Ok ok' (hs j (by omega)),fun e i hi=>?_⟩
    rw[h1]
    unfold cont
    have b1:=(AM.burnt_C (layTo R g slot d S j).2).1
    show AM.look (AM.lay (layTo R g slot d S j).2.burnt.C d (g.f+8 * slot+j) (S.getD j [])) e _=_
    rw[b1,look_lay ok'.C ⟨xs,hx⟩ h3 h4]
    by_cases c:e=d/\i=j
    ·obtain⟨rfl,rfl⟩:=c
     rw[if_pos ⟨rfl,rfl⟩,if_pos ⟨rfl,by omega⟩]
    ·rw[if_neg (fun h=>c ⟨h.1,by omega⟩)]
     have:=ih e i hi
     unfold cont at this
     rw[this]
     by_cases c2:e=d/\i < j
     ·rw[if_pos c2,if_pos ⟨c2.1,by omega⟩]
     ·rw[if_neg c2,if_neg (fun h=>by rcases Nat.lt_or_ge i j with h' | h'
                                     ·exact c2 ⟨h.1,h'⟩
                                     ·exact c ⟨h.1,by omega⟩)]
   ·have:layTo R g slot d S (j+1)=layTo R g slot d S j:=layTo_stop h0 _ (by omega)
    rw[this] at h
    exact absurd h h0
theorem wrTo_done {R:AM.Raw} (ok:R.Ok) {g:Geo} {slot m:Nat} {E:List (List Nat)} (hs:∀ d i,i < 8->∀ x ∈ (CM.secs m (E.getD d []) 8).getD i [],x < 256):∀ d,(wrTo R g slot m E d).1=0->(wrTo R g slot m E d).2.Ok /\
 ∀ e i,i < 8->cont (wrTo R g slot m E d).2.C g slot e i=if e < d/\R.on (e:Int)=true then (CM.secs m (E.getD e []) 8).getD i [] else cont R.C g slot e i
 | 0,_=>⟨ok,fun e i _=>by rw[if_neg (by omega)];rfl⟩
 | d+1,h=>by
   cases ho:R.on (d:Int)
   ·rw[wrTo_off ho] at h ⊢
    obtain⟨ok',ih⟩:=wrTo_done ok hs d h
    refine⟨ok',fun e i hi=>?_⟩
    rw[ih e i hi]
    by_cases c:e < d/\R.on (e:Int)=true
    ·rw[if_pos c,if_pos ⟨by omega,c.2⟩]
    ·rw[if_neg c,if_neg (fun h=>by
      by_cases e1:e=d
      ·subst e1;rw[ho] at h;exact absurd h.2 (by simp)
      ·exact c ⟨by omega,h.2⟩)]
   ·by_cases h0:(wrTo R g slot m E d).1=0
    ·obtain⟨ok',ih⟩:=wrTo_done ok hs d h0
     rw[wrTo_on h0 ho] at h ⊢
     obtain⟨ok2,ih2⟩:=layTo_done ok' (hs d) 8 (by omega) h
     refine⟨ok2,fun e i hi=>?_⟩
     show cont (layTo _ g slot d _ 8).2.C g slot e i=_
     rw[ih2 e i hi,ih e i hi]
     by_cases c:e=d
     ·subst c
      rw[if_pos ⟨rfl,hi⟩,if_pos ⟨by omega,ho⟩]
     ·rw[if_neg (fun h=>c h.1)]
      by_cases c2:e < d/\R.on (e:Int)=true
      ·rw[if_pos c2,if_pos ⟨by omega,c2.2⟩]
      ·rw[if_neg c2,if_neg (fun h=>c2 ⟨by omega,h.2⟩)]
    ·have:wrTo R g slot m E (d+1)=wrTo R g slot m E d:=wrTo_stop h0 _ (by omega)
     rw[this] at h
     exact absurd h h0
theorem writes_sure {R:AM.Raw} {d k:Nat} {b:List Nat} (h0:R.off=false) (hf:R.fuse=0) (hr:R.reach (d:Int) (k:Int)=0) (hb:b.length=64):(R.writes (d:Int) (k:Int) b).1=0/\(R.writes (d:Int) (k:Int) b).2.off=false/\(R.writes (d:Int) (k:Int) b).2.fuse=0:=by
 have e:R.burns=false:=by simp[AM.Raw.burns,hf]
 have e2:R.burnt=R:=by simp[AM.Raw.burnt,hf]
 unfold AM.Raw.writes
 rw[if_neg (by omega),if_neg (by omega),e,e2]
 simp[AM.Raw.fly,h0,hf]
theorem layTo_sure {R:AM.Raw} {g:Geo} (hg:g.Ok R) {slot d:Nat} (hs:slot < g.s) (hd:d < g.n) (h0:R.off=false) (hf:R.fuse=0) (ho:R.on (d:Int)=true) {S:List (List Nat)} (hS:∀ i,i < 8->(S.getD i []).length=64) :
 ∀ j,j<=8->(layTo R g slot d S j).1=0/\(layTo R g slot d S j).2.off=false/\(layTo R g slot d S j).2.fuse=0
 | 0,_=>⟨rfl,h0,hf⟩
 | j+1,hj=>by
   obtain⟨h1,h2,h3⟩:=layTo_sure hg hs hd h0 hf ho hS j (by omega)
   rw[layTo_succ h1]
   have hk:=layTo_kept R g slot d S j
   have hr:=reach_on (hg.kept hk) h2 hs (i:=j) (by omega) hd
   rw[hk.on,if_pos ho] at hr
   exact writes_sure h2 h3 hr (hS j (by omega))
theorem wrTo_sure {R:AM.Raw} {g:Geo} (hg:g.Ok R) {slot m:Nat} (hs:slot < g.s) (h0:R.off=false) (hf:R.fuse=0) {E:List (List Nat)} (hE:∀ d,d < g.n->(E.getD d []).length=448) :
 ∀ d,d<=g.n->(wrTo R g slot m E d).1=0/\(wrTo R g slot m E d).2.off=false/\(wrTo R g slot m E d).2.fuse=0
 | 0,_=>⟨rfl,h0,hf⟩
 | d+1,hd=>by
   obtain⟨h1,h2,h3⟩:=wrTo_sure hg hs h0 hf hE (m:=m) d (by omega)
   cases ho:R.on (d:Int)
   ·rw[wrTo_off ho];exact⟨h1,h2,h3⟩
   ·rw[wrTo_on h1 ho]
    have hk:=wrTo_kept R g slot m E d
    have hSl:∀ i,i < 8->((CM.secs m (E.getD d []) 8).getD i []).length=64:=fun i hi=>by
     rw[CM.secs_get m _ hi]
     have hl:=hE d (by omega)
     exact SM.sec_len (by rw[CM.ld_len (by omega)];omega)
    have ho':(wrTo R g slot m E d).2.on (d:Int)=true:=by rw[hk.on];exact ho
    have hg':=hg.kept hk
    unfold lays
    generalize (wrTo R g slot m E d).2=R1 at *
    generalize CM.secs m (E.getD d []) 8=S at *
    exact layTo_sure hg' hs (by omega) h2 h3 ho' hSl 8 (by omega)
end SP
namespace SP
def Wrote (R:AM.Raw) (g:Geo) (slot m:Nat) (xs:List Nat):Prop:=∀ d,d < g.n->R.on (d:Int)=true->∀ i,i < 8->cont R.C g slot d i=(CM.secs m ((code g xs).getD d []) 8).getD i []
theorem sectTo_cont {R:AM.Raw} {g:Geo} {slot d:Nat} {S:List (List Nat)} (hS:S.length=8) (h:∀ i,i < 8->cont R.C g slot d i=S.getD i []):sectTo R g slot d 8=S:=by
 apply List.ext_getElem
 ·rw[sectTo_len,hS]
 ·intro i h1 h2
  rw[sectTo_len] at h1
  have:=h i h1
  simp only[sectTo,List.getElem_map,List.getElem_range]
  unfold cont at this
  rw[this]
  simp[List.getD,h2]
theorem fit448 {m:Nat} {E:List Nat} (hm:m ≠ 0) (hE:E.length=448):CM.fit m E=true/\CM.putS m E=CM.secs m E 8:=by
 have hf:CM.fit m E=true:=CM.fit_iff.2 ⟨hm,by omega,by omega,by omega⟩
 exact⟨hf,by unfold CM.putS;rw[if_pos hf,hE]⟩
theorem countP_get {α:Type} (p:α->Bool) (l:List (Option α)):∀ j,j<=l.length->((List.range j).filter (fun d=>(l.getD d none).isSome)).length=(l.take j).countP (·.isSome)
 | 0,_=>by simp
 | j+1,hj=>by
   rw[List.range_succ,List.filter_append,List.length_append,countP_get p l j (by omega),List.take_succ_eq_append_getElem (by omega),List.countP_append]
   congr 1
   have e:l.getD j none=l[j]:=by simp[List.getD,show j < l.length from by omega]
   have e2:(List.filter (fun d=>(l.getD d none).isSome) [j])=if (l.getD j none).isSome then [j] else []:=by
    cases h:(l.getD j none).isSome <;> simp only[List.filter_cons,List.filter_nil,h] <;> simp
   rw[List.countP_singleton,e2,e]
   cases l[j] <;> simp
theorem ons_filter {R:AM.Raw} {g:Geo} (hg:g.Ok R):((List.range g.n).filter (fun d:Nat=>R.on (d:Int))).length=R.ons:=by
 have e:(fun d:Nat=>R.on (d:Int))=fun d:Nat=>(R.C.getD d none).isSome:=by funext d;exact on_iff_C
 rw[e,countP_get (fun _=>true) R.C g.n (by rw[hg.len];omega)]
 unfold AM.Raw.ons
 rw[List.take_of_length_le (by rw[hg.len];omega)]
theorem code_small {g:Geo} {xs:List Nat} {m:Nat} (hg:∀ x ∈ xs,x < 256):∀ d i,i < 8->∀ x ∈ (CM.secs m ((code g xs).getD d []) 8).getD i [],x < 256:=fun d i hi x hx=>by
 rw[CM.secs_get m _ hi] at hx
 refine SM.sec_small (CM.ld_small (fun y hy=>?_) i) x hx
 by_cases hd:d < g.n
 ·rw[code_get g xs hd] at hy
  unfold codeRow at hy
  obtain⟨t,_,rfl⟩:=List.mem_map.1 hy
  unfold codeAt
  refine MX.xs_lt fun j _=>?_
  exact M.mul_lt _ (MX.gen_lt _ _ _)
 ·have:(code g xs).getD d []=[]:=by
   have:=code_len g xs
   simp[List.getD,show (code g xs).length<=d from by omega]
  rw[this] at hy
  simp at hy
theorem write_sure {R:AM.Raw} {g:Geo} (ok:R.Ok) (hg:g.Ok R) {slot m:Nat} (hs:slot < g.s) (h0:R.off=false) (hf:R.fuse=0) (hm:m ≠ 0) {xs:List Nat} (hx:∀ x ∈ xs,x < 256) (hl:xs.length=g.k * 448) (ho:g.k<=R.ons) :
 (write R g (slot:Int) m xs).1=0/\Wrote (write R g (slot:Int) m xs).2 g slot m xs/\(write R g (slot:Int) m xs).2.off=false/\(write R g (slot:Int) m xs).2.fuse=0/\(write R g (slot:Int) m xs).2.Ok:=by
 have hy:why R g (slot:Int)=0:=by
  unfold why
  rw[h0]
  simp only[Bool.false_eq_true,if_false]
  rw[if_pos ⟨by omega,by omega⟩]
 have e:write R g (slot:Int) m xs=wrTo R g slot m (code g xs) g.n:=by
  unfold write
  rw[if_neg (by omega),if_neg (by omega),if_neg (by omega),Int.toNat_natCast]
 rw[e]
 obtain⟨h1,h2,h3⟩:=wrTo_sure hg hs h0 hf (m:=m) (E:=code g xs) (fun d hd=>code_row g xs hd) g.n (Nat.le_refl _)
 obtain⟨h4,h5⟩:=wrTo_done ok (g:=g) (slot:=slot) (m:=m) (E:=code g xs) (code_small hx) g.n h1
 have hk:=wrTo_kept R g slot m (code g xs) g.n
 refine⟨h1,fun d hd hon i hi=>?_,h2,h3,h4⟩
 rw[hk.on] at hon
 rw[h5 d i hi,if_pos ⟨hd,hon⟩]
end SP
namespace SP
theorem lose_C (R:AM.Raw) (d:Int):(R.lose d).2.C=R.C\/(R.lose d).2.C=R.C.set d.toNat none:=by
 unfold AM.Raw.lose
 split
 ·exact .inl rfl
 ·split
  ·exact .inr rfl
  ·exact .inl rfl
theorem lose_geo {R:AM.Raw} {g:Geo} (h:g.Ok R) (d:Int):g.Ok (R.lose d).2:=by
 have hn:(R.lose d).2.n=R.n:=by
  unfold AM.Raw.lose
  split
  ·rfl
  ·split <;> rfl
 refine⟨h.k1,h.kn,h.n255,h.s1,h.s2,by rw[hn];exact h.room,?_⟩
 rcases lose_C R d with e | e <;> rw[e]
 ·exact h.len
 ·rw[List.length_set];exact h.len
theorem new_ok {N n:Nat} (h1:1<=N) (h2:N<=255) (h3:1<=n) (h4:n<=4096):(AM.Raw.new N n).Ok/\(∀ d:Nat,(AM.Raw.new N n).on (d:Int)=decide (d < N)):=by
 refine⟨(AM.sim_new h1 h2 h3 h4).ok,fun d=>?_⟩
 rw[on_iff_C]
 simp only[AM.Raw.new]
 by_cases c:d < N
 ·simp[List.getD,c]
 ·simp[List.getD,c]
theorem new_geo {k N S f n:Nat} (hn:n=f+8 * S) (h1:1<=k) (h2:k < N) (h3:N<=255) (h4:1<=S) (h5:S<=128):Geo.Ok ⟨k,N,S,f⟩ (AM.Raw.new N n) :=
 ⟨h1,h2,h3,h4,h5,by show f+8 * S<=n;omega,by simp[AM.Raw.new]⟩
end SP
namespace SP
theorem why_at {R:AM.Raw} {g:Geo} {slot:Nat} (h0:R.off=false) (hs:slot < g.s):why R g (slot:Int)=0:=by
 unfold why
 rw[h0]
 simp only[Bool.false_eq_true,if_false]
 rw[if_pos ⟨by omega,by omega⟩]
theorem rdp_or {R:AM.Raw} {g:Geo} {slot m:Nat} {xs out:List Nat} {e:Nat} (hg:g.Ok R) (hy:why R g (slot:Int)=0) (hm:m ≠ 0) (hx:∀ x ∈ xs,x < 256) (hl:xs.length=g.k * 448)
 (hc:∀ d,d < g.n->has R g slot m d=true->datD R g slot d=(code g xs).getD d []) (h:RdP R g (slot:Int) m out e):(e=0/\out=xs)\/e=20:=by
 unfold RdP at h
 rw[Int.toNat_natCast] at h
 rcases h with ⟨h,_⟩ | ⟨_,h,_⟩ | ⟨_,_,_,_,h⟩ | ⟨_,_,h3,rfl,P,a,hP,rfl⟩
 ·exact absurd hy h
 ·exact absurd h hm
 ·exact .inr h
 ·obtain⟨_,rfl⟩:=dec_is hg h3 hP (parts_shape hl) (parts_small hx _) (fun d hd hd'=>by rw[hc d hd hd',code_get g xs hd])
  exact .inl ⟨rfl,parts_all hl⟩
theorem getD_el {α:Type} (l:List α) (d:α) {i:Nat} (h:i < l.length):l.getD i d=l[i]:=by simp[List.getD,h]
theorem mix_of {S X Y:List (List Nat)} (hS:S.length=8) (h:∀ i,i < 8->S.getD i []=X.getD i []\/S.getD i []=Y.getD i []):∃ c,S=CM.mix c X Y 8:=by
 refine⟨(List.range 8).map (fun i=>decide (S.getD i []=Y.getD i [])),?_⟩
 apply List.ext_getElem
 ·rw[hS,CM.mix_len]
 ·intro i h1 h2
  rw[hS] at h1
  have e1:S[i]=S.getD i []:=by simp[List.getD,hS,h1]
  have e2:(CM.mix ((List.range 8).map (fun i=>decide (S.getD i []=Y.getD i []))) X Y 8)[i]=(CM.mix ((List.range 8).map (fun i=>decide (S.getD i []=Y.getD i []))) X Y 8).getD i []:=(getD_el _ _ h2).symm
  rw[e1,e2,CM.mix_get _ _ _ h1]
  have e3:((List.range 8).map (fun i=>decide (S.getD i []=Y.getD i []))).getD i false=decide (S.getD i []=Y.getD i []):=by
   rw[getD_el _ _ (by simpa using h1)]
   simp only[List.getElem_map,List.getElem_range]
  rw[e3]
  by_cases c:S.getD i []=Y.getD i []
  ·rw[decide_eq_true c,if_pos rfl];exact c
  ·rw[decide_eq_false c]
   simp only[Bool.false_eq_true,if_false]
   exact (h i h1).resolve_right c
theorem lays_on (L:List (AM.Wr × Nat)):∀ (C:List AM.Disk) (e:Nat),((L.foldl AM.pickD C).getD e none).isSome=(C.getD e none).isSome/\(L.foldl AM.pickD C).length=C.length:=by
 induction L with
 | nil=>intro C e;exact⟨rfl,rfl⟩
 | cons x L ih =>
   intro C e
   simp only[List.foldl_cons]
   obtain⟨h1,h2⟩:=ih (AM.pickD C x) e
   rw[h1,h2]
   unfold AM.pickD
   split
   ·exact⟨AM.lay_on _ _ _ _ _,AM.lay_len _ _ _ _⟩
   ·exact⟨rfl,rfl⟩
theorem crash_kept (R:AM.Raw) (ps:List Nat):Kept R (R.crash ps)/\(R.crash ps).off=false:=by
 have hl:(R.crash ps).C.length=R.C.length:=by
  show (AM.crashC R.C R.L ps).length=_
  unfold AM.crashC
  rw[(lays_on _ _ 0).2,AM.undoTo_len]
 refine⟨⟨hl,rfl,fun d=>?_⟩,rfl⟩
 have e:((R.crash ps).C.getD d.toNat none).isSome=(R.C.getD d.toNat none).isSome:=by
  show ((AM.crashC R.C R.L ps).getD d.toNat none).isSome=_
  unfold AM.crashC
  rw[(lays_on _ _ _).1,AM.undo_on]
 unfold AM.Raw.on
 rw[hl,e]
theorem barrier_kept (R:AM.Raw):Kept R R.barrier.2/\R.barrier.2.C=R.C/\(R.barrier.1 ≠ 0->R.barrier.2.L=R.L)/\(R.barrier.1=0->R.barrier.2.L=[]/\R.barrier.2.off=false)/\R.barrier.2.L.length<=R.L.length:=by
 have hb:R.burnt.C=R.C/\R.burnt.n=R.n/\R.burnt.L=R.L:=AM.burnt_C R
 have hk:=burnt_kept R
 unfold AM.Raw.barrier
 by_cases h0:R.off=true
 ·rw[if_pos h0]
  exact⟨Kept.refl R,rfl,fun _=>rfl,fun h=>by simp at h,Nat.le_refl _⟩
 ·rw[if_neg h0]
  by_cases h1:R.burns=true
  ·rw[if_pos h1]
   exact⟨hk,hb.1,fun _=>hb.2.2,fun h=>by simp at h,by rw[hb.2.2];exact Nat.le_refl _⟩
  ·rw[if_neg h1]
   refine⟨⟨hk.len,hk.n,hk.on⟩,hb.1,fun h=>by simp at h,fun _=>⟨rfl,?_⟩,by simp⟩
   show R.burnt.off=false
   unfold AM.Raw.burnt
   split
   ·simpa using h0
   ·unfold AM.Raw.burns at h1
    simpa using h1
end SP
namespace SP
def want (R:AM.Raw) (g:Geo) (slot m d:Nat):Bool:=R.on (d:Int)&&!(has R g slot m d)
def wants (R:AM.Raw) (g:Geo) (slot m j:Nat):List Nat:=(List.range j).filter (want R g slot m)
theorem wants_succ (R:AM.Raw) (g:Geo) (slot m j:Nat):wants R g slot m (j+1)=wants R g slot m j++(if want R g slot m j then [j] else []):=by
 unfold wants
 rw[List.range_succ,List.filter_append]
 congr 1
 cases h:want R g slot m j <;> simp[h]
theorem wants_len_le (R:AM.Raw) (g:Geo) (slot m j:Nat):(wants R g slot m j).length<=j:=by
 have:=List.length_filter_le (want R g slot m) (List.range j)
 simpa [wants] using this
theorem want_yes {R:AM.Raw} {g:Geo} {slot m d:Nat} (h:want R g slot m d=true):R.on (d:Int)=true/\has R g slot m d=false:=by
 unfold want at h
 simpa using h
theorem want_on {R:AM.Raw} {g:Geo} {slot m d:Nat} (h:R.on (d:Int)=true):want R g slot m d=!(has R g slot m d):=by
 unfold want;rw[h];rfl
theorem want_off {R:AM.Raw} {g:Geo} {slot m d:Nat} (h:R.on (d:Int)=false):want R g slot m d=false:=by
 unfold want;rw[h];rfl
theorem has_on {R:AM.Raw} {g:Geo} {slot m d:Nat} (h:has R g slot m d=true):R.on (d:Int)=true:=by
 unfold has at h
 simp only[Bool.and_eq_true] at h
 exact yes_on h.1
theorem hits_off {R:AM.Raw} {g:Geo} {slot m d:Nat} (h:R.on (d:Int)=false):has R g slot m d=false:=by
 cases c:has R g slot m d
 ·rfl
 ·rw[has_on c] at h;cases h
def mendTo (R:AM.Raw) (g:Geo) (slot m:Nat) (E:List (List Nat)):Nat->Nat × AM.Raw
 | 0=>(0,R)
 | d+1=>if (mendTo R g slot m E d).1=0/\want R g slot m d=true then lays (mendTo R g slot m E d).2 g slot d m (E.getD d []) else mendTo R g slot m E d
theorem mendTo_yes {R:AM.Raw} {g:Geo} {slot m:Nat} {E:List (List Nat)} {d:Nat} (h:(mendTo R g slot m E d).1=0) (hw:want R g slot m d=true):mendTo R g slot m E (d+1)=lays (mendTo R g slot m E d).2 g slot d m (E.getD d []):=by
 simp[mendTo,h,hw]
theorem mendTo_no {R:AM.Raw} {g:Geo} {slot m:Nat} {E:List (List Nat)} {d:Nat} (hw:want R g slot m d=false):mendTo R g slot m E (d+1)=mendTo R g slot m E d:=by
 simp[mendTo,hw]
theorem mendTo_stop {R:AM.Raw} {g:Geo} {slot m:Nat} {E:List (List Nat)} {j:Nat} (h:(mendTo R g slot m E j).1 ≠ 0):∀ i,j<=i->mendTo R g slot m E i=mendTo R g slot m E j:=fun i hi=>by
 induction i with
 | zero=>obtain rfl:j=0:=by omega
         rfl
 | succ i ih =>
   by_cases c:j=i+1
   ·subst c;rfl
   ·have:=ih (by omega)
    simp[mendTo,this,h]
theorem mendTo_kept (R:AM.Raw) (g:Geo) (slot m:Nat) (E:List (List Nat)):∀ d,Kept R (mendTo R g slot m E d).2
 | 0=>Kept.refl R
 | d+1=>by
   unfold mendTo
   split
   ·exact (mendTo_kept R g slot m E d).trans (layTo_kept _ _ _ _ _ _)
   ·exact mendTo_kept R g slot m E d
theorem writes_pow {R:AM.Raw} {d k:Int} {b:List Nat} (h:(R.writes d k b).1=0):(R.writes d k b).2.off=false:=by
 unfold AM.Raw.writes at h ⊢
 split
 ·rename_i c;rw[if_pos c] at h;exact absurd h c
 ·rename_i c
  rw[if_neg c] at h
  split
  ·rename_i c2;rw[if_pos c2] at h;exact absurd h (by simp)
  ·rename_i c2
   rw[if_neg c2] at h
   split
   ·rename_i c3;rw[if_pos c3] at h;exact absurd h (by simp)
   ·rename_i c3
    have hr:R.reach d k=0:=by omega
    have h0:=(AM.reach_zero hr).1
    show R.burnt.off=false
    unfold AM.Raw.burnt
    split
    ·exact h0
    ·unfold AM.Raw.burns at c3
     simpa using c3
theorem layTo_pow {R:AM.Raw} {g:Geo} {slot d:Nat} {S:List (List Nat)} (h0:R.off=false):∀ j,(layTo R g slot d S j).1=0->(layTo R g slot d S j).2.off=false
 | 0,_=>h0
 | j+1,h=>by
   by_cases c:(layTo R g slot d S j).1=0
   ·rw[layTo_succ c] at h ⊢
    exact writes_pow h
   ·rw[layTo_stop c (j+1) (by omega)] at h
    exact absurd h c
theorem mendTo_pow {R:AM.Raw} {g:Geo} {slot m:Nat} {E:List (List Nat)} (h0:R.off=false):∀ d,(mendTo R g slot m E d).1=0->(mendTo R g slot m E d).2.off=false
 | 0,_=>h0
 | d+1,h=>by
   by_cases c:(mendTo R g slot m E d).1=0
   ·have ih:=mendTo_pow h0 d c
    cases hw:want R g slot m d
    ·rw[mendTo_no hw];exact ih
    ·rw[mendTo_yes c hw] at h ⊢
     unfold lays at h ⊢
     exact layTo_pow ih 8 h
   ·rw[mendTo_stop c (d+1) (by omega)] at h
    exact absurd h c
theorem mendTo_done {R:AM.Raw} (ok:R.Ok) {g:Geo} {slot m:Nat} {E:List (List Nat)} (hs:∀ d i,i < 8->∀ x ∈ (CM.secs m (E.getD d []) 8).getD i [],x < 256):∀ d,(mendTo R g slot m E d).1=0->(mendTo R g slot m E d).2.Ok /\
 ∀ e i,i < 8->cont (mendTo R g slot m E d).2.C g slot e i=if e < d/\want R g slot m e=true then (CM.secs m (E.getD e []) 8).getD i [] else cont R.C g slot e i
 | 0,_=>⟨ok,fun e i _=>by rw[if_neg (by omega)];rfl⟩
 | d+1,h=>by
   cases ho:want R g slot m d
   ·rw[mendTo_no ho] at h ⊢
    obtain⟨ok',ih⟩:=mendTo_done ok hs d h
    refine⟨ok',fun e i hi=>?_⟩
    rw[ih e i hi]
    by_cases c:e < d/\want R g slot m e=true
    ·rw[if_pos c,if_pos ⟨by omega,c.2⟩]
    ·rw[if_neg c,if_neg (fun h=>by
      by_cases e1:e=d
      ·subst e1;rw[ho] at h;exact absurd h.2 (by simp)
      ·exact c ⟨by omega,h.2⟩)]
   ·by_cases h0:(mendTo R g slot m E d).1=0
    ·obtain⟨ok',ih⟩:=mendTo_done ok hs d h0
     rw[mendTo_yes h0 ho] at h ⊢
     obtain⟨ok2,ih2⟩:=layTo_done ok' (hs d) 8 (by omega) h
     refine⟨ok2,fun e i hi=>?_⟩
     show cont (layTo _ g slot d _ 8).2.C g slot e i=_
     rw[ih2 e i hi,ih e i hi]
     by_cases c:e=d
     ·subst c
      rw[if_pos ⟨rfl,hi⟩,if_pos ⟨by omega,ho⟩]
     ·rw[if_neg (fun h=>c h.1)]
      by_cases c2:e < d/\want R g slot m e=true
      ·rw[if_pos c2,if_pos ⟨by omega,c2.2⟩]
      ·rw[if_neg c2,if_neg (fun h=>c2 ⟨by omega,h.2⟩)]
    ·have:mendTo R g slot m E (d+1)=mendTo R g slot m E d:=mendTo_stop h0 _ (by omega)
     rw[this] at h
     exact absurd h h0
theorem mendTo_sure {R:AM.Raw} {g:Geo} (hg:g.Ok R) {slot m:Nat} (hs:slot < g.s) (h0:R.off=false) (hf:R.fuse=0) {E:List (List Nat)} (hE:∀ d,d < g.n->(E.getD d []).length=448) :
 ∀ d,d<=g.n->(mendTo R g slot m E d).1=0/\(mendTo R g slot m E d).2.off=false/\(mendTo R g slot m E d).2.fuse=0
 | 0,_=>⟨rfl,h0,hf⟩
 | d+1,hd=>by
   obtain⟨h1,h2,h3⟩:=mendTo_sure hg hs h0 hf hE (m:=m) d (by omega)
   cases ho:want R g slot m d
   ·rw[mendTo_no ho];exact⟨h1,h2,h3⟩
   ·rw[mendTo_yes h1 ho]
    have hk:=mendTo_kept R g slot m E d
    have hSl:∀ i,i < 8->((CM.secs m (E.getD d []) 8).getD i []).length=64:=fun i hi=>by
     rw[CM.secs_get m _ hi]
     have hl:=hE d (by omega)
     exact SM.sec_len (by rw[CM.ld_len (by omega)];omega)
    have ho':(mendTo R g slot m E d).2.on (d:Int)=true:=by rw[hk.on];exact (want_yes ho).1
    have hg':=hg.kept hk
    unfold lays
    generalize (mendTo R g slot m E d).2=R1 at *
    generalize CM.secs m (E.getD d []) 8=S at *
    exact layTo_sure hg' hs (by omega) h2 h3 ho' hSl 8 (by omega)
theorem sects_eq {R R':AM.Raw} {g:Geo} {slot d:Nat} (ho:R'.on (d:Int)=R.on (d:Int)) (h:∀ i,i < 8->cont R'.C g slot d i=cont R.C g slot d i):sects R' g slot d=sects R g slot d:=by
 unfold sects
 rw[ho]
 split
 ·refine List.map_congr_left fun i hi=>?_
  exact h i (List.mem_range.1 hi)
 ·rfl
theorem has_eq {R R':AM.Raw} {g:Geo} {slot m d:Nat} (h:sects R' g slot d=sects R g slot d):has R' g slot m d=has R g slot m d:=by
 unfold has yesD numD
 rw[h]
theorem mendTo_has {R:AM.Raw} (ok:R.Ok) {g:Geo} {slot m:Nat} {E:List (List Nat)} (hs:∀ d i,i < 8->∀ x ∈ (CM.secs m (E.getD d []) 8).getD i [],x < 256) {j d:Nat} (h:(mendTo R g slot m E j).1=0) (hj:j<=d):has (mendTo R g slot m E j).2 g slot m d=has R g slot m d:=by
 refine has_eq (sects_eq ((mendTo_kept R g slot m E j).on _) fun i hi=>?_)
 rw[(mendTo_done ok hs j h).2 d i hi,if_neg (by omega)]
theorem code_small9 {g:Geo} {xs:List Nat} {m:Nat}:∀ d i,i < 8->∀ x ∈ (CM.secs m ((code g xs).getD d []) 8).getD i [],x < 256:=fun d i hi x hx=>by
 rw[CM.secs_get m _ hi] at hx
 refine SM.sec_small (CM.ld_small (fun y hy=>?_) i) x hx
 by_cases hd:d < g.n
 ·rw[code_get g xs hd] at hy
  unfold codeRow at hy
  obtain⟨t,_,rfl⟩:=List.mem_map.1 hy
  unfold codeAt
  refine MX.xs_lt fun j _=>?_
  exact M.mul_lt _ (MX.gen_lt _ _ _)
 ·have:(code g xs).getD d []=[]:=by
   have:=code_len g xs
   simp[List.getD,show (code g xs).length<=d from by omega]
  rw[this] at hy
  simp at hy
def slotM (R:AM.Raw) (g:Geo) (slot:Int) (m:Nat) (out:List Nat) (e:Nat):Nat × AM.Raw:=if e=0 then mendTo R g slot.toNat m (code g out) g.n else (e,R)
def slotN (R:AM.Raw) (g:Geo) (slot:Int) (m:Nat) (out:List Nat) (e:Nat):Nat:=if (slotM R g slot m out e).1=0 then (wants R g slot.toNat m g.n).length else 0
theorem slotN_le (R:AM.Raw) (g:Geo) (slot:Int) (m:Nat) (out:List Nat) (e:Nat):slotN R g slot m out e<=g.n:=by
 unfold slotN
 split
 ·exact wants_len_le _ _ _ _ _
 ·omega
def askE (R:AM.Raw) (g:Geo) (slot:Int) (m:Nat):Nat:=if why R g slot ≠ 0 then why R g slot else if m=0 then 1 else 0
def marg (R:AM.Raw) (g:Geo) (slot:Int) (m:Nat):Int:=if askE R g slot m=0 then ((hits R g slot.toNat m g.n).length:Int) - (g.k:Int) else 0
theorem askE_zero {R:AM.Raw} {g:Geo} {slot:Int} {m:Nat} (h:askE R g slot m=0):why R g slot=0/\m ≠ 0:=by
 unfold askE at h
 split at h
 ·omega
 ·split at h <;> omega
theorem askE_at {R:AM.Raw} {g:Geo} {slot m:Nat} (h0:R.off=false) (hs:slot < g.s) (hm:m ≠ 0):askE R g (slot:Int) m=0:=by
 unfold askE
 rw[if_neg (by rw[why_at h0 hs];omega),if_neg hm]
def allTo (rd:AM.Raw->Int->Nat->List Nat->Nat->Prop) (R:AM.Raw) (g:Geo) (st:List Nat):Nat->Nat->Nat->AM.Raw->Prop
 | 0,n,e,R'=>n=0/\e=0/\R'=R
 | j+1,n,e,R'=>∃ n0 e0 R0,allTo rd R g st j n0 e0 R0 /\
     ((e0 ≠ 0/\n=n0/\e=e0/\R'=R0)\/(e0=0/\st.getD j 0=0/\n=n0/\e=0/\R'=R0) \/
      (e0=0/\st.getD j 0 ≠ 0/\∃ out er,rd R0 (j:Int) (st.getD j 0) out er/\R'=(slotM R0 g (j:Int) (st.getD j 0) out er).2/\e=(slotM R0 g (j:Int) (st.getD j 0) out er).1/\n=if e=0 then n0+slotN R0 g (j:Int) (st.getD j 0) out er else 0))
def allP (rd:AM.Raw->Int->Nat->List Nat->Nat->Prop) (R:AM.Raw) (g:Geo) (st:List Nat) (n e:Nat) (R':AM.Raw):Prop :=
 (R.off=true/\n=0/\e=8/\R'=R)\/(R.off=false/\st.length ≠ g.s/\n=0/\e=1/\R'=R)\/(R.off=false/\st.length=g.s/\allTo rd R g st g.s n e R')
end SP
open Go.RowKit
theorem sone {R:AM.Raw} {g:SP.Geo} (hg:g.Ok R) {w:World} {u:Value} {us:List Value} {xs:List Nat} (hl:xs.length=g.k * 448) (hm:Mat w u us (SP.parts xs g.k)) {d:Nat} (hd:d < g.n) :
 Calls Tryz.prog 75 #[.int .i64 (g.k:Int),.int .i64 (g.n:Int),.int .i64 (d:Int),u] w fun e w'=>∃ p n c,e=.returned (.tuple #[.slice p n c,.int .i64 0])/\Own w.heap.size w' (.slice p n c) ((SP.code g xs).getD d [])/\w.grownBy w' none:=by
 have hf:=SP.parts_fits hg hl
 have hb:oneB (g.k:Int) (g.n:Int) (d:Int) (SP.parts xs g.k)=true:=by
  unfold oneB
  rw[hf,decide_eq_true (by omega:(0:Int)<=(d:Int)),decide_eq_true (by omega:(d:Int) < (g.n:Int))]
  rfl
 have e1:oneL (g.k:Int) (g.n:Int) (d:Int) (SP.parts xs g.k)=(SP.code g xs).getD d []:=by
  unfold oneL
  rw[if_pos hb,SP.code_get g xs hd,Int.toNat_natCast,Int.toNat_natCast,(SP.parts_shape hl).row 0 (by have:=hg.k1;omega)]
 have e2:oneE (g.k:Int) (g.n:Int) (d:Int) (SP.parts xs g.k)=0:=if_pos hb
 have:=one_all (g.k:Int) (g.n:Int) (d:Int) hm
 rwa [e1,e2] at this
theorem put_lays {R:AM.Raw} {g:SP.Geo} {d slot m:Nat} {part:List Nat} (h0:R.off=false) (hs:slot < g.s) (hd:d < g.n) (hm:m ≠ 0) (hp:part.length=448):SP.put R g (d:Int) (slot:Int) m part=SP.lays R g slot d m part:=by
 have hy:SP.whyD R g (d:Int) (slot:Int)=0:=by
  unfold SP.whyD
  rw[SP.why_at h0 hs,if_neg (by decide),if_pos ⟨by omega,by omega⟩]
 unfold SP.put
 rw[if_neg (by omega),if_neg (by omega),Int.toNat_natCast,Int.toNat_natCast]
section
variable {F F':Nat->Prop} {w w':World} {s a:Nat} {g:SP.Geo} {R R':AM.Raw}
set_option maxHeartbeats 3200000 in
theorem mlay_yes (h:SI F w s a g R) (h0:R.off=false) {d slot m:Nat} {v:Value} {us:List Value} {xs:List Nat} (hm:Mat w v us (SP.parts xs g.k)) (hl:xs.length=g.k * 448) (hd:d < g.n) (hs:slot < g.s) (hm0:m ≠ 0) (hL:R.L.length<=990000) :
 Calls Tryz.prog 59 #[ptr s,.int .i64 (d:Int),.int .i64 (slot:Int),.int .u64 (m:Int),v] w fun e w'=>e=.returned (.int .i64 ((SP.lays R g slot d m ((SP.code g xs).getD d [])).1:Int))/\∃ F',SI F' w' s a g (SP.lays R g slot d m ((SP.code g xs).getD d [])).2/\Step F w F' w':=by
 have H:Hid (SI F w s a g R):=h
 obtain⟨q,N,cap,rfl,hN⟩:=hm.row.opened
 have ON:Hid (∀ w',w.grownBy w' none->Calls Tryz.prog 75 #[.int .i64 (g.k:Int),.int .i64 (g.n:Int),.int .i64 (d:Int),.slice q N cap] w' fun e w''=>∃ p n c,e=.returned (.tuple #[.slice p n c,.int .i64 0])/\Own w'.heap.size w'' (.slice p n c) ((SP.code g xs).getD d [])/\w'.grownBy w'' none):=fun w' g1=>sone h.ok hl (hm.keep g1) hd
 have PU:Hid (∀ w' v',w.grownBy w' none->Vec w' v' ((SP.code g xs).getD d [])->Calls Tryz.prog 76 #[ptr s,.int .i64 (d:Int),.int .i64 (slot:Int),.int .u64 (m:Int),v'] w' fun e w''=>e=.returned (.int .i64 ((SP.lays R g slot d m ((SP.code g xs).getD d [])).1:Int))/\∃ F',SI F' w'' s a g (SP.lays R g slot d m ((SP.code g xs).getD d [])).2/\Step F w F' w''):=fun w' v' g1 hv=>by
  have h1:=sput_all (h.keep g1) (d:Int) (slot:Int) m hv hL
  rw[put_lays h0 hs hd hm0 (SP.code_row g xs hd)] at h1
  refine h1.mono ?_
  rintro e w'' ⟨rfl,F',i',st⟩
  exact⟨rfl,F',i',(Step.new g1).trans st⟩
 have GA:Hid (∀ (w':World) V T,w.grownBy w' none->w.grownBy (w'.alloc (.cells V T)) none):=fun w' V T g1=>gb_alloc g1 _
 clear h hm hl hd hs hm0 hL hN h0
 generalize (SP.code g xs).getD d []=part at *
 obtain⟨c,hc⟩:∃ c,c=((SP.lays R g slot d m part).1:Int):=⟨_,rfl⟩
 rw[<- hc] at PU ⊢
 clear hc
 go_enter Tryz.func59,Tryz.ntmps59
 go_wp2_with (first
  | (go_at_call 34;refine (sgeo_yes H.out).mono ?_;rintro e w1 ⟨rfl,g1⟩;have G1:Hid (w.grownBy w1 none):=g1;clear g1)
  | (go_at_call 75;refine (ON.out _ (GA.out _ _ _ G1.out)).mono ?_;rintro e w2 ⟨p2,n2,c2,rfl,o2,g2⟩;have G2:Hid (w.grownBy w2 none):=grown_trans (GA.out _ _ _ G1.out) g2;have V2:Hid (Vec w2 (.slice p2 n2 c2) part):=o2.vec;clear o2 g2)
  | (go_at_call 76;refine (PU.out _ _ G2.out V2.out).mono ?_;rintro e w3 ⟨rfl,F3,i3,st3⟩;have I3:Hid (SI F3 w3 s a g (SP.lays R g slot d m part).2):=i3;have T3:Hid (Step F w F3 w3):=st3;clear i3 st3))
 go_ret
 exact⟨rfl,F3,I3.out,T3.out⟩
end
theorem marg_no {w:World} {A:Nat} (j:Nat):Calls Tryz.prog 48 #[.int .i64 (j:Int),.bool false,.pointer (some ⟨A,0,none⟩)] w fun e w'=>e=.returned (.int .i64 0)/\w'=w:=by
 go_enter Tryz.func48,Tryz.ntmps48
 go_wp2
 go_ret
 exact⟨rfl,rfl⟩
theorem marg_yes {w:World} {A:Nat} {n:Int} (h:Boxed w A 3 (.int .i64 n)) (j:Nat) (h1:-1000<=n) (h2:n<=1000):Calls Tryz.prog 48 #[.int .i64 (j:Int),.bool true,.pointer (some ⟨A,0,none⟩)] w fun e w'=>e=.returned (.int .i64 0)/\Boxed w' A 3 (.int .i64 (n+1))/\w.grownBy w' (some A):=by
 have kc:=h.cell
 have kf:=h.frozen
 have HB:Hid (Boxed (w.setCell ⟨A,0,none⟩ (.int .i64 (n+1))) A 3 (.int .i64 (n+1))):=h.set _
 have hw:IntKind.i64.wrap (n+1)=n+1:=IntWalk.i64_in _ (by omega)
 clear h h1 h2
 go_enter Tryz.func48,Tryz.ntmps48
 go_wp2
 go_ret
 exact⟨rfl,HB.out,grownBy_setCell' w A _⟩
end Go.Proofs.YtlklmhojadlncaaGreat
