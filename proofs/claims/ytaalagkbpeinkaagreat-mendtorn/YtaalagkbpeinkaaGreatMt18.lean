/- Packed: PH9, New8, Ply6, RNew8, Made8, Data8, Write8, Awk8. -/
import Derived.Test.YtaalagkbpeinkaaGreatMt17
set_option linter.unusedSimpArgs false
set_option linter.unusedVariables false
set_option maxRecDepth 100000
namespace Go.Proofs.YtaalagkbpeinkaaGreat
namespace SP
def chk (g:Geo) (m:Nat) (xs:List Nat) (d i:Nat):List Nat:=(CM.secs m ((code g xs).getD d []) 8).getD i []
structure Half (R:AM.Raw) (g:Geo) (slot m:Nat) (xs:List Nat):Prop where
 ok:g.Ok R
 off:R.off = false
 on:∀ d,d < g.n -> R.on (d:Int) = true
 just:∀ d,d < g.n -> has R g slot m d = true -> ∀ i,i < 8 -> cont R.C g slot d i = chk g m xs d i
theorem chunk_of {R:AM.Raw} {g:Geo} {slot m d:Nat} {xs:List Nat} (ho:R.on (d:Int) = true) (hd:d < g.n) (hm:m ≠ 0) (hm2:m < 256 ^ 8) (h:∀ i,i < 8 -> cont R.C g slot d i = chk g m xs d i):has R g slot m d = true /\ datD R g slot d = (code g xs).getD d []:=by
 have hE:=code_row g xs hd
 obtain ⟨hf,hp⟩:=fit448 hm hE
 have h1:=CM.put_take hm2 hf
 rw [hp] at h1
 have hs:sects R g slot d = CM.secs m ((code g xs).getD d []) 8:=(sects_on ho _ _).trans (sectTo_cont (CM.secs_len _ _ _) h)
 unfold has yesD numD datD
 rw [hs,h1.1,h1.2.1]
 exact ⟨by simp,h1.2.2⟩
theorem Half.dat {R:AM.Raw} {g:Geo} {slot m:Nat} {xs:List Nat} (h:Half R g slot m xs) (hm:m ≠ 0) (hm2:m < 256 ^ 8) {d:Nat} (hd:d < g.n) (hh:has R g slot m d = true):datD R g slot d = (code g xs).getD d [] :=
 (chunk_of (h.on d hd) hd hm hm2 (h.just d hd hh)).2
theorem Half.read {R:AM.Raw} {g:Geo} {slot m:Nat} {xs:List Nat} (h:Half R g slot m xs) (hs:slot < g.s) (hm:m ≠ 0) (hm2:m < 256 ^ 8) (hx:∀ x ∈ xs,x < 256) (hl:xs.length = g.k * 448) (hk:g.k <= (hits R g slot m g.n).length) {out:List Nat} {e:Nat} (hr:RdP R g (slot:Int) m out e):out = xs /\ e = 0:=by
 have hy:=why_at h.off hs
 rcases rdp_or h.ok hy hm hx hl (fun d hd hd'=>h.dat hm hm2 hd hd') hr with ⟨h1,h2⟩ | h1
 ·exact ⟨h2,h1⟩
 ·subst h1
  unfold RdP at hr
  rw [Int.toNat_natCast] at hr
  rcases hr with ⟨a1,_,_⟩ | ⟨_,a2,_⟩ | ⟨_,_,a3,_⟩ | ⟨_,_,_,a4,_⟩
  ·exact absurd hy a1
  ·exact absurd a2 hm
  ·omega
  ·omega
theorem Half.heals {R:AM.Raw} {g:Geo} {slot m:Nat} {xs:List Nat} (h:Half R g slot m xs) (ok:R.Ok) (hf:R.fuse = 0) (hs:slot < g.s) (hm:m ≠ 0) :
 (mendTo R g slot m (code g xs) g.n).1 = 0 /\ Wrote (mendTo R g slot m (code g xs) g.n).2 g slot m xs /\ (mendTo R g slot m (code g xs) g.n).2.off = false /\ (mendTo R g slot m (code g xs) g.n).2.fuse = 0 /\ (∀ d,d < g.n -> (mendTo R g slot m (code g xs) g.n).2.on (d:Int) = true):=by
 obtain ⟨h1,h2,h3⟩:=mendTo_sure h.ok hs h.off hf (m:=m) (E:=code g xs) (fun d hd=>code_row g xs hd) g.n (Nat.le_refl _)
 obtain ⟨_,h5⟩:=mendTo_done ok (g:=g) (slot:=slot) (m:=m) (E:=code g xs) code_small9 g.n h1
 have hk:=mendTo_kept R g slot m (code g xs) g.n
 refine ⟨h1,fun d hd hon i hi=>?_,h2,h3,fun d hd=>by rw [hk.on];exact h.on d hd⟩
 rw [h5 d i hi]
 by_cases c:want R g slot m d = true
 ·rw [if_pos ⟨hd,c⟩]
 ·rw [if_neg (fun hh=>c hh.2)]
  rw [want_on (h.on d hd)] at c
  exact h.just d hd (by simpa using c) i hi
theorem count_all {R:AM.Raw} {g:Geo} {slot m:Nat}:∀ j:Nat,(∀ d:Nat,d < j -> R.on (d:Int) = true) -> (wants R g slot m j).length + (hits R g slot m j).length = j
 | 0,_=>by simp [wants,hits]
 | j + 1,h=>by
   have ih:=count_all (R:=R) (g:=g) (slot:=slot) (m:=m) j (fun d hd=>h d (by omega))
   rw [wants_succ,hits_succ,want_on (h j (by omega)),List.length_append,List.length_append]
   cases has R g slot m j <;> simp <;> omega
theorem Wrote.none {R:AM.Raw} {g:Geo} {slot m:Nat} {xs:List Nat} (h:Wrote R g slot m xs) (hm:m ≠ 0) (hm2:m < 256 ^ 8):wants R g slot m g.n = []:=by
 unfold wants
 rw [List.filter_eq_nil_iff]
 intro d hd
 have:=h.has hm hm2 (List.mem_range.1 hd)
 unfold want
 rw [this]
 simp
theorem blank_sec (i:Nat) (hi:i < 8):(CM.secs 0 (List.replicate 448 0) 8).getD i [] = AM.zs 64:=by
 rw [CM.secs_get 0 _ hi]
 have e:CM.ld (List.replicate 448 0) i = List.replicate 56 0:=by
  unfold CM.ld
  rw [List.drop_replicate,List.take_replicate]
  congr 1
  omega
 rw [e]
 decide
theorem blank_has {R:AM.Raw} {g:Geo} {slot m d:Nat} (hm:m ≠ 0) (h:∀ i,i < 8 -> cont R.C g slot d i = AM.zs 64):has R g slot m d = false:=by
 cases c:has R g slot m d
 ·rfl
 ·exfalso
  have ho:=has_on c
  have hs:sects R g slot d = CM.secs 0 (List.replicate 448 0) 8:=(sects_on ho _ _).trans (sectTo_cont (CM.secs_len _ _ _) (fun i hi=>(h i hi).trans (blank_sec i hi).symm))
  unfold has at c
  simp only [Bool.and_eq_true,beq_iff_eq] at c
  have h2:=c.2
  unfold numD CM.tN at h2
  rw [hs,blank_sec 0 (by omega)] at h2
  have h3:SM.val (AM.zs 64) 8 = 0:=by decide
  rw [h3] at h2
  split at h2 <;> omega
structure Gaps (R:AM.Raw) (g:Geo) (slot m:Nat) (xs:List Nat) (l:List Nat):Prop where
 ok:g.Ok R
 off:R.off = false
 fuse:R.fuse = 0
 on:∀ d,d < g.n -> R.on (d:Int) = true
 full:∀ d,d < g.n -> d ∉ l -> ∀ i,i < 8 -> cont R.C g slot d i = chk g m xs d i
 gap:∀ d,d < g.n -> d ∈ l -> ∀ i,i < 8 -> cont R.C g slot d i = AM.zs 64
theorem Gaps.has_eq {R:AM.Raw} {g:Geo} {slot m:Nat} {xs l:List Nat} (h:Gaps R g slot m xs l) (hm:m ≠ 0) (hm2:m < 256 ^ 8) {d:Nat} (hd:d < g.n):has R g slot m d = !(decide (d ∈ l)):=by
 by_cases c:d ∈ l
 ·rw [decide_eq_true c,blank_has hm (h.gap d hd c)];rfl
 ·rw [decide_eq_false c,(chunk_of (h.on d hd) hd hm hm2 (h.full d hd c)).1];rfl
theorem Gaps.half {R:AM.Raw} {g:Geo} {slot m:Nat} {xs l:List Nat} (h:Gaps R g slot m xs l) (hm:m ≠ 0) (hm2:m < 256 ^ 8):Half R g slot m xs:=⟨h.ok,h.off,h.on,fun d hd hh=>by
 rw [h.has_eq hm hm2 hd] at hh
 exact h.full d hd (by simpa using hh)⟩
theorem Gaps.wants {R:AM.Raw} {g:Geo} {slot m:Nat} {xs l:List Nat} (h:Gaps R g slot m xs l) (hm:m ≠ 0) (hm2:m < 256 ^ 8):wants R g slot m g.n = (List.range g.n).filter (fun d=>decide (d ∈ l)):=by
 unfold SP.wants
 refine List.filter_congr fun d hd=>?_
 have hd':=List.mem_range.1 hd
 rw [want_on (h.on d hd'),h.has_eq hm hm2 hd']
 simp
theorem renew {R:AM.Raw} {g:Geo} (hg:g.Ok R) {d:Nat} (hd:R.on (d:Int) = true):(R.lose (d:Int)).1 = 0 /\ ((R.lose (d:Int)).2.replace (d:Int)).1 = 0 /\ ((R.lose (d:Int)).2.replace (d:Int)).2.off = R.off /\ ((R.lose (d:Int)).2.replace (d:Int)).2.fuse = R.fuse /\ (R.L = [] -> ((R.lose (d:Int)).2.replace (d:Int)).2.L = []) /\ ((R.lose (d:Int)).2.replace (d:Int)).2.L.length <= R.L.length /\
 ((R.lose (d:Int)).2.replace (d:Int)).2.C = R.C.set d (some (AM.zs (R.n * 64))) /\ ((R.lose (d:Int)).2.replace (d:Int)).2.n = R.n:=by
 obtain ⟨h1,h2,xs,hx⟩:=AM.on_iff hd
 have hf:R.find (d:Int) = 0:=by unfold AM.Raw.find;rw [if_pos ⟨h1,h2⟩]
 have e:R.lose (d:Int) = (0,R.lost d):=by
  unfold AM.Raw.lose
  rw [if_neg (by omega),if_pos hd,Int.toNat_natCast]
 rw [e]
 have hf2:(R.lost d).find (d:Int) = 0:=by
  unfold AM.Raw.find AM.Raw.lost
  rw [if_pos ⟨h1,by simpa using h2⟩]
 have ho2:(R.lost d).on (d:Int) = false:=by
  rw [on_iff_C]
  have hl:d < R.C.length:=by omega
  simp [AM.Raw.lost,List.getD,hl]
 have e2:(R.lost d).replace (d:Int) = (0,(R.lost d).blank d):=by
  unfold AM.Raw.replace
  rw [if_neg (by omega),if_neg (by rw [ho2];decide),Int.toNat_natCast]
 dsimp only
 rw [e2]
 refine ⟨rfl,rfl,rfl,rfl,fun hL=>?_,List.length_filter_le _ _,?_,rfl⟩
 ·show R.L.filter _ = []
  rw [hL];rfl
 ·show (R.C.set d none).set d _ = _
  rw [List.set_set]
  rfl
theorem Gaps.step {R:AM.Raw} {g:Geo} {slot m:Nat} {xs l:List Nat} (h:Gaps R g slot m xs l) (hs:slot < g.s) {d:Nat} (hd:d < g.n):Gaps ((R.lose (d:Int)).2.replace (d:Int)).2 g slot m xs (l ++ [d]):=by
 obtain ⟨_,_,h3,h4,_,_,h6,h7⟩:=renew h.ok (h.on d hd)
 have hl:d < R.C.length:=by rw [h.ok.len];exact hd
 have hc:∀ e i,i < 8 -> cont ((R.lose (d:Int)).2.replace (d:Int)).2.C g slot e i = if e = d then AM.zs 64 else cont R.C g slot e i:=fun e i hi=>by
  unfold cont
  rw [h6]
  split
  ·rename_i c
   subst c
   rw [AM.look_at _ (xs:=AM.zs (R.n * 64)) (by simp [hl])]
   exact AM.sec_zs (fitG h.ok hs hi)
  ·rename_i c
   unfold AM.look
   simp [List.getD,Ne.symm c]
 refine ⟨⟨h.ok.k1,h.ok.kn,h.ok.n255,h.ok.s1,h.ok.s2,by rw [h7];exact h.ok.room,by rw [h6,List.length_set];exact h.ok.len⟩,h3.trans h.off,h4.trans h.fuse,fun e he=>?_,fun e he hne i hi=>?_,fun e he hin i hi=>?_⟩
 ·rw [on_iff_C,h6]
  by_cases c:e = d
  ·subst c;simp [List.getD,hl]
  ·have:=h.on e he
   rw [on_iff_C] at this
   simpa [List.getD,Ne.symm c] using this
 ·rw [hc e i hi,if_neg (fun c=>hne (by simp [c]))]
  exact h.full e he (fun c=>hne (by simp [c])) i hi
 ·rw [hc e i hi]
  split
  ·rfl
  ·rename_i c
   refine h.gap e he ?_ i hi
   rcases List.mem_append.1 hin with h8 | h8
   ·exact h8
   ·exact absurd (List.mem_singleton.1 h8) c
theorem layTo_err {R:AM.Raw} {g:Geo} (hg:g.Ok R) {slot d:Nat} (hs:slot < g.s) (hd:d < g.n) (h0:R.off = false) (ho:R.on (d:Int) = true) {S:List (List Nat)} (hS:∀ i,i < 8 -> (S.getD i []).length = 64) :
 ∀ j,j <= 8 -> (layTo R g slot d S j).1 = 0 \/ ((layTo R g slot d S j).1 = 8 /\ (layTo R g slot d S j).2.off = true)
 | 0,_=>.inl rfl
 | j + 1,hj=>by
   rcases layTo_err hg hs hd h0 ho hS j (by omega) with h1 | h1
   ·rw [layTo_succ h1]
    have h2:=layTo_pow (g:=g) (slot:=slot) (d:=d) (S:=S) h0 j h1
    have hk:=layTo_kept R g slot d S j
    have hr:=reach_on (hg.kept hk) h2 hs (i:=j) (by omega) hd
    rw [hk.on,if_pos ho] at hr
    generalize (layTo R g slot d S j).2 = R1 at *
    unfold AM.Raw.writes
    rw [if_neg (by omega),if_neg (by rw [hS j (by omega)];omega)]
    split
    ·rename_i c
     refine .inr ⟨rfl,?_⟩
     show R1.burnt.off = true
     unfold AM.Raw.burns at c
     unfold AM.Raw.burnt
     have:R1.fuse = 1:=by simpa using c
     rw [if_neg (by omega)]
     exact c
    ·exact .inl rfl
   ·have:=layTo_stop (R:=R) (g:=g) (slot:=slot) (d:=d) (S:=S) (j:=j) (by omega) (j + 1) (by omega)
    rw [this]
    exact .inr h1
theorem mendTo_err {R:AM.Raw} {g:Geo} (hg:g.Ok R) {slot m:Nat} (hs:slot < g.s) (h0:R.off = false) {E:List (List Nat)} (hE:∀ d,d < g.n -> (E.getD d []).length = 448) :
 ∀ d,d <= g.n -> (mendTo R g slot m E d).1 = 0 \/ ((mendTo R g slot m E d).1 = 8 /\ (mendTo R g slot m E d).2.off = true)
 | 0,_=>.inl rfl
 | d + 1,hd=>by
   rcases mendTo_err hg hs h0 hE (m:=m) d (by omega) with h1 | h1
   ·cases ho:want R g slot m d
    ·rw [mendTo_no ho];exact .inl h1
    ·rw [mendTo_yes h1 ho]
     have hk:=mendTo_kept R g slot m E d
     have hp:=mendTo_pow (g:=g) (slot:=slot) (m:=m) (E:=E) h0 d h1
     have hSl:∀ i,i < 8 -> ((CM.secs m (E.getD d []) 8).getD i []).length = 64:=fun i hi=>by
      rw [CM.secs_get m _ hi]
      have hl:=hE d (by omega)
      exact SM.sec_len (by rw [CM.ld_len (by omega)];omega)
     have ho':(mendTo R g slot m E d).2.on (d:Int) = true:=by rw [hk.on];exact (want_yes ho).1
     have hg':=hg.kept hk
     unfold lays
     generalize (mendTo R g slot m E d).2 = R1 at *
     generalize CM.secs m (E.getD d []) 8 = S at *
     exact layTo_err hg' hs (by omega) hp ho' hSl 8 (by omega)
   ·have:=mendTo_stop (R:=R) (g:=g) (slot:=slot) (m:=m) (E:=E) (j:=d) (by omega) (d + 1) (by omega)
    rw [this]
    exact .inr h1
theorem Mid.mend {C0:List AM.Disk} {g:Geo} {slot m:Nat} {new:Nat -> Nat -> List Nat} {R0 R:AM.Raw} (h:Mid C0 g slot new R) {E:List (List Nat)} (hE:∀ d i,i < 8 -> (CM.secs m (E.getD d []) 8).getD i [] = new d i) (hs:∀ d i,i < 8 -> ∀ x ∈ new d i,x < 256) :
 ∀ d,Mid C0 g slot new (mendTo R g slot m E d).2
 | 0=>h
 | d + 1=>by
   unfold mendTo
   split
   ·exact (Mid.mend (R0:=R0) h hE hs d).lay (fun i hi=>hE d i hi) (fun i hi=>hs d i hi) 8 (by omega)
   ·exact Mid.mend (R0:=R0) h hE hs d
theorem Gaps.torn {R:AM.Raw} {g:Geo} {slot m:Nat} {xs l:List Nat} (h:Gaps R g slot m xs l) (hL:R.L = []) (ok:R.Ok) (hm:m ≠ 0) (hm2:m < 256 ^ 8) {n:Int} (hn:n < 9223372036854775808) (ps:List Nat) {c:Nat} {R5:AM.Raw} (h5:mendTo (R.fused n) g slot m (code g xs) g.n = (c,R5)) :
 Half (R5.crash ps) g slot m xs /\ (R5.crash ps).fuse = 0 /\ (R5.crash ps).L = [] /\ (SP.wants (R5.crash ps) g slot m g.n).length <= (SP.wants R g slot m g.n).length:=by
 have okf:(R.fused n).Ok:=⟨ok.d1,ok.d2,ok.n1,ok.n2,ok.C,ok.L,by show n.toNat < _;omega⟩
 have hk:Kept (R.fused n) R5:=by
  have:=mendTo_kept (R.fused n) g slot m (code g xs) g.n
  rwa [h5] at this
 have M0:Mid R.C g slot (chk g m xs) (R.fused n):=⟨okf,fun _ _ _=>.inl rfl,by show ∀ l ∈ R.L,_;rw [hL];simp,by show AM.undoTo R.C R.L 0 = R.C;rw [hL];simp [AM.undoTo]⟩
 have M1:=M0.mend (R0:=R) (m:=m) (E:=code g xs) (fun d i hi=>rfl) (fun d i hi=>code_small9 d i hi) g.n
 rw [h5] at M1
 have hc:=M1.crash ps
 have kc:=crash_kept R5 ps
 have kall:Kept (R.fused n) (R5.crash ps):=hk.trans kc.1
 have hgf:g.Ok (R.fused n):=⟨h.ok.k1,h.ok.kn,h.ok.n255,h.ok.s1,h.ok.s2,h.ok.room,h.ok.len⟩
 have hon:∀ d,d < g.n -> (R5.crash ps).on (d:Int) = true:=fun d hd=>by rw [kall.on];exact h.on d hd
 have hfull:∀ d,d < g.n -> d ∉ l -> ∀ i,i < 8 -> cont (R5.crash ps).C g slot d i = chk g m xs d i:=fun d hd hd' i hi=>by
  rcases hc d i hi with h1 | h1
  ·rw [h1];exact h.full d hd hd' i hi
  ·exact h1
 refine ⟨⟨hgf.kept kall,kc.2,hon,fun d hd hh i hi=>?_⟩,rfl,rfl,?_⟩
 ·by_cases hd':d ∈ l
  ·have hE:=code_row g xs hd
   obtain ⟨cc,hcc⟩:=mix_of (S:=sectTo (R5.crash ps) g slot d 8) (X:=CM.secs 0 (List.replicate 448 0) 8) (Y:=CM.secs m ((code g xs).getD d []) 8) (sectTo_len _ _ _ _ _) (fun i hi=>by
    have e:(sectTo (R5.crash ps) g slot d 8).getD i [] = cont (R5.crash ps).C g slot d i:=by simp [sectTo,cont,List.getD,hi]
    rw [e]
    rcases hc d i hi with h1 | h1
    ·left;rw [h1,h.gap d hd hd' i hi,blank_sec i hi]
    ·right;exact h1)
   have hsec:sects (R5.crash ps) g slot d = CM.mix cc (CM.secs 0 (List.replicate 448 0) 8) (CM.secs m ((code g xs).getD d []) 8) 8:=(sects_on (hon d hd) _ _).trans hcc
   by_cases h0:CM.cnt cc 8 = 0
   ·exfalso
    rw [CM.mix_none h0 (CM.secs_len _ _ _)] at hsec
    unfold has at hh
    simp only [Bool.and_eq_true,beq_iff_eq] at hh
    have h2:=hh.2
    unfold numD CM.tN at h2
    rw [hsec,blank_sec 0 (by omega)] at h2
    have h3:SM.val (AM.zs 64) 8 = 0:=by decide
    rw [h3] at h2
    split at h2 <;> omega
   ·by_cases h8:CM.cnt cc 8 = 8
    ·rw [CM.mix_all h8 (CM.secs_len _ _ _)] at hcc
     have e:(sectTo (R5.crash ps) g slot d 8).getD i [] = cont (R5.crash ps).C g slot d i:=by simp [sectTo,cont,List.getD,hi]
     rw [<- e,hcc]
     rfl
    ·exfalso
     unfold has yesD at hh
     rw [hsec,CM.mix_yes (by decide) hm2 hm (by omega) (by omega) (by simp) (by rw [hE];omega) h0 h8] at hh
     simp only [Bool.and_eq_true,decide_eq_true_eq] at hh
     exact hm hh.1.symm
  ·exact hfull d hd hd' i hi
 ·unfold SP.wants
  rw [<- List.countP_eq_length_filter,<- List.countP_eq_length_filter]
  refine List.countP_mono_left fun d hd hw=>?_
  have hd':=List.mem_range.1 hd
  rw [want_on (h.on d hd'),h.has_eq hm hm2 hd']
  have h2:=(want_yes hw).2
  simp only [Bool.not_not,decide_eq_true_eq]
  refine Classical.byContradiction fun hc2=>?_
  rw [(chunk_of (hon d hd') hd' hm hm2 (hfull d hd' hc2)).1] at h2
  cases h2
theorem Wrote.gaps {R:AM.Raw} {g:Geo} {slot m:Nat} {xs:List Nat} (h:Wrote R g slot m xs) (hg:g.Ok R) (h0:R.off = false) (hf:R.fuse = 0) (hon:∀ d,d < g.n -> R.on (d:Int) = true):Gaps R g slot m xs []:=⟨hg,h0,hf,hon,fun d hd _=>h d hd (hon d hd),by simp⟩
theorem missL_at {R:AM.Raw} {g:Geo} {slot m:Nat} (h0:R.off = false) (hs:slot < g.s) (hm:m ≠ 0):missL R g (slot:Int) m = wants R g slot m g.n:=by
 unfold missL
 rw [if_pos (askE_at h0 hs hm),Int.toNat_natCast]
theorem marg_at {R:AM.Raw} {g:Geo} {slot m:Nat} (h0:R.off = false) (hs:slot < g.s) (hm:m ≠ 0):marg R g (slot:Int) m = ((hits R g slot m g.n).length:Int) - (g.k:Int):=by
 unfold marg
 rw [if_pos (askE_at h0 hs hm),Int.toNat_natCast]
theorem slotM_at (R:AM.Raw) (g:Geo) (slot m:Nat) (out:List Nat):slotM R g (slot:Int) m out 0 = mendTo R g slot m (code g out) g.n:=by
 unfold slotM
 rw [if_pos rfl,Int.toNat_natCast]
theorem slotN_at (R:AM.Raw) (g:Geo) (slot m:Nat) (out:List Nat):slotN R g (slot:Int) m out 0 = if (mendTo R g slot m (code g out) g.n).1 = 0 then (wants R g slot m g.n).length else 0:=by
 unfold slotN
 rw [slotM_at,Int.toNat_natCast]
theorem Half.slot {R:AM.Raw} {g:Geo} {slot m:Nat} {xs:List Nat} (h:Half R g slot m xs) (ok:R.Ok) (hf:R.fuse = 0) (hs:slot < g.s) (hm:m ≠ 0):∃ R',slotM R g (slot:Int) m xs 0 = (0,R') /\ slotN R g (slot:Int) m xs 0 = (wants R g slot m g.n).length /\ Wrote R' g slot m xs /\ R'.off = false /\ R'.fuse = 0 /\ (∀ d,d < g.n -> R'.on (d:Int) = true) /\ g.Ok R':=by
 obtain ⟨h1,h2,h3,h4,h5⟩:=h.heals ok hf hs hm
 have hk:=mendTo_kept R g slot m (code g xs) g.n
 refine ⟨(mendTo R g slot m (code g xs) g.n).2,?_,?_,h2,h3,h4,h5,h.ok.kept hk⟩
 ·rw [slotM_at]
  exact Prod.ext h1 rfl
 ·rw [slotN_at,if_pos h1]
end SP
open Go.RowKit
def SP.okNew (R:AM.Raw) (K N S f:Int):Bool:=mayI K N && (decide (1 <= S) && (decide (S <= 128) && (decide (0 <= f) && (decide ((R.C.length:Int) = N) && decide (f <= (R.n:Int) - 8 * S)))))
theorem SP.okNew_iff {R:AM.Raw} {K N S f:Int}:SP.okNew R K N S f = true ↔ (1 <= K /\ K < N /\ N <= 255) /\ 1 <= S /\ S <= 128 /\ 0 <= f /\ (R.C.length:Int) = N /\ f <= (R.n:Int) - 8 * S:=by
 unfold SP.okNew
 simp only [Bool.and_eq_true,decide_eq_true_eq,mayI_iff]
section
variable {F F':Nat -> Prop} {w w':World} {s a:Nat} {g:SP.Geo} {R R':AM.Raw}
set_option maxHeartbeats 6400000 in
theorem sfits_any (h:Is F w a R) {K N S f:Int} (hS:1 <= S) (hS2:S <= 128) :
 Calls Tryz.prog 82 #[ptr a,.agg #[.int .i64 K,.int .i64 N,.int .i64 S],.int .i64 f] w fun e w'=>e = .returned (.bool (decide ((R.C.length:Int) = N) && decide (f <= (R.n:Int) - 8 * S))) /\ w.grownBy w' none:=by
 have hn2:=h.ok.n2
 obtain ⟨L,hL⟩:∃ L,L = R.C.length:=⟨_,rfl⟩
 obtain ⟨n,hn⟩:∃ n,n = R.n:=⟨_,rfl⟩
 have GA:Hid (w.grownBy (w.alloc (.cells #[.int .i64 K,.int .i64 N,.int .i64 S] 39)) none):=World.grownBy_alloc w _ none
 have Q1:Hid (∀ w1,w.grownBy w1 none -> Calls Tryz.prog 44 #[ptr a] w1 fun e w'=>e = .returned (.int .i64 (L:Int)) /\ w' = w1):=fun w1 g1=>by rw [hL];exact disks_yes (h.keep g1)
 have Q2:Hid (∀ w1,w.grownBy w1 none -> Calls Tryz.prog 45 #[ptr a] w1 fun e w'=>e = .returned (.int .i64 (n:Int)) /\ w' = w1):=fun w1 g1=>by rw [hn];exact sectors_yes (h.keep g1)
 rw [<- hL,<- hn]
 have hw1:IntKind.i64.wrap (8 * S) = 8 * S:=IntWalk.i64_in _ (by omega)
 have hw2:IntKind.i64.wrap ((n:Int) - 8 * S) = (n:Int) - 8 * S:=IntWalk.i64_in _ (by omega)
 clear h hn2 hL hn hS hS2
 by_cases h1:(L:Int) = N
 ·have i1:((L:Int) == N) = true:=by simp [h1]
  rw [decide_eq_true h1,Bool.true_and]
  clear h1
  go_enter Tryz.func82,Tryz.ntmps82
  go_wp2_with fail
  go_quiet ((first
   | (go_at_call 44;exact Calls.quiet_of_same (Q1.out _ (grown_trans GA.out (grown_drewN _ _))))
   | (go_at_call 45;exact Calls.quiet_of_same (Q2.out _ (grown_trans GA.out (grown_drewN _ _))))))
  go_wp2
  go_ret
  exact ⟨rfl,by first | exact grown_trans GA.out (grown_drewN _ _) | exact GA.out | exact gb_drew GA.out⟩
 ·have i1:((L:Int) == N) = false:=by simp [h1]
  rw [decide_eq_false h1,Bool.false_and]
  clear h1
  go_enter Tryz.func82,Tryz.ntmps82
  go_wp2_with fail
  go_quiet ((first
   | (go_at_call 44;exact Calls.quiet_of_same (Q1.out _ (grown_trans GA.out (grown_drewN _ _))))
   | (go_at_call 45;exact Calls.quiet_of_same (Q2.out _ (grown_trans GA.out (grown_drewN _ _))))))
  go_wp2
  go_ret
  exact ⟨rfl,by first | exact grown_trans GA.out (grown_drewN _ _) | exact GA.out | exact gb_drew GA.out⟩
set_option maxHeartbeats 6400000 in
theorem snew_yes (h:Is F w a R) (hg:g.Ok R) :
 Calls Tryz.prog 29 #[ptr a,geoV g,.int .i64 (g.f:Int)] w fun e w'=>∃ s,e = .returned (.tuple #[ptr s,.int .i64 0]) /\ SI F w' s a g R /\ w.heap.size <= s /\ w.grownBy w' none:=by
 have hk:mayI (g.k:Int) (g.n:Int) = true:=mayI_iff.2 ⟨by have:=hg.k1;omega,by have:=hg.kn;omega,by have:=hg.n255;omega⟩
 have i1:¬ (g.s:Int) < 1:=by have:=hg.s1;omega
 have i2:¬ (128:Int) < (g.s:Int):=by have:=hg.s2;omega
 have i3:¬ (g.f:Int) < 0:=by omega
 have FI:Hid (∀ w',w.grownBy w' none -> Calls Tryz.prog 82 #[ptr a,geoV g,.int .i64 (g.f:Int)] w' fun e w''=>e = .returned (.bool true) /\ w'.grownBy w'' none):=fun w' g1=>by
  refine (sfits_any (h.keep g1) (K:=(g.k:Int)) (N:=(g.n:Int)) (S:=(g.s:Int)) (f:=(g.f:Int)) (by have:=hg.s1;omega) (by have:=hg.s2;omega)).mono ?_
  rintro e w'' ⟨rfl,g2⟩
  refine ⟨?_,g2⟩
  rw [decide_eq_true (show (R.C.length:Int) = (g.n:Int) by have:=hg.len;omega),decide_eq_true (show (g.f:Int) <= (R.n:Int) - 8 * (g.s:Int) by have:=hg.room;omega)]
  rfl
 have MA:Hid (∀ w',Calls Tryz.prog 81 #[.int .i64 (g.k:Int),.int .i64 (g.n:Int)] w' fun e w''=>e = .returned (.bool true) /\ w'' = w'):=fun w'=>by
  have:=codeMay_any (g.k:Int) (g.n:Int) w'
  rwa [hk] at this
 have H:Hid (Is F w a R /\ g.Ok R):=⟨h,hg⟩
 have GA:Hid (w.grownBy (w.alloc (.cells #[.int .i64 (g.k:Int),.int .i64 (g.n:Int),.int .i64 (g.s:Int)] 39)) none):=World.grownBy_alloc w _ none
 have GC:Hid (∀ w',(w.alloc (.cells #[.int .i64 (g.k:Int),.int .i64 (g.n:Int),.int .i64 (g.s:Int)] 39)).grownBy w' none -> w'.cell? ⟨w.heap.size,0,none⟩ = some (.int .i64 (g.k:Int)) /\ w'.cell? ⟨w.heap.size,1,none⟩ = some (.int .i64 (g.n:Int)) /\ w'.cell? ⟨w.heap.size,2,none⟩ = some (.int .i64 (g.s:Int))):=fun w' g1=>by
  have h0:=heap_alloc_new w (.cells #[.int .i64 (g.k:Int),.int .i64 (g.n:Int),.int .i64 (g.s:Int)] 39)
  exact ⟨g1.cell (cell_of_row _ _ 0 _ _ _ h0) (by simp),g1.cell (cell_of_row _ _ 1 _ _ _ h0) (by simp),g1.cell (cell_of_row _ _ 2 _ _ _ h0) (by simp)⟩
 clear h hg hk
 go_enter Tryz.func29,Tryz.ntmps29
 go_wp2_with (first
  | (go_at_call 81;refine (MA.out _).mono ?_;rintro e w9 ⟨rfl,hw9⟩;obtain rfl:=hw9.symm;clear hw9)
  | (go_at_call 82;refine (FI.out _ GA.out).mono ?_;rintro e w2 ⟨rfl,g2⟩;have G2:Hid (w.grownBy w2 none):=grown_trans GA.out g2;obtain ⟨hb1,hb2,hb3⟩:=GC.out w2 g2;clear g2))
 go_ret2
 have g3:=gb_alloc G2.out (.cells #[ptr a,.int .i64 (g.k:Int),.int .i64 (g.n:Int),.int .i64 (g.s:Int),.int .i64 (g.f:Int)] 94)
 exact ⟨_,rfl,⟨H.out.1.keep g3,heap_alloc_new w2 _,fun hf=>(by have h1:=H.out.1.lt _ hf;have h2:=G2.out.size;omega),H.out.2⟩,G2.out.size,g3⟩
end
section
variable {F G F' G':Nat -> Prop} {w0 w w':World} {a r:Nat} {R R':AM.Raw} {A A':AM.RA}
theorem rnew_at {w:World} {N n:Nat} (h1:1 <= N) (h2:N <= 255) (h3:1 <= n) (h4:n <= 4096) {c d:Int} (hc:(N:Int) = c) (hd:(n:Int) = d) :
 Calls Tryz.prog 28 #[.int .i64 c,.int .i64 d] w fun e w'=>∃ r,e = .returned (.tuple #[rptr r,.int .i64 0]) /\ ∃ G,RIs G w' r (AM.RA.new N n) /\ Base w G w':=by
 subst hc
 subst hd
 exact rnew_yes h1 h2 h3 h4
end
structure RSI (G:Nat -> Prop) (w:World) (t r:Nat) (g:SP.Geo) (R:AM.Raw):Prop where
 j:∃ A,RIs G w r A /\ AM.Sim R A
 top:w.heap[t]? = some (.cells #[rptr r,.int .i64 (g.k:Int),.int .i64 (g.n:Int),.int .i64 (g.s:Int),.int .i64 (g.f:Int)] 41 (0,0))
 nf:¬ G t
 ok:g.Ok R
section
variable {G G':Nat -> Prop} {w w':World} {t r:Nat} {g:SP.Geo} {R R':AM.Raw} {A:AM.RA}
set_option maxHeartbeats 6400000 in
theorem rsnew_any (h:RIs G w r A) (hs:AM.Sim R A) (hok:R.Ok) {K N S f:Int} (hf:f < 9223372036854775808) :
 Calls Tryz.prog 30 #[rptr r,.agg #[.int .i64 K,.int .i64 N,.int .i64 S],.int .i64 f] w fun e w'=>(SP.okNew R K N S f = true /\ ∃ t,e = .returned (.tuple #[.pointer (some ⟨t,0,none⟩),.int .i64 0]) /\ w'.heap[t]? = some (.cells #[rptr r,.int .i64 K,.int .i64 N,.int .i64 S,.int .i64 f] 41 (0,0)) /\ w.heap.size <= t /\ w.grownBy w' none) \/
  (SP.okNew R K N S f = false /\ e = .returned (.tuple #[.pointer none,.int .i64 1]) /\ w.grownBy w' none):=by
 obtain ⟨b,hb⟩:∃ b,b = mayI K N:=⟨_,rfl⟩
 have MA:Hid (∀ w',Calls Tryz.prog 83 #[.int .i64 K,.int .i64 N] w' fun e w''=>e = .returned (.bool b) /\ w'' = w'):=fun w'=>by
  rw [hb];exact refMay4_any K N w'
 have GA:Hid (w.grownBy (w.alloc (.cells #[.int .i64 K,.int .i64 N,.int .i64 S] 39)) none):=World.grownBy_alloc w _ none
 have HOK:Hid (SP.okNew R K N S f = true ↔ b = true /\ 1 <= S /\ S <= 128 /\ 0 <= f /\ (R.C.length:Int) = N /\ f <= (R.n:Int) - 8 * S):=by
  show _ ↔ _
  rw [SP.okNew_iff,hb,mayI_iff]
 have HNO:Hid (¬ (b = true /\ 1 <= S /\ S <= 128 /\ 0 <= f /\ (R.C.length:Int) = N /\ f <= (R.n:Int) - 8 * S) -> SP.okNew R K N S f = false):=fun hh=>by
  rw [Bool.eq_false_iff]
  exact fun hc=>hh (HOK.out.1 hc)
 have hn2:=hok.n2
 obtain ⟨dp,dc,ds,lp,lc,fs,hrl⟩:=h.keep GA.out
 obtain ⟨z0,z1,_,_,_⟩:=hrl.topCells
 rw [hs.len] at z0
 rw [hs.n] at z1
 obtain ⟨L,hL⟩:∃ L,L = R.C.length:=⟨_,rfl⟩
 obtain ⟨n,hn⟩:∃ n,n = R.n:=⟨_,rfl⟩
 rw [<- hL] at z0
 rw [<- hn] at z1 hn2
 have HLn:Hid (L = R.C.length /\ n = R.n):=⟨hL,hn⟩
 clear h hs hok hb hrl hL hn
 cases b
 ·go_enter Tryz.func30,Tryz.ntmps30
  go_wp2_with (go_at_call 83;refine (MA.out _).mono ?_;rintro e w9 ⟨rfl,hw9⟩;obtain rfl:=hw9.symm;clear hw9)
  go_ret2
  exact .inr ⟨HNO.out (fun h=>by simp at h),rfl,GA.out⟩
 ·by_cases h1:S < 1
  ·go_enter Tryz.func30,Tryz.ntmps30
   go_wp2_with (go_at_call 83;refine (MA.out _).mono ?_;rintro e w9 ⟨rfl,hw9⟩;obtain rfl:=hw9.symm;clear hw9)
   go_ret2
   exact .inr ⟨HNO.out (fun h=>by omega),rfl,GA.out⟩
  ·by_cases h2:128 < S
   ·go_enter Tryz.func30,Tryz.ntmps30
    go_wp2_with (go_at_call 83;refine (MA.out _).mono ?_;rintro e w9 ⟨rfl,hw9⟩;obtain rfl:=hw9.symm;clear hw9)
    go_ret2
    exact .inr ⟨HNO.out (fun h=>by omega),rfl,GA.out⟩
   ·by_cases h3:f < 0
    ·go_enter Tryz.func30,Tryz.ntmps30
     go_wp2_with (go_at_call 83;refine (MA.out _).mono ?_;rintro e w9 ⟨rfl,hw9⟩;obtain rfl:=hw9.symm;clear hw9)
     go_ret2
     exact .inr ⟨HNO.out (fun h=>by omega),rfl,GA.out⟩
    ·have HF:Hid (0 <= f /\ f < 9223372036854775808 /\ 1 <= S /\ S <= 128):=⟨by omega,hf,by omega,by omega⟩
     have hw1:IntKind.i64.wrap (8 * S) = 8 * S:=IntWalk.i64_in _ (by omega)
     have hw2:IntKind.i64.wrap ((n:Int) - f) = (n:Int) - f:=IntWalk.i64_in _ (by omega)
     by_cases h4:(L:Int) = N
     ·have i4:((L:Int) != N) = false:=by simp [h4]
      by_cases h5:(n:Int) < f
      ·have i5:decide ((n:Int) < f) = true:=decide_eq_true h5
       go_enter Tryz.func30,Tryz.ntmps30
       go_wp2_with (first | (go_at_call 83;refine (MA.out _).mono ?_;rintro e w9 ⟨rfl,hw9⟩;obtain rfl:=hw9.symm;clear hw9) | fail)
       go_quiet (fail)
       go_wp2
       go_ret2
       exact .inr ⟨HNO.out (fun h=>by have:=HLn.out;have:=HF.out;omega),rfl,by first | exact grown_trans GA.out (grown_drewN _ _) | exact GA.out⟩
      ·have i5:decide ((n:Int) < f) = false:=decide_eq_false h5
       by_cases h6:(n:Int) - f < 8 * S
       ·have i6:decide ((n:Int) - f < 8 * S) = true:=decide_eq_true h6
        go_enter Tryz.func30,Tryz.ntmps30
        go_wp2_with (first | (go_at_call 83;refine (MA.out _).mono ?_;rintro e w9 ⟨rfl,hw9⟩;obtain rfl:=hw9.symm;clear hw9) | fail)
        go_quiet (fail)
        go_wp2
        go_ret2
        exact .inr ⟨HNO.out (fun h=>by have:=HLn.out;have:=HF.out;omega),rfl,by first | exact grown_trans GA.out (grown_drewN _ _) | exact GA.out⟩
       ·have i6:decide ((n:Int) - f < 8 * S) = false:=decide_eq_false h6
        go_enter Tryz.func30,Tryz.ntmps30
        go_wp2_with (first | (go_at_call 83;refine (MA.out _).mono ?_;rintro e w9 ⟨rfl,hw9⟩;obtain rfl:=hw9.symm;clear hw9) | fail)
        go_quiet (fail)
        go_wp2
        go_ret2
        refine .inl ⟨HOK.out.2 ⟨by first | rfl | trivial,by omega,by omega,by omega,by have:=HLn.out;omega,by have:=HLn.out;omega⟩,_,rfl,?_,?_,?_⟩
        ·rw [show w.heap.size + 1 = ((w.alloc (.cells #[.int .i64 K,.int .i64 N,.int .i64 S] 39)).drewN nq).heap.size from by simp]
         exact heap_alloc_new _ _
        ·simp
        ·exact gb_alloc (grown_trans GA.out (grown_drewN _ _)) _
     ·have i4:((L:Int) != N) = true:=by simp [h4]
      go_enter Tryz.func30,Tryz.ntmps30
      go_wp2_with (first | (go_at_call 83;refine (MA.out _).mono ?_;rintro e w9 ⟨rfl,hw9⟩;obtain rfl:=hw9.symm;clear hw9) | fail)
      go_quiet (fail)
      go_wp2
      go_ret2
      exact .inr ⟨HNO.out (fun h=>by have:=HLn.out;omega),rfl,by first | exact grown_trans GA.out (grown_drewN _ _) | exact GA.out⟩
theorem rsnew_yes (h:RIs G w r A) (hs:AM.Sim R A) (hg:g.Ok R) :
 Calls Tryz.prog 30 #[rptr r,geoV g,.int .i64 (g.f:Int)] w fun e w'=>∃ t,e = .returned (.tuple #[.pointer (some ⟨t,0,none⟩),.int .i64 0]) /\ RSI G w' t r g R /\ w.heap.size <= t /\ w.grownBy w' none:=by
 have hfn:(g.f:Int) < 9223372036854775808:=by have:=hg.room;have:=hs.ok.n2;omega
 refine (rsnew_any h hs hs.ok hfn).mono ?_
 rintro e w' (⟨_,t,rfl,h1,h2,h3⟩ | ⟨h1,_,_⟩)
 ·refine ⟨t,rfl,⟨⟨A,h.keep h3,hs⟩,h1,fun hf=>?_,hg⟩,h2,h3⟩
  have:=h.lt t hf
  omega
 ·exfalso
  rw [Bool.eq_false_iff] at h1
  have:=hg.k1
  have:=hg.kn
  have:=hg.n255
  have:=hg.s1
  have:=hg.s2
  have:=hg.room
  have:=hg.len
  exact h1 (SP.okNew_iff.2 ⟨⟨by omega,by omega,by omega⟩,by omega,by omega,by omega,by omega,by omega⟩)
end
structure Duo (F G:Nat -> Prop) (w0 w:World) (s a t r:Nat) (g:SP.Geo) (R:AM.Raw):Prop where
 i:SI F w s a g R
 j:RSI G w t r g R
 ap:∀ k,F k -> G k -> False
 bi:∀ k,F k -> w0.heap.size <= k
 bj:∀ k,G k -> w0.heap.size <= k
 ls:w0.heap.size <= s
 lt:w0.heap.size <= t
 nt:¬ F t
 ns:¬ G s
 gr:w0.grownBy w none
section
variable {F G F' G':Nat -> Prop} {w0 w w':World} {s a t r:Nat} {g:SP.Geo} {R R':AM.Raw}
set_option maxHeartbeats 6400000 in
theorem made8_yes (w:World) {k more S f:Nat} (h1:1 <= k) (h2:1 <= more) (h3:k + more <= 255) (h4:1 <= S) (h5:S <= 128) (h6:f + 8 * S <= 4096) :
 Calls Tryz.prog 7 #[.int .i64 (k:Int),.int .i64 (more:Int),.int .i64 (S:Int),.int .i64 (f:Int)] w fun e w'=>∃ s t,e = .returned (.tuple #[ptr s,.pointer (some ⟨t,0,none⟩)]) /\ ∃ F G a r,Duo F G w w' s a t r ⟨k,k + more,S,f⟩ (AM.Raw.new (k + more) (f + 8 * S)):=by
 obtain ⟨N,hN⟩:∃ N,N = k + more:=⟨_,rfl⟩
 obtain ⟨n,hn⟩:∃ n,n = f + 8 * S:=⟨_,rfl⟩
 rw [<- hN,<- hn]
 have hw1:IntKind.i64.wrap ((k:Int) + (more:Int)) = (N:Int):=by
  have e:(k:Int) + (more:Int) = (N:Int):=by omega
  rw [e];exact IntWalk.i64_in _ (by omega)
 have hw2:IntKind.i64.wrap (8 * (S:Int)) = 8 * (S:Int):=IntWalk.i64_in _ (by omega)
 have hw3:IntKind.i64.wrap ((f:Int) + 8 * (S:Int)) = (n:Int):=by
  have e:(f:Int) + 8 * (S:Int) = (n:Int):=by omega
  rw [e];exact IntWalk.i64_in _ (by omega)
 have HG:Hid (∀ R:AM.Raw,R.C.length = N -> R.n = n -> SP.Geo.Ok ⟨k,N,S,f⟩ R):=fun R e1 e2=>⟨h1,by show k < N;omega,by show N <= 255;omega,h4,h5,by show f + 8 * S <= R.n;omega,e1⟩
 have HNN:Hid (1 <= N /\ N <= 255 /\ 1 <= n /\ n <= 4096):=⟨by omega,by omega,by omega,by omega⟩
 have HB:Hid (∀ w',(w.alloc (.cells #[.int .i64 (k:Int),.int .i64 (N:Int),.int .i64 (S:Int)] 39)).grownBy w' none -> w'.cell? ⟨w.heap.size,0,none⟩ = some (.int .i64 (k:Int)) /\ w'.cell? ⟨w.heap.size,1,none⟩ = some (.int .i64 (N:Int)) /\ w'.cell? ⟨w.heap.size,2,none⟩ = some (.int .i64 (S:Int))):=fun w' g1=>by
  have h0:=heap_alloc_new w (.cells #[.int .i64 (k:Int),.int .i64 (N:Int),.int .i64 (S:Int)] 39)
  exact ⟨g1.cell (cell_of_row _ _ 0 _ _ _ h0) (by simp),g1.cell (cell_of_row _ _ 1 _ _ _ h0) (by simp),g1.cell (cell_of_row _ _ 2 _ _ _ h0) (by simp)⟩
 have HR:Hid ((AM.Raw.new N n).C.length = N /\ (AM.Raw.new N n).n = n /\ AM.Sim (AM.Raw.new N n) (AM.RA.new N n)):=⟨by simp [AM.Raw.new],rfl,AM.sim_new (by omega) (by omega) (by omega) (by omega)⟩
 have GA:Hid (w.grownBy (w.alloc (.cells #[.int .i64 (k:Int),.int .i64 (N:Int),.int .i64 (S:Int)] 39)) none):=World.grownBy_alloc w _ none
 clear h1 h2 h3 h4 h5 h6 hN hn
 go_enter Tryz.func7,Tryz.ntmps7
 go_wp2_with (first
  | (go_at_call 27;refine (new_at HNN.out.1 HNN.out.2.1 HNN.out.2.2.1 HNN.out.2.2.2 rfl rfl).mono ?_;rintro e w1 ⟨a,rfl,F,i1,b1⟩;have I1:Hid (Is F w1 a (AM.Raw.new N n)):=i1;have B1:Hid (Base (w.alloc (.cells #[.int .i64 (k:Int),.int .i64 (N:Int),.int .i64 (S:Int)] 39)) F w1):=b1;obtain ⟨b10,b11,b12⟩:=HB.out _ b1.grown;clear i1 b1)
  | fail)
 clear b10 b12
 go_wp2_with (first
  | (go_at_call 28;refine (rnew_at HNN.out.1 HNN.out.2.1 HNN.out.2.2.1 HNN.out.2.2.2 rfl rfl).mono ?_;rintro e w2 ⟨r,rfl,G,j2,b2⟩;have J2:Hid (RIs G w2 r (AM.RA.new N n)):=j2;have B2:Hid (Base w1 G w2):=b2;obtain ⟨b20,b21,b22⟩:=HB.out _ (grown_trans B1.out.grown b2.grown);clear j2 b2)
  | fail)
 have I2:Hid (Is F w2 a (AM.Raw.new N n)):=I1.out.keep B2.out.grown
 have AP:Hid ((∀ i,F i -> G i -> False) /\ (∀ i,F i -> w.heap.size <= i) /\ (∀ i,G i -> w.heap.size <= i) /\ (∀ i,F i -> i < w1.heap.size) /\ (∀ i,G i -> i < w2.heap.size)):=by
  have s0:=GA.out.size
  have s1:=B1.out.grown.size
  have s2:=B2.out.grown.size
  refine ⟨fun i hf hg=>?_,fun i hf=>?_,fun i hg=>?_,fun i hf=>I1.out.lt i hf,fun i hg=>J2.out.lt i hg⟩
  ·have:=I1.out.lt i hf;have:=B2.out.lo i hg;omega
  ·have:=B1.out.lo i hf;omega
  ·have:=B2.out.lo i hg;omega
 have G2:Hid (w.grownBy w2 none):=grown_trans GA.out (grown_trans B1.out.grown B2.out.grown)
 have SN:Hid (Calls Tryz.prog 29 #[ptr a,.agg #[.int .i64 (k:Int),.int .i64 (N:Int),.int .i64 (S:Int)],.int .i64 (f:Int)] w2 fun e w'=>∃ s,e = .returned (.tuple #[ptr s,.int .i64 0]) /\ SI F w' s a ⟨k,N,S,f⟩ (AM.Raw.new N n) /\ w2.heap.size <= s /\ w2.grownBy w' none):=snew_yes I2.out (HG.out _ HR.out.1 HR.out.2.1)
 have HB2:Hid (∀ w',w2.grownBy w' none -> w'.cell? ⟨w.heap.size,0,none⟩ = some (.int .i64 (k:Int)) /\ w'.cell? ⟨w.heap.size,1,none⟩ = some (.int .i64 (N:Int)) /\ w'.cell? ⟨w.heap.size,2,none⟩ = some (.int .i64 (S:Int))):=fun w' g1=>HB.out _ (grown_trans (grown_trans B1.out.grown B2.out.grown) g1)
 have SZ:Hid (w1.heap.size <= w2.heap.size):=B2.out.grown.size
 clear I1 B1 B2 b11 HB
 go_wp2_with (first
  | (go_at_call 29;refine SN.out.mono ?_;rintro e w3 ⟨s,rfl,i3,l3,g3⟩;have I3:Hid (SI F w3 s a ⟨k,N,S,f⟩ (AM.Raw.new N n) /\ w2.heap.size <= s):=⟨i3,l3⟩;have G3:Hid (w2.grownBy w3 none):=g3;obtain ⟨b30,b31,b32⟩:=HB2.out _ g3;clear i3 l3 g3)
  | fail)
 have RN:Hid (Calls Tryz.prog 30 #[rptr r,.agg #[.int .i64 (k:Int),.int .i64 (N:Int),.int .i64 (S:Int)],.int .i64 (f:Int)] w3 fun e w'=>∃ t,e = .returned (.tuple #[.pointer (some ⟨t,0,none⟩),.int .i64 0]) /\ RSI G w' t r ⟨k,N,S,f⟩ (AM.Raw.new N n) /\ w3.heap.size <= t /\ w3.grownBy w' none):=rsnew_yes (J2.out.keep G3.out) HR.out.2.2 (HG.out _ HR.out.1 HR.out.2.1)
 clear SN J2 I2 HB2
 go_wp2_with (go_at_call 30;refine RN.out.mono ?_;rintro e w4 ⟨t,rfl,j4,l4,g4⟩;have J4:Hid (RSI G w4 t r ⟨k,N,S,f⟩ (AM.Raw.new N n) /\ w3.heap.size <= t):=⟨j4,l4⟩;have G4:Hid (w3.grownBy w4 none):=g4;clear j4 l4 g4)
 go_ret2
 have s0:=G2.out.size
 have s1:=SZ.out
 have s3:=G3.out.size
 have s4:=J4.out.2
 have s5:=I3.out.2
 exact ⟨_,_,rfl,F,G,a,r,I3.out.1.keep G4.out,J4.out.1,AP.out.1,AP.out.2.1,AP.out.2.2.1,by omega,by omega,fun hf=>by have:=AP.out.2.2.2.1 _ hf;omega,fun hg=>by have:=AP.out.2.2.2.2 _ hg;omega,grown_trans G2.out (grown_trans G3.out G4.out)⟩
end
def dat8 (x i:Nat):Nat:=(x + i % 251 + i / 448) % 256
def datL (k x:Nat):List Nat:=(List.range (k * 448)).map (dat8 x)
theorem datL_len (k x:Nat):(datL k x).length = k * 448:=by simp [datL]
theorem datL_small (k x:Nat):∀ y ∈ datL k x,y < 256:=fun y hy=>by
 unfold datL at hy
 obtain ⟨i,_,rfl⟩:=List.mem_map.1 hy
 unfold dat8
 omega
def datTo (k x j:Nat):List Nat:=(List.range (k * 448)).map fun i=>if i < j then dat8 x i else 0
theorem datTo_zero (k x:Nat):datTo k x 0 = List.replicate (k * 448) 0:=by
 apply List.ext_getElem
 ·simp [datTo]
 ·intro i h1 h2
  simp [datTo]
theorem datTo_all (k x:Nat):datTo k x (k * 448) = datL k x:=by
 unfold datTo datL
 apply List.map_congr_left
 intro i hi
 rw [if_pos (List.mem_range.1 hi)]
theorem datTo_succ (k x:Nat) {j:Nat} (h:j < k * 448):(datTo k x j).set j (dat8 x j) = datTo k x (j + 1):=by
 apply List.ext_getElem
 ·simp [datTo]
 ·intro i h1 h2
  simp only [datTo,List.getElem_set,List.getElem_map,List.getElem_range]
  by_cases c:j = i
  ·subst c;simp
  ·rw [if_neg c]
   by_cases c2:i < j
   ·rw [if_pos c2,if_pos (by omega)]
   ·rw [if_neg c2,if_neg (by omega)]
set_option maxHeartbeats 3200000 in
theorem data_yes (w:World) {k x:Nat} (hk:1 <= k) (hk2:k <= 255) (hx:x < 256) :
 Calls Tryz.prog 12 #[.int .i64 (k:Int),.int .u8 (x:Int)] w fun e w'=>∃ p n c,e = .returned (.slice p n c) /\ Own w.heap.size w' (.slice p n c) (datL k x) /\ w.grownBy w' none:=by
 obtain ⟨n,hn⟩:∃ n,n = k * 448:=⟨_,rfl⟩
 have hw:IntKind.i64.wrap ((k:Int) * 448) = (n:Int):=by
  have e:(k:Int) * 448 = (n:Int):=by omega
  rw [e]
  exact IntWalk.i64_in _ (by omega)
 have hnl:n <= 200000:=by omega
 have HN:Hid (n = k * 448 /\ k <= 255):=⟨hn,hk2⟩
 clear hn hk hk2
 go_enter Tryz.func12,Tryz.ntmps12
 go_wp2_with (at_make;refine wpList_make_vec rfl _ _ rfl n rfl rfl (by omega) ?_;intro w1 p o1 g1;have O1:Hid (Own w.heap.size w1 (.slice p n n) (List.replicate n 0)):=o1;have G1:Hid (w.grownBy w1 none):=g1;clear o1 g1)
 clear hw
 go_loopw [12] (fun ti wr=>∃ j:Nat,j <= n /\ ti = .int .i64 j /\ Hid (Own w.heap.size wr (.slice p n n) (datTo k x j)) /\ Hid (w.grownBy wr none)) (fun ti _=>n - (intOf ti).toNat)
 case atStart=>exact ⟨0,by omega,rfl,by rw [datTo_zero,<- HN.out.1];exact O1.out,G1⟩
 case round =>
  clear O1 G1
  obtain ⟨j,hj,rfl,OK,GK⟩:=hrel
  by_cases hlt:j < n
  ·have i3:(j:Int) < (n:Int):=by omega
   have i4:(0:Int) <= (j:Int):=by omega
   have hlo:=OK.out.lo
   obtain ⟨b,hpb,_,hr,hf,hb,hset,hgr⟩:=OK.out.spot (k:=j) (by have:=HN.out;simp [datTo];omega)
   subst hpb
   have HLO:Hid (w.heap.size <= b):=hlo b rfl
   have HS:Hid (∀ z:Nat,z < 256 -> Own w.heap.size (wr.setCell ⟨b,j,none⟩ (.int .u8 (z:Int))) (.slice (some ⟨b,0,none⟩) n n) ((datTo k x j).set j z)):=hset
   have HG:Hid (∀ u,wr.grownBy (wr.setCell ⟨b,j,none⟩ u) (some b)):=hgr
   clear hlo hset hgr hb OK
   go_wp2
   have HV:((x:Int) + (j:Int) % 251 + (j:Int) / 448) % 256 = ((dat8 x j:Nat):Int):=by unfold dat8;omega
   rw [HV]
   go_roundw
   case rel=>exact ⟨j + 1,by omega,by go_num,(by
    have h1:=HS.out (dat8 x j) (by unfold dat8;omega)
    rw [datTo_succ k x (by have:=HN.out;omega)] at h1
    exact h1),grown_new GK.out (HG.out _) (fun i e=>by have:=Option.some.inj e;have:=HLO.out;omega)⟩
   case measure=>simp [intOf];omega
  ·have i3:¬ (j:Int) < (n:Int):=by omega
   have hjn:Hid (j = k * 448):=by show _ = _;have:=HN.out;omega
   go_wp2
   go_ret
   exact ⟨_,_,_,rfl,by rw [<- datTo_all,<- hjn.out];exact OK.out,GK.out⟩
theorem wrTo_len (R:AM.Raw) (g:SP.Geo) (slot m:Nat) (E:List (List Nat)):∀ d,(SP.wrTo R g slot m E d).2.L.length <= R.L.length + 8 * d
 | 0=>by simp [SP.wrTo]
 | d + 1=>by
   have:=wrTo_len R g slot m E d
   unfold SP.wrTo
   split
   ·have:=layTo_len (SP.wrTo R g slot m E d).2 g slot d (CM.secs m (E.getD d []) 8) 8
    unfold SP.lays
    omega
   ·omega
section
variable {F F':Nat -> Prop} {w w':World} {s a:Nat} {g:SP.Geo} {R R':AM.Raw}
theorem sencode (hg:g.Ok R) {u:Value} {us:List Value} {xs:List Nat} (hl:xs.length = g.k * 448) (hm:Mat w u us (SP.parts xs g.k)) :
 Calls Tryz.prog 58 #[.int .i64 (g.k:Int),.int .i64 (g.n:Int),u] w fun e w'=>∃ p n c us',e = .returned (.tuple #[.slice p n c,.int .i64 0]) /\ OwnMat w.heap.size w' (.slice p n c) us' (SP.code g xs) /\ w.grownBy w' none:=by
 have hf:=SP.parts_fits hg hl
 have e1:encL (g.k:Int) (g.n:Int) (SP.parts xs g.k) = SP.code g xs:=by
  unfold encL SP.code
  rw [if_pos hf,Int.toNat_natCast,Int.toNat_natCast,(SP.parts_shape hl).row 0 (by have:=hg.k1;omega)]
 have e2:encE (g.k:Int) (g.n:Int) (SP.parts xs g.k) = 0:=if_pos hf
 have:=encode_all (g.k:Int) (g.n:Int) hm
 rw [e1,e2] at this
 refine this.mono ?_
 rintro e w' ⟨p,n,c,us',rfl,h1,_,h2⟩
 exact ⟨p,n,c,us',rfl,h1,h2⟩
theorem swrite_err (h:SI F w s a g R) {slot:Int} {m:Nat} {v:Value} (hy:SP.why R g slot ≠ 0) :
 Calls Tryz.prog 13 #[ptr s,.int .i64 slot,.int .u64 (m:Int),v] w fun e w'=>e = .returned (.int .i64 (SP.why R g slot:Int)) /\ w' = w:=by
 obtain ⟨y,hy1⟩:∃ y,y = SP.why R g slot:=⟨_,rfl⟩
 have HR:Hid (Calls Tryz.prog 57 #[ptr s,.int .i64 slot] w fun e w''=>e = .returned (.int .i64 (y:Int)) /\ w'' = w):=by rw [hy1];exact sreach_yes h slot
 rw [<- hy1] at hy ⊢
 have hne:((y:Int) != 0) = true:=neb_yes (b:=0) hy
 clear h hy hy1
 go_enter Tryz.func13,Tryz.ntmps13
 go_wp2_with (go_at_call 57;refine HR.out.mono ?_;rintro e w9 ⟨rfl,hw9⟩;obtain rfl:=hw9.symm;clear hw9)
 go_ret
 exact ⟨rfl,rfl⟩
theorem swrite_arg (h:SI F w s a g R) {slot:Int} {m:Nat} {v:Value} {xs:List Nat} (hv:Vec w v xs) (hy:SP.why R g slot = 0) (ha:m = 0 \/ xs.length ≠ g.k * 448) :
 Calls Tryz.prog 13 #[ptr s,.int .i64 slot,.int .u64 (m:Int),v] w fun e w'=>e = .returned (.int .i64 1) /\ w' = w:=by
 obtain ⟨q,N,cap,rfl,hN⟩:=hv.opened
 have HR:Hid (Calls Tryz.prog 57 #[ptr s,.int .i64 slot] w fun e w''=>e = .returned (.int .i64 0) /\ w'' = w):=sreach_at h (by rw [hy];rfl)
 have c1:=h.at2
 have hk:g.k <= 255:=by have:=h.ok.kn;have:=h.ok.n255;omega
 have hw:IntKind.i64.wrap ((g.k:Int) * 448) = (g.k:Int) * 448:=IntWalk.i64_in _ (by omega)
 by_cases hm:m = 0
 ·subst hm
  clear h hy ha hv hN
  go_enter Tryz.func13,Tryz.ntmps13
  go_wp2_with (go_at_call 57;refine HR.out.mono ?_;rintro e w9 ⟨rfl,hw9⟩;obtain rfl:=hw9.symm;clear hw9)
  go_ret
  exact ⟨rfl,rfl⟩
 ·have i1:((m:Int) == 0) = false:=eqb_no (b:=0) hm
  have i2:((N:Int) != (g.k:Int) * 448) = true:=by
   have:N ≠ g.k * 448:=by rcases ha with h' | h' <;> omega
   have:=neb_yes this
   rwa [Int.natCast_mul] at this
  clear h hy ha hv hN
  go_enter Tryz.func13,Tryz.ntmps13
  go_wp2_with (go_at_call 57;refine HR.out.mono ?_;rintro e w9 ⟨rfl,hw9⟩;obtain rfl:=hw9.symm;clear hw9)
  go_ret
  exact ⟨rfl,rfl⟩
set_option maxHeartbeats 6400000 in
theorem swrite_few (h:SI F w s a g R) {slot:Int} {m:Nat} {v:Value} {xs:List Nat} (hv:Vec w v xs) (hy:SP.why R g slot = 0) (hm:m ≠ 0) (hl:xs.length = g.k * 448) (ho:R.ons < g.k) :
 Calls Tryz.prog 13 #[ptr s,.int .i64 slot,.int .u64 (m:Int),v] w fun e w'=>e = .returned (.int .i64 20) /\ w.grownBy w' none:=by
 obtain ⟨q,N,cap,rfl,hN⟩:=hv.opened
 have HR:Hid (Calls Tryz.prog 57 #[ptr s,.int .i64 slot] w fun e w''=>e = .returned (.int .i64 0) /\ w'' = w):=sreach_at h (by rw [hy];rfl)
 have c1:=h.at2
 have HS:Hid (∀ w',w.grownBy w' none -> w'.cell? ⟨s,0,none⟩ = some (ptr a) /\ w'.cell? ⟨s,1,none⟩ = some (.int .i64 (g.k:Int))):=fun w' g'=>⟨(h.keep g').at1,(h.keep g').at2⟩
 obtain ⟨O,hO⟩:∃ O,O = R.ons:=⟨_,rfl⟩
 have HO:Hid (Calls Tryz.prog 46 #[ptr a] (w.drewN 1) fun e w'=>e = .returned (.int .i64 (O:Int)) /\ w' = w.drewN 1):=by rw [hO];exact ons_yes (h.i.keep (grown_drewN w 1))
 have hk:g.k <= 255:=by have:=h.ok.kn;have:=h.ok.n255;omega
 have hw:IntKind.i64.wrap ((g.k:Int) * 448) = (g.k:Int) * 448:=IntWalk.i64_in _ (by omega)
 have i1:((m:Int) == 0) = false:=eqb_no (b:=0) hm
 have i2:((N:Int) != (g.k:Int) * 448) = false:=by
  have:N = g.k * 448:=by omega
  have:=neb_no this
  rwa [Int.natCast_mul] at this
 have i3:(O:Int) < (g.k:Int):=by omega
 clear h hy hv hN hm hl ho hO hk
 go_enter Tryz.func13,Tryz.ntmps13
 go_wp2_with (first | (go_at_call 57;refine HR.out.mono ?_;rintro e w9 ⟨rfl,hw9⟩;obtain rfl:=hw9.symm;clear hw9) | fail)
 go_region_held3 (fun w'=>w'.cell? ⟨s,0,none⟩ = some (ptr a) /\ w'.cell? ⟨s,1,none⟩ = some (.int .i64 (g.k:Int))) (exact HS.out _ (grown_drewN w 1))
  ((go_at_call 46;refine HO.out.mono ?_;rintro e w9 ⟨rfl,hw9⟩;obtain rfl:=hw9.symm;clear hw9))
 go_wp2
 go_ret
 exact ⟨rfl,grown_drewN w 1⟩
set_option maxHeartbeats 6400000 in
theorem swrite_main (h:SI F w s a g R) {slot m:Nat} {v:Value} {xs:List Nat} (hv:Aw F w v xs) (hL:R.L.length <= 990000) (hy:SP.why R g (slot:Int) = 0) (hm:m ≠ 0) (hl:xs.length = g.k * 448) (ho:¬ R.ons < g.k) :
 Calls Tryz.prog 13 #[ptr s,.int .i64 (slot:Int),.int .u64 (m:Int),v] w fun e w'=>e = .returned (.int .i64 ((SP.wrTo R g slot m (SP.code g xs) g.n).1:Int)) /\ ∃ F',SI F' w' s a g (SP.wrTo R g slot m (SP.code g xs) g.n).2 /\ Step F w F' w':=by
 obtain ⟨q,N,cap,rfl,hN⟩:=hv.vec.opened
 have HR:Hid (Calls Tryz.prog 57 #[ptr s,.int .i64 (slot:Int)] w fun e w''=>e = .returned (.int .i64 0) /\ w'' = w):=sreach_at h (by rw [hy];rfl)
 obtain ⟨q0,q1,q2⟩:=SP.why_zero hy
 have c1:=h.at2
 have H:Hid (SI F w s a g R):=h
 have HS:Hid (∀ w',w.grownBy w' none -> w'.cell? ⟨s,0,none⟩ = some (ptr a) /\ w'.cell? ⟨s,1,none⟩ = some (.int .i64 (g.k:Int)) /\ w'.cell? ⟨s,2,none⟩ = some (.int .i64 (g.n:Int))):=fun w' g'=>⟨(h.keep g').at1,(h.keep g').at2,(h.keep g').at3⟩
 obtain ⟨O,hO⟩:∃ O,O = R.ons:=⟨_,rfl⟩
 have HO:Hid (Calls Tryz.prog 46 #[ptr a] (w.drewN 1) fun e w'=>e = .returned (.int .i64 (O:Int)) /\ w' = w.drewN 1):=by rw [hO];exact ons_yes (h.i.keep (grown_drewN w 1))
 have hk:g.k <= 255:=by have:=h.ok.kn;have:=h.ok.n255;omega
 have hw:IntKind.i64.wrap ((g.k:Int) * 448) = (g.k:Int) * 448:=IntWalk.i64_in _ (by omega)
 have i1:((m:Int) == 0) = false:=eqb_no (b:=0) hm
 have i2:((N:Int) != (g.k:Int) * 448) = false:=by
  have:N = g.k * 448:=by omega
  have:=neb_no this
  rwa [Int.natCast_mul] at this
 have i3:¬ (O:Int) < (g.k:Int):=by omega
 have PA:Hid (∀ w',w.grownBy w' none -> Calls Tryz.prog 59 #[.slice q N cap] w' fun e w''=>∃ u us,e = .returned u /\ Mat w'' u us (SP.parts xs g.k) /\ w'.grownBy w'' none):=fun w' g1=>sparts_yes (hv.vec.keep g1) h.ok.k1 hk hl
 have EN:Hid (∀ w' u us,Mat w' u us (SP.parts xs g.k) -> Calls Tryz.prog 58 #[.int .i64 (g.k:Int),.int .i64 (g.n:Int),u] w' fun e w''=>∃ p n c us',e = .returned (.tuple #[.slice p n c,.int .i64 0]) /\ OwnMat w'.heap.size w'' (.slice p n c) us' (SP.code g xs) /\ w'.grownBy w'' none):=fun w' u us m1=>sencode h.ok hl m1
 have HN:Hid (slot < g.s /\ R.L.length <= 990000 /\ m ≠ 0 /\ g.n <= 255):=⟨by omega,hL,hm,h.ok.n255⟩
 have hn255:g.n <= 255:=h.ok.n255
 have HRow:Hid (∀ d,d < g.n -> ((SP.code g xs).getD d []).length = 448):=fun d hd=>SP.code_row g xs hd
 have HCL:Hid ((SP.code g xs).length = g.n):=SP.code_len g xs
 have HK:Hid (∀ d,SP.Kept R (SP.wrTo R g slot m (SP.code g xs) d).2):=SP.wrTo_kept R g slot m (SP.code g xs)
 have HLL:Hid (∀ d,(SP.wrTo R g slot m (SP.code g xs) d).2.L.length <= R.L.length + 8 * d):=wrTo_len R g slot m (SP.code g xs)
 have HX0:Hid (SP.wrTo R g slot m (SP.code g xs) 0 = (0,R)):=rfl
 have HX1:Hid (∀ d:Nat,(SP.wrTo R g slot m (SP.code g xs) d).1 = 0 -> R.on (d:Int) = true -> SP.wrTo R g slot m (SP.code g xs) (d + 1) = SP.lays (SP.wrTo R g slot m (SP.code g xs) d).2 g slot d m ((SP.code g xs).getD d [])):=fun d h0 h1=>SP.wrTo_on h0 h1
 have HX2:Hid (∀ d:Nat,R.on (d:Int) = false -> SP.wrTo R g slot m (SP.code g xs) (d + 1) = SP.wrTo R g slot m (SP.code g xs) d):=fun d h1=>SP.wrTo_off h1
 have HX3:Hid (∀ d,d <= g.n -> (SP.wrTo R g slot m (SP.code g xs) d).1 ≠ 0 -> SP.wrTo R g slot m (SP.code g xs) g.n = SP.wrTo R g slot m (SP.code g xs) d):=fun d hd h0=>SP.wrTo_stop h0 g.n hd
 clear h hy hv hN hm hl ho hO hk q0 q1 q2 hL
 generalize SP.wrTo R g slot m (SP.code g xs) = WT at *
 generalize SP.code g xs = E at *
 go_enter Tryz.func13,Tryz.ntmps13
 go_wp2_with (first | (go_at_call 57;refine HR.out.mono ?_;rintro e w9 ⟨rfl,hw9⟩;obtain rfl:=hw9.symm;clear hw9) | fail)
 go_region_held3 (fun w'=>w'.cell? ⟨s,0,none⟩ = some (ptr a) /\ w'.cell? ⟨s,1,none⟩ = some (.int .i64 (g.k:Int))) (exact ⟨(HS.out _ (grown_drewN w 1)).1,(HS.out _ (grown_drewN w 1)).2.1⟩)
  ((go_at_call 46;refine HO.out.mono ?_;rintro e w9 ⟨rfl,hw9⟩;obtain rfl:=hw9.symm;clear hw9))
 go_wp2_with fail
 clear c1 hw i1 i2 i3 HO HR
 go_region_held3 (fun w'=>w'.cell? ⟨s,1,none⟩ = some (.int .i64 (g.k:Int)) /\ w'.cell? ⟨s,2,none⟩ = some (.int .i64 (g.n:Int))) (first | exact ⟨(HS.out _ (grown_trans (grown_drewN w 1) (grown_drewN _ 1))).2.1,(HS.out _ (grown_trans (grown_drewN w 1) (grown_drewN _ 1))).2.2⟩ | exact ⟨(HS.out _ G2.out).2.1,(HS.out _ G2.out).2.2⟩ | exact ⟨(HS.out _ G3.out).2.1,(HS.out _ G3.out).2.2⟩)
  ((first
    | (go_at_call 59;refine (PA.out _ (grown_trans (grown_drewN w 1) (grown_drewN _ 1))).mono ?_;rintro e w2 ⟨u,us,rfl,m2,g2⟩;have M2:Hid (Mat w2 u us (SP.parts xs g.k)):=m2;have G2:Hid (w.grownBy w2 none):=grown_trans (grown_trans (grown_drewN w 1) (grown_drewN _ 1)) g2;clear m2 g2)
    | (go_at_call 58;refine (EN.out _ _ _ M2.out).mono ?_;rintro e w3 ⟨p3,n3,c3,us3,rfl,m3,g3⟩;have M3:Hid (OwnMat w.heap.size w3 (.slice p3 n3 c3) us3 E):=m3.down G2.out.size;have G3:Hid (w.grownBy w3 none):=grown_trans G2.out g3;clear m3 g3)))
 have HN3:Hid (n3 = g.n /\ us3.length = g.n):=by
  have h1:=M3.out.same
  have h2:=HCL.out
  have h3:=(mat_n M3.out.mat).1
  exact ⟨by omega,by omega⟩
 have hn3:n3 = g.n:=HN3.out.1
 have S3:Hid (SI F w3 s a g R):=H.out.keep G3.out
 clear PA EN M2 G2
 subst hn3
 go_wp2_with fail
 go_loopw [66] (fun ti wr=>∃ k:Nat,k <= g.n /\ ti = .int .i64 k /\ Hid ((WT k).1 = 0) /\ Hid (∃ F',SI F' wr s a g (WT k).2 /\ Step F w3 F' wr)) (fun ti _=>g.n - (intOf ti).toNat)
 case atStart=>exact ⟨0,by omega,rfl,(by show _ = _;rw [HX0.out]),⟨F,by rw [HX0.out];exact S3.out,Step.refl _ _⟩⟩
 case round =>
  clear S3
  obtain ⟨k,hk,rfl,OK,HRR⟩:=hrel
  obtain ⟨F1,i1,st1⟩:=HRR.out
  have I1:Hid (SI F1 wr s a g (WT k).2):=i1
  have T1:Hid (Step F w3 F1 wr):=st1
  clear HRR i1 st1
  by_cases hlt:k < g.n
  ·have i4:(k:Int) < (g.n:Int):=by omega
   have i5:(0:Int) <= (k:Int):=by omega
   obtain ⟨b0,off,rfl,hr0⟩:=M3.out.mat.row.spot (k:=k) (by have:=HN3.out;omega)
   obtain ⟨pk,nk,ck,ek,hnk⟩:=(M3.out.mat.vec k (by have:=HCL.out;omega)).opened
   have hbk:¬ F b0:=fun hf=>by
    have h1:=M3.out.out.lo b0 rfl
    have h2:=H.out.i.lt b0 hf
    omega
   have hr:=T1.out.upd.cell hr0 hbk
   have AV:Hid (Vec wr (.slice pk nk ck) (E.getD k [])):=by
    have hv:=M3.out.vec k (by have:=HCL.out;omega)
    rw [ek] at hv
    exact hv.vec.upd T1.out.upd (fun _ g' hg' hf=>by
     have h1:=hv.lo g' hg'
     have h2:=H.out.i.lt g' hf
     omega)
   rw [ek] at hr
   have c0:=I1.out.at1
   clear hr0 ek hnk hbk
   obtain ⟨o,ho⟩:∃ o,o = R.on (k:Int):=⟨_,rfl⟩
   have ON:Hid (Calls Tryz.prog 51 #[ptr a,.int .i64 (k:Int)] wr fun e w'=>e = .returned (.bool o) /\ w' = wr):=by
    rw [ho,<- (HK.out k).on];exact on_yes I1.out.i (k:Int)
   cases o
   ·have HX:Hid (WT (k + 1) = WT k):=HX2.out k ho.symm
    clear ho
    go_wp2_with (go_at_call 51;refine ON.out.mono ?_;rintro e w9 ⟨rfl,hw9⟩;obtain rfl:=hw9.symm;clear hw9)
    go_roundw
    case rel=>exact ⟨k + 1,by omega,by go_num,(by show _ = _;rw [HX.out];exact OK.out),⟨F1,by rw [HX.out];exact I1.out,T1.out⟩⟩
    case measure=>simp [intOf];omega
   ·have HX:=HX1.out k OK.out ho.symm
    obtain ⟨c,hc⟩:∃ c,c = (WT (k + 1)).1:=⟨_,rfl⟩
    have LA:Hid (Calls Tryz.prog 60 #[ptr s,.int .i64 (k:Int),.int .i64 (slot:Int),.int .u64 (m:Int),.slice pk nk ck] wr fun e w'=>e = .returned (.int .i64 (c:Int)) /\ ∃ F',SI F' w' s a g (WT (k + 1)).2 /\ Step F w3 F' w'):=by
     rw [hc,HX]
     refine (slay_any I1.out (d:=k) HN.out.1 AV.out HN.out.2.2.1 (HRow.out k hlt) (by have h1:=HLL.out k;have h2:=HN.out.2.1;omega)).mono ?_
     rintro e w9 ⟨rfl,F9,i9,s9⟩
     exact ⟨rfl,F9,i9,T1.out.trans s9⟩
    have HCE:Hid (c = (WT (k + 1)).1):=hc
    clear ho HX hc AV
    by_cases h0:c = 0
    ·subst h0
     go_wp2_with (first
      | (go_at_call 51;refine ON.out.mono ?_;rintro e w9 ⟨rfl,hw9⟩;obtain rfl:=hw9.symm;clear hw9)
      | (go_at_call 60;refine LA.out.mono ?_;rintro e w4 ⟨rfl,F4,i4',st4⟩;have I4:Hid (SI F4 w4 s a g (WT (k + 1)).2):=i4';have T4:Hid (Step F w3 F4 w4):=st4;clear i4' st4))
     go_roundw
     case rel=>exact ⟨k + 1,by omega,by go_num,HCE.out.symm,⟨F4,I4.out,T4.out⟩⟩
     case measure=>simp [intOf];omega
    ·have hne:((c:Int) != 0) = true:=neb_yes (b:=0) h0
     have HEQ:Hid (WT g.n = WT (k + 1)):=HX3.out (k + 1) (by omega) (by rw [<- HCE.out];exact h0)
     go_wp2_with (first
      | (go_at_call 51;refine ON.out.mono ?_;rintro e w9 ⟨rfl,hw9⟩;obtain rfl:=hw9.symm;clear hw9)
      | (go_at_call 60;refine LA.out.mono ?_;rintro e w4 ⟨rfl,F4,i4',st4⟩;have I4:Hid (SI F4 w4 s a g (WT (k + 1)).2):=i4';have T4:Hid (Step F w3 F4 w4):=st4;clear i4' st4))
     go_ret
     rw [HEQ.out,<- HCE.out]
     exact ⟨rfl,F4,I4.out,(Step.new G3.out).trans T4.out⟩
  ·have i4:¬ (k:Int) < (g.n:Int):=by omega
   have hkn:Hid (k = g.n):=by show _ = _;omega
   go_wp2
   go_ret
   rw [<- hkn.out,OK.out]
   exact ⟨rfl,F1,I1.out,(Step.new G3.out).trans T1.out⟩
theorem swrite_all (h:SI F w s a g R) (slot:Int) (m:Nat) {v:Value} {xs:List Nat} (hv:Aw F w v xs) (hL:R.L.length <= 990000) :
 Calls Tryz.prog 13 #[ptr s,.int .i64 slot,.int .u64 (m:Int),v] w fun e w'=>e = .returned (.int .i64 ((SP.write R g slot m xs).1:Int)) /\ ∃ F',SI F' w' s a g (SP.write R g slot m xs).2 /\ Step F w F' w':=by
 unfold SP.write
 by_cases hy:SP.why R g slot = 0
 ·rw [if_neg (by omega)]
  by_cases ha:m = 0 \/ xs.length ≠ g.k * 448
  ·rw [if_pos ha]
   refine (swrite_arg h hv.vec hy ha).mono ?_
   rintro e w' ⟨rfl,rfl⟩
   exact ⟨rfl,F,h,Step.refl _ _⟩
  ·rw [if_neg ha]
   by_cases ho:R.ons < g.k
   ·rw [if_pos ho]
    refine (swrite_few h hv.vec hy (by omega) (by omega) ho).mono ?_
    rintro e w' ⟨rfl,g1⟩
    exact ⟨rfl,F,h.keep g1,Step.new g1⟩
   ·rw [if_neg ho]
    obtain ⟨_,q1,_⟩:=SP.why_zero hy
    obtain ⟨n,rfl⟩:∃ n:Nat,slot = (n:Int):=⟨slot.toNat,by omega⟩
    rw [Int.toNat_natCast]
    exact swrite_main h hv hL hy (by omega) (by omega) ho
 ·rw [if_pos hy]
  refine (swrite_err h hy).mono ?_
  rintro e w' ⟨rfl,rfl⟩
  exact ⟨rfl,F,h,Step.refl _ _⟩
end
def gA:SP.Geo:=⟨2,3,1,3⟩
end Go.Proofs.YtaalagkbpeinkaaGreat
