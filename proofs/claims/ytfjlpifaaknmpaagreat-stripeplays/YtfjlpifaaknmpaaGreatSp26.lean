/- Packed: Var8, PT8, PA8, PB8, PC8, PlS8, Rpt8, Data8. -/
import Derived.Test.YtfjlpifaaknmpaaGreatSp25
set_option linter.unusedSimpArgs false
set_option linter.unusedVariables false
set_option maxRecDepth 100000
namespace Go.Proofs.YtfjlpifaaknmpaaGreat
open Go.RowKit
theorem zeroAct8:(Tryz.prog.info? 42).map (fun i=>(i.zero,i.size,i.bytes)) = some (some (.agg #[.int .i64 0,.int .i64 0,.int .i64 0,.int .u64 0,.int .u8 0,.slice none 0 0,.bool false]),7,72):=by kernel_rfl
theorem run_zeroAct8 (w:World):(zeroValue 42).run Tryz.prog w = .ok (.agg #[.int .i64 0,.int .i64 0,.int .i64 0,.int .u64 0,.int .u8 0,.slice none 0 0,.bool false]) w:=by
 obtain ⟨i,hi,h0,h1,h2⟩:=info_parts zeroAct8
 simp [zeroValue,typeInfo,hi,h0]
theorem Tryz.sizeAct8:(Tryz.prog.info? 42).map (·.size) = some 7:=by kernel_rfl
theorem ActOk8.one {w:World} {c:ActR8} (h:ActOk8 w c):∀ u ∈ acells8 c,u.oneCell' = true:=by
 intro u hu
 obtain ⟨p,n,cap,e,_⟩:=h.vec.opened
 simp only [acells8,e,List.mem_cons,List.not_mem_nil,or_false] at hu
 rcases hu with rfl | rfl | rfl | rfl | rfl | rfl | rfl <;> rfl
structure Laid8 (w:World) (b o bk:Nat) (AR:Array Value) (c:ActR8):Prop where
 ar:AR = (acells8 c).toArray
 range:w.rangeAt b o (acells8 c)
 size:(Tryz.prog.info? 42).map (·.size) = some AR.size
 six:AR.size = 7
 one:AR.all (·.oneCell') = true
 ok:ActOk8 w c
theorem laid8 {w:World} {b o:Nat} {c:ActR8} (h:w.rangeAt b o (acells8 c)) (hc:ActOk8 w c):∃ AR,Laid8 w b o w.heap.size AR c :=
 ⟨_,rfl,h,Tryz.sizeAct8,rfl,all_oneCell_toArray hc.one,hc⟩
theorem Laid8.size2 {w:World} {b o bk:Nat} {AR:Array Value} {c:ActR8} (h:Laid8 w b o bk AR c):(Tryz.prog.info? 42).map (·.size) = some (acells8 c).length:=Tryz.sizeAct8
theorem wpList_load_act8 {w:World} {ops:Array Oper} {rest:List Oper} {op:Oper} {a:Act} {Q:Exit -> Act -> World -> Prop} (hgd:op.guard = none) (x:Operand) (ho:op.op = .load 42 x) {b o bk:Nat} {AR:Array Value} {c:ActR8} (hx:a.eval x = .pointer (some ⟨b,o,none⟩)) (hl:Laid8 w b o bk AR c)
 (h:wpList Tryz.prog ops Q rest (a.put op.dst (.agg AR)) w):wpList Tryz.prog ops Q (op :: rest) a w:=by
 refine wpList_load_mid hgd 42 x ho b o hx (acells8 c) _ hl.range Tryz.underlying42 rfl hl.size2 ?_
 rw [<- hl.ar]
 exact h
theorem wpList_store_act8 {w:World} {ops:Array Oper} {rest:List Oper} {op:Oper} {a:Act} {Q:Exit -> Act -> World -> Prop} (hgd:op.guard = none) (x y:Operand) (ho:op.op = .store 42 x y) {b o bk:Nat} {AR:Array Value} {c:ActR8} {w0:World} (hl:Laid8 w0 b o bk AR c) {ZR:Array Value} (hz:ZR.size = 7)
 (hx:a.eval x = .pointer (some ⟨w0.heap.size,0,none⟩)) (hy:a.eval y = .agg AR) (hw:w = w0.alloc (.cells ZR 42))
 (h:∀ w',w'.heap[w0.heap.size]? = some (.cells AR 42 (0,0)) -> w0.grownBy w' none -> wpList Tryz.prog ops Q rest (a.put op.dst undef) w'):wpList Tryz.prog ops Q (op :: rest) a w:=by
 subst hw
 refine wpList_store_row hgd 42 x y ho w0.heap.size AR hx hy 42 ZR (heap_alloc_new w0 _) hl.size (by rw [hz,hl.six]) hl.one ?_
 rw [World.setRow_alloc_new]
 exact h _ (heap_alloc_new w0 _) (World.grownBy_alloc _ _ none)
structure Var8 (w:World) (bk:Nat) (c:ActR8):Prop where
 heap:w.heap[bk]? = some (.cells (acells8 c).toArray 42 (0,0))
theorem Var8.cell {w:World} {bk:Nat} {c:ActR8} (h:Var8 w bk c):w.cell? ⟨bk,0,none⟩ = some (.int .i64 c.what) /\ w.cell? ⟨bk,1,none⟩ = some (.int .i64 c.disk) /\ w.cell? ⟨bk,2,none⟩ = some (.int .i64 c.at_) /\ w.cell? ⟨bk,3,none⟩ = some (.int .u64 (c.mark:Int)) /\ w.cell? ⟨bk,4,none⟩ = some (.int .u8 (c.x:Int)) /\ w.cell? ⟨bk,5,none⟩ = some c.bval /\ w.cell? ⟨bk,6,none⟩ = some (.bool c.short) :=
 ⟨topCell h.heap rfl,topCell h.heap rfl,topCell h.heap rfl,topCell h.heap rfl,topCell h.heap rfl,topCell h.heap rfl,topCell h.heap rfl⟩
theorem Var8.step {F F':Nat -> Prop} {w w':World} {bk:Nat} {c:ActR8} (h:Var8 w bk c) (s:Step F w F' w') (hF:¬ F bk):Var8 w' bk c /\ ¬ F' bk:=by
 have hlt:bk < w.heap.size:=(Array.getElem?_eq_some_iff.1 h.heap).1
 refine ⟨⟨by rw [s.upd.block bk hlt hF];exact h.heap⟩,fun hf=>?_⟩
 rcases s.sub bk hf with h1 | h1
 ·exact hF h1
 ·omega
theorem Var8.keep {w w':World} {bk:Nat} {c:ActR8} (h:Var8 w bk c) (g:w.grownBy w' none):Var8 w' bk c :=
 ⟨by rw [g.block bk (Array.getElem?_eq_some_iff.1 h.heap).1 (by simp)];exact h.heap⟩
end Go.Proofs.YtfjlpifaaknmpaaGreat
namespace Go.Proofs.YtfjlpifaaknmpaaGreat
namespace SP
def cont (C:List AM.Disk) (g:Geo) (slot d i:Nat):List Nat:=AM.look C d (g.f + 8 * slot + i)
theorem look_lay {n:Nat} {C:List AM.Disk} (hC:AM.OkC n C) {d k e j:Nat} {b:List Nat} (hd:∃ xs,C[d]? = some (some xs)) (hk:k < n) (hb:b.length = 64) :
 AM.look (AM.lay C d k b) e j = if e = d /\ j = k then b else AM.look C e j:=by
 obtain ⟨xs,hx⟩:=hd
 obtain ⟨h1,h2⟩:=hC d xs hx
 by_cases c:e = d
 ·subst c
  rw [AM.look_at _ (AM.lay_at k b hx),AM.look_at _ hx]
  by_cases c2:j = k
  ·subst c2
   rw [if_pos ⟨rfl,rfl⟩,AM.sec_put_same hb (by rw [h1];exact AM.fits hk)]
  ·rw [if_neg (fun h=>c2 h.2),AM.sec_put_ne hb (by rw [h1];exact AM.fits hk) c2]
 ·rw [if_neg (fun h=>c h.1)]
  unfold AM.look
  simp only [List.getD,AM.lay_ne k b c]
theorem writes_ok {R:AM.Raw} {d k:Nat} {b:List Nat} (h:(R.writes (d:Int) (k:Int) b).1 = 0):(R.writes (d:Int) (k:Int) b).2 = R.burnt.fly d k b /\ (∃ xs,R.C[d]? = some (some xs)) /\ k < R.n /\ b.length = 64 /\ R.off = false:=by
 unfold AM.Raw.writes at h ⊢
 by_cases h1:R.reach (d:Int) (k:Int) = 0
 ·rw [if_neg (by omega)] at h ⊢
  obtain ⟨h2,_,_,_,h3,h4⟩:=AM.reach_zero h1
  by_cases h5:b.length = 64
  ·rw [if_neg (by omega)] at h ⊢
   by_cases h6:R.burns = true
   ·rw [if_pos h6] at h;simp at h
   ·rw [if_neg h6]
    exact ⟨by simp,by simpa using h4,by omega,h5,h2⟩
  ·rw [if_pos h5] at h;simp at h
 ·rw [if_pos h1] at h;exact absurd h h1
theorem writes_no {R:AM.Raw} {d k:Int} {b:List Nat} (h:(R.writes d k b).1 ≠ 0):(R.writes d k b).2.C = R.C /\ (R.writes d k b).2.L = R.L:=by
 unfold AM.Raw.writes at h ⊢
 split
 ·exact ⟨rfl,rfl⟩
 ·split
  ·exact ⟨rfl,rfl⟩
  ·split
   ·exact ⟨(AM.burnt_C R).1,(AM.burnt_C R).2.2⟩
   ·rename_i h1 h2 h3
    rw [if_neg h1,if_neg h2,if_neg h3] at h
    simp at h
structure Mid (C0:List AM.Disk) (g:Geo) (slot:Nat) (new:Nat -> Nat -> List Nat) (R:AM.Raw):Prop where
 ok:R.Ok
 mix:∀ d i,i < 8 -> cont R.C g slot d i = cont C0 g slot d i \/ cont R.C g slot d i = new d i
 fly:∀ l ∈ R.L,∃ i,i < 8 /\ l.k = g.f + 8 * slot + i /\ l.now = new l.d i
 undo:AM.undoTo R.C R.L 0 = C0
theorem writes_Ok {R:AM.Raw} (ok:R.Ok) {d k:Nat} {b:List Nat} (hs:∀ x ∈ b,x < 256):(R.writes (d:Int) (k:Int) b).2.Ok:=by
 unfold AM.Raw.writes
 by_cases h1:R.reach (d:Int) (k:Int) = 0
 ·rw [if_neg (by omega)]
  obtain ⟨h2,_,_,_,h3,h4⟩:=AM.reach_zero h1
  split
  ·exact ok
  ·rename_i h5
   split
   ·exact AM.Raw.Ok.burnt ok
   ·have hb:=AM.burnt_C R
    refine AM.Raw.Ok.fly (AM.Raw.Ok.burnt ok) ?_ ?_ (by omega) hs
    ·rw [hb.1];simpa using h4
    ·rw [hb.2.1];simpa using (by omega:(k:Int) < R.n)
 ·rw [if_pos h1]
  exact ok
theorem Mid.write {C0:List AM.Disk} {g:Geo} {slot:Nat} {new:Nat -> Nat -> List Nat} {R:AM.Raw} (h:Mid C0 g slot new R) {d i:Nat} (hi:i < 8) (hs:∀ x ∈ new d i,x < 256) :
 Mid C0 g slot new (R.writes (d:Int) ((g.f + 8 * slot + i:Nat):Int) (new d i)).2:=by
 have ok:=writes_Ok h.ok (d:=d) (k:=g.f + 8 * slot + i) hs
 by_cases h0:(R.writes (d:Int) ((g.f + 8 * slot + i:Nat):Int) (new d i)).1 = 0
 ·obtain ⟨h1,⟨xs,hx⟩,h3,h4,_⟩:=writes_ok h0
  obtain ⟨b1,b2,b3⟩:=AM.burnt_C R
  rw [h1] at ok ⊢
  have eC:(R.burnt.fly d (g.f + 8 * slot + i) (new d i)).C = AM.lay R.C d (g.f + 8 * slot + i) (new d i):=by simp [AM.Raw.fly,b1]
  have eL:(R.burnt.fly d (g.f + 8 * slot + i) (new d i)).L = R.L ++ [⟨d,g.f + 8 * slot + i,AM.look R.C d (g.f + 8 * slot + i),new d i⟩]:=by simp [AM.Raw.fly,b1,b3]
  refine ⟨ok,fun e j hj=>?_,fun l hl=>?_,?_⟩
  ·unfold cont
   rw [eC,look_lay h.ok.C ⟨xs,hx⟩ h3 h4]
   split
   ·rename_i c
    obtain ⟨rfl,c2⟩:=c
    obtain rfl:j = i:=by omega
    exact .inr rfl
   ·exact h.mix e j hj
  ·rw [eL,List.mem_append] at hl
   rcases hl with hl | hl
   ·exact h.fly l hl
   ·obtain rfl:=List.mem_singleton.1 hl
    exact ⟨i,hi,rfl,rfl⟩
  ·rw [eC,eL,AM.undo_fly hx (by rw [(h.ok.C d xs hx).1];exact AM.fits h3) h4]
   exact h.undo
 ·obtain ⟨h1,h2⟩:=writes_no h0
  refine ⟨ok,fun e j hj=>?_,fun l hl=>?_,?_⟩
  ·rw [h1];exact h.mix e j hj
  ·rw [h2] at hl;exact h.fly l hl
  ·rw [h1,h2];exact h.undo
theorem Mid.lay {C0:List AM.Disk} {g:Geo} {slot:Nat} {new:Nat -> Nat -> List Nat} {R:AM.Raw} (h:Mid C0 g slot new R) {d:Nat} {S:List (List Nat)} (hS:∀ i,i < 8 -> S.getD i [] = new d i) (hs:∀ i,i < 8 -> ∀ x ∈ new d i,x < 256) :
 ∀ j,j <= 8 -> Mid C0 g slot new (layTo R g slot d S j).2
 | 0,_=>h
 | j + 1,hj=>by
   unfold layTo
   split
   ·rw [hS j (by omega)]
    exact (Mid.lay h hS hs j (by omega)).write (by omega) (hs j (by omega))
   ·exact Mid.lay h hS hs j (by omega)
theorem layTo_done {R:AM.Raw} (ok:R.Ok) {g:Geo} {slot d:Nat} {S:List (List Nat)} (hs:∀ i,i < 8 -> ∀ x ∈ S.getD i [],x < 256):∀ j,j <= 8 -> (layTo R g slot d S j).1 = 0 -> (layTo R g slot d S j).2.Ok /\
 ∀ e i,i < 8 -> cont (layTo R g slot d S j).2.C g slot e i = if e = d /\ i < j then S.getD i [] else cont R.C g slot e i
 | 0,_,_=>⟨ok,fun e i _=>by rw [if_neg (by omega)];rfl⟩
 | j + 1,hj,h=>by
   by_cases h0:(layTo R g slot d S j).1 = 0
   ·obtain ⟨ok',ih⟩:=layTo_done ok hs j (by omega) h0
    rw [layTo_succ h0] at h ⊢
    obtain ⟨h1,⟨xs,hx⟩,h3,h4,_⟩:=writes_ok h
    refine ⟨writes_Ok ok' (hs j (by omega)),fun e i hi=>?_⟩
    rw [h1]
    unfold cont
    have b1:=(AM.burnt_C (layTo R g slot d S j).2).1
    show AM.look (AM.lay (layTo R g slot d S j).2.burnt.C d (g.f + 8 * slot + j) (S.getD j [])) e _ = _
    rw [b1,look_lay ok'.C ⟨xs,hx⟩ h3 h4]
    by_cases c:e = d /\ i = j
    ·obtain ⟨rfl,rfl⟩:=c
     rw [if_pos ⟨rfl,rfl⟩,if_pos ⟨rfl,by omega⟩]
    ·rw [if_neg (fun h=>c ⟨h.1,by omega⟩)]
     have:=ih e i hi
     unfold cont at this
     rw [this]
     by_cases c2:e = d /\ i < j
     ·rw [if_pos c2,if_pos ⟨c2.1,by omega⟩]
     ·rw [if_neg c2,if_neg (fun h=>by rcases Nat.lt_or_ge i j with h' | h'
                                      ·exact c2 ⟨h.1,h'⟩
                                      ·exact c ⟨h.1,by omega⟩)]
   ·have:layTo R g slot d S (j + 1) = layTo R g slot d S j:=layTo_stop h0 _ (by omega)
    rw [this] at h
    exact absurd h h0
theorem wrTo_done {R:AM.Raw} (ok:R.Ok) {g:Geo} {slot m:Nat} {E:List (List Nat)} (hs:∀ d i,i < 8 -> ∀ x ∈ (CM.secs m (E.getD d []) 8).getD i [],x < 256):∀ d,(wrTo R g slot m E d).1 = 0 -> (wrTo R g slot m E d).2.Ok /\
 ∀ e i,i < 8 -> cont (wrTo R g slot m E d).2.C g slot e i = if e < d /\ R.on (e:Int) = true then (CM.secs m (E.getD e []) 8).getD i [] else cont R.C g slot e i
 | 0,_=>⟨ok,fun e i _=>by rw [if_neg (by omega)];rfl⟩
 | d + 1,h=>by
   cases ho:R.on (d:Int)
   ·rw [wrTo_off ho] at h ⊢
    obtain ⟨ok',ih⟩:=wrTo_done ok hs d h
    refine ⟨ok',fun e i hi=>?_⟩
    rw [ih e i hi]
    by_cases c:e < d /\ R.on (e:Int) = true
    ·rw [if_pos c,if_pos ⟨by omega,c.2⟩]
    ·rw [if_neg c,if_neg (fun h=>by
      by_cases e1:e = d
      ·subst e1;rw [ho] at h;exact absurd h.2 (by simp)
      ·exact c ⟨by omega,h.2⟩)]
   ·by_cases h0:(wrTo R g slot m E d).1 = 0
    ·obtain ⟨ok',ih⟩:=wrTo_done ok hs d h0
     rw [wrTo_on h0 ho] at h ⊢
     obtain ⟨ok2,ih2⟩:=layTo_done ok' (hs d) 8 (by omega) h
     refine ⟨ok2,fun e i hi=>?_⟩
     show cont (layTo _ g slot d _ 8).2.C g slot e i = _
     rw [ih2 e i hi,ih e i hi]
     by_cases c:e = d
     ·subst c
      rw [if_pos ⟨rfl,hi⟩,if_pos ⟨by omega,ho⟩]
     ·rw [if_neg (fun h=>c h.1)]
      by_cases c2:e < d /\ R.on (e:Int) = true
      ·rw [if_pos c2,if_pos ⟨by omega,c2.2⟩]
      ·rw [if_neg c2,if_neg (fun h=>c2 ⟨by omega,h.2⟩)]
    ·have:wrTo R g slot m E (d + 1) = wrTo R g slot m E d:=wrTo_stop h0 _ (by omega)
     rw [this] at h
     exact absurd h h0
theorem writes_sure {R:AM.Raw} {d k:Nat} {b:List Nat} (h0:R.off = false) (hf:R.fuse = 0) (hr:R.reach (d:Int) (k:Int) = 0) (hb:b.length = 64):(R.writes (d:Int) (k:Int) b).1 = 0 /\ (R.writes (d:Int) (k:Int) b).2.off = false /\ (R.writes (d:Int) (k:Int) b).2.fuse = 0:=by
 have e:R.burns = false:=by simp [AM.Raw.burns,hf]
 have e2:R.burnt = R:=by simp [AM.Raw.burnt,hf]
 unfold AM.Raw.writes
 rw [if_neg (by omega),if_neg (by omega),e,e2]
 simp [AM.Raw.fly,h0,hf]
theorem layTo_sure {R:AM.Raw} {g:Geo} (hg:g.Ok R) {slot d:Nat} (hs:slot < g.s) (hd:d < g.n) (h0:R.off = false) (hf:R.fuse = 0) (ho:R.on (d:Int) = true) {S:List (List Nat)} (hS:∀ i,i < 8 -> (S.getD i []).length = 64) :
 ∀ j,j <= 8 -> (layTo R g slot d S j).1 = 0 /\ (layTo R g slot d S j).2.off = false /\ (layTo R g slot d S j).2.fuse = 0
 | 0,_=>⟨rfl,h0,hf⟩
 | j + 1,hj=>by
   obtain ⟨h1,h2,h3⟩:=layTo_sure hg hs hd h0 hf ho hS j (by omega)
   rw [layTo_succ h1]
   have hk:=layTo_kept R g slot d S j
   have hr:=reach_on (hg.kept hk) h2 hs (i:=j) (by omega) hd
   rw [hk.on,if_pos ho] at hr
   exact writes_sure h2 h3 hr (hS j (by omega))
theorem wrTo_sure {R:AM.Raw} {g:Geo} (hg:g.Ok R) {slot m:Nat} (hs:slot < g.s) (h0:R.off = false) (hf:R.fuse = 0) {E:List (List Nat)} (hE:∀ d,d < g.n -> (E.getD d []).length = 448) :
 ∀ d,d <= g.n -> (wrTo R g slot m E d).1 = 0 /\ (wrTo R g slot m E d).2.off = false /\ (wrTo R g slot m E d).2.fuse = 0
 | 0,_=>⟨rfl,h0,hf⟩
 | d + 1,hd=>by
   obtain ⟨h1,h2,h3⟩:=wrTo_sure hg hs h0 hf hE (m:=m) d (by omega)
   cases ho:R.on (d:Int)
   ·rw [wrTo_off ho];exact ⟨h1,h2,h3⟩
   ·rw [wrTo_on h1 ho]
    have hk:=wrTo_kept R g slot m E d
    have hSl:∀ i,i < 8 -> ((CM.secs m (E.getD d []) 8).getD i []).length = 64:=fun i hi=>by
     rw [CM.secs_get m _ hi]
     have hl:=hE d (by omega)
     exact SM.sec_len (by rw [CM.ld_len (by omega)];omega)
    have ho':(wrTo R g slot m E d).2.on (d:Int) = true:=by rw [hk.on];exact ho
    have hg':=hg.kept hk
    unfold lays
    generalize (wrTo R g slot m E d).2 = R1 at *
    generalize CM.secs m (E.getD d []) 8 = S at *
    exact layTo_sure hg' hs (by omega) h2 h3 ho' hSl 8 (by omega)
end SP
namespace SP
def Wrote (R:AM.Raw) (g:Geo) (slot m:Nat) (xs:List Nat):Prop:=∀ d,d < g.n -> R.on (d:Int) = true -> ∀ i,i < 8 -> cont R.C g slot d i = (CM.secs m ((code g xs).getD d []) 8).getD i []
theorem sectTo_cont {R:AM.Raw} {g:Geo} {slot d:Nat} {S:List (List Nat)} (hS:S.length = 8) (h:∀ i,i < 8 -> cont R.C g slot d i = S.getD i []):sectTo R g slot d 8 = S:=by
 apply List.ext_getElem
 ·rw [sectTo_len,hS]
 ·intro i h1 h2
  rw [sectTo_len] at h1
  have:=h i h1
  simp only [sectTo,List.getElem_map,List.getElem_range]
  unfold cont at this
  rw [this]
  simp [List.getD,h2]
theorem Wrote.sects {R:AM.Raw} {g:Geo} {slot m:Nat} {xs:List Nat} (h:Wrote R g slot m xs) {d:Nat} (hd:d < g.n) (ho:R.on (d:Int) = true):sects R g slot d = CM.secs m ((code g xs).getD d []) 8:=by
 rw [sects_on ho]
 exact sectTo_cont (CM.secs_len _ _ _) (h d hd ho)
theorem fit448 {m:Nat} {E:List Nat} (hm:m ≠ 0) (hE:E.length = 448):CM.fit m E = true /\ CM.putS m E = CM.secs m E 8:=by
 have hf:CM.fit m E = true:=CM.fit_iff.2 ⟨hm,by omega,by omega,by omega⟩
 exact ⟨hf,by unfold CM.putS;rw [if_pos hf,hE]⟩
theorem Wrote.chunk {R:AM.Raw} {g:Geo} {slot m:Nat} {xs:List Nat} (h:Wrote R g slot m xs) (hm:m ≠ 0) (hm2:m < 256 ^ 8) {d:Nat} (hd:d < g.n) (ho:R.on (d:Int) = true) :
 yesD R g slot d = true /\ numD R g slot d = m /\ datD R g slot d = (code g xs).getD d []:=by
 have hE:=code_row g xs hd
 obtain ⟨hf,hp⟩:=fit448 hm hE
 have:=CM.put_take hm2 hf
 rw [hp] at this
 unfold yesD numD datD
 rw [h.sects hd ho]
 exact this
theorem Wrote.yes {R:AM.Raw} {g:Geo} {slot m:Nat} {xs:List Nat} (h:Wrote R g slot m xs) (hm:m ≠ 0) (hm2:m < 256 ^ 8) {d:Nat} (hd:d < g.n):yesD R g slot d = R.on (d:Int):=by
 cases ho:R.on (d:Int)
 ·unfold yesD;rw [sects_off ho];simp [CM.yes]
 ·exact (h.chunk hm hm2 hd ho).1
theorem Wrote.has {R:AM.Raw} {g:Geo} {slot m:Nat} {xs:List Nat} (h:Wrote R g slot m xs) (hm:m ≠ 0) (hm2:m < 256 ^ 8) {d:Nat} (hd:d < g.n):has R g slot m d = R.on (d:Int):=by
 unfold SP.has
 rw [h.yes hm hm2 hd]
 cases ho:R.on (d:Int)
 ·rfl
 ·simp [(h.chunk hm hm2 hd ho).2.1]
theorem countP_get {α:Type} (p:α -> Bool) (l:List (Option α)):∀ j,j <= l.length -> ((List.range j).filter (fun d=>(l.getD d none).isSome)).length = (l.take j).countP (·.isSome)
 | 0,_=>by simp
 | j + 1,hj=>by
   rw [List.range_succ,List.filter_append,List.length_append,countP_get p l j (by omega),List.take_succ_eq_append_getElem (by omega),List.countP_append]
   congr 1
   have e:l.getD j none = l[j]:=by simp [List.getD,show j < l.length from by omega]
   have e2:(List.filter (fun d=>(l.getD d none).isSome) [j]) = if (l.getD j none).isSome then [j] else []:=by
    cases h:(l.getD j none).isSome <;> simp only [List.filter_cons,List.filter_nil,h] <;> simp
   rw [List.countP_singleton,e2,e]
   cases l[j] <;> simp
theorem ons_filter {R:AM.Raw} {g:Geo} (hg:g.Ok R):((List.range g.n).filter (fun d:Nat=>R.on (d:Int))).length = R.ons:=by
 have e:(fun d:Nat=>R.on (d:Int)) = fun d:Nat=>(R.C.getD d none).isSome:=by funext d;exact on_iff_C
 rw [e,countP_get (fun _=>true) R.C g.n (by rw [hg.len];omega)]
 unfold AM.Raw.ons
 rw [List.take_of_length_le (by rw [hg.len];omega)]
theorem Wrote.hits {R:AM.Raw} {g:Geo} {slot m:Nat} {xs:List Nat} (h:Wrote R g slot m xs) (hg:g.Ok R) (hm:m ≠ 0) (hm2:m < 256 ^ 8):(hits R g slot m g.n).length = R.ons:=by
 rw [<- ons_filter hg]
 unfold SP.hits
 congr 1
 apply List.filter_congr
 intro d hd
 exact h.has hm hm2 (List.mem_range.1 hd)
theorem Wrote.read {R:AM.Raw} {g:Geo} {slot:Nat} {m:Nat} {xs:List Nat} (h:Wrote R g slot m xs) (hg:g.Ok R) (hm:m ≠ 0) (hm2:m < 256 ^ 8) (hx:∀ x ∈ xs,x < 256) (hl:xs.length = g.k * 448) (h0:R.off = false) (hs:slot < g.s)
 {out:List Nat} {e:Nat} (hr:RdP R g (slot:Int) m out e):(g.k <= R.ons -> out = xs /\ e = 0) /\ (R.ons < g.k -> out = [] /\ e = 20):=by
 have hy:why R g (slot:Int) = 0:=by
  unfold why
  rw [h0]
  simp only [Bool.false_eq_true,if_false]
  rw [if_pos ⟨by omega,by omega⟩]
 have hh:=h.hits hg hm hm2
 unfold RdP at hr
 rw [Int.toNat_natCast] at hr
 rcases hr with ⟨a1,_,_⟩ | ⟨_,a2,_⟩ | ⟨_,_,a3,rfl,rfl⟩ | ⟨_,_,a3,rfl,P,a,hP,rfl⟩
 ·exact absurd hy a1
 ·exact absurd a2 hm
 ·exact ⟨fun h1=>by omega,fun _=>⟨rfl,rfl⟩⟩
 ·refine ⟨fun _=>⟨?_,rfl⟩,fun h1=>by omega⟩
  obtain ⟨_,rfl⟩:=dec_is hg a3 hP (parts_shape hl) (parts_small hx _) (fun d hd hd'=>by
   rw [h.has hm hm2 hd] at hd'
   rw [(h.chunk hm hm2 hd hd').2.2,code_get g xs hd])
  exact parts_all hl
theorem mark_secs {m:Nat} (hm2:m < 256 ^ 8) (E:List Nat):(CM.secs m E 8).map (fun b=>SM.val b 8) = List.replicate 8 m:=by
 rw [List.eq_replicate_iff]
 refine ⟨by simp [CM.secs],fun b hb=>?_⟩
 obtain ⟨c,hc,rfl⟩:=List.mem_map.1 hb
 unfold CM.secs at hc
 obtain ⟨i,_,rfl⟩:=List.mem_map.1 hc
 exact SM.val_sec hm2 _
theorem mem_markTo {R:AM.Raw} {g:Geo} {slot j y:Nat} (h:y ∈ markTo R g slot j):∃ d,d < j /\ y ∈ marks R g slot d:=by
 unfold markTo at h
 obtain ⟨d,hd,hy⟩:=List.mem_flatMap.1 h
 exact ⟨d,List.mem_range.1 hd,hy⟩
theorem Wrote.high {R:AM.Raw} {g:Geo} {slot m:Nat} {xs:List Nat} (h:Wrote R g slot m xs) (hm2:m < 256 ^ 8) {d:Nat} (hd:d < g.n) (ho:R.on (d:Int) = true):high R g slot = m:=by
 unfold SP.high
 apply Nat.le_antisymm
 ·refine top_le fun y hy=>?_
  obtain ⟨e,he,hy⟩:=mem_markTo hy
  unfold marks at hy
  cases ho':R.on (e:Int)
  ·rw [sects_off ho'] at hy;simp at hy
  ·rw [h.sects he ho',mark_secs hm2] at hy
   rw [(List.mem_replicate.1 hy).2]
   exact Nat.le_refl _
 ·refine le_top ?_
  unfold markTo
  refine List.mem_flatMap.2 ⟨d,List.mem_range.2 hd,?_⟩
  unfold marks
  rw [h.sects hd ho,mark_secs hm2]
  simp
theorem code_small {g:Geo} {xs:List Nat} {m:Nat} (hg:∀ x ∈ xs,x < 256):∀ d i,i < 8 -> ∀ x ∈ (CM.secs m ((code g xs).getD d []) 8).getD i [],x < 256:=fun d i hi x hx=>by
 rw [CM.secs_get m _ hi] at hx
 refine SM.sec_small (CM.ld_small (fun y hy=>?_) i) x hx
 by_cases hd:d < g.n
 ·rw [code_get g xs hd] at hy
  unfold codeRow at hy
  obtain ⟨t,_,rfl⟩:=List.mem_map.1 hy
  unfold codeAt
  refine MX.xs_lt fun j _=>?_
  exact M.mul_lt _ (MX.gen_lt _ _ _)
 ·have:(code g xs).getD d [] = []:=by
   have:=code_len g xs
   simp [List.getD,show (code g xs).length <= d from by omega]
  rw [this] at hy
  simp at hy
theorem write_sure {R:AM.Raw} {g:Geo} (ok:R.Ok) (hg:g.Ok R) {slot m:Nat} (hs:slot < g.s) (h0:R.off = false) (hf:R.fuse = 0) (hm:m ≠ 0) {xs:List Nat} (hx:∀ x ∈ xs,x < 256) (hl:xs.length = g.k * 448) (ho:g.k <= R.ons) :
 (write R g (slot:Int) m xs).1 = 0 /\ Wrote (write R g (slot:Int) m xs).2 g slot m xs /\ (write R g (slot:Int) m xs).2.off = false /\ (write R g (slot:Int) m xs).2.fuse = 0 /\ (write R g (slot:Int) m xs).2.Ok:=by
 have hy:why R g (slot:Int) = 0:=by
  unfold why
  rw [h0]
  simp only [Bool.false_eq_true,if_false]
  rw [if_pos ⟨by omega,by omega⟩]
 have e:write R g (slot:Int) m xs = wrTo R g slot m (code g xs) g.n:=by
  unfold write
  rw [if_neg (by omega),if_neg (by omega),if_neg (by omega),Int.toNat_natCast]
 rw [e]
 obtain ⟨h1,h2,h3⟩:=wrTo_sure hg hs h0 hf (m:=m) (E:=code g xs) (fun d hd=>code_row g xs hd) g.n (Nat.le_refl _)
 obtain ⟨h4,h5⟩:=wrTo_done ok (g:=g) (slot:=slot) (m:=m) (E:=code g xs) (code_small hx) g.n h1
 have hk:=wrTo_kept R g slot m (code g xs) g.n
 refine ⟨h1,fun d hd hon i hi=>?_,h2,h3,h4⟩
 rw [hk.on] at hon
 rw [h5 d i hi,if_pos ⟨hd,hon⟩]
theorem Wrote.lose {R:AM.Raw} {g:Geo} {slot m:Nat} {xs:List Nat} (h:Wrote R g slot m xs) (d:Int):Wrote (R.lose d).2 g slot m xs:=by
 unfold AM.Raw.lose
 split
 ·exact h
 ·split
  ·intro e he ho i hi
   have hne:e ≠ d.toNat:=fun c=>by
    subst c
    rw [on_iff_C] at ho
    simp only [AM.Raw.lost] at ho
    by_cases hl:d.toNat < R.C.length
    ·simp [List.getD,hl] at ho
    ·simp [List.getD,hl] at ho
   have eC:(R.C.set d.toNat none).getD e none = R.C.getD e none:=by simp [List.getD,Ne.symm hne]
   have ho':R.on (e:Int) = true:=by
    rw [on_iff_C] at ho ⊢
    simp only [AM.Raw.lost] at ho
    rwa [eC] at ho
   have:=h e he ho' i hi
   unfold cont AM.look at this ⊢
   simp only [AM.Raw.lost]
   rw [eC]
   exact this
  ·exact h
end SP
namespace SP
theorem lose_C (R:AM.Raw) (d:Int):(R.lose d).2.C = R.C \/ (R.lose d).2.C = R.C.set d.toNat none:=by
 unfold AM.Raw.lose
 split
 ·exact .inl rfl
 ·split
  ·exact .inr rfl
  ·exact .inl rfl
theorem lose_geo {R:AM.Raw} {g:Geo} (h:g.Ok R) (d:Int):g.Ok (R.lose d).2:=by
 have hn:(R.lose d).2.n = R.n:=by
  unfold AM.Raw.lose
  split
  ·rfl
  ·split <;> rfl
 refine ⟨h.k1,h.kn,h.n255,h.s1,h.s2,by rw [hn];exact h.room,?_⟩
 rcases lose_C R d with e | e <;> rw [e]
 ·exact h.len
 ·rw [List.length_set];exact h.len
theorem lose_off (R:AM.Raw) (d:Int):(R.lose d).2.off = R.off:=by
 unfold AM.Raw.lose
 split
 ·rfl
 ·split <;> rfl
theorem lose_L (R:AM.Raw) (d:Int):(R.lose d).2.L.length <= R.L.length:=by
 unfold AM.Raw.lose
 split
 ·simp
 ·split
  ·exact List.length_filter_le _ _
  ·simp
theorem lose_yes {R:AM.Raw} {d:Nat} (h:R.on (d:Int) = true):(R.lose (d:Int)).1 = 0 /\ ∀ e:Nat,(R.lose (d:Int)).2.on (e:Int) = (R.on (e:Int) && !(e == d)):=by
 obtain ⟨h1,h2,_⟩:=AM.on_iff h
 have hf:R.find (d:Int) = 0:=by unfold AM.Raw.find;rw [if_pos ⟨h1,h2⟩]
 unfold AM.Raw.lose
 rw [if_neg (by omega),if_pos h]
 refine ⟨rfl,fun e=>?_⟩
 rw [on_iff_C,on_iff_C]
 simp only [AM.Raw.lost,Int.toNat_natCast]
 by_cases c:e = d
 ·subst c
  have hl:e < R.C.length:=by omega
  simp [List.getD,hl]
 ·simp [List.getD,Ne.symm c,c]
theorem write_len {R:AM.Raw} {g:Geo} (slot:Int) (m:Nat) (xs:List Nat) (hL:∀ R':AM.Raw,∀ (d k:Int) (b:List Nat),(R'.writes d k b).2.L.length <= R'.L.length + 1):(write R g slot m xs).2.L.length <= R.L.length + 8 * g.n:=by
 have lt:∀ (R:AM.Raw) (s d:Nat) (S:List (List Nat)) (j:Nat),(layTo R g s d S j).2.L.length <= R.L.length + j:=by
  intro R s d S j
  induction j with
  | zero=>simp [layTo]
  | succ j ih =>
    unfold layTo
    split
    ·have:=hL (layTo R g s d S j).2 (d:Int) ((g.f + 8 * s + j:Nat):Int) (S.getD j [])
     omega
    ·omega
 have wt:∀ (s:Nat) (E:List (List Nat)) (j:Nat),(wrTo R g s m E j).2.L.length <= R.L.length + 8 * j:=by
  intro s E j
  induction j with
  | zero=>simp [wrTo]
  | succ j ih =>
    unfold wrTo
    split
    ·have:=lt (wrTo R g s m E j).2 s j (CM.secs m (E.getD j []) 8) 8
     unfold lays
     omega
    ·omega
 unfold write
 split
 ·simp
 ·split
  ·simp
  ·split
   ·simp
   ·exact wt _ _ _
theorem new_ok {N n:Nat} (h1:1 <= N) (h2:N <= 255) (h3:1 <= n) (h4:n <= 4096):(AM.Raw.new N n).Ok /\ (∀ d:Nat,(AM.Raw.new N n).on (d:Int) = decide (d < N)):=by
 refine ⟨(AM.sim_new h1 h2 h3 h4).ok,fun d=>?_⟩
 rw [on_iff_C]
 simp only [AM.Raw.new]
 by_cases c:d < N
 ·simp [List.getD,c]
 ·simp [List.getD,c]
theorem new_geo {k N S f n:Nat} (hn:n = f + 8 * S) (h1:1 <= k) (h2:k < N) (h3:N <= 255) (h4:1 <= S) (h5:S <= 128):Geo.Ok ⟨k,N,S,f⟩ (AM.Raw.new N n) :=
 ⟨h1,h2,h3,h4,h5,by show f + 8 * S <= n;omega,by simp [AM.Raw.new]⟩
theorem new_ons {N n:Nat} {g:Geo} (hg:g.Ok (AM.Raw.new N n)) (h:g.n = N) (h1:1 <= N) (h2:N <= 255) (h3:1 <= n) (h4:n <= 4096):(AM.Raw.new N n).ons = N:=by
 rw [<- ons_filter hg,h]
 have e:(List.range N).filter (fun d:Nat=>(AM.Raw.new N n).on (d:Int)) = List.range N:=by
  rw [List.filter_eq_self]
  intro d hd
  rw [(new_ok h1 h2 h3 h4).2]
  exact decide_eq_true (List.mem_range.1 hd)
 rw [e,List.length_range]
end SP
namespace SP
theorem lays_on (L:List (AM.Wr × Nat)):∀ (C:List AM.Disk) (e:Nat),((L.foldl AM.pickD C).getD e none).isSome = (C.getD e none).isSome /\ (L.foldl AM.pickD C).length = C.length:=by
 induction L with
 | nil=>intro C e;exact ⟨rfl,rfl⟩
 | cons x L ih =>
   intro C e
   simp only [List.foldl_cons]
   obtain ⟨h1,h2⟩:=ih (AM.pickD C x) e
   rw [h1,h2]
   unfold AM.pickD
   split
   ·exact ⟨AM.lay_on _ _ _ _ _,AM.lay_len _ _ _ _⟩
   ·exact ⟨rfl,rfl⟩
theorem crash_kept (R:AM.Raw) (ps:List Nat):Kept R (R.crash ps) /\ (R.crash ps).off = false:=by
 have hl:(R.crash ps).C.length = R.C.length:=by
  show (AM.crashC R.C R.L ps).length = _
  unfold AM.crashC
  rw [(lays_on _ _ 0).2,AM.undoTo_len]
 refine ⟨⟨hl,rfl,fun d=>?_⟩,rfl⟩
 have e:((R.crash ps).C.getD d.toNat none).isSome = (R.C.getD d.toNat none).isSome:=by
  show ((AM.crashC R.C R.L ps).getD d.toNat none).isSome = _
  unfold AM.crashC
  rw [(lays_on _ _ _).1,AM.undo_on]
 unfold AM.Raw.on
 rw [hl,e]
theorem barrier_kept (R:AM.Raw):Kept R R.barrier.2 /\ R.barrier.2.C = R.C /\ (R.barrier.1 ≠ 0 -> R.barrier.2.L = R.L) /\ (R.barrier.1 = 0 -> R.barrier.2.L = [] /\ R.barrier.2.off = false) /\ R.barrier.2.L.length <= R.L.length:=by
 have hb:R.burnt.C = R.C /\ R.burnt.n = R.n /\ R.burnt.L = R.L:=AM.burnt_C R
 have hk:=burnt_kept R
 unfold AM.Raw.barrier
 by_cases h0:R.off = true
 ·rw [if_pos h0]
  exact ⟨Kept.refl R,rfl,fun _=>rfl,fun h=>by simp at h,Nat.le_refl _⟩
 ·rw [if_neg h0]
  by_cases h1:R.burns = true
  ·rw [if_pos h1]
   exact ⟨hk,hb.1,fun _=>hb.2.2,fun h=>by simp at h,by rw [hb.2.2];exact Nat.le_refl _⟩
  ·rw [if_neg h1]
   refine ⟨⟨hk.len,hk.n,hk.on⟩,hb.1,fun h=>by simp at h,fun _=>⟨rfl,?_⟩,by simp⟩
   show R.burnt.off = false
   unfold AM.Raw.burnt
   split
   ·simpa using h0
   ·unfold AM.Raw.burns at h1
    simpa using h1
end SP
open Go.RowKit
namespace SP
theorem replace_kept {R:AM.Raw} {g:Geo} (h:g.Ok R) (d:Int):g.Ok (R.replace d).2:=by
 have hn:(R.replace d).2.n = R.n /\ (R.replace d).2.C.length = R.C.length:=by
  unfold AM.Raw.replace
  split
  ·exact ⟨rfl,rfl⟩
  ·split
   ·exact ⟨rfl,rfl⟩
   ·exact ⟨rfl,by simp [AM.Raw.blank]⟩
 exact ⟨h.k1,h.kn,h.n255,h.s1,h.s2,by rw [hn.1];exact h.room,by rw [hn.2];exact h.len⟩
theorem fused_geo {R:AM.Raw} {g:Geo} (h:g.Ok R) (n:Int):g.Ok (R.fused n):=⟨h.k1,h.kn,h.n255,h.s1,h.s2,h.room,h.len⟩
end SP
structure Pair (F G:Nat -> Prop) (w0 w:World) (s a t r:Nat) (g:SP.Geo) (R Q:AM.Raw):Prop where
 i:SI F w s a g R
 j:RSI G w t r g Q
 ap:∀ k,F k -> G k -> False
 bi:Base w0 F w
 bj:Base w0 G w
 nt:¬ F t
 ns:¬ G s
section
variable {F G F' G':Nat -> Prop} {w0 w w':World} {s a t r:Nat} {g:SP.Geo} {R R' Q Q':AM.Raw}
theorem Duo.pair (h:Duo F G w0 w s a t r g R):Pair F G w0 w s a t r g R R:=⟨h.i,h.j,h.ap,⟨h.gr,h.bi⟩,⟨h.gr,h.bj⟩,h.nt,h.ns⟩
theorem Pair.keep (h:Pair F G w0 w s a t r g R Q) (gr:w.grownBy w' none):Pair F G w0 w' s a t r g R Q :=
 ⟨h.i.keep gr,h.j.keep gr,h.ap,h.bi.keep gr,h.bj.keep gr,h.nt,h.ns⟩
theorem Pair.down {w1:World} (h:Pair F G w1 w s a t r g R Q) (g1:w0.grownBy w1 none):Pair F G w0 w s a t r g R Q :=
 ⟨h.i,h.j,h.ap,⟨grown_trans g1 h.bi.grown,fun k hk=>Nat.le_trans g1.size (h.bi.lo k hk)⟩,⟨grown_trans g1 h.bj.grown,fun k hk=>Nat.le_trans g1.size (h.bj.lo k hk)⟩,h.nt,h.ns⟩
theorem Pair.stepA (h:Pair F G w0 w s a t r g R Q) (hi:SI F' w' s a g R') (st:Step F w F' w'):Pair F' G w0 w' s a t r g R' Q:=by
 obtain ⟨A,hj,hs⟩:=h.j.j
 obtain ⟨h1,h2⟩:=hj.other st h.ap
 refine ⟨hi,⟨⟨A,h1,hs⟩,by rw [st.upd.block t h.j.lt h.nt];exact h.j.top,h.j.nf,h.j.ok⟩,h2,h.bi.step st,⟨(h.bi.step st).grown,h.bj.lo⟩,fun hf=>?_,h.ns⟩
 rcases st.sub t hf with h3 | h3
 ·exact h.nt h3
 ·have:=h.j.lt;omega
theorem Pair.stepB (h:Pair F G w0 w s a t r g R Q) (hj:RSI G' w' t r g Q') (st:Step G w G' w'):Pair F G' w0 w' s a t r g R Q':=by
 obtain ⟨h1,h2⟩:=h.i.i.aside st h.ap
 refine ⟨⟨h1,by rw [st.upd.block s h.i.lt h.ns];exact h.i.top,h.i.nf,h.i.ok⟩,hj,h2,⟨(h.bj.step st).grown,h.bi.lo⟩,h.bj.step st,h.nt,fun hf=>?_⟩
 rcases st.sub s hf with h3 | h3
 ·exact h.ns h3
 ·have:=h.i.lt;omega
structure Aw2 (F G:Nat -> Prop) (w:World) (v:Value) (xs:List Nat):Prop where
 a:Aw F w v xs
 b:Aw G w v xs
theorem Aw2.stepA {v:Value} {xs:List Nat} (h:Aw2 F G w v xs) (st:Step F w F' w'):Aw2 F' G w' v xs:=⟨h.a.step st,⟨(h.a.step st).vec,h.b.off⟩⟩
theorem Aw2.stepB {v:Value} {xs:List Nat} (h:Aw2 F G w v xs) (st:Step G w G' w'):Aw2 F G' w' v xs:=⟨⟨(h.b.step st).vec,h.a.off⟩,h.b.step st⟩
theorem Aw2.keep {v:Value} {xs:List Nat} (h:Aw2 F G w v xs) (gr:w.grownBy w' none):Aw2 F G w' v xs:=⟨h.a.keep gr,h.b.keep gr⟩
theorem Pair.own (h:Pair F G w0 w s a t r g R Q) {v:Value} {xs:List Nat} (o:Own w.heap.size w' v xs):Aw2 F G w' v xs:=⟨o.aw h.i.i.lt,o.aw h.j.glt⟩
theorem Pair.part (h:Pair F G w0 w s a t r g R Q) {v:Value} {xs:List Nat} (o:Part_a w.heap.size w' v xs):Aw2 F G w' v xs:=⟨o.aw h.i.i.lt,o.aw h.j.glt⟩
theorem Pair.given (h:Pair F G w0 w s a t r g R Q) {v:Value} {xs:List Nat} (o:Vec w0 v xs):Aw2 F G w v xs:=⟨h.bi.aw o,h.bj.aw o⟩
theorem Aw2.tail {b off n c m:Nat} {xs:List Nat} (h:Aw2 F G w (.slice (some ⟨b,off,none⟩) n c) xs) (hm:m <= xs.length) (hx:xs ≠ []):Aw2 F G w (.slice (some ⟨b,off + m,none⟩) (n - m) (c - m)) (xs.drop m) :=
 ⟨⟨h.a.vec.tail_a hm,fun _ x hx' hf=>h.a.off hx x (by simpa [Value.ownBlock] using hx') hf⟩,⟨h.b.vec.tail_a hm,fun _ x hx' hf=>h.b.off hx x (by simpa [Value.ownBlock] using hx') hf⟩⟩
def PlyS (w0 w:World) (s a t r:Nat) (g:SP.Geo) (n:Nat):Prop:=∃ F G R,Pair F G w0 w s a t r g R R /\ R.L.length <= n
theorem PlyS.grown {n:Nat} (h:PlyS w0 w s a t r g n):w0.grownBy w none:=by obtain ⟨_,_,_,h,_⟩:=h;exact h.bi.grown
theorem PlyS.keep {n:Nat} (h:PlyS w0 w s a t r g n) (gr:w.grownBy w' none):PlyS w0 w' s a t r g n:=by
 obtain ⟨F,G,R,h1,h2⟩:=h
 exact ⟨F,G,R,h1.keep gr,h2⟩
theorem PlyS.top {n:Nat} (h:PlyS w0 w s a t r g n):w.cell? ⟨t,0,none⟩ = some (rptr r):=by obtain ⟨_,_,_,h,_⟩:=h;exact h.j.at1
theorem plyS_alike {n:Nat} (h:PlyS w0 w s a t r g n) (hn:n <= 1000000) {v:Value} {ps:List Nat} (hv:Vec w0 v ps):Calls Tryz.prog 38 #[ptr a,rptr r,v] w fun e w'=>e = .returned (.bool true) /\ w.grownBy w' none:=by
 obtain ⟨F,G,R,h1,h2⟩:=h
 obtain ⟨A,hj,hs⟩:=h1.j.j
 exact alike_yes h1.i.i hj hs (hv.keep h1.bi.grown) (Nat.le_trans h2 hn)
theorem SI.lose (h:SI F w s a g R) (hL:R.L.length <= 1000000) (d:Int):Calls Tryz.prog 25 #[ptr a,.int .i64 d] w fun e w'=>e = .returned (.int .i64 ((R.lose d).1:Int)) /\ ∃ F',SI F' w' s a g (R.lose d).2 /\ Step F w F' w':=by
 refine (lose_at h.i hL rfl rfl).mono ?_
 rintro e w' ⟨rfl,F',i,st⟩
 exact ⟨rfl,F',h.step i st (SP.lose_geo h.ok d),st⟩
theorem RSI.lose (h:RSI G w t r g R) (hL:R.L.length <= 1000000) (d:Int):Calls Tryz.prog 26 #[rptr r,.int .i64 d] w fun e w'=>e = .returned (.int .i64 ((R.lose d).1:Int)) /\ ∃ G',RSI G' w' t r g (R.lose d).2 /\ Step G w G' w':=by
 obtain ⟨A,hj,hs⟩:=h.j
 refine (rlose_at hj hs hL rfl).mono ?_
 rintro e w' ⟨rfl,G',i,st⟩
 exact ⟨rfl,G',h.step i (hs.lose d).2 st (SP.lose_geo h.ok d),st⟩
theorem SI.replace (h:SI F w s a g R) (d:Int):Calls Tryz.prog 27 #[ptr a,.int .i64 d] w fun e w'=>e = .returned (.int .i64 ((R.replace d).1:Int)) /\ ∃ F',SI F' w' s a g (R.replace d).2 /\ Step F w F' w':=by
 refine (replace_at h.i rfl rfl).mono ?_
 rintro e w' ⟨rfl,F',i,st⟩
 exact ⟨rfl,F',h.step i st (SP.replace_kept h.ok d),st⟩
theorem RSI.replace (h:RSI G w t r g R) (d:Int):Calls Tryz.prog 28 #[rptr r,.int .i64 d] w fun e w'=>e = .returned (.int .i64 ((R.replace d).1:Int)) /\ ∃ G',RSI G' w' t r g (R.replace d).2 /\ Step G w G' w':=by
 obtain ⟨A,hj,hs⟩:=h.j
 refine (rreplace_at hj hs rfl).mono ?_
 rintro e w' ⟨rfl,G',i,st⟩
 exact ⟨rfl,G',h.step i (hs.replace d).2 st (SP.replace_kept h.ok d),st⟩
theorem SI.barrier (h:SI F w s a g R):Calls Tryz.prog 29 #[ptr a] w fun e w'=>e = .returned (.int .i64 (R.barrier.1:Int)) /\ ∃ F',SI F' w' s a g R.barrier.2 /\ Step F w F' w':=by
 refine (barrier_at h.i rfl rfl).mono ?_
 rintro e w' ⟨rfl,F',i,st⟩
 exact ⟨rfl,F',h.step i st (h.ok.kept (SP.barrier_kept R).1),st⟩
theorem RSI.barrier (h:RSI G w t r g R) (hL:R.L.length <= 1000000):Calls Tryz.prog 30 #[rptr r] w fun e w'=>e = .returned (.int .i64 (R.barrier.1:Int)) /\ ∃ G',RSI G' w' t r g R.barrier.2 /\ Step G w G' w':=by
 obtain ⟨A,hj,hs⟩:=h.j
 refine (rbarrier_at hj hs hL rfl).mono ?_
 rintro e w' ⟨rfl,G',i,st⟩
 exact ⟨rfl,G',h.step i hs.barrier.2 st (h.ok.kept (SP.barrier_kept R).1),st⟩
theorem SI.crash (h:SI F w s a g R) (hL:R.L.length <= 1000000) {v:Value} {ps:List Nat} (hv:Aw F w v ps):Calls Tryz.prog 31 #[ptr a,v] w fun e w'=>e = .returned (.tuple #[]) /\ ∃ F',SI F' w' s a g (R.crash ps) /\ Step F w F' w':=by
 refine (crash_at h.i hL hv rfl).mono ?_
 rintro e w' ⟨rfl,F',i,st⟩
 exact ⟨rfl,F',h.step i st (h.ok.kept (SP.crash_kept R ps).1),st⟩
theorem RSI.crash (h:RSI G w t r g R) (hL:R.L.length <= 1000000) {v:Value} {ps:List Nat} (hv:Aw G w v ps):Calls Tryz.prog 32 #[rptr r,v] w fun e w'=>e = .returned (.tuple #[]) /\ ∃ G',RSI G' w' t r g (R.crash ps) /\ Step G w G' w':=by
 obtain ⟨A,hj,hs⟩:=h.j
 refine (rcrash_any hj hs.fit (by rw [hs.llen];exact hL) hv.vec hv.off).mono ?_
 rintro e w' ⟨rfl,G',i,st⟩
 exact ⟨rfl,G',h.step i (hs.crash ps) st (h.ok.kept (SP.crash_kept R ps).1),st⟩
theorem SI.fuse (h:SI F w s a g R) {n:Int} (hn:n < 9223372036854775808):Calls Tryz.prog 33 #[ptr a,.int .i64 n] w fun e w'=>e = .returned (.tuple #[]) /\ ∃ F',SI F' w' s a g (R.fused n) /\ Step F w F' w':=by
 refine (fuse_at h.i hn rfl).mono ?_
 rintro e w' ⟨rfl,F',i,st⟩
 exact ⟨rfl,F',h.step i st (SP.fused_geo h.ok n),st⟩
theorem RSI.fuse (h:RSI G w t r g R) {n:Int} (hn:n < 9223372036854775808):Calls Tryz.prog 34 #[rptr r,.int .i64 n] w fun e w'=>e = .returned (.tuple #[]) /\ ∃ G',RSI G' w' t r g (R.fused n) /\ Step G w G' w':=by
 obtain ⟨A,hj,hs⟩:=h.j
 refine (rfuse_yes hj hn).mono ?_
 rintro e w' ⟨rfl,i,st⟩
 exact ⟨rfl,G,h.step i (hs.fuse hn) st (SP.fused_geo h.ok n),st⟩
theorem SI.writes (h:SI F w s a g R) (hL:R.L.length <= 1000000) (d k:Int) {v:Value} {b:List Nat} (hv:Aw F w v b):Calls Tryz.prog 35 #[ptr a,.int .i64 d,.int .i64 k,v] w fun e w'=>e = .returned (.int .i64 ((R.writes d k b).1:Int)) /\ ∃ F',SI F' w' s a g (R.writes d k b).2 /\ Step F w F' w':=by
 refine (write_at h.i hv hL rfl rfl).mono ?_
 rintro e w' ⟨rfl,F',i,st⟩
 exact ⟨rfl,F',h.step i st (h.ok.kept (SP.writes_kept R d k b)),st⟩
theorem RSI.writes (h:RSI G w t r g R) (hL:R.L.length <= 1000000) (d k:Int) {v:Value} {b:List Nat} (hv:Aw G w v b):Calls Tryz.prog 37 #[rptr r,.int .i64 d,.int .i64 k,v] w fun e w'=>e = .returned (.int .i64 ((R.writes d k b).1:Int)) /\ ∃ G',RSI G' w' t r g (R.writes d k b).2 /\ Step G w G' w':=by
 obtain ⟨A,hj,hs⟩:=h.j
 refine (rwrite_at hj hs hL hv rfl).mono ?_
 rintro e w' ⟨rfl,G',i,st⟩
 exact ⟨rfl,G',h.step i (hs.write d k hv.vec.small).2 st (h.ok.kept (SP.writes_kept R d k b)),st⟩
theorem put_len (R:AM.Raw) (g:SP.Geo) (d slot:Int) (m:Nat) (xs:List Nat):(SP.put R g d slot m xs).2.L.length <= R.L.length + 8:=by
 unfold SP.put
 split
 ·simp
 ·split
  ·simp
  ·exact layTo_len _ _ _ _ _ _
end
theorem mul64_448 (w:World):Calls Tryz.prog 114 #[.int .u64 1,.int .u64 448] w fun e w'=>e = .returned (.tuple #[.int .u64 0,.int .u64 448]) /\ w' = w:=by
 go_enter Tryz.func114,Tryz.ntmps114
 go_wp2
 go_ret2
 exact ⟨rfl,rfl⟩
theorem mul_448 (w:World):Calls Tryz.prog 61 #[.int .u64 1,.int .u64 448] w fun e w'=>e = .returned (.tuple #[.int .u64 0,.int .u64 448]) /\ w' = w:=by
 go_enter Tryz.func61,Tryz.ntmps61
 go_wp2_with (go_at_call 114;refine (mul64_448 w).mono ?_;rintro e w1 ⟨rfl,hw⟩;obtain rfl:=hw.symm;clear hw)
 go_ret2
 exact ⟨rfl,rfl⟩
def rv (x:Nat):List Nat:=List.replicate 448 x
theorem rv_len (x:Nat):(rv x).length = 448:=by simp [rv]
theorem rv_small {x:Nat} (h:x < 256):∀ y ∈ rv x,y < 256:=fun y hy=>by rw [(List.mem_replicate.1 hy).2];exact h
theorem makeNo448 (w:World):∃ cs:Array Value,(callFunc 62 #[.int .i64 448]).run Tryz.prog w = .ok (.value (.slice (some ⟨w.heap.size,0,none⟩) 448 cs.size)) ((w.alloc (.cells cs 5)).drewN 2) /\ 448 <= cs.size /\ cs.size <= maxLen:=by
 obtain ⟨cs,hrun,h1,h2⟩:=Lib.run_makeNoZero (P:=Tryz.prog) w #[3] 40 5 Tryz.underlying40 448 (by decide)
 refine ⟨cs,?_,h1,h2 (by decide)⟩
 rw [run_callFunc_extern Tryz.func62 (by kernel_rfl) (by kernel_rfl) (by kernel_rfl) (e:=Extern.BytealgMakeNoZero.makeNoZero #[3] #[40]) (by kernel_rfl)]
 have e:(Extern.BytealgMakeNoZero.makeNoZero #[3] #[40] #[.int .i64 448]).run Tryz.prog w = .ok (.slice (some ⟨w.heap.size,0,none⟩) 448 cs.size) (w.drew.drew.alloc (.cells cs 5)):=hrun
 rw [e]
 rfl
theorem slice_lo448 {g p:Nat} (h:p < 448) (W:World):(Instr.slice 40 (.slice (some ⟨g,0,none⟩) 448 448) (some (.int .i64 (p:Int))) none none).run Tryz.prog W = .ok (.slice (some ⟨g,p,none⟩) (448 - p) (448 - p)) W:=by
 obtain ⟨i0,hi,hz0,hz1,hz2⟩:=info_parts Tryz.info5
 have h1:(Instr.sliceBound (.int .i64 (p:Int)) 448 .sliceB).run Tryz.prog W = .ok p W:=by
  have:=run_sliceBound (P:=Tryz.prog) W .i64 (p:Int) 448 .sliceB (by omega) (by omega)
  simpa using this
 have e:¬ 448 = p:=by omega
 simp [Instr.slice,run_underlying Tryz.underlying40,Instr.sliceBounds,h1,sizeOf,typeInfo,hi,hz1,e,add_off]
theorem slice_hi448 {g p:Nat} (h:p <= 448) (W:World):(Instr.slice 40 (.slice (some ⟨g,0,none⟩) 448 448) none (some (.int .i64 (p:Int))) none).run Tryz.prog W = .ok (.slice (some ⟨g,0,none⟩) p 448) W:=by
 obtain ⟨i0,hi,hz0,hz1,hz2⟩:=info_parts Tryz.info5
 have h1:(Instr.sliceBound (.int .i64 (p:Int)) 448 .sliceAcap).run Tryz.prog W = .ok p W:=by
  have:=run_sliceBound (P:=Tryz.prog) W .i64 (p:Int) 448 .sliceAcap (by omega) (by omega)
  simpa using this
 simp [Instr.slice,run_underlying Tryz.underlying40,Instr.sliceBounds,h1,sizeOf,typeInfo,hi,hz1,add_off]
def Filled448 (w:World) (g m x:Nat):Prop:=∃ cur,w.heap[g]? = some (.cells cur 5 (0,0)) /\ 448 <= cur.size /\ cur.toList.take m = List.replicate m (bv x)
theorem Filled448.vec {w:World} {g m x:Nat} (h:Filled448 w g m x) (hx:x < 256) (hm:m <= 448):Vec w (.slice (some ⟨g,0,none⟩) m 448) (List.replicate m x):=by
 obtain ⟨cur,h1,h2,h3⟩:=h
 refine ⟨fun y hy=>by rw [(List.mem_replicate.1 hy).2];exact hx,by simp;omega,_,_,by rw [List.length_replicate],by simp;omega,by decide,fun _=>⟨g,0,rfl,fun j hj=>?_⟩⟩
 rw [List.length_replicate] at hj
 refine topCell h1 ?_
 have h4:(cur.toList.take m)[j]? = some (bv x):=by rw [h3];simp [hj]
 rw [List.getElem?_take,if_pos hj] at h4
 rw [Nat.zero_add]
 simpa [List.getD,hj] using h4
theorem filled_step448 {c:List Value} {m n:Nat} {v:Value} (h:c.take m = List.replicate m v):(c.take m ++ List.replicate n v ++ c.drop (m + n)).take (m + n) = List.replicate (m + n) v:=by
 rw [h,List.replicate_append_replicate,List.take_append_of_le_length (by simp)]
 simp
theorem step_copy_min {ops:Array Oper} {o:Oper} {a:Act} {w:World} {K:Act -> World -> Prop} {Q:Exit -> Act -> World -> Prop} {E:Prop} (hgd:o.guard = none) (d s:Operand)
 (ho:o.op = .call { callee:=.builtin .copy,args:=#[d,s],argTypes:=#[40,40] }) (sv:Value) {T:TypeId} {g f dLen dCap n:Nat} {cur:Array Value} {ys:List Nat} (hed:a.eval d = .slice (some ⟨g,f,none⟩) dLen dCap) (hes:a.eval s = sv)
 (hg:w.heap[g]? = some (.cells cur T (0,0))) (hs:Vec w sv ys) (hy:ys ≠ []) (hn:n = min ys.length dLen) (hf:f + n <= cur.size)
 (h:∀ w',w'.heap[g]? = some (.cells (cur.toList.take f ++ (ys.take n).map bv ++ cur.toList.drop (f + n)).toArray T (0,0)) -> w.grownBy w' (some g) -> K (a.put o.dst (goInt n)) w') :
 if Region.wanted o (yielded ops a.tmps) = true then Oper.wp Tryz.prog o a w K Q else E:=by
 have hw:Region.wanted o (yielded ops a.tmps) = true:=by simp [Region.wanted,hgd]
 rw [if_pos hw]
 obtain ⟨s1,s2,p,cap,rfl,s3,s4,s5⟩:=hs
 obtain ⟨b,off,rfl,hc⟩:=s5 hy
 have hl:((ys.take n).map bv).length = n:=by simp;omega
 have hr:=run_copy_row (P:=Tryz.prog) w 40 40 o.type 5 g f dLen dCap ⟨b,off,none⟩ ys.length cap cur T ((ys.take n).map bv) Tryz.underlying40 Tryz.size5 hg (by rw [hl];exact hn)
  (fun j v hj=>by
    have hj':j < n:=by
     have:=(List.getElem?_eq_some_iff.1 hj).1
     omega
    rw [List.map_take,List.getElem?_take,if_pos hj',getD_map_bv ys j (by omega)] at hj
    rw [add_off,hc j (by omega)];exact hj) (by rw [hl];exact hf) (fun v hv=>by obtain ⟨x,_,rfl⟩:=List.mem_map.1 hv;rfl)
 rw [hl] at hr
 unfold Oper.wp
 simp [execOp,ho,resolve,invoke,builtin,hed,hes,hr,Result.andThen]
 refine h _ ?_ ⟨rfl,rfl,rfl,by simp,fun k _ hk=>setRow_other w g k _ (fun e=>hk (by simp [e]))⟩
 rw [setRow_heap w g _ _ T _ hg]
 simp
set_option maxHeartbeats 1600000 in
theorem repeat448_yes {w:World} {v:Value} {x:Nat} (hv:Vec w v [x]):Calls Tryz.prog 16 #[v,.int .i64 448] w fun e w'=>∃ g,e = .returned (.slice (some ⟨g,0,none⟩) 448 448) /\ Part_a w.heap.size w' (.slice (some ⟨g,0,none⟩) 448 448) (rv x) /\ w.grownBy w' none:=by
 obtain ⟨p,n,cap,rfl,hn⟩:=hv.opened
 obtain rfl:n = 1:=hn
 have hx:x < 256:=hv.small x (by simp)
 obtain ⟨cs,hrun,hc1,hc2⟩:=makeNo448 w
 have hs:∀ W:World,(Instr.slice 40 (.slice (some ⟨w.heap.size,0,none⟩) 448 cs.size) none (some (.int .i64 448)) (some (.int .i64 448))).run Tryz.prog W = .ok (.slice (some ⟨w.heap.size,0,none⟩) 448 448) W:=fun W=>by
  obtain ⟨i0,hi,hz0,hz1,hz2⟩:=info_parts Tryz.info5
  have e:=run_sliceBound (P:=Tryz.prog) W .i64 448 cs.size .slice3Acap (by omega) (by omega)
  have e2:=run_sliceBound (P:=Tryz.prog) W .i64 448 448 .slice3B (by omega) (by omega)
  simp [Instr.slice,run_underlying Tryz.underlying40,Instr.sliceBounds,e,e2,sizeOf,typeInfo,hi,hz1,add_off]
 have gA:w.grownBy ((w.alloc (.cells cs 5)).drewN 2) none:=grown_trans (World.grownBy_alloc _ _ none) (grown_drewN _ 2)
 have HB:Hid (((w.alloc (.cells cs 5)).drewN 2).heap[w.heap.size]? = some (.cells cs 5 (0,0))):=heap_alloc_new w _
 have HV:Hid (Vec ((w.alloc (.cells cs 5)).drewN 2) (.slice p 1 cap) [x]):=hv.keep gA
 have HG:Hid (w.grownBy ((w.alloc (.cells cs 5)).drewN 2) none):=gA
 have HC:Hid (448 <= cs.size):=hc1
 have HX:Hid (x < 256):=hx
 clear hv gA hc1 hc2 hx
 generalize hWA:(w.alloc (.cells cs 5)).drewN 2 = WA at *
 generalize hgg:w.heap.size = g at *
 have HGG:Hid (w.heap.size = g):=hgg
 clear hWA hgg
 go_enter Tryz.func16,Tryz.ntmps16
 go_wp2_with (first
  | (go_at_call 61;refine (mul_448 w).mono ?_;rintro e w1 ⟨rfl,hw⟩;obtain rfl:=hw.symm;clear hw)
  | (refine wpList_copy_cells rfl _ _ rfl _ (T:=5) (g:=g) (f:=0) (cur:=cs) (ys:=[x]) rfl rfl HB.out HV.out (by simp) (by simp) (by have:=HC.out;simp;omega) ?_;intro w2 h2 g2;have H2:Hid (Filled448 w2 g 1 x /\ w.grownBy w2 none):=⟨⟨_,h2,by have:=HC.out;simp;omega,by simp⟩,grown_new HG.out g2 (fun i e=>by have:=Option.some.inj e;have:=HGG.out;omega)⟩;clear h2 g2 hrun hs HB HV HG HC))
 go_loopw [10] (fun ti wr=>∃ m:Nat,ti = .int .i64 (m:Int) /\ (m = 1 \/ m = 2 \/ m = 4 \/ m = 8 \/ m = 16 \/ m = 32 \/ m = 64 \/ m = 128 \/ m = 256 \/ m = 448) /\ Hid (Filled448 wr g m x /\ w.grownBy wr none)) (fun ti _=>448 - (intOf ti).toNat)
 case atStart=>exact ⟨1,rfl,.inl rfl,H2⟩
 case round =>
  clear H2
  obtain ⟨m,rfl,hm,HI⟩:=hrel
  by_cases hlt:m < 448
  ·have i1:(m:Int) < 448:=by omega
   obtain ⟨k,hk,hmin⟩:=min_run m 448
   obtain rfl:m = k:=by omega
   clear hk
   have i2:=slice_lo448 (g:=g) hlt
   have i3:=slice_hi448 (g:=g) (Nat.le_of_lt hlt)
   obtain ⟨n,hn⟩:∃ n,n = min m (448 - m):=⟨_,rfl⟩
   have HM:Hid (m <= 256 /\ 0 < m /\ 0 < n /\ m + n <= 448 /\ n <= m /\ n = min m (448 - m)):=⟨by omega,by omega,by omega,by omega,by omega,hn⟩
   obtain ⟨cur,hc1,hc2,hc3⟩:=HI.out.1
   have HC:Hid (wr.heap[g]? = some (.cells cur 5 (0,0)) /\ 448 <= cur.size /\ cur.toList.take m = List.replicate m (bv x)):=⟨hc1,hc2,hc3⟩
   have hmi:m < 448:=hlt
   obtain ⟨m2,hm2⟩:∃ m2,m2 = m + n:=⟨_,rfl⟩
   have i4:IntKind.i64.wrap ((m:Int) + (n:Int)) = (m2:Int):=by
    have:(m:Int) + (n:Int) = (m2:Int):=by omega
    rw [this]
    exact IntWalk.i64_in _ (by omega)
   have HM2:Hid (m2 = m + n /\ (m2 = 1 \/ m2 = 2 \/ m2 = 4 \/ m2 = 8 \/ m2 = 16 \/ m2 = 32 \/ m2 = 64 \/ m2 = 128 \/ m2 = 256 \/ m2 = 448)):=⟨hm2,by omega⟩
   clear hm2 hn hm
   clear hc1 hc2 hc3
   go_wp2_with fail
   go_region_held3 (fun w'=>w.grownBy w' none) (first | exact HI.out.2 | exact gb_drew HI.out.2 | exact H3.out.2)
    ((refine step_copy_min (n:=n) rfl _ _ rfl _ (T:=5) (g:=g) (f:=m) (cur:=cur) (ys:=List.replicate m x) rfl rfl HC.out.1 ((HI.out.1.vec HX.out (by have:=HM.out.1;omega)).keep (grown_drewN _ 1)) (by have:=HM.out.2;intro e;have:=congrArg List.length e;simp at this;omega) (by rw [List.length_replicate];exact HM.out.2.2.2.2.2) (by have:=HM.out;have:=HC.out.2.1;omega) ?_;intro w3 h3 g3;rw [List.take_replicate,Nat.min_eq_left HM.out.2.2.2.2.1,List.map_replicate] at h3;have H3:Hid (Filled448 w3 g (m + n) x /\ w.grownBy w3 none):=⟨⟨_,h3,by have:=HM.out;have:=HC.out.2.1;simp;omega,filled_step448 HC.out.2.2⟩,grown_new (gb_drew HI.out.2) g3 (fun i e=>by have:=Option.some.inj e;have:=HGG.out;omega)⟩;clear h3 g3))
   go_wp2
   go_roundw
   case rel=>exact ⟨m2,rfl,HM2.out.2,by rw [HM2.out.1];exact H3⟩
   case measure=>have:=HM2.out.1;have:=HM.out;simp [intOf];omega
  ·have i1:¬ (m:Int) < 448:=by omega
   obtain rfl:m = 448:=by omega
   go_wp2
   go_ret
   obtain ⟨cur,hc1,hc2,hc3⟩:=HI.out.1
   exact ⟨g,rfl,⟨rv_small HX.out,by rw [rv_len];decide,.inr ⟨g,448,cur,by rw [rv_len],by have:=HGG.out;omega,hc1,by rw [rv_len];exact Nat.le_refl _,by decide,by rw [rv_len];exact hc2,by rw [rv_len,hc3];simp [rv]⟩⟩,HI.out.2⟩
theorem slice_from {b off n c lo:Nat} (h1:lo <= n) (h2:n <= c) (h3:lo < c) (W:World):(Instr.slice 40 (.slice (some ⟨b,off,none⟩) n c) (some (.int .i64 (lo:Int))) none none).run Tryz.prog W = .ok (.slice (some ⟨b,off + lo,none⟩) (n - lo) (c - lo)) W:=by
 obtain ⟨i0,hi0,hz0,hz1,hz2⟩:=info_parts Tryz.info5
 have e2:(Instr.sliceBound (.int .i64 (lo:Int)) n .sliceB).run Tryz.prog W = .ok lo W:=by
  have:=run_sliceBound (P:=Tryz.prog) W .i64 (lo:Int) n .sliceB (by omega) (by omega)
  simpa using this
 have h4:¬ c = lo:=by omega
 simp [Instr.slice,run_underlying Tryz.underlying40,Instr.sliceBounds,e2,sizeOf,typeInfo,hi0,hz1,h4,add_off]
def dat8 (x i:Nat):Nat:=(x + i % 251 + i / 448) % 256
def datL (k x:Nat):List Nat:=(List.range (k * 448)).map (dat8 x)
theorem datL_len (k x:Nat):(datL k x).length = k * 448:=by simp [datL]
theorem datL_small (k x:Nat):∀ y ∈ datL k x,y < 256:=fun y hy=>by
 unfold datL at hy
 obtain ⟨i,_,rfl⟩:=List.mem_map.1 hy
 unfold dat8
 omega
def datTo (k x j:Nat):List Nat:=(List.range (k * 448)).map fun i=>if i < j then dat8 x i else 0
theorem datTo_zero (k x:Nat):datTo k x 0 = List.replicate (k * 448) 0:=by
 apply List.ext_getElem
 ·simp [datTo]
 ·intro i h1 h2
  simp [datTo]
theorem datTo_all (k x:Nat):datTo k x (k * 448) = datL k x:=by
 unfold datTo datL
 apply List.map_congr_left
 intro i hi
 rw [if_pos (List.mem_range.1 hi)]
theorem datTo_succ (k x:Nat) {j:Nat} (h:j < k * 448):(datTo k x j).set j (dat8 x j) = datTo k x (j + 1):=by
 apply List.ext_getElem
 ·simp [datTo]
 ·intro i h1 h2
  simp only [datTo,List.getElem_set,List.getElem_map,List.getElem_range]
  by_cases c:j = i
  ·subst c;simp
  ·rw [if_neg c]
   by_cases c2:i < j
   ·rw [if_pos c2,if_pos (by omega)]
   ·rw [if_neg c2,if_neg (by omega)]
set_option maxHeartbeats 3200000 in
theorem data_yes (w:World) {k x:Nat} (hk:1 <= k) (hk2:k <= 255) (hx:x < 256) :
 Calls Tryz.prog 10 #[.int .i64 (k:Int),.int .u8 (x:Int)] w fun e w'=>∃ p n c,e = .returned (.slice p n c) /\ Own w.heap.size w' (.slice p n c) (datL k x) /\ w.grownBy w' none:=by
 obtain ⟨n,hn⟩:∃ n,n = k * 448:=⟨_,rfl⟩
 have hw:IntKind.i64.wrap ((k:Int) * 448) = (n:Int):=by
  have e:(k:Int) * 448 = (n:Int):=by omega
  rw [e]
  exact IntWalk.i64_in _ (by omega)
 have hnl:n <= 200000:=by omega
 have HN:Hid (n = k * 448 /\ k <= 255):=⟨hn,hk2⟩
 clear hn hk hk2
 go_enter Tryz.func10,Tryz.ntmps10
 go_wp2_with (at_make;refine wpList_make_vec rfl _ _ rfl n rfl rfl (by omega) ?_;intro w1 p o1 g1;have O1:Hid (Own w.heap.size w1 (.slice p n n) (List.replicate n 0)):=o1;have G1:Hid (w.grownBy w1 none):=g1;clear o1 g1)
 clear hw
 go_loopw [12] (fun ti wr=>∃ j:Nat,j <= n /\ ti = .int .i64 j /\ Hid (Own w.heap.size wr (.slice p n n) (datTo k x j)) /\ Hid (w.grownBy wr none)) (fun ti _=>n - (intOf ti).toNat)
 case atStart=>exact ⟨0,by omega,rfl,by rw [datTo_zero,<- HN.out.1];exact O1.out,G1⟩
 case round =>
  clear O1 G1
  obtain ⟨j,hj,rfl,OK,GK⟩:=hrel
  by_cases hlt:j < n
  ·have i3:(j:Int) < (n:Int):=by omega
   have i4:(0:Int) <= (j:Int):=by omega
   have hlo:=OK.out.lo
   obtain ⟨b,hpb,_,hr,hf,hb,hset,hgr⟩:=OK.out.spot (k:=j) (by have:=HN.out;simp [datTo];omega)
   subst hpb
   have HLO:Hid (w.heap.size <= b):=hlo b rfl
   have HS:Hid (∀ z:Nat,z < 256 -> Own w.heap.size (wr.setCell ⟨b,j,none⟩ (.int .u8 (z:Int))) (.slice (some ⟨b,0,none⟩) n n) ((datTo k x j).set j z)):=hset
   have HG:Hid (∀ u,wr.grownBy (wr.setCell ⟨b,j,none⟩ u) (some b)):=hgr
   clear hlo hset hgr hb OK
   go_wp2
   have HV:((x:Int) + (j:Int) % 251 + (j:Int) / 448) % 256 = ((dat8 x j:Nat):Int):=by unfold dat8;omega
   rw [HV]
   go_roundw
   case rel=>exact ⟨j + 1,by omega,by go_num,(by
    have h1:=HS.out (dat8 x j) (by unfold dat8;omega)
    rw [datTo_succ k x (by have:=HN.out;omega)] at h1
    exact h1),grown_new GK.out (HG.out _) (fun i e=>by have:=Option.some.inj e;have:=HLO.out;omega)⟩
   case measure=>simp [intOf];omega
  ·have i3:¬ (j:Int) < (n:Int):=by omega
   have hjn:Hid (j = k * 448):=by show _ = _;have:=HN.out;omega
   go_wp2
   go_ret
   exact ⟨_,_,_,rfl,by rw [<- datTo_all,<- hjn.out];exact OK.out,GK.out⟩
end Go.Proofs.YtfjlpifaaknmpaaGreat
