/- Packed: PM8, Rep8, Ask, RefId, Mark5, Put5, Ref5, All5. -/
import Derived.Test.YtfjlpifaaknmpaaGreatSp7
import Derived.Laws.Rows
import Derived.Laws.BitsAllLaws
set_option linter.unusedSimpArgs false
set_option linter.unusedVariables false
set_option maxRecDepth 100000
namespace Go.Proofs.YtfjlpifaaknmpaaGreat
namespace SP
structure Geo where
 k:Nat
 n:Nat
 s:Nat
 f:Nat
structure Geo.Ok (g:Geo) (R:AM.Raw):Prop where
 k1:1 <= g.k
 kn:g.k < g.n
 n255:g.n <= 255
 s1:1 <= g.s
 s2:g.s <= 128
 room:g.f + 8 * g.s <= R.n
 len:R.C.length = g.n
def why (R:AM.Raw) (g:Geo) (slot:Int):Nat:=if R.off then 8 else if 0 <= slot /\ slot < g.s then 0 else 6
def whyD (R:AM.Raw) (g:Geo) (d slot:Int):Nat:=if why R g slot ≠ 0 then why R g slot else if 0 <= d /\ d < g.n then 0 else 6
theorem why_zero {R:AM.Raw} {g:Geo} {slot:Int} (h:why R g slot = 0):R.off = false /\ 0 <= slot /\ slot < g.s:=by
 unfold why at h
 split at h
 ·omega
 ·split at h
  ·rename_i h1 h2
   exact ⟨by simpa using h1,h2⟩
  ·omega
theorem whyD_zero {R:AM.Raw} {g:Geo} {d slot:Int} (h:whyD R g d slot = 0):why R g slot = 0 /\ 0 <= d /\ d < g.n:=by
 unfold whyD at h
 split at h
 ·omega
 ·split at h
  ·rename_i h1 h2
   exact ⟨by omega,h2⟩
  ·omega
def sects (R:AM.Raw) (g:Geo) (slot d:Nat):List (List Nat):=if R.on (d:Int) then (List.range 8).map (fun i=>AM.look R.C d (g.f + 8 * slot + i)) else []
def sectTo (R:AM.Raw) (g:Geo) (slot d i:Nat):List (List Nat):=(List.range i).map (fun i=>AM.look R.C d (g.f + 8 * slot + i))
theorem sectTo_len (R:AM.Raw) (g:Geo) (slot d i:Nat):(sectTo R g slot d i).length = i:=by simp [sectTo]
theorem sectTo_succ (R:AM.Raw) (g:Geo) (slot d i:Nat):sectTo R g slot d (i + 1) = sectTo R g slot d i ++ [AM.look R.C d (g.f + 8 * slot + i)]:=by simp [sectTo,List.range_succ]
theorem sects_on {R:AM.Raw} {d:Nat} (h:R.on (d:Int) = true) (g:Geo) (slot:Nat):sects R g slot d = sectTo R g slot d 8:=by simp [sects,sectTo,h]
theorem sects_off {R:AM.Raw} {d:Nat} (h:R.on (d:Int) = false) (g:Geo) (slot:Nat):sects R g slot d = []:=by simp [sects,h]
theorem on_spot {R:AM.Raw} {d:Nat} (h:R.on (d:Int) = true):∃ xs,R.C[d]? = some (some xs):=by
 obtain ⟨_,_,xs,h⟩:=AM.on_iff h
 exact ⟨xs,by simpa using h⟩
theorem on_iff_C {R:AM.Raw} {d:Nat}:R.on (d:Int) = (R.C.getD d none).isSome:=by
 by_cases hl:d < R.C.length
 ·simp [AM.Raw.on,hl]
 ·simp [AM.Raw.on,hl,List.getD]
theorem fitG {g:Geo} {R:AM.Raw} (h:g.Ok R) {slot i:Nat} (hs:slot < g.s) (hi:i < 8):g.f + 8 * slot + i < R.n:=by
 have:=h.room
 omega
theorem reach_on {g:Geo} {R:AM.Raw} (h:g.Ok R) (h0:R.off = false) {slot d i:Nat} (hs:slot < g.s) (hi:i < 8) (hd:d < g.n):R.reach (d:Int) ((g.f + 8 * slot + i:Nat):Int) = if R.on (d:Int) then 0 else 9:=by
 have h1:=fitG h hs hi
 have h2:=h.len
 unfold AM.Raw.reach
 rw [h0]
 simp only [Bool.false_eq_true,if_false]
 rw [if_pos ⟨by omega,by omega,by omega,by omega⟩]
theorem sect_ok {g:Geo} {R:AM.Raw} (ok:R.Ok) (h:g.Ok R) {slot d i:Nat} (hs:slot < g.s) (hi:i < 8) (hd:R.on (d:Int) = true):(AM.look R.C d (g.f + 8 * slot + i)).length = 64 /\ ∀ x ∈ AM.look R.C d (g.f + 8 * slot + i),x < 256 :=
 AM.look_ok ok.C (on_spot hd) (fitG h hs hi)
def yesD (R:AM.Raw) (g:Geo) (slot d:Nat):Bool:=CM.yes (sects R g slot d)
def numD (R:AM.Raw) (g:Geo) (slot d:Nat):Nat:=CM.tN (sects R g slot d)
def datD (R:AM.Raw) (g:Geo) (slot d:Nat):List Nat:=CM.tL (sects R g slot d)
theorem yes_on {R:AM.Raw} {g:Geo} {slot d:Nat} (h:yesD R g slot d = true):R.on (d:Int) = true:=by
 cases c:R.on (d:Int)
 ·unfold yesD at h
  rw [sects_off c] at h
  simp [CM.yes] at h
 ·rfl
theorem dat_len {R:AM.Raw} {g:Geo} {slot d:Nat} (h:yesD R g slot d = true):(datD R g slot d).length = 448:=by
 have hon:=yes_on h
 unfold yesD at h
 have h':=(CM.yes_iff.1 h)
 unfold datD CM.tL
 rw [if_pos h]
 rw [sects_on hon] at h' ⊢
 rw [sectTo_len] at h' ⊢
 rw [CM.loads_len (by rw [sectTo_len];omega) (fun j hj=>(h'.2.2 j hj).1)]
def has (R:AM.Raw) (g:Geo) (slot m d:Nat):Bool:=yesD R g slot d && (numD R g slot d == m)
def hits (R:AM.Raw) (g:Geo) (slot m j:Nat):List Nat:=(List.range j).filter (has R g slot m)
theorem hits_zero (R:AM.Raw) (g:Geo) (slot m:Nat):hits R g slot m 0 = []:=rfl
theorem hits_succ (R:AM.Raw) (g:Geo) (slot m j:Nat):hits R g slot m (j + 1) = hits R g slot m j ++ (if has R g slot m j then [j] else []):=by
 unfold hits
 rw [List.range_succ,List.filter_append]
 congr 1
 cases h:has R g slot m j <;> simp [h]
theorem hits_mem {R:AM.Raw} {g:Geo} {slot m j x:Nat} (h:x ∈ hits R g slot m j):x < j /\ has R g slot m x = true:=by
 unfold hits at h
 obtain ⟨h1,h2⟩:=List.mem_filter.1 h
 exact ⟨List.mem_range.1 h1,h2⟩
theorem hits_len_le (R:AM.Raw) (g:Geo) (slot m j:Nat):(hits R g slot m j).length <= j:=by
 have:=List.length_filter_le (has R g slot m) (List.range j)
 simpa [hits] using this
theorem hits_pre {R:AM.Raw} {g:Geo} {slot m j i:Nat} (h:j <= i):∃ l,hits R g slot m i = hits R g slot m j ++ l:=by
 induction i with
 | zero=>obtain rfl:j = 0:=by omega
         exact ⟨[],by simp⟩
 | succ i ih =>
   by_cases c:j = i + 1
   ·subst c;exact ⟨[],by simp⟩
   ·obtain ⟨l,hl⟩:=ih (by omega)
    rw [hits_succ,hl]
    exact ⟨_,List.append_assoc _ _ _⟩
theorem hits_take {R:AM.Raw} {g:Geo} {slot m j:Nat} (hj:j <= g.n) (h:(hits R g slot m j).length = g.k):hits R g slot m j = (hits R g slot m g.n).take g.k:=by
 obtain ⟨l,hl⟩:=hits_pre (R:=R) (g:=g) (slot:=slot) (m:=m) hj
 rw [hl,<- h,List.take_left]
theorem hits_pair (R:AM.Raw) (g:Geo) (slot m j:Nat):(hits R g slot m j).Pairwise (· < ·):=by
 unfold hits
 exact List.Pairwise.filter _ (List.pairwise_lt_range)
def found (R:AM.Raw) (g:Geo) (slot m:Nat):List Nat:=(hits R g slot m g.n).take g.k
def told (R:AM.Raw) (g:Geo) (slot:Nat) (l:List Nat):List (List Nat):=l.map (datD R g slot)
def layTo (R:AM.Raw) (g:Geo) (slot d:Nat) (S:List (List Nat)):Nat -> Nat × AM.Raw
 | 0=>(0,R)
 | j + 1=>if (layTo R g slot d S j).1 = 0 then (layTo R g slot d S j).2.writes (d:Int) ((g.f + 8 * slot + j:Nat):Int) (S.getD j []) else layTo R g slot d S j
def lays (R:AM.Raw) (g:Geo) (slot d m:Nat) (part:List Nat):Nat × AM.Raw:=layTo R g slot d (CM.secs m part 8) 8
theorem layTo_succ {R:AM.Raw} {g:Geo} {slot d:Nat} {S:List (List Nat)} {j:Nat} (h:(layTo R g slot d S j).1 = 0):layTo R g slot d S (j + 1) = (layTo R g slot d S j).2.writes (d:Int) ((g.f + 8 * slot + j:Nat):Int) (S.getD j []):=by
 simp [layTo,h]
theorem layTo_stop {R:AM.Raw} {g:Geo} {slot d:Nat} {S:List (List Nat)} {j:Nat} (h:(layTo R g slot d S j).1 ≠ 0):∀ i,j <= i -> layTo R g slot d S i = layTo R g slot d S j:=fun i hi=>by
 induction i with
 | zero=>obtain rfl:j = 0:=by omega
         rfl
 | succ i ih =>
   by_cases c:j = i + 1
   ·subst c;rfl
   ·have:=ih (by omega)
    simp [layTo,this,h]
structure Kept (R R':AM.Raw):Prop where
 len:R'.C.length = R.C.length
 n:R'.n = R.n
 on:∀ d:Int,R'.on d = R.on d
theorem Kept.refl (R:AM.Raw):Kept R R:=⟨rfl,rfl,fun _=>rfl⟩
theorem Kept.trans {R R' R'':AM.Raw} (h:Kept R R') (k:Kept R' R''):Kept R R'':=⟨k.len.trans h.len,k.n.trans h.n,fun d=>(k.on d).trans (h.on d)⟩
theorem burnt_kept (R:AM.Raw):Kept R R.burnt:=by
 unfold AM.Raw.burnt
 split
 ·exact Kept.refl R
 ·exact ⟨rfl,rfl,fun _=>rfl⟩
theorem fly_kept (R:AM.Raw) (d k:Nat) (b:List Nat):Kept R (R.fly d k b):=by
 refine ⟨by simp [AM.Raw.fly,AM.lay_len],rfl,fun e=>?_⟩
 unfold AM.Raw.on AM.Raw.fly
 simp only [AM.lay_len,AM.lay_on]
theorem writes_kept (R:AM.Raw) (d k:Int) (b:List Nat):Kept R (R.writes d k b).2:=by
 unfold AM.Raw.writes
 split
 ·exact Kept.refl R
 ·split
  ·exact Kept.refl R
  ·split
   ·exact burnt_kept R
   ·exact (burnt_kept R).trans (fly_kept _ _ _ _)
theorem layTo_kept (R:AM.Raw) (g:Geo) (slot d:Nat) (S:List (List Nat)):∀ j,Kept R (layTo R g slot d S j).2
 | 0=>Kept.refl R
 | j + 1=>by
   unfold layTo
   split
   ·exact (layTo_kept R g slot d S j).trans (writes_kept _ _ _ _)
   ·exact layTo_kept R g slot d S j
theorem Geo.Ok.kept {g:Geo} {R R':AM.Raw} (h:g.Ok R) (k:Kept R R'):g.Ok R':=⟨h.k1,h.kn,h.n255,h.s1,h.s2,by rw [k.n];exact h.room,by rw [k.len];exact h.len⟩
def wrTo (R:AM.Raw) (g:Geo) (slot m:Nat) (E:List (List Nat)):Nat -> Nat × AM.Raw
 | 0=>(0,R)
 | d + 1=>if (wrTo R g slot m E d).1 = 0 /\ R.on (d:Int) = true then lays (wrTo R g slot m E d).2 g slot d m (E.getD d []) else wrTo R g slot m E d
theorem wrTo_on {R:AM.Raw} {g:Geo} {slot m:Nat} {E:List (List Nat)} {d:Nat} (h:(wrTo R g slot m E d).1 = 0) (ho:R.on (d:Int) = true):wrTo R g slot m E (d + 1) = lays (wrTo R g slot m E d).2 g slot d m (E.getD d []):=by
 simp [wrTo,h,ho]
theorem wrTo_off {R:AM.Raw} {g:Geo} {slot m:Nat} {E:List (List Nat)} {d:Nat} (ho:R.on (d:Int) = false):wrTo R g slot m E (d + 1) = wrTo R g slot m E d:=by
 simp [wrTo,ho]
theorem wrTo_stop {R:AM.Raw} {g:Geo} {slot m:Nat} {E:List (List Nat)} {j:Nat} (h:(wrTo R g slot m E j).1 ≠ 0):∀ i,j <= i -> wrTo R g slot m E i = wrTo R g slot m E j:=fun i hi=>by
 induction i with
 | zero=>obtain rfl:j = 0:=by omega
         rfl
 | succ i ih =>
   by_cases c:j = i + 1
   ·subst c;rfl
   ·have:=ih (by omega)
    simp [wrTo,this,h]
theorem wrTo_kept (R:AM.Raw) (g:Geo) (slot m:Nat) (E:List (List Nat)):∀ d,Kept R (wrTo R g slot m E d).2
 | 0=>Kept.refl R
 | d + 1=>by
   unfold wrTo
   split
   ·exact (wrTo_kept R g slot m E d).trans (layTo_kept _ _ _ _ _ _)
   ·exact wrTo_kept R g slot m E d
def top (l:List Nat):Nat:=l.foldl max 0
theorem top_app (l:List Nat) (x:Nat):top (l ++ [x]) = max (top l) x:=by simp [top]
theorem foldl_max (l:List Nat):∀ a,l.foldl max a = max a (top l):=by
 induction l with
 | nil=>intro a;simp [top]
 | cons x l ih =>
   intro a
   unfold top
   simp only [List.foldl_cons]
   rw [ih (max a x),ih (max 0 x)]
   omega
theorem top_cons (x:Nat) (l:List Nat):top (x :: l) = max x (top l):=by
 unfold top
 simp only [List.foldl_cons]
 rw [foldl_max]
 simp [top]
theorem top_le {l:List Nat} {b:Nat} (h:∀ x ∈ l,x <= b):top l <= b:=by
 induction l with
 | nil=>simp [top]
 | cons x l ih =>
   rw [top_cons]
   have h1:=h x (by simp)
   have h2:=ih (fun y hy=>h y (by simp [hy]))
   omega
theorem le_top {l:List Nat} {x:Nat} (h:x ∈ l):x <= top l:=by
 induction l with
 | nil=>simp at h
 | cons y l ih =>
   rw [top_cons]
   rcases List.mem_cons.1 h with rfl | h
   ·omega
   ·have:=ih h;omega
def marks (R:AM.Raw) (g:Geo) (slot d:Nat):List Nat:=(sects R g slot d).map (fun b=>SM.val b 8)
def markTo (R:AM.Raw) (g:Geo) (slot d:Nat):List Nat:=(List.range d).flatMap (marks R g slot)
theorem markTo_succ (R:AM.Raw) (g:Geo) (slot d:Nat):markTo R g slot (d + 1) = markTo R g slot d ++ marks R g slot d:=by simp [markTo,List.range_succ]
def high (R:AM.Raw) (g:Geo) (slot:Nat):Nat:=top (markTo R g slot g.n)
def stampTo (R:AM.Raw) (g:Geo) (slot d:Nat):List Nat:=((List.range d).filter (yesD R g slot)).map (numD R g slot)
theorem stampTo_succ (R:AM.Raw) (g:Geo) (slot d:Nat):stampTo R g slot (d + 1) = stampTo R g slot d ++ (if yesD R g slot d then [numD R g slot d] else []):=by
 unfold stampTo
 rw [List.range_succ,List.filter_append,List.map_append]
 congr 1
 cases h:yesD R g slot d <;> simp [h]
theorem stampTo_le (R:AM.Raw) (g:Geo) (slot d:Nat):(stampTo R g slot d).length <= d:=by
 have:=List.length_filter_le (yesD R g slot) (List.range d)
 simpa [stampTo] using this
def often (S:List Nat) (k:Nat):Nat:=top (S.filter (fun m=>decide (k <= S.count m)))
def whole (R:AM.Raw) (g:Geo) (slot:Nat):Nat:=often (stampTo R g slot g.n) g.k
theorem often_perm {S T:List Nat} (h:S.Perm T) (k:Nat):often S k = often T k:=by
 unfold often
 have e:(fun m=>decide (k <= S.count m)) = fun m=>decide (k <= T.count m):=by
  funext m
  rw [h.count_eq]
 rw [e]
 have hp:=h.filter (fun m=>decide (k <= T.count m))
 apply Nat.le_antisymm
 ·exact top_le fun x hx=>le_top (hp.mem_iff.1 hx)
 ·exact top_le fun x hx=>le_top (hp.mem_iff.2 hx)
theorem hits_count (R:AM.Raw) (g:Geo) (slot m:Nat):∀ j,(hits R g slot m j).length = (stampTo R g slot j).count m
 | 0=>by simp [hits,stampTo]
 | j + 1=>by
   rw [hits_succ,stampTo_succ,List.length_append,List.count_append,hits_count R g slot m j]
   congr 1
   unfold has
   cases yesD R g slot j
   ·simp
   ·by_cases c:numD R g slot j = m <;> simp [c]
end SP
open Go.RowKit
abbrev geoV (g:SP.Geo):Value:=.agg #[.int .i64 (g.k:Int),.int .i64 (g.n:Int),.int .i64 (g.s:Int)]
structure SI (F:Nat -> Prop) (w:World) (s a:Nat) (g:SP.Geo) (R:AM.Raw):Prop where
 i:Is F w a R
 top:w.heap[s]? = some (.cells #[ptr a,.int .i64 (g.k:Int),.int .i64 (g.n:Int),.int .i64 (g.s:Int),.int .i64 (g.f:Int)] 86 (0,0))
 nf:¬ F s
 ok:g.Ok R
section
variable {F F':Nat -> Prop} {w w':World} {s a:Nat} {g:SP.Geo} {R R':AM.Raw}
theorem SI.lt (h:SI F w s a g R):s < w.heap.size:=(Array.getElem?_eq_some_iff.1 h.top).1
theorem SI.step (h:SI F w s a g R) (hi:Is F' w' a R') (st:Step F w F' w') (ok:g.Ok R'):SI F' w' s a g R' :=
 ⟨hi,by rw [st.upd.block s h.lt h.nf];exact h.top,fun hf=>by
   rcases st.sub s hf with h1 | h1
   ·exact h.nf h1
   ·have:=h.lt;omega,ok⟩
theorem SI.keep (h:SI F w s a g R) (gr:w.grownBy w' none):SI F w' s a g R:=h.step (h.i.keep gr) (Step.new gr) h.ok
theorem SI.at1 (h:SI F w s a g R):w.cell? ⟨s,0,none⟩ = some (ptr a):=topCell (j:=0) h.top rfl
theorem SI.at2 (h:SI F w s a g R):w.cell? ⟨s,1,none⟩ = some (.int .i64 (g.k:Int)):=topCell (j:=1) h.top rfl
theorem SI.at3 (h:SI F w s a g R):w.cell? ⟨s,2,none⟩ = some (.int .i64 (g.n:Int)):=topCell (j:=2) h.top rfl
theorem SI.at4 (h:SI F w s a g R):w.cell? ⟨s,3,none⟩ = some (.int .i64 (g.s:Int)):=topCell (j:=3) h.top rfl
theorem SI.at5 (h:SI F w s a g R):w.cell? ⟨s,4,none⟩ = some (.int .i64 (g.f:Int)):=topCell (j:=4) h.top rfl
theorem smade_yes (h:SI F w s a g R):Calls Tryz.prog 44 #[ptr s] w fun e w'=>e = .returned (.bool true) /\ w' = w:=by
 have c0:=h.at1
 clear h
 go_enter Tryz.func44,Tryz.ntmps44
 go_wp2
 go_ret
 exact ⟨rfl,rfl⟩
theorem sarray_yes (h:SI F w s a g R):Calls Tryz.prog 9 #[ptr s] w fun e w'=>e = .returned (ptr a) /\ w' = w:=by
 have c0:=h.at1
 have H:Hid (SI F w s a g R):=h
 clear h
 go_enter Tryz.func9,Tryz.ntmps9
 go_wp2_with (go_at_call 44;refine (smade_yes H.out).mono ?_;rintro e w1 ⟨rfl,hw⟩;obtain rfl:=hw.symm;clear hw)
 go_ret
 exact ⟨rfl,rfl⟩
theorem Tryz.sizeGeo:(Tryz.prog.info? 32).map (·.size) = some 3:=by kernel_rfl
theorem sgeo_yes (h:SI F w s a g R):Calls Tryz.prog 8 #[ptr s] w fun e w'=>e = .returned (geoV g) /\ w.grownBy w' none:=by
 have H:Hid (∀ w',w.grownBy w' none -> SI F w' s a g R):=fun w' gr=>h.keep gr
 have G0:∀ V T,w.grownBy (w.alloc (.cells V T)) none:=fun V T=>World.grownBy_alloc w _ none
 have HG0:Hid (∀ V T,w.grownBy (w.alloc (.cells V T)) none):=G0
 clear h G0
 go_enter Tryz.func8,Tryz.ntmps8
 go_wp2_with (go_at_call 44;refine (smade_yes (H.out _ (HG0.out _ _))).mono ?_;rintro e w1 ⟨rfl,hw⟩;obtain rfl:=hw.symm;clear hw;have c1:=(H.out _ (HG0.out #[.int .i64 0,.int .i64 0,.int .i64 0] 32)).at2;have c2:=(H.out _ (HG0.out #[.int .i64 0,.int .i64 0,.int .i64 0] 32)).at3;have c3:=(H.out _ (HG0.out #[.int .i64 0,.int .i64 0,.int .i64 0] 32)).at4)
 exact bodyPost_ret (results_cell_row rfl _ _ w.heap.size 32 #[.int .i64 (g.k:Int),.int .i64 (g.n:Int),.int .i64 (g.s:Int)] (0,0) _ rfl (heap_alloc_new w _) Tryz.underlying32 rfl Tryz.sizeGeo) rfl ⟨rfl,HG0.out _ _⟩
theorem sreach_yes (h:SI F w s a g R) (slot:Int):Calls Tryz.prog 45 #[ptr s,.int .i64 slot] w fun e w'=>e = .returned (.int .i64 (SP.why R g slot:Int)) /\ w' = w:=by
 have c0:=h.at1
 have c3:=h.at4
 have H:Hid (SI F w s a g R):=h
 clear h
 obtain ⟨b,hb⟩:∃ b,b = R.off:=⟨_,rfl⟩
 have HB:Hid (b = R.off):=hb
 have HO:Hid (Calls Tryz.prog 86 #[ptr a] w fun e w'=>e = .returned (.bool b) /\ w' = w):=by rw [hb];exact off_yes H.out.i
 obtain ⟨y,hy⟩:∃ y,y = SP.why R g slot:=⟨_,rfl⟩
 rw [<- hy]
 unfold SP.why at hy
 rw [<- hb] at hy
 clear hb
 cases b
 ·simp only [Bool.false_eq_true,if_false] at hy
  by_cases h1:slot < 0
  ·rw [if_neg (by omega)] at hy
   subst hy
   go_enter Tryz.func45,Tryz.ntmps45
   go_wp2_with (first
    | (go_at_call 44;refine (smade_yes H.out).mono ?_;rintro e w1 ⟨rfl,hw⟩;obtain rfl:=hw.symm;clear hw)
    | (go_at_call 86;refine HO.out.mono ?_;rintro e w1 ⟨rfl,hw⟩;obtain rfl:=hw.symm;clear hw))
   go_ret
   exact ⟨rfl,rfl⟩
  ·by_cases h2:slot < (g.s:Int)
   ·have h3:¬ (g.s:Int) <= slot:=by omega
    rw [if_pos ⟨by omega,h2⟩] at hy
    subst hy
    go_enter Tryz.func45,Tryz.ntmps45
    go_wp2_with (first
     | (go_at_call 44;refine (smade_yes H.out).mono ?_;rintro e w1 ⟨rfl,hw⟩;obtain rfl:=hw.symm;clear hw)
     | (go_at_call 86;refine HO.out.mono ?_;rintro e w1 ⟨rfl,hw⟩;obtain rfl:=hw.symm;clear hw))
    go_ret
    exact ⟨rfl,rfl⟩
   ·have h3:(g.s:Int) <= slot:=by omega
    rw [if_neg (by omega)] at hy
    subst hy
    go_enter Tryz.func45,Tryz.ntmps45
    go_wp2_with (first
     | (go_at_call 44;refine (smade_yes H.out).mono ?_;rintro e w1 ⟨rfl,hw⟩;obtain rfl:=hw.symm;clear hw)
     | (go_at_call 86;refine HO.out.mono ?_;rintro e w1 ⟨rfl,hw⟩;obtain rfl:=hw.symm;clear hw))
    go_ret
    exact ⟨rfl,rfl⟩
 ·simp only [if_true] at hy
  subst hy
  go_enter Tryz.func45,Tryz.ntmps45
  go_wp2_with (first
   | (go_at_call 44;refine (smade_yes H.out).mono ?_;rintro e w1 ⟨rfl,hw⟩;obtain rfl:=hw.symm;clear hw)
   | (go_at_call 86;refine HO.out.mono ?_;rintro e w1 ⟨rfl,hw⟩;obtain rfl:=hw.symm;clear hw))
  go_ret
  exact ⟨rfl,rfl⟩
theorem sreach_at (h:SI F w s a g R) {slot c:Int} (hc:(SP.why R g slot:Int) = c):Calls Tryz.prog 45 #[ptr s,.int .i64 slot] w fun e w'=>e = .returned (.int .i64 c) /\ w' = w:=by
 subst hc
 exact sreach_yes h slot
theorem sreachD_yes (h:SI F w s a g R) (d slot:Int):Calls Tryz.prog 63 #[ptr s,.int .i64 d,.int .i64 slot] w fun e w'=>e = .returned (.int .i64 (SP.whyD R g d slot:Int)) /\ w' = w:=by
 have c2:=h.at3
 have H:Hid (SI F w s a g R):=h
 clear h
 obtain ⟨b,hb⟩:∃ b,b = SP.why R g slot:=⟨_,rfl⟩
 have HO:Hid (Calls Tryz.prog 45 #[ptr s,.int .i64 slot] w fun e w'=>e = .returned (.int .i64 (b:Int)) /\ w' = w):=by rw [hb];exact sreach_yes H.out slot
 obtain ⟨y,hy⟩:∃ y,y = SP.whyD R g d slot:=⟨_,rfl⟩
 rw [<- hy]
 unfold SP.whyD at hy
 rw [<- hb] at hy
 clear hb H
 by_cases h0:b = 0
 ·subst h0
  rw [if_neg (by omega)] at hy
  by_cases h1:d < 0
  ·rw [if_neg (by omega)] at hy
   subst hy
   go_enter Tryz.func63,Tryz.ntmps63
   go_wp2_with (go_at_call 45;refine HO.out.mono ?_;rintro e w1 ⟨rfl,hw⟩;obtain rfl:=hw.symm;clear hw)
   go_ret
   exact ⟨rfl,rfl⟩
  ·by_cases h2:d < (g.n:Int)
   ·have h3:¬ (g.n:Int) <= d:=by omega
    rw [if_pos ⟨by omega,h2⟩] at hy
    subst hy
    go_enter Tryz.func63,Tryz.ntmps63
    go_wp2_with (go_at_call 45;refine HO.out.mono ?_;rintro e w1 ⟨rfl,hw⟩;obtain rfl:=hw.symm;clear hw)
    go_ret
    exact ⟨rfl,rfl⟩
   ·have h3:(g.n:Int) <= d:=by omega
    rw [if_neg (by omega)] at hy
    subst hy
    go_enter Tryz.func63,Tryz.ntmps63
    go_wp2_with (go_at_call 45;refine HO.out.mono ?_;rintro e w1 ⟨rfl,hw⟩;obtain rfl:=hw.symm;clear hw)
    go_ret
    exact ⟨rfl,rfl⟩
 ·rw [if_pos h0] at hy
  subst hy
  have hne:((y:Int) != 0) = true:=by simp;omega
  go_enter Tryz.func63,Tryz.ntmps63
  go_wp2_with (go_at_call 45;refine HO.out.mono ?_;rintro e w1 ⟨rfl,hw⟩;obtain rfl:=hw.symm;clear hw)
  go_ret
  exact ⟨rfl,rfl⟩
theorem sbegin_yes (h:SI F w s a g R) {slot:Nat} (hs:slot < g.s):Calls Tryz.prog 98 #[ptr s,.int .i64 (slot:Int)] w fun e w'=>e = .returned (.int .i64 ((g.f + 8 * slot:Nat):Int)) /\ w' = w:=by
 have c4:=h.at5
 have h1:=h.ok.room
 have h2:=h.i.ok.n2
 have i1:IntKind.i64.wrap (8 * (slot:Int)) = 8 * (slot:Int):=IntWalk.i64_in _ (by omega)
 have i2:IntKind.i64.wrap ((g.f:Int) + 8 * (slot:Int)) = ((g.f + 8 * slot:Nat):Int):=by
  have e:(g.f:Int) + 8 * (slot:Int) = ((g.f + 8 * slot:Nat):Int):=by omega
  rw [e]
  exact IntWalk.i64_in _ (by omega)
 clear h h1 h2
 go_enter Tryz.func98,Tryz.ntmps98
 go_wp2
 go_ret
 exact ⟨by first | rfl | (congr 2;omega),rfl⟩
end
def mayI (k n:Int):Bool:=decide (1 <= k) && (decide (k < n) && decide (n <= 255))
theorem mayI_iff {k n:Int}:mayI k n = true ↔ 1 <= k /\ k < n /\ n <= 255:=by unfold mayI;simp
theorem mayI_not {k n:Int} (h:¬ (1 <= k /\ k < n /\ n <= 255)):mayI k n = false:=by
 rw [Bool.eq_false_iff]
 exact fun e=>h (mayI_iff.1 e)
theorem codeMay_any (k n:Int) (w:World):Calls Tryz.prog 91 #[.int .i64 k,.int .i64 n] w fun e w'=>e = .returned (.bool (mayI k n)) /\ w' = w:=by
 by_cases h1:1 <= k
 ·by_cases h2:k < n
  ·by_cases h3:n <= 255
   ·have HE:Hid (mayI k n = true):=mayI_iff.2 ⟨by omega,h2,by omega⟩
    go_enter Tryz.func91,Tryz.ntmps91
    go_wp2
    go_ret
    exact ⟨by rw [HE.out];first | rfl | (rw [decide_eq_true h3]),rfl⟩
   ·have HE:Hid (mayI k n = false):=mayI_not (by omega)
    go_enter Tryz.func91,Tryz.ntmps91
    go_wp2
    go_ret
    exact ⟨by rw [HE.out];first | rfl | (rw [decide_eq_false h3]),rfl⟩
  ·have HE:Hid (mayI k n = false):=mayI_not (by omega)
   go_enter Tryz.func91,Tryz.ntmps91
   go_wp2
   go_ret
   exact ⟨by rw [HE.out];rfl,rfl⟩
 ·have HE:Hid (mayI k n = false):=mayI_not (by omega)
  go_enter Tryz.func91,Tryz.ntmps91
  go_wp2
  go_ret
  exact ⟨by rw [HE.out];rfl,rfl⟩
theorem refMay4_any (k n:Int) (w:World):Calls Tryz.prog 93 #[.int .i64 k,.int .i64 n] w fun e w'=>e = .returned (.bool (mayI k n)) /\ w' = w:=by
 by_cases h1:0 < k
 ·by_cases h2:k < n
  ·by_cases h3:n < 256
   ·have HE:Hid (mayI k n = true):=mayI_iff.2 ⟨by omega,h2,by omega⟩
    go_enter Tryz.func93,Tryz.ntmps93
    go_wp2
    go_ret
    exact ⟨by rw [HE.out];first | rfl | (rw [decide_eq_true h3]),rfl⟩
   ·have HE:Hid (mayI k n = false):=mayI_not (by omega)
    go_enter Tryz.func93,Tryz.ntmps93
    go_wp2
    go_ret
    exact ⟨by rw [HE.out];first | rfl | (rw [decide_eq_false h3]),rfl⟩
  ·have HE:Hid (mayI k n = false):=mayI_not (by omega)
   go_enter Tryz.func93,Tryz.ntmps93
   go_wp2
   go_ret
   exact ⟨by rw [HE.out];rfl,rfl⟩
 ·have HE:Hid (mayI k n = false):=mayI_not (by omega)
  go_enter Tryz.func93,Tryz.ntmps93
  go_wp2
  go_ret
  exact ⟨by rw [HE.out];rfl,rfl⟩
def evenB (X:List (List Nat)):Bool:=(List.range X.length).all fun j=>(X.getD j []).length == (X.getD 0 []).length
theorem evenB_iff {X:List (List Nat)}:evenB X = true ↔ ∀ j,j < X.length -> (X.getD j []).length = (X.getD 0 []).length:=by
 unfold evenB
 simp only [List.all_eq_true,List.mem_range,beq_iff_eq]
theorem evenB_not {X:List (List Nat)} {j:Nat} (hj:j < X.length) (h:(X.getD j []).length ≠ (X.getD 0 []).length):evenB X = false:=by
 rw [Bool.eq_false_iff]
 exact fun e=>h (evenB_iff.1 e j hj)
theorem even_shape {X:List (List Nat)} (h:evenB X = true):Shape X X.length (X.getD 0 []).length:=⟨rfl,evenB_iff.1 h⟩
set_option maxHeartbeats 1600000 in
theorem asLong_any {w:World} {r:Value} {vs:List Value} {X:List (List Nat)} (mr:Mat w r vs X) :
 Calls Tryz.prog 104 #[r] w fun e w'=>e = .returned (.bool (evenB X)) /\ w' = w:=by
 obtain ⟨q,N,cap,rfl,hN⟩:=mr.row.opened
 have hs:=mr.same
 have hNl:N <= 140737488351232:=by have:=mr.row.len;omega
 by_cases h0:N = 0
 ·subst h0
  have HE:Hid (evenB X = true):=evenB_iff.2 fun j hj=>by omega
  clear hN hs mr
  go_enter Tryz.func104,Tryz.ntmps104
  go_wp2_with fail
  go_loop [7] (fun ti=>ti = .int .i64 0) (fun _=>0)
  case atStart=>exact rfl
  case round =>
   obtain rfl:=hrel
   go_wp2
   go_ret
   exact ⟨by rw [HE.out];rfl,rfl⟩
 ·obtain ⟨b,off,rfl,hc⟩:=mr.row.spot (k:=0) (by omega)
  obtain ⟨p0,n0,c0,e0,hn0⟩:=(mr.vec 0 (by omega)).opened
  rw [e0,Nat.add_zero] at hc
  have HN:Hid (N = X.length /\ n0 = (X.getD 0 []).length):=⟨by omega,hn0⟩
  have MR:Hid (Mat w (.slice (some ⟨b,off,none⟩) N cap) vs X):=mr
  have hN0:(0:Int) < (N:Int):=by omega
  clear e0 hn0 hN hs mr
  go_enter Tryz.func104,Tryz.ntmps104
  go_wp2_with fail
  go_loop [7] (fun ti=>∃ k:Nat,k <= N /\ ti = .int .i64 k /\ Hid (∀ j,j < k -> (X.getD j []).length = n0)) (fun ti=>N - (intOf ti).toNat)
  case atStart=>exact ⟨0,by omega,rfl,fun j hj=>by omega⟩
  case round =>
   obtain ⟨k,hk,rfl,HA⟩:=hrel
   by_cases hlt:k < N
   ·obtain ⟨b1,o1,e1,hr⟩:=MR.out.row.spot (k:=k) (by have:=HN.out;have:=MR.out.same;omega)
    obtain ⟨rfl,rfl⟩:b = b1 /\ off = o1:=by
     injection e1 with e1
     injection e1 with e2 e3
     exact ⟨e2,e3⟩
    obtain ⟨pk,nk,ck,ek,hnk⟩:=(MR.out.vec k (by have:=HN.out;omega)).opened
    rw [ek] at hr
    clear e1 ek
    have i2:(k:Int) < (N:Int):=by omega
    have i3:(0:Int) <= (k:Int):=by omega
    by_cases he:nk = n0
    ·have hne:((nk:Int) != (n0:Int)) = false:=by simp [he]
     have HA':Hid (∀ j,j < k + 1 -> (X.getD j []).length = n0):=fun j hj=>by
      by_cases e:j = k
      ·subst e;omega
      ·exact HA.out j (by omega)
     clear he hnk
     go_wp2
     go_round
     case rel=>exact ⟨k + 1,by omega,by go_num,HA'⟩
     case measure=>simp [intOf];omega
    ·have hne:((nk:Int) != (n0:Int)) = true:=by simp;omega
     have HM:Hid (evenB X = false):=evenB_not (j:=k) (by have:=HN.out;omega) (by have:=HN.out;omega)
     clear he hnk
     go_wp2
     go_ret
     exact ⟨by rw [HM.out];rfl,rfl⟩
   ·have HM:Hid (evenB X = true):=evenB_iff.2 fun j hj=>by rw [HA.out j (by have:=HN.out;omega)];exact HN.out.2
    go_wp2
    go_ret
    exact ⟨by rw [HM.out];rfl,rfl⟩
set_option maxHeartbeats 1600000 in
theorem refEven_any {w:World} {r:Value} {vs:List Value} {X:List (List Nat)} (mr:Mat w r vs X) :
 Calls Tryz.prog 99 #[r] w fun e w'=>e = .returned (.bool (evenB X)) /\ w.grownBy w' none:=by
 obtain ⟨q,N,cap,rfl,hN⟩:=mr.row.opened
 have hs:=mr.same
 have hNl:N <= 140737488351232:=by have:=mr.row.len;omega
 have HN:Hid (N = X.length):=by show _ = _;omega
 have MR:Hid (∀ w',w.grownBy w' none -> Mat w' (.slice q N cap) vs X):=fun w' g=>mr.keep g
 clear hN hs mr
 go_enter Tryz.func99,Tryz.ntmps99
 go_wp2_with fail
 go_loopw [3] (fun ti wr=>∃ k:Nat,1 <= k /\ (k <= N \/ k = 1) /\ ti = .int .i64 k /\ Hid (w.grownBy wr none) /\ Hid (∀ j,j < k -> (X.getD j []).length = (X.getD 0 []).length)) (fun ti _=>N - (intOf ti).toNat)
 case atStart=>exact ⟨1,by omega,by omega,rfl,World.grownBy.refl _ _,fun j hj=>by rw [show j = 0 from by omega]⟩
 case round =>
  obtain ⟨k,hk1,hk,rfl,GK,HA⟩:=hrel
  by_cases hlt:k < N
  ·have GD:w.grownBy wr.drew none:=grown_trans GK.out (grown_drewN _ 1)
   have MK:=MR.out _ GD
   obtain ⟨b,off,rfl,hc⟩:=MK.row.spot (k:=0) (by have:=HN.out;have:=MK.same;omega)
   obtain ⟨p0,n0,c0,e0,hn0⟩:=(MK.vec 0 (by have:=HN.out;omega)).opened
   rw [e0,Nat.add_zero] at hc
   obtain ⟨b1,o1,e1,hr⟩:=MK.row.spot (k:=k) (by have:=HN.out;have:=MK.same;omega)
   obtain ⟨rfl,rfl⟩:b = b1 /\ off = o1:=by
    injection e1 with e1
    injection e1 with e2 e3
    exact ⟨e2,e3⟩
   obtain ⟨pk,nk,ck,ek,hnk⟩:=(MK.vec k (by have:=HN.out;omega)).opened
   rw [ek] at hr
   clear e1 ek e0 MK
   have i1:(0:Int) < (N:Int):=by omega
   have i4:0 < N:=by omega
   have i2:(k:Int) < (N:Int):=by omega
   have i3:(0:Int) <= (k:Int):=by omega
   have GD':Hid (w.grownBy wr.drew none):=GD
   clear GD
   by_cases he:nk = n0
   ·have hne:((nk:Int) != (n0:Int)) = false:=by simp [he]
    have HA':Hid (∀ j,j < k + 1 -> (X.getD j []).length = (X.getD 0 []).length):=fun j hj=>by
     by_cases e:j = k
     ·subst e;omega
     ·exact HA.out j (by omega)
    clear he hnk hn0
    go_wp2_with fail
    go_region
    all_goals
     go_wp2
     go_roundw
     case rel=>exact ⟨k + 1,by omega,by omega,by go_num,GD'.out,HA'⟩
     case measure=>simp [intOf];omega
   ·have hne:((nk:Int) != (n0:Int)) = true:=by simp;omega
    have HM:Hid (evenB X = false):=evenB_not (j:=k) (by have:=HN.out;omega) (by omega)
    clear he hnk hn0
    go_wp2_with fail
    go_region
    all_goals
     go_wp2
     go_ret
     exact ⟨by rw [HM.out];rfl,GD'.out⟩
  ·have HM:Hid (evenB X = true):=evenB_iff.2 fun j hj=>HA.out j (by have:=HN.out;omega)
   go_wp2
   go_ret
   exact ⟨by rw [HM.out];rfl,GK.out⟩
def fitsB (k n:Int) (X:List (List Nat)):Bool:=mayI k n && (decide ((X.length:Int) = k) && evenB X)
theorem fitsB_iff {k n:Int} {X:List (List Nat)}:fitsB k n X = true ↔ (1 <= k /\ k < n /\ n <= 255) /\ (X.length:Int) = k /\ evenB X = true:=by
 unfold fitsB
 rw [Bool.and_eq_true,Bool.and_eq_true,mayI_iff,decide_eq_true_iff]
theorem fits_any {k n:Int} {w:World} {r:Value} {vs:List Value} {X:List (List Nat)} (mr:Mat w r vs X) :
 Calls Tryz.prog 94 #[.int .i64 k,.int .i64 n,r] w fun e w'=>e = .returned (.bool (fitsB k n X)) /\ w' = w:=by
 obtain ⟨q,N,cap,rfl,hN⟩:=mr.row.opened
 have hs:=mr.same
 have hNl:N <= 140737488351232:=by have:=mr.row.len;omega
 have HN:Hid (N = X.length):=by show _ = _;omega
 have HF:Hid (fitsB k n X = (mayI k n && (decide ((N:Int) = k) && evenB X))):=by show _ = _;unfold fitsB;rw [HN.out]
 have MM:Hid (∀ w,Calls Tryz.prog 91 #[.int .i64 k,.int .i64 n] w fun e w'=>e = .returned (.bool (mayI k n)) /\ w' = w):=fun w=>codeMay_any k n w
 have AA:Hid (Calls Tryz.prog 104 #[.slice q N cap] w fun e w'=>e = .returned (.bool (evenB X)) /\ w' = w):=asLong_any mr
 clear hN hs mr
 generalize evenB X = be at *
 generalize mayI k n = bm at *
 by_cases hk:(N:Int) = k
 all_goals
  cases bm
  all_goals
   go_enter Tryz.func94,Tryz.ntmps94
   go_wp2_with (first
    | (go_at_call 91;refine (MM.out _).mono ?_;rintro e w1 ⟨rfl,hw⟩;obtain rfl:=hw.symm;clear hw)
    | (go_at_call 104;refine AA.out.mono ?_;rintro e w1 ⟨rfl,hw⟩;obtain rfl:=hw.symm;clear hw))
   go_ret
   exact ⟨by rw [HF.out];first | rfl | (rw [decide_eq_true hk];rfl) | (rw [decide_eq_false hk];rfl) | (rw [decide_eq_true hk];simp),rfl⟩
def idUp (n k:Nat):List (List Nat):=(List.range k).map fun i=>idRow n i
theorem idUp_next (n k:Nat):idUp n k ++ [idRow n k] = idUp n (k + 1):=by simp [idUp,List.range_succ]
theorem Sep.more {H:Nat} {us:List Value} (h:Sep us) (hh:∀ j,j < us.length -> Hi H (us.getD j undef)) {u:Value} (hu:Lo H u):Sep (us ++ [u]):=by
 have e1:∀ j,j < us.length -> (us ++ [u]).getD j undef = us.getD j undef:=fun j hj=>by simp [List.getD,List.getElem?_append,hj]
 have e2:(us ++ [u]).getD us.length undef = u:=by simp [List.getD]
 intro i j hi hj hne
 simp only [List.length_append,List.length_cons,List.length_nil] at hi hj
 by_cases h1:i < us.length
 ·by_cases h2:j < us.length
  ·rw [e1 i h1,e1 j h2];exact h i j h1 h2 hne
  ·obtain rfl:j = us.length:=by omega
   rw [e1 i h1,e2];exact ap_of (hh i h1) hu
 ·obtain rfl:i = us.length:=by omega
  rw [e2,e1 j (by omega)];exact (ap_of (hh j (by omega)) hu).symm
theorem cell_new1 {W:World} {g:Nat} (x:Value) (t:TypeId) (h:g = W.heap.size):(W.alloc (.cells #[x] t)).cell? ⟨g,0,none⟩ = some x:=by
 subst h
 have h:=heap_alloc_new W (.cells #[x] t)
 unfold World.cell?
 rw [h];rfl
set_option maxHeartbeats 1600000 in
theorem refIdent_any (n:Nat) (w:World) (h1:1 <= n) (h2:n <= 255) :
 Calls Tryz.prog 124 #[.int .i64 (n:Int)] w fun e w'=>∃ v us,e = .returned (.tuple #[v,.int .i64 0]) /\ OwnMat w.heap.size w' v us (idList n) /\ Sep us /\ w.grownBy w' none:=by
 have j1:¬ (n:Int) < 1:=by omega
 have j2:¬ (255:Int) < (n:Int):=by omega
 go_enter Tryz.func124,Tryz.ntmps124
 go_wp2_with fail
 clear j1 j2
 have HN:Hid (1 <= n /\ n <= 255):=⟨h1,h2⟩
 clear h1
 go_loopw [4,5] (fun tv ti wr=>∃ (k:Nat) (us:List Value),k <= n /\ ti = .int .i64 k /\ Hid (us.length = k) /\ Hid (OwnMat w.heap.size wr tv us (idUp n k)) /\ Hid (Sep us) /\ Hid (w.grownBy wr none)) (fun _ ti _=>n - (intOf ti).toNat)
 case atStart=>exact ⟨0,[],by omega,rfl,rfl,OwnMat.nil _ _,(fun i j hi=>by simp at hi),World.grownBy.refl _ _⟩
 case round =>
  obtain ⟨k,us,hk,rfl,HU,OM,SP,GK⟩:=hrel
  by_cases hlt:k < n
  ·have i1:(k:Int) < (n:Int):=by omega
   have i3:(0:Int) <= (k:Int):=by omega
   have HB:Hid (w.heap.size <= wr.heap.size):=GK.out.size
   go_wp2_with (first
    | (at_make;refine wpList_make_vec rfl _ _ rfl n rfl rfl (by omega) ?_;intro w1 p ou g1;obtain ⟨gu,rfl,q1,hcx,hfx,q2,hset,hgrow⟩:=ou.spot (k:=k) (by simp;omega);have G2:Hid (wr.grownBy (w1.setCell ⟨gu,k,none⟩ (.int .u8 1)) none):=grown_new g1 (hgrow _) (fun i e=>by have h:=ou.lo gu rfl;have:=Option.some.inj e;omega);have OU:Hid (Own wr.heap.size (w1.setCell ⟨gu,k,none⟩ (.int .u8 1)) (.slice (some ⟨gu,0,none⟩) n n) (idRow n k)):=(by have h:=hset 1 (by decide);rw [idRow_set] at h;exact h);have HSZ:Hid (wr.heap.size <= w1.heap.size):=g1.size;clear q1 q2 hset hgrow ou g1)
    | (at_builtin;refine wpList_append_out rfl _ _ rfl u4 ⟨w1.heap.size,0,none⟩ rfl rfl (B:=w.heap.size) (us:=us) (u:=.slice (some ⟨gu,0,none⟩) n n) ((OM.out.keep (grown_trans G2.out (World.grownBy_alloc _ _ none))).out) (cell_new1 _ _ (by simp)) rfl (by have h1:=HB.out;have h2:=HSZ.out;simp;omega) (by have:=HU.out;omega) ?_;intro v' w2 oo gg at2;have HO:Hid (Out w.heap.size w2 v' (us ++ [.slice (some ⟨gu,0,none⟩) n n])):=oo;have HG:Hid (((w1.setCell ⟨gu,k,none⟩ (.int .u8 1)).alloc (.cells #[.slice (some ⟨gu,0,none⟩) n n] 40)).grownBy w2 u4.ownBlock):=gg;clear oo gg at2 hcx hfx))
   have R:Hid (OwnMat w.heap.size w2 v' (us ++ [.slice (some ⟨gu,0,none⟩) n n]) (idUp n (k + 1)) /\ Sep (us ++ [.slice (some ⟨gu,0,none⟩) n n]) /\ w.grownBy w2 none):=by
    rw [<- idUp_next]
    refine ⟨(OM.out.keep (grown_trans G2.out (World.grownBy_alloc _ _ none))).more ((OU.out.down HB.out).keep (World.grownBy_alloc _ _ none)) (by have:=HU.out;omega) (by simpa using HO.out.row) HG.out,SP.out.more (H:=wr.heap.size) OM.out.hiRow OU.out.lo,?_⟩
    exact grown_new (grown_trans GK.out (grown_trans G2.out (World.grownBy_alloc _ _ none))) HG.out OM.out.lo
   clear HO HG OM OU G2 HB HSZ SP
   go_roundw
   case rel=>exact ⟨k + 1,us ++ [Value.slice (some ⟨gu,0,none⟩) n n],by omega,by go_num,show _ = _ by simpa using HU.out,R.out.1,R.out.2.1,R.out.2.2⟩
   case measure=>simp [intOf];omega
  ·have hkN:n = k:=by omega
   subst hkN
   go_wp2
   go_ret2
   exact ⟨_,us,rfl,OM.out,SP.out,GK.out⟩
def markTo (n j:Nat):List Nat:=(List.range 8).map fun i=>if 8 - j <= i then n / 256 ^ (7 - i) % 256 else 0
theorem markTo_len (n j:Nat):(markTo n j).length = 8:=by simp [markTo]
theorem markTo_zero (n:Nat):markTo n 0 = SM.z 8:=by
 simp only [markTo,SM.z]
 rw [List.eq_replicate_iff]
 refine ⟨by simp,fun b hb=>?_⟩
 obtain ⟨i,hi,rfl⟩:=List.mem_map.1 hb
 rw [if_neg (by have:=List.mem_range.1 hi;omega)]
theorem markTo_all (n:Nat):markTo n 8 = SM.mk n:=by simp [markTo,SM.mk]
theorem markTo_set (n j:Nat) (h:j < 8):(markTo n j).set (7 - j) (n / 256 ^ j % 256) = markTo n (j + 1):=by
 apply SM.ext_getD (by simp [markTo])
 intro i hi
 have hi':i < 8:=by simpa [markTo] using hi
 by_cases e:7 - j = i
 ·subst e
  have e2:7 - (7 - j) = j:=by omega
  simp [markTo,List.getD,hi',e2]
  omega
 ·have e3:(7 <= i + j) = (8 <= i + j):=by apply propext;omega
  simp [markTo,List.getD,hi',e,e3]
theorem pow_256 (j:Nat):2 ^ (8 * j) = 256 ^ j:=by rw [Nat.pow_mul]
theorem byte_cast (n j:Nat):((n:Int) / 2 ^ (8 * j) % 256) = ((n / 256 ^ j % 256:Nat):Int):=by
 rw [<- pow_256];simp
theorem or_bytes {v y:Nat} (hv:v < 72057594037927936) (hy:y < 256):bits .or .u64 ((v:Int) * 256) (y:Int) = ((256 * v + y:Nat):Int):=by
 have e:(v:Int) * 256 = ((256 * v:Nat):Int):=by omega
 rw [e,u64_or_nat _ _ (by omega) (by omega)]
 have:=Nat.two_pow_add_eq_or_of_lt (i:=8) hy v
 rw [show 2 ^ 8 = 256 by rfl] at this
 rw [this]
theorem zeroM (w:World):(zeroValue 214).run Tryz.prog w = .ok (.agg (rowOf (SM.z 8))) w:=by
 have h:(Tryz.prog.info? 214).map (fun i=>(i.zero,i.size)) = some (some (.agg (rowOf (SM.z 8))),8):=by kernel_rfl
 cases hq:Tryz.prog.info? 214 with
 | none=>simp [hq] at h
 | some i=>simp [hq] at h;simp [zeroValue,typeInfo,hq,h.1]
theorem infoM {xs:List Nat} (h:xs.length = 8):(Tryz.prog.info? 214).map (·.size) = some (rowOf xs).size:=by rw [rowOf_size,h];kernel_rfl
set_option maxHeartbeats 800000 in
theorem marked_any (n:Nat) (w:World) :
 Calls Tryz.prog 159 #[.int .u64 (n:Int)] w fun e w'=>e = .returned (.agg (rowOf (SM.mk n))) /\ w.grownBy w' none:=by
 have zM:=zeroM
 go_enter Tryz.func159,Tryz.ntmps159
 go_wp2
 clear zM
 go_loopw [4] (fun ti wr=>∃ j:Nat,j <= 8 /\ ti = .int .i64 j /\ Hid (wr.heap[w.heap.size]? = some (.cells (rowOf (markTo n j)) 214 (0,0))) /\ Hid (w.grownBy wr none)) (fun ti _=>8 - (intOf ti).toNat)
 case atStart =>
  refine ⟨0,by omega,rfl,?_,gb_alloc (World.grownBy.refl _ _) _⟩
  rw [markTo_zero]
  exact heap_alloc_new w _
 case round =>
  obtain ⟨j,hj,rfl,HM,HG⟩:=hrel
  by_cases hlt:j < 8
  ·have i1:(j:Int) < 8:=by omega
   have hc:wr.cell? ⟨w.heap.size,7 - j,none⟩ = some (.int .u8 (((markTo n j).getD (7 - j) 0:Nat):Int)):=by rw [cell_of_row _ _ _ _ _ _ HM.out,rowOf_get _ (by rw [markTo_len];omega)]
   have hf:wr.frozen? ⟨w.heap.size,7 - j,none⟩ = false:=frozen_of_row _ _ _ _ _ HM.out
   have HP:Hid ((wr.setCell ⟨w.heap.size,7 - j,none⟩ (.int .u8 ((n / 256 ^ j % 256:Nat):Int))).heap[w.heap.size]? = some (.cells (rowOf (markTo n (j + 1))) 214 (0,0))):=by
    show _ = _
    rw [heap_setCell_same _ _ _ _ _ _ HM.out,rowOf_set,markTo_set n j hlt]
   have HGN:Hid (w.grownBy (wr.setCell ⟨w.heap.size,7 - j,none⟩ (.int .u8 ((n / 256 ^ j % 256:Nat):Int))) none):=gb_setCell HG.out (by simp) _
   rw [<- byte_cast] at HP HGN
   clear HM HG
   go_wp2
   go_roundw
   case rel=>exact ⟨j + 1,by omega,by go_num,HP,HGN⟩
   case measure=>simp [intOf];omega
  ·have i1:¬ (j:Int) < 8:=by omega
   have HM':wr.heap[w.heap.size]? = some (.cells (rowOf (SM.mk n)) 214 (0,0)):=by
    have e:j = 8:=by omega
    rw [<- markTo_all,<- e];exact HM.out
   clear HM
   have HI:Hid ((Tryz.prog.info? 214).map (·.size) = some (rowOf (SM.mk n)).size):=infoM (SM.mk_len n)
   have HP:Hid (wr.heap[w.heap.size]? = some (.cells (rowOf (SM.mk n)) 214 (0,0))):=HM'
   have H1:Hid ((rowOf (SM.mk n)).all (·.oneCell') = true):=rowOf_one _
   have HSR:Hid (wr.setRow w.heap.size (rowOf (SM.mk n)) = wr):=setRow_self wr w.heap.size _ _ _ HM'
   clear HM'
   obtain ⟨AR,hAR⟩:∃ AR,AR = rowOf (SM.mk n):=⟨_,rfl⟩
   rw [<- hAR] at HI HP H1 HSR
   have HAR:Hid (AR = rowOf (SM.mk n)):=hAR
   clear hAR
   go_wp2_with (first
    | refine wpList_load_row rfl 214 (.tmp 2) rfl w.heap.size rfl 214 AR (0,0) _ HP.out Tryz.underlying214 rfl HI.out ?_
    | (refine wpList_store_row rfl 214 (.tmp 2) (.tmp 16) rfl w.heap.size AR rfl rfl 214 AR HP.out HI.out rfl H1.out ?_;rw [HSR.out]))
   exact bodyPost_ret (results_cell_row rfl _ _ w.heap.size 214 AR (0,0) _ rfl HP.out Tryz.underlying214 rfl HI.out) rfl ⟨by rw [HAR.out],HG.out⟩
set_option maxHeartbeats 800000 in
theorem stampOf_any {w:World} {v:Value} {xs:List Nat} (hv:Vec w v xs) (h8:8 <= xs.length) :
 Calls Tryz.prog 116 #[v] w fun e w'=>e = .returned (.int .u64 ((SM.val xs 8:Nat):Int)) /\ w' = w:=by
 obtain ⟨q,N,cap,rfl,hN⟩:=hv.opened
 obtain ⟨b,off,rfl,_⟩:=hv.spot (k:=0) (by omega)
 have hcap:N <= cap:=by
  obtain ⟨p',cap',e,h3,_⟩:=hv.form
  injection e with e1 e2 e3
  omega
 have hN8:8 <= N:=by omega
 have HV:Hid (Vec w (.slice (some ⟨b,off,none⟩) N cap) xs):=hv
 have HS:Hid (∀ x ∈ xs,x < 256):=hv.small
 clear hv hN
 go_enter Tryz.func116,Tryz.ntmps116
 go_wp2
 go_loop [3,9] (fun ts ti=>∃ k:Nat,k <= 8 /\ ti = .int .i64 k /\ ts = .int .u64 ((SM.val xs k:Nat):Int)) (fun _ ti=>8 - (intOf ti).toNat)
 case atStart=>exact ⟨0,by omega,rfl,rfl⟩
 case round =>
  obtain ⟨k,hk,rfl,rfl⟩:=hrel
  by_cases hlt:k < 8
  ·have i1:(k:Int) < 8:=by omega
   obtain ⟨b',off',e,hc,h256⟩:=HV.out.spot (k:=k) (by omega)
   injection e with e
   injection e with e1 e2
   subst e1
   subst e2
   have h7:SM.val xs k < 72057594037927936:=by
    have h1:=SM.val_lt HS.out k
    have h2:256 ^ k <= 256 ^ 7:=Nat.pow_le_pow_right (by decide) (by omega)
    have h3:256 ^ 7 = 72057594037927936:=by decide
    omega
   have HOR:Hid (bits .or .u64 (((SM.val xs k:Nat):Int) * 256) ((xs.getD k 0:Nat):Int) = ((SM.val xs (k + 1):Nat):Int)):=or_bytes h7 h256
   generalize xs.getD k 0 = y at *
   go_wp2
   go_round
   case rel=>exact ⟨k + 1,by omega,by go_num,by rw [HOR.out]⟩
   case measure=>simp [intOf];omega
  ·have i1:¬ (k:Int) < 8:=by omega
   have HE:Hid (SM.val xs k = SM.val xs 8):=by
    have e:k = 8:=by omega
    show _ = _
    rw [e]
   go_wp2
   go_ret
   exact ⟨by rw [HE.out];rfl,rfl⟩
theorem zeroS (w:World):(zeroValue 123).run Tryz.prog w = .ok (.agg (rowOf (SM.z 64))) w:=by
 have h:(Tryz.prog.info? 123).map (fun i=>(i.zero,i.size)) = some (some (.agg (rowOf (SM.z 64))),64):=by kernel_rfl
 cases hq:Tryz.prog.info? 123 with
 | none=>simp [hq] at h
 | some i=>simp [hq] at h;simp [zeroValue,typeInfo,hq,h.1]
abbrev Sect (B:Nat) (w:World) (v:Value) (xs:List Nat):Prop:=Arr 123 B w v xs
theorem sec_cur (n:Nat) (ld:List Nat) (h:ld.length <= 56):(SM.mk n ++ SM.z 56).take 8 ++ ld ++ (SM.mk n ++ SM.z 56).drop (8 + ld.length) = SM.sec n ld:=by
 have e1:(SM.mk n ++ SM.z 56).take 8 = SM.mk n:=by rw [List.take_append_of_le_length (by rw [SM.mk_len];exact Nat.le_refl _),List.take_of_length_le (by rw [SM.mk_len];exact Nat.le_refl _)]
 have e2:(SM.mk n ++ SM.z 56).drop (8 + ld.length) = SM.z (56 - ld.length):=by
  rw [List.drop_append,SM.mk_len,List.drop_eq_nil_of_le (by rw [SM.mk_len];omega),List.nil_append,SM.z_drop,Nat.add_sub_cancel_left]
 rw [e1,e2,SM.sec,List.append_assoc]
set_option maxHeartbeats 1600000 in
theorem put_yes {w:World} {n:Nat} {v:Value} {ld:List Nat} (hv:Vec w v ld) (hl:ld.length <= 56) :
 Calls Tryz.prog 141 #[.int .u64 (n:Int),v] w fun e w'=>∃ p,e = .returned (.tuple #[.slice p 64 64,.int .i64 0]) /\ Sect w.heap.size w' (.slice p 64 64) (SM.sec n ld) /\ w.grownBy w' none:=by
 obtain ⟨q,N,cap,rfl,hN⟩:=hv.opened
 have i1:¬ (56:Int) < (N:Int):=by omega
 have HN:Hid (N = ld.length):=hN
 have HV:Hid (∀ w',w.grownBy w' none -> Vec w' (.slice q N cap) ld):=fun w' g=>hv.keep g
 clear hv hN
 have zS:=zeroS
 have zM:=zeroM
 go_enter Tryz.func141,Tryz.ntmps141
 go_wp2_with (first
  | (go_at_call 159;refine (marked_any n _).mono ?_;rintro e w2 ⟨rfl,g2⟩)
  | (refine wpList_store_row rfl 214 (.tmp 7) (.tmp 12) rfl w2.heap.size (rowOf (SM.mk n)) rfl rfl 214 (rowOf (SM.z 8)) (heap_alloc_new w2 _) (infoM (SM.mk_len n)) (by rw [rowOf_size,rowOf_size,SM.mk_len,SM.z_len]) (rowOf_one _) ?_))
 clear zS zM
 have HA:Hid (((w2.alloc (.cells (rowOf (SM.z 8)) 214)).setRow w2.heap.size (rowOf (SM.mk n))).heap[w.heap.size]? = some (.cells (rowOf (SM.z 64)) 123 (0,0))):=by
  have hlt:w.heap.size < w2.heap.size:=by have:=g2.size;simp at this;omega
  show _ = _
  rw [setRow_other _ _ _ _ (by omega)]
  refine heap_old _ _ ?_
  rw [g2.block _ (by simp) (by simp)]
  exact heap_alloc_new w _
 have HB:Hid (((w2.alloc (.cells (rowOf (SM.z 8)) 214)).setRow w2.heap.size (rowOf (SM.mk n))).heap[w2.heap.size]? = some (.cells (rowOf (SM.mk n)) 214 (0,0))):=setRow_heap _ _ _ _ _ _ (heap_alloc_new w2 _)
 have HG:Hid (w.grownBy ((w2.alloc (.cells (rowOf (SM.z 8)) 214)).setRow w2.heap.size (rowOf (SM.mk n))) none):=gb_setRow (gb_alloc (grown_trans (gb_alloc (World.grownBy.refl _ _) _) g2) _) (by have:=g2.size;simp at this;omega) _
 have HLT:Hid (w.heap.size < w2.heap.size):=by have:=g2.size;simp at this;show _ < _;omega
 clear g2
 generalize (w2.alloc (.cells (rowOf (SM.z 8)) 214)).setRow w2.heap.size (rowOf (SM.mk n)) = W at *
 generalize w2.heap.size = h2 at *
 go_wp2_with fail
 have VB:Hid (Vec W.drew (.slice (some ⟨h2,0,none⟩) 8 8) (SM.mk n)):=((Arr.whole (B:=0) (n:=8) HB.out (Nat.zero_le _) (by rw [SM.mk_len]) (SM.mk_small n) (by rw [SM.mk_len];decide)).vec.keep (grown_drewN W 1))
 go_region_held3 (fun w'=>w.grownBy w' none) (first | exact gb_drew HG.out | exact HG4.out)
  ((refine step_copy_part (T:=123) (cur:=SM.z 64) (ys:=SM.mk n) (by rfl) _ _ (by rfl) _ (by rfl) (by rfl) HA.out VB.out (by rw [SM.mk_len];decide) (by rw [SM.mk_len,SM.z_len];decide) ?_;intro w4 h4 g4;have HG4:Hid (w.grownBy w4 none):=grown_new (gb_drew HG.out) g4 (fun i e=>by have:=Option.some.inj e;omega)))
 have H4:Hid (w4.heap[w.heap.size]? = some (.cells (rowOf (SM.mk n ++ SM.z 56)) 123 (0,0))):=by
  show _ = _
  rw [h4,List.take_zero,List.nil_append,SM.mk_len,SM.z_drop]
 clear h4 g4 VB HA HB HG HLT
 have hS:Hid ((SM.mk n ++ SM.z 56).take 8 ++ ld ++ (SM.mk n ++ SM.z 56).drop (8 + ld.length) = SM.sec n ld):=sec_cur n ld hl
 have HL:Hid ((SM.mk n ++ SM.z 56).length = 64):=by show _ = _;rw [List.length_append,SM.mk_len,SM.z_len]
 have VL:Hid (∀ x ∈ ld,x < 256):=(HV.out _ HG4.out).small
 generalize SM.mk n ++ SM.z 56 = cur at *
 go_wp2_with (refine wpList_copy_part rfl _ _ rfl _ (cur:=cur) (ys:=ld) rfl rfl H4.out (HV.out _ HG4.out) hl (by rw [HL.out];omega) ?_;intro w5 h5 g5)
 go_ret2
 rw [hS.out] at h5
 exact ⟨_,rfl,Arr.whole h5 (Nat.le_refl _) (SM.sec_len hl).symm (SM.sec_small VL.out) (by rw [SM.sec_len hl];decide),grown_new HG4.out g5 (fun i e=>by have:=Option.some.inj e;omega)⟩
theorem take_short {w:World} {v:Value} {xs:List Nat} (hv:Vec w v xs) (hl:xs.length < 64) :
 Calls Tryz.prog 68 #[v] w fun e w'=>e = .returned (.tuple #[.int .u64 0,.slice none 0 0,.int .i64 4]) /\ w' = w:=by
 obtain ⟨q,N,cap,rfl,hN⟩:=hv.opened
 have i1:(N:Int) < 64:=by omega
 clear hv hN
 go_enter Tryz.func68,Tryz.ntmps68
 go_wp2
 go_ret3
 exact ⟨rfl,rfl⟩
theorem take_long {w:World} {v:Value} {xs:List Nat} (hv:Vec w v xs) (hl:64 < xs.length) :
 Calls Tryz.prog 68 #[v] w fun e w'=>e = .returned (.tuple #[.int .u64 0,.slice none 0 0,.int .i64 3]) /\ w' = w:=by
 obtain ⟨q,N,cap,rfl,hN⟩:=hv.opened
 have i1:(64:Int) < (N:Int):=by omega
 clear hv hN
 go_enter Tryz.func68,Tryz.ntmps68
 go_wp2
 go_ret3
 exact ⟨rfl,rfl⟩
set_option maxHeartbeats 800000 in
theorem take_yes {w:World} {v:Value} {xs:List Nat} (hv:Vec w v xs) (hl:xs.length = 64) :
 Calls Tryz.prog 68 #[v] w fun e w'=>∃ p,e = .returned (.tuple #[.int .u64 ((SM.val xs 8:Nat):Int),.slice p 56 56,.int .i64 0]) /\ Own w.heap.size w' (.slice p 56 56) (xs.drop 8) /\ w.grownBy w' none:=by
 obtain ⟨q,N,cap,rfl,hN⟩:=hv.opened
 obtain rfl:N = 64:=by omega
 obtain ⟨b,off,rfl,_⟩:=hv.spot (k:=0) (by omega)
 have hcap:64 <= cap:=by
  obtain ⟨p',cap',e,h3,_⟩:=hv.form
  injection e with e1 e2 e3
  omega
 have hcm:cap <= maxLen:=by
  obtain ⟨p',cap',e,_,h4,_⟩:=hv.form
  injection e with e1 e2 e3
  omega
 have HV:Hid (∀ w',w.grownBy w' none -> Vec w' (.slice (some ⟨b,off,none⟩) 64 cap) xs):=fun w' g=>hv.keep g
 have HT:Hid (∀ w',w.grownBy w' none -> Vec w' (.slice (some ⟨b,off + 8,none⟩) 56 (cap - 8)) (xs.drop 8)):=fun w' g=>(hv.keep g).tail_a (by omega)
 clear hv hN
 unfold maxLen at hcm
 go_enter Tryz.func68,Tryz.ntmps68
 go_wp2_with (first
  | (at_make;refine wpList_make_vec rfl _ _ rfl 56 rfl rfl (by decide) ?_;intro w1 p ou g1;have OU:Hid (Own w.heap.size w1 (.slice p 56 56) (SM.z 56)):=ou;have G1:Hid (w.grownBy w1 none):=g1;clear ou g1)
  | (refine wpList_copy_vec rfl _ _ rfl _ _ rfl rfl OU.out (HT.out _ G1.out) (by rw [SM.z_len,List.length_drop,hl]) ?_;intro w2 o2 g2;have O2:Hid (Own w.heap.size w2 (.slice p 56 56) (xs.drop 8)):=o2;have G2:Hid (w.grownBy w2 none):=grown_new G1.out g2 (fun i e=>OU.out.lo i e);clear o2 g2)
  | (go_at_call 116;refine (stampOf_any (HV.out _ G2.out) (by omega)).mono ?_;rintro e w3 ⟨rfl,hw⟩;obtain rfl:=hw.symm;clear hw))
 go_ret3
 exact ⟨p,rfl,O2.out,G2.out⟩
def fillTo (n:Nat) (ld:List Nat) (k:Nat):List Nat:=SM.mk n ++ (ld.take k ++ SM.z (56 - k))
theorem fillTo_zero (n:Nat) (ld:List Nat):fillTo n ld 0 = SM.mk n ++ SM.z 56:=by simp [fillTo]
theorem fillTo_all (n:Nat) (ld:List Nat):fillTo n ld ld.length = SM.sec n ld:=by simp [fillTo,SM.sec]
theorem fillTo_len {n:Nat} {ld:List Nat} {k:Nat} (h:k <= ld.length) (hl:ld.length <= 56):(fillTo n ld k).length = 64:=by
 simp [fillTo,SM.mk_len,SM.z_len];omega
theorem set_app (xs ys:List Nat) (k z:Nat):(xs ++ ys).set (xs.length + k) z = xs ++ ys.set k z:=by
 rw [List.set_append_right _ _ (by omega)]
 simp
theorem fillTo_set {n:Nat} {ld:List Nat} {k:Nat} (h:k < ld.length) (hl:ld.length <= 56):(fillTo n ld k).set (8 + k) (ld.getD k 0) = fillTo n ld (k + 1):=by
 have e8:8 + k = (SM.mk n).length + k:=by rw [SM.mk_len]
 have ek:k = (ld.take k).length + 0:=by simp;omega
 have e2:(ld.take k ++ SM.z (56 - k)).set k (ld.getD k 0) = ld.take (k + 1) ++ SM.z (56 - (k + 1)):=by
  have h1:=set_app (ld.take k) (SM.z (56 - k)) 0 (ld.getD k 0)
  rw [<- ek] at h1
  rw [h1]
  have e3:(SM.z (56 - k)).set 0 (ld.getD k 0) = ld.getD k 0 :: SM.z (56 - (k + 1)):=by
   have:56 - k = (56 - (k + 1)) + 1:=by omega
   rw [this]
   rfl
  have e4:ld[k] = ld.getD k 0:=by simp [List.getD,h]
  rw [e3,List.take_succ_eq_append_getElem h,e4,List.append_assoc]
  rfl
 unfold fillTo
 rw [e8,set_app,e2]
theorem markFill_set (n j:Nat) (h:j < 8):(markTo n j ++ SM.z 56).set (7 - j) (n / 256 ^ j % 256) = markTo n (j + 1) ++ SM.z 56:=by
 rw [List.set_append_left _ _ (by rw [markTo_len];omega),markTo_set n j h]
set_option maxHeartbeats 1600000 in
theorem refPut_yes {w:World} {n:Nat} {v:Value} {ld:List Nat} (hn:n < 18446744073709551616) (hv:Vec w v ld) (hl:ld.length <= 56) :
 Calls Tryz.prog 126 #[.int .u64 (n:Int),v] w fun e w'=>∃ p,e = .returned (.tuple #[.slice p 64 64,.int .i64 0]) /\ Own w.heap.size w' (.slice p 64 64) (SM.sec n ld) /\ w.grownBy w' none:=by
 obtain ⟨q,N,cap,rfl,hN⟩:=hv.opened
 have i1:¬ (56:Int) < (N:Int):=by omega
 have HN:Hid (N = ld.length):=hN
 have HV:Hid (∀ w',w.grownBy w' none -> Vec w' (.slice q N cap) ld):=fun w' g=>hv.keep g
 have hN56:N <= 56:=by omega
 clear hv hN
 go_enter Tryz.func126,Tryz.ntmps126
 go_wp2_with (at_make;refine wpList_make_vec rfl _ _ rfl 64 rfl rfl (by decide) ?_;intro w1 p ou g1;have OU:Hid (Own w.heap.size w1 (.slice p 64 64) (SM.z 64)):=ou;have G1:Hid (w.grownBy w1 none):=g1;clear ou g1)
 go_loopw [0,7] (fun ts ti wr=>∃ j:Nat,j <= 8 /\ ts = .int .u64 ((n / 256 ^ j:Nat):Int) /\ ti = .int .i64 (7 - (j:Int)) /\ Hid (Own w.heap.size wr (.slice p 64 64) (markTo n j ++ SM.z 56)) /\ Hid (w.grownBy wr none)) (fun _ ti _=>(intOf ti + 1).toNat)
 case atStart=>exact ⟨0,by omega,by simp,by simp,by rw [markTo_zero];exact OU,G1⟩
 case round =>
  clear OU G1
  obtain ⟨j,hj,rfl,rfl,OK,GK⟩:=hrel
  by_cases hlt:j < 8
  ·have i2:(j:Int) < 8:=by omega
   obtain ⟨g,rfl,hz,hc,hf,h1,hset,hgr⟩:=OK.out.spot (k:=7 - j) (by rw [List.length_append,markTo_len,SM.z_len];omega)
   clear hz
   have HS:Hid (Own w.heap.size (wr.setCell ⟨g,7 - j,none⟩ (.int .u8 ((n / 256 ^ j % 256:Nat):Int))) (.slice (some ⟨g,0,none⟩) 64 64) (markTo n (j + 1) ++ SM.z 56)):=by
    have h:=hset (n / 256 ^ j % 256) (Nat.mod_lt _ (by decide))
    rw [markFill_set n j hlt] at h
    exact h
   have HG:Hid (w.grownBy (wr.setCell ⟨g,7 - j,none⟩ (.int .u8 ((n / 256 ^ j % 256:Nat):Int))) none):=grown_new GK.out (hgr _) (fun r e=>OK.out.lo r e)
   have HD:Hid (n / 256 ^ j / 256 = n / 256 ^ (j + 1)):=by show _ = _;rw [Nat.div_div_eq_div_mul,Nat.pow_succ]
   have hx:n / 256 ^ j < 18446744073709551616:=Nat.lt_of_le_of_lt (Nat.div_le_self _ _) hn
   clear hset hgr OK GK h1
   generalize (markTo n j ++ SM.z 56).getD (7 - j) 0 = y at *
   generalize n / 256 ^ j = x at *
   rw [Int.natCast_emod] at HS HG
   go_wp2
   go_roundw
   case rel=>exact ⟨j + 1,by omega,by rw [<- HD.out];go_num,by go_num,HS,HG⟩
   case measure=>simp [intOf];omega
  ·have i2:¬ (j:Int) < 8:=by omega
   have HM:Hid (Own w.heap.size wr (.slice p 64 64) (fillTo n ld 0)):=by
    have e:j = 8:=by omega
    rw [fillTo_zero,<- markTo_all,<- e];exact OK
   have i3:¬ (0:Int) <= 7 - (j:Int):=by omega
   clear OK
   obtain ⟨wa,hwa⟩:∃ wa,wa = wr:=⟨wr,rfl⟩
   subst hwa
   go_wp2
   go_loopw [8] (fun ti wr=>∃ k:Nat,k <= N /\ ti = .int .i64 (k:Int) /\ Hid (Own w.heap.size wr (.slice p 64 64) (fillTo n ld k)) /\ Hid (w.grownBy wr none)) (fun ti _=>N - (intOf ti).toNat)
   case atStart=>exact ⟨0,by omega,by simp,HM,GK⟩
   case round =>
    clear HM GK
    obtain ⟨k,hk,rfl,OK,GK⟩:=hrel
    by_cases hlt2:k < N
    ·have j1:(k:Int) < (N:Int):=by omega
     have hkl:k < ld.length:=by have:=HN.out;omega
     obtain ⟨b,off,rfl,hcl,hl256⟩:=(HV.out _ GK.out).spot (k:=k) hkl
     obtain ⟨g,rfl,hz,hc,hf,h1,hset,hgr⟩:=OK.out.spot (k:=8 + k) (by rw [fillTo_len (by omega) hl];omega)
     clear hz
     have HS:Hid (Own w.heap.size (wr.setCell ⟨g,8 + k,none⟩ (.int .u8 ((ld.getD k 0:Nat):Int))) (.slice (some ⟨g,0,none⟩) 64 64) (fillTo n ld (k + 1))):=by
      have h:=hset (ld.getD k 0) hl256
      rw [fillTo_set hkl hl] at h
      exact h
     have HG:Hid (w.grownBy (wr.setCell ⟨g,8 + k,none⟩ (.int .u8 ((ld.getD k 0:Nat):Int))) none):=grown_new GK.out (hgr _) (fun r e=>OK.out.lo r e)
     clear hset hgr OK GK h1
     generalize (fillTo n ld k).getD (8 + k) 0 = y at *
     generalize ld.getD k 0 = x at *
     go_wp2
     go_roundw
     case rel=>exact ⟨k + 1,by omega,by go_num,HS,HG⟩
     case measure=>simp [intOf];omega
    ·have j1:¬ (k:Int) < (N:Int):=by omega
     have HM:Hid (Own w.heap.size wr (.slice p 64 64) (SM.sec n ld)):=by
      have e:k = ld.length:=by have:=HN.out;omega
      rw [<- fillTo_all,<- e];exact OK
     clear OK
     go_wp2
     go_ret2
     exact ⟨p,rfl,HM.out,GK.out⟩
theorem refTake_short {w:World} {v:Value} {xs:List Nat} (hv:Vec w v xs) (hl:xs.length < 64) :
 Calls Tryz.prog 70 #[v] w fun e w'=>e = .returned (.tuple #[.int .u64 0,.slice none 0 0,.int .i64 4]) /\ w' = w:=by
 obtain ⟨q,N,cap,rfl,hN⟩:=hv.opened
 have i1:(N:Int) < 64:=by omega
 clear hv hN
 go_enter Tryz.func70,Tryz.ntmps70
 go_wp2
 go_ret3
 exact ⟨rfl,rfl⟩
theorem refTake_long {w:World} {v:Value} {xs:List Nat} (hv:Vec w v xs) (hl:64 < xs.length) :
 Calls Tryz.prog 70 #[v] w fun e w'=>e = .returned (.tuple #[.int .u64 0,.slice none 0 0,.int .i64 3]) /\ w' = w:=by
 obtain ⟨q,N,cap,rfl,hN⟩:=hv.opened
 have i1:(64:Int) < (N:Int):=by omega
 clear hv hN
 go_enter Tryz.func70,Tryz.ntmps70
 go_wp2
 go_ret3
 exact ⟨rfl,rfl⟩
set_option maxHeartbeats 800000 in
theorem refTake_yes {w:World} {v:Value} {xs:List Nat} (hv:Vec w v xs) (hl:xs.length = 64) :
 Calls Tryz.prog 70 #[v] w fun e w'=>∃ u,e = .returned (.tuple #[.int .u64 ((SM.val xs 8:Nat):Int),u,.int .i64 0]) /\ Own w.heap.size w' u (xs.drop 8) /\ w.grownBy w' none:=by
 obtain ⟨q,N,cap,rfl,hN⟩:=hv.opened
 obtain rfl:N = 64:=by omega
 obtain ⟨b,off,rfl,_⟩:=hv.spot (k:=0) (by omega)
 have hcap:64 <= cap:=by
  obtain ⟨p',cap',e,h3,_⟩:=hv.form
  injection e with e1 e2 e3
  omega
 have hcm:cap <= maxLen:=by
  obtain ⟨p',cap',e,_,h4,_⟩:=hv.form
  injection e with e1 e2 e3
  omega
 have HV:Hid (Vec w (.slice (some ⟨b,off,none⟩) 64 cap) xs):=hv
 have HT:Hid (Vec w (.slice (some ⟨b,off + 8,none⟩) 56 (cap - 8)) (xs.drop 8)):=hv.tail_a (by omega)
 have HS:Hid (∀ x ∈ xs,x < 256):=hv.small
 clear hv hN
 unfold maxLen at hcm
 go_enter Tryz.func70,Tryz.ntmps70
 go_wp2
 go_loop [5,6] (fun ts ti=>∃ k:Nat,k <= 8 /\ ti = .int .i64 k /\ ts = .int .u64 ((SM.val xs k:Nat):Int)) (fun _ ti=>8 - (intOf ti).toNat)
 case atStart=>exact ⟨0,by omega,rfl,rfl⟩
 case round =>
  obtain ⟨k,hk,rfl,rfl⟩:=hrel
  by_cases hlt:k < 8
  ·have i1:(k:Int) < 8:=by omega
   obtain ⟨b',off',e,hc,h256⟩:=HV.out.spot (k:=k) (by omega)
   injection e with e
   injection e with e1 e2
   subst e1
   subst e2
   have h7:SM.val xs k < 72057594037927936:=by
    have h1:=SM.val_lt HS.out k
    have h2:256 ^ k <= 256 ^ 7:=Nat.pow_le_pow_right (by decide) (by omega)
    have h3:256 ^ 7 = 72057594037927936:=by decide
    omega
   have HOR:Hid (256 * ((SM.val xs k:Nat):Int) + ((xs.getD k 0:Nat):Int) = ((SM.val xs (k + 1):Nat):Int)):=by
    show _ = (((256 * SM.val xs k + xs.getD k 0):Nat):Int)
    simp
   generalize xs.getD k 0 = y at *
   go_wp2
   go_round
   case rel=>exact ⟨k + 1,by omega,by go_num,by rw [<- HOR.out]⟩
   case measure=>simp [intOf];omega
  ·have i1:¬ (k:Int) < 8:=by omega
   have HE:Hid (SM.val xs k = SM.val xs 8):=by
    have e:k = 8:=by omega
    show _ = _
    rw [e]
   go_wp2_with (at_builtin;refine wpList_append_vec rfl _ _ rfl _ _ rfl rfl (Own.nil w.heap.size w) HT.out (Nat.le_refl _) (by rw [List.length_drop,hl];decide) ?_;intro u w1 ho hg)
   go_ret3
   exact ⟨_,by rw [HE.out];rfl,ho,hg⟩
def takeN (xs:List Nat):Nat:=if xs.length = 64 then SM.val xs 8 else 0
def takeL (xs:List Nat):List Nat:=if xs.length = 64 then xs.drop 8 else []
def takeE (xs:List Nat):Int:=if xs.length = 64 then 0 else if xs.length < 64 then 4 else 3
theorem take_all {w:World} {v:Value} {xs:List Nat} (hv:Vec w v xs) :
 Calls Tryz.prog 68 #[v] w fun e w'=>∃ p k,e = .returned (.tuple #[.int .u64 ((takeN xs:Nat):Int),.slice p k k,.int .i64 (takeE xs)]) /\ Own w.heap.size w' (.slice p k k) (takeL xs) /\ w.grownBy w' none:=by
 unfold takeN takeL takeE
 by_cases hl:xs.length = 64
 ·rw [if_pos hl,if_pos hl,if_pos hl]
  exact (take_yes hv hl).mono fun e w' ⟨p,h⟩=>⟨p,56,h⟩
 ·rw [if_neg hl,if_neg hl,if_neg hl]
  by_cases h2:xs.length < 64
  ·rw [if_pos h2]
   exact (take_short hv h2).mono fun e w' ⟨h1,h2⟩=>⟨none,0,h1,Own.nil _ _,by rw [h2];exact World.grownBy.refl _ _⟩
  ·rw [if_neg h2]
   exact (take_long hv (by omega)).mono fun e w' ⟨h1,h2⟩=>⟨none,0,h1,Own.nil _ _,by rw [h2];exact World.grownBy.refl _ _⟩
theorem refTake_all {w:World} {v:Value} {xs:List Nat} (hv:Vec w v xs) :
 Calls Tryz.prog 70 #[v] w fun e w'=>∃ u,e = .returned (.tuple #[.int .u64 ((takeN xs:Nat):Int),u,.int .i64 (takeE xs)]) /\ Own w.heap.size w' u (takeL xs) /\ w.grownBy w' none:=by
 unfold takeN takeL takeE
 by_cases hl:xs.length = 64
 ·rw [if_pos hl,if_pos hl,if_pos hl]
  exact refTake_yes hv hl
 ·rw [if_neg hl,if_neg hl,if_neg hl]
  by_cases h2:xs.length < 64
  ·rw [if_pos h2]
   exact (refTake_short hv h2).mono fun e w' ⟨h1,h2⟩=>⟨_,h1,Own.nil _ _,by rw [h2];exact World.grownBy.refl _ _⟩
  ·rw [if_neg h2]
   exact (refTake_long hv (by omega)).mono fun e w' ⟨h1,h2⟩=>⟨_,h1,Own.nil _ _,by rw [h2];exact World.grownBy.refl _ _⟩
end Go.Proofs.YtfjlpifaaknmpaaGreat
