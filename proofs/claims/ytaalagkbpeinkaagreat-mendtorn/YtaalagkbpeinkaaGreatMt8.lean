/- Packed: PM8, Rep8, RefId, Mark5, Put5, All5, Rows7, Sec8, RTake7, Iter7. -/
import Derived.Test.YtaalagkbpeinkaaGreatMt7
import Derived.Laws.Rows
import Derived.Laws.BitsAllLaws
import Derived.Laws.MakeOwn
import Derived.RangeFuncNested
import Derived.RangeFuncBound
import Derived.RangeFuncCalls
import Derived.RangeFuncLeaves
import Derived.RangeFuncBox
import Derived.Shelf.Abstract
import Derived.OwnWalkIn
import Derived.TacticsInMore
import Derived.LoopNIn
import Derived.LoopIn
set_option linter.unusedSimpArgs false
set_option linter.unusedVariables false
set_option maxRecDepth 100000
namespace Go.Proofs.YtaalagkbpeinkaaGreat
namespace SP
structure Geo where
 k:Nat
 n:Nat
 s:Nat
 f:Nat
structure Geo.Ok (g:Geo) (R:AM.Raw):Prop where
 k1:1 <= g.k
 kn:g.k < g.n
 n255:g.n <= 255
 s1:1 <= g.s
 s2:g.s <= 128
 room:g.f + 8 * g.s <= R.n
 len:R.C.length = g.n
def why (R:AM.Raw) (g:Geo) (slot:Int):Nat:=if R.off then 8 else if 0 <= slot /\ slot < g.s then 0 else 6
def whyD (R:AM.Raw) (g:Geo) (d slot:Int):Nat:=if why R g slot ≠ 0 then why R g slot else if 0 <= d /\ d < g.n then 0 else 6
theorem why_zero {R:AM.Raw} {g:Geo} {slot:Int} (h:why R g slot = 0):R.off = false /\ 0 <= slot /\ slot < g.s:=by
 unfold why at h
 split at h
 ·omega
 ·split at h
  ·rename_i h1 h2
   exact ⟨by simpa using h1,h2⟩
  ·omega
theorem whyD_zero {R:AM.Raw} {g:Geo} {d slot:Int} (h:whyD R g d slot = 0):why R g slot = 0 /\ 0 <= d /\ d < g.n:=by
 unfold whyD at h
 split at h
 ·omega
 ·split at h
  ·rename_i h1 h2
   exact ⟨by omega,h2⟩
  ·omega
def sects (R:AM.Raw) (g:Geo) (slot d:Nat):List (List Nat):=if R.on (d:Int) then (List.range 8).map (fun i=>AM.look R.C d (g.f + 8 * slot + i)) else []
def sectTo (R:AM.Raw) (g:Geo) (slot d i:Nat):List (List Nat):=(List.range i).map (fun i=>AM.look R.C d (g.f + 8 * slot + i))
theorem sectTo_len (R:AM.Raw) (g:Geo) (slot d i:Nat):(sectTo R g slot d i).length = i:=by simp [sectTo]
theorem sectTo_succ (R:AM.Raw) (g:Geo) (slot d i:Nat):sectTo R g slot d (i + 1) = sectTo R g slot d i ++ [AM.look R.C d (g.f + 8 * slot + i)]:=by simp [sectTo,List.range_succ]
theorem sects_on {R:AM.Raw} {d:Nat} (h:R.on (d:Int) = true) (g:Geo) (slot:Nat):sects R g slot d = sectTo R g slot d 8:=by simp [sects,sectTo,h]
theorem sects_off {R:AM.Raw} {d:Nat} (h:R.on (d:Int) = false) (g:Geo) (slot:Nat):sects R g slot d = []:=by simp [sects,h]
theorem on_iff_C {R:AM.Raw} {d:Nat}:R.on (d:Int) = (R.C.getD d none).isSome:=by
 by_cases hl:d < R.C.length
 ·simp [AM.Raw.on,hl]
 ·simp [AM.Raw.on,hl,List.getD]
theorem fitG {g:Geo} {R:AM.Raw} (h:g.Ok R) {slot i:Nat} (hs:slot < g.s) (hi:i < 8):g.f + 8 * slot + i < R.n:=by
 have:=h.room
 omega
theorem reach_on {g:Geo} {R:AM.Raw} (h:g.Ok R) (h0:R.off = false) {slot d i:Nat} (hs:slot < g.s) (hi:i < 8) (hd:d < g.n):R.reach (d:Int) ((g.f + 8 * slot + i:Nat):Int) = if R.on (d:Int) then 0 else 9:=by
 have h1:=fitG h hs hi
 have h2:=h.len
 unfold AM.Raw.reach
 rw [h0]
 simp only [Bool.false_eq_true,if_false]
 rw [if_pos ⟨by omega,by omega,by omega,by omega⟩]
def yesD (R:AM.Raw) (g:Geo) (slot d:Nat):Bool:=CM.yes (sects R g slot d)
def numD (R:AM.Raw) (g:Geo) (slot d:Nat):Nat:=CM.tN (sects R g slot d)
def datD (R:AM.Raw) (g:Geo) (slot d:Nat):List Nat:=CM.tL (sects R g slot d)
theorem yes_on {R:AM.Raw} {g:Geo} {slot d:Nat} (h:yesD R g slot d = true):R.on (d:Int) = true:=by
 cases c:R.on (d:Int)
 ·unfold yesD at h
  rw [sects_off c] at h
  simp [CM.yes] at h
 ·rfl
theorem dat_len {R:AM.Raw} {g:Geo} {slot d:Nat} (h:yesD R g slot d = true):(datD R g slot d).length = 448:=by
 have hon:=yes_on h
 unfold yesD at h
 have h':=(CM.yes_iff.1 h)
 unfold datD CM.tL
 rw [if_pos h]
 rw [sects_on hon] at h' ⊢
 rw [sectTo_len] at h' ⊢
 rw [CM.loads_len (by rw [sectTo_len];omega) (fun j hj=>(h'.2.2 j hj).1)]
def has (R:AM.Raw) (g:Geo) (slot m d:Nat):Bool:=yesD R g slot d && (numD R g slot d == m)
def hits (R:AM.Raw) (g:Geo) (slot m j:Nat):List Nat:=(List.range j).filter (has R g slot m)
theorem hits_zero (R:AM.Raw) (g:Geo) (slot m:Nat):hits R g slot m 0 = []:=rfl
theorem hits_succ (R:AM.Raw) (g:Geo) (slot m j:Nat):hits R g slot m (j + 1) = hits R g slot m j ++ (if has R g slot m j then [j] else []):=by
 unfold hits
 rw [List.range_succ,List.filter_append]
 congr 1
 cases h:has R g slot m j <;> simp [h]
theorem hits_mem {R:AM.Raw} {g:Geo} {slot m j x:Nat} (h:x ∈ hits R g slot m j):x < j /\ has R g slot m x = true:=by
 unfold hits at h
 obtain ⟨h1,h2⟩:=List.mem_filter.1 h
 exact ⟨List.mem_range.1 h1,h2⟩
theorem hits_len_le (R:AM.Raw) (g:Geo) (slot m j:Nat):(hits R g slot m j).length <= j:=by
 have:=List.length_filter_le (has R g slot m) (List.range j)
 simpa [hits] using this
theorem hits_pre {R:AM.Raw} {g:Geo} {slot m j i:Nat} (h:j <= i):∃ l,hits R g slot m i = hits R g slot m j ++ l:=by
 induction i with
 | zero=>obtain rfl:j = 0:=by omega
         exact ⟨[],by simp⟩
 | succ i ih =>
   by_cases c:j = i + 1
   ·subst c;exact ⟨[],by simp⟩
   ·obtain ⟨l,hl⟩:=ih (by omega)
    rw [hits_succ,hl]
    exact ⟨_,List.append_assoc _ _ _⟩
theorem hits_take {R:AM.Raw} {g:Geo} {slot m j:Nat} (hj:j <= g.n) (h:(hits R g slot m j).length = g.k):hits R g slot m j = (hits R g slot m g.n).take g.k:=by
 obtain ⟨l,hl⟩:=hits_pre (R:=R) (g:=g) (slot:=slot) (m:=m) hj
 rw [hl,<- h,List.take_left]
theorem hits_pair (R:AM.Raw) (g:Geo) (slot m j:Nat):(hits R g slot m j).Pairwise (· < ·):=by
 unfold hits
 exact List.Pairwise.filter _ (List.pairwise_lt_range)
def found (R:AM.Raw) (g:Geo) (slot m:Nat):List Nat:=(hits R g slot m g.n).take g.k
def told (R:AM.Raw) (g:Geo) (slot:Nat) (l:List Nat):List (List Nat):=l.map (datD R g slot)
def layTo (R:AM.Raw) (g:Geo) (slot d:Nat) (S:List (List Nat)):Nat -> Nat × AM.Raw
 | 0=>(0,R)
 | j + 1=>if (layTo R g slot d S j).1 = 0 then (layTo R g slot d S j).2.writes (d:Int) ((g.f + 8 * slot + j:Nat):Int) (S.getD j []) else layTo R g slot d S j
def lays (R:AM.Raw) (g:Geo) (slot d m:Nat) (part:List Nat):Nat × AM.Raw:=layTo R g slot d (CM.secs m part 8) 8
theorem layTo_succ {R:AM.Raw} {g:Geo} {slot d:Nat} {S:List (List Nat)} {j:Nat} (h:(layTo R g slot d S j).1 = 0):layTo R g slot d S (j + 1) = (layTo R g slot d S j).2.writes (d:Int) ((g.f + 8 * slot + j:Nat):Int) (S.getD j []):=by
 simp [layTo,h]
theorem layTo_stop {R:AM.Raw} {g:Geo} {slot d:Nat} {S:List (List Nat)} {j:Nat} (h:(layTo R g slot d S j).1 ≠ 0):∀ i,j <= i -> layTo R g slot d S i = layTo R g slot d S j:=fun i hi=>by
 induction i with
 | zero=>obtain rfl:j = 0:=by omega
         rfl
 | succ i ih =>
   by_cases c:j = i + 1
   ·subst c;rfl
   ·have:=ih (by omega)
    simp [layTo,this,h]
structure Kept (R R':AM.Raw):Prop where
 len:R'.C.length = R.C.length
 n:R'.n = R.n
 on:∀ d:Int,R'.on d = R.on d
theorem Kept.refl (R:AM.Raw):Kept R R:=⟨rfl,rfl,fun _=>rfl⟩
theorem Kept.trans {R R' R'':AM.Raw} (h:Kept R R') (k:Kept R' R''):Kept R R'':=⟨k.len.trans h.len,k.n.trans h.n,fun d=>(k.on d).trans (h.on d)⟩
theorem burnt_kept (R:AM.Raw):Kept R R.burnt:=by
 unfold AM.Raw.burnt
 split
 ·exact Kept.refl R
 ·exact ⟨rfl,rfl,fun _=>rfl⟩
theorem fly_kept (R:AM.Raw) (d k:Nat) (b:List Nat):Kept R (R.fly d k b):=by
 refine ⟨by simp [AM.Raw.fly,AM.lay_len],rfl,fun e=>?_⟩
 unfold AM.Raw.on AM.Raw.fly
 simp only [AM.lay_len,AM.lay_on]
theorem writes_kept (R:AM.Raw) (d k:Int) (b:List Nat):Kept R (R.writes d k b).2:=by
 unfold AM.Raw.writes
 split
 ·exact Kept.refl R
 ·split
  ·exact Kept.refl R
  ·split
   ·exact burnt_kept R
   ·exact (burnt_kept R).trans (fly_kept _ _ _ _)
theorem layTo_kept (R:AM.Raw) (g:Geo) (slot d:Nat) (S:List (List Nat)):∀ j,Kept R (layTo R g slot d S j).2
 | 0=>Kept.refl R
 | j + 1=>by
   unfold layTo
   split
   ·exact (layTo_kept R g slot d S j).trans (writes_kept _ _ _ _)
   ·exact layTo_kept R g slot d S j
theorem Geo.Ok.kept {g:Geo} {R R':AM.Raw} (h:g.Ok R) (k:Kept R R'):g.Ok R':=⟨h.k1,h.kn,h.n255,h.s1,h.s2,by rw [k.n];exact h.room,by rw [k.len];exact h.len⟩
def wrTo (R:AM.Raw) (g:Geo) (slot m:Nat) (E:List (List Nat)):Nat -> Nat × AM.Raw
 | 0=>(0,R)
 | d + 1=>if (wrTo R g slot m E d).1 = 0 /\ R.on (d:Int) = true then lays (wrTo R g slot m E d).2 g slot d m (E.getD d []) else wrTo R g slot m E d
theorem wrTo_on {R:AM.Raw} {g:Geo} {slot m:Nat} {E:List (List Nat)} {d:Nat} (h:(wrTo R g slot m E d).1 = 0) (ho:R.on (d:Int) = true):wrTo R g slot m E (d + 1) = lays (wrTo R g slot m E d).2 g slot d m (E.getD d []):=by
 simp [wrTo,h,ho]
theorem wrTo_off {R:AM.Raw} {g:Geo} {slot m:Nat} {E:List (List Nat)} {d:Nat} (ho:R.on (d:Int) = false):wrTo R g slot m E (d + 1) = wrTo R g slot m E d:=by
 simp [wrTo,ho]
theorem wrTo_stop {R:AM.Raw} {g:Geo} {slot m:Nat} {E:List (List Nat)} {j:Nat} (h:(wrTo R g slot m E j).1 ≠ 0):∀ i,j <= i -> wrTo R g slot m E i = wrTo R g slot m E j:=fun i hi=>by
 induction i with
 | zero=>obtain rfl:j = 0:=by omega
         rfl
 | succ i ih =>
   by_cases c:j = i + 1
   ·subst c;rfl
   ·have:=ih (by omega)
    simp [wrTo,this,h]
theorem wrTo_kept (R:AM.Raw) (g:Geo) (slot m:Nat) (E:List (List Nat)):∀ d,Kept R (wrTo R g slot m E d).2
 | 0=>Kept.refl R
 | d + 1=>by
   unfold wrTo
   split
   ·exact (wrTo_kept R g slot m E d).trans (layTo_kept _ _ _ _ _ _)
   ·exact wrTo_kept R g slot m E d
end SP
open Go.RowKit
abbrev geoV (g:SP.Geo):Value:=.agg #[.int .i64 (g.k:Int),.int .i64 (g.n:Int),.int .i64 (g.s:Int)]
structure SI (F:Nat -> Prop) (w:World) (s a:Nat) (g:SP.Geo) (R:AM.Raw):Prop where
 i:Is F w a R
 top:w.heap[s]? = some (.cells #[ptr a,.int .i64 (g.k:Int),.int .i64 (g.n:Int),.int .i64 (g.s:Int),.int .i64 (g.f:Int)] 94 (0,0))
 nf:¬ F s
 ok:g.Ok R
section
variable {F F':Nat -> Prop} {w w':World} {s a:Nat} {g:SP.Geo} {R R':AM.Raw}
theorem SI.lt (h:SI F w s a g R):s < w.heap.size:=(Array.getElem?_eq_some_iff.1 h.top).1
theorem SI.step (h:SI F w s a g R) (hi:Is F' w' a R') (st:Step F w F' w') (ok:g.Ok R'):SI F' w' s a g R' :=
 ⟨hi,by rw [st.upd.block s h.lt h.nf];exact h.top,fun hf=>by
   rcases st.sub s hf with h1 | h1
   ·exact h.nf h1
   ·have:=h.lt;omega,ok⟩
theorem SI.keep (h:SI F w s a g R) (gr:w.grownBy w' none):SI F w' s a g R:=h.step (h.i.keep gr) (Step.new gr) h.ok
theorem SI.at1 (h:SI F w s a g R):w.cell? ⟨s,0,none⟩ = some (ptr a):=topCell (j:=0) h.top rfl
theorem SI.at2 (h:SI F w s a g R):w.cell? ⟨s,1,none⟩ = some (.int .i64 (g.k:Int)):=topCell (j:=1) h.top rfl
theorem SI.at3 (h:SI F w s a g R):w.cell? ⟨s,2,none⟩ = some (.int .i64 (g.n:Int)):=topCell (j:=2) h.top rfl
theorem SI.at4 (h:SI F w s a g R):w.cell? ⟨s,3,none⟩ = some (.int .i64 (g.s:Int)):=topCell (j:=3) h.top rfl
theorem SI.at5 (h:SI F w s a g R):w.cell? ⟨s,4,none⟩ = some (.int .i64 (g.f:Int)):=topCell (j:=4) h.top rfl
theorem smade_yes (h:SI F w s a g R):Calls Tryz.prog 56 #[ptr s] w fun e w'=>e = .returned (.bool true) /\ w' = w:=by
 have c0:=h.at1
 clear h
 go_enter Tryz.func56,Tryz.ntmps56
 go_wp2
 go_ret
 exact ⟨rfl,rfl⟩
theorem sarray_yes (h:SI F w s a g R):Calls Tryz.prog 11 #[ptr s] w fun e w'=>e = .returned (ptr a) /\ w' = w:=by
 have c0:=h.at1
 have H:Hid (SI F w s a g R):=h
 clear h
 go_enter Tryz.func11,Tryz.ntmps11
 go_wp2_with (go_at_call 56;refine (smade_yes H.out).mono ?_;rintro e w1 ⟨rfl,hw⟩;obtain rfl:=hw.symm;clear hw)
 go_ret
 exact ⟨rfl,rfl⟩
theorem Tryz.sizeGeo:(Tryz.prog.info? 39).map (·.size) = some 3:=by kernel_rfl
theorem sgeo_yes (h:SI F w s a g R):Calls Tryz.prog 68 #[ptr s] w fun e w'=>e = .returned (geoV g) /\ w.grownBy w' none:=by
 have H:Hid (∀ w',w.grownBy w' none -> SI F w' s a g R):=fun w' gr=>h.keep gr
 have G0:∀ V T,w.grownBy (w.alloc (.cells V T)) none:=fun V T=>World.grownBy_alloc w _ none
 have HG0:Hid (∀ V T,w.grownBy (w.alloc (.cells V T)) none):=G0
 clear h G0
 go_enter Tryz.func68,Tryz.ntmps68
 go_wp2_with (go_at_call 56;refine (smade_yes (H.out _ (HG0.out _ _))).mono ?_;rintro e w1 ⟨rfl,hw⟩;obtain rfl:=hw.symm;clear hw;have c1:=(H.out _ (HG0.out #[.int .i64 0,.int .i64 0,.int .i64 0] 39)).at2;have c2:=(H.out _ (HG0.out #[.int .i64 0,.int .i64 0,.int .i64 0] 39)).at3;have c3:=(H.out _ (HG0.out #[.int .i64 0,.int .i64 0,.int .i64 0] 39)).at4)
 exact bodyPost_ret (results_cell_row rfl _ _ w.heap.size 39 #[.int .i64 (g.k:Int),.int .i64 (g.n:Int),.int .i64 (g.s:Int)] (0,0) _ rfl (heap_alloc_new w _) Tryz.underlying39 rfl Tryz.sizeGeo) rfl ⟨rfl,HG0.out _ _⟩
theorem sreach_yes (h:SI F w s a g R) (slot:Int):Calls Tryz.prog 57 #[ptr s,.int .i64 slot] w fun e w'=>e = .returned (.int .i64 (SP.why R g slot:Int)) /\ w' = w:=by
 have c0:=h.at1
 have c3:=h.at4
 have H:Hid (SI F w s a g R):=h
 clear h
 obtain ⟨b,hb⟩:∃ b,b = R.off:=⟨_,rfl⟩
 have HB:Hid (b = R.off):=hb
 have HO:Hid (Calls Tryz.prog 24 #[ptr a] w fun e w'=>e = .returned (.bool b) /\ w' = w):=by rw [hb];exact off_yes H.out.i
 obtain ⟨y,hy⟩:∃ y,y = SP.why R g slot:=⟨_,rfl⟩
 rw [<- hy]
 unfold SP.why at hy
 rw [<- hb] at hy
 clear hb
 cases b
 ·simp only [Bool.false_eq_true,if_false] at hy
  by_cases h1:slot < 0
  ·rw [if_neg (by omega)] at hy
   subst hy
   go_enter Tryz.func57,Tryz.ntmps57
   go_wp2_with (first
    | (go_at_call 56;refine (smade_yes H.out).mono ?_;rintro e w1 ⟨rfl,hw⟩;obtain rfl:=hw.symm;clear hw)
    | (go_at_call 24;refine HO.out.mono ?_;rintro e w1 ⟨rfl,hw⟩;obtain rfl:=hw.symm;clear hw))
   go_ret
   exact ⟨rfl,rfl⟩
  ·by_cases h2:slot < (g.s:Int)
   ·have h3:¬ (g.s:Int) <= slot:=by omega
    rw [if_pos ⟨by omega,h2⟩] at hy
    subst hy
    go_enter Tryz.func57,Tryz.ntmps57
    go_wp2_with (first
     | (go_at_call 56;refine (smade_yes H.out).mono ?_;rintro e w1 ⟨rfl,hw⟩;obtain rfl:=hw.symm;clear hw)
     | (go_at_call 24;refine HO.out.mono ?_;rintro e w1 ⟨rfl,hw⟩;obtain rfl:=hw.symm;clear hw))
    go_ret
    exact ⟨rfl,rfl⟩
   ·have h3:(g.s:Int) <= slot:=by omega
    rw [if_neg (by omega)] at hy
    subst hy
    go_enter Tryz.func57,Tryz.ntmps57
    go_wp2_with (first
     | (go_at_call 56;refine (smade_yes H.out).mono ?_;rintro e w1 ⟨rfl,hw⟩;obtain rfl:=hw.symm;clear hw)
     | (go_at_call 24;refine HO.out.mono ?_;rintro e w1 ⟨rfl,hw⟩;obtain rfl:=hw.symm;clear hw))
    go_ret
    exact ⟨rfl,rfl⟩
 ·simp only [if_true] at hy
  subst hy
  go_enter Tryz.func57,Tryz.ntmps57
  go_wp2_with (first
   | (go_at_call 56;refine (smade_yes H.out).mono ?_;rintro e w1 ⟨rfl,hw⟩;obtain rfl:=hw.symm;clear hw)
   | (go_at_call 24;refine HO.out.mono ?_;rintro e w1 ⟨rfl,hw⟩;obtain rfl:=hw.symm;clear hw))
  go_ret
  exact ⟨rfl,rfl⟩
theorem sreach_at (h:SI F w s a g R) {slot c:Int} (hc:(SP.why R g slot:Int) = c):Calls Tryz.prog 57 #[ptr s,.int .i64 slot] w fun e w'=>e = .returned (.int .i64 c) /\ w' = w:=by
 subst hc
 exact sreach_yes h slot
theorem sreachD_yes (h:SI F w s a g R) (d slot:Int):Calls Tryz.prog 126 #[ptr s,.int .i64 d,.int .i64 slot] w fun e w'=>e = .returned (.int .i64 (SP.whyD R g d slot:Int)) /\ w' = w:=by
 have c2:=h.at3
 have H:Hid (SI F w s a g R):=h
 clear h
 obtain ⟨b,hb⟩:∃ b,b = SP.why R g slot:=⟨_,rfl⟩
 have HO:Hid (Calls Tryz.prog 57 #[ptr s,.int .i64 slot] w fun e w'=>e = .returned (.int .i64 (b:Int)) /\ w' = w):=by rw [hb];exact sreach_yes H.out slot
 obtain ⟨y,hy⟩:∃ y,y = SP.whyD R g d slot:=⟨_,rfl⟩
 rw [<- hy]
 unfold SP.whyD at hy
 rw [<- hb] at hy
 clear hb H
 by_cases h0:b = 0
 ·subst h0
  rw [if_neg (by omega)] at hy
  by_cases h1:d < 0
  ·rw [if_neg (by omega)] at hy
   subst hy
   go_enter Tryz.func126,Tryz.ntmps126
   go_wp2_with (go_at_call 57;refine HO.out.mono ?_;rintro e w1 ⟨rfl,hw⟩;obtain rfl:=hw.symm;clear hw)
   go_ret
   exact ⟨rfl,rfl⟩
  ·by_cases h2:d < (g.n:Int)
   ·have h3:¬ (g.n:Int) <= d:=by omega
    rw [if_pos ⟨by omega,h2⟩] at hy
    subst hy
    go_enter Tryz.func126,Tryz.ntmps126
    go_wp2_with (go_at_call 57;refine HO.out.mono ?_;rintro e w1 ⟨rfl,hw⟩;obtain rfl:=hw.symm;clear hw)
    go_ret
    exact ⟨rfl,rfl⟩
   ·have h3:(g.n:Int) <= d:=by omega
    rw [if_neg (by omega)] at hy
    subst hy
    go_enter Tryz.func126,Tryz.ntmps126
    go_wp2_with (go_at_call 57;refine HO.out.mono ?_;rintro e w1 ⟨rfl,hw⟩;obtain rfl:=hw.symm;clear hw)
    go_ret
    exact ⟨rfl,rfl⟩
 ·rw [if_pos h0] at hy
  subst hy
  have hne:((y:Int) != 0) = true:=by simp;omega
  go_enter Tryz.func126,Tryz.ntmps126
  go_wp2_with (go_at_call 57;refine HO.out.mono ?_;rintro e w1 ⟨rfl,hw⟩;obtain rfl:=hw.symm;clear hw)
  go_ret
  exact ⟨rfl,rfl⟩
theorem sbegin_yes (h:SI F w s a g R) {slot:Nat} (hs:slot < g.s):Calls Tryz.prog 102 #[ptr s,.int .i64 (slot:Int)] w fun e w'=>e = .returned (.int .i64 ((g.f + 8 * slot:Nat):Int)) /\ w' = w:=by
 have c4:=h.at5
 have h1:=h.ok.room
 have h2:=h.i.ok.n2
 have i1:IntKind.i64.wrap (8 * (slot:Int)) = 8 * (slot:Int):=IntWalk.i64_in _ (by omega)
 have i2:IntKind.i64.wrap ((g.f:Int) + 8 * (slot:Int)) = ((g.f + 8 * slot:Nat):Int):=by
  have e:(g.f:Int) + 8 * (slot:Int) = ((g.f + 8 * slot:Nat):Int):=by omega
  rw [e]
  exact IntWalk.i64_in _ (by omega)
 clear h h1 h2
 go_enter Tryz.func102,Tryz.ntmps102
 go_wp2
 go_ret
 exact ⟨by first | rfl | (congr 2;omega),rfl⟩
end
theorem cell_new1 {W:World} {g:Nat} (x:Value) (t:TypeId) (h:g = W.heap.size):(W.alloc (.cells #[x] t)).cell? ⟨g,0,none⟩ = some x:=by
 subst h
 have h:=heap_alloc_new W (.cells #[x] t)
 unfold World.cell?
 rw [h];rfl
def markTo (n j:Nat):List Nat:=(List.range 8).map fun i=>if 8 - j <= i then n / 256 ^ (7 - i) % 256 else 0
theorem markTo_len (n j:Nat):(markTo n j).length = 8:=by simp [markTo]
theorem markTo_zero (n:Nat):markTo n 0 = SM.z 8:=by
 simp only [markTo,SM.z]
 rw [List.eq_replicate_iff]
 refine ⟨by simp,fun b hb=>?_⟩
 obtain ⟨i,hi,rfl⟩:=List.mem_map.1 hb
 rw [if_neg (by have:=List.mem_range.1 hi;omega)]
theorem markTo_all (n:Nat):markTo n 8 = SM.mk n:=by simp [markTo,SM.mk]
theorem markTo_set (n j:Nat) (h:j < 8):(markTo n j).set (7 - j) (n / 256 ^ j % 256) = markTo n (j + 1):=by
 apply SM.ext_getD (by simp [markTo])
 intro i hi
 have hi':i < 8:=by simpa [markTo] using hi
 by_cases e:7 - j = i
 ·subst e
  have e2:7 - (7 - j) = j:=by omega
  simp [markTo,List.getD,hi',e2]
  omega
 ·have e3:(7 <= i + j) = (8 <= i + j):=by apply propext;omega
  simp [markTo,List.getD,hi',e,e3]
theorem pow_256 (j:Nat):2 ^ (8 * j) = 256 ^ j:=by rw [Nat.pow_mul]
theorem byte_cast (n j:Nat):((n:Int) / 2 ^ (8 * j) % 256) = ((n / 256 ^ j % 256:Nat):Int):=by
 rw [<- pow_256];simp
theorem or_bytes {v y:Nat} (hv:v < 72057594037927936) (hy:y < 256):bits .or .u64 ((v:Int) * 256) (y:Int) = ((256 * v + y:Nat):Int):=by
 have e:(v:Int) * 256 = ((256 * v:Nat):Int):=by omega
 rw [e,u64_or_nat _ _ (by omega) (by omega)]
 have:=Nat.two_pow_add_eq_or_of_lt (i:=8) hy v
 rw [show 2 ^ 8 = 256 by rfl] at this
 rw [this]
theorem zeroM (w:World):(zeroValue 205).run Tryz.prog w = .ok (.agg (rowOf (SM.z 8))) w:=by
 have h:(Tryz.prog.info? 205).map (fun i=>(i.zero,i.size)) = some (some (.agg (rowOf (SM.z 8))),8):=by kernel_rfl
 cases hq:Tryz.prog.info? 205 with
 | none=>simp [hq] at h
 | some i=>simp [hq] at h;simp [zeroValue,typeInfo,hq,h.1]
theorem infoM {xs:List Nat} (h:xs.length = 8):(Tryz.prog.info? 205).map (·.size) = some (rowOf xs).size:=by rw [rowOf_size,h];kernel_rfl
set_option maxHeartbeats 800000 in
theorem marked_any (n:Nat) (w:World) :
 Calls Tryz.prog 155 #[.int .u64 (n:Int)] w fun e w'=>e = .returned (.agg (rowOf (SM.mk n))) /\ w.grownBy w' none:=by
 have zM:=zeroM
 go_enter Tryz.func155,Tryz.ntmps155
 go_wp2
 clear zM
 go_loopw [4] (fun ti wr=>∃ j:Nat,j <= 8 /\ ti = .int .i64 j /\ Hid (wr.heap[w.heap.size]? = some (.cells (rowOf (markTo n j)) 205 (0,0))) /\ Hid (w.grownBy wr none)) (fun ti _=>8 - (intOf ti).toNat)
 case atStart =>
  refine ⟨0,by omega,rfl,?_,gb_alloc (World.grownBy.refl _ _) _⟩
  rw [markTo_zero]
  exact heap_alloc_new w _
 case round =>
  obtain ⟨j,hj,rfl,HM,HG⟩:=hrel
  by_cases hlt:j < 8
  ·have i1:(j:Int) < 8:=by omega
   have hc:wr.cell? ⟨w.heap.size,7 - j,none⟩ = some (.int .u8 (((markTo n j).getD (7 - j) 0:Nat):Int)):=by rw [cell_of_row _ _ _ _ _ _ HM.out,rowOf_get _ (by rw [markTo_len];omega)]
   have hf:wr.frozen? ⟨w.heap.size,7 - j,none⟩ = false:=frozen_of_row _ _ _ _ _ HM.out
   have HP:Hid ((wr.setCell ⟨w.heap.size,7 - j,none⟩ (.int .u8 ((n / 256 ^ j % 256:Nat):Int))).heap[w.heap.size]? = some (.cells (rowOf (markTo n (j + 1))) 205 (0,0))):=by
    show _ = _
    rw [heap_setCell_same _ _ _ _ _ _ HM.out,rowOf_set,markTo_set n j hlt]
   have HGN:Hid (w.grownBy (wr.setCell ⟨w.heap.size,7 - j,none⟩ (.int .u8 ((n / 256 ^ j % 256:Nat):Int))) none):=gb_setCell HG.out (by simp) _
   rw [<- byte_cast] at HP HGN
   clear HM HG
   go_wp2
   go_roundw
   case rel=>exact ⟨j + 1,by omega,by go_num,HP,HGN⟩
   case measure=>simp [intOf];omega
  ·have i1:¬ (j:Int) < 8:=by omega
   have HM':wr.heap[w.heap.size]? = some (.cells (rowOf (SM.mk n)) 205 (0,0)):=by
    have e:j = 8:=by omega
    rw [<- markTo_all,<- e];exact HM.out
   clear HM
   have HI:Hid ((Tryz.prog.info? 205).map (·.size) = some (rowOf (SM.mk n)).size):=infoM (SM.mk_len n)
   have HP:Hid (wr.heap[w.heap.size]? = some (.cells (rowOf (SM.mk n)) 205 (0,0))):=HM'
   have H1:Hid ((rowOf (SM.mk n)).all (·.oneCell') = true):=rowOf_one _
   have HSR:Hid (wr.setRow w.heap.size (rowOf (SM.mk n)) = wr):=setRow_self wr w.heap.size _ _ _ HM'
   clear HM'
   obtain ⟨AR,hAR⟩:∃ AR,AR = rowOf (SM.mk n):=⟨_,rfl⟩
   rw [<- hAR] at HI HP H1 HSR
   have HAR:Hid (AR = rowOf (SM.mk n)):=hAR
   clear hAR
   go_wp2_with (first
    | refine wpList_load_row rfl 205 (.tmp 2) rfl w.heap.size rfl 205 AR (0,0) _ HP.out Tryz.underlying205 rfl HI.out ?_
    | (refine wpList_store_row rfl 205 (.tmp 2) (.tmp 16) rfl w.heap.size AR rfl rfl 205 AR HP.out HI.out rfl H1.out ?_;rw [HSR.out]))
   exact bodyPost_ret (results_cell_row rfl _ _ w.heap.size 205 AR (0,0) _ rfl HP.out Tryz.underlying205 rfl HI.out) rfl ⟨by rw [HAR.out],HG.out⟩
set_option maxHeartbeats 800000 in
theorem stampOf_any {w:World} {v:Value} {xs:List Nat} (hv:Vec w v xs) (h8:8 <= xs.length) :
 Calls Tryz.prog 156 #[v] w fun e w'=>e = .returned (.int .u64 ((SM.val xs 8:Nat):Int)) /\ w' = w:=by
 obtain ⟨q,N,cap,rfl,hN⟩:=hv.opened
 obtain ⟨b,off,rfl,_⟩:=hv.spot (k:=0) (by omega)
 have hcap:N <= cap:=by
  obtain ⟨p',cap',e,h3,_⟩:=hv.form
  injection e with e1 e2 e3
  omega
 have hN8:8 <= N:=by omega
 have HV:Hid (Vec w (.slice (some ⟨b,off,none⟩) N cap) xs):=hv
 have HS:Hid (∀ x ∈ xs,x < 256):=hv.small
 clear hv hN
 go_enter Tryz.func156,Tryz.ntmps156
 go_wp2
 go_loop [3,9] (fun ts ti=>∃ k:Nat,k <= 8 /\ ti = .int .i64 k /\ ts = .int .u64 ((SM.val xs k:Nat):Int)) (fun _ ti=>8 - (intOf ti).toNat)
 case atStart=>exact ⟨0,by omega,rfl,rfl⟩
 case round =>
  obtain ⟨k,hk,rfl,rfl⟩:=hrel
  by_cases hlt:k < 8
  ·have i1:(k:Int) < 8:=by omega
   obtain ⟨b',off',e,hc,h256⟩:=HV.out.spot (k:=k) (by omega)
   injection e with e
   injection e with e1 e2
   subst e1
   subst e2
   have h7:SM.val xs k < 72057594037927936:=by
    have h1:=SM.val_lt HS.out k
    have h2:256 ^ k <= 256 ^ 7:=Nat.pow_le_pow_right (by decide) (by omega)
    have h3:256 ^ 7 = 72057594037927936:=by decide
    omega
   have HOR:Hid (bits .or .u64 (((SM.val xs k:Nat):Int) * 256) ((xs.getD k 0:Nat):Int) = ((SM.val xs (k + 1):Nat):Int)):=or_bytes h7 h256
   generalize xs.getD k 0 = y at *
   go_wp2
   go_round
   case rel=>exact ⟨k + 1,by omega,by go_num,by rw [HOR.out]⟩
   case measure=>simp [intOf];omega
  ·have i1:¬ (k:Int) < 8:=by omega
   have HE:Hid (SM.val xs k = SM.val xs 8):=by
    have e:k = 8:=by omega
    show _ = _
    rw [e]
   go_wp2
   go_ret
   exact ⟨by rw [HE.out];rfl,rfl⟩
theorem zeroS (w:World):(zeroValue 107).run Tryz.prog w = .ok (.agg (rowOf (SM.z 64))) w:=by
 have h:(Tryz.prog.info? 107).map (fun i=>(i.zero,i.size)) = some (some (.agg (rowOf (SM.z 64))),64):=by kernel_rfl
 cases hq:Tryz.prog.info? 107 with
 | none=>simp [hq] at h
 | some i=>simp [hq] at h;simp [zeroValue,typeInfo,hq,h.1]
abbrev Sect (B:Nat) (w:World) (v:Value) (xs:List Nat):Prop:=Arr 107 B w v xs
theorem sec_cur (n:Nat) (ld:List Nat) (h:ld.length <= 56):(SM.mk n ++ SM.z 56).take 8 ++ ld ++ (SM.mk n ++ SM.z 56).drop (8 + ld.length) = SM.sec n ld:=by
 have e1:(SM.mk n ++ SM.z 56).take 8 = SM.mk n:=by rw [List.take_append_of_le_length (by rw [SM.mk_len];exact Nat.le_refl _),List.take_of_length_le (by rw [SM.mk_len];exact Nat.le_refl _)]
 have e2:(SM.mk n ++ SM.z 56).drop (8 + ld.length) = SM.z (56 - ld.length):=by
  rw [List.drop_append,SM.mk_len,List.drop_eq_nil_of_le (by rw [SM.mk_len];omega),List.nil_append,SM.z_drop,Nat.add_sub_cancel_left]
 rw [e1,e2,SM.sec,List.append_assoc]
set_option maxHeartbeats 1600000 in
theorem put_yes {w:World} {n:Nat} {v:Value} {ld:List Nat} (hv:Vec w v ld) (hl:ld.length <= 56) :
 Calls Tryz.prog 143 #[.int .u64 (n:Int),v] w fun e w'=>∃ p,e = .returned (.tuple #[.slice p 64 64,.int .i64 0]) /\ Sect w.heap.size w' (.slice p 64 64) (SM.sec n ld) /\ w.grownBy w' none:=by
 obtain ⟨q,N,cap,rfl,hN⟩:=hv.opened
 have i1:¬ (56:Int) < (N:Int):=by omega
 have HN:Hid (N = ld.length):=hN
 have HV:Hid (∀ w',w.grownBy w' none -> Vec w' (.slice q N cap) ld):=fun w' g=>hv.keep g
 clear hv hN
 have zS:=zeroS
 have zM:=zeroM
 go_enter Tryz.func143,Tryz.ntmps143
 go_wp2_with (first
  | (go_at_call 155;refine (marked_any n _).mono ?_;rintro e w2 ⟨rfl,g2⟩)
  | (refine wpList_store_row rfl 205 (.tmp 7) (.tmp 12) rfl w2.heap.size (rowOf (SM.mk n)) rfl rfl 205 (rowOf (SM.z 8)) (heap_alloc_new w2 _) (infoM (SM.mk_len n)) (by rw [rowOf_size,rowOf_size,SM.mk_len,SM.z_len]) (rowOf_one _) ?_))
 clear zS zM
 have HA:Hid (((w2.alloc (.cells (rowOf (SM.z 8)) 205)).setRow w2.heap.size (rowOf (SM.mk n))).heap[w.heap.size]? = some (.cells (rowOf (SM.z 64)) 107 (0,0))):=by
  have hlt:w.heap.size < w2.heap.size:=by have:=g2.size;simp at this;omega
  show _ = _
  rw [setRow_other _ _ _ _ (by omega)]
  refine heap_old _ _ ?_
  rw [g2.block _ (by simp) (by simp)]
  exact heap_alloc_new w _
 have HB:Hid (((w2.alloc (.cells (rowOf (SM.z 8)) 205)).setRow w2.heap.size (rowOf (SM.mk n))).heap[w2.heap.size]? = some (.cells (rowOf (SM.mk n)) 205 (0,0))):=setRow_heap _ _ _ _ _ _ (heap_alloc_new w2 _)
 have HG:Hid (w.grownBy ((w2.alloc (.cells (rowOf (SM.z 8)) 205)).setRow w2.heap.size (rowOf (SM.mk n))) none):=gb_setRow (gb_alloc (grown_trans (gb_alloc (World.grownBy.refl _ _) _) g2) _) (by have:=g2.size;simp at this;omega) _
 have HLT:Hid (w.heap.size < w2.heap.size):=by have:=g2.size;simp at this;show _ < _;omega
 clear g2
 generalize (w2.alloc (.cells (rowOf (SM.z 8)) 205)).setRow w2.heap.size (rowOf (SM.mk n)) = W at *
 generalize w2.heap.size = h2 at *
 go_wp2_with fail
 have VB:Hid (Vec W.drew (.slice (some ⟨h2,0,none⟩) 8 8) (SM.mk n)):=((Arr.whole (B:=0) (n:=8) HB.out (Nat.zero_le _) (by rw [SM.mk_len]) (SM.mk_small n) (by rw [SM.mk_len];decide)).vec.keep (grown_drewN W 1))
 go_region_held3 (fun w'=>w.grownBy w' none) (first | exact gb_drew HG.out | exact HG4.out)
  ((refine step_copy_part (T:=107) (cur:=SM.z 64) (ys:=SM.mk n) (by rfl) _ _ (by rfl) _ (by rfl) (by rfl) HA.out VB.out (by rw [SM.mk_len];decide) (by rw [SM.mk_len,SM.z_len];decide) ?_;intro w4 h4 g4;have HG4:Hid (w.grownBy w4 none):=grown_new (gb_drew HG.out) g4 (fun i e=>by have:=Option.some.inj e;omega)))
 have H4:Hid (w4.heap[w.heap.size]? = some (.cells (rowOf (SM.mk n ++ SM.z 56)) 107 (0,0))):=by
  show _ = _
  rw [h4,List.take_zero,List.nil_append,SM.mk_len,SM.z_drop]
 clear h4 g4 VB HA HB HG HLT
 have hS:Hid ((SM.mk n ++ SM.z 56).take 8 ++ ld ++ (SM.mk n ++ SM.z 56).drop (8 + ld.length) = SM.sec n ld):=sec_cur n ld hl
 have HL:Hid ((SM.mk n ++ SM.z 56).length = 64):=by show _ = _;rw [List.length_append,SM.mk_len,SM.z_len]
 have VL:Hid (∀ x ∈ ld,x < 256):=(HV.out _ HG4.out).small
 generalize SM.mk n ++ SM.z 56 = cur at *
 go_wp2_with (refine wpList_copy_part rfl _ _ rfl _ (cur:=cur) (ys:=ld) rfl rfl H4.out (HV.out _ HG4.out) hl (by rw [HL.out];omega) ?_;intro w5 h5 g5)
 go_ret2
 rw [hS.out] at h5
 exact ⟨_,rfl,Arr.whole h5 (Nat.le_refl _) (SM.sec_len hl).symm (SM.sec_small VL.out) (by rw [SM.sec_len hl];decide),grown_new HG4.out g5 (fun i e=>by have:=Option.some.inj e;omega)⟩
theorem take_short {w:World} {v:Value} {xs:List Nat} (hv:Vec w v xs) (hl:xs.length < 64) :
 Calls Tryz.prog 144 #[v] w fun e w'=>e = .returned (.tuple #[.int .u64 0,.slice none 0 0,.int .i64 4]) /\ w' = w:=by
 obtain ⟨q,N,cap,rfl,hN⟩:=hv.opened
 have i1:(N:Int) < 64:=by omega
 clear hv hN
 go_enter Tryz.func144,Tryz.ntmps144
 go_wp2
 go_ret3
 exact ⟨rfl,rfl⟩
theorem take_long {w:World} {v:Value} {xs:List Nat} (hv:Vec w v xs) (hl:64 < xs.length) :
 Calls Tryz.prog 144 #[v] w fun e w'=>e = .returned (.tuple #[.int .u64 0,.slice none 0 0,.int .i64 3]) /\ w' = w:=by
 obtain ⟨q,N,cap,rfl,hN⟩:=hv.opened
 have i1:(64:Int) < (N:Int):=by omega
 clear hv hN
 go_enter Tryz.func144,Tryz.ntmps144
 go_wp2
 go_ret3
 exact ⟨rfl,rfl⟩
set_option maxHeartbeats 800000 in
theorem take_yes {w:World} {v:Value} {xs:List Nat} (hv:Vec w v xs) (hl:xs.length = 64) :
 Calls Tryz.prog 144 #[v] w fun e w'=>∃ p,e = .returned (.tuple #[.int .u64 ((SM.val xs 8:Nat):Int),.slice p 56 56,.int .i64 0]) /\ Own w.heap.size w' (.slice p 56 56) (xs.drop 8) /\ w.grownBy w' none:=by
 obtain ⟨q,N,cap,rfl,hN⟩:=hv.opened
 obtain rfl:N = 64:=by omega
 obtain ⟨b,off,rfl,_⟩:=hv.spot (k:=0) (by omega)
 have hcap:64 <= cap:=by
  obtain ⟨p',cap',e,h3,_⟩:=hv.form
  injection e with e1 e2 e3
  omega
 have hcm:cap <= maxLen:=by
  obtain ⟨p',cap',e,_,h4,_⟩:=hv.form
  injection e with e1 e2 e3
  omega
 have HV:Hid (∀ w',w.grownBy w' none -> Vec w' (.slice (some ⟨b,off,none⟩) 64 cap) xs):=fun w' g=>hv.keep g
 have HT:Hid (∀ w',w.grownBy w' none -> Vec w' (.slice (some ⟨b,off + 8,none⟩) 56 (cap - 8)) (xs.drop 8)):=fun w' g=>(hv.keep g).tail_a (by omega)
 clear hv hN
 unfold maxLen at hcm
 go_enter Tryz.func144,Tryz.ntmps144
 go_wp2_with (first
  | (at_make;refine wpList_make_vec rfl _ _ rfl 56 rfl rfl (by decide) ?_;intro w1 p ou g1;have OU:Hid (Own w.heap.size w1 (.slice p 56 56) (SM.z 56)):=ou;have G1:Hid (w.grownBy w1 none):=g1;clear ou g1)
  | (refine wpList_copy_vec rfl _ _ rfl _ _ rfl rfl OU.out (HT.out _ G1.out) (by rw [SM.z_len,List.length_drop,hl]) ?_;intro w2 o2 g2;have O2:Hid (Own w.heap.size w2 (.slice p 56 56) (xs.drop 8)):=o2;have G2:Hid (w.grownBy w2 none):=grown_new G1.out g2 (fun i e=>OU.out.lo i e);clear o2 g2)
  | (go_at_call 156;refine (stampOf_any (HV.out _ G2.out) (by omega)).mono ?_;rintro e w3 ⟨rfl,hw⟩;obtain rfl:=hw.symm;clear hw))
 go_ret3
 exact ⟨p,rfl,O2.out,G2.out⟩
def takeN (xs:List Nat):Nat:=if xs.length = 64 then SM.val xs 8 else 0
def takeL (xs:List Nat):List Nat:=if xs.length = 64 then xs.drop 8 else []
def takeE (xs:List Nat):Int:=if xs.length = 64 then 0 else if xs.length < 64 then 4 else 3
theorem take_all {w:World} {v:Value} {xs:List Nat} (hv:Vec w v xs) :
 Calls Tryz.prog 144 #[v] w fun e w'=>∃ p k,e = .returned (.tuple #[.int .u64 ((takeN xs:Nat):Int),.slice p k k,.int .i64 (takeE xs)]) /\ Own w.heap.size w' (.slice p k k) (takeL xs) /\ w.grownBy w' none:=by
 unfold takeN takeL takeE
 by_cases hl:xs.length = 64
 ·rw [if_pos hl,if_pos hl,if_pos hl]
  exact (take_yes hv hl).mono fun e w' ⟨p,h⟩=>⟨p,56,h⟩
 ·rw [if_neg hl,if_neg hl,if_neg hl]
  by_cases h2:xs.length < 64
  ·rw [if_pos h2]
   exact (take_short hv h2).mono fun e w' ⟨h1,h2⟩=>⟨none,0,h1,Own.nil _ _,by rw [h2];exact World.grownBy.refl _ _⟩
  ·rw [if_neg h2]
   exact (take_long hv (by omega)).mono fun e w' ⟨h1,h2⟩=>⟨none,0,h1,Own.nil _ _,by rw [h2];exact World.grownBy.refl _ _⟩
theorem mat_n {w:World} {p:Option Addr} {n c:Nat} {us:List Value} {X:List (List Nat)} (h:Mat w (.slice p n c) us X):us.length = n /\ X.length = n:=by
 have hs:=h.same
 obtain ⟨p',n',c',e',h'⟩:=h.row.opened
 injection e' with e1 e2 e3
 omega
theorem Mat.nil (w:World):Mat w (.slice none 0 0) [] []:=⟨⟨by simp,none,0,rfl,Nat.le_refl _,by decide,fun h=>absurd rfl h⟩,rfl,by simp⟩
structure RMat (T:TypeId) (B:Nat) (w:World) (v:Value) (us:List Value) (X:List (List Nat)):Prop where
 len:us.length * 24 <= 140737488351232
 row:w.ownsRow B 31 1 v us.length us
 same:us.length = X.length
 vec:∀ j,j < X.length -> Arr T B w (us.getD j undef) (X.getD j [])
theorem RMat.nil (T:TypeId) (B:Nat) (w:World):RMat T B w (.slice none 0 0) [] []:=⟨by simp,World.ownsRow_nil w B 31 1,rfl,by simp⟩
theorem RMat.lo {T:TypeId} {B:Nat} {w:World} {v:Value} {us:List Value} {X:List (List Nat)} (h:RMat T B w v us X):Lo B v:=fun k hk=>(h.row.lt k hk).1
theorem RMat.keep {T:TypeId} {B:Nat} {w w':World} {v:Value} {us:List Value} {X:List (List Nat)} (h:RMat T B w v us X) (g:w.grownBy w' none):RMat T B w' v us X :=
 ⟨h.len,h.row.kept g (by cases h:v.ownBlock <;> simp),h.same,fun j hj=>(h.vec j hj).keep g⟩
theorem RMat.kept {T:TypeId} {B:Nat} {w w':World} {v:Value} {us:List Value} {X:List (List Nat)} {row:Option Nat} (h:RMat T B w v us X) (g:w.grownBy w' row) (hr:∀ r,row = some r -> ∀ c f,w.heap[r]? ≠ some (.cells c 31 f) /\ w.heap[r]? ≠ some (.cells c T f)):RMat T B w' v us X:=by
 refine ⟨h.len,h.row.kept g ?_,h.same,fun j hj=>(h.vec j hj).kept g ?_⟩
 ·rcases h.row.2 with ⟨e,_⟩ | ⟨b,cap,cur,e,_,hg,_⟩
  ·subst e;exact .inl rfl
  ·subst e
   exact .inr fun e=>(hr b (by simpa [Value.ownBlock] using e.symm) cur (0,0)).1 hg
 ·rcases (h.vec j hj).row.2 with ⟨e,_⟩ | ⟨b,cap,cur,e,_,hg,_⟩
  ·rw [e];exact .inl rfl
  ·rw [e]
   exact .inr fun e=>(hr b (by simpa [Value.ownBlock] using e.symm) cur (0,0)).2 hg
theorem RMat.apart {T T':TypeId} (hT:T' ≠ 31) {B B':Nat} {w:World} {v u:Value} {us:List Value} {X:List (List Nat)} {xs:List Nat} (h:RMat T B w v us X) (hu:Arr T' B' w u xs):u.ownBlock = none \/ u.ownBlock ≠ v.ownBlock:=by
 rcases hu.row.2 with ⟨rfl,_⟩ | ⟨g,cap,cur,rfl,_,hg,_⟩
 ·exact .inl rfl
 ·rcases h.row.2 with ⟨rfl,_⟩ | ⟨g',cap',cur',rfl,_,hg',_⟩
  ·exact .inr (by simp [Value.ownBlock])
  ·refine .inr fun e=>?_
   simp only [Value.ownBlock,Option.some.injEq] at e
   subst e
   rw [hg] at hg'
   simp at hg'
   exact hT hg'.2
theorem RMat.more {T:TypeId} (hT:T ≠ 31) {B:Nat} {w w2:World} {v v' u:Value} {us:List Value} {X:List (List Nat)} {xs:List Nat} (h:RMat T B w v us X) (hu:Arr T B w u xs)
 (hl:(us.length + 1) * 24 <= 140737488351232) (hr:w2.ownsRow B 31 1 v' (us.length + 1) (us ++ [u])) (hg:w.grownBy w2 v.ownBlock):RMat T B w2 v' (us ++ [u]) (X ++ [xs]):=by
 refine ⟨by simpa using hl,by simpa using hr,by simp [h.same],fun j hj=>?_⟩
 have hs:=h.same
 by_cases hj':j < X.length
 ·have e1:(us ++ [u]).getD j undef = us.getD j undef:=by simp [List.getD,List.getElem?_append,show j < us.length from by omega]
  have e2:(X ++ [xs]).getD j [] = X.getD j []:=by simp [List.getD,List.getElem?_append,hj']
  rw [e1,e2]
  exact (h.vec j hj').kept hg (h.apart hT (h.vec j hj'))
 ·have hj2:j = X.length:=by simp at hj;omega
  have e1:(us ++ [u]).getD j undef = u:=by simp [List.getD,hj2,<- hs]
  have e2:(X ++ [xs]).getD j [] = xs:=by simp [List.getD,hj2]
  rw [e1,e2]
  exact hu.kept hg (h.apart hT hu)
theorem RMat.mat {T:TypeId} {B:Nat} {w:World} {v:Value} {us:List Value} {X:List (List Nat)} (h:RMat T B w v us X):Mat w v us X:=by
 refine ⟨⟨h.len,?_⟩,h.same,fun j hj=>(h.vec j hj).vec⟩
 have hr:=h.row
 rcases h.row.2 with ⟨rfl,hn⟩ | ⟨g,cap,cur,rfl,hb,hg,hc,hm,hs,ht⟩
 ·have:us = []:=List.eq_nil_of_length_eq_zero hn
  subst this
  exact ⟨none,0,rfl,Nat.le_refl _,by decide,fun h=>absurd rfl h⟩
 ·refine ⟨some ⟨g,0,none⟩,cap,rfl,hc,hm,fun _=>⟨g,0,rfl,fun j hj=>?_⟩⟩
  have:=hr.cells (g:=g) rfl j (us.getD j undef) (by simp [List.getD,hj])
  rwa [add_at] at this
theorem run_append_row {B:Nat} {w:World} {dv:Value} {us:List Value} (hd:w.ownsRow B 31 1 dv us.length us) (ad:Addr) {u:Value} (hu:w.cell? ad = some u) (h1:u.oneCell' = true) (hB:B <= w.heap.size) (hl:(us.length + 1) * 24 <= 140737488351232) (ty:TypeId) :
 ∃ v' w',(Builtin.append_ #[95,95] ty #[dv,.slice (some ad) 1 1]).run Tryz.prog w = .ok v' w' /\ w'.ownsRow B 31 1 v' (us.length + 1) (us ++ [u]) /\ w.grownBy w' dv.ownBlock /\ (v'.ownBlock = dv.ownBlock \/ v'.ownBlock = some w.heap.size):=by
 obtain ⟨i0,hi,hz0,hz1,hz2⟩:=info_parts Tryz.info22
 obtain ⟨v',w',r1,r2,r3,_,r5⟩:=run_append_own_at (P:=Tryz.prog) w B 95 ty 31 i0 (.slice none 0 0) 1 24 Tryz.underlying95 hi hz0 hz1 hz2 rfl (by decide) dv us.length us hd ad 1 1 [u] (by simp)
  (fun j v hj=>by
    match j,hj with
    | 0,hj=>simp at hj;subst hj;simpa [Addr.add] using hu)
  (fun v hv=>by simp at hv;subst hv;exact h1) (by unfold maxLen;omega) (by omega) hB
 exact ⟨v',w',r1,by simpa using r2,r3,r5⟩
theorem wpList_append_row {w:World} {ops:Array Oper} {rest:List Oper} {o:Oper} {a:Act} {Q:Exit -> Act -> World -> Prop} (hgd:o.guard = none) (d s:Operand)
 (ho:o.op = .call { callee:=.builtin .append,args:=#[d,s],argTypes:=#[95,95] }) (dv:Value) (ad:Addr) (hed:a.eval d = dv) (hes:a.eval s = .slice (some ad) 1 1)
 {B:Nat} {us:List Value} {u:Value} (hd:w.ownsRow B 31 1 dv us.length us) (hu:w.cell? ad = some u) (h1:u.oneCell' = true) (hB:B <= w.heap.size) (hl:(us.length + 1) * 24 <= 140737488351232)
 (h:∀ v' w',w'.ownsRow B 31 1 v' (us.length + 1) (us ++ [u]) -> w.grownBy w' dv.ownBlock -> (v'.ownBlock = dv.ownBlock \/ v'.ownBlock = some w.heap.size) -> wpList Tryz.prog ops Q rest (a.put o.dst v') w'):wpList Tryz.prog ops Q (o :: rest) a w:=by
 refine wpList_plain hgd fun K hK=>?_
 obtain ⟨v',w',hrun,r1,r2,r3⟩:=run_append_row hd ad hu h1 hB hl o.type
 unfold Oper.wp
 simp [execOp,ho,resolve,invoke,builtin,hed,hes,hrun,Result.andThen]
 exact hK _ _ (h _ _ r1 r2 r3)
theorem step_append_row {ops:Array Oper} {o:Oper} {a:Act} {w:World} {K:Act -> World -> Prop} {Q:Exit -> Act -> World -> Prop} {E:Prop} (hgd:o.guard = none) (d s:Operand)
 (ho:o.op = .call { callee:=.builtin .append,args:=#[d,s],argTypes:=#[95,95] }) (dv:Value) (ad:Addr) (hed:a.eval d = dv) (hes:a.eval s = .slice (some ad) 1 1)
 {B:Nat} {us:List Value} {u:Value} (hd:w.ownsRow B 31 1 dv us.length us) (hu:w.cell? ad = some u) (h1:u.oneCell' = true) (hB:B <= w.heap.size) (hl:(us.length + 1) * 24 <= 140737488351232)
 (h:∀ v' w',w'.ownsRow B 31 1 v' (us.length + 1) (us ++ [u]) -> w.grownBy w' dv.ownBlock -> (v'.ownBlock = dv.ownBlock \/ v'.ownBlock = some w.heap.size) -> K (a.put o.dst v') w') :
 if Region.wanted o (yielded ops a.tmps) = true then Oper.wp Tryz.prog o a w K Q else E:=by
 have hw:Region.wanted o (yielded ops a.tmps) = true:=by simp [Region.wanted,hgd]
 rw [if_pos hw]
 obtain ⟨v',w',hrun,r1,r2,r3⟩:=run_append_row hd ad hu h1 hB hl o.type
 unfold Oper.wp
 simp [execOp,ho,resolve,invoke,builtin,hed,hes,hrun,Result.andThen]
 exact h _ _ r1 r2 r3
theorem run_make_room (W:World) {n:Nat} (hn:n <= 140737488351232):∃ w',(Instr.makeSlice 31 (.int .i64 0) (.int .i64 (n:Int))).run Tryz.prog W = .ok (.slice (some ⟨W.heap.size,0,none⟩) 0 n) w' /\ Own W.heap.size w' (.slice (some ⟨W.heap.size,0,none⟩) 0 n) [] /\ W.grownBy w' none:=by
 obtain ⟨i0,hi,hz0,hz1,hz2⟩:=info_parts Tryz.info5
 obtain ⟨w',h1,h2,h3⟩:=run_make_own (P:=Tryz.prog) W W.heap.size 31 5 i0 (.int .u8 0) 1 Tryz.underlying31 hi hz0 hz1 .i64 .i64 n (by rw [hz2];omega) (by unfold maxLen;omega) (Nat.le_refl _)
 exact ⟨w',h1,⟨by simp,by simp,by simpa using h2⟩,h3⟩
theorem wpList_make_room {w:World} {ops:Array Oper} {rest:List Oper} {o:Oper} {a:Act} {Q:Exit -> Act -> World -> Prop} (hgd:o.guard = none) (l c:Operand)
 (ho:o.op = Op.makeSlice 31 l c) (n:Nat) (hel:a.eval l = .int .i64 0) (hec:a.eval c = .int .i64 (n:Int)) (hn:n <= 140737488351232)
 (h:∀ w1,Own w.heap.size w1 (.slice (some ⟨w.heap.size,0,none⟩) 0 n) [] -> w.grownBy w1 none -> wpList Tryz.prog ops Q rest (a.put o.dst (.slice (some ⟨w.heap.size,0,none⟩) 0 n)) w1):wpList Tryz.prog ops Q (o :: rest) a w:=by
 refine wpList_plain hgd fun K hK=>?_
 obtain ⟨w',hrun,r1,r2⟩:=run_make_room w hn
 unfold Oper.wp
 simp [execOp,ho,hel,hec,hrun,Result.andThen]
 exact hK _ _ (h _ r1 r2)
theorem run_make_rows0 (W:World) {n:Nat} (hn:n * 24 <= 140737488351232):∃ w',(Instr.makeSlice 95 (.int .i64 0) (.int .i64 (n:Int))).run Tryz.prog W = .ok (.slice (some ⟨W.heap.size,0,none⟩) 0 n) w' /\ w'.ownsRow W.heap.size 31 1 (.slice (some ⟨W.heap.size,0,none⟩) 0 n) 0 [] /\ W.grownBy w' none:=by
 obtain ⟨i0,hi,hz0,hz1,hz2⟩:=info_parts Tryz.info22
 exact run_make_own (P:=Tryz.prog) W W.heap.size 95 31 i0 (.slice none 0 0) 1 Tryz.underlying95 hi hz0 hz1 .i64 .i64 n (by rw [hz2];omega) (by unfold maxLen;omega) (Nat.le_refl _)
section
variable {F F':Nat -> Prop} {w w':World} {s a:Nat} {g:SP.Geo} {R R':AM.Raw}
theorem sread_on (h:SI F w s a g R) (h0:R.off = false) {d slot i:Nat} (hd:d < g.n) (hs:slot < g.s) (hi:i < 8) (ho:R.on (d:Int) = true) :
 Calls Tryz.prog 53 #[ptr a,.int .i64 (d:Int),.int .i64 ((g.f + 8 * slot + i:Nat):Int)] w fun e w'=>∃ p,e = .returned (.tuple #[.slice p 64 64,.int .i64 0]) /\ Own w.heap.size w' (.slice p 64 64) (AM.look R.C d (g.f + 8 * slot + i)) /\ w.grownBy w' none:=by
 have hr:=SP.reach_on h.ok h0 hs hi hd
 rw [if_pos ho] at hr
 have:=read_yes h.i hr
 exact this
theorem sread_off (h:SI F w s a g R) (h0:R.off = false) {d slot i:Nat} (hd:d < g.n) (hs:slot < g.s) (hi:i < 8) (ho:R.on (d:Int) = false) :
 Calls Tryz.prog 53 #[ptr a,.int .i64 (d:Int),.int .i64 ((g.f + 8 * slot + i:Nat):Int)] w fun e w'=>e = .returned (.tuple #[.slice none 0 0,.int .i64 9]) /\ w' = w:=by
 have hr:=SP.reach_on h.ok h0 hs hi hd
 rw [ho] at hr
 have:=read_no h.i (d:=(d:Int)) (k:=((g.f + 8 * slot + i:Nat):Int)) (by rw [hr];decide)
 rw [hr] at this
 exact this
set_option maxHeartbeats 1600000 in
theorem ssectors_on (h:SI F w s a g R) (h0:R.off = false) {d slot:Nat} (hd:d < g.n) (hs:slot < g.s) (ho:R.on (d:Int) = true) :
 Calls Tryz.prog 109 #[ptr s,.int .i64 (d:Int),.int .i64 (slot:Int)] w fun e w'=>∃ v us,e = .returned v /\ RMat 5 w.heap.size w' v us (SP.sectTo R g slot d 8) /\ w.grownBy w' none:=by
 have H:Hid (SI F w s a g R):=h
 have HN:Hid (R.off = false /\ d < g.n /\ slot < g.s /\ R.on (d:Int) = true /\ g.f + 8 * slot + 8 <= 4096):=⟨h0,hd,hs,ho,by have:=h.ok.room;have:=h.i.ok.n2;omega⟩
 obtain ⟨w1,hmk0,hrow,g1⟩:=run_make_rows0 w (n:=8) (by omega)
 have hmk:(Instr.makeSlice 95 (.int .i64 0) (.int .i64 8)).run Tryz.prog w = .ok (.slice (some ⟨w.heap.size,0,none⟩) 0 8) w1:=hmk0
 clear hmk0
 have HR:Hid (w1.ownsRow w.heap.size 31 1 (.slice (some ⟨w.heap.size,0,none⟩) 0 8) 0 []):=hrow
 have HG:Hid (w.grownBy w1 none):=g1
 clear h h0 hd hs ho hrow g1
 go_enter Tryz.func109,Tryz.ntmps109
 go_wp2_with fail
 clear hmk
 go_loopw [7,12] (fun tl ti wr=>∃ k:Nat,k <= 8 /\ ti = .int .i64 k /\ Hid (∃ us,RMat 5 w.heap.size wr tl us (SP.sectTo R g slot d k)) /\ Hid (w.grownBy wr none)) (fun _ ti _=>8 - (intOf ti).toNat)
 case atStart=>exact ⟨0,by omega,rfl,⟨[],⟨by simp,HR.out,rfl,by simp [SP.sectTo]⟩⟩,HG⟩
 case round =>
  obtain ⟨k,hk,rfl,OK,GK⟩:=hrel
  obtain ⟨us,OM⟩:=OK.out
  have MK:Hid (RMat 5 w.heap.size wr u7 us (SP.sectTo R g slot d k)):=OM
  have HL:Hid ((us.length + 1) * 24 <= 140737488351232):=by show _ <= _;rw [OM.same,SP.sectTo_len];omega
  clear OM OK
  by_cases hlt:k < 8
  ·have i4:(k:Int) < 8:=by omega
   have GD:Hid (w.grownBy (wr.drewN 1) none):=grown_trans GK.out (grown_drewN wr 1)
   have HC:Hid (∀ w',wr.grownBy w' none -> w'.cell? ⟨s,0,none⟩ = some (ptr a)):=fun w' g'=>(H.out.keep (grown_trans GK.out g')).at1
   obtain ⟨b,hb⟩:∃ b,b = g.f + 8 * slot:=⟨_,rfl⟩
   obtain ⟨q,hq⟩:∃ q,q = g.f + 8 * slot + k:=⟨_,rfl⟩
   have HB:Hid (Calls Tryz.prog 102 #[ptr s,.int .i64 (slot:Int)] (wr.drewN 1) fun e w'=>e = .returned (.int .i64 (b:Int)) /\ w' = wr.drewN 1):=by
    rw [hb];exact sbegin_yes (H.out.keep GD.out) HN.out.2.2.1
   have RD:Hid (Calls Tryz.prog 53 #[ptr a,.int .i64 (d:Int),.int .i64 (q:Int)] (wr.drewN 1) fun e w'=>∃ p,e = .returned (.tuple #[.slice p 64 64,.int .i64 0]) /\ Own (wr.drewN 1).heap.size w' (.slice p 64 64) (AM.look R.C d q) /\ (wr.drewN 1).grownBy w' none):=by
    rw [hq];exact sread_on (H.out.keep GD.out) HN.out.1 HN.out.2.1 HN.out.2.2.1 hlt HN.out.2.2.2.1
   have hw:IntKind.i64.wrap ((b:Int) + (k:Int)) = (q:Int):=by
    have e:(b:Int) + (k:Int) = (q:Int):=by omega
    have:=HN.out.2.2.2.2
    rw [e]
    exact IntWalk.i64_in _ (by omega)
   have HS:Hid (SP.sectTo R g slot d (k + 1) = SP.sectTo R g slot d k ++ [AM.look R.C d q]):=by rw [hq];exact SP.sectTo_succ R g slot d k
   clear hb hq
   generalize SP.sectTo R g slot d k = XK at *
   generalize AM.look R.C d q = SK at *
   go_wp2_with fail
   go_region_held3 (fun w'=>w'.cell? ⟨s,0,none⟩ = some (ptr a)) (first | exact HC.out _ (grown_drewN _ 1) | exact HC.out _ (grown_trans (grown_drewN _ 1) G1.out))
    ((first
      | (go_at_call 102;refine HB.out.mono ?_;rintro e w9 ⟨rfl,hw9⟩;obtain rfl:=hw9.symm;clear hw9)
      | (go_at_call 53;refine RD.out.mono ?_;rintro e w2 ⟨p,rfl,op,g2⟩;have G1:Hid ((wr.drewN 1).grownBy w2 none):=g2;have OP:Hid (Arr 5 w.heap.size w2 (.slice p 64 64) SK):=op.arr.down GD.out.size;clear op g2)))
   have M1:Hid (RMat 5 w.heap.size w2 u7 us XK):=(MK.out.keep (grown_drewN wr 1)).keep G1.out
   have G2:Hid (w.grownBy w2 none):=grown_trans GD.out G1.out
   clear HB RD hw GD G1 MK
   go_wp2_with (at_builtin;refine wpList_append_row rfl _ _ rfl _ ⟨w2.heap.size,0,none⟩ rfl rfl (M1.out.keep (World.grownBy_alloc w2 _ none)).row (cell_new1 _ _ rfl) rfl (gb_alloc G2.out _).size HL.out ?_;intro v3 w3 r3 g3 at3;have M3:Hid (RMat 5 w.heap.size w3 v3 (us ++ [.slice p 64 64]) (XK ++ [SK])):=(M1.out.keep (World.grownBy_alloc w2 _ none)).more (by decide) (OP.out.keep (World.grownBy_alloc w2 _ none)) HL.out r3 g3;have G3:Hid (w.grownBy w3 none):=grown_new (gb_alloc G2.out _) g3 (fun i e=>M1.out.lo i e);clear r3 g3 at3)
   go_roundw
   case rel=>exact ⟨k + 1,by omega,by go_num,⟨_,by rw [HS.out];exact M3.out⟩,G3⟩
   case measure=>simp [intOf];omega
  ·obtain rfl:k = 8:=by omega
   go_wp2
   go_ret
   exact ⟨_,_,rfl,MK.out,GK.out⟩
set_option maxHeartbeats 1600000 in
theorem ssectors_off (h:SI F w s a g R) (h0:R.off = false) {d slot:Nat} (hd:d < g.n) (hs:slot < g.s) (ho:R.on (d:Int) = false) :
 Calls Tryz.prog 109 #[ptr s,.int .i64 (d:Int),.int .i64 (slot:Int)] w fun e w'=>e = .returned (.slice none 0 0) /\ w.grownBy w' none:=by
 have H:Hid (SI F w s a g R):=h
 have HN:Hid (R.off = false /\ d < g.n /\ slot < g.s /\ R.on (d:Int) = false /\ g.f + 8 * slot + 8 <= 4096):=⟨h0,hd,hs,ho,by have:=h.ok.room;have:=h.i.ok.n2;omega⟩
 obtain ⟨w1,hmk0,hrow,g1⟩:=run_make_rows0 w (n:=8) (by omega)
 have hmk:(Instr.makeSlice 95 (.int .i64 0) (.int .i64 8)).run Tryz.prog w = .ok (.slice (some ⟨w.heap.size,0,none⟩) 0 8) w1:=hmk0
 clear hmk0
 have HG:Hid (w.grownBy w1 none):=g1
 clear h h0 hd hs ho hrow g1
 go_enter Tryz.func109,Tryz.ntmps109
 go_wp2_with fail
 clear hmk
 go_loopw [7,12] (fun tl ti wr=>ti = .int .i64 0 /\ tl = .slice (some ⟨w.heap.size,0,none⟩) 0 8 /\ Hid (w.grownBy wr none)) (fun _ ti _=>8 - (intOf ti).toNat)
 case atStart=>exact ⟨rfl,rfl,HG⟩
 case round =>
  obtain ⟨rfl,rfl,GK⟩:=hrel
  have GD:Hid (w.grownBy (wr.drewN 1) none):=grown_trans GK.out (grown_drewN wr 1)
  have HC:Hid (∀ w',wr.grownBy w' none -> w'.cell? ⟨s,0,none⟩ = some (ptr a)):=fun w' g'=>(H.out.keep (grown_trans GK.out g')).at1
  obtain ⟨b,hb⟩:∃ b,b = g.f + 8 * slot:=⟨_,rfl⟩
  have HB:Hid (Calls Tryz.prog 102 #[ptr s,.int .i64 (slot:Int)] (wr.drewN 1) fun e w'=>e = .returned (.int .i64 (b:Int)) /\ w' = wr.drewN 1):=by
   rw [hb];exact sbegin_yes (H.out.keep GD.out) HN.out.2.2.1
  have RD:Hid (Calls Tryz.prog 53 #[ptr a,.int .i64 (d:Int),.int .i64 (b:Int)] (wr.drewN 1) fun e w'=>e = .returned (.tuple #[.slice none 0 0,.int .i64 9]) /\ w' = wr.drewN 1):=by
   rw [hb];exact sread_off (i:=0) (H.out.keep GD.out) HN.out.1 HN.out.2.1 HN.out.2.2.1 (by omega) HN.out.2.2.2.1
  have hw:IntKind.i64.wrap (b:Int) = (b:Int):=by
   have:=HN.out.2.2.2.2
   exact IntWalk.i64_in _ (by omega)
  clear hb
  go_wp2_with fail
  go_region_held3 (fun w'=>w'.cell? ⟨s,0,none⟩ = some (ptr a)) (exact HC.out _ (grown_drewN _ 1))
   ((first
     | (go_at_call 102;refine HB.out.mono ?_;rintro e w9 ⟨rfl,hw9⟩;obtain rfl:=hw9.symm;clear hw9)
     | (go_at_call 53;refine RD.out.mono ?_;rintro e w2 ⟨rfl,hw2⟩;obtain rfl:=hw2.symm;clear hw2)))
  go_wp2
  go_ret
  exact ⟨rfl,GD.out⟩
theorem ssectors_any (h:SI F w s a g R) (h0:R.off = false) {d slot:Nat} (hd:d < g.n) (hs:slot < g.s) :
 Calls Tryz.prog 109 #[ptr s,.int .i64 (d:Int),.int .i64 (slot:Int)] w fun e w'=>∃ v us,e = .returned v /\ Mat w' v us (SP.sects R g slot d) /\ w.grownBy w' none:=by
 cases ho:R.on (d:Int)
 ·rw [SP.sects_off ho]
  refine (ssectors_off h h0 hd hs ho).mono ?_
  rintro e w' ⟨rfl,g1⟩
  exact ⟨_,_,rfl,Mat.nil _,g1⟩
 ·rw [SP.sects_on ho]
  refine (ssectors_on h h0 hd hs ho).mono ?_
  rintro e w' ⟨v,us,rfl,m,g1⟩
  exact ⟨_,_,rfl,m.mat,g1⟩
end
theorem eqb_no {a b:Nat} (h:a ≠ b):((a:Int) == (b:Int)) = false:=by simp;omega
theorem eqb_yes {a b:Nat} (h:a = b):((a:Int) == (b:Int)) = true:=by simp;omega
theorem neb_yes {a b:Nat} (h:a ≠ b):((a:Int) != (b:Int)) = true:=by simp;omega
theorem neb_no {a b:Nat} (h:a = b):((a:Int) != (b:Int)) = false:=by simp;omega
theorem tN_no {X:List (List Nat)} (h:CM.yes X = false):CM.tN X = 0:=by simp [CM.tN,h]
theorem tL_no {X:List (List Nat)} (h:CM.yes X = false):CM.tL X = []:=by simp [CM.tL,h]
def stAt (X:List (List Nat)) (k:Nat):Nat:=if k = 0 then 0 else SM.val (X.getD 0 []) 8
theorem okTo_more {X:List (List Nat)} {k:Nat} (h:CM.okTo X k) (h1:(X.getD k []).length = 64) (h2:SM.val (X.getD k []) 8 ≠ 0) (h3:k = 0 \/ SM.val (X.getD k []) 8 = SM.val (X.getD 0 []) 8):CM.okTo X (k + 1):=fun j hj=>by
 by_cases e:j = k
 ·subst e
  refine ⟨h1,?_,h2⟩
  rcases h3 with h3 | h3
  ·subst h3;rfl
  ·exact h3
 ·exact h j (by omega)
theorem stAt_next {X:List (List Nat)} {k:Nat} (h3:k = 0 \/ SM.val (X.getD k []) 8 = SM.val (X.getD 0 []) 8):stAt X (k + 1) = SM.val (X.getD k []) 8:=by
 unfold stAt
 rw [if_neg (by omega)]
 rcases h3 with h3 | h3
 ·subst h3;rfl
 ·exact h3.symm
end Go.Proofs.YtaalagkbpeinkaaGreat
namespace Go.Proofs.YtaalagkbpeinkaaGreat
open Go.RowKit Go.Shelf
attribute [local go_sem] Oper.semAt_some
def cl (m x:Nat):Nat:=min x (m - 1)
theorem cl_lt {m x:Nat} (h:0 < m):cl m x < m:=by unfold cl;omega
theorem cl_self {m x:Nat} (h:x < m):cl m x = x:=by unfold cl;omega
def encL_c (b off m x:Nat):Array Value:=#[.slice (some ⟨b,off + 56 * cl m x,none⟩) 56 56]
def Kp7 (Bs Bn:Nat) (W W':World):Prop:=W'.heap[Bs]? = W.heap[Bs]? /\ W'.heap[Bn]? = W.heap[Bn]?
theorem chunk_any (w:World) (p:Option Addr) (n c:Nat) :
 Calls Tryz.prog 105 #[.slice p n c,.int .i64 56] w fun e w'=>e = .returned (.func (.func 128) #[] #[.pointer (some ⟨w.heap.size,0,none⟩),.pointer (some ⟨w.heap.size + 1,0,none⟩)]) /\ w' = (w.alloc (.cells #[.slice p n c] 31)).alloc (.cells #[.int .i64 56] 3):=by
 go_enter Tryz.func105,Tryz.ntmps105
 go_wp2
 go_ret
 exact ⟨rfl,rfl⟩
theorem slice_lo7 {b off n c lo:Nat} (h3:lo < n) (hc:n <= c) (W:World):(Instr.slice 31 (.slice (some ⟨b,off,none⟩) n c) (some (.int .i64 (lo:Int))) none none).run Tryz.prog W = .ok (.slice (some ⟨b,off + lo,none⟩) (n - lo) (c - lo)) W:=by
 obtain ⟨i0,hi0,hz0,hz1,hz2⟩:=info_parts Tryz.info5
 have e2:(Instr.sliceBound (.int .i64 (lo:Int)) n .sliceB).run Tryz.prog W = .ok lo W:=by
  have:=run_sliceBound (P:=Tryz.prog) W .i64 (lo:Int) n .sliceB (by omega) (by omega)
  simpa using this
 have h4:¬ c = lo:=by omega
 simp [Instr.slice,run_underlying Tryz.underlying31,Instr.sliceBounds,e2,sizeOf,typeInfo,hi0,hz1,h4,add_off]
theorem slice_lhm {b off n c lo hi:Nat} (h2:hi <= c) (h3:lo < hi) (W:World):(Instr.slice 31 (.slice (some ⟨b,off,none⟩) n c) (some (.int .i64 (lo:Int))) (some (.int .i64 (hi:Int))) (some (.int .i64 (hi:Int)))).run Tryz.prog W = .ok (.slice (some ⟨b,off + lo,none⟩) (hi - lo) (hi - lo)) W:=by
 obtain ⟨i0,hi0,hz0,hz1,hz2⟩:=info_parts Tryz.info5
 have e0:(Instr.sliceBound (.int .i64 (hi:Int)) c .slice3Acap).run Tryz.prog W = .ok hi W:=by
  have:=run_sliceBound (P:=Tryz.prog) W .i64 (hi:Int) c .slice3Acap (by omega) (by omega)
  simpa using this
 have e1:(Instr.sliceBound (.int .i64 (hi:Int)) hi .slice3B).run Tryz.prog W = .ok hi W:=by
  have:=run_sliceBound (P:=Tryz.prog) W .i64 (hi:Int) hi .slice3B (by omega) (by omega)
  simpa using this
 have e2:(Instr.sliceBound (.int .i64 (lo:Int)) hi .slice3C).run Tryz.prog W = .ok lo W:=by
  have:=run_sliceBound (P:=Tryz.prog) W .i64 (lo:Int) hi .slice3C (by omega) (by omega)
  simpa using this
 have h4:¬ hi = lo:=by omega
 simp [Instr.slice,run_underlying Tryz.underlying31,Instr.sliceBounds,e0,e1,e2,sizeOf,typeInfo,hi0,hz1,h4,add_off]
set_option maxRecDepth 100000 in
set_option maxHeartbeats 2000000 in
theorem chunk1_in (n:Nat) (hn:1 <= n) (l Bs Bn b off N cap m:Nat) (hN:N = 56 * m) (hm:m <= 64) (hcap:N <= cap) (J Jx:List Nat -> World -> Prop)
 (hY:∀ pre x W,J pre W -> pre.length < m -> YieldAt Fence.wide (n - 1) Tryz.prog l (encL_c b off m x) W fun e W' =>
   (e = .returned (.bool true) /\ J (pre ++ [x]) W' /\ Kp7 Bs Bn W W') \/ (e = .returned (.bool false) /\ Jx (pre ++ [x]) W'))
 (W:World) (hBs:Boxed W Bs 31 (.slice (some ⟨b,off,none⟩) N cap)) (hBn:Boxed W Bn 3 (.int .i64 56)) (hJd:∀ pre W,J pre W -> J pre W.drew) (h0:J [] W) :
 CallsIn Fence.wide n Tryz.prog 128 #[.func (.yield l) #[] #[],.pointer (some ⟨Bs,0,none⟩),.pointer (some ⟨Bn,0,none⟩)] W fun e W'=>(∃ v,e = .returned v) /\
  ((∃ ys,ys = List.range m /\ J ys W') \/ (∃ pre,(∃ k,k <= m /\ pre = List.range k) /\ Jx pre W')):=by
 have HN:Hid (N = 56 * m /\ N <= cap):=⟨hN,hcap⟩
 have HY:Hid _:=hY
 clear hN hcap hY
 refine callsIn_of_wp Tryz.func128 rfl trivial ?_ rfl
 simp only [Tryz.ntmps128,List.size_toArray,List.length_cons,List.length_nil,Nat.reduceAdd,Nat.reduceSub,Array.replicate_succ,Array.replicate_zero,List.push_toArray,List.append_toArray,List.nil_append,List.cons_append]
 gi_wp2
 gi_loopw [4] (fun i wr=>∃ k:Nat,k <= m /\ i = .int .i64 (56 * (k:Int)) /\ Hid (J (List.range k) wr) /\ Hid (Boxed wr Bs 31 (.slice (some ⟨b,off,none⟩) N cap) /\ Boxed wr Bn 3 (.int .i64 56)))
  (fun i _=>56 * m - (intOf i).toNat)
 case atStart=>exact ⟨0,Nat.zero_le _,rfl,h0,hBs,hBn⟩
 case round =>
  clear hBs hBn h0
  obtain ⟨k,hk,rfl,hJs,hB⟩:=hrel
  have c1:=hB.out.1.cell
  by_cases hlt:k < m
  ·have i1:56 * (k:Int) < (N:Int):=by have:=HN.out;omega
   have HY2:Hid (YieldAt Fence.wide (n - 1) Tryz.prog l (encL_c b off m k) wr.drew fun e W'=>(e = .returned (.bool true) /\ J (List.range k ++ [k]) W' /\ Kp7 Bs Bn wr.drew W') \/ (e = .returned (.bool false) /\ Jx (List.range k ++ [k]) W')):=HY.out _ _ _ (hJd _ _ hJs.out) (by simpa using hlt)
   have s1:=fun W=>slice_lo7 (b:=b) (off:=off) (n:=N) (c:=cap) (lo:=56 * k) (by have:=HN.out;omega) HN.out.2 W
   rw [show ((56 * k:Nat):Int) = 56 * (k:Int) by omega] at s1
   obtain ⟨R,hR⟩:∃ R,R = N - 56 * k:=⟨_,rfl⟩
   rw [<- hR] at s1
   have iR:¬ (R:Int) < 56:=by have:=HN.out;omega
   have HB:Hid (∀ w',wr.grownBy w' none -> w'.cell? ⟨Bs,0,none⟩ = some (.slice (some ⟨b,off,none⟩) N cap) /\ w'.cell? ⟨Bn,0,none⟩ = some (.int .i64 56)):=fun w' g=>⟨g.cell hB.out.1.cell (by simp),g.cell hB.out.2.cell (by simp)⟩
   clear hR hJs
   gi_wp2
   refine wpIn_wide.2 ?_
   go_region_held3 (fun w'=>w'.cell? ⟨Bs,0,none⟩ = some (.slice (some ⟨b,off,none⟩) N cap) /\ w'.cell? ⟨Bn,0,none⟩ = some (.int .i64 56)) (first | exact HB.out _ (grown_drewN _ 1)) (fail)
   clear s1 i1
   have eL:encL_c b off m k = #[.slice (some ⟨b,off + 56 * k,none⟩) 56 56]:=by simp [encL_c,cl_self hlt]
   rw [eL] at HY2
   obtain ⟨fn,tmps,assign,body,hy,hR⟩:=HY2.out
   have s2:=fun W=>slice_lhm (b:=b) (off:=off) (n:=N) (c:=cap) (lo:=56 * k) (hi:=56 * k + 56) (by have:=HN.out;omega) (by omega) W
   rw [show ((56 * k + 56:Nat):Int) = 56 * (k:Int) + 56 by omega,show ((56 * k:Nat):Int) = 56 * (k:Int) by omega,show 56 * k + 56 - 56 * k = 56 by omega] at s2
   have d1:wr.drew.cell? ⟨Bs,0,none⟩ = some (.slice (some ⟨b,off,none⟩) N cap):=c1
   clear HY2 eL c1
   gi_wp2
   refine hR.mono ?_
   rintro e W3 (⟨rfl,hJ3,hk3⟩ | ⟨rfl,hJx3⟩)
   ·have HJ3:Hid (J (List.range k ++ [k]) W3):=hJ3
    have hB3:Hid (Boxed W3 Bs 31 (.slice (some ⟨b,off,none⟩) N cap) /\ Boxed W3 Bn 3 (.int .i64 56)):=⟨hk3.1.trans hB.out.1,hk3.2.trans hB.out.2⟩
    have c3:=hB3.out.2.cell
    clear hJ3 hk3 hy hR s2 d1
    gi_wp2
    go_roundw
    case rel=>exact ⟨k + 1,by omega,by go_num,by rw [List.range_succ];exact HJ3,hB3⟩
    case measure=>simp [intOf];omega
   ·have HJ3:Hid (Jx (List.range k ++ [k]) W3):=hJx3
    clear hJx3 hy hR s2 d1
    gi_wp2
    refine bodyPost_ret (results_none rfl _ _ _) rfl ?_
    exact ⟨⟨_,rfl⟩,.inr ⟨_,⟨k + 1,by omega,(List.range_succ).symm⟩,HJ3.out⟩⟩
  ·obtain rfl:k = m:=by omega
   have i1:¬ 56 * (k:Int) < (N:Int):=by have:=HN.out;omega
   gi_wp2
   go_end0
   exact ⟨⟨_,rfl⟩,.inl hJs.out⟩
end Go.Proofs.YtaalagkbpeinkaaGreat
