/- Packed: RLeaf6, SimM, RBar6, RRead6. -/
import Derived.Test.YtaalagkbpeinkaaGreatMp9
set_option linter.unusedSimpArgs false
set_option linter.unusedVariables false
set_option maxRecDepth 100000
namespace Go.Proofs.YtaalagkbpeinkaaGreat
open Go.RowKit
namespace AM.RA
def on (A:RA) (d:Int):Bool:=decide (0<=d)&&decide (d < A.D.length)&&(A.D.getD d.toNat none).isSome
def why (A:RA) (d k:Int):Nat:=if A.dark then 8 else if 0<=d/\d < A.D.length/\0<=k/\k < A.n then (if (A.D.getD d.toNat none).isSome then 0 else 9) else 6
def burns (A:RA):Bool:=A.left==1
def burnt (A:RA):RA:=if A.left=0 then A else { A with left:=A.left - 1,dark:=A.left==1 }
end AM.RA
section
variable {G:Nat->Prop} {w:World} {r:Nat} {A:AM.RA}
theorem rgoes_yes (h:RIs G w r A) (hd:A.dark=false):Calls Tryz.prog 91 #[rptr r] w fun e w'=>e=.returned (.bool A.burns)/\RIs G w' r A.burnt/\Step G w G w':=by
 obtain⟨dp,dc,ds,lp,lc,fs,h⟩:=h
 have H:Hid (RL G w r dp dc ds lp lc fs A):=h
 have hf:=h.left
 have ht:=h.top
 obtain⟨_,_,_,c3,c4⟩:=h.topCells
 have f3:=topFrozen 3 ht
 have f4:=topFrozen 4 ht
 have HT:Hid (w.heap[r]?=some (.cells #[.slice dp A.D.length dc,.int .i64 (A.n:Int),.slice lp A.L.length lc,.int .i64 (A.left:Int),.bool A.dark] 86 (0,0))):=ht
 rw[hd] at c4
 clear h ht
 by_cases h0:A.left=0
 ·have HB:Hid (A.burns=false/\A.burnt=A):=⟨by simp[AM.RA.burns,h0],by simp[AM.RA.burnt,h0]⟩
  rw[h0] at c3
  have c3:w.cell? ⟨r,3,none⟩=some (.int .i64 0):=c3
  clear hf c4 f3 f4 h0 hd
  go_enter Tryz.func91,Tryz.ntmps91
  go_wp2
  go_ret
  exact⟨by rw[HB.out.1];rfl,by rw[HB.out.2];exact H.out.is,Step.refl G w⟩
 ·obtain⟨m,hm⟩:∃ m,A.left=m+1:=⟨A.left - 1,by omega⟩
  have HB:Hid (A.burns=decide (m=0)/\A.burnt={ A with left:=m,dark:=decide (m=0) }):=⟨by simp[AM.RA.burns,hm,beq_dec],by
   unfold AM.RA.burnt
   rw[if_neg h0,hm]
   simp[beq_dec]⟩
  have hmb:m < 9223372036854775807:=by omega
  have i1:((((m:Nat):Int)+1)==0)=false:=by simp;omega
  rw[hm,Int.natCast_add,Int.natCast_one] at c3
  by_cases hz:m=0
  ·subst hz
   have HI:Hid (RIs G ((w.setCell ⟨r,3,none⟩ (.int .i64 0)).setCell ⟨r,4,none⟩ (.bool true)) r A.burnt):=by
    rw[HB.out.2]
    refine (H.out.turn (l':=0) (k':=true) (grown_set2 (grown_set_a w r 3 _) 4 _) (by decide) ?_).is
    rw[heap_setCell_same _ _ _ _ _ _ (heap_setCell_same _ _ _ _ _ _ HT.out)]
    rfl
   have HS:Hid (Step G w G ((w.setCell ⟨r,3,none⟩ (.int .i64 0)).setCell ⟨r,4,none⟩ (.bool true))):=Step.of (grown_set2 (grown_set_a w r 3 _) 4 _) (fun i e=>by obtain rfl:=Option.some.inj e;exact H.out.Gr)
   have HB1:Hid (A.burns=true):=HB.out.1
   clear HB HT H hf h0 hm hd
   go_enter Tryz.func91,Tryz.ntmps91
   go_wp2
   go_ret
   exact⟨by rw[HB1.out];rfl,HI.out,HS.out⟩
  ·have i2:(((m:Nat):Int)==0)=false:=by simp;omega
   have e2:decide (m=0)=false:=by simp[hz]
   rw[e2] at HB
   have HI:Hid (RIs G (w.setCell ⟨r,3,none⟩ (.int .i64 (m:Int))) r A.burnt):=by
    rw[HB.out.2]
    refine (H.out.turn (l':=m) (k':=false) (grown_set_a w r 3 _) (by omega) ?_).is
    rw[heap_setCell_same _ _ _ _ _ _ HT.out,hd]
    rfl
   have HS:Hid (Step G w G (w.setCell ⟨r,3,none⟩ (.int .i64 (m:Int)))):=Step.of (grown_set_a w r 3 _) (fun i e=>by obtain rfl:=Option.some.inj e;exact H.out.Gr)
   have HB1:Hid (A.burns=false):=HB.out.1
   have hzi:¬ (m:Int)=0:=by omega
   clear HB HT H hf h0 hm hd e2
   go_enter Tryz.func91,Tryz.ntmps91
   go_wp2
   go_ret
   exact⟨by rw[HB1.out];rfl,HI.out,HS.out⟩
theorem rfuse_yes (h:RIs G w r A) {n:Int} (hn:n < 9223372036854775808):Calls Tryz.prog 43 #[rptr r,.int .i64 n] w fun e w'=>e=.returned (.tuple #[])/\RIs G w' r { A with left:=n.toNat }/\Step G w G w':=by
 obtain⟨dp,dc,ds,lp,lc,fs,h⟩:=h
 have ht:=h.top
 obtain⟨_,_,_,c3,_⟩:=h.topCells
 have f3:=topFrozen 3 ht
 have H:Hid (RL G w r dp dc ds lp lc fs A):=h
 by_cases h0:0 < n
 ·have e:(n.toNat:Int)=n:=by omega
  have HI:Hid (RIs G ((w.setCell ⟨r,3,none⟩ (.int .i64 0)).setCell ⟨r,3,none⟩ (.int .i64 n)) r { A with left:=n.toNat }):=by
   refine (H.out.turn (l':=n.toNat) (k':=A.dark) (grown_set2 (grown_set_a w r 3 _) 3 _) (by omega) ?_).is
   rw[heap_setCell_same _ _ _ _ _ _ (heap_setCell_same _ _ _ _ _ _ ht),e]
   rfl
  have HS:Hid (Step G w G ((w.setCell ⟨r,3,none⟩ (.int .i64 0)).setCell ⟨r,3,none⟩ (.int .i64 n))):=Step.of (grown_set2 (grown_set_a w r 3 _) 3 _) (fun i e=>by obtain rfl:=Option.some.inj e;exact H.out.Gr)
  have HI2:Hid (RIs G (w.setCell ⟨r,3,none⟩ (.int .i64 n)) r { A with left:=n.toNat }):=by
   refine (H.out.turn (l':=n.toNat) (k':=A.dark) (grown_set_a w r 3 _) (by omega) ?_).is
   rw[heap_setCell_same _ _ _ _ _ _ ht,e]
   rfl
  have HS2:Hid (Step G w G (w.setCell ⟨r,3,none⟩ (.int .i64 n))):=Step.of (grown_set_a w r 3 _) (fun i e=>by obtain rfl:=Option.some.inj e;exact H.out.Gr)
  clear h ht H e
  go_enter Tryz.func43,Tryz.ntmps43
  go_wp2
  go_end0
  first | exact⟨rfl,HI.out,HS.out⟩ | exact⟨rfl,HI2.out,HS2.out⟩
 ·have e:n.toNat=0:=by omega
  have HI:Hid (RIs G (w.setCell ⟨r,3,none⟩ (.int .i64 0)) r { A with left:=n.toNat }):=by
   rw[e]
   refine (H.out.turn (l':=0) (k':=A.dark) (grown_set_a w r 3 _) (by decide) ?_).is
   rw[heap_setCell_same _ _ _ _ _ _ ht]
   rfl
  have HS:Hid (Step G w G (w.setCell ⟨r,3,none⟩ (.int .i64 0))):=Step.of (grown_set_a w r 3 _) (fun i e=>by obtain rfl:=Option.some.inj e;exact H.out.Gr)
  clear h ht H e
  go_enter Tryz.func43,Tryz.ntmps43
  go_wp2
  go_end0
  exact⟨rfl,HI.out,HS.out⟩
theorem rwhy_yes (h:RIs G w r A) (d k:Int):Calls Tryz.prog 97 #[rptr r,.int .i64 d,.int .i64 k] w fun e w'=>e=.returned (.int .i64 (A.why d k:Int))/\w'=w:=by
 obtain⟨dp,dc,ds,lp,lc,fs,h⟩:=h
 have hD2:=h.d2
 obtain⟨c0,c1,_,_,c4⟩:=h.topCells
 cases hd:A.dark with
 | true =>
   rw[hd] at c4
   have HR:Hid ((A.why d k:Int)=8):=by show _=_;simp[AM.RA.why,hd]
   clear h hd
   go_enter Tryz.func97,Tryz.ntmps97
   go_wp2
   go_ret
   exact⟨by rw[HR.out];rfl,rfl⟩
 | false =>
   rw[hd] at c4
   by_cases hin:0<=d/\d < (A.D.length:Int)/\0<=k/\k < (A.n:Int)
   ·obtain⟨i1,i2,i3,i4⟩:=hin
    obtain⟨i,rfl⟩:∃ n:Nat,d=(n:Int):=⟨d.toNat,by omega⟩
    have hil:i < A.D.length:=by omega
    obtain⟨dg,v,rfl,hv,e0,e1,_⟩:=h.disk hil
    have n2:=h.n2
    cases hg:A.D[i] with
    | none =>
      rw[hg] at e1
      have e1:w.cell? ⟨dg,i * 2+1,none⟩=some (.bool true):=e1
      have HR:Hid ((A.why (i:Int) k:Int)=9):=by show _=_;simp[AM.RA.why,hd,i2,i3,i4,List.getD,hil,hg]
      clear h hd hv e0 hg
      generalize A.D.length=N at *
      generalize A.n=M at *
      go_enter Tryz.func97,Tryz.ntmps97
      go_wp2
      go_ret
      exact⟨by rw[HR.out];rfl,rfl⟩
    | some ss =>
      rw[hg] at e1
      have e1:w.cell? ⟨dg,i * 2+1,none⟩=some (.bool false):=e1
      have HR:Hid ((A.why (i:Int) k:Int)=0):=by show _=_;simp[AM.RA.why,hd,i2,i3,i4,List.getD,hil,hg]
      clear h hd hv e0 hg
      generalize A.D.length=N at *
      generalize A.n=M at *
      go_enter Tryz.func97,Tryz.ntmps97
      go_wp2
      go_ret
      exact⟨by rw[HR.out];rfl,rfl⟩
   ·have HR:Hid ((A.why d k:Int)=6):=by show _=_;unfold AM.RA.why;rw[hd,if_neg (by decide),if_neg hin];rfl
    clear h hd
    generalize A.D.length=N at *
    generalize A.n=M at *
    by_cases a1:d < 0
    ·clear hin
     go_enter Tryz.func97,Tryz.ntmps97
     go_wp2
     go_ret
     exact⟨by rw[HR.out];rfl,rfl⟩
    ·by_cases a2:(N:Int)<=d
     ·clear hin
      go_enter Tryz.func97,Tryz.ntmps97
      go_wp2
      go_ret
      exact⟨by rw[HR.out];rfl,rfl⟩
     ·by_cases a3:k < 0
      ·clear hin
       go_enter Tryz.func97,Tryz.ntmps97
       go_wp2
       go_ret
       exact⟨by rw[HR.out];rfl,rfl⟩
      ·have a4:(M:Int)<=k:=by omega
       clear hin
       go_enter Tryz.func97,Tryz.ntmps97
       go_wp2
       go_ret
       exact⟨by rw[HR.out];rfl,rfl⟩
end
end Go.Proofs.YtaalagkbpeinkaaGreat
namespace Go.Proofs.YtaalagkbpeinkaaGreat
namespace AM
def secs (n:Nat) (xs:List Nat):List (List Nat):=(List.range n).map (sec xs)
def secsD (n:Nat) (C:List Disk):List (Option (List (List Nat))):=C.map (Option.map (secs n))
theorem secs_len (n:Nat) (xs:List Nat):(secs n xs).length=n:=by simp[secs]
theorem secs_get {n k:Nat} (h:k < n) (xs:List Nat):(secs n xs)[k]?=some (sec xs k):=by simp[secs,h]
theorem secsD_len (n:Nat) (C:List Disk):(secsD n C).length=C.length:=by simp[secsD]
theorem secsD_get (n:Nat) (C:List Disk) (d:Nat):(secsD n C)[d]?=(C[d]?).map (Option.map (secs n)):=by simp[secsD]
theorem secs_put {n k:Nat} {xs b:List Nat} (hx:xs.length=n * 64) (hk:k < n) (hb:b.length=64):secs n (put xs k b)=(secs n xs).set k b:=by
 have hf:=fits hk
 apply List.ext_getElem?
 intro j
 by_cases hj:j < n
 ·rw[secs_get hj]
  by_cases c:k=j
  ·subst c
   rw[sec_put_same hb (by omega),List.getElem?_set,if_pos rfl,if_pos (by rw[secs_len];exact hj)]
  ·rw[sec_put_ne hb (by omega) (Ne.symm c),List.getElem?_set,if_neg c,secs_get hj]
 ·rw[List.getElem?_eq_none (by rw[secs_len];omega),List.getElem?_eq_none (by simp[secs_len];omega)]
def rlay (D:List (Option (List (List Nat)))) (d k:Nat) (b:List Nat):List (Option (List (List Nat))):=D.set d ((D.getD d none).map (fun ss=>ss.set k b))
theorem secsD_lay {n:Nat} {C:List Disk} (hC:OkC n C) {d k:Nat} (hk:k < n) {b:List Nat} (hb:b.length=64):secsD n (lay C d k b)=rlay (secsD n C) d k b:=by
 apply List.ext_getElem?
 intro j
 rw[secsD_get]
 unfold rlay
 by_cases c:d=j
 ·subst c
  by_cases hl:d < C.length
  ·rw[List.getElem?_set,if_pos rfl,if_pos (by rw[secsD_len];exact hl)]
   have e:(secsD n C).getD d none=(C[d]).map (secs n):=by simp[List.getD,secsD,hl]
   rw[e]
   cases hq:C[d] with
   | none =>
     have:(lay C d k b)[d]?=some none:=by simp[lay,List.getD,hl,hq]
     rw[this];rfl
   | some xs =>
     have hq':C[d]?=some (some xs):=by rw[List.getElem?_eq_getElem hl,hq]
     rw[lay_at k b hq']
     obtain⟨h1,_⟩:=hC d xs hq'
     simp[secs_put h1 hk hb]
  ·rw[List.getElem?_eq_none (by rw[lay_len];omega),List.getElem?_eq_none (by simp[secsD_len];omega)]
   rfl
 ·rw[lay_ne k b (Ne.symm c),List.getElem?_set,if_neg c,secsD_get]
namespace RA
def ons (A:RA):Nat:=A.D.countP (·.isSome)
def fly (A:RA) (d k:Nat) (b:List Nat):RA:={ A with L:=A.L++[⟨d,k,b⟩] }
def writes (A:RA) (d k:Int) (b:List Nat):Nat × RA :=
 if A.why d k ≠ 0 then (A.why d k,A) else if b.length ≠ 64 then (1,A) else if A.burns then (8,A.burnt) else (0,A.burnt.fly d.toNat k.toNat b)
def barrier (A:RA):Nat × RA:=if A.dark then (8,A) else if A.burns then (8,A.burnt) else (0,{ A.burnt with D:=A.L.foldl (fun D l=>rlay D l.d l.k l.b) A.D,L:=[] })
def lost (A:RA) (d:Nat):RA:={ A with D:=A.D.set d none,L:=A.L.filter (fun l=>!(l.d==d)) }
def lose (A:RA) (d:Int):Nat × RA:=if 0<=d/\d < A.D.length then (if (A.D.getD d.toNat none).isSome then (0,A.lost d.toNat) else (9,A)) else (6,A)
def blank (A:RA) (d:Nat):RA:={ A with D:=A.D.set d (some (List.replicate A.n (zs 64))) }
def replace (A:RA) (d:Int):Nat × RA:=if 0<=d/\d < A.D.length then (if (A.D.getD d.toNat none).isSome then (1,A) else (0,A.blank d.toNat)) else (6,A)
def fused (A:RA) (n:Int):RA:={ A with left:=n.toNat }
def rpick (D:List (Option (List (List Nat)))) (x:Fl × Nat):List (Option (List (List Nat))):=if x.2 % 2=1 then rlay D x.1.d x.1.k x.1.b else D
def crash (A:RA) (ps:List Nat):RA:=⟨(A.L.zip ps).foldl rpick A.D,A.n,[],0,false⟩
def new (d n:Nat):RA:=⟨List.replicate d (some (List.replicate n (zs 64))),n,[],0,false⟩
def last (L:List Fl) (d k:Nat) (b:List Nat):List Nat:=L.foldl (fun c l=>if l.d=d/\l.k=k then l.b else c) b
def read (A:RA) (d k:Int):List Nat:=if A.why d k=0 then last A.L d.toNat k.toNat (((A.D.getD d.toNat none).getD []).getD k.toNat []) else []
end RA
def flOf (l:Wr):Fl:=⟨l.d,l.k,l.now⟩
def redo (C:List Disk) (L:List Wr):List Disk:=L.foldl (fun D l=>lay D l.d l.k l.now) C
structure Sim (R:Raw) (A:RA):Prop where
 ok:R.Ok
 n:A.n=R.n
 left:A.left=R.fuse
 dark:A.dark=R.off
 L:A.L=R.L.map flOf
 D:A.D=secsD R.n (undoTo R.C R.L 0)
 redo:redo (undoTo R.C R.L 0) R.L=R.C
theorem Sim.len {R:Raw} {A:RA} (h:Sim R A):A.D.length=R.C.length:=by rw[h.D,secsD_len,undoTo_len]
theorem undo_on (C:List Disk) (L:List Wr) (j e:Nat):((undoTo C L j).getD e none).isSome=(C.getD e none).isSome:=by
 unfold undoTo
 generalize L.drop j=Z
 induction Z with
 | nil=>rfl
 | cons l r ih=>simp only[List.foldr];rw[lay_on,ih]
theorem secsD_on (n:Nat) (C:List Disk) (e:Nat):((secsD n C).getD e none).isSome=(C.getD e none).isSome:=by
 simp only[List.getD,secsD_get]
 cases h:C[e]? with
 | none=>rfl
 | some x=>cases x <;> rfl
theorem Sim.isSome {R:Raw} {A:RA} (h:Sim R A) (e:Nat):(A.D.getD e none).isSome=(R.C.getD e none).isSome:=by rw[h.D,secsD_on,undo_on]
theorem Sim.on {R:Raw} {A:RA} (h:Sim R A) (d:Int):A.on d=R.on d:=by
 unfold RA.on Raw.on
 rw[h.len,h.isSome]
theorem Sim.why {R:Raw} {A:RA} (h:Sim R A) (d k:Int):A.why d k=R.reach d k:=by
 unfold RA.why Raw.reach
 rw[h.dark,h.len,h.n,h.isSome]
 split
 ·rfl
 ·split
  ·rename_i c
   simp[Raw.on,c.1,c.2.1]
  ·rfl
theorem Sim.burns {R:Raw} {A:RA} (h:Sim R A):A.burns=R.burns:=by unfold RA.burns Raw.burns;rw[h.left]
theorem burnt_C (R:Raw):R.burnt.C=R.C/\R.burnt.n=R.n/\R.burnt.L=R.L:=by unfold Raw.burnt;split <;> exact⟨rfl,rfl,rfl⟩
theorem rburnt_D (A:RA):A.burnt.D=A.D/\A.burnt.n=A.n/\A.burnt.L=A.L:=by unfold RA.burnt;split <;> exact⟨rfl,rfl,rfl⟩
theorem Sim.burnt {R:Raw} {A:RA} (h:Sim R A):Sim R.burnt A.burnt:=by
 obtain⟨a1,a2,a3⟩:=burnt_C R
 obtain⟨b1,b2,b3⟩:=rburnt_D A
 refine⟨h.ok.burnt,by rw[a2,b2,h.n],?_,?_,by rw[a3,b3,h.L],by rw[a1,a2,a3,b1,h.D],by rw[a1,a3,h.redo]⟩
 ·unfold RA.burnt Raw.burnt;rw[h.left];split
  ·exact h.left
  ·rfl
 ·unfold RA.burnt Raw.burnt;rw[h.left];split
  ·exact h.dark
  ·rfl
theorem undo_fly {C:List Disk} {L:List Wr} {d k:Nat} {b xs:List Nat} (hx:C[d]?=some (some xs)) (hl:k * 64+64<=xs.length) (hb:b.length=64):undoTo (lay C d k b) (L++[⟨d,k,look C d k,b⟩]) 0=undoTo C L 0:=by
 unfold undoTo
 simp only[List.drop_zero,List.foldr_append,List.foldr_cons,List.foldr_nil]
 congr 1
 have e:look C d k=sec xs k:=look_at k hx
 rw[e]
 apply List.ext_getElem?
 intro j
 by_cases c:j=d
 ·subst c
  rw[lay_at _ _ (lay_at k b hx),put_put_sec hb hl,hx]
 ·rw[lay_ne _ _ c,lay_ne _ _ c]
theorem Sim.fly {R:Raw} {A:RA} (h:Sim R A) {d k:Nat} {b xs:List Nat} (hx:R.C[d]?=some (some xs)) (hk:k < R.n) (hb:b.length=64) (hs:∀ x ∈ b,x < 256):Sim (R.fly d k b) (A.fly d k b):=by
 obtain⟨h1,_⟩:=h.ok.C d xs hx
 have hf:=fits hk
 have hu:undoTo (R.fly d k b).C (R.fly d k b).L 0=undoTo R.C R.L 0:=undo_fly hx (by omega) hb
 refine⟨h.ok.fly ⟨xs,hx⟩ hk hb hs,h.n,h.left,h.dark,by simp[RA.fly,Raw.fly,h.L,flOf],?_,?_⟩
 ·rw[hu];exact h.D
 ·rw[hu]
  show AM.redo _ (R.L++[_])=lay R.C d k b
  unfold AM.redo
  rw[List.foldl_append]
  have:=h.redo
  unfold AM.redo at this
  rw[this]
  rfl
theorem Sim.write {R:Raw} {A:RA} (h:Sim R A) (d k:Int) {b:List Nat} (hs:∀ x ∈ b,x < 256):(A.writes d k b).1=(R.writes d k b).1/\Sim (R.writes d k b).2 (A.writes d k b).2:=by
 by_cases hr:R.reach d k=0
 ·by_cases hb:b.length=64
  ·cases hbu:R.burns with
   | true =>
     simp only[RA.writes,Raw.writes,h.why,h.burns,hr,hb,hbu,ne_eq,not_true_eq_false,if_false,if_true]
     exact⟨trivial,h.burnt⟩
   | false =>
     obtain⟨_,h1,_,h2,h3,xs,hx⟩:=reach_zero hr
     obtain⟨a1,a2,_⟩:=burnt_C R
     simp only[RA.writes,Raw.writes,h.why,h.burns,hr,hb,hbu,ne_eq,not_true_eq_false,if_false,Bool.false_eq_true]
     exact⟨trivial,h.burnt.fly (by rw[a1];exact hx) (by rw[a2];omega) hb hs⟩
  ·simp only[RA.writes,Raw.writes,h.why,h.burns,hr,hb,ne_eq,not_true_eq_false,not_false_eq_true,if_false,if_true]
   exact⟨trivial,h⟩
 ·simp only[RA.writes,Raw.writes,h.why,hr,ne_eq,not_false_eq_true,if_true]
  exact⟨trivial,h⟩
theorem Sim.fuse {R:Raw} {A:RA} (h:Sim R A) {n:Int} (hn:n < 9223372036854775808):Sim (R.fused n) (A.fused n) :=
 ⟨⟨h.ok.d1,h.ok.d2,h.ok.n1,h.ok.n2,h.ok.C,h.ok.L,by show n.toNat < _;omega⟩,h.n,rfl,h.dark,h.L,h.D,h.redo⟩
theorem secsD_redo {n:Nat} {C:List Disk} (h:OkC n C) {L:List Wr} (hL:∀ l ∈ L,OkW n C l):(L.map flOf).foldl (fun D l=>rlay D l.d l.k l.b) (secsD n C)=secsD n (AM.redo C L):=by
 unfold AM.redo
 induction L generalizing C with
 | nil=>rfl
 | cons l r ih =>
   have hl:=hL l (List.mem_cons_self ..)
   simp only[List.map_cons,List.foldl_cons]
   rw[<- ih (h.lay hl.k hl.now hl.nowS) (fun x hx=>(hL x (List.mem_cons_of_mem _ hx)).lay _ _ _),secsD_lay h hl.k hl.now]
   rfl
theorem Sim.barrier {R:Raw} {A:RA} (h:Sim R A):A.barrier.1=R.barrier.1/\Sim R.barrier.2 A.barrier.2:=by
 unfold RA.barrier Raw.barrier
 rw[h.dark,h.burns]
 split
 ·exact⟨rfl,h⟩
 ·split
  ·exact⟨rfl,h.burnt⟩
  ·have hb:=h.burnt
   obtain⟨a1,a2,a3⟩:=burnt_C R
   obtain⟨u1,u2⟩:=h.ok.C.undo h.ok.L 0
   refine⟨rfl,⟨⟨hb.ok.d1,hb.ok.d2,hb.ok.n1,hb.ok.n2,hb.ok.C,by simp,hb.ok.fuse⟩,hb.n,hb.left,hb.dark,rfl,?_,rfl⟩⟩
   show A.L.foldl _ A.D=secsD R.burnt.n R.burnt.C
   rw[h.L,h.D,secsD_redo u1 u2,h.redo,a1,a2]
theorem secsD_pick {n:Nat}:∀ (Z:List (Wr × Nat)) (C:List Disk),OkC n C->(∀ x ∈ Z,OkW n C x.1)->(Z.map (fun x=>(flOf x.1,x.2))).foldl RA.rpick (secsD n C)=secsD n (Z.foldl pickD C):=by
 intro Z
 induction Z with
 | nil=>intro C _ _;rfl
 | cons x r ih =>
   intro C hC hZ
   have hx:=hZ x (List.mem_cons_self ..)
   simp only[List.map_cons,List.foldl_cons]
   by_cases ho:x.2 % 2=1
   ·have e1:RA.rpick (secsD n C) (flOf x.1,x.2)=rlay (secsD n C) x.1.d x.1.k x.1.now:=if_pos ho
    have e2:pickD C x=lay C x.1.d x.1.k x.1.now:=if_pos ho
    rw[e1,e2,<- ih _ (hC.lay hx.k hx.now hx.nowS) (fun y hy=>(hZ y (List.mem_cons_of_mem _ hy)).lay _ _ _),secsD_lay hC hx.k hx.now]
   ·have e1:RA.rpick (secsD n C) (flOf x.1,x.2)=secsD n C:=if_neg ho
    have e2:pickD C x=C:=if_neg ho
    rw[e1,e2,ih _ hC (fun y hy=>hZ y (List.mem_cons_of_mem _ hy))]
theorem Sim.crash {R:Raw} {A:RA} (h:Sim R A) (ps:List Nat):Sim (R.crash ps) (A.crash ps):=by
 obtain⟨u1,u2⟩:=h.ok.C.undo h.ok.L 0
 refine⟨h.ok.crash ps,h.n,rfl,rfl,rfl,?_,rfl⟩
 show (A.L.zip ps).foldl RA.rpick A.D=secsD R.n ((R.L.zip ps).foldl pickD (undoTo R.C R.L 0))
 rw[h.L,h.D,<- secsD_pick (n:=R.n) (R.L.zip ps) _ u1 (fun x hx=>u2 _ (List.of_mem_zip hx).1)]
 congr 1
 rw[List.zip_map_left]
 rfl
theorem lay_set_ne {C:List Disk} {d e k:Nat} {b:List Nat} (o:Disk) (h:e ≠ d):lay (C.set e o) d k b=(lay C d k b).set e o:=by
 unfold lay
 have:(C.set e o).getD d none=C.getD d none:=by simp only[List.getD];rw[List.getElem?_set_ne h]
 rw[this,List.set_comm _ _ h]
theorem undo_set {C:List Disk} {e:Nat} (o:Disk):∀ {L:List Wr},(∀ l ∈ L,l.d ≠ e)->undoTo (C.set e o) L 0=(undoTo C L 0).set e o:=by
 intro L
 unfold undoTo
 simp only[List.drop_zero]
 induction L with
 | nil=>intro _;rfl
 | cons l r ih =>
   intro h
   simp only[List.foldr_cons]
   rw[ih (fun x hx=>h x (List.mem_cons_of_mem _ hx)),lay_set_ne o (Ne.symm (h l (List.mem_cons_self ..)))]
theorem redo_set {e:Nat} (o:Disk):∀ {L:List Wr} {C:List Disk},(∀ l ∈ L,l.d ≠ e)->redo (C.set e o) L=(redo C L).set e o:=by
 intro L
 unfold redo
 induction L with
 | nil=>intro C _;rfl
 | cons l r ih =>
   intro C h
   simp only[List.foldl_cons]
   rw[lay_set_ne o (Ne.symm (h l (List.mem_cons_self ..))),ih (fun x hx=>h x (List.mem_cons_of_mem _ hx))]
theorem lay_kill {C:List Disk} {e k:Nat} {b:List Nat}:(lay C e k b).set e none=C.set e none:=by
 unfold lay
 simp
theorem undo_lost {e:Nat}:∀ {L:List Wr} {C:List Disk},undoTo (C.set e none) (L.filter (fun l=>!(l.d==e))) 0=(undoTo C L 0).set e none:=by
 intro L
 unfold undoTo
 simp only[List.drop_zero]
 induction L with
 | nil=>intro C;rfl
 | cons l r ih =>
   intro C
   by_cases h:l.d=e
   ·rw[List.filter_cons_of_neg (by simp[h]),ih]
    simp only[List.foldr_cons]
    rw[h,lay_kill]
   ·rw[List.filter_cons_of_pos (by simp[h])]
    simp only[List.foldr_cons]
    rw[ih,lay_set_ne none (Ne.symm h)]
theorem redo_lost {e:Nat}:∀ {L:List Wr} {C:List Disk},redo (C.set e none) (L.filter (fun l=>!(l.d==e)))=(redo C L).set e none:=by
 intro L
 unfold redo
 induction L with
 | nil=>intro C;rfl
 | cons l r ih =>
   intro C
   by_cases h:l.d=e
   ·rw[List.filter_cons_of_neg (by simp[h])]
    simp only[List.foldl_cons]
    rw[<- ih,h,lay_kill]
   ·rw[List.filter_cons_of_pos (by simp[h])]
    simp only[List.foldl_cons]
    rw[lay_set_ne none (Ne.symm h),ih]
theorem secsD_set (n:Nat) (C:List Disk) (d:Nat) (o:Disk):secsD n (C.set d o)=(secsD n C).set d (o.map (secs n)):=by simp[secsD,List.map_set]
theorem Sim.find {R:Raw} {A:RA} (h:Sim R A) (d:Int):(0<=d/\d < (A.D.length:Int)) ↔ R.find d=0:=by
 rw[h.len]
 unfold Raw.find
 split
 ·rename_i c;simp[c]
 ·rename_i c;simp[c]
theorem Sim.lose {R:Raw} {A:RA} (h:Sim R A) (d:Int):(A.lose d).1=(R.lose d).1/\Sim (R.lose d).2 (A.lose d).2:=by
 by_cases hf:R.find d=0
 ·have hin:=(h.find d).2 hf
  have hs:(A.D.getD d.toNat none).isSome=R.on d:=by
   rw[h.isSome]
   rw[h.len] at hin
   simp[Raw.on,hin.1,hin.2]
  cases ho:R.on d with
  | false =>
    simp only[RA.lose,Raw.lose,hin,hf,hs,ho,ne_eq,not_true_eq_false,if_false,Bool.false_eq_true,and_self,if_true]
    exact⟨trivial,h⟩
  | true =>
    simp only[RA.lose,Raw.lose,hin,hf,hs,ho,ne_eq,not_true_eq_false,if_false,and_self,if_true]
    refine⟨trivial,⟨h.ok.lost _,h.n,h.left,h.dark,?_,?_,?_⟩⟩
    ·show A.L.filter _=(R.L.filter _).map flOf
     rw[h.L,List.filter_map]
     rfl
    ·show A.D.set d.toNat none=secsD R.n (undoTo (R.C.set d.toNat none) (R.L.filter _) 0)
     rw[undo_lost,secsD_set,h.D]
     rfl
    ·show AM.redo (undoTo (R.C.set d.toNat none) (R.L.filter _) 0) (R.L.filter _)=R.C.set d.toNat none
     rw[undo_lost,redo_lost,h.redo]
 ·have hin:¬ (0<=d/\d < (A.D.length:Int)):=fun c=>hf ((h.find d).1 c)
  have h6:R.find d=6:=by unfold Raw.find at hf ⊢;split at hf <;> simp_all
  simp only[RA.lose,Raw.lose,hin,h6,ne_eq,if_false]
  exact⟨rfl,h⟩
theorem secs_zs (n:Nat):secs n (zs (n * 64))=List.replicate n (zs 64):=by
 apply List.ext_getElem?
 intro j
 by_cases hj:j < n
 ·rw[secs_get hj,sec_zs hj,List.getElem?_replicate,if_pos hj]
 ·rw[List.getElem?_eq_none (by rw[secs_len];omega),List.getElem?_eq_none (by simp;omega)]
theorem Sim.replace {R:Raw} {A:RA} (h:Sim R A) (d:Int):(A.replace d).1=(R.replace d).1/\Sim (R.replace d).2 (A.replace d).2:=by
 by_cases hf:R.find d=0
 ·have hin:=(h.find d).2 hf
  have hin':=hin
  rw[h.len] at hin'
  have hs:(A.D.getD d.toNat none).isSome=R.on d:=by
   rw[h.isSome]
   simp[Raw.on,hin'.1,hin'.2]
  cases ho:R.on d with
  | true =>
    simp only[RA.replace,Raw.replace,hin,hf,hs,ho,ne_eq,not_true_eq_false,if_false,and_self,if_true]
    exact⟨trivial,h⟩
  | false =>
    simp only[RA.replace,Raw.replace,hin,hf,hs,ho,ne_eq,not_true_eq_false,if_false,Bool.false_eq_true,and_self,if_true]
    have hL:∀ l ∈ R.L,l.d ≠ d.toNat:=fun l hl e=>by
     obtain⟨xs,hx⟩:=(h.ok.L l hl).on
     rw[e] at hx
     have h1:R.on d=true:=by
      unfold Raw.on
      rw[decide_eq_true hin'.1,decide_eq_true hin'.2]
      simp[List.getD,hx]
     rw[ho] at h1
     cases h1
    refine⟨trivial,⟨h.ok.blank _,h.n,h.left,h.dark,h.L,?_,?_⟩⟩
    ·show A.D.set d.toNat (some (List.replicate A.n (zs 64)))=secsD R.n (undoTo (R.C.set d.toNat (some (zs (R.n * 64)))) R.L 0)
     rw[undo_set _ hL,secsD_set,h.D,h.n,<- secs_zs]
     rfl
    ·show AM.redo (undoTo (R.C.set d.toNat (some (zs (R.n * 64)))) R.L 0) R.L=R.C.set d.toNat _
     rw[undo_set _ hL,redo_set _ hL,h.redo]
 ·have hin:¬ (0<=d/\d < (A.D.length:Int)):=fun c=>hf ((h.find d).1 c)
  have h6:R.find d=6:=by unfold Raw.find at hf ⊢;split at hf <;> simp_all
  simp only[RA.replace,Raw.replace,hin,h6,ne_eq,if_false]
  exact⟨rfl,h⟩
theorem sim_new {d n:Nat} (h1:1<=d) (h2:d<=255) (h3:1<=n) (h4:n<=4096):Sim (Raw.new d n) (RA.new d n):=by
 refine⟨Raw.Ok.new h1 h2 h3 h4,rfl,rfl,rfl,rfl,?_,rfl⟩
 show List.replicate d (some (List.replicate n (zs 64)))=secsD n (List.replicate d (some (zs (n * 64))))
 simp[secsD,secs_zs]
theorem look_redo {n:Nat}:∀ {L:List Wr} {C:List Disk},OkC n C->(∀ l ∈ L,OkW n C l)->∀ {d k:Nat} {xs:List Nat},C[d]?=some (some xs)->k < n->look (redo C L) d k=RA.last (L.map flOf) d k (sec xs k):=by
 intro L
 induction L with
 | nil=>intro C _ _ d k xs hx _;exact look_at k hx
 | cons l r ih =>
   intro C hC hL d k xs hx hk
   have hl:=hL l (List.mem_cons_self ..)
   have hC':=hC.lay (d:=l.d) hl.k hl.now hl.nowS
   have hL':∀ y ∈ r,OkW n (lay C l.d l.k l.now) y:=fun y hy=>(hL y (List.mem_cons_of_mem _ hy)).lay _ _ _
   obtain⟨hxl,_⟩:=hC d xs hx
   have hf:=fits hk
   have hfl:=fits hl.k
   show look (redo (lay C l.d l.k l.now) r) d k=RA.last (r.map flOf) d k (if l.d=d/\l.k=k then l.now else sec xs k)
   by_cases c:l.d=d
   ·have hx':(lay C l.d l.k l.now)[d]?=some (some (put xs l.k l.now)):=by rw[<- c] at hx ⊢;exact lay_at _ _ hx
    rw[ih hC' hL' hx' hk]
    congr 1
    by_cases c2:l.k=k
    ·rw[if_pos ⟨c,c2⟩,<- c2,sec_put_same hl.now (by omega)]
    ·rw[if_neg (fun h=>c2 h.2),sec_put_ne hl.now (by omega) (Ne.symm c2)]
   ·have hx':(lay C l.d l.k l.now)[d]?=some (some xs):=by rw[lay_ne _ _ (Ne.symm c)];exact hx
    rw[ih hC' hL' hx' hk,if_neg (fun h=>c h.1)]
theorem Sim.read {R:Raw} {A:RA} (h:Sim R A) (d k:Int):A.read d k=(if R.reach d k=0 then look R.C d.toNat k.toNat else []):=by
 unfold RA.read
 rw[h.why]
 by_cases hr:R.reach d k=0
 ·rw[if_pos hr,if_pos hr]
  obtain⟨_,_,_,hk0,hk,xs,hx⟩:=reach_zero hr
  obtain⟨u1,u2⟩:=h.ok.C.undo h.ok.L 0
  have hs:((undoTo R.C R.L 0).getD d.toNat none).isSome=true:=by rw[undo_on];simp[List.getD,hx]
  obtain⟨ys,hy⟩:∃ ys,(undoTo R.C R.L 0)[d.toNat]?=some (some ys):=by
   simp only[List.getD] at hs
   cases hq:(undoTo R.C R.L 0)[d.toNat]? with
   | none=>simp[hq] at hs
   | some o=>cases o with
     | none=>simp[hq] at hs
     | some ys=>exact⟨ys,rfl⟩
  have hkn:k.toNat < R.n:=by omega
  have e:((A.D.getD d.toNat none).getD []).getD k.toNat []=sec ys k.toNat:=by
   rw[h.D]
   simp only[List.getD,secsD_get,hy]
   simp[secs_get hkn]
  rw[e,h.L,<- look_redo u1 u2 hy hkn,h.redo]
 ·rw[if_neg hr,if_neg hr]
theorem Sim.ons {R:Raw} {A:RA} (h:Sim R A):A.ons=R.ons:=by
 have key:∀ (D:List (Option (List (List Nat)))) (C:List Disk),D.length=C.length->(∀ e,(D.getD e none).isSome=(C.getD e none).isSome)->D.countP (·.isSome)=C.countP (·.isSome):=by
  intro D
  induction D with
  | nil=>intro C hl _;cases C with
    | nil=>rfl
    | cons _ _=>simp at hl
  | cons x r ih =>
    intro C hl he
    cases C with
    | nil=>simp at hl
    | cons y s =>
      have h0:=he 0
      simp at h0
      have hr:=ih s (by simpa using hl) (fun e=>by have:=he (e+1);simpa using this)
      simp only[List.countP_cons,hr,h0]
 exact key _ _ h.len h.isSome
end AM
open Go.RowKit
namespace AM.RA
def Fit (A:RA):Prop:=∀ l ∈ A.L,(A.D.getD l.d none).isSome=true/\l.k < A.n
def laid (A:RA) (q:Nat):RA:={ A with D:=(A.L.take q).foldl (fun D l=>rlay D l.d l.k l.b) A.D }
end AM.RA
theorem rlay_on (D:List (Option (List (List Nat)))) (d k:Nat) (b:List Nat) (e:Nat):((AM.rlay D d k b).getD e none).isSome=(D.getD e none).isSome:=by
 unfold AM.rlay
 by_cases h:d=e
 ·subst h
  by_cases hl:d < D.length
  ·simp[List.getD,hl]
  ·simp[List.getD,hl]
 ·simp only[List.getD]
  rw[List.getElem?_set_ne h]
theorem rlays_on (L:List AM.Fl):∀ (D:List (Option (List (List Nat)))) (e:Nat),((L.foldl (fun D l=>AM.rlay D l.d l.k l.b) D).getD e none).isSome=(D.getD e none).isSome:=by
 induction L with
 | nil=>intro D e;rfl
 | cons l r ih=>intro D e;simp only[List.foldl_cons];rw[ih,rlay_on]
theorem laid_step {A:AM.RA} {q:Nat} (hq:q < A.L.length):A.laid (q+1)={ A.laid q with D:=AM.rlay (A.laid q).D A.L[q].d A.L[q].k A.L[q].b }:=by
 simp only[AM.RA.laid]
 rw[List.take_succ_eq_append_getElem hq,List.foldl_append]
 rfl
theorem some_of {α:Type} {D:List (Option α)} {e:Nat} (h:(D.getD e none).isSome=true):∃ x,D[e]?=some (some x):=by
 simp only[List.getD] at h
 cases hq:D[e]? with
 | none=>simp[hq] at h
 | some o=>cases o with
   | none=>simp[hq] at h
   | some x=>exact⟨x,rfl⟩
theorem rlay_at {D:List (Option (List (List Nat)))} {d:Nat} {ss:List (List Nat)} (h:D[d]?=some (some ss)) (k:Nat) (b:List Nat):AM.rlay D d k b=D.set d (some (ss.set k b)):=by
 unfold AM.rlay
 simp[List.getD,h]
section
variable {G:Nat->Prop} {w:World} {r:Nat} {A:AM.RA}
theorem RL.ready {dp:Option Addr} {dc:Nat} {ds:List Value} {lp:Option Addr} {lc:Nat} {fs:List Value} (h:RL G w r dp dc ds lp lc fs A) {q:Nat} (hq:q < A.L.length) (hon:(A.D.getD (A.L[q]'hq).d none).isSome=true) (hk:(A.L[q]'hq).k < A.n) :
 ∃ (dg lg sg c:Nat) (u ov:Value),dp=some ⟨dg,0,none⟩/\lp=some ⟨lg,0,none⟩/\(A.L[q]'hq).d < A.D.length/\w.cell? ⟨r,0,none⟩=some (.slice (some ⟨dg,0,none⟩) A.D.length dc)/\w.cell? ⟨r,2,none⟩=some (.slice (some ⟨lg,0,none⟩) A.L.length lc) /\
   w.cell? ⟨lg,q * 3,none⟩=some (.int .i64 ((A.L[q]'hq).d:Int))/\w.cell? ⟨lg,q * 3+1,none⟩=some (.int .i64 ((A.L[q]'hq).k:Int))/\w.cell? ⟨lg,q * 3+2,none⟩=some u/\w.cell? ⟨dg,(A.L[q]'hq).d * 2,none⟩=some (.slice (some ⟨sg,0,none⟩) A.n c) /\
   w.cell? ⟨sg,(A.L[q]'hq).k,none⟩=some ov/\w.frozen? ⟨sg,(A.L[q]'hq).k,none⟩=false/\Vec w u (A.L[q]'hq).b/\G sg/\r ≠ sg/\lg ≠ sg/\dg ≠ sg /\
   (∀ (w1:World) (u1:Value),w.grownBy w1 none->Own w.heap.size w1 u1 (A.L[q]'hq).b->(∃ G',RIs G' (w1.setCell ⟨sg,(A.L[q]'hq).k,none⟩ u1) r { A with D:=AM.rlay A.D (A.L[q]'hq).d (A.L[q]'hq).k (A.L[q]'hq).b }/\Step G w G' (w1.setCell ⟨sg,(A.L[q]'hq).k,none⟩ u1))):=by
 obtain⟨ss,hss⟩:=some_of hon
 have hdl:(A.L[q]'hq).d < A.D.length:=(List.getElem?_eq_some_iff.1 hss).1
 obtain⟨c0,_,c2,_,_⟩:=h.topCells
 obtain⟨dg,v,rfl,hv,e0,_,cd,hcd⟩:=h.disk hdl
 obtain⟨lg,u,rfl,_,f0,f1,f2,hu,cl,hcl⟩:=h.flight hq
 obtain⟨sg,c,ov,b,rfl,co,fo,_,_,hsg,cs,hcs⟩:=h.place hv hss hk
 refine⟨dg,lg,sg,c,u,ov,rfl,rfl,hdl,c0,c2,f0,f1,f2,e0,co,fo,hu.vec,hsg,ne_ty h.top hcs (by decide),ne_ty hcl hcs (by decide),ne_ty hcd hcs (by decide),fun w1 u1 g1 hu1=>?_⟩
 refine⟨_,by rw[rlay_at hss];exact (h.laid g1 hv hss hk hu1).is,⟨⟨g1.os,g1.tape,g1.output,by simpa using g1.size,fun i hi hn=>?_⟩,fun i hi=>?_⟩⟩
 ·rw[Below.heap_setCell _ _ _ _ (by intro e;have e:i=sg:=e;rw[e] at hn;exact hn hsg)]
  exact g1.block i hi (by simp)
 ·rcases hi with hi | hi
  ·exact .inl hi
  ·exact .inr (rows_blk hu1.row hi).1
theorem RL.gone {dp:Option Addr} {dc:Nat} {ds:List Value} {lp:Option Addr} {lc:Nat} {fs:List Value} (h:RL G w r dp dc ds lp lc fs A):RL G (w.setCell ⟨r,2,none⟩ (.slice none 0 0)) r dp dc ds none 0 [] { A with L:=[] } :=
 h.flown (old:=none) (fun _ h=>h) h.lt (World.grownBy.refl w none) (fun g e=>by cases e) (L':=[]) (fs':=[]) (lp':=none) (lc':=0) (World.ownsRow_nil w 0 138 3) rfl (fun g hg=>by cases hg) (fun i u x hu=>by simp at hu) rfl
theorem laid_len (A:AM.RA) (q:Nat):(A.laid q).D.length=A.D.length:=by
 unfold AM.RA.laid
 generalize A.L.take q=Z
 simp only
 induction Z generalizing A with
 | nil=>rfl
 | cons l r ih=>simp only[List.foldl_cons];have:=ih { A with D:=AM.rlay A.D l.d l.k l.b };simp only at this;rw[this];simp[AM.rlay]
set_option maxHeartbeats 3200000 in
set_option maxRecDepth 100000 in
theorem rbarrier_any (h:RIs G w r A) (hfit:A.Fit) (hL:A.L.length<=1000000):Calls Tryz.prog 41 #[rptr r] w fun e w'=>e=.returned (.int .i64 (A.barrier.1:Int))/\∃ G',RIs G' w' r A.barrier.2/\Step G w G' w':=by
 have HI:Hid (RIs G w r A):=h
 obtain⟨dp,dc,ds,lp,lc,fs,hrl⟩:=h
 obtain⟨_,_,_,_,c4⟩:=hrl.topCells
 clear hrl
 cases hd:A.dark with
 | true =>
   rw[hd] at c4
   have HV:Hid (A.barrier=(8,A)):=by show _=_;simp[AM.RA.barrier,hd]
   clear hd hfit
   go_enter Tryz.func41,Tryz.ntmps41
   go_wp2
   go_ret
   exact⟨by rw[HV.out];rfl,G,by rw[HV.out];exact HI.out,Step.refl G w⟩
 | false =>
   rw[hd] at c4
   have hgo:=rgoes_yes HI.out hd
   cases hbu:A.burns with
   | true =>
     rw[hbu] at hgo
     have HGO:Hid (Calls Tryz.prog 91 #[rptr r] w fun e w'=>e=.returned (.bool true)/\RIs G w' r A.burnt/\Step G w G w'):=hgo
     have HV:Hid (A.barrier=(8,A.burnt)):=by show _=_;simp[AM.RA.barrier,hd,hbu]
     clear hd hfit hgo hbu
     go_enter Tryz.func41,Tryz.ntmps41
     go_wp2_with (go_at_call 91;refine HGO.out.mono ?_;rintro e w1 ⟨rfl,hi1,hs1⟩;have HI1:Hid (RIs G w1 r A.burnt/\Step G w G w1):=⟨hi1,hs1⟩;clear hi1 hs1)
     go_ret
     exact⟨by rw[HV.out];rfl,G,by rw[HV.out];exact HI1.out.1,HI1.out.2⟩
   | false =>
     rw[hbu] at hgo
     have HGO:Hid (Calls Tryz.prog 91 #[rptr r] w fun e w'=>e=.returned (.bool false)/\RIs G w' r A.burnt/\Step G w G w'):=hgo
     obtain⟨b1,b2,b3⟩:=AM.rburnt_D A
     have HV:Hid (A.barrier=(0,{ A.burnt.laid A.burnt.L.length with L:=[] })):=by
      show _=_
      simp[AM.RA.barrier,hd,hbu,AM.RA.laid,b1,b3]
     have HFIT:Hid (A.burnt.Fit):=fun l hl=>by rw[b1,b2];exact hfit l (by rw[<- b3];exact hl)
     rw[<- b3] at hL
     obtain⟨A1,hA1⟩:∃ A1,A1=A.burnt:=⟨_,rfl⟩
     rw[<- hA1] at HGO HV HFIT hL
     obtain⟨M,hM⟩:∃ M,M=A1.L.length:=⟨_,rfl⟩
     obtain⟨N,hN⟩:∃ N,N=A1.D.length:=⟨_,rfl⟩
     have HM:Hid (M=A1.L.length):=hM
     have HN:Hid (N=A1.D.length):=hN
     rw[<- hM] at hL
     clear hd hfit hgo hbu b1 b2 b3 hA1 hM hN
     go_enter Tryz.func41,Tryz.ntmps41
     go_wp2_with (go_at_call 91;refine HGO.out.mono ?_;rintro e w1 ⟨rfl,hi1,hs1⟩;have HI1:Hid (RIs G w1 r A1/\Step G w G w1):=⟨hi1,hs1⟩;clear hi1 hs1)
     have HD2:Hid (N<=255):=by
      obtain⟨dp,dc,ds,lp,lc,fs,h1⟩:=HI1.out.1
      show _<=_
      rw[HN.out];exact h1.d2
     go_loopw [3] (fun ti wr=>∃ q:Nat,q<=M/\ti=.int .i64 (q:Int)/\Hid (∃ G',RIs G' wr r (A1.laid q)/\Step G w G' wr)) (fun ti _=>M - (intOf ti).toNat)
     case atStart=>exact⟨0,by omega,rfl,G,HI1.out.1,HI1.out.2⟩
     case round =>
      clear HI1
      obtain⟨q,hq,rfl,HX⟩:=hrel
      by_cases hlt:q < M
      ·have i1:(q:Int) < (M:Int):=by omega
       have hN255:=HD2.out
       obtain⟨Gq,hri,hst⟩:=HX.out
       obtain⟨dp,dc,ds,lp,lc,fs,hrl⟩:=hri
       have hql:q < A1.L.length:=by rw[<- HM.out];exact hlt
       obtain⟨hon,hkn⟩:=HFIT.out A1.L[q] (List.getElem_mem hql)
       obtain⟨dg,lg,sg,c,u,ov,rfl,rfl,hdN,z0,z2,z3,z4,z5,z6,zc,zf,zv,hsg,n1,n2,n3,hfin⟩:=hrl.ready (A:=A1.laid q) (q:=q) hql (by show ((A1.laid q).D.getD A1.L[q].d none).isSome=true;unfold AM.RA.laid;simp only;rw[rlays_on];exact hon) hkn
       have HNXT:Hid (∀ (w1:World) (u1:Value),wr.grownBy w1 none->Own wr.heap.size w1 u1 A1.L[q].b->∃ G',RIs G' (w1.setCell ⟨sg,A1.L[q].k,none⟩ u1) r (A1.laid (q+1))/\Step G w G' (w1.setCell ⟨sg,A1.L[q].k,none⟩ u1)):=fun w1 u1 g hu1=>by
        obtain⟨G',a1,a2⟩:=hfin w1 u1 g hu1
        exact⟨G',(by rw[laid_step hql];exact a1),hst.trans a2⟩
       have hDl:(A1.laid q).D.length=N:=by rw[HN.out];exact laid_len A1 q
       have hLl:A1.L.length=M:=HM.out.symm
       obtain⟨pu,nu,mu,rfl,hnu⟩:=zv.opened
       clear hnu
       have s0:wr.cell? ⟨r,0,none⟩=some (.slice (some ⟨dg,0,none⟩) N dc):=by rw[<- hDl];exact z0
       have s2:wr.cell? ⟨r,2,none⟩=some (.slice (some ⟨lg,0,none⟩) M lc):=by rw[<- hLl];exact z2
       have s3:wr.cell? ⟨lg,q * 3,none⟩=some (.int .i64 (A1.L[q].d:Int)):=z3
       have s4:wr.cell? ⟨lg,q * 3+1,none⟩=some (.int .i64 (A1.L[q].k:Int)):=z4
       have s5:wr.cell? ⟨lg,q * 3+2,none⟩=some (.slice pu nu mu):=z5
       have s6:wr.cell? ⟨dg,A1.L[q].d * 2,none⟩=some (.slice (some ⟨sg,0,none⟩) A1.n c):=z6
       have co:wr.cell? ⟨sg,A1.L[q].k,none⟩=some ov:=zc
       have fo:wr.frozen? ⟨sg,A1.L[q].k,none⟩=false:=zf
       have hvu:Vec wr (.slice pu nu mu) A1.L[q].b:=zv
       clear z0 z2 z3 z4 z5 z6 zc zf zv
       have hdD:A1.L[q].d < N:=by rw[<- hDl];exact hdN
       have HSLT:Hid (sg < wr.heap.size):=hrl.lt sg hsg
       have HBF:Hid (wr.heap[sg]?=wr.heap[sg]?):=rfl
       have HB:Hid (Vec wr (.slice pu nu mu) A1.L[q].b):=hvu
       generalize A1.L[q].d=D at *
       generalize A1.L[q].k=K at *
       generalize A1.L[q].b=B at *
       obtain⟨n,hn⟩:∃ n,n=A1.n:=⟨_,rfl⟩
       rw[<- hn] at s6 hkn
       have hn4:n<=4096:=by rw[hn];exact hrl.n2
       clear hn
       have kn:(K:Int) < (n:Int):=by omega
       have dn:(D:Int) < (N:Int):=by omega
       have HS:Hid (wr.cell? ⟨r,0,none⟩=some (.slice (some ⟨dg,0,none⟩) N dc)/\wr.cell? ⟨r,2,none⟩=some (.slice (some ⟨lg,0,none⟩) M lc)/\wr.cell? ⟨lg,q * 3,none⟩=some (.int .i64 (D:Int))/\wr.cell? ⟨lg,q * 3+1,none⟩=some (.int .i64 (K:Int))/\wr.cell? ⟨lg,q * 3+2,none⟩=some (.slice pu nu mu)/\wr.cell? ⟨dg,D * 2,none⟩=some (.slice (some ⟨sg,0,none⟩) n c)):=⟨s0,s2,s3,s4,s5,s6⟩
       have HSK:Hid (∀ W,wr.grownBy W none->W.cell? ⟨r,0,none⟩=some (.slice (some ⟨dg,0,none⟩) N dc)/\W.cell? ⟨r,2,none⟩=some (.slice (some ⟨lg,0,none⟩) M lc)/\W.cell? ⟨lg,q * 3,none⟩=some (.int .i64 (D:Int))/\W.cell? ⟨lg,q * 3+1,none⟩=some (.int .i64 (K:Int))/\W.cell? ⟨lg,q * 3+2,none⟩=some (.slice pu nu mu)/\W.cell? ⟨dg,D * 2,none⟩=some (.slice (some ⟨sg,0,none⟩) n c)):=fun W g=>⟨g.cell s0 (by simp),g.cell s2 (by simp),g.cell s3 (by simp),g.cell s4 (by simp),g.cell s5 (by simp),g.cell s6 (by simp)⟩
       have HSS:Hid (∀ (W:World) (v:Value),wr.grownBy W none->(W.setCell ⟨sg,K,none⟩ v).cell? ⟨r,0,none⟩=some (.slice (some ⟨dg,0,none⟩) N dc)/\(W.setCell ⟨sg,K,none⟩ v).cell? ⟨r,2,none⟩=some (.slice (some ⟨lg,0,none⟩) M lc)/\(W.setCell ⟨sg,K,none⟩ v).cell? ⟨lg,q * 3,none⟩=some (.int .i64 (D:Int))/\(W.setCell ⟨sg,K,none⟩ v).cell? ⟨lg,q * 3+1,none⟩=some (.int .i64 (K:Int))/\(W.setCell ⟨sg,K,none⟩ v).cell? ⟨lg,q * 3+2,none⟩=some (.slice pu nu mu)/\(W.setCell ⟨sg,K,none⟩ v).cell? ⟨dg,D * 2,none⟩=some (.slice (some ⟨sg,0,none⟩) n c)):=fun W v g=>by
        obtain⟨a1,a2,a3,a4,a5,a6⟩:=HSK.out W g
        exact⟨by rw[World.cell?_setCell_far _ _ _ _ (Ne.symm n1)];exact a1,by rw[World.cell?_setCell_far _ _ _ _ (Ne.symm n1)];exact a2,by rw[World.cell?_setCell_far _ _ _ _ (Ne.symm n2)];exact a3,by rw[World.cell?_setCell_far _ _ _ _ (Ne.symm n2)];exact a4,by rw[World.cell?_setCell_far _ _ _ _ (Ne.symm n2)];exact a5,by rw[World.cell?_setCell_far _ _ _ _ (Ne.symm n3)];exact a6⟩
       have HCF:Hid (∀ W,wr.grownBy W none->W.cell? ⟨sg,K,none⟩=some ov/\W.frozen? ⟨sg,K,none⟩=false):=fun W g=>⟨g.cell co (by simp),by rw[World.frozen?_of_block (w:=wr) (g.block sg HSLT.out (by simp))];exact fo⟩
       clear hrl hfin hvu hsg s0 s3 s4 s5 s6 co fo n1 n2 n3 hst HX hon HBF hDl hLl hdN
       go_wp2_with fail
       go_region_held3 (fun w'=>w'.cell? ⟨r,0,none⟩=some (.slice (some ⟨dg,0,none⟩) N dc)/\w'.cell? ⟨r,2,none⟩=some (.slice (some ⟨lg,0,none⟩) M lc)/\w'.cell? ⟨lg,q * 3,none⟩=some (.int .i64 (D:Int))/\w'.cell? ⟨lg,q * 3+1,none⟩=some (.int .i64 (K:Int))/\w'.cell? ⟨lg,q * 3+2,none⟩=some (.slice pu nu mu)/\w'.cell? ⟨dg,D * 2,none⟩=some (.slice (some ⟨sg,0,none⟩) n c)) (first | exact HS.out | exact HSK.out _ (by first | exact World.grownBy.refl _ _ | exact gb_drew (World.grownBy.refl _ _) | exact gb_drew (gb_drew (World.grownBy.refl _ _))) | exact HSK.out _ HGF.out | exact HSK.out _ (gb_drew HGF.out) | exact HSS.out _ _ HGF.out | exact HSS.out _ _ (gb_drew HGF.out))
        ((go_at_call 92;refine (own_any (HB.out.keep (by first | exact World.grownBy.refl _ _ | exact gb_drew (World.grownBy.refl _ _) | exact gb_drew (gb_drew (World.grownBy.refl _ _))))).mono ?_;rintro e w8 ⟨p8,n8,c8,rfl,ho8,hg8⟩;have HGF:Hid (wr.grownBy w8 none):=grown_trans (by first | exact World.grownBy.refl _ _ | exact gb_drew (World.grownBy.refl _ _) | exact gb_drew (gb_drew (World.grownBy.refl _ _))) hg8;have co:=(HCF.out _ HGF.out).1;have fo:=(HCF.out _ HGF.out).2;have HX9:Hid (∃ G',RIs G' (w8.setCell ⟨sg,K,none⟩ (.slice p8 n8 c8)) r (A1.laid (q+1))/\Step G w G' (w8.setCell ⟨sg,K,none⟩ (.slice p8 n8 c8))):=HNXT.out _ _ HGF.out ho8;clear ho8 hg8))
       have HX10:Hid (∃ G',RIs G' (w8.setCell ⟨sg,K,none⟩ (.slice p8 n8 c8)).drew r (A1.laid (q+1))/\Step G w G' (w8.setCell ⟨sg,K,none⟩ (.slice p8 n8 c8)).drew):=by
        obtain⟨G',a1,a2⟩:=HX9.out
        exact⟨G',a1.keep (grown_drewN _ 1),a2.trans (Step.new (grown_drewN _ 1))⟩
       go_wp2
       go_roundw
       case rel=>exact⟨q+1,by omega,by go_num,by first | exact HX9 | exact HX10⟩
       case measure=>simp[intOf];omega
      ·have i1:¬ (q:Int) < (M:Int):=by omega
       obtain rfl:q=M:=by omega
       obtain⟨Gq,hri,hst⟩:=HX.out
       obtain⟨dp,dc,ds,lp,lc,fs,hrl⟩:=hri
       obtain⟨_,_,z2,_,_⟩:=hrl.topCells
       have s2:wr.cell? ⟨r,2,none⟩=some (.slice lp q lc):=by rw[HM.out];exact z2
       clear z2
       have f2:=topFrozen 2 hrl.top
       have HF:Hid (RIs Gq (wr.setCell ⟨r,2,none⟩ (.slice none 0 0)) r A.barrier.2/\Step G w Gq (wr.setCell ⟨r,2,none⟩ (.slice none 0 0))):=⟨by rw[HV.out,<- HM.out];exact hrl.gone.is,hst.trans (Step.of (grown_set_a wr r 2 _) (fun i e=>by obtain rfl:=Option.some.inj e;exact hrl.Gr))⟩
       have HV0:Hid (A.barrier.1=0):=by rw[HV.out];exact rfl
       clear hrl hst HX HV
       go_wp2
       go_ret
       exact⟨by rw[HV0.out];rfl,Gq,HF.out⟩
end
theorem last_step (L:List AM.Fl) (d k:Nat) (b:List Nat) {i:Nat} (hi:i < L.length):AM.RA.last (L.take (i+1)) d k b=if L[i].d=d/\L[i].k=k then L[i].b else AM.RA.last (L.take i) d k b:=by
 unfold AM.RA.last
 rw[List.take_succ_eq_append_getElem hi,List.foldl_append]
 rfl
theorem rwhy_zero {A:AM.RA} {d k:Int} (h:A.why d k=0):A.dark=false/\0<=d/\d < A.D.length/\0<=k/\k < A.n/\∃ ss,A.D[d.toNat]?=some (some ss):=by
 unfold AM.RA.why at h
 cases hd:A.dark with
 | true=>rw[hd] at h;simp at h
 | false =>
   rw[hd] at h
   simp only[Bool.false_eq_true,if_false] at h
   by_cases c:0<=d/\d < A.D.length/\0<=k/\k < A.n
   ·rw[if_pos c] at h
    refine⟨rfl,c.1,c.2.1,c.2.2.1,c.2.2.2,?_⟩
    simp only[List.getD] at h
    cases hq:A.D[d.toNat]? with
    | none=>simp[hq] at h
    | some o=>cases o with
      | none=>simp[hq] at h
      | some ss=>exact⟨ss,rfl⟩
   ·rw[if_neg c] at h;simp at h
section
variable {G:Nat->Prop} {w:World} {r:Nat} {A:AM.RA}
set_option maxHeartbeats 800000 in
theorem rread_any (h:RIs G w r A) (hL:A.L.length<=1000000) (d k:Int):Calls Tryz.prog 54 #[rptr r,.int .i64 d,.int .i64 k] w fun e w'=>∃ p n c,e=.returned (.tuple #[.slice p n c,.int .i64 (A.why d k:Int)])/\Own w.heap.size w' (.slice p n c) (A.read d k)/\w.grownBy w' none:=by
 have HC:Hid (Calls Tryz.prog 97 #[rptr r,.int .i64 d,.int .i64 k] w fun e w'=>e=.returned (.int .i64 (A.why d k:Int))/\w'=w):=rwhy_yes h d k
 by_cases hr:A.why d k=0
 ·obtain⟨_,d1,d2,k1,k2,ss,hss⟩:=rwhy_zero hr
  obtain⟨i,rfl⟩:∃ n:Nat,d=(n:Int):=⟨d.toNat,by omega⟩
  obtain⟨j,rfl⟩:∃ n:Nat,k=(n:Int):=⟨k.toNat,by omega⟩
  have HRD:Hid (A.read (i:Int) (j:Int)=AM.RA.last (A.L.take A.L.length) i j (ss.getD j [])):=by
   show _=_
   unfold AM.RA.read
   rw[if_pos hr,List.take_length]
   simp only[Int.toNat_natCast] at hss ⊢
   congr 1
   simp[List.getD,hss]
  rw[hr] at HC
  rw[Int.toNat_natCast] at hss
  have hil:i < A.D.length:=by omega
  obtain⟨dp,dc,ds,lp,lc,fs,h⟩:=h
  have H:Hid (RL G w r dp dc ds lp lc fs A):=h
  obtain⟨c0,_,c2,_,_⟩:=h.topCells
  obtain⟨dg,v,rfl,hv,e0,hx1,hx2⟩:=h.disk hil
  clear hx1 hx2
  obtain⟨sg,cs,u,b,rfl,cu,_,hb,hu,_,_⟩:=h.place (k:=j) hv hss (by omega)
  have hb':ss.getD j []=b:=by simp[List.getD,hb]
  rw[hb'] at HRD
  obtain⟨pu,nu,mu,rfl,hnu⟩:=hu.vec.opened
  have HU:Hid (Vec w (.slice pu nu mu) b):=hu.vec
  have HY:Hid (A.why (i:Int) (j:Int)=0):=hr
  have hD2:=h.d2
  have hn2:=h.n2
  obtain⟨N,hN⟩:∃ N,N=A.D.length:=⟨_,rfl⟩
  obtain⟨M,hM⟩:∃ M,M=A.L.length:=⟨_,rfl⟩
  obtain⟨n,hn⟩:∃ n,n=A.n:=⟨_,rfl⟩
  have HM:Hid (M=A.L.length):=hM
  rw[<- hN] at c0 hD2 d2
  rw[<- hM] at c2 hL
  rw[<- hn] at e0 hn2 k2
  clear h hr hss hv hb hu hnu hb' hil hN hM hn
  go_enter Tryz.func54,Tryz.ntmps54
  go_wp2_with (go_at_call 97;refine HC.out.mono ?_;rintro e w1 ⟨rfl,hw⟩;obtain rfl:=hw.symm;clear hw)
  go_loop [9,10] (fun tb ti=>∃ (q:Nat) (p:Option Addr) (m c:Nat),q<=M/\ti=.int .i64 (q:Int)/\tb=.slice p m c/\Hid (Vec w (.slice p m c) (AM.RA.last (A.L.take q) i j b))) (fun _ ti=>M - (intOf ti).toNat)
  case atStart=>exact⟨0,_,_,_,by omega,rfl,rfl,HU⟩
  case round =>
   obtain⟨q,p,m,c,hq,rfl,rfl,HV⟩:=hrel
   by_cases hlt:q < M
   ·have i1:(q:Int) < (M:Int):=by omega
    have hql:q < A.L.length:=by rw[<- HM.out];exact hlt
    have hst:=last_step A.L i j b hql
    obtain⟨lg,u2,rfl,_,f0,f1,f2,hu2,_⟩:=H.out.flight hql
    obtain⟨p2,n2,m2,rfl,hz2⟩:=hu2.vec.opened
    clear hz2
    have HU2:Hid (Vec w (.slice p2 n2 m2) A.L[q].b):=hu2.vec
    generalize A.L[q].d=D at *
    generalize A.L[q].k=K at *
    by_cases g1:D=i
    ·by_cases g2:K=j
     ·subst g1
      subst g2
      have HV2:Hid (Vec w (.slice p2 n2 m2) (AM.RA.last (A.L.take (q+1)) D K b)):=by rw[hst,if_pos ⟨rfl,rfl⟩];exact HU2
      clear hst hu2
      go_wp2
      go_round
      case rel=>exact⟨q+1,p2,n2,m2,by omega,by go_num,rfl,HV2⟩
      case measure=>simp[intOf];omega
     ·subst g1
      have i3:¬ (K:Int)=(j:Int):=by omega
      have HV2:Hid (Vec w (.slice p m c) (AM.RA.last (A.L.take (q+1)) D j b)):=by rw[hst,if_neg (fun h=>g2 h.2)];exact HV
      clear hst hu2
      go_wp2
      go_round
      case rel=>exact⟨q+1,p,m,c,by omega,by go_num,rfl,HV2⟩
      case measure=>simp[intOf];omega
    ·have i2:¬ (D:Int)=(i:Int):=by omega
     have HV2:Hid (Vec w (.slice p m c) (AM.RA.last (A.L.take (q+1)) i j b)):=by rw[hst,if_neg (fun h=>g1 h.1)];exact HV
     clear hst hu2
     go_wp2
     go_round
     case rel=>exact⟨q+1,p,m,c,by omega,by go_num,rfl,HV2⟩
     case measure=>simp[intOf];omega
   ·have i1:¬ (q:Int) < (M:Int):=by omega
    obtain rfl:q=M:=by omega
    have HV2:Hid (Vec w (.slice p m c) (A.read (i:Int) (j:Int))):=by rw[HRD.out,<- HM.out];exact HV
    go_wp2_with (go_at_call 92;refine (own_any HV2.out).mono ?_;rintro e w9 ⟨p9,n9,c9,rfl,ho,hg⟩;have HO:Hid (Own w.heap.size w9 (.slice p9 n9 c9) (A.read (i:Int) (j:Int))/\w.grownBy w9 none):=⟨ho,hg⟩;clear ho hg)
    go_ret2
    exact⟨p9,n9,c9,by rw[HY.out];rfl,HO.out⟩
 ·have HRD:Hid (A.read d k=[]):=by show _=_;unfold AM.RA.read;rw[if_neg hr]
  have hne:¬ (A.why d k:Int)=0:=by omega
  clear h hr
  generalize (A.why d k:Int)=z at *
  go_enter Tryz.func54,Tryz.ntmps54
  go_wp2_with (go_at_call 97;refine HC.out.mono ?_;rintro e w1 ⟨rfl,hw⟩;obtain rfl:=hw.symm;clear hw)
  go_ret2
  exact⟨none,0,0,rfl,by rw[HRD.out];exact Own.nil _ _,World.grownBy.refl _ _⟩
end
end Go.Proofs.YtaalagkbpeinkaaGreat
