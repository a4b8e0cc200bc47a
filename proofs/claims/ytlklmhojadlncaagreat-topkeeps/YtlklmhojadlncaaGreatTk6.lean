/- Packed: AMath, Rep6. -/
import Init
import Derived.Deep.MidRow
import Derived.Test.YtlklmhojadlncaaGreatTk5
set_option linter.unusedSimpArgs false
set_option linter.unusedVariables false
set_option maxRecDepth 100000
namespace Go.Proofs.YtlklmhojadlncaaGreat
namespace AM
def put (xs:List Nat) (k:Nat) (b:List Nat):List Nat:=xs.take (k * 64)++b++xs.drop (k * 64+b.length)
def sec (xs:List Nat) (k:Nat):List Nat:=(xs.drop (k * 64)).take 64
theorem put_len {xs b:List Nat} {k:Nat} (h:k * 64+b.length<=xs.length):(put xs k b).length=xs.length:=by
 simp[put];omega
theorem sec_len {xs:List Nat} {k:Nat} (h:k * 64+64<=xs.length):(sec xs k).length=64:=by
 simp[sec];omega
theorem put_get {xs b:List Nat} {k:Nat} (h:k * 64+b.length<=xs.length) (i:Nat):(put xs k b)[i]?=if k * 64<=i/\i < k * 64+b.length then b[i - k * 64]? else xs[i]?:=by
 unfold put
 have l1:(xs.take (k * 64)).length=k * 64:=by simp;omega
 by_cases h1:i < k * 64
 ·rw[if_neg (by omega),List.append_assoc,List.getElem?_append_left (by omega),List.getElem?_take,if_pos h1]
 ·rw[List.append_assoc,List.getElem?_append_right (by omega),l1]
  by_cases h2:i < k * 64+b.length
  ·rw[if_pos ⟨by omega,h2⟩,List.getElem?_append_left (by omega)]
  ·rw[if_neg (by omega),List.getElem?_append_right (by omega),List.getElem?_drop]
   congr 1
   omega
theorem sec_get (xs:List Nat) (k i:Nat):(sec xs k)[i]?=if i < 64 then xs[k * 64+i]? else none:=by
 unfold sec
 rw[List.getElem?_take]
 split
 ·rw[List.getElem?_drop]
 ·rfl
theorem sec_put_same {xs b:List Nat} {k:Nat} (hb:b.length=64) (h:k * 64+64<=xs.length):sec (put xs k b) k=b:=by
 apply List.ext_getElem?
 intro i
 rw[sec_get,put_get (by omega)]
 split
 ·rw[if_pos (by omega)]
  congr 1
  omega
 ·rw[List.getElem?_eq_none (by omega)]
theorem sec_put_ne {xs b:List Nat} {k j:Nat} (hb:b.length=64) (h:k * 64+64<=xs.length) (ne:j ≠ k):sec (put xs k b) j=sec xs j:=by
 apply List.ext_getElem?
 intro i
 rw[sec_get,sec_get,put_get (by omega)]
 split
 ·rw[if_neg (by omega)]
 ·rfl
theorem put_put_sec {xs b:List Nat} {k:Nat} (hb:b.length=64) (h:k * 64+64<=xs.length):put (put xs k b) k (sec xs k)=xs:=by
 have hs:=sec_len h
 apply List.ext_getElem?
 intro i
 rw[put_get (by rw[hs,put_len (by omega)];exact h),put_get (by omega),hs]
 split
 ·rename_i c
  rw[sec_get,if_pos (by omega)]
  congr 1
  omega
 ·rename_i c
  rw[if_neg (by omega)]
theorem put_small {xs b:List Nat} {k:Nat} (hx:∀ x ∈ xs,x < 256) (hb:∀ x ∈ b,x < 256):∀ x ∈ put xs k b,x < 256:=by
 intro x h
 simp only[put,List.mem_append] at h
 rcases h with (h | h) | h
 ·exact hx x (List.mem_of_mem_take h)
 ·exact hb x h
 ·exact hx x (List.mem_of_mem_drop h)
theorem sec_small {xs:List Nat} (hx:∀ x ∈ xs,x < 256) (k:Nat):∀ x ∈ sec xs k,x < 256 :=
 fun x h=>hx x (List.mem_of_mem_drop (List.mem_of_mem_take h))
def zs (n:Nat):List Nat:=List.replicate n 0
theorem zs_len (n:Nat):(zs n).length=n:=by simp[zs]
theorem zs_small (n:Nat):∀ x ∈ zs n,x < 256:=fun x h=>by rw[(List.mem_replicate.1 h).2];decide
theorem fits0 {n k:Nat} (h:k < n):k * 64+64<=n * 64:=by
 have:(k+1) * 64<=n * 64:=Nat.mul_le_mul_right _ h
 omega
theorem sec_zs {n k:Nat} (h:k < n):sec (zs (n * 64)) k=zs 64:=by
 have:=fits0 h
 simp only[sec,zs,List.drop_replicate,List.take_replicate]
 congr 1
 omega
structure Wr where
 d:Nat
 k:Nat
 was:List Nat
 now:List Nat
abbrev Disk:=Option (List Nat)
def lay (C:List Disk) (d k:Nat) (b:List Nat):List Disk:=C.set d ((C.getD d none).map (fun xs=>put xs k b))
def look (C:List Disk) (d k:Nat):List Nat:=((C.getD d none).map (fun xs=>sec xs k)).getD []
theorem lay_len (C:List Disk) (d k:Nat) (b:List Nat):(lay C d k b).length=C.length:=by simp[lay]
theorem lay_at {C:List Disk} {d:Nat} (k:Nat) (b:List Nat) {xs:List Nat} (h:C[d]?=some (some xs)):(lay C d k b)[d]?=some (some (put xs k b)):=by
 have hlt:d < C.length:=(List.getElem?_eq_some_iff.1 h).1
 simp only[lay,List.getElem?_set,if_pos hlt,List.getD,h]
 simp
theorem lay_ne {C:List Disk} {d e:Nat} (k:Nat) (b:List Nat) (h:e ≠ d):(lay C d k b)[e]?=C[e]?:=by
 simp[lay,Ne.symm h]
theorem lay_on (C:List Disk) (d k:Nat) (b:List Nat) (e:Nat):((lay C d k b).getD e none).isSome=(C.getD e none).isSome:=by
 by_cases h:e=d
 ·subst h
  by_cases hlt:e < C.length
  ·simp[lay,List.getD,hlt]
  ·simp[lay,List.getD,hlt]
 ·simp only[List.getD,lay_ne k b h]
theorem look_at {C:List Disk} {d:Nat} (k:Nat) {xs:List Nat} (h:C[d]?=some (some xs)):look C d k=sec xs k:=by simp[look,List.getD,h]
def OkC (n:Nat) (C:List Disk):Prop:=∀ (d:Nat) (xs:List Nat),C[d]?=some (some xs)->xs.length=n * 64/\∀ x ∈ xs,x < 256
structure OkW (n:Nat) (C:List Disk) (l:Wr):Prop where
 on:∃ xs,C[l.d]?=some (some xs)
 k:l.k < n
 was:l.was.length=64
 now:l.now.length=64
 wasS:∀ x ∈ l.was,x < 256
 nowS:∀ x ∈ l.now,x < 256
theorem fits {n k:Nat} (h:k < n):k * 64+64<=n * 64:=by
 have:(k+1) * 64<=n * 64:=Nat.mul_le_mul_right _ h
 omega
theorem OkC.lay {n:Nat} {C:List Disk} (h:OkC n C) {d k:Nat} {b:List Nat} (hk:k < n) (hb:b.length=64) (hs:∀ x ∈ b,x < 256):OkC n (AM.lay C d k b):=by
 intro e xs he
 by_cases c:e=d
 ·subst c
  have hlt:e < C.length:=by
   have:=(List.getElem?_eq_some_iff.1 he).1
   rwa [lay_len] at this
  cases hq:C[e] with
  | none=>simp[AM.lay,List.getD,hlt,hq] at he
  | some ys =>
    have hq':C[e]?=some (some ys):=by rw[List.getElem?_eq_getElem hlt,hq]
    rw[lay_at k b hq'] at he
    obtain⟨h1,h2⟩:=h e ys hq'
    have hf:=fits hk
    injection he with he
    injection he with he
    subst he
    exact⟨by rw[put_len (by omega)];exact h1,put_small h2 hs⟩
 ·rw[lay_ne k b c] at he
  exact h e xs he
theorem on_lay {C:List Disk} {d k:Nat} {b:List Nat} {e:Nat} (h:∃ xs,C[e]?=some (some xs)):∃ xs,(lay C d k b)[e]?=some (some xs):=by
 obtain⟨xs,h⟩:=h
 by_cases c:e=d
 ·subst c;exact⟨_,lay_at k b h⟩
 ·exact⟨xs,by rw[lay_ne k b c];exact h⟩
structure Raw where
 C:List Disk
 n:Nat
 L:List Wr
 fuse:Nat
 off:Bool
structure Raw.Ok (R:Raw):Prop where
 d1:1<=R.C.length
 d2:R.C.length<=255
 n1:1<=R.n
 n2:R.n<=4096
 C:OkC R.n R.C
 L:∀ l ∈ R.L,OkW R.n R.C l
 fuse:R.fuse < 9223372036854775808
def undoTo (C:List Disk) (L:List Wr) (j:Nat):List Disk:=(L.drop j).foldr (fun l D=>lay D l.d l.k l.was) C
theorem undoTo_len (C:List Disk) (L:List Wr) (j:Nat):(undoTo C L j).length=C.length:=by
 unfold undoTo
 induction L.drop j with
 | nil=>rfl
 | cons l r ih=>simp[List.foldr,lay_len,ih]
theorem undoTo_end (C:List Disk) (L:List Wr):undoTo C L L.length=C:=by simp[undoTo]
theorem undoTo_step (C:List Disk) (L:List Wr) {j:Nat} (h:j < L.length):undoTo C L j=lay (undoTo C L (j+1)) L[j].d L[j].k L[j].was:=by
 unfold undoTo
 rw[List.drop_eq_getElem_cons h]
 rfl
def pickD (D:List Disk) (x:Wr × Nat):List Disk:=if x.2 % 2=1 then lay D x.1.d x.1.k x.1.now else D
def pickTo (C:List Disk) (L:List Wr) (ps:List Nat) (j:Nat):List Disk:=((L.zip ps).take j).foldl pickD C
theorem pickTo_step (C:List Disk) (L:List Wr) (ps:List Nat) {j:Nat} (h1:j < L.length) (h2:j < ps.length):pickTo C L ps (j+1)=pickD (pickTo C L ps j) (L[j],ps[j]):=by
 unfold pickTo
 have h:j < (L.zip ps).length:=by simp;omega
 rw[List.take_succ_eq_append_getElem h,List.foldl_append]
 simp
theorem pickD_len (D:List Disk) (x:Wr × Nat):(pickD D x).length=D.length:=by
 unfold pickD;split
 ·rw[lay_len]
 ·rfl
def crashC (C:List Disk) (L:List Wr) (ps:List Nat):List Disk:=(L.zip ps).foldl pickD (undoTo C L 0)
theorem pickTo_all (C:List Disk) (L:List Wr) (ps:List Nat):pickTo C L ps (min ps.length L.length)=(L.zip ps).foldl pickD C:=by
 unfold pickTo
 rw[List.take_of_length_le (by simp;omega)]
namespace Raw
def lay (R:Raw) (d k:Nat) (b:List Nat):Raw:={ R with C:=AM.lay R.C d k b }
def on (R:Raw) (d:Int):Bool:=decide (0<=d)&&decide (d < R.C.length)&&(R.C.getD d.toNat none).isSome
def ons (R:Raw):Nat:=R.C.countP (·.isSome)
def power (R:Raw):Nat:=if R.off then 8 else 0
def find (R:Raw) (d:Int):Nat:=if 0<=d/\d < R.C.length then 0 else 6
def reach (R:Raw) (d k:Int):Nat :=
 if R.off then 8 else if 0<=d/\d < R.C.length/\0<=k/\k < R.n then (if R.on d then 0 else 9) else 6
def burns (R:Raw):Bool:=R.fuse==1
def burnt (R:Raw):Raw:=if R.fuse=0 then R else { R with fuse:=R.fuse - 1,off:=R.fuse==1 }
def fly (R:Raw) (d k:Nat) (b:List Nat):Raw:={ R with C:=AM.lay R.C d k b,L:=R.L++[⟨d,k,look R.C d k,b⟩] }
def writes (R:Raw) (d k:Int) (b:List Nat):Nat × Raw :=
 if R.reach d k ≠ 0 then (R.reach d k,R) else if b.length ≠ 64 then (1,R) else if R.burns then (8,R.burnt) else (0,R.burnt.fly d.toNat k.toNat b)
def barrier (R:Raw):Nat × Raw:=if R.off then (8,R) else if R.burns then (8,R.burnt) else (0,{ R.burnt with L:=[] })
def lost (R:Raw) (d:Nat):Raw:={ R with C:=R.C.set d none,L:=R.L.filter (fun l=>!(l.d==d)) }
def lose (R:Raw) (d:Int):Nat × Raw:=if R.find d ≠ 0 then (R.find d,R) else if R.on d then (0,R.lost d.toNat) else (9,R)
def blank (R:Raw) (d:Nat):Raw:={ R with C:=R.C.set d (some (zs (R.n * 64))) }
def replace (R:Raw) (d:Int):Nat × Raw:=if R.find d ≠ 0 then (R.find d,R) else if R.on d then (1,R) else (0,R.blank d.toNat)
def fused (R:Raw) (n:Int):Raw:={ R with fuse:=n.toNat }
def crash (R:Raw) (ps:List Nat):Raw:=⟨crashC R.C R.L ps,R.n,[],0,false⟩
def new (d n:Nat):Raw:=⟨List.replicate d (some (zs (n * 64))),n,[],0,false⟩
end Raw
theorem on_iff {R:Raw} {d:Int} (h:R.on d=true):0<=d/\d < R.C.length/\∃ xs,R.C[d.toNat]?=some (some xs):=by
 simp only[Raw.on,Bool.and_eq_true,decide_eq_true_eq] at h
 obtain⟨⟨h1,h2⟩,h3⟩:=h
 refine⟨h1,h2,?_⟩
 have hlt:d.toNat < R.C.length:=by omega
 simp only[List.getD,List.getElem?_eq_getElem hlt,Option.getD_some] at h3
 cases hq:R.C[d.toNat] with
 | none=>simp[hq] at h3
 | some xs=>exact⟨xs,by rw[List.getElem?_eq_getElem hlt,hq]⟩
theorem reach_zero {R:Raw} {d k:Int} (h:R.reach d k=0):R.off=false/\0<=d/\d < R.C.length/\0<=k/\k < R.n/\∃ xs,R.C[d.toNat]?=some (some xs):=by
 unfold Raw.reach at h
 cases ho:R.off with
 | true=>rw[ho] at h;simp at h
 | false =>
   rw[ho] at h
   simp only[Bool.false_eq_true,if_false] at h
   by_cases c:0<=d/\d < R.C.length/\0<=k/\k < R.n
   ·rw[if_pos c] at h
    by_cases c2:R.on d=true
    ·exact⟨rfl,c.1,c.2.1,c.2.2.1,c.2.2.2,(on_iff c2).2.2⟩
    ·rw[if_neg c2] at h;simp at h
   ·rw[if_neg c] at h;simp at h
theorem OkW.lay {n:Nat} {C:List Disk} {l:Wr} (h:OkW n C l) (d k:Nat) (b:List Nat):OkW n (AM.lay C d k b) l:=⟨on_lay h.on,h.k,h.was,h.now,h.wasS,h.nowS⟩
theorem look_ok {n:Nat} {C:List Disk} (hC:OkC n C) {d k:Nat} (hd:∃ xs,C[d]?=some (some xs)) (hk:k < n):(look C d k).length=64/\∀ x ∈ look C d k,x < 256:=by
 obtain⟨xs,hd⟩:=hd
 obtain⟨h1,h2⟩:=hC d xs hd
 have hf:=fits hk
 rw[look_at k hd]
 exact⟨sec_len (by omega),sec_small h2 k⟩
theorem Raw.Ok.lay {R:Raw} (h:R.Ok) {d k:Nat} {b:List Nat} (hk:k < R.n) (hb:b.length=64) (hs:∀ x ∈ b,x < 256):(R.lay d k b).Ok :=
 ⟨by simpa [Raw.lay,lay_len] using h.d1,by simpa [Raw.lay,lay_len] using h.d2,h.n1,h.n2,h.C.lay hk hb hs,fun l hl=>(h.L l hl).lay d k b,h.fuse⟩
theorem Raw.Ok.burnt {R:Raw} (h:R.Ok):R.burnt.Ok:=by
 unfold Raw.burnt
 split
 ·exact h
 ·exact⟨h.d1,h.d2,h.n1,h.n2,h.C,h.L,by have:=h.fuse;show R.fuse - 1 < _;omega⟩
theorem Raw.Ok.fly {R:Raw} (h:R.Ok) {d k:Nat} {b:List Nat} (hd:∃ xs,R.C[d]?=some (some xs)) (hk:k < R.n) (hb:b.length=64) (hs:∀ x ∈ b,x < 256):(R.fly d k b).Ok:=by
 have h1:=h.lay (d:=d) hk hb hs
 refine⟨h1.d1,h1.d2,h1.n1,h1.n2,h1.C,fun l hl=>?_,h1.fuse⟩
 rcases List.mem_append.1 hl with hl | hl
 ·exact h1.L l hl
 ·obtain rfl:=List.mem_singleton.1 hl
  have h2:=look_ok h.C hd hk
  exact⟨on_lay hd,hk,h2.1,hb,h2.2,hs⟩
theorem set_none_at {C:List Disk} {d e:Nat} {xs:List Nat} (h:(C.set d none)[e]?=some (some xs)):e ≠ d/\C[e]?=some (some xs):=by
 by_cases c:d=e
 ·subst c
  rw[List.getElem?_set] at h
  simp at h
 ·rw[List.getElem?_set,if_neg c] at h
  exact⟨Ne.symm c,h⟩
theorem Raw.Ok.lost {R:Raw} (h:R.Ok) (d:Nat):(R.lost d).Ok:=by
 refine⟨by simpa [Raw.lost] using h.d1,by simpa [Raw.lost] using h.d2,h.n1,h.n2,fun e xs he=>h.C e xs (set_none_at he).2,fun l hl=>?_,h.fuse⟩
 obtain⟨h1,h2⟩:=List.mem_filter.1 hl
 have h3:=h.L l h1
 obtain⟨xs,hx⟩:=h3.on
 have hne:l.d ≠ d:=by simpa using h2
 exact⟨⟨xs,by show (R.C.set d none)[l.d]?=_;rw[List.getElem?_set,if_neg (Ne.symm hne)];exact hx⟩,h3.k,h3.was,h3.now,h3.wasS,h3.nowS⟩
theorem Raw.Ok.blank {R:Raw} (h:R.Ok) (d:Nat):(R.blank d).Ok:=by
 have hz:∀ (e:Nat) (xs:List Nat),(R.blank d).C[e]?=some (some xs)->xs=zs (R.n * 64)\/R.C[e]?=some (some xs):=fun e xs he=>by
  have he:(R.C.set d (some (zs (R.n * 64))))[e]?=some (some xs):=he
  by_cases c:d=e
  ·subst c
   rw[List.getElem?_set] at he
   by_cases hl:d < R.C.length
   ·simp only[if_pos hl,if_true] at he
    injection he with he
    injection he with he
    exact .inl he.symm
   ·rw[if_pos rfl,if_neg hl] at he
    cases he
  ·rw[List.getElem?_set,if_neg c] at he
   exact .inr he
 refine⟨by simpa [Raw.blank] using h.d1,by simpa [Raw.blank] using h.d2,h.n1,h.n2,fun e xs he=>?_,fun l hl=>?_,h.fuse⟩
 ·rcases hz e xs he with rfl | h1
  ·exact⟨zs_len _,zs_small _⟩
  ·exact h.C e xs h1
 ·have h3:=h.L l hl
  obtain⟨xs,hx⟩:=h3.on
  refine⟨?_,h3.k,h3.was,h3.now,h3.wasS,h3.nowS⟩
  by_cases c:d=l.d
  ·refine⟨zs (R.n * 64),?_⟩
   have hlt:d < R.C.length:=by rw[c];exact (List.getElem?_eq_some_iff.1 hx).1
   show (R.C.set d (some (zs (R.n * 64))))[l.d]?=_
   rw[List.getElem?_set,if_pos c,if_pos hlt]
  ·exact⟨xs,by show (R.C.set d (some (zs (R.n * 64))))[l.d]?=_;rw[List.getElem?_set,if_neg c];exact hx⟩
theorem OkC.undo {n:Nat} {C:List Disk} (h:OkC n C) {L:List Wr} (hL:∀ l ∈ L,OkW n C l) (j:Nat):OkC n (undoTo C L j)/\∀ l ∈ L,OkW n (undoTo C L j) l:=by
 unfold undoTo
 have hs:∀ l ∈ L.drop j,OkW n C l:=fun l hl=>hL l (List.mem_of_mem_drop hl)
 generalize L.drop j=Z at hs
 induction Z with
 | nil=>exact⟨h,hL⟩
 | cons l r ih =>
   obtain⟨h1,h2⟩:=ih (fun x hx=>hs x (List.mem_cons_of_mem _ hx))
   have hl:=hs l (List.mem_cons_self ..)
   exact⟨h1.lay hl.k hl.was hl.wasS,fun x hx=>(h2 x hx).lay _ _ _⟩
theorem OkC.pick {n:Nat} {L:List Wr} (ps:List Nat) (j:Nat) {C:List Disk} (h:OkC n C) (hL:∀ l ∈ L,OkW n C l):OkC n (pickTo C L ps j)/\∀ l ∈ L,OkW n (pickTo C L ps j) l:=by
 unfold pickTo
 have hs:∀ x ∈ (L.zip ps).take j,OkW n C x.1:=fun x hx=>hL _ (List.of_mem_zip (List.mem_of_mem_take hx)).1
 generalize (L.zip ps).take j=Z at hs
 induction Z generalizing C with
 | nil=>exact⟨h,hL⟩
 | cons x r ih =>
   have hx:=hs x (List.mem_cons_self ..)
   simp only[List.foldl]
   unfold pickD
   split
   ·exact ih (h.lay hx.k hx.now hx.nowS) (fun l hl=>(hL l hl).lay _ _ _) (fun y hy=>(hs y (List.mem_cons_of_mem _ hy)).lay _ _ _)
   ·exact ih h hL (fun y hy=>hs y (List.mem_cons_of_mem _ hy))
theorem pickTo_len (C:List Disk) (L:List Wr) (ps:List Nat) (j:Nat):(pickTo C L ps j).length=C.length:=by
 unfold pickTo
 generalize (L.zip ps).take j=Z
 induction Z generalizing C with
 | nil=>rfl
 | cons x r ih=>simp only[List.foldl];rw[ih,pickD_len]
theorem crash_pick (R:Raw) (ps:List Nat):(R.crash ps).C=pickTo (undoTo R.C R.L 0) R.L ps (min ps.length R.L.length):=by
 rw[pickTo_all];rfl
theorem Raw.Ok.crash {R:Raw} (h:R.Ok) (ps:List Nat):(R.crash ps).Ok:=by
 obtain⟨h1,h2⟩:=h.C.undo h.L 0
 have h3:=h1.pick ps (min ps.length R.L.length) h2
 rw[<- crash_pick] at h3
 have hl:(R.crash ps).C.length=R.C.length:=by rw[crash_pick,pickTo_len,undoTo_len]
 exact⟨by rw[hl];exact h.d1,by rw[hl];exact h.d2,h.n1,h.n2,h3.1,fun l hl=>by simp[Raw.crash] at hl,by simp[Raw.crash]⟩
theorem Raw.Ok.new {d n:Nat} (h1:1<=d) (h2:d<=255) (h3:1<=n) (h4:n<=4096):(Raw.new d n).Ok:=by
 refine⟨by simpa [Raw.new] using h1,by simpa [Raw.new] using h2,h3,h4,fun e xs he=>?_,fun l hl=>by simp[Raw.new] at hl,by simp[Raw.new]⟩
 have he:(List.replicate d (some (zs (n * 64))))[e]?=some (some xs):=he
 have hm:=List.mem_of_getElem? he
 have:=(List.mem_replicate.1 hm).2
 injection this with this
 subst this
 exact⟨zs_len _,zs_small _⟩
end AM
open Go.RowKit
def wcells (l:AM.Wr):List Value:=.int .i64 (l.d:Int) :: .int .i64 (l.k:Int) :: (l.was.map bv++l.now.map bv)
theorem wcells_len {l:AM.Wr} (h1:l.was.length=64) (h2:l.now.length=64):(wcells l).length=130:=by simp[wcells,h1,h2]
def wrow (L:List AM.Wr):List Value:=L.flatMap wcells
structure Upd (F:Nat->Prop) (w w':World):Prop where
 os:w'.os=w.os
 tape:w'.tape=w.tape
 output:w'.output=w.output
 size:w.heap.size<=w'.heap.size
 block:∀ i,i < w.heap.size->¬ F i->w'.heap[i]?=w.heap[i]?
theorem Upd.refl (F:Nat->Prop) (w:World):Upd F w w:=⟨rfl,rfl,rfl,Nat.le_refl _,fun _ _ _=>rfl⟩
theorem Upd.of {F:Nat->Prop} {w w':World} {row:Option Nat} (g:w.grownBy w' row) (h:∀ i,row=some i->F i):Upd F w w' :=
 ⟨g.os,g.tape,g.output,g.size,fun i hi hn=>g.block i hi (fun e=>hn (h i e.symm))⟩
theorem Upd.trans {F F':Nat->Prop} {w w' w'':World} (h:Upd F w w') (k:Upd F' w' w'') (hF:∀ i,F' i->F i\/w.heap.size<=i):Upd F w w'' :=
 ⟨k.os.trans h.os,k.tape.trans h.tape,k.output.trans h.output,Nat.le_trans h.size k.size,fun i hi hn=>(k.block i (Nat.lt_of_lt_of_le hi h.size) (fun hf=>by
   rcases hF i hf with h1 | h1
   ·exact hn h1
   ·omega)).trans (h.block i hi hn)⟩
theorem grown_upd {w0 w w':World} {F:Nat->Prop} (h:w0.grownBy w none) (u:Upd F w w') (hF:∀ i,F i->w0.heap.size<=i):w0.grownBy w' none :=
 ⟨u.os.trans h.os,u.tape.trans h.tape,u.output.trans h.output,Nat.le_trans h.size u.size,fun i hi _=>(u.block i (Nat.lt_of_lt_of_le hi h.size) (fun hf=>by have:=hF i hf;omega)).trans (h.block i hi (by simp))⟩
structure Step (F:Nat->Prop) (w:World) (F':Nat->Prop) (w':World):Prop where
 upd:Upd F w w'
 sub:∀ i,F' i->F i\/w.heap.size<=i
theorem Step.refl (F:Nat->Prop) (w:World):Step F w F w:=⟨Upd.refl F w,fun _ h=>.inl h⟩
theorem Step.trans {F F' F'':Nat->Prop} {w w' w'':World} (h:Step F w F' w') (k:Step F' w' F'' w''):Step F w F'' w'' :=
 ⟨h.upd.trans k.upd h.sub,fun i hi=>by
   rcases k.sub i hi with h1 | h1
   ·exact h.sub i h1
   ·exact .inr (Nat.le_trans h.upd.size h1)⟩
theorem Step.of {F:Nat->Prop} {w w':World} {row:Option Nat} (g:w.grownBy w' row) (h:∀ i,row=some i->F i):Step F w F w':=⟨Upd.of g h,fun _ h=>.inl h⟩
theorem Step.new {F:Nat->Prop} {w w':World} (g:w.grownBy w' none):Step F w F w':=Step.of g (by simp)
theorem Step.fresh {F:Nat->Prop} {w W w2:World} {bk:Nat} (h:Step F w F W) (g:W.grownBy w2 (some bk)) (hb:w.heap.size<=bk):Step F w F w2 :=
 ⟨⟨g.os.trans h.upd.os,g.tape.trans h.upd.tape,g.output.trans h.upd.output,Nat.le_trans h.upd.size g.size,fun i hi hn=>(g.block i (Nat.lt_of_lt_of_le hi h.upd.size) (fun e=>by have:=Option.some.inj e;omega)).trans (h.upd.block i hi hn)⟩,fun _ h=>.inl h⟩
theorem Step.other {F F' G:Nat->Prop} {w w':World} (h:Step F w F' w') (hG:∀ i,G i->i < w.heap.size) (hs:∀ i,F i->G i->False):(∀ i,G i->w'.heap[i]?=w.heap[i]?)/\(∀ i,G i->i < w'.heap.size)/\∀ i,F' i->G i->False :=
 ⟨fun i hi=>h.upd.block i (hG i hi) (fun hf=>hs i hf hi),fun i hi=>Nat.lt_of_lt_of_le (hG i hi) h.upd.size,fun i hf hg=>by
   rcases h.sub i hf with h1 | h1
   ·exact hs i h1 hg
   ·have:=hG i hg;omega⟩
theorem Step.low {F F':Nat->Prop} {w0 w w':World} (h:Step F w F' w') (g:w0.grownBy w none) (hF:∀ i,F i->w0.heap.size<=i):w0.grownBy w' none/\∀ i,F' i->w0.heap.size<=i :=
 ⟨grown_upd g h.upd hF,fun i hi=>by
   rcases h.sub i hi with h1 | h1
   ·exact hF i h1
   ·exact Nat.le_trans g.size h1⟩
theorem ownsRow_same {w w':World} {B size n:Nat} {e:TypeId} {v:Value} {xs:List Value} (h:w.ownsRow B e size v n xs) (hb:∀ g,v.ownBlock=some g->w'.heap[g]?=w.heap[g]?):w'.ownsRow B e size v n xs:=by
 refine⟨h.1,?_⟩
 rcases h.2 with h | ⟨g,cap,cur,rfl,h1,h2,h3⟩
 ·exact .inl h
 ·exact .inr ⟨g,cap,cur,rfl,h1,by rw[hb g rfl];exact h2,h3⟩
theorem ownsRow_down {w:World} {B B' size n:Nat} {e:TypeId} {v:Value} {xs:List Value} (h:w.ownsRow B e size v n xs) (hB:B'<=B):w.ownsRow B' e size v n xs:=by
 refine⟨h.1,?_⟩
 rcases h.2 with h | ⟨g,cap,cur,rfl,h1,h2,h3⟩
 ·exact .inl h
 ·exact .inr ⟨g,cap,cur,rfl,by omega,h2,h3⟩
structure Lies (F:Nat->Prop) (w:World) (a dg:Nat) (dv:List Value) (fp:Option Addr) (fc:Nat) (R:AM.Raw):Prop where
 ok:R.Ok
 lt:∀ i,F i->i < w.heap.size
 top:w.heap[a]?=some (.cells #[.slice (some ⟨dg,0,none⟩) R.C.length R.C.length,.int .i64 (R.n:Int),.slice fp R.L.length fc,.int .i64 (R.fuse:Int),.bool R.off] 76 (0,0))
 dsk:w.heap[dg]?=some (.cells dv.toArray 72 (0,0))
 len:dv.length=R.C.length
 drv:∀ (i:Nat) (v:Value),dv[i]?=some v->(R.C[i]?=some none/\v=.slice none 0 0)\/∃ xs,R.C[i]?=some (some xs)/\w.ownsRow 0 79 64 v R.n (xs.map bv)
 fly:w.ownsRow 0 81 130 (.slice fp R.L.length fc) R.L.length (wrow R.L)
 Fa:F a
 Fd:F dg
 Fv:∀ (i:Nat) (v:Value),dv[i]?=some v->∀ g,v.ownBlock=some g->F g
 Ff:∀ g,(Value.slice fp R.L.length fc).ownBlock=some g->F g
 ap:∀ (i j:Nat) (u v:Value),dv[i]?=some u->dv[j]?=some v->∀ g,u.ownBlock=some g->v.ownBlock=some g->i=j
def Is (F:Nat->Prop) (w:World) (a:Nat) (R:AM.Raw):Prop:=∃ dg dv fp fc,Lies F w a dg dv fp fc R
theorem Lies.is {F:Nat->Prop} {w:World} {a dg:Nat} {dv:List Value} {fp:Option Addr} {fc:Nat} {R:AM.Raw} (h:Lies F w a dg dv fp fc R):Is F w a R:=⟨dg,dv,fp,fc,h⟩
theorem Is.ok {F:Nat->Prop} {w:World} {a:Nat} {R:AM.Raw} (h:Is F w a R):R.Ok:=by obtain⟨_,_,_,_,h⟩:=h;exact h.ok
theorem Is.lt {F:Nat->Prop} {w:World} {a:Nat} {R:AM.Raw} (h:Is F w a R):∀ i,F i->i < w.heap.size:=by obtain⟨_,_,_,_,h⟩:=h;exact h.lt
theorem Is.top {F:Nat->Prop} {w:World} {a:Nat} {R:AM.Raw} (h:Is F w a R):∃ dg fp fc,w.heap[a]?=some (.cells #[.slice (some ⟨dg,0,none⟩) R.C.length R.C.length,.int .i64 (R.n:Int),.slice fp R.L.length fc,.int .i64 (R.fuse:Int),.bool R.off] 76 (0,0)):=by obtain⟨dg,_,fp,fc,h⟩:=h;exact⟨dg,fp,fc,h.top⟩
theorem Lies.same {F:Nat->Prop} {w w':World} {a dg:Nat} {dv:List Value} {fp:Option Addr} {fc:Nat} {R:AM.Raw} (h:Lies F w a dg dv fp fc R) (hb:∀ i,F i->w'.heap[i]?=w.heap[i]?) (hl:∀ i,F i->i < w'.heap.size):Lies F w' a dg dv fp fc R :=
 ⟨h.ok,hl,by rw[hb a h.Fa];exact h.top,by rw[hb dg h.Fd];exact h.dsk,h.len,fun i v hv=>by
   rcases h.drv i v hv with h1 | ⟨xs,h1,h2⟩
   ·exact .inl h1
   ·exact .inr ⟨xs,h1,ownsRow_same h2 (fun g hg=>hb g (h.Fv i v hv g hg))⟩,
  ownsRow_same h.fly (fun g hg=>hb g (h.Ff g hg)),h.Fa,h.Fd,h.Fv,h.Ff,h.ap⟩
theorem Is.same {F:Nat->Prop} {w w':World} {a:Nat} {R:AM.Raw} (h:Is F w a R) (hb:∀ i,F i->w'.heap[i]?=w.heap[i]?) (hl:∀ i,F i->i < w'.heap.size):Is F w' a R:=by
 obtain⟨dg,dv,fp,fc,h⟩:=h
 exact (h.same hb hl).is
theorem Is.keep {F:Nat->Prop} {w w':World} {a:Nat} {R:AM.Raw} (h:Is F w a R) (g:w.grownBy w' none):Is F w' a R :=
 h.same (fun i hi=>g.block i (h.lt i hi) (by simp)) (fun i hi=>Nat.lt_of_lt_of_le (h.lt i hi) g.size)
theorem Is.apart {F:Nat->Prop} {w w':World} {a bk:Nat} {R:AM.Raw} (h:Is F w a R) (g:w.grownBy w' (some bk)) (hb:¬ F bk):Is F w' a R :=
 h.same (fun i hi=>g.block i (h.lt i hi) (fun e=>by obtain rfl:=Option.some.inj e;exact hb hi)) (fun i hi=>Nat.lt_of_lt_of_le (h.lt i hi) g.size)
section
variable {F:Nat->Prop} {w:World} {a dg:Nat} {dv:List Value} {fp:Option Addr} {fc:Nat} {R:AM.Raw}
theorem heap_ty {w:World} {i:Nat} {c c':Array Value} {t t':TypeId} {f f':Nat × Nat} (h:w.heap[i]?=some (.cells c t f)) (h':w.heap[i]?=some (.cells c' t' f')):t=t':=by
 rw[h] at h'
 injection h' with h'
 injection h' with _ h' _
theorem Lies.a_dg (h:Lies F w a dg dv fp fc R):a ≠ dg:=fun e=>by
 have h1:=h.top
 rw[e] at h1
 exact absurd (heap_ty h1 h.dsk) (by decide)
theorem Lies.drvBlock (h:Lies F w a dg dv fp fc R) {i:Nat} {v:Value} (hv:dv[i]?=some v) {g:Nat} (hg:v.ownBlock=some g):∃ c,w.heap[g]?=some (.cells c 79 (0,0)):=by
 rcases h.drv i v hv with ⟨_,rfl⟩ | ⟨xs,_,h2⟩
 ·cases hg
 ·rcases h2.2 with ⟨rfl,_⟩ | ⟨g',cap,cur,rfl,_,h3,_⟩
  ·cases hg
  ·obtain rfl:g'=g:=Option.some.inj hg
   exact⟨cur,h3⟩
theorem rowBlock {B e size n:Nat} {v:Value} {xs:List Value} (h:w.ownsRow B e size v n xs) {g:Nat} (hg:v.ownBlock=some g):∃ c,w.heap[g]?=some (.cells c e (0,0)):=by
 rcases h.2 with ⟨rfl,_⟩ | ⟨g',cap,cur,rfl,_,h3,_⟩
 ·cases hg
 ·obtain rfl:g'=g:=Option.some.inj hg
  exact⟨cur,h3⟩
theorem ne_ty {w:World} {i j:Nat} {c c':Array Value} {t t':TypeId} {f f':Nat × Nat} (h:w.heap[i]?=some (.cells c t f)) (h':w.heap[j]?=some (.cells c' t' f')) (ne:t ≠ t'):i ≠ j:=fun e=>by
 rw[e] at h
 exact ne (heap_ty h h')
theorem topCell {w:World} {a:Nat} {c:Array Value} {t:TypeId} {j:Nat} (h:w.heap[a]?=some (.cells c t (0,0))) {v:Value} (hv:c[j]?=some v):w.cell? ⟨a,j,none⟩=some v:=by
 simp[World.cell?,h,hv]
theorem Lies.turn (h:Lies F w a dg dv fp fc R) {w':World} (g:w.grownBy w' (some a)) {R':AM.Raw} (hC:R'.C=R.C) (hn:R'.n=R.n) (hL:R'.L=R.L) (hf:R'.fuse < 9223372036854775808)
 (ht:w'.heap[a]?=some (.cells #[.slice (some ⟨dg,0,none⟩) R.C.length R.C.length,.int .i64 (R.n:Int),.slice fp R.L.length fc,.int .i64 (R'.fuse:Int),.bool R'.off] 76 (0,0))):Lies F w' a dg dv fp fc R':=by
 have hb:∀ i,F i->i ≠ a->w'.heap[i]?=w.heap[i]?:=fun i hi hne=>g.block i (h.lt i hi) (fun e=>hne (Option.some.inj e))
 have hk:=h.ok
 refine⟨⟨by rw[hC];exact hk.d1,by rw[hC];exact hk.d2,by rw[hn];exact hk.n1,by rw[hn];exact hk.n2,by rw[hC,hn];exact hk.C,by rw[hC,hn,hL];exact hk.L,hf⟩,fun i hi=>Nat.lt_of_lt_of_le (h.lt i hi) g.size,?_,?_,?_,?_,?_,h.Fa,h.Fd,h.Fv,?_,h.ap⟩
 ·rw[hC,hn,hL];exact ht
 ·rw[hb dg h.Fd (Ne.symm h.a_dg)];exact h.dsk
 ·rw[hC];exact h.len
 ·intro i v hv
  rw[hC,hn]
  rcases h.drv i v hv with h1 | ⟨xs,h1,h2⟩
  ·exact .inl h1
  ·refine .inr ⟨xs,h1,ownsRow_same h2 (fun g hg=>?_)⟩
   obtain⟨c,hc⟩:=h.drvBlock hv hg
   exact hb g (h.Fv i v hv g hg) (ne_ty hc h.top (by decide))
 ·rw[hL]
  refine ownsRow_same h.fly (fun g hg=>?_)
  obtain⟨c,hc⟩:=rowBlock h.fly hg
  exact hb g (h.Ff g hg) (ne_ty hc h.top (by decide))
 ·rw[hL];exact h.Ff
theorem Lies.flown (h:Lies F w a dg dv fp fc R) {F':Nat->Prop} {w1 w':World} (hF:∀ i,F i->F' i) (hlt:∀ i,F' i->i < w1.heap.size) (g1:w.grownBy w1 (Value.slice fp R.L.length fc).ownBlock) {L':List AM.Wr} {fp':Option Addr} {fc':Nat}
 (hrow:w1.ownsRow 0 81 130 (.slice fp' L'.length fc') L'.length (wrow L')) (hFf:∀ g,(Value.slice fp' L'.length fc').ownBlock=some g->F' g) (hL:∀ l ∈ L',AM.OkW R.n R.C l)
 (e:w'=w1.setCell ⟨a,2,none⟩ (.slice fp' L'.length fc')):Lies F' w' a dg dv fp' fc' { R with L:=L' }:=by
 have hb1:∀ i,F i->some i ≠ (Value.slice fp R.L.length fc).ownBlock->w1.heap[i]?=w.heap[i]?:=fun i hi hne=>g1.block i (h.lt i hi) hne
 have hna:∀ i c,w.heap[i]?=some (.cells c 76 (0,0))->some i ≠ (Value.slice fp R.L.length fc).ownBlock:=fun i c hi e=>by
  obtain⟨c',hc'⟩:=rowBlock h.fly e.symm
  exact ne_ty hi hc' (by decide) rfl
 have ht1:w1.heap[a]?=some (.cells #[.slice (some ⟨dg,0,none⟩) R.C.length R.C.length,.int .i64 (R.n:Int),.slice fp R.L.length fc,.int .i64 (R.fuse:Int),.bool R.off] 76 (0,0)):=by
  rw[hb1 a h.Fa (hna a _ h.top)];exact h.top
 have hb2:∀ i,i ≠ a->w'.heap[i]?=w1.heap[i]?:=fun i hne=>by rw[e];exact Below.heap_setCell _ _ _ _ hne
 have hsz:w'.heap.size=w1.heap.size:=by rw[e];simp
 have hk:=h.ok
 refine⟨⟨hk.d1,hk.d2,hk.n1,hk.n2,hk.C,hL,hk.fuse⟩,fun i hi=>by rw[hsz];exact hlt i hi,?_,?_,h.len,?_,?_,hF a h.Fa,hF dg h.Fd,fun i v hv g hg=>hF g (h.Fv i v hv g hg),hFf,h.ap⟩
 ·rw[e,heap_setCell_same _ _ _ _ _ _ ht1];rfl
 ·rw[hb2 dg (Ne.symm h.a_dg),hb1 dg h.Fd (fun e=>by
   obtain⟨c',hc'⟩:=rowBlock h.fly e.symm
   exact ne_ty h.dsk hc' (by decide) rfl)]
  exact h.dsk
 ·intro i v hv
  rcases h.drv i v hv with h1 | ⟨xs,h1,h2⟩
  ·exact .inl h1
  ·refine .inr ⟨xs,h1,ownsRow_same h2 (fun g hg=>?_)⟩
   obtain⟨c,hc⟩:=h.drvBlock hv hg
   rw[hb2 g (ne_ty hc h.top (by decide)),hb1 g (h.Fv i v hv g hg) (fun e=>by
    obtain⟨c',hc'⟩:=rowBlock h.fly e.symm
    exact ne_ty hc hc' (by decide) rfl)]
 ·refine ownsRow_same hrow (fun g hg=>hb2 g ?_)
  obtain⟨c,hc⟩:=rowBlock hrow hg
  exact ne_ty hc ht1 (by decide)
theorem Lies.rowed (h:Lies F w a dg dv fp fc R) {w':World} {d gd:Nat} {v:Value} (hv:dv[d]?=some v) (hg:v.ownBlock=some gd) (g:w.grownBy w' (some gd)) {C':List AM.Disk} {xs:List Nat} (hC:C'=R.C.set d (some xs)) (hx:xs.length=R.n * 64) (hs:∀ x ∈ xs,x < 256)
 (hon:∃ ys,R.C[d]?=some (some ys)) (hrow:w'.ownsRow 0 79 64 v R.n (xs.map bv)):Lies F w' a dg dv fp fc { R with C:=C' }:=by
 subst hC
 obtain⟨c,hc⟩:=h.drvBlock hv hg
 have hb:∀ i,F i->i ≠ gd->w'.heap[i]?=w.heap[i]?:=fun i hi hne=>g.block i (h.lt i hi) (fun e=>hne (Option.some.inj e))
 have hk:=h.ok
 obtain⟨ys,hy⟩:=hon
 have hlt:d < R.C.length:=(List.getElem?_eq_some_iff.1 hy).1
 refine⟨⟨by simpa using hk.d1,by simpa using hk.d2,hk.n1,hk.n2,fun e zs hz=>?_,fun l hl=>?_,hk.fuse⟩,fun i hi=>Nat.lt_of_lt_of_le (h.lt i hi) g.size,?_,?_,?_,?_,?_,h.Fa,h.Fd,h.Fv,h.Ff,h.ap⟩
 ·by_cases c:d=e
  ·subst c
   simp only[List.getElem?_set,if_pos hlt,if_true] at hz
   injection hz with hz
   injection hz with hz
   subst hz
   exact⟨hx,hs⟩
  ·simp only[List.getElem?_set,if_neg c] at hz
   exact hk.C e zs hz
 ·have h3:=hk.L l hl
  refine⟨?_,h3.k,h3.was,h3.now,h3.wasS,h3.nowS⟩
  by_cases c:d=l.d
  ·exact⟨xs,by simp only[List.getElem?_set,if_pos c,<- c,if_pos hlt,if_true]⟩
  ·obtain⟨zs,hz⟩:=h3.on
   exact⟨zs,by simp only[List.getElem?_set,if_neg c];exact hz⟩
 ·rw[hb a h.Fa (Ne.symm (ne_ty hc h.top (by decide)))];simpa using h.top
 ·rw[hb dg h.Fd (Ne.symm (ne_ty hc h.dsk (by decide)))];exact h.dsk
 ·simpa using h.len
 ·intro i u hu
  by_cases c:d=i
  ·subst c
   rw[hv] at hu
   obtain rfl:=Option.some.inj hu
   exact .inr ⟨xs,by simp only[List.getElem?_set,if_pos hlt,if_true],hrow⟩
  ·rcases h.drv i u hu with h1 | ⟨zs,h1,h2⟩
   ·exact .inl ⟨by simp only[List.getElem?_set,if_neg c];exact h1.1,h1.2⟩
   ·exact .inr ⟨zs,by simp only[List.getElem?_set,if_neg c];exact h1,ownsRow_same h2 (fun g hg'=>hb g (h.Fv i u hu g hg') (fun e=>c (h.ap d i v u hv hu g (by rw[hg,e]) hg')))⟩
 ·refine ownsRow_same h.fly (fun g hg=>?_)
  obtain⟨c',hc'⟩:=rowBlock h.fly hg
  exact hb g (h.Ff g hg) (ne_ty hc' hc (by decide))
theorem Lies.drove (h:Lies F w a dg dv fp fc R) {F':Nat->Prop} {w1 w':World} (hF:∀ i,F i->F' i) (hlt:∀ i,F' i->i < w1.heap.size) (g1:w.grownBy w1 none) {d:Nat} (hd:d < R.C.length) {v:Value} {D:AM.Disk}
 (hD:(D=none/\v=.slice none 0 0)\/∃ xs,D=some xs/\w1.ownsRow 0 79 64 v R.n (xs.map bv)) (hfr:∀ g,v.ownBlock=some g->F' g/\¬ F g) (hok:AM.Raw.Ok { R with C:=R.C.set d D })
 (e:w'=w1.setCell ⟨dg,d,none⟩ v):Lies F' w' a dg (dv.set d v) fp fc { R with C:=R.C.set d D }:=by
 have hb1:∀ i,F i->w1.heap[i]?=w.heap[i]?:=fun i hi=>g1.block i (h.lt i hi) (by simp)
 have hb2:∀ i,i ≠ dg->w'.heap[i]?=w1.heap[i]?:=fun i hne=>by rw[e];exact Below.heap_setCell _ _ _ _ hne
 have hd1:w1.heap[dg]?=some (.cells dv.toArray 72 (0,0)):=by rw[hb1 dg h.Fd];exact h.dsk
 have hsz:w'.heap.size=w1.heap.size:=by rw[e];simp
 have hdl:d < dv.length:=by rw[h.len];exact hd
 have hsplit:∀ (i:Nat) (u:Value),(dv.set d v)[i]?=some u->(i=d/\u=v)\/(i ≠ d/\dv[i]?=some u):=fun i u hu=>by
  by_cases c:d=i
  ·subst c
   rw[List.getElem?_set,if_pos rfl,if_pos hdl] at hu
   exact .inl ⟨rfl,(Option.some.inj hu).symm⟩
  ·rw[List.getElem?_set,if_neg c] at hu
   exact .inr ⟨Ne.symm c,hu⟩
 refine⟨hok,fun i hi=>by rw[hsz];exact hlt i hi,?_,?_,by simpa using h.len,?_,?_,hF a h.Fa,hF dg h.Fd,?_,fun g hg=>hF g (h.Ff g hg),?_⟩
 ·rw[hb2 a h.a_dg,hb1 a h.Fa];simpa using h.top
 ·rw[e,heap_setCell_same _ _ _ _ _ _ hd1];simp
 ·intro i u hu
  rcases hsplit i u hu with ⟨rfl,rfl⟩ | ⟨hne,hu⟩
  ·rcases hD with ⟨h1,h2⟩ | ⟨xs,h1,h2⟩
   ·exact .inl ⟨by simp only[List.getElem?_set,if_pos hd,if_true,h1],h2⟩
   ·refine .inr ⟨xs,by simp only[List.getElem?_set,if_pos hd,if_true,h1],ownsRow_same h2 (fun g hg=>hb2 g ?_)⟩
    obtain⟨c,hc⟩:=rowBlock h2 hg
    exact ne_ty hc hd1 (by decide)
  ·rcases h.drv i u hu with h1 | ⟨xs,h1,h2⟩
   ·exact .inl ⟨by simp only[List.getElem?_set,if_neg (Ne.symm hne)];exact h1.1,h1.2⟩
   ·refine .inr ⟨xs,by simp only[List.getElem?_set,if_neg (Ne.symm hne)];exact h1,ownsRow_same h2 (fun g hg=>?_)⟩
    obtain⟨c,hc⟩:=h.drvBlock hu hg
    rw[hb2 g (ne_ty hc h.dsk (by decide)),hb1 g (h.Fv i u hu g hg)]
 ·refine ownsRow_same h.fly (fun g hg=>?_)
  obtain⟨c,hc⟩:=rowBlock h.fly hg
  rw[hb2 g (ne_ty hc h.dsk (by decide)),hb1 g (h.Ff g hg)]
 ·intro i u hu g hg
  rcases hsplit i u hu with ⟨rfl,rfl⟩ | ⟨hne,hu⟩
  ·exact (hfr g hg).1
  ·exact hF g (h.Fv i u hu g hg)
 ·intro i j u u' hu hu' g hg hg'
  rcases hsplit i u hu with ⟨rfl,rfl⟩ | ⟨hne,hi⟩
  ·rcases hsplit j u' hu' with ⟨rfl,rfl⟩ | ⟨hne',hj⟩
   ·rfl
   ·exact absurd (h.Fv j u' hj g hg') (hfr g hg).2
  ·rcases hsplit j u' hu' with ⟨rfl,rfl⟩ | ⟨hne',hj⟩
   ·exact absurd (h.Fv i u hi g hg) (hfr g hg').2
   ·exact h.ap i j u u' hi hj g hg hg'
end
end Go.Proofs.YtlklmhojadlncaaGreat
