/- Packed: PD8, PutHas8, IntA4, Late, Late2. -/
import Derived.Test.YtaalagkbpeinkaaGreatMt12
import Derived.Test.YtaalagkbpeinkaaGreatMt9
import Derived.ArgAppend
set_option linter.unusedSimpArgs false
set_option linter.unusedVariables false
set_option maxRecDepth 100000
namespace Go.Proofs.YtaalagkbpeinkaaGreat
namespace SP
def ints (l:List Nat):List Int:=l.map Int.ofNat
theorem ints_len (l:List Nat):(ints l).length = l.length:=by simp [ints]
theorem ints_get (l:List Nat) {i:Nat} (h:i < l.length):(ints l).getD i 0 = ((l.getD i 0:Nat):Int):=by simp [ints,List.getD,h]
theorem ints_app (l:List Nat) (x:Nat):ints (l ++ [x]) = ints l ++ [(x:Int)]:=by simp [ints]
theorem told_app (R:AM.Raw) (g:Geo) (slot:Nat) (l:List Nat) (x:Nat):told R g slot (l ++ [x]) = told R g slot l ++ [datD R g slot x]:=by simp [told]
theorem told_len (R:AM.Raw) (g:Geo) (slot:Nat) (l:List Nat):(told R g slot l).length = l.length:=by simp [told]
theorem told_get (R:AM.Raw) (g:Geo) (slot:Nat) (l:List Nat) {i:Nat} (h:i < l.length):(told R g slot l).getD i [] = datD R g slot (l.getD i 0):=by simp [told,List.getD,h]
structure Pick (R:AM.Raw) (g:Geo) (slot:Nat) (l:List Nat):Prop where
 pair:l.Pairwise (· < ·)
 mem:∀ x ∈ l,x < g.n /\ yesD R g slot x = true
theorem hits_pick (R:AM.Raw) (g:Geo) (slot m:Nat):Pick R g slot (hits R g slot m g.n):=⟨hits_pair R g slot m g.n,fun x hx=>by
 obtain ⟨h1,h2⟩:=hits_mem hx
 unfold has at h2
 simp only [Bool.and_eq_true] at h2
 exact ⟨h1,h2.1⟩⟩
theorem found_pick (R:AM.Raw) (g:Geo) (slot m:Nat):Pick R g slot (found R g slot m) :=
 ⟨(hits_pick R g slot m).pair.sublist (List.take_sublist _ _),fun x hx=>(hits_pick R g slot m).mem x (List.mem_of_mem_take hx)⟩
theorem Pick.row {R:AM.Raw} {g:Geo} {slot:Nat} {l:List Nat} (h:Pick R g slot l) {j:Nat} (hj:j < l.length):((told R g slot l).getD j []).length = 448:=by
 rw [told_get R g slot l hj]
 have e:l.getD j 0 = l[j]:=by simp [List.getD,hj]
 rw [e]
 exact dat_len (h.mem _ (List.getElem_mem hj)).2
theorem Pick.ok {R:AM.Raw} {g:Geo} {slot:Nat} {l:List Nat} (h:Pick R g slot l) (hg:g.Ok R):decOK (g.k:Int) (g.n:Int) (ints l) (told R g slot l):=by
 refine ⟨mayI_iff.2 ⟨by have:=hg.k1;omega,by have:=hg.kn;omega,by have:=hg.n255;omega⟩,by rw [ints_len,told_len],evenB_iff.2 fun j hj=>?_,fun i hi=>?_⟩
 ·rw [told_len] at hj
  rw [h.row hj,h.row (by omega)]
 ·rw [ints_len] at hi
  have e:l.getD i 0 = l[i]:=by simp [List.getD,hi]
  have h1:=(h.mem _ (List.getElem_mem hi)).1
  rw [ints_get l hi,e]
  refine ⟨by omega,by simp;exact h1,fun i' hi'=>?_⟩
  rw [ints_get l (by omega),show l.getD i' 0 = l[i'] from by simp [List.getD,show i' < l.length from by omega]]
  have:=List.pairwise_iff_getElem.1 h.pair i' i (by omega) hi hi'
  omega
theorem found_len {R:AM.Raw} {g:Geo} {slot m:Nat} (h:g.k <= (hits R g slot m g.n).length):(found R g slot m).length = g.k:=by simp [found];omega
theorem found_get {R:AM.Raw} {g:Geo} {slot m i:Nat} (h:i < g.k):(found R g slot m).getD i 0 = (hits R g slot m g.n).getD i 0:=by simp [found,List.getD,List.getElem?_take,h]
theorem DecP.yes {k n:Int} {ls:List Int} {X P:List (List Nat)} {a:Int} (h:DecP k n ls X P a) (ok:decOK k n ls X) (hk:k <= ls.length):a = 0 /\ Tells ls k.toNat (X.getD 0 []).length X P:=by
 rcases h with ⟨h1,_,_⟩ | ⟨_,h2,_,_⟩ | ⟨_,_,h3,h4⟩
 ·exact absurd ok h1
 ·omega
 ·exact ⟨h3,h4⟩
theorem DecR.yes {k n:Int} {ls:List Int} {X P:List (List Nat)} {a:Int} (h:DecR k n ls X P a) (ok:decOK k n ls X) (hk:k <= ls.length):a = 0 /\ Has ls k.toNat (X.getD 0 []).length X P:=by
 rcases h with ⟨h1,_,_⟩ | ⟨_,h2,_,_⟩ | ⟨_,_,h3,h4⟩
 ·exact absurd ok h1
 ·omega
 ·exact ⟨h3,h4⟩
theorem dec_both {R:AM.Raw} {g:Geo} {slot m:Nat} (hg:g.Ok R) (hk:g.k <= (hits R g slot m g.n).length) {P Q:List (List Nat)} {a b:Int}
 (h:DecP g.k g.n (ints (found R g slot m)) (told R g slot (found R g slot m)) P a) (h':DecR g.k g.n (ints (hits R g slot m g.n)) (told R g slot (hits R g slot m g.n)) Q b):a = 0 /\ b = 0 /\ Q = P:=by
 have hl:=found_len hk
 have k1:=hg.k1
 obtain ⟨rfl,ht⟩:=DecP.yes h ((found_pick R g slot m).ok hg) (by rw [ints_len,hl];omega)
 obtain ⟨rfl,hs⟩:=DecR.yes h' ((hits_pick R g slot m).ok hg) (by rw [ints_len];omega)
 refine ⟨rfl,rfl,?_⟩
 have L1:((told R g slot (found R g slot m)).getD 0 []).length = 448:=(found_pick R g slot m).row (by omega)
 have L2:((told R g slot (hits R g slot m g.n)).getD 0 []).length = 448:=(hits_pick R g slot m).row (by omega)
 rw [L1] at ht
 rw [L2] at hs
 simp only [Int.toNat_natCast] at ht hs
 refine ht Q hs.1 hs.2.1 fun i t hi ht'=>?_
 have:=hs.2.2 i t hi ht'
 rw [ints_get _ (by omega)] at this
 rw [ints_get _ (by omega),found_get hi,this]
 unfold at2
 rw [told_get _ _ _ _ (by omega),told_get _ _ _ _ (by omega),found_get hi]
theorem at2_codeRow {D:List (List Nat)} {k L i t:Nat} (h:t < L):(codeRow D k L i).getD t 0 = codeAt D k i t:=by simp [codeRow,List.getD,h]
theorem dec_is {R:AM.Raw} {g:Geo} {slot m:Nat} (hg:g.Ok R) (hk:g.k <= (hits R g slot m g.n).length) {P D0:List (List Nat)} {a:Int}
 (h:DecP g.k g.n (ints (found R g slot m)) (told R g slot (found R g slot m)) P a) (hD:Shape D0 g.k 448) (hs:∀ i j,at2 D0 i j < 256)
 (hc:∀ d,d < g.n -> has R g slot m d = true -> datD R g slot d = codeRow D0 g.k 448 d):a = 0 /\ P = D0:=by
 have hl:=found_len hk
 have k1:=hg.k1
 obtain ⟨rfl,ht⟩:=DecP.yes h ((found_pick R g slot m).ok hg) (by rw [ints_len,hl];omega)
 refine ⟨rfl,?_⟩
 have L1:((told R g slot (found R g slot m)).getD 0 []).length = 448:=(found_pick R g slot m).row (by omega)
 rw [L1] at ht
 simp only [Int.toNat_natCast] at ht
 refine (ht D0 hD hs fun i t hi ht'=>?_).symm
 rw [ints_get _ (by omega)]
 unfold at2
 rw [told_get _ _ _ _ (by omega)]
 have hil:i < (found R g slot m).length:=by omega
 have e:(found R g slot m).getD i 0 = (found R g slot m)[i]:=by simp [List.getD,hil]
 have hm:(found R g slot m)[i] ∈ hits R g slot m g.n:=by
  have h1:(found R g slot m)[i] ∈ found R g slot m:=List.getElem_mem hil
  unfold found at h1
  exact List.mem_of_mem_take h1
 obtain ⟨h1,h2⟩:=hits_mem hm
 rw [e,hc _ h1 h2,at2_codeRow ht']
 rfl
def RdP (R:AM.Raw) (g:Geo) (slot:Int) (m:Nat) (out:List Nat) (e:Nat):Prop :=
 (why R g slot ≠ 0 /\ out = [] /\ e = why R g slot) \/ (why R g slot = 0 /\ m = 0 /\ out = [] /\ e = 1) \/ (why R g slot = 0 /\ m ≠ 0 /\ (hits R g slot.toNat m g.n).length < g.k /\ out = [] /\ e = 20) \/
 (why R g slot = 0 /\ m ≠ 0 /\ g.k <= (hits R g slot.toNat m g.n).length /\ e = 0 /\ ∃ P a,DecP g.k g.n (ints (found R g slot.toNat m)) (told R g slot.toNat (found R g slot.toNat m)) P a /\ out = P.flatten)
def parts (xs:List Nat) (k:Nat):List (List Nat):=(List.range k).map fun j=>(xs.drop (448 * j)).take 448
theorem parts_len (xs:List Nat) (k:Nat):(parts xs k).length = k:=by simp [parts]
theorem parts_get (xs:List Nat) {k j:Nat} (h:j < k):(parts xs k).getD j [] = (xs.drop (448 * j)).take 448:=by simp [parts,List.getD,h]
theorem parts_succ (xs:List Nat) (k:Nat):parts xs (k + 1) = parts xs k ++ [(xs.drop (448 * k)).take 448]:=by simp [parts,List.range_succ]
theorem parts_shape {xs:List Nat} {k:Nat} (h:xs.length = k * 448):Shape (parts xs k) k 448:=⟨parts_len xs k,fun j hj=>by rw [parts_get xs hj];simp;omega⟩
theorem parts_small {xs:List Nat} (h:∀ x ∈ xs,x < 256) (k:Nat):∀ i j,at2 (parts xs k) i j < 256:=fun i j=>by
 unfold at2
 by_cases hi:i < k
 ·rw [parts_get xs hi]
  refine SM.getD_lt (fun x hx=>h x (List.mem_of_mem_drop (List.mem_of_mem_take hx))) j
 ·simp [parts,List.getD,hi]
theorem parts_flat (xs:List Nat):∀ k,(parts xs k).flatten = xs.take (448 * k)
 | 0=>by simp [parts]
 | k + 1=>by
   rw [parts_succ,List.flatten_append,parts_flat xs k]
   simp only [List.flatten_cons,List.flatten_nil,List.append_nil]
   rw [Nat.mul_add,Nat.mul_one,List.take_add]
theorem parts_all {xs:List Nat} {k:Nat} (h:xs.length = k * 448):(parts xs k).flatten = xs:=by
 rw [parts_flat]
 exact List.take_of_length_le (by omega)
theorem parts_fits {R:AM.Raw} {g:Geo} (hg:g.Ok R) {xs:List Nat} (h:xs.length = g.k * 448):fitsB (g.k:Int) (g.n:Int) (parts xs g.k) = true:=by
 have h1:=hg.k1
 have h2:=hg.kn
 have h3:=hg.n255
 have sh:=parts_shape h
 refine fitsB_iff.2 ⟨⟨by omega,by omega,by omega⟩,by rw [parts_len],evenB_iff.2 fun j hj=>?_⟩
 rw [parts_len] at hj
 rw [sh.row j hj,sh.row 0 (by omega)]
def code (g:Geo) (xs:List Nat):List (List Nat):=codeList (parts xs g.k) g.k g.n 448
theorem code_get (g:Geo) (xs:List Nat) {d:Nat} (h:d < g.n):(code g xs).getD d [] = codeRow (parts xs g.k) g.k 448 d:=by simp [code,codeList,List.getD,h]
theorem code_len (g:Geo) (xs:List Nat):(code g xs).length = g.n:=by simp [code,codeList]
theorem code_row (g:Geo) (xs:List Nat) {d:Nat} (h:d < g.n):((code g xs).getD d []).length = 448:=by rw [code_get g xs h];simp [codeRow]
def write (R:AM.Raw) (g:Geo) (slot:Int) (m:Nat) (xs:List Nat):Nat × AM.Raw :=
 if why R g slot ≠ 0 then (why R g slot,R) else if m = 0 \/ xs.length ≠ g.k * 448 then (1,R) else if R.ons < g.k then (20,R) else wrTo R g slot.toNat m (code g xs) g.n
def put (R:AM.Raw) (g:Geo) (d slot:Int) (m:Nat) (part:List Nat):Nat × AM.Raw :=
 if whyD R g d slot ≠ 0 then (whyD R g d slot,R) else if m = 0 \/ part.length ≠ 448 then (1,R) else lays R g slot.toNat d.toNat m part
theorem write_kept (R:AM.Raw) (g:Geo) (slot:Int) (m:Nat) (xs:List Nat):Kept R (write R g slot m xs).2:=by
 unfold write
 split
 ·exact Kept.refl R
 ·split
  ·exact Kept.refl R
  ·split
   ·exact Kept.refl R
   ·exact wrTo_kept _ _ _ _ _ _
end SP
open Go.RowKit
def SP.hasE (R:AM.Raw) (g:SP.Geo) (d slot:Int) (m:Nat):Nat:=if SP.whyD R g d slot ≠ 0 then SP.whyD R g d slot else if m = 0 then 1 else 0
def SP.hasV (R:AM.Raw) (g:SP.Geo) (d slot:Int) (m:Nat):Bool:=decide (SP.hasE R g d slot m = 0) && (SP.yesD R g slot.toNat d.toNat && decide (SP.numD R g slot.toNat d.toNat = m))
section
variable {F F':Nat -> Prop} {w w':World} {s a:Nat} {g:SP.Geo} {R R':AM.Raw}
theorem sreachD_at (h:SI F w s a g R) {d slot c:Int} (hc:(SP.whyD R g d slot:Int) = c):Calls Tryz.prog 126 #[ptr s,.int .i64 d,.int .i64 slot] w fun e w'=>e = .returned (.int .i64 c) /\ w' = w:=by
 subst hc;exact sreachD_yes h d slot
theorem shas_all (h:SI F w s a g R) (d slot:Int) (m:Nat) :
 Calls Tryz.prog 104 #[ptr s,.int .i64 d,.int .i64 slot,.int .u64 (m:Int)] w fun e w'=>e = .returned (.tuple #[.bool (SP.hasV R g d slot m),.int .i64 (SP.hasE R g d slot m:Int)]) /\ w.grownBy w' none:=by
 by_cases hy:SP.whyD R g d slot = 0
 ·by_cases hm:m = 0
  ·have e1:SP.hasE R g d slot m = 1:=by unfold SP.hasE;rw [if_neg (by omega),if_pos hm]
   have e2:SP.hasV R g d slot m = false:=by unfold SP.hasV;rw [e1];rfl
   rw [e1,e2]
   subst hm
   have HR:Hid (Calls Tryz.prog 126 #[ptr s,.int .i64 d,.int .i64 slot] w fun e w''=>e = .returned (.int .i64 0) /\ w'' = w):=sreachD_at h (by rw [hy];rfl)
   clear h hy e1 e2
   go_enter Tryz.func104,Tryz.ntmps104
   go_wp2_with (go_at_call 126;refine HR.out.mono ?_;rintro e w9 ⟨rfl,hw9⟩;obtain rfl:=hw9.symm;clear hw9)
   go_ret2
   exact ⟨rfl,World.grownBy.refl _ _⟩
  ·have e1:SP.hasE R g d slot m = 0:=by unfold SP.hasE;rw [if_neg (by omega),if_neg hm]
   obtain ⟨y1,y2,y3⟩:=SP.whyD_zero hy
   obtain ⟨y4,y5,y6⟩:=SP.why_zero y1
   have e2:SP.hasV R g d slot m = (CM.yes (SP.sects R g slot.toNat d.toNat) && decide (CM.tN (SP.sects R g slot.toNat d.toNat) = m)):=by unfold SP.hasV SP.yesD SP.numD;rw [e1];simp
   obtain ⟨d',rfl⟩:∃ n:Nat,d = (n:Int):=⟨d.toNat,by omega⟩
   obtain ⟨sl,rfl⟩:∃ n:Nat,slot = (n:Int):=⟨slot.toNat,by omega⟩
   rw [Int.toNat_natCast,Int.toNat_natCast] at e2
   have HR:Hid (Calls Tryz.prog 126 #[ptr s,.int .i64 (d':Int),.int .i64 (sl:Int)] w fun e w''=>e = .returned (.int .i64 0) /\ w'' = w):=sreachD_at h (by rw [hy];rfl)
   have SEC:Hid (Calls Tryz.prog 109 #[ptr s,.int .i64 (d':Int),.int .i64 (sl:Int)] w fun e w'=>∃ v us,e = .returned v /\ Mat w' v us (SP.sects R g sl d') /\ w.grownBy w' none):=ssectors_any h y4 (by omega) (by omega)
   have hne:((m:Int) == 0) = false:=eqb_no (b:=0) hm
   rw [e1,e2]
   clear h hy e1 e2 y1 y2 y3 y4 y5 y6 hm
   generalize SP.sects R g sl d' = X at *
   go_enter Tryz.func104,Tryz.ntmps104
   go_wp2_with (first
    | (go_at_call 126;refine HR.out.mono ?_;rintro e w9 ⟨rfl,hw9⟩;obtain rfl:=hw9.symm;clear hw9)
    | (go_at_call 109;refine SEC.out.mono ?_;rintro e w1 ⟨v,us,rfl,m1,g1⟩;have M1:Hid (Mat w1 v us X):=m1;have G1:Hid (w.grownBy w1 none):=g1;clear m1 g1)
    | (go_at_call 127;refine (whole_any m M1.out).mono ?_;rintro e w2 ⟨rfl,g2⟩;have G2:Hid (w.grownBy w2 none):=grown_trans G1.out g2;clear g2))
   go_ret2
   exact ⟨rfl,G2.out⟩
 ·have e1:SP.hasE R g d slot m = SP.whyD R g d slot:=by unfold SP.hasE;rw [if_pos hy]
  have e2:SP.hasV R g d slot m = false:=by unfold SP.hasV;rw [e1,decide_eq_false hy];rfl
  rw [e1,e2]
  obtain ⟨y,hy1⟩:∃ y,y = SP.whyD R g d slot:=⟨_,rfl⟩
  have HR:Hid (Calls Tryz.prog 126 #[ptr s,.int .i64 d,.int .i64 slot] w fun e w''=>e = .returned (.int .i64 (y:Int)) /\ w'' = w):=sreachD_at h (by rw [hy1])
  rw [<- hy1] at hy ⊢
  have hne:((y:Int) != 0) = true:=neb_yes (b:=0) hy
  clear h hy hy1 e1 e2
  go_enter Tryz.func104,Tryz.ntmps104
  go_wp2_with (go_at_call 126;refine HR.out.mono ?_;rintro e w9 ⟨rfl,hw9⟩;obtain rfl:=hw9.symm;clear hw9)
  go_ret2
  exact ⟨rfl,World.grownBy.refl _ _⟩
theorem lays_off {slot d m:Nat} {part:List Nat} (hg:g.Ok R) (h0:R.off = false) (hs:slot < g.s) (hd:d < g.n) (ho:R.on (d:Int) = false):SP.lays R g slot d m part = (9,R):=by
 have hr:=SP.reach_on hg h0 (i:=0) hs (by omega) hd
 rw [ho] at hr
 have e1:SP.layTo R g slot d (CM.secs m part 8) 1 = (9,R):=by
  rw [SP.layTo_succ rfl]
  show AM.Raw.writes R _ _ _ = _
  unfold AM.Raw.writes
  rw [if_pos (by rw [hr];decide),hr]
  rfl
 unfold SP.lays
 rw [SP.layTo_stop (j:=1) (by rw [e1];show (9:Nat) ≠ 0;omega) 8 (by omega),e1]
set_option maxHeartbeats 1600000 in
theorem sput_all (h:SI F w s a g R) (d slot:Int) (m:Nat) {v:Value} {xs:List Nat} (hv:Vec w v xs) (hL:R.L.length <= 990000) :
 Calls Tryz.prog 107 #[ptr s,.int .i64 d,.int .i64 slot,.int .u64 (m:Int),v] w fun e w'=>e = .returned (.int .i64 ((SP.put R g d slot m xs).1:Int)) /\ ∃ F',SI F' w' s a g (SP.put R g d slot m xs).2 /\ Step F w F' w':=by
 obtain ⟨q,N,cap,rfl,hN⟩:=hv.opened
 unfold SP.put
 by_cases hy:SP.whyD R g d slot = 0
 ·have HR:Hid (Calls Tryz.prog 126 #[ptr s,.int .i64 d,.int .i64 slot] w fun e w''=>e = .returned (.int .i64 0) /\ w'' = w):=sreachD_at h (by rw [hy];rfl)
  rw [if_neg (by omega)]
  by_cases ha:m = 0 \/ xs.length ≠ 448
  ·rw [if_pos ha]
   have H:Hid (SI F w s a g R):=h
   by_cases hm:m = 0
   ·subst hm
    clear h hy ha hv hN
    go_enter Tryz.func107,Tryz.ntmps107
    go_wp2_with (go_at_call 126;refine HR.out.mono ?_;rintro e w9 ⟨rfl,hw9⟩;obtain rfl:=hw9.symm;clear hw9)
    go_ret
    exact ⟨rfl,F,H.out,Step.refl _ _⟩
   ·have i1:((m:Int) == 0) = false:=eqb_no (b:=0) hm
    have i2:((N:Int) != 448) = true:=neb_yes (b:=448) (by rcases ha with h' | h' <;> omega)
    clear h hy ha hv hN
    go_enter Tryz.func107,Tryz.ntmps107
    go_wp2_with (go_at_call 126;refine HR.out.mono ?_;rintro e w9 ⟨rfl,hw9⟩;obtain rfl:=hw9.symm;clear hw9)
    go_ret
    exact ⟨rfl,F,H.out,Step.refl _ _⟩
  ·rw [if_neg ha]
   have i1:((m:Int) == 0) = false:=eqb_no (b:=0) (by omega)
   have i2:((N:Int) != 448) = false:=neb_no (b:=448) (by omega)
   obtain ⟨y1,y2,y3⟩:=SP.whyD_zero hy
   obtain ⟨y4,y5,y6⟩:=SP.why_zero y1
   obtain ⟨d',rfl⟩:∃ n:Nat,d = (n:Int):=⟨d.toNat,by omega⟩
   obtain ⟨sl,rfl⟩:∃ n:Nat,slot = (n:Int):=⟨slot.toNat,by omega⟩
   rw [Int.toNat_natCast,Int.toNat_natCast]
   have c0:=h.at1
   obtain ⟨o,ho⟩:∃ o,o = R.on (d':Int):=⟨_,rfl⟩
   have ON:Hid (Calls Tryz.prog 51 #[ptr a,.int .i64 (d':Int)] w fun e w'=>e = .returned (.bool o) /\ w' = w):=by rw [ho];exact on_yes h.i (d':Int)
   cases o
   ·rw [lays_off h.ok y4 (by omega) (by omega) ho.symm]
    have H:Hid (SI F w s a g R):=h
    clear h hy ha hv hN y1 y2 y3 y4 y5 y6 ho
    go_enter Tryz.func107,Tryz.ntmps107
    go_wp2_with (first
     | (go_at_call 126;refine HR.out.mono ?_;rintro e w9 ⟨rfl,hw9⟩;obtain rfl:=hw9.symm;clear hw9)
     | (go_at_call 51;refine ON.out.mono ?_;rintro e w9 ⟨rfl,hw9⟩;obtain rfl:=hw9.symm;clear hw9))
    go_ret
    exact ⟨rfl,F,H.out,Step.refl _ _⟩
   ·obtain ⟨c,hc⟩:∃ c,c = (SP.lays R g sl d' m xs).1:=⟨_,rfl⟩
    have LA:Hid (Calls Tryz.prog 60 #[ptr s,.int .i64 (d':Int),.int .i64 (sl:Int),.int .u64 (m:Int),.slice q N cap] w fun e w'=>e = .returned (.int .i64 (c:Int)) /\ ∃ F',SI F' w' s a g (SP.lays R g sl d' m xs).2 /\ Step F w F' w'):=by
     rw [hc]
     exact slay_any h (by omega) hv (by omega) (by omega) (by omega)
    rw [<- hc]
    clear h hy ha hv hN y1 y2 y3 y4 y5 y6 ho hc
    go_enter Tryz.func107,Tryz.ntmps107
    go_wp2_with (first
     | (go_at_call 126;refine HR.out.mono ?_;rintro e w9 ⟨rfl,hw9⟩;obtain rfl:=hw9.symm;clear hw9)
     | (go_at_call 51;refine ON.out.mono ?_;rintro e w9 ⟨rfl,hw9⟩;obtain rfl:=hw9.symm;clear hw9)
     | (go_at_call 60;refine LA.out.mono ?_;rintro e w4 ⟨rfl,F4,i4',st4⟩;have I4:Hid (SI F4 w4 s a g (SP.lays R g sl d' m xs).2):=i4';have T4:Hid (Step F w F4 w4):=st4;clear i4' st4))
    go_ret
    exact ⟨rfl,F4,I4.out,T4.out⟩
 ·rw [if_pos hy]
  obtain ⟨y,hy1⟩:∃ y,y = SP.whyD R g d slot:=⟨_,rfl⟩
  have HR:Hid (Calls Tryz.prog 126 #[ptr s,.int .i64 d,.int .i64 slot] w fun e w''=>e = .returned (.int .i64 (y:Int)) /\ w'' = w):=sreachD_at h (by rw [hy1])
  have H:Hid (SI F w s a g R):=h
  rw [<- hy1] at hy ⊢
  have hne:((y:Int) != 0) = true:=neb_yes (b:=0) hy
  clear h hy hy1 hv hN
  go_enter Tryz.func107,Tryz.ntmps107
  go_wp2_with (go_at_call 126;refine HR.out.mono ?_;rintro e w9 ⟨rfl,hw9⟩;obtain rfl:=hw9.symm;clear hw9)
  go_ret
  exact ⟨rfl,F,H.out,Step.refl _ _⟩
end
theorem row_apart {B B':Nat} {w:World} {e e':TypeId} {v u:Value} {n m:Nat} {xs ys:List Value} (ne:e ≠ e') (hv:w.ownsRow B e 1 v n xs) (hu:w.ownsRow B' e' 1 u m ys):Ap v u:=by
 unfold Ap
 rcases hv.2 with ⟨rfl,_⟩ | ⟨g,cap,cur,rfl,_,hg,_⟩
 ·exact .inl rfl
 ·rcases hu.2 with ⟨rfl,_⟩ | ⟨g',cap',cur',rfl,_,hg',_⟩
  ·exact .inr (by simp [Value.ownBlock])
  ·refine .inr fun h=>?_
   have e1:g = g':=by simpa [Value.ownBlock] using h
   subst e1
   rw [hg] at hg'
   injection hg' with h1
   injection h1 with _ h2 _
   exact ne h2
theorem IOwn.kept {B:Nat} {w w':World} {v:Value} {ls:List Int} {row:Option Nat} (h:IOwn B w v ls) (g:w.grownBy w' row) (ne:v.ownBlock = none \/ v.ownBlock ≠ row):IOwn B w' v ls:=⟨h.len,h.row.kept g ne⟩
theorem IOwn.nil (B:Nat) (w:World):IOwn B w (.slice none 0 0) []:=⟨by simp,World.ownsRow_nil w B 3 1⟩
theorem IVec.none {w:World} (p:Option Addr) (c:Nat) (hc:c <= maxLen):IVec w (.slice p 0 c) []:=⟨by simp,p,c,rfl,by simp,hc,fun h=>absurd rfl h⟩
theorem run_append_int {B:Nat} {w:World} {dv:Value} {ls:List Int} (hd:IOwn B w dv ls) (ad:Addr) {x:Int} (hu:w.cell? ad = some (.int .i64 x)) (hB:B <= w.heap.size) (hl:(ls.length + 1) * 8 <= 140737488351232) (ty:TypeId) :
 ∃ v' w',(Builtin.append_ #[50,50] ty #[dv,.slice (some ad) 1 1]).run Tryz.prog w = .ok v' w' /\ IOwn B w' v' (ls ++ [x]) /\ w.grownBy w' dv.ownBlock /\ (v'.ownBlock = dv.ownBlock \/ v'.ownBlock = some w.heap.size):=by
 obtain ⟨i0,hi,hz0,hz1,hz2⟩:=info_parts Tryz.infoI
 obtain ⟨v',w',r1,r2,r3,_,r5⟩:=run_append_own_at (P:=Tryz.prog) w B 50 ty 3 i0 (.int .i64 0) 1 8 Tryz.underlying50 hi hz0 hz1 hz2 rfl (by decide) dv ls.length _ hd.row ad 1 1 [.int .i64 x] (by simp)
  (fun j v hj=>by
    match j,hj with
    | 0,hj=>simp at hj;subst hj;simpa [Addr.add] using hu)
  (fun v hv=>by simp at hv;subst hv;rfl) (by unfold maxLen;omega) (by omega) hB
 exact ⟨v',w',r1,⟨by simpa using hl,by simpa using r2⟩,r3,r5⟩
theorem wpList_append_int {w:World} {ops:Array Oper} {rest:List Oper} {o:Oper} {a:Act} {Q:Exit -> Act -> World -> Prop} (hgd:o.guard = none) (d s:Operand)
 (ho:o.op = .call { callee:=.builtin .append,args:=#[d,s],argTypes:=#[50,50] }) (dv:Value) (ad:Addr) (hed:a.eval d = dv) (hes:a.eval s = .slice (some ad) 1 1)
 {B:Nat} {ls:List Int} {x:Int} (hd:IOwn B w dv ls) (hu:w.cell? ad = some (.int .i64 x)) (hB:B <= w.heap.size) (hl:(ls.length + 1) * 8 <= 140737488351232)
 (h:∀ v' w',IOwn B w' v' (ls ++ [x]) -> w.grownBy w' dv.ownBlock -> (v'.ownBlock = dv.ownBlock \/ v'.ownBlock = some w.heap.size) -> wpList Tryz.prog ops Q rest (a.put o.dst v') w'):wpList Tryz.prog ops Q (o :: rest) a w:=by
 refine wpList_plain hgd fun K hK=>?_
 obtain ⟨v',w',hrun,r1,r2,r3⟩:=run_append_int hd ad hu hB hl o.type
 unfold Oper.wp
 simp [execOp,ho,resolve,invoke,builtin,hed,hes,hrun,Result.andThen]
 exact hK _ _ (h _ _ r1 r2 r3)
theorem step_append_int {ops:Array Oper} {o:Oper} {a:Act} {w:World} {K:Act -> World -> Prop} {Q:Exit -> Act -> World -> Prop} {E:Prop} (hgd:o.guard = none) (d s:Operand)
 (ho:o.op = .call { callee:=.builtin .append,args:=#[d,s],argTypes:=#[50,50] }) (dv:Value) (ad:Addr) (hed:a.eval d = dv) (hes:a.eval s = .slice (some ad) 1 1)
 {B:Nat} {ls:List Int} {x:Int} (hd:IOwn B w dv ls) (hu:w.cell? ad = some (.int .i64 x)) (hB:B <= w.heap.size) (hl:(ls.length + 1) * 8 <= 140737488351232)
 (h:∀ v' w',IOwn B w' v' (ls ++ [x]) -> w.grownBy w' dv.ownBlock -> (v'.ownBlock = dv.ownBlock \/ v'.ownBlock = some w.heap.size) -> K (a.put o.dst v') w') :
 if Region.wanted o (yielded ops a.tmps) = true then Oper.wp Tryz.prog o a w K Q else E:=by
 have hw:Region.wanted o (yielded ops a.tmps) = true:=by simp [Region.wanted,hgd]
 rw [if_pos hw]
 obtain ⟨v',w',hrun,r1,r2,r3⟩:=run_append_int hd ad hu hB hl o.type
 unfold Oper.wp
 simp [execOp,ho,resolve,invoke,builtin,hed,hes,hrun,Result.andThen]
 exact h _ _ r1 r2 r3
end Go.Proofs.YtaalagkbpeinkaaGreat
namespace Go.Proofs.YtaalagkbpeinkaaGreat
section
variable {P:Program} {md:Region.Mode} {Q:Exit -> Act -> World -> Prop} {S:World -> Prop}
def lastQ (P:Program) (ops:Array Oper) (o:Oper) (Q:Exit -> Act -> World -> Prop):Exit -> Act -> World -> Prop
 | .normal,a,w=>wpList P ops Q [o] a w
 | e,a,w=>Q e a w
def waits (md:Region.Mode) (ops:Array Oper):Nat -> Nat -> Nat -> Bool
 | 0,_,_=>false
 | n + 1,j,i=>match ops[j]? with
   | none=>false
   | some o=>o.after.any (fun e=>Region.binds md e && (e.on == i || waits md ops n e.on i))
def lastOk (md:Region.Mode) (ops:Array Oper):Bool :=
 (List.range ops.size).all (fun j=>match ops[j]? with
   | none=>false
   | some o=>o.guard.isNone && o.after.all (fun e=>!(Region.binds md e) || decide (e.on < j))) &&
 (List.range (ops.size - 1)).all (fun i=>waits md ops ops.size (ops.size - 1) i)
def Down (md:Region.Mode) (ops:Array Oper) (listed:Array Bool):Prop :=
 ∀ (j:Nat) (o:Oper),ops[j]? = some o -> listed.getD j false = true -> ∀ e ∈ o.after,Region.binds md e = true -> listed.getD e.on false = true
theorem getD_any {l:Array Bool} {i:Nat} (h:i < l.size) (b c:Bool):l.getD i b = l.getD i c:=by simp [h]
theorem waits_listed {ops:Array Oper} {listed:Array Bool} (hd:Down md ops listed):∀ (n j i:Nat),waits md ops n j i = true -> (∀ o,ops[j]? = some o -> ∀ e ∈ o.after,Region.binds md e = true -> listed.getD e.on false = true) -> listed.getD i false = true:=by
 intro n
 induction n with
 | zero=>intro j i h;cases h
 | succ n ih =>
   intro j i h hj
   unfold waits at h
   cases ho:ops[j]? with
   | none=>rw [ho] at h;cases h
   | some o =>
     rw [ho] at h
     obtain ⟨e,he,h1⟩:=Array.any_eq_true'.1 h
     simp only [Bool.and_eq_true,Bool.or_eq_true,beq_iff_eq] at h1
     have hl:=hj o ho e he h1.1
     rcases h1.2 with h2 | h2
     ·rw [<- h2];exact hl
     ·exact ih e.on i h2 (fun o' ho' e' he' hb'=>hd e.on o' ho' hl e' he' hb')
theorem letsOut_last {ops:Array Oper} {oL:Oper} (h:LetsOut (lastQ P ops oL Q)):LetsOut Q:=by
 obtain ⟨a,w,h⟩:=h
 exact ⟨a,w,h⟩
theorem wp_last {ops:Array Oper} {oL o:Oper} {a:Act} {w:World} {K K':Act -> World -> Prop} (hK:∀ a w,K a w -> K' a w) (h:Oper.wp P o a w K (lastQ P ops oL Q)):Oper.wp P o a w K' Q:=by
 unfold Oper.wp at *
 generalize (execOp a.eval o).run P w = r at *
 cases r with
 | ok n w' =>
   cases n <;> simp only [Oper.upon] at h ⊢
   case value u=>exact hK _ _ h
   case skip=>exact hK _ _ h
   case defer d=>exact hK _ _ h
   case enter f args =>
    refine Calls.mono h fun e w'' he=>?_
    cases e with
    | returned u=>exact hK _ _ he
    | panicked c=>exact he
    | outgrown=>exact letsOut_last he
   case row row args=>exact Rows.mono h fun u w'' he=>hK _ _ he
 | halt x w' =>
   cases x <;> simp only [Oper.upon] at h ⊢
   case panic u=>exact h
theorem push_getD (listed:Array Bool) (x:Nat):(listed.push false).getD x false = listed.getD x false:=by
 by_cases h:x < listed.size
 ·simp [Array.getElem?_push,h,Nat.ne_of_lt h]
 ·by_cases h2:x = listed.size
  ·subst h2;simp
  ·have h3:¬ x < (listed.push false).size:=by simp;omega
   simp only [Array.getD,h,h3,dif_neg,not_false_eq_true]
theorem ready_push {ops:Array Oper} {oL:Oper} {listed:Array Bool} (hs:listed.size = ops.size) {j:Nat} (hj:j < ops.size):j ∈ Region.ready md (ops.push oL) (listed.push false) ↔ j ∈ Region.ready md ops listed:=by
 rw [mem_ready,mem_ready]
 have e1:(listed.push false).getD j true = listed.getD j true:=by
  rw [getD_any (by simp;omega) true false,push_getD,getD_any (by omega) false true]
 have e2:(ops.push oL)[j]? = ops[j]?:=by rw [Array.getElem?_push,if_neg (by omega)]
 rw [e1,e2]
 simp only [push_getD]
structure LastOk (md:Region.Mode) (ops:Array Oper) (oL:Oper):Prop where
 gd:∀ (j:Nat) (o:Oper),(ops.push oL)[j]? = some o -> o.guard = none
 lt:∀ (j:Nat) (o:Oper),(ops.push oL)[j]? = some o -> ∀ e ∈ o.after,Region.binds md e = true -> e.on < j
 all:∀ i:Nat,i < ops.size -> ∃ n,waits md (ops.push oL) n ops.size i = true
theorem lastOk_of {ops:Array Oper} {oL:Oper} (h:lastOk md (ops.push oL) = true):LastOk md ops oL:=by
 unfold lastOk at h
 simp only [Bool.and_eq_true,List.all_eq_true,List.mem_range] at h
 obtain ⟨h1,h2⟩:=h
 have key:∀ (j:Nat) (o:Oper),(ops.push oL)[j]? = some o -> o.guard.isNone = true /\ ∀ e ∈ o.after,(!(Region.binds md e) || decide (e.on < j)) = true:=fun j o ho=>by
  have:=h1 j (Array.getElem?_eq_some_iff.1 ho).1
  rw [ho] at this
  simp only [Bool.and_eq_true] at this
  refine ⟨this.1,fun e he=>?_⟩
  have:=Array.all_eq_true'.1 this.2
  exact this e he
 refine ⟨fun j o ho=>by simpa using (key j o ho).1,fun j o ho e he hb=>?_,fun i hi=>⟨(ops.push oL).size,?_⟩⟩
 ·have:=(key j o ho).2 e he
  simpa [hb] using this
 ·have:=h2 i (by simp;omega)
  simpa using this
theorem down_push {ops:Array Oper} {oL:Oper} {listed:Array Bool} (hs:listed.size = ops.size) (hd:Down md ops listed):Down md (ops.push oL) (listed.push false):=fun j o ho hj e he hb=>by
 rw [push_getD] at hj ⊢
 have hlt:j < ops.size:=by
  rcases Nat.lt_or_ge j listed.size with h | h
  ·omega
  ·simp [Array.getElem?_eq_none h] at hj
 rw [Array.getElem?_push,if_neg (by omega)] at ho
 exact hd j o ho hj e he hb
theorem down_set {ops:Array Oper} {listed:Array Bool} (hd:Down md ops listed) {i:Nat} (hi:i ∈ Region.ready md ops listed):Down md ops (listed.setIfInBounds i true):=fun j o ho hj e he hb=>by
 refine getD_set_true ?_
 by_cases c:i = j
 ·subst c
  obtain ⟨_,o',ho',hall⟩:=mem_ready.1 hi
  rw [ho] at ho'
  obtain rfl:=Option.some.inj ho'
  exact hall e he hb
 ·rw [_root_.Go.getD_set_ne false c] at hj
  exact hd j o ho hj e he hb
theorem all_listed {ops:Array Oper} {oL:Oper} {listed:Array Bool} (hok:LastOk md ops oL) (hs:listed.size = ops.size) (hr:Region.ready md ops listed = []):∀ n j,j < n -> j < ops.size -> listed.getD j false = true:=by
 intro n
 induction n with
 | zero=>intro j hj;omega
 | succ n ih =>
   intro j hjn hj
   cases hc:listed.getD j false with
   | true=>rfl
   | false =>
     have:j ∈ Region.ready md ops listed:=by
      rw [mem_ready]
      have ho:ops[j]? = some ops[j]:=Array.getElem?_eq_getElem hj
      refine ⟨by rw [getD_any (by omega) true false];exact hc,_,ho,fun e he hb=>?_⟩
      have hlt:=hok.lt j ops[j] (by rw [Array.getElem?_push,if_neg (by omega)];exact ho) e he hb
      exact ih e.on (by omega) (by omega)
     rw [hr] at this
     cases this
theorem lastOp_step {ops:Array Oper} {oL:Oper} {listed:Array Bool} {a:Act} {w:World} (hok:LastOk md ops oL) (hs:listed.size = ops.size) (hr:Region.ready md ops listed = []) (h:lastQ P (ops.push oL) oL Q .normal a w):∀ fuel,wpAny P md (ops.push oL) Q (fuel + 1) (listed.push false) a w:=by
 have hall:=all_listed hok hs hr
 have hL:(ops.push oL)[ops.size]? = some oL:=by simp
 have hmem:ops.size ∈ Region.ready md (ops.push oL) (listed.push false):=by
  rw [mem_ready]
  refine ⟨by rw [<- hs];simp,oL,hL,fun e he hb=>?_⟩
  have:=hok.lt _ _ hL e he hb
  rw [push_getD]
  exact hall _ _ (Nat.lt_succ_self _) this
 have honly:∀ i ∈ Region.ready md (ops.push oL) (listed.push false),i = ops.size:=fun i hi=>by
  obtain ⟨_,o,ho,_⟩:=mem_ready.1 hi
  have hlt:=(Array.getElem?_eq_some_iff.1 ho).1
  simp at hlt
  rcases Nat.lt_or_ge i ops.size with h | h
  ·rw [ready_push hs h,hr] at hi;cases hi
  ·omega
 have hdone:Region.ready md (ops.push oL) ((listed.push false).setIfInBounds ops.size true) = []:=by
  apply List.eq_nil_iff_forall_not_mem.2
  intro i hi
  have h0:=(mem_ready.1 hi).1
  obtain ⟨_,o,ho,_⟩:=mem_ready.1 hi
  have hlt:=(Array.getElem?_eq_some_iff.1 ho).1
  simp at hlt
  by_cases c:ops.size = i
  ·subst c
   rw [<- hs] at h0
   simp at h0
  ·rw [_root_.Go.getD_set_ne true c,getD_any (by simp;omega) true false,push_getD,hall (i + 1) i (Nat.lt_succ_self _) (by omega)] at h0
   cases h0
 intro fuel
 refine ⟨fun h0=>(by rw [h0] at hmem;cases hmem),fun i hi=>?_⟩
 obtain rfl:=honly i hi
 have hfin:∀ a w,wpList P (ops.push oL) Q [] a w -> wpAny P md (ops.push oL) Q fuel ((listed.push false).setIfInBounds ops.size true) a w:=fun a w h=>wpAny_done hdone h fuel
 have h':if Region.wanted oL (yielded (ops.push oL) a.tmps) then oL.wp P a w (wpList P (ops.push oL) Q []) Q \/ (oL.asks P a w /\ LetsOut Q) else wpList P (ops.push oL) Q [] (a.put oL.dst undef) w:=h
 refine wpOp_mono hfin ?_
 unfold wpOp
 rw [hL]
 exact h'
theorem any_last {ops:Array Oper} {oL:Oper} (hok:LastOk md ops oL):∀ (fuel:Nat) (listed:Array Bool) (a:Act) (w:World),listed.size = ops.size -> Down md ops listed -> wpAnyH P md ops (lastQ P (ops.push oL) oL Q) S fuel listed a w -> wpAny P md (ops.push oL) Q (fuel + 1) (listed.push false) a w:=by
 intro fuel
 induction fuel with
 | zero=>intro listed a w hs hd h;exact lastOp_step hok hs h.1 h.2 0
 | succ fuel ih =>
   intro listed a w hs hd h
   by_cases hr:Region.ready md ops listed = []
   ·exact lastOp_step hok hs hr (h.1 hr) (fuel + 1)
   ·obtain ⟨i0,hi0⟩:=List.exists_mem_of_ne_nil _ hr
    have hL:(ops.push oL)[ops.size]? = some oL:=by simp
    have hno:ops.size ∉ Region.ready md (ops.push oL) (listed.push false):=fun hm=>by
     obtain ⟨_,o,ho,hall⟩:=mem_ready.1 hm
     rw [hL] at ho
     obtain rfl:=Option.some.inj ho
     obtain ⟨h0,o',ho',_⟩:=mem_ready.1 hi0
     have hlt:=(Array.getElem?_eq_some_iff.1 ho').1
     obtain ⟨n,hn⟩:=hok.all i0 hlt
     have:=waits_listed (down_push hs hd) n _ _ hn (fun o ho=>by
      rw [hL] at ho
      obtain rfl:=Option.some.inj ho
      exact hall)
     rw [push_getD,getD_any (by omega) false true,h0] at this
     cases this
    have hto:∀ i ∈ Region.ready md (ops.push oL) (listed.push false),i < ops.size /\ i ∈ Region.ready md ops listed:=fun i hi=>by
     obtain ⟨_,o,ho,_⟩:=mem_ready.1 hi
     have hlt:=(Array.getElem?_eq_some_iff.1 ho).1
     simp at hlt
     have hne:i ≠ ops.size:=fun e=>hno (by rw [<- e];exact hi)
     have hl:i < ops.size:=by omega
     exact ⟨hl,(ready_push hs hl).1 hi⟩
    refine ⟨fun h0=>?_,fun i hi=>?_⟩
    ·have:=(ready_push (md:=md) (oL:=oL) hs (Array.getElem?_eq_some_iff.1 (mem_ready.1 hi0).2.choose_spec.1).1).2 hi0
     rw [h0] at this
     cases this
    ·obtain ⟨hl,hi'⟩:=hto i hi
     have h1:=h.2 i hi'
     have ho:ops[i]? = some ops[i]:=Array.getElem?_eq_getElem hl
     have ho2:(ops.push oL)[i]? = some ops[i]:=by rw [Array.getElem?_push,if_neg (by omega)];exact ho
     have hg:=hok.gd i _ ho2
     have hw:∀ os:Array Oper,Region.wanted ops[i] (yielded os a.tmps) = true:=fun os=>by simp [Region.wanted,hg]
     have hK:∀ a' w',(S w' /\ wpAnyH P md ops (lastQ P (ops.push oL) oL Q) S fuel (listed.setIfInBounds i true) a' w') -> wpAny P md (ops.push oL) Q (fuel + 1) ((listed.push false).setIfInBounds i true) a' w':=fun a' w' hh=>by
      have:=ih (listed.setIfInBounds i true) a' w' (by simpa using hs) (down_set hd hi') hh.2
      have e:(listed.setIfInBounds i true).push false = (listed.push false).setIfInBounds i true:=by
       have hil:i < listed.size:=by omega
       apply Array.ext_getElem?
       intro k
       simp only [Array.getElem?_push,Array.getElem?_setIfInBounds,Array.size_setIfInBounds,Array.size_push]
       by_cases ck:k = listed.size
       ·have:i ≠ k:=by omega
        simp [ck,hil,show i ≠ listed.size by omega]
       ·by_cases cik:i = k
        ·subst cik
         simp [hil,ck,Nat.lt_succ_of_lt hil]
        ·simp [ck,cik]
      rw [<- e];exact this
     unfold wpOp at h1 ⊢
     rw [ho] at h1
     rw [ho2]
     simp only [hw,if_true] at h1 ⊢
     rcases h1 with h1 | ⟨h1,h2⟩
     ·exact .inl (wp_last hK h1)
     ·exact .inr ⟨h1,letsOut_last h2⟩
theorem region_last {id:Nat} {ops all:Array Oper} {oL:Oper} {a:Act} {w:World} (he:all = ops.push oL) (hm:P.follows .mixedOrders = true) (hl:lastOk .any (ops.push oL) = true) (hS:S w.drew)
 (h:S w.drew -> wpAnyH P .any ops (lastQ P (ops.push oL) oL Q) S ops.size (Array.replicate ops.size false) a w.drew):(Code.region id all true).wp P Q a w:=by
 subst he
 refine wp_region_any hm ?_
 have:=any_last (S:=S) (lastOk_of hl) ops.size (Array.replicate ops.size false) a w.drew (by simp) (fun j o ho hj=>by
  by_cases c:j < ops.size <;> simp [c] at hj) (h hS)
 have e:Array.replicate (ops.push oL).size false = (Array.replicate ops.size false).push false:=by rw [Array.size_push,Array.replicate_succ]
 rw [e,Array.size_push]
 exact this
theorem region_late {id:Nat} {ops all:Array Oper} {oL:Oper} {a:Act} {w:World} (hp:all.pop = ops) (hb:all.back? = some oL) (hm:P.follows .mixedOrders = true) (hl:lastOk .any all = true) (hS:S w.drew)
 (h:S w.drew -> wpAnyH P .any ops (lastQ P (ops.push oL) oL Q) S ops.size (Array.replicate ops.size false) a w.drew):(Code.region id all true).wp P Q a w:=by
 have he:all = ops.push oL:=by
  subst hp
  have hne:all.size ≠ 0:=fun h0=>by
   have:all = #[]:=Array.eq_empty_of_size_eq_zero h0
   subst this
   simp at hb
  rw [Array.back?_eq_getElem?] at hb
  obtain ⟨h1,h2⟩:=Array.getElem?_eq_some_iff.1 hb
  apply Array.ext_getElem?
  intro k
  rw [Array.getElem?_push,Array.getElem?_pop,Array.size_pop]
  by_cases c:k = all.size - 1
  ·subst c;simp [hb]
  ·by_cases c2:k < all.size - 1
   ·simp [c]
    intro hk
    omega
   ·simp [c]
    intro hk
    omega
 exact region_last (S:=S) he hm (by rw [<- he];exact hl) hS h
theorem lastQ_normal {ops:Array Oper} {o:Oper} {a:Act} {w:World} (h:wpList P ops Q [o] a w):lastQ P ops o Q .normal a w:=h
end
section
variable {P:Program} {md:Region.Mode} {Q:Exit -> Act -> World -> Prop} {S:World -> Prop}
theorem held_of_any {ops:Array Oper}:∀ (fuel:Nat) (listed:Array Bool) (a:Act) (w:World),wpAny P md ops Q fuel listed a w -> wpAnyH P md ops Q (fun _=>True) fuel listed a w
 | 0,_,_,_,h=>h
 | fuel + 1,_,_,_,h=>⟨h.1,fun i hi=>wpOp_mono (fun a' w' h'=>⟨trivial,held_of_any fuel _ a' w' h'⟩) (h.2 i hi)⟩
theorem region_last2 {id:Nat} {ops all:Array Oper} {o1 o2:Oper} {a:Act} {w:World} (he:all = (ops.push o1).push o2) (hm:P.follows .mixedOrders = true) (hl1:lastOk .any (ops.push o1) = true) (hl2:lastOk .any ((ops.push o1).push o2) = true) (hS:S w.drew)
 (h:S w.drew -> wpAnyH P .any ops (lastQ P (ops.push o1) o1 (lastQ P ((ops.push o1).push o2) o2 Q)) S ops.size (Array.replicate ops.size false) a w.drew):(Code.region id all true).wp P Q a w:=by
 refine region_last (S:=fun _=>True) he hm hl2 trivial (fun _=>?_)
 have:=any_last (Q:=lastQ P ((ops.push o1).push o2) o2 Q) (S:=S) (lastOk_of hl1) ops.size (Array.replicate ops.size false) a w.drew (by simp) (fun j o ho hj=>by
  by_cases c:j < ops.size <;> simp [c] at hj) (h hS)
 have e:Array.replicate (ops.push o1).size false = (Array.replicate ops.size false).push false:=by rw [Array.size_push,Array.replicate_succ]
 rw [e,Array.size_push]
 exact held_of_any _ _ _ _ this
theorem push_of_back {all ops:Array Oper} {oL:Oper} (hp:all.pop = ops) (hb:all.back? = some oL):all = ops.push oL:=by
 subst hp
 have hne:all.size ≠ 0:=fun h0=>by
  have:all = #[]:=Array.eq_empty_of_size_eq_zero h0
  subst this
  simp at hb
 rw [Array.back?_eq_getElem?] at hb
 obtain ⟨h1,h2⟩:=Array.getElem?_eq_some_iff.1 hb
 apply Array.ext_getElem?
 intro k
 rw [Array.getElem?_push,Array.getElem?_pop,Array.size_pop]
 by_cases c:k = all.size - 1
 ·subst c;simp [hb]
 ·by_cases c2:k < all.size - 1
  ·simp [c]
   intro hk
   omega
  ·simp [c]
   intro hk
   omega
theorem region_late2 {id:Nat} {ops ops1 all:Array Oper} {o1 o2:Oper} {a:Act} {w:World} (hp2:all.pop = ops1) (hp1:ops1.pop = ops) (hb2:all.back? = some o2) (hb1:ops1.back? = some o1) (hm:P.follows .mixedOrders = true)
 (hl1:lastOk .any ops1 = true) (hl2:lastOk .any all = true) (hS:S w.drew)
 (h:S w.drew -> wpAnyH P .any ops (lastQ P ops1 o1 (lastQ P all o2 Q)) S ops.size (Array.replicate ops.size false) a w.drew):(Code.region id all true).wp P Q a w:=by
 have e1:=push_of_back hp1 hb1
 have e2:=push_of_back hp2 hb2
 subst e1
 subst e2
 exact region_last2 (S:=S) rfl hm hl1 hl2 hS h
end
end Go.Proofs.YtaalagkbpeinkaaGreat
