/- Packed: TKp9, TAc9. -/
import Derived.Test.YtlklmhojadlncaaGreatTk30
import Derived.Lib.SmallJoins
import Derived.Deep.Slices
set_option linter.unusedSimpArgs false
set_option linter.unusedVariables false
set_option maxRecDepth 100000
namespace Go.Proofs.YtlklmhojadlncaaGreat
open Go.RowKit
theorem Tryz.infoU64:(Tryz.prog.info? 36).map (fun i=>(i.zero,i.size,i.bytes))=some (some (.int .u64 0),1,8):=by kernel_rfl
theorem Tryz.infoBool:(Tryz.prog.info? 4).map (fun i=>(i.zero,i.size,i.bytes))=some (some (.bool false),1,1):=by kernel_rfl
theorem run_make_u3 (W:World):(Instr.makeSlice 35 (.int .i64 3) (.int .i64 3)).run Tryz.prog W=.ok (.slice (some ⟨W.heap.size,0,none⟩) 3 3) (W.alloc (.cells (us9 [0,0,0]).toArray 36)):=by
 have h:=run_make_row' (P:=Tryz.prog) 35 36 _ 8 Tryz.underlying35 Tryz.infoU64 rfl .i64 .i64 3 (by decide) (by decide) W
 have e:madeCells #[Value.int .u64 0] 3=(us9 [0,0,0]).toArray:=by
  apply Array.ext'
  have:=made_list (.int .u64 0) 3
  rw[List.take_of_length_le (by simp[madeCells])] at this
  rw[this]
  rfl
 rw[e] at h
 exact h
theorem run_make_bs (W:World) {n:Nat} (hn:n<=9):(Instr.makeSlice 37 (.int .i64 (n:Int)) (.int .i64 (n:Int))).run Tryz.prog W=.ok (.slice (some ⟨W.heap.size,0,none⟩) n n) (W.alloc (.cells (bools (List.replicate n false)).toArray 4)):=by
 have h:=run_make_row' (P:=Tryz.prog) 37 4 _ 1 Tryz.underlying37 Tryz.infoBool rfl .i64 .i64 n (by omega) (by omega) W
 rw[h]
 congr 3
 apply Array.ext'
 have:=made_list (.bool false) n
 rw[List.take_of_length_le (by simp[madeCells])] at this
 rw[this]
 simp[bools]
section
variable {F:Nat->Prop} {w0:World} {w w':World} {x bq bz s a:Nat} {g:SP.Geo} {R:AM.Raw}
theorem top_start (i:SI F w s a g R) (b:Base w0 F w) (gr:w.grownBy w' none) (hx:w'.heap[x]?=some (.cells (kcells s g [.slice none 0 0,.slice none 0 0,.slice none 0 0] bq 1 bz).toArray 40 (0,0)))
 (hq:w'.heap[bq]?=some (.cells (us9 [0,0,0]).toArray 36 (0,0))) (hz:w'.heap[bz]?=some (.cells (bools (List.replicate g.n false)).toArray 4 (0,0))) (lx:w.heap.size<=x) (lq:w.heap.size<=bq) (lz:w.heap.size<=bz) (hn:g.n<=9) :
 Top9 F (Fr9.of w0) w' x bq bz s a g R [.slice none 0 0,.slice none 0 0,.slice none 0 0] [[],[],[]] [0,0,0] (List.replicate g.n false) 1:=by
 have far:∀ k,w.heap.size<=k->¬ F k:=fun k hk hf=>by have:=i.i.lt k hf;omega
 have hs:=b.grown.size
 have en:∀ j,j < 3->([.slice none 0 0,.slice none 0 0,.slice none 0 0]:List Value).getD j undef=.slice none 0 0/\([[],[],[]]:List (List Nat)).getD j []=[]:=fun j hj=>by
  match j,hj with
  | 0,_=>exact⟨rfl,rfl⟩
  | 1,_=>exact⟨rfl,rfl⟩
  | 2,_=>exact⟨rfl,rfl⟩
 refine⟨i.keep gr,b.keep gr,hx,hq,hz,far x lx,far bq lq,far bz lz,Nat.le_trans hs lx,Nat.le_trans hs lq,Nat.le_trans hs lz,rfl,rfl,by simp,hn,fun j hj=>?_,fun j hj c hc=>?_,fun i o hi=>by cases hi⟩
 ·rw[(en j hj).1,(en j hj).2]
  exact⟨⟨by simp,by simp,none,0,rfl,Nat.le_refl _,by decide,fun h=>absurd rfl h⟩,fun h=>absurd rfl h⟩
 ·rw[(en j hj).1] at hc
  cases hc
end
theorem three_new (w:World) (A B C:Obj):(((w.alloc A).alloc B).alloc C).drew.heap[w.heap.size]?=some A/\(((w.alloc A).alloc B).alloc C).drew.heap[w.heap.size+1]?=some B/\(((w.alloc A).alloc B).alloc C).drew.heap[w.heap.size+1+1]?=some C/\w.grownBy (((w.alloc A).alloc B).alloc C).drew none:=by
 have s1:(w.alloc A).heap.size=w.heap.size+1:=World.size_alloc _ _
 have s2:((w.alloc A).alloc B).heap.size=w.heap.size+1+1:=by rw[World.size_alloc,s1]
 have g2:=World.grownBy_alloc (w.alloc A) B none
 have g3:=World.grownBy_alloc ((w.alloc A).alloc B) C none
 have h1:(w.alloc A).heap[w.heap.size]?=some A:=heap_new _ _ _ rfl
 have h2:((w.alloc A).alloc B).heap[w.heap.size+1]?=some B:=heap_new _ _ _ s1.symm
 have h3:(((w.alloc A).alloc B).alloc C).heap[w.heap.size+1+1]?=some C:=heap_new _ _ _ s2.symm
 refine⟨?_,?_,h3,grown_trans (World.grownBy_alloc w A none) (grown_trans g2 (grown_trans g3 (grown_drewN _ 1)))⟩
 ·show (((w.alloc A).alloc B).alloc C).heap[w.heap.size]?=some A
  rw[g3.block _ (by rw[s2];omega) (by simp),g2.block _ (by rw[s1];omega) (by simp)]
  exact h1
 ·show (((w.alloc A).alloc B).alloc C).heap[w.heap.size+1]?=some B
  rw[g3.block _ (by rw[s2];omega) (by simp)]
  exact h2
def KMade (w0 w:World) (x k N:Nat):Prop:=∃ bq bz s a R xss st,Now 3 (Fr9.of w0) w x bq bz s a ⟨k,N,3,0⟩ R xss st (List.replicate N false) 4/\∀ d:Nat,d < N->R.on (d:Int)=true
set_option maxHeartbeats 12800000 in
theorem kmade_yes (w:World) {k m:Nat} (h1:1<=k) (h2:k<=5) (h3:1<=m) (h4:m<=4) :
 Calls Tryz.prog 4 #[.int .i64 (k:Int),.int .i64 (m:Int)] w fun e w'=>∃ x,e=.returned (ptr x)/\KMade w w' x k (k+m):=by
 have HM:Hid (Calls Tryz.prog 8 #[.int .i64 (k:Int),.int .i64 (m:Int),.int .i64 3,.int .i64 0] w fun e w'=>∃ s t,e=.returned (.tuple #[ptr s,.pointer (some ⟨t,0,none⟩)])/\∃ F G a r,Duo F G w w' s a t r ⟨k,k+m,3,0⟩ (AM.Raw.new (k+m) (0+8 * 3))):=made8_yes w (S:=3) (f:=0) h1 h3 (by omega) (by omega) (by omega) (by omega)
 obtain⟨N,hN⟩:∃ N,N=k+m:=⟨_,rfl⟩
 have HK:Hid (1<=k/\k<=5/\1<=m/\m<=4/\N=k+m):=⟨h1,h2,h3,h4,hN⟩
 have hw1:IntKind.i64.wrap ((k:Int)+(m:Int))=(N:Int):=by
  have e:(k:Int)+(m:Int)=(N:Int):=by omega
  rw[e];exact IntWalk.i64_in _ (by omega)
 have hmu:∀ W,(Instr.makeSlice 35 (.int .i64 3) (.int .i64 3)).run Tryz.prog W=.ok (.slice (some ⟨W.heap.size,0,none⟩) 3 3) (W.alloc (.cells (us9 [0,0,0]).toArray 36)):=run_make_u3
 have hmb:∀ W,(Instr.makeSlice 37 (.int .i64 (N:Int)) (.int .i64 (N:Int))).run Tryz.prog W=.ok (.slice (some ⟨W.heap.size,0,none⟩) N N) (W.alloc (.cells (bools (List.replicate N false)).toArray 4)):=fun W=>run_make_bs W (by omega)
 rw[<- hN] at HM
 rw[<- hN]
 obtain⟨rowU,hrU⟩:∃ rowU,rowU=(Obj.cells (us9 [0,0,0]).toArray 36):=⟨_,rfl⟩
 obtain⟨rowB,hrB⟩:∃ rowB,rowB=(Obj.cells (bools (List.replicate N false)).toArray 4):=⟨_,rfl⟩
 have HRW:Hid (rowU=(Obj.cells (us9 [0,0,0]).toArray 36)/\rowB=(Obj.cells (bools (List.replicate N false)).toArray 4)):=⟨hrU,hrB⟩
 rw[<- hrU] at hmu
 rw[<- hrB] at hmb
 clear h1 h2 h3 h4 hN hrU hrB
 go_enter Tryz.func4,Tryz.ntmps4
 go_wp2_with (go_at_call 8;refine HM.out.mono ?_;rintro e w3 ⟨s,t9,rfl,F,G,a,r,hdu⟩;have DU:Hid (Duo F G w w3 s a t9 r ⟨k,N,3,0⟩ (AM.Raw.new N (0+8 * 3))):=hdu;clear hdu)
 refine wp_region_held_drew (S:=fun _=>True) (by kernel_rfl) ?_ (fun hHeld=>?_)
 ·trivial
 refine wpAnyH_take (i:=0) (v:=?_) rfl (by kernel_rfl) (by kernel_rfl) (by kernel_rfl) (fun _ _ _ h=>h) (Or.inl ⟨by rfl,?_⟩) (by assumption) ?_
 rotate_left
 ·intro w hSw;(try dsimp only at hSw);first | (go_simp;done) | (go_simp;with_reducible rfl)
 simp only[Act.put,lay9]
 refine wpAnyH_take (i:=1) (v:=?_) rfl (by kernel_rfl) (by kernel_rfl) (by kernel_rfl) (fun _ _ _ h=>h) (Or.inl ⟨by rfl,?_⟩) (by assumption) ?_
 rotate_left
 ·intro w hSw;(try dsimp only at hSw);first | (go_simp;done) | (go_simp;with_reducible rfl)
 simp only[Act.put,lay9]
 refine wpAnyH_take (i:=2) (v:=?_) rfl (by kernel_rfl) (by kernel_rfl) (by kernel_rfl) (fun _ _ _ h=>h) (Or.inl ⟨by rfl,?_⟩) (by assumption) ?_
 rotate_left
 ·intro w hSw;(try dsimp only at hSw);first | (go_simp;done) | (go_simp;with_reducible rfl)
 simp only[Act.put,lay9]
 refine wpAnyH_take (i:=3) (v:=?_) rfl (by kernel_rfl) (by kernel_rfl) (by kernel_rfl) (fun _ _ _ h=>h) (Or.inl ⟨by rfl,?_⟩) (by assumption) ?_
 rotate_left
 ·intro w hSw;(try dsimp only at hSw);first | (go_simp;done) | (go_simp;with_reducible rfl)
 simp only[Act.put,lay9]
 refine wpAnyH_take (i:=4) (v:=?_) rfl (by kernel_rfl) (by kernel_rfl) (by kernel_rfl) (fun _ _ _ h=>h) (Or.inl ⟨by rfl,?_⟩) (by assumption) ?_
 rotate_left
 ·intro w hSw;(try dsimp only at hSw);first | (go_simp;done) | (go_simp;with_reducible rfl)
 simp only[Act.put,lay9]
 refine wpAnyH_take (i:=6) (v:=?_) rfl (by kernel_rfl) (by kernel_rfl) (by kernel_rfl) (fun _ _ _ h=>h) (Or.inl ⟨by rfl,?_⟩) (by assumption) ?_
 rotate_left
 ·intro w hSw;(try dsimp only at hSw);first | (go_simp;done) | (go_simp;with_reducible rfl)
 simp only[Act.put,lay9]
 refine wpAnyH_take (i:=7) (v:=?_) rfl (by kernel_rfl) (by kernel_rfl) (by kernel_rfl) (fun _ _ _ h=>h) (Or.inl ⟨by rfl,?_⟩) (by assumption) ?_
 rotate_left
 ·intro w hSw;(try dsimp only at hSw);first | (go_simp;done) | (go_simp;with_reducible rfl)
 simp only[Act.put,lay9]
 refine wpAnyH_take (i:=8) (v:=?_) rfl (by kernel_rfl) (by kernel_rfl) (by kernel_rfl) (fun _ _ _ h=>h) (Or.inl ⟨by rfl,?_⟩) (by assumption) ?_
 rotate_left
 ·intro w hSw;(try dsimp only at hSw);first | (go_simp;done) | (go_simp;with_reducible rfl)
 simp only[Act.put,lay9]
 refine wpAnyH_ready (rs:=[5,9]) (by kernel_rfl) (by simp) ?_
 refine AllReadyH.cons rfl (fun K hK=>?_) (AllReadyH.cons rfl (fun K hK=>?_) AllReadyH.nil)
 ·go_simp
  refine hK.out _ _ (trivial) (fun hHeld=>?_)
  clear hK K
  (try simp only[Act.put,lay9])
  refine wpAnyH_ready (rs:=[9]) (by kernel_rfl) (by simp) ?_
  refine AllReadyH.cons rfl (fun K hK=>?_) AllReadyH.nil
  go_simp
  refine hK.out _ _ (trivial) (fun hHeld=>?_)
  clear hK K
  (try simp only[Act.put,lay9])
  refine wpAnyH_take (i:=10) (v:=?_) rfl (by kernel_rfl) (by kernel_rfl) (by kernel_rfl) (fun _ _ _ h=>h) (Or.inl ⟨by rfl,?_⟩) (by assumption) ?_
  rotate_left
  ·intro w hSw;(try dsimp only at hSw);first | (go_simp;done) | (go_simp;with_reducible rfl)
  simp only[Act.put,lay9]
  refine wpAnyH_ready (rs:=[11]) (by kernel_rfl) (by simp) ?_
  refine AllReadyH.cons rfl (fun K hK=>?_) AllReadyH.nil
  go_simp
  refine hK.out _ _ (trivial) (fun hHeld=>?_)
  clear hK K
  (try simp only[Act.put,lay9])
  refine wpAnyH_take (i:=12) (v:=?_) rfl (by kernel_rfl) (by kernel_rfl) (by kernel_rfl) (fun _ _ _ h=>h) (Or.inl ⟨by rfl,?_⟩) (by assumption) ?_
  rotate_left
  ·intro w hSw;(try dsimp only at hSw);first | (go_simp;done) | (go_simp;with_reducible rfl)
  simp only[Act.put,lay9]
  refine wpAnyH_done (by kernel_rfl) ?_ _
  have TN:Hid (Now 0 (Fr9.of w) (((w3.alloc rowU).alloc rowB).alloc (.cells #[ptr s,.int .i64 (k:Int),.int .i64 (N:Int),.slice none 0 0,.slice none 0 0,.slice none 0 0,.slice (some ⟨w3.heap.size,0,none⟩) 3 3,.int .u64 1,.slice (some ⟨w3.heap.size+1,0,none⟩) N N] 40)).drew (w3.heap.size+1+1) (w3.heap.size) (w3.heap.size+1) s a ⟨k,N,3,0⟩ (AM.Raw.new N (0+8 * 3)) [[],[],[]] [0,0,0] (List.replicate N false) 1):=by
   obtain⟨y1,y2,y3,y4⟩:=three_new w3 rowU rowB (.cells #[ptr s,.int .i64 (k:Int),.int .i64 (N:Int),.slice none 0 0,.slice none 0 0,.slice none 0 0,.slice (some ⟨w3.heap.size,0,none⟩) 3 3,.int .u64 1,.slice (some ⟨w3.heap.size+1,0,none⟩) N N] 40)
   obtain⟨e1,e2⟩:=HRW.out
   rw[e1,e2] at y1 y2 y3 y4 ⊢
   refine⟨(top_start DU.out.i ⟨DU.out.gr,DU.out.bi⟩ y4 y3 y1 y2 (by omega) (by omega) (by omega) (by have:=HK.out;show N<=9;omega)).km,?_,rfl,rfl,rfl⟩
   rw[HK.out.2.2.2.2]
   exact SP.Kp.first HK.out.1 HK.out.2.1 HK.out.2.2.1 HK.out.2.2.2.1
  generalize (((w3.alloc rowU).alloc rowB).alloc (.cells #[ptr s,.int .i64 (k:Int),.int .i64 (N:Int),.slice none 0 0,.slice none 0 0,.slice none 0 0,.slice (some ⟨w3.heap.size,0,none⟩) 3 3,.int .u64 1,.slice (some ⟨w3.heap.size+1,0,none⟩) N N] 40)).drew=w4 at TN ⊢
  obtain⟨xk,hxk⟩:∃ xk,xk=w3.heap.size+1+1:=⟨_,rfl⟩
  rw[<- hxk] at TN ⊢
  generalize w3.heap.size+1=b8 at TN ⊢
  generalize w3.heap.size=b7 at TN ⊢
  have HI0:Hid (∃ R xss st,Now 0 (Fr9.of w) w4 xk b7 b8 s a ⟨k,N,3,0⟩ R xss st (List.replicate N false) (1+0)/\∀ d:Nat,d < N->R.on (d:Int)=true):=⟨_,_,_,TN.out,fun d hd=>SP.on_all (by have:=HK.out;omega) (by have:=HK.out;omega) (by omega) (by omega) hd⟩
  clear TN DU HM HRW hmu hmb hxk
  go_wp2_with fail
  go_loopw [29] (fun ti wr=>∃ j:Nat,j<=3/\ti=.int .i64 j/\Hid (∃ R xss st,Now j (Fr9.of w) wr xk b7 b8 s a ⟨k,N,3,0⟩ R xss st (List.replicate N false) (1+j)/\∀ d:Nat,d < N->R.on (d:Int)=true)) (fun ti _=>3 - (intOf ti).toNat)
  case atStart=>exact⟨0,by omega,rfl,HI0⟩
  case round =>
   clear HI0
   obtain⟨j,hj,rfl,HI⟩:=hrel
   by_cases hlt:j < 3
   ·have i3:(j:Int) < 3:=by omega
    have hwj:IntKind.u8.wrap (j:Int)=(j:Int):=by rw[IntKind.wrap_u8];omega
    obtain⟨R5,xss5,st5,n5,o5⟩:=HI.out
    have N5:Hid (Now j (Fr9.of w) wr xk b7 b8 s a ⟨k,N,3,0⟩ R5 xss5 st5 (List.replicate N false) (1+j)/\∀ d:Nat,d < N->R5.on (d:Int)=true):=⟨n5,o5⟩
    have HJ:Hid (j < 3):=hlt
    clear n5 o5 HI
    go_wp2_with (go_at_call 9;refine (N5.out.1.write (slot:=j) (b:=j) (t':=j+1) HJ.out (by have:=HJ.out;omega) (by have:=HJ.out;omega) (fun i h1 h2=>by omega) (by omega) (by have:=HJ.out;omega)).mono ?_;rintro e w6 ⟨rfl,R6,q6,n6⟩;have N6:Hid (Now (j+1) (Fr9.of w) w6 xk b7 b8 s a ⟨k,N,3,0⟩ R6 (xss5.set j (datL k j)) (st5.set j (1+j)) (List.replicate N false) (1+j+1)/\SP.Kept R5 R6):=⟨n6,q6⟩;clear n6 q6)
    go_roundw
    case rel=>exact⟨j+1,by omega,by go_num,R6,_,_,N6.out.1,fun d hd=>(N6.out.2.on d).trans (N5.out.2 d hd)⟩
    case measure=>simp[intOf];omega
   ·have i3:¬ (j:Int) < 3:=by omega
    obtain rfl:j=3:=by omega
    go_wp2
    go_ret
    obtain⟨R5,xss5,st5,n5,o5⟩:=HI.out
    exact⟨xk,rfl,_,_,s,a,R5,xss5,st5,n5,o5⟩
 ·go_simp
  refine hK.out _ _ (trivial) (fun hHeld=>?_)
  clear hK K
  (try simp only[Act.put,lay9])
  refine wpAnyH_ready (rs:=[5]) (by kernel_rfl) (by simp) ?_
  refine AllReadyH.cons rfl (fun K hK=>?_) AllReadyH.nil
  go_simp
  refine hK.out _ _ (trivial) (fun hHeld=>?_)
  clear hK K
  (try simp only[Act.put,lay9])
  refine wpAnyH_take (i:=10) (v:=?_) rfl (by kernel_rfl) (by kernel_rfl) (by kernel_rfl) (fun _ _ _ h=>h) (Or.inl ⟨by rfl,?_⟩) (by assumption) ?_
  rotate_left
  ·intro w hSw;(try dsimp only at hSw);first | (go_simp;done) | (go_simp;with_reducible rfl)
  simp only[Act.put,lay9]
  refine wpAnyH_ready (rs:=[11]) (by kernel_rfl) (by simp) ?_
  refine AllReadyH.cons rfl (fun K hK=>?_) AllReadyH.nil
  go_simp
  refine hK.out _ _ (trivial) (fun hHeld=>?_)
  clear hK K
  (try simp only[Act.put,lay9])
  refine wpAnyH_take (i:=12) (v:=?_) rfl (by kernel_rfl) (by kernel_rfl) (by kernel_rfl) (fun _ _ _ h=>h) (Or.inl ⟨by rfl,?_⟩) (by assumption) ?_
  rotate_left
  ·intro w hSw;(try dsimp only at hSw);first | (go_simp;done) | (go_simp;with_reducible rfl)
  simp only[Act.put,lay9]
  refine wpAnyH_done (by kernel_rfl) ?_ _
  have TN:Hid (Now 0 (Fr9.of w) (((w3.alloc rowB).alloc rowU).alloc (.cells #[ptr s,.int .i64 (k:Int),.int .i64 (N:Int),.slice none 0 0,.slice none 0 0,.slice none 0 0,.slice (some ⟨w3.heap.size+1,0,none⟩) 3 3,.int .u64 1,.slice (some ⟨w3.heap.size,0,none⟩) N N] 40)).drew (w3.heap.size+1+1) (w3.heap.size+1) (w3.heap.size) s a ⟨k,N,3,0⟩ (AM.Raw.new N (0+8 * 3)) [[],[],[]] [0,0,0] (List.replicate N false) 1):=by
   obtain⟨y1,y2,y3,y4⟩:=three_new w3 rowB rowU (.cells #[ptr s,.int .i64 (k:Int),.int .i64 (N:Int),.slice none 0 0,.slice none 0 0,.slice none 0 0,.slice (some ⟨w3.heap.size+1,0,none⟩) 3 3,.int .u64 1,.slice (some ⟨w3.heap.size,0,none⟩) N N] 40)
   obtain⟨e1,e2⟩:=HRW.out
   rw[e1,e2] at y1 y2 y3 y4 ⊢
   refine⟨(top_start DU.out.i ⟨DU.out.gr,DU.out.bi⟩ y4 y3 y2 y1 (by omega) (by omega) (by omega) (by have:=HK.out;show N<=9;omega)).km,?_,rfl,rfl,rfl⟩
   rw[HK.out.2.2.2.2]
   exact SP.Kp.first HK.out.1 HK.out.2.1 HK.out.2.2.1 HK.out.2.2.2.1
  generalize (((w3.alloc rowB).alloc rowU).alloc (.cells #[ptr s,.int .i64 (k:Int),.int .i64 (N:Int),.slice none 0 0,.slice none 0 0,.slice none 0 0,.slice (some ⟨w3.heap.size+1,0,none⟩) 3 3,.int .u64 1,.slice (some ⟨w3.heap.size,0,none⟩) N N] 40)).drew=w4 at TN ⊢
  obtain⟨xk,hxk⟩:∃ xk,xk=w3.heap.size+1+1:=⟨_,rfl⟩
  rw[<- hxk] at TN ⊢
  generalize w3.heap.size+1=b8 at TN ⊢
  generalize w3.heap.size=b7 at TN ⊢
  have HI0:Hid (∃ R xss st,Now 0 (Fr9.of w) w4 xk b8 b7 s a ⟨k,N,3,0⟩ R xss st (List.replicate N false) (1+0)/\∀ d:Nat,d < N->R.on (d:Int)=true):=⟨_,_,_,TN.out,fun d hd=>SP.on_all (by have:=HK.out;omega) (by have:=HK.out;omega) (by omega) (by omega) hd⟩
  clear TN DU HM HRW hmu hmb hxk
  go_wp2_with fail
  go_loopw [29] (fun ti wr=>∃ j:Nat,j<=3/\ti=.int .i64 j/\Hid (∃ R xss st,Now j (Fr9.of w) wr xk b8 b7 s a ⟨k,N,3,0⟩ R xss st (List.replicate N false) (1+j)/\∀ d:Nat,d < N->R.on (d:Int)=true)) (fun ti _=>3 - (intOf ti).toNat)
  case atStart=>exact⟨0,by omega,rfl,HI0⟩
  case round =>
   clear HI0
   obtain⟨j,hj,rfl,HI⟩:=hrel
   by_cases hlt:j < 3
   ·have i3:(j:Int) < 3:=by omega
    have hwj:IntKind.u8.wrap (j:Int)=(j:Int):=by rw[IntKind.wrap_u8];omega
    obtain⟨R5,xss5,st5,n5,o5⟩:=HI.out
    have N5:Hid (Now j (Fr9.of w) wr xk b8 b7 s a ⟨k,N,3,0⟩ R5 xss5 st5 (List.replicate N false) (1+j)/\∀ d:Nat,d < N->R5.on (d:Int)=true):=⟨n5,o5⟩
    have HJ:Hid (j < 3):=hlt
    clear n5 o5 HI
    go_wp2_with (go_at_call 9;refine (N5.out.1.write (slot:=j) (b:=j) (t':=j+1) HJ.out (by have:=HJ.out;omega) (by have:=HJ.out;omega) (fun i h1 h2=>by omega) (by omega) (by have:=HJ.out;omega)).mono ?_;rintro e w6 ⟨rfl,R6,q6,n6⟩;have N6:Hid (Now (j+1) (Fr9.of w) w6 xk b8 b7 s a ⟨k,N,3,0⟩ R6 (xss5.set j (datL k j)) (st5.set j (1+j)) (List.replicate N false) (1+j+1)/\SP.Kept R5 R6):=⟨n6,q6⟩;clear n6 q6)
    go_roundw
    case rel=>exact⟨j+1,by omega,by go_num,R6,_,_,N6.out.1,fun d hd=>(N6.out.2.on d).trans (N5.out.2 d hd)⟩
    case measure=>simp[intOf];omega
   ·have i3:¬ (j:Int) < 3:=by omega
    obtain rfl:j=3:=by omega
    go_wp2
    go_ret
    obtain⟨R5,xss5,st5,n5,o5⟩:=HI.out
    exact⟨xk,rfl,_,_,s,a,R5,xss5,st5,n5,o5⟩
end Go.Proofs.YtlklmhojadlncaaGreat
namespace Go.Proofs.YtlklmhojadlncaaGreat
open Go.ChangeShapes Go.WideShapes Go.ChangeAt Go.RowKit
structure ActR9 where
 what:Nat
 slot:Nat
 disk:Nat
 fuse:Nat
 x:Nat
 bval:Value
 b:List Nat
def acells9 (c:ActR9):List Value:=[.int .u8 (c.what:Int),.int .u8 (c.slot:Int),.int .u8 (c.disk:Int),.int .u8 (c.fuse:Int),.int .u8 (c.x:Int),c.bval]
structure ActOk9 (w:World) (c:ActR9):Prop where
 what:c.what < 256
 slot:c.slot < 256
 disk:c.disk < 256
 fuse:c.fuse < 256
 x:c.x < 256
 vec:Vec w c.bval c.b
structure Acts9 (w:World) (v:Value) (l:List ActR9):Prop where
 len:l.length<=140737488351232
 form:∃ p cap,v=.slice p l.length cap/\(l ≠ []->∃ b off,p=some ⟨b,off,none⟩/\∀ (i:Nat) (c:ActR9),l[i]?=some c->w.rangeAt b (off+i * 6) (acells9 c))
 ok:∀ c ∈ l,ActOk9 w c
theorem ActOk9.keep {w w':World} {c:ActR9} (h:ActOk9 w c) (g:w.grownBy w' none):ActOk9 w' c:=⟨h.what,h.slot,h.disk,h.fuse,h.x,h.vec.keep g⟩
theorem Acts9.keep {w w':World} {v:Value} {l:List ActR9} (h:Acts9 w v l) (g:w.grownBy w' none):Acts9 w' v l:=by
 refine⟨h.len,?_,fun c hc=>(h.ok c hc).keep g⟩
 obtain⟨p,cap,rfl,h2⟩:=h.form
 refine⟨p,cap,rfl,fun hl=>?_⟩
 obtain⟨b,off,e,h3⟩:=h2 hl
 exact⟨b,off,e,fun i c hc j u hj=>g.cell (h3 i c hc j u hj) (by simp)⟩
theorem Acts9.opened {w:World} {v:Value} {l:List ActR9} (h:Acts9 w v l):∃ p n cap,v=.slice p n cap/\n=l.length:=by
 obtain⟨p,cap,e,_⟩:=h.form
 exact⟨p,_,cap,e,rfl⟩
theorem Acts9.at {w:World} {p:Option Addr} {n cap:Nat} {l:List ActR9} (h:Acts9 w (.slice p n cap) l) {i:Nat} (hi:i < l.length):∃ b off,p=some ⟨b,off,none⟩/\w.rangeAt b (off+i * 6) (acells9 l[i])/\ActOk9 w l[i]:=by
 obtain⟨p',cap',e,h2⟩:=h.form
 injection e with e1 _ _
 subst e1
 obtain⟨b,off,e,h3⟩:=h2 (fun e=>by subst e;simp at hi)
 exact⟨b,off,e,h3 i _ (List.getElem?_eq_getElem hi),h.ok _ (List.getElem_mem hi)⟩
theorem Tryz.cellsAct9:Tryz.prog.cellsOf 28=6:=by kernel_rfl
theorem Tryz.bytesAct9:24<=Tryz.prog.bytesOf 28:=by decide +kernel
section
variable {H:Type} {enc:TypeId × Value->H}
theorem weights_all9 {P:Program} {t:TypeId}:∀ {l:List (DataW H)} {d:DataW H},d ∈ l->∀ n ∈ d.weights P t,n ∈ DataW.weightsAll P t l:=by
 intro l
 induction l with
 | nil=>intro d h;cases h
 | cons x r ih =>
   intro d h n hn
   simp only[DataW.weightsAll,List.mem_append]
   rcases List.mem_cons.1 h with rfl | h
   ·exact .inl hn
   ·exact .inr (ih h n hn)
theorem vec_trodP {W:World} {v:Value} {y:DataW H × List MemPlace} {fuel:Nat} (hf:DataW.trod enc Tryz.prog W 0 (fun _=>true) true fuel 26 [v]=some y)
 (hz:∀ elems spare,y.1=.slice elems spare->(elems.length+spare.length) * Tryz.prog.bytesOf 5<=reachBytes):∃ xs,Vec W v xs:=by
 rcases open_ints Tryz.underlying26 Tryz.underlying5 Tryz.cells5 hf with ⟨hcs,_⟩ | ⟨x,l,c,zs,hcs,_,hl,hm,hzz,hx,hcell,hwz⟩
 ·simp at hcs
  subst hcs
  exact⟨[],by simp,by simp,none,0,rfl,Nat.le_refl _,by decide,fun h=>absurd rfl h⟩
 ·simp at hcs
  subst hcs
  simp only[if_true] at hzz
  have hb:=hz _ _ (by rw[hx])
  rw[Tryz.bytes5] at hb
  simp only[lits,List.length_map,List.length_take,List.length_drop,reachBytes] at hb
  refine⟨_,vec_of (zs:=zs) hl hm (by omega) (by omega) hwz (by simp) (fun a ha c hc=>?_)⟩
  cases ha
  exact hcell c (by omega)
theorem act_trod9 {W:World} {cs:List Value} {y:DataW H × List MemPlace} {fuel:Nat} (hf:DataW.trod enc Tryz.prog W 0 (fun _=>true) true fuel 28 cs=some y)
 (hz:∀ n ∈ y.1.weights Tryz.prog 28,n<=reachBytes):∃ c:ActR9,cs=acells9 c/\ActOk9 W c:=by
 obtain⟨q,n,_,hx,hl,hlen,hff⟩:=DataW.trod_struct Tryz.underlying28 hf
 have h8:=hl.trans Tryz.cellsAct9
 match cs,h8 with
 | [c0,c1,c2,c3,c4,c5],_ =>
 match q,hlen with
 | [y0,y1,y2,y3,y4,y5],_ =>
 have t0:=hff 0 _ rfl
 have t1:=hff 1 _ rfl
 have t2:=hff 2 _ rfl
 have t3:=hff 3 _ rfl
 have t4:=hff 4 _ rfl
 have t5:=hff 5 _ rfl
 simp[Tryz.cells5] at t0 t1 t2 t3 t4
 simp[Tryz.cells22] at t5
 subst hx
 simp[DataW.weights,Tryz.underlying28,DataW.weightsEach] at hz
 obtain⟨A,e0,_,w0⟩:=DataW.trod_int Tryz.underlying5 t0
 obtain⟨B,e1,_,w1⟩:=DataW.trod_int Tryz.underlying5 t1
 obtain⟨C,e2,_,w2⟩:=DataW.trod_int Tryz.underlying5 t2
 obtain⟨M,e3,_,w3⟩:=DataW.trod_int Tryz.underlying5 t3
 obtain⟨X,e4,_,w4⟩:=DataW.trod_int Tryz.underlying5 t4
 simp at e0 e1 e2 e3 e4
 subst e0 e1 e2 e3 e4
 have b0:=byte_wf w0
 have b1:=byte_wf w1
 have b2:=byte_wf w2
 have b3:=byte_wf w3
 have b4:=byte_wf w4
 obtain⟨A,rfl⟩:=Int.eq_ofNat_of_zero_le b0.1
 obtain⟨B,rfl⟩:=Int.eq_ofNat_of_zero_le b1.1
 obtain⟨C,rfl⟩:=Int.eq_ofNat_of_zero_le b2.1
 obtain⟨M,rfl⟩:=Int.eq_ofNat_of_zero_le b3.1
 obtain⟨X,rfl⟩:=Int.eq_ofNat_of_zero_le b4.1
 have key:∀ {y:DataW H × List MemPlace},(∀ n ∈ y.1.weights Tryz.prog 26,n<=reachBytes)->∀ elems spare,y.1=.slice elems spare->(elems.length+spare.length) * Tryz.prog.bytesOf 5<=reachBytes:=fun hw elems spare e=>hw _ (by rw[e];simp[DataW.weights,Tryz.underlying26])
 obtain⟨xs,vx⟩:=vec_trodP t5 (key fun n hn=>hz n (by simp[hn]))
 exact⟨⟨A,B,C,M,X,c5,xs⟩,rfl,by show A < 256;omega,by show B < 256;omega,by show C < 256;omega,by show M < 256;omega,by show X < 256;omega,vx⟩
theorem acts_trod9 {W:World} {v:Value} {y:DataW H × List MemPlace} {fuel:Nat} (hf:DataW.trod enc Tryz.prog W 0 (fun _=>true) true fuel 22 [v]=some y)
 (hz:∀ n ∈ y.1.weights Tryz.prog 22,n<=reachBytes):∃ l,Acts9 W v l:=by
 rcases Deep.open_slice Tryz.underlying22 hf with ⟨hcs,_⟩ | ⟨x,len,cap,m,n,D,Pl,hcs,_,hl,hm,hmm,hx,hrow⟩
 ·simp at hcs
  subst hcs
  exact⟨[],by simp,⟨none,0,rfl,fun h=>absurd rfl h⟩,by simp⟩
 ·simp at hcs
  subst hcs
  simp only[if_true] at hmm
  subst hmm
  have hx1:=congrArg Prod.fst hx
  simp only at hx1
  rw[hx1] at hz
  simp only[DataW.weights,Tryz.underlying22,List.mem_cons,List.mem_append] at hz
  have hout:=hz _ (.inl rfl)
  have h24:=Tryz.bytesAct9
  simp only[List.length_map,List.length_range,reachBytes] at hout
  have hlen:len * 24<=140737488355328:=by
   have h1:len * 24<=(len+(m - len)) * Tryz.prog.bytesOf 28:=Nat.mul_le_mul (by omega) h24
   omega
  rw[Tryz.cellsAct9] at hrow
  have hex:∀ i,i < len->∃ c:ActR9,W.cells? 0 (x.add (i * 6)) 6=some (acells9 c)/\ActOk9 W c:=fun i hi=>by
   obtain⟨cs',h1,h2⟩:=hrow i (by omega)
   obtain⟨c,e,hc⟩:=act_trod9 h2 (fun n hn=>hz n (.inr (.inl (weights_all9 (d:=D i) (List.mem_map.2 ⟨i,List.mem_range.2 hi,rfl⟩) n hn))))
   exact⟨c,by rw[h1,e],hc⟩
  have hin:Inhabited ActR9:=⟨⟨0,0,0,0,0,.slice none 0 0,[]⟩⟩
  obtain⟨C,hC⟩:=Deep.choose_lt (α:=ActR9) (p:=fun i c=>W.cells? 0 (x.add (i * 6)) 6=some (acells9 c)/\ActOk9 W c) hex
  refine⟨(List.range len).map C,by simp;omega,⟨some x,m,by simp,fun hne=>?_⟩,fun c hc=>?_⟩
  ·have hpos:0 < len:=by
    rcases Nat.eq_zero_or_pos len with h | h
    ·subst h;simp at hne
    ·exact h
   obtain⟨b,off,spot⟩:=x
   obtain⟨_,_,hc0⟩:=World.cells?_some (hC 0 hpos).1
   have h0:=(hc0 0 (by decide)).trans (show (acells9 (C 0))[0]?=some (.int .u8 ((C 0).what:Int)) from rfl)
   have hspot:spot=none:=by simpa [Addr.add] using World.cell?_spot h0
   subst hspot
   refine⟨b,off,rfl,fun i c hc j u hj=>?_⟩
   obtain⟨hi,hci⟩:=List.getElem?_eq_some_iff.1 hc
   simp only[List.length_map,List.length_range] at hi
   simp only[List.getElem_map,List.getElem_range] at hci
   subst hci
   have hj6:j < 6:=(List.getElem?_eq_some_iff.1 hj).1
   obtain⟨_,_,hcell⟩:=World.cells?_some (hC i hi).1
   have:=hcell j hj6
   rw[add_off,add_off,hj] at this
   exact this
  ·obtain⟨i,hi,rfl⟩:=List.mem_map.1 hc
   exact (hC i (List.mem_range.1 hi)).2
theorem acts_arg9 {W:World} {v:Value} {d:DataW H} {p:List MemPlace} {base:Nat} (hv:Value.okWide Tryz.prog W .any base 22 v) (h:DataW.Trod enc Tryz.prog W 0 (fun _=>true) true 22 v d p)
 (hz:∀ n ∈ d.weights Tryz.prog 22,n<=reachBytes):∃ l,Acts9 W v l:=by
 obtain⟨a0,len0,cap0,rfl⟩:=okWide_slice Tryz.underlying22 hv
 obtain⟨fuel,hf⟩:=h
 exact acts_trod9 (y:=(d,p)) hf hz
end
theorem zeroAct9:(Tryz.prog.info? 28).map (fun i=>(i.zero,i.size,i.bytes))=some (some (.agg #[.int .u8 0,.int .u8 0,.int .u8 0,.int .u8 0,.int .u8 0,.slice none 0 0]),6,32):=by kernel_rfl
theorem run_zeroAct9 (w:World):(zeroValue 28).run Tryz.prog w=.ok (.agg #[.int .u8 0,.int .u8 0,.int .u8 0,.int .u8 0,.int .u8 0,.slice none 0 0]) w:=by
 obtain⟨i,hi,h0,h1,h2⟩:=info_parts zeroAct9
 simp[zeroValue,typeInfo,hi,h0]
theorem Tryz.sizeAct9:(Tryz.prog.info? 28).map (·.size)=some 6:=by kernel_rfl
theorem ActOk9.one {w:World} {c:ActR9} (h:ActOk9 w c):∀ u ∈ acells9 c,u.oneCell'=true:=by
 intro u hu
 obtain⟨p,n,cap,e,_⟩:=h.vec.opened
 simp only[acells9,e,List.mem_cons,List.not_mem_nil,or_false] at hu
 rcases hu with rfl | rfl | rfl | rfl | rfl | rfl <;> rfl
structure Laid9 (w:World) (b o bk:Nat) (AR:Array Value) (c:ActR9):Prop where
 ar:AR=(acells9 c).toArray
 range:w.rangeAt b o (acells9 c)
 size:(Tryz.prog.info? 28).map (·.size)=some AR.size
 six:AR.size=6
 one:AR.all (·.oneCell')=true
 ok:ActOk9 w c
theorem laid9 {w:World} {b o:Nat} {c:ActR9} (h:w.rangeAt b o (acells9 c)) (hc:ActOk9 w c):∃ AR,Laid9 w b o w.heap.size AR c :=
 ⟨_,rfl,h,Tryz.sizeAct9,rfl,all_oneCell_toArray hc.one,hc⟩
theorem Laid9.size2 {w:World} {b o bk:Nat} {AR:Array Value} {c:ActR9} (h:Laid9 w b o bk AR c):(Tryz.prog.info? 28).map (·.size)=some (acells9 c).length:=Tryz.sizeAct9
theorem wpList_load_act9 {w:World} {ops:Array Oper} {rest:List Oper} {op:Oper} {a:Act} {Q:Exit->Act->World->Prop} (hgd:op.guard=none) (x:Operand) (ho:op.op=.load 28 x) {b o bk:Nat} {AR:Array Value} {c:ActR9} (hx:a.eval x=.pointer (some ⟨b,o,none⟩)) (hl:Laid9 w b o bk AR c)
 (h:wpList Tryz.prog ops Q rest (a.put op.dst (.agg AR)) w):wpList Tryz.prog ops Q (op :: rest) a w:=by
 refine wpList_load_mid hgd 28 x ho b o hx (acells9 c) _ hl.range Tryz.underlying28 rfl hl.size2 ?_
 rw[<- hl.ar]
 exact h
theorem wpList_store_act9 {w:World} {ops:Array Oper} {rest:List Oper} {op:Oper} {a:Act} {Q:Exit->Act->World->Prop} (hgd:op.guard=none) (x y:Operand) (ho:op.op=.store 28 x y) {b o bk:Nat} {AR:Array Value} {c:ActR9} {w0:World} (hl:Laid9 w0 b o bk AR c) {ZR:Array Value} (hz:ZR.size=6)
 (hx:a.eval x=.pointer (some ⟨w0.heap.size,0,none⟩)) (hy:a.eval y=.agg AR) (hw:w=w0.alloc (.cells ZR 28))
 (h:∀ w',w'.heap[w0.heap.size]?=some (.cells AR 28 (0,0))->w0.grownBy w' none->wpList Tryz.prog ops Q rest (a.put op.dst undef) w'):wpList Tryz.prog ops Q (op :: rest) a w:=by
 subst hw
 refine wpList_store_row hgd 28 x y ho w0.heap.size AR hx hy 28 ZR (heap_alloc_new w0 _) hl.size (by rw[hz,hl.six]) hl.one ?_
 rw[World.setRow_alloc_new]
 exact h _ (heap_alloc_new w0 _) (World.grownBy_alloc _ _ none)
theorem laid_var {w0 w:World} {b o bk:Nat} {AR:Array Value} {c:ActR9} (h:Laid9 w0 b o bk AR c) (hh:w.heap[w0.heap.size]?=some (.cells AR 28 (0,0))) (hg:w0.grownBy w none):Laid9 w w0.heap.size 0 w0.heap.size AR c :=
 ⟨h.ar,fun j u hj=>by
   rw[h.ar] at hh
   rw[Nat.zero_add]
   exact topCell hh (by simpa using hj),h.size,h.six,h.one,h.ok.keep hg⟩
end Go.Proofs.YtlklmhojadlncaaGreat
