/- Packed: New8, Copy6, RRep6, Copy7, RRef6. -/
import Derived.Test.YtaalagkbpeinkaaGreatMp8
set_option linter.unusedSimpArgs false
set_option linter.unusedVariables false
set_option maxRecDepth 100000
namespace Go.Proofs.YtaalagkbpeinkaaGreat
open Go.RowKit
def SP.okNew (R:AM.Raw) (K N S f:Int):Bool:=mayI K N&&(decide (1<=S)&&(decide (S<=128)&&(decide (0<=f)&&(decide ((R.C.length:Int)=N)&&decide (f<=(R.n:Int) - 8 * S)))))
theorem SP.okNew_iff {R:AM.Raw} {K N S f:Int}:SP.okNew R K N S f=true ↔ (1<=K/\K < N/\N<=255)/\1<=S/\S<=128/\0<=f/\(R.C.length:Int)=N/\f<=(R.n:Int) - 8 * S:=by
 unfold SP.okNew
 simp only[Bool.and_eq_true,decide_eq_true_eq,mayI_iff]
section
variable {F F':Nat->Prop} {w w':World} {s a:Nat} {g:SP.Geo} {R R':AM.Raw}
set_option maxHeartbeats 6400000 in
theorem sfits_any (h:Is F w a R) {K N S f:Int} (hS:1<=S) (hS2:S<=128) :
 Calls Tryz.prog 82 #[ptr a,.agg #[.int .i64 K,.int .i64 N,.int .i64 S],.int .i64 f] w fun e w'=>e=.returned (.bool (decide ((R.C.length:Int)=N)&&decide (f<=(R.n:Int) - 8 * S)))/\w.grownBy w' none:=by
 have hn2:=h.ok.n2
 obtain⟨L,hL⟩:∃ L,L=R.C.length:=⟨_,rfl⟩
 obtain⟨n,hn⟩:∃ n,n=R.n:=⟨_,rfl⟩
 have GA:Hid (w.grownBy (w.alloc (.cells #[.int .i64 K,.int .i64 N,.int .i64 S] 39)) none):=World.grownBy_alloc w _ none
 have Q1:Hid (∀ w1,w.grownBy w1 none->Calls Tryz.prog 44 #[ptr a] w1 fun e w'=>e=.returned (.int .i64 (L:Int))/\w'=w1):=fun w1 g1=>by rw[hL];exact disks_yes (h.keep g1)
 have Q2:Hid (∀ w1,w.grownBy w1 none->Calls Tryz.prog 45 #[ptr a] w1 fun e w'=>e=.returned (.int .i64 (n:Int))/\w'=w1):=fun w1 g1=>by rw[hn];exact sectors_yes (h.keep g1)
 rw[<- hL,<- hn]
 have hw1:IntKind.i64.wrap (8 * S)=8 * S:=IntWalk.i64_in _ (by omega)
 have hw2:IntKind.i64.wrap ((n:Int) - 8 * S)=(n:Int) - 8 * S:=IntWalk.i64_in _ (by omega)
 clear h hn2 hL hn hS hS2
 by_cases h1:(L:Int)=N
 ·have i1:((L:Int)==N)=true:=by simp[h1]
  rw[decide_eq_true h1,Bool.true_and]
  clear h1
  go_enter Tryz.func82,Tryz.ntmps82
  go_wp2_with fail
  go_quiet ((first
   | (go_at_call 44;exact Calls.quiet_of_same (Q1.out _ (grown_trans GA.out (grown_drewN _ _))))
   | (go_at_call 45;exact Calls.quiet_of_same (Q2.out _ (grown_trans GA.out (grown_drewN _ _))))))
  go_wp2
  go_ret
  exact⟨rfl,by first | exact grown_trans GA.out (grown_drewN _ _) | exact GA.out | exact gb_drew GA.out⟩
 ·have i1:((L:Int)==N)=false:=by simp[h1]
  rw[decide_eq_false h1,Bool.false_and]
  clear h1
  go_enter Tryz.func82,Tryz.ntmps82
  go_wp2_with fail
  go_quiet ((first
   | (go_at_call 44;exact Calls.quiet_of_same (Q1.out _ (grown_trans GA.out (grown_drewN _ _))))
   | (go_at_call 45;exact Calls.quiet_of_same (Q2.out _ (grown_trans GA.out (grown_drewN _ _))))))
  go_wp2
  go_ret
  exact⟨rfl,by first | exact grown_trans GA.out (grown_drewN _ _) | exact GA.out | exact gb_drew GA.out⟩
set_option maxHeartbeats 6400000 in
theorem snew_yes (h:Is F w a R) (hg:g.Ok R) :
 Calls Tryz.prog 29 #[ptr a,geoV g,.int .i64 (g.f:Int)] w fun e w'=>∃ s,e=.returned (.tuple #[ptr s,.int .i64 0])/\SI F w' s a g R/\w.heap.size<=s/\w.grownBy w' none:=by
 have hk:mayI (g.k:Int) (g.n:Int)=true:=mayI_iff.2 ⟨by have:=hg.k1;omega,by have:=hg.kn;omega,by have:=hg.n255;omega⟩
 have i1:¬ (g.s:Int) < 1:=by have:=hg.s1;omega
 have i2:¬ (128:Int) < (g.s:Int):=by have:=hg.s2;omega
 have i3:¬ (g.f:Int) < 0:=by omega
 have FI:Hid (∀ w',w.grownBy w' none->Calls Tryz.prog 82 #[ptr a,geoV g,.int .i64 (g.f:Int)] w' fun e w''=>e=.returned (.bool true)/\w'.grownBy w'' none):=fun w' g1=>by
  refine (sfits_any (h.keep g1) (K:=(g.k:Int)) (N:=(g.n:Int)) (S:=(g.s:Int)) (f:=(g.f:Int)) (by have:=hg.s1;omega) (by have:=hg.s2;omega)).mono ?_
  rintro e w'' ⟨rfl,g2⟩
  refine⟨?_,g2⟩
  rw[decide_eq_true (show (R.C.length:Int)=(g.n:Int) by have:=hg.len;omega),decide_eq_true (show (g.f:Int)<=(R.n:Int) - 8 * (g.s:Int) by have:=hg.room;omega)]
  rfl
 have MA:Hid (∀ w',Calls Tryz.prog 81 #[.int .i64 (g.k:Int),.int .i64 (g.n:Int)] w' fun e w''=>e=.returned (.bool true)/\w''=w'):=fun w'=>by
  have:=codeMay_any (g.k:Int) (g.n:Int) w'
  rwa [hk] at this
 have H:Hid (Is F w a R/\g.Ok R):=⟨h,hg⟩
 have GA:Hid (w.grownBy (w.alloc (.cells #[.int .i64 (g.k:Int),.int .i64 (g.n:Int),.int .i64 (g.s:Int)] 39)) none):=World.grownBy_alloc w _ none
 have GC:Hid (∀ w',(w.alloc (.cells #[.int .i64 (g.k:Int),.int .i64 (g.n:Int),.int .i64 (g.s:Int)] 39)).grownBy w' none->w'.cell? ⟨w.heap.size,0,none⟩=some (.int .i64 (g.k:Int))/\w'.cell? ⟨w.heap.size,1,none⟩=some (.int .i64 (g.n:Int))/\w'.cell? ⟨w.heap.size,2,none⟩=some (.int .i64 (g.s:Int))):=fun w' g1=>by
  have h0:=heap_alloc_new w (.cells #[.int .i64 (g.k:Int),.int .i64 (g.n:Int),.int .i64 (g.s:Int)] 39)
  exact⟨g1.cell (cell_of_row _ _ 0 _ _ _ h0) (by simp),g1.cell (cell_of_row _ _ 1 _ _ _ h0) (by simp),g1.cell (cell_of_row _ _ 2 _ _ _ h0) (by simp)⟩
 clear h hg hk
 go_enter Tryz.func29,Tryz.ntmps29
 go_wp2_with (first
  | (go_at_call 81;refine (MA.out _).mono ?_;rintro e w9 ⟨rfl,hw9⟩;obtain rfl:=hw9.symm;clear hw9)
  | (go_at_call 82;refine (FI.out _ GA.out).mono ?_;rintro e w2 ⟨rfl,g2⟩;have G2:Hid (w.grownBy w2 none):=grown_trans GA.out g2;obtain⟨hb1,hb2,hb3⟩:=GC.out w2 g2;clear g2))
 go_ret2
 have g3:=gb_alloc G2.out (.cells #[ptr a,.int .i64 (g.k:Int),.int .i64 (g.n:Int),.int .i64 (g.s:Int),.int .i64 (g.f:Int)] 94)
 exact⟨_,rfl,⟨H.out.1.keep g3,heap_alloc_new w2 _,fun hf=>(by have h1:=H.out.1.lt _ hf;have h2:=G2.out.size;omega),H.out.2⟩,G2.out.size,g3⟩
end
theorem run_append_rows {w:World} {B:Nat} {t ty e:TypeId} {z:Value} {size bytes:Nat} (hu:Tryz.prog.underlying t=some (.slice e)) (hinfo:(Tryz.prog.info? e).map (fun i=>(i.zero,i.size,i.bytes))=some (some z,size,bytes)) (hzs:z.cells.size=size) (hsz:0 < size)
 {v:Value} {n:Nat} {xs:List Value} (hown:w.ownsRow B e size v n xs) {a:Addr} {m c:Nat} {news:List Value} (hl:news.length=m * size) (hnews:∀ j u,news[j]?=some u->w.cell? (a.add j)=some u) (h1:∀ u ∈ news,u.oneCell'=true)
 (h63:n+m<=maxLen) (hbytes:(n+m) * bytes<=140737488355328) (hB:B<=w.heap.size) :
 ∃ v' w',(Builtin.append_ #[t,t] ty #[v,.slice (some a) m c]).run Tryz.prog w=.ok v' w'/\w'.ownsRow B e size v' (n+m) (xs++news)/\w.grownBy w' v.ownBlock:=by
 obtain⟨i,hi,hz0,hz1,hz2⟩:=info_parts hinfo
 obtain⟨v',w',hr,h2,h3,_⟩:=run_append_own (P:=Tryz.prog) w B t ty e i z size bytes hu hi hz0 hz1 hz2 hzs hsz v n xs hown a m c news hl hnews h1 h63 hbytes hB
 exact⟨v',w',hr,h2,h3⟩
theorem wpList_append_rows {w:World} {ops:Array Oper} {rest:List Oper} {o:Oper} {ac:Act} {Q:Exit->Act->World->Prop} (hgd:o.guard=none) (d s:Operand) {B:Nat} {t e:TypeId} {z:Value} {size bytes:Nat}
 (ho:o.op=.call { callee:=.builtin .append,args:=#[d,s],argTypes:=#[t,t] }) (hu:Tryz.prog.underlying t=some (.slice e)) (hinfo:(Tryz.prog.info? e).map (fun i=>(i.zero,i.size,i.bytes))=some (some z,size,bytes)) (hzs:z.cells.size=size) (hsz:0 < size)
 {v:Value} {n:Nat} {xs:List Value} {a:Addr} {m c:Nat} {news:List Value} (hed:ac.eval d=v) (hes:ac.eval s=.slice (some a) m c) (hown:w.ownsRow B e size v n xs) (hl:news.length=m * size) (hnews:∀ j u,news[j]?=some u->w.cell? (a.add j)=some u) (h1:∀ u ∈ news,u.oneCell'=true)
 (h63:n+m<=maxLen) (hbytes:(n+m) * bytes<=140737488355328) (hB:B<=w.heap.size)
 (h:∀ v' w',w'.ownsRow B e size v' (n+m) (xs++news)->w.grownBy w' v.ownBlock->wpList Tryz.prog ops Q rest (ac.put o.dst v') w'):wpList Tryz.prog ops Q (o :: rest) ac w:=by
 refine wpList_plain hgd fun K hK=>?_
 obtain⟨v',w',hrun,r1,r2⟩:=run_append_rows (ty:=o.type) (c:=c) hu hinfo hzs hsz hown hl hnews h1 h63 hbytes hB
 unfold Oper.wp
 simp[execOp,ho,resolve,invoke,builtin,hed,hes,hrun,Result.andThen]
 exact hK _ _ (h _ _ r1 r2)
theorem rows_lit (w:World) {B:Nat} (e size:Nat) (hB:B<=w.heap.size):(w.alloc (.cells #[] e)).ownsRow B e size (.slice (some ⟨w.heap.size,0,none⟩) 0 0) 0 [] :=
 ⟨by simp,.inr ⟨w.heap.size,0,#[],rfl,hB,heap_alloc_new w _,Nat.le_refl _,by decide,by simp,by simp⟩⟩
theorem rows_slice {w:World} {B e size n:Nat} {v:Value} {xs:List Value} (h:w.ownsRow B e size v n xs):∃ p c,v=.slice p n c:=by
 rcases h.2 with ⟨rfl,hn⟩ | ⟨g,cap,cur,rfl,_⟩
 ·subst hn;exact⟨_,_,rfl⟩
 ·exact⟨_,_,rfl⟩
theorem run_zeroSec (w:World):(zeroValue 108).run Tryz.prog w=.ok (.agg (rowOf (AM.zs 64))) w:=by
 obtain⟨i,hi,h0,h1,h2⟩:=info_parts zeroSec
 simp[zeroValue,typeInfo,hi,h0]
theorem lit_drv (w:World):(Instr.buildSlice 105 0 #[]).run Tryz.prog w=.ok (.slice (some ⟨w.heap.size,0,none⟩) 0 0) (w.alloc (.cells #[] 108)):=by
 simp[Instr.buildSlice,run_underlying Tryz.underlying105,run_size Tryz.sizeSec,run_zeroSec,newRow,Instr.fill,Array.range]
theorem lit_wrs (w:World):(Instr.buildSlice 101 0 #[]).run Tryz.prog w=.ok (.slice (some ⟨w.heap.size,0,none⟩) 0 0) (w.alloc (.cells #[] 110)):=by
 simp[Instr.buildSlice,run_underlying Tryz.underlying101,run_size Tryz.sizeWr,run_zeroW,newRow,Instr.fill,Array.range]
theorem eq_drv_nil (W:World):(binOp BinOp.eql 105 (.slice none 0 0) (.slice none 0 0)).run Tryz.prog W=.ok (.bool true) W:=by kernel_rfl
theorem eq_drv_no (g n c:Nat) (W:World):(binOp BinOp.eql 105 (.slice (some ⟨g,0,none⟩) n c) (.slice none 0 0)).run Tryz.prog W=.ok (.bool false) W:=by kernel_rfl
theorem eq_wrs_nil (W:World):(binOp BinOp.eql 101 (.slice none 0 0) (.slice none 0 0)).run Tryz.prog W=.ok (.bool true) W:=by kernel_rfl
theorem eq_wrs_no (g n c:Nat) (W:World):(binOp BinOp.eql 101 (.slice (some ⟨g,0,none⟩) n c) (.slice none 0 0)).run Tryz.prog W=.ok (.bool false) W:=by kernel_rfl
set_option maxRecDepth 100000 in
theorem clone_drv_nil (w:World):Calls Tryz.prog 93 #[.slice none 0 0] w fun e w'=>e=.returned (.slice none 0 0)/\w'=w:=by
 have heq:=eq_drv_nil
 go_enter Tryz.func93,Tryz.ntmps93
 go_wp2
 go_ret
 exact⟨rfl,rfl⟩
set_option maxRecDepth 100000 in
theorem clone_wr_nil (w:World):Calls Tryz.prog 94 #[.slice none 0 0] w fun e w'=>e=.returned (.slice none 0 0)/\w'=w:=by
 have heq:=eq_wrs_nil
 go_enter Tryz.func94,Tryz.ntmps94
 go_wp2
 go_ret
 exact⟨rfl,rfl⟩
set_option maxRecDepth 100000 in
theorem clone_drv_yes {w:World} {g0 n c0:Nat} {xs:List Nat} (h:w.ownsRow 0 108 64 (.slice (some ⟨g0,0,none⟩) n c0) n (xs.map bv)) (hn:n<=4096):Calls Tryz.prog 93 #[.slice (some ⟨g0,0,none⟩) n c0] w fun e w'=>∃ p c,e=.returned (.slice p n c)/\w'.ownsRow w.heap.size 108 64 (.slice p n c) n (xs.map bv)/\w.grownBy w' none:=by
 have HG:Hid (w.grownBy (w.alloc (.cells #[] 108)) none):=World.grownBy_alloc _ _ none
 have HE:Hid ((w.alloc (.cells #[] 108)).ownsRow w.heap.size 108 64 (.slice (some ⟨w.heap.size,0,none⟩) 0 0) 0 []):=rows_lit w _ _ (Nat.le_refl _)
 have HL:Hid ((xs.map bv).length=n * 64):=h.1
 have HC:Hid (∀ j u,(xs.map bv)[j]?=some u->(w.alloc (.cells #[] 108)).cell? ((⟨g0,0,none⟩:Addr).add j)=some u):=fun j u hj=>by
  have h1:=h.cells (g:=g0) rfl j u hj
  exact HG.out.cell h1 (by simp)
 have HN:Hid (n<=4096):=hn
 have HO:Hid (∀ u ∈ xs.map bv,u.oneCell'=true):=fun u hu=>by obtain⟨x,_,rfl⟩:=List.mem_map.1 hu;rfl
 clear h hn
 generalize xs.map bv=ys at *
 have hbs:=lit_drv
 have heq:=eq_drv_no g0 n c0
 go_enter Tryz.func93,Tryz.ntmps93
 go_wp2_with (first | (at_builtin;refine wpList_append_rows rfl _ _ rfl Tryz.underlying105 zeroSec (by rw[Value.cells,rowOf_size,AM.zs_len]) (by decide) rfl rfl HE.out HL.out HC.out HO.out (by have:=HN.out;unfold maxLen;omega) (by have:=HN.out;omega) (by simp) ?_;intro v9 w9 ho hg;rw[Nat.zero_add,List.nil_append] at ho;have HO9:Hid (w9.ownsRow w.heap.size 108 64 v9 n ys):=ho;have HG9:Hid (w.grownBy w9 none):=grown_new HG.out hg (fun i e=>by have e2:w.heap.size=i:=Option.some.inj e;omega);clear ho hg) | fail)
 go_ret
 obtain⟨p9,c9,rfl⟩:=rows_slice HO9.out
 exact⟨p9,c9,rfl,HO9.out,HG9.out⟩
set_option maxRecDepth 100000 in
theorem clone_wr_yes {w:World} {g0 n c0:Nat} {ys:List Value} (h:w.ownsRow 0 110 130 (.slice (some ⟨g0,0,none⟩) n c0) n ys) (hn:n<=1000000) (ho:∀ u ∈ ys,u.oneCell'=true):Calls Tryz.prog 94 #[.slice (some ⟨g0,0,none⟩) n c0] w fun e w'=>∃ p c,e=.returned (.slice p n c)/\w'.ownsRow w.heap.size 110 130 (.slice p n c) n ys/\w.grownBy w' none:=by
 have HG:Hid (w.grownBy (w.alloc (.cells #[] 110)) none):=World.grownBy_alloc _ _ none
 have HE:Hid ((w.alloc (.cells #[] 110)).ownsRow w.heap.size 110 130 (.slice (some ⟨w.heap.size,0,none⟩) 0 0) 0 []):=rows_lit w _ _ (Nat.le_refl _)
 have HL:Hid (ys.length=n * 130):=h.1
 have HC:Hid (∀ j u,ys[j]?=some u->(w.alloc (.cells #[] 110)).cell? ((⟨g0,0,none⟩:Addr).add j)=some u):=fun j u hj=>by
  have h1:=h.cells (g:=g0) rfl j u hj
  exact HG.out.cell h1 (by simp)
 have HN:Hid (n<=1000000):=hn
 have HO:Hid (∀ u ∈ ys,u.oneCell'=true):=ho
 clear h hn ho
 have hbs:=lit_wrs
 have heq:=eq_wrs_no g0 n c0
 go_enter Tryz.func94,Tryz.ntmps94
 go_wp2_with (first | (at_builtin;refine wpList_append_rows rfl _ _ rfl Tryz.underlying101 zeroW (by simp[Value.cells,wcells,AM.zs_len]) (by decide) rfl rfl HE.out HL.out HC.out HO.out (by have:=HN.out;unfold maxLen;omega) (by have:=HN.out;omega) (by simp) ?_;intro v9 w9 ho hg;rw[Nat.zero_add,List.nil_append] at ho;have HO9:Hid (w9.ownsRow w.heap.size 110 130 v9 n ys):=ho;have HG9:Hid (w.grownBy w9 none):=grown_new HG.out hg (fun i e=>by have e2:w.heap.size=i:=Option.some.inj e;omega);clear ho hg) | fail)
 go_ret
 obtain⟨p9,c9,rfl⟩:=rows_slice HO9.out
 exact⟨p9,c9,rfl,HO9.out,HG9.out⟩
namespace AM
structure Fl where
 d:Nat
 k:Nat
 b:List Nat
structure RA where
 D:List (Option (List (List Nat)))
 n:Nat
 L:List Fl
 left:Nat
 dark:Bool
end AM
def drow (ds:List Value) (D:List (Option (List (List Nat)))):List Value:=(ds.zip D).flatMap (fun x=>[x.1,.bool x.2.isNone])
def frow (fs:List Value) (L:List AM.Fl):List Value:=(fs.zip L).flatMap (fun x=>[.int .i64 (x.2.d:Int),.int .i64 (x.2.k:Int),x.1])
structure RL (G:Nat->Prop) (w:World) (r:Nat) (dp:Option Addr) (dc:Nat) (ds:List Value) (lp:Option Addr) (lc:Nat) (fs:List Value) (A:AM.RA):Prop where
 lt:∀ i,G i->i < w.heap.size
 top:w.heap[r]?=some (.cells #[.slice dp A.D.length dc,.int .i64 (A.n:Int),.slice lp A.L.length lc,.int .i64 (A.left:Int),.bool A.dark] 86 (0,0))
 dsk:w.ownsRow 0 124 2 (.slice dp A.D.length dc) A.D.length (drow ds A.D)
 dlen:ds.length=A.D.length
 sec:∀ (i:Nat) (v:Value),ds[i]?=some v->(A.D[i]?=some none/\v=.slice none 0 0)\/∃ (ss:List (List Nat)) (vs:List Value),A.D[i]?=some (some ss)/\w.ownsRow 0 31 1 v A.n vs/\ss.length=A.n/\∀ (k:Nat) (u:Value) (b:List Nat),vs[k]?=some u->ss[k]?=some b->Own 0 w u b/\∀ g,u.ownBlock=some g->G g
 fly:w.ownsRow 0 138 3 (.slice lp A.L.length lc) A.L.length (frow fs A.L)
 flen:fs.length=A.L.length
 fv:∀ (i:Nat) (u:Value) (x:AM.Fl),fs[i]?=some u->A.L[i]?=some x->Own 0 w u x.b/\∀ g,u.ownBlock=some g->G g
 Gr:G r
 Gd:∀ g,(Value.slice dp A.D.length dc).ownBlock=some g->G g
 Gs:∀ (i:Nat) (v:Value),ds[i]?=some v->∀ g,v.ownBlock=some g->G g
 Gl:∀ g,(Value.slice lp A.L.length lc).ownBlock=some g->G g
 ap:∀ (i j:Nat) (u v:Value),ds[i]?=some u->ds[j]?=some v->∀ g,u.ownBlock=some g->v.ownBlock=some g->i=j
 left:A.left < 9223372036854775808
 n2:A.n<=4096
 d2:A.D.length<=255
def RIs (G:Nat->Prop) (w:World) (r:Nat) (A:AM.RA):Prop:=∃ dp dc ds lp lc fs,RL G w r dp dc ds lp lc fs A
section
variable {G:Nat->Prop} {w:World} {r:Nat} {dp:Option Addr} {dc:Nat} {ds:List Value} {lp:Option Addr} {lc:Nat} {fs:List Value} {A:AM.RA}
theorem RL.is (h:RL G w r dp dc ds lp lc fs A):RIs G w r A:=⟨dp,dc,ds,lp,lc,fs,h⟩
theorem Own.same0 {w w':World} {u:Value} {b:List Nat} (h:Own 0 w u b) (hb:∀ g,u.ownBlock=some g->w'.heap[g]?=w.heap[g]?):Own 0 w' u b:=⟨h.small,h.len,ownsRow_same h.row hb⟩
theorem RL.sec_same (h:RL G w r dp dc ds lp lc fs A) {w':World} (hS:∀ g c,G g->w.heap[g]?=some (.cells c 31 (0,0))->w'.heap[g]?=w.heap[g]?) (hB:∀ g c,G g->w.heap[g]?=some (.cells c 5 (0,0))->w'.heap[g]?=w.heap[g]?) :
 ∀ (i:Nat) (v:Value),ds[i]?=some v->(A.D[i]?=some none/\v=.slice none 0 0)\/∃ (ss:List (List Nat)) (vs:List Value),A.D[i]?=some (some ss)/\w'.ownsRow 0 31 1 v A.n vs/\ss.length=A.n/\∀ (k:Nat) (u:Value) (b:List Nat),vs[k]?=some u->ss[k]?=some b->Own 0 w' u b/\∀ g,u.ownBlock=some g->G g:=fun i v hv=>by
 rcases h.sec i v hv with h1 | ⟨ss,vs,h1,h2,h3,h4⟩
 ·exact .inl h1
 ·refine .inr ⟨ss,vs,h1,ownsRow_same h2 (fun g hg=>?_),h3,fun k u b hu hb=>⟨(h4 k u b hu hb).1.same0 (fun g hg=>?_),(h4 k u b hu hb).2⟩⟩
  ·obtain⟨c,hc⟩:=rowBlock h2 hg
   exact hS g c (h.Gs i v hv g hg) hc
  ·obtain⟨c,hc⟩:=rowBlock (h4 k u b hu hb).1.row hg
   exact hB g c ((h4 k u b hu hb).2 g hg) hc
theorem RL.fv_same (h:RL G w r dp dc ds lp lc fs A) {w':World} (hB:∀ g c,G g->w.heap[g]?=some (.cells c 5 (0,0))->w'.heap[g]?=w.heap[g]?) :
 ∀ (i:Nat) (u:Value) (x:AM.Fl),fs[i]?=some u->A.L[i]?=some x->Own 0 w' u x.b/\∀ g,u.ownBlock=some g->G g:=fun i u x hu hx=>⟨(h.fv i u x hu hx).1.same0 (fun g hg=>by
 obtain⟨c,hc⟩:=rowBlock (h.fv i u x hu hx).1.row hg
 exact hB g c ((h.fv i u x hu hx).2 g hg) hc),(h.fv i u x hu hx).2⟩
theorem RL.same (h:RL G w r dp dc ds lp lc fs A) {w':World} (hb:∀ i,G i->w'.heap[i]?=w.heap[i]?) (hl:∀ i,G i->i < w'.heap.size):RL G w' r dp dc ds lp lc fs A :=
 ⟨hl,by rw[hb r h.Gr];exact h.top,ownsRow_same h.dsk (fun g hg=>hb g (h.Gd g hg)),h.dlen,h.sec_same (fun g c hg _=>hb g hg) (fun g c hg _=>hb g hg),ownsRow_same h.fly (fun g hg=>hb g (h.Gl g hg)),h.flen,h.fv_same (fun g c hg _=>hb g hg),h.Gr,h.Gd,h.Gs,h.Gl,h.ap,h.left,h.n2,h.d2⟩
theorem RIs.lt (h:RIs G w r A):∀ i,G i->i < w.heap.size:=by obtain⟨_,_,_,_,_,_,h⟩:=h;exact h.lt
theorem RIs.same (h:RIs G w r A) {w':World} (hb:∀ i,G i->w'.heap[i]?=w.heap[i]?) (hl:∀ i,G i->i < w'.heap.size):RIs G w' r A:=by
 obtain⟨dp,dc,ds,lp,lc,fs,h⟩:=h
 exact (h.same hb hl).is
theorem RIs.keep (h:RIs G w r A) {w':World} (g:w.grownBy w' none):RIs G w' r A:=h.same (fun i hi=>g.block i (h.lt i hi) (by simp)) (fun i hi=>Nat.lt_of_lt_of_le (h.lt i hi) g.size)
theorem RL.keep (h:RL G w r dp dc ds lp lc fs A) {w':World} (g:w.grownBy w' none):RL G w' r dp dc ds lp lc fs A:=h.same (fun i hi=>g.block i (h.lt i hi) (by simp)) (fun i hi=>Nat.lt_of_lt_of_le (h.lt i hi) g.size)
theorem RIs.other (h:RIs G w r A) {F F':Nat->Prop} {w':World} (s:Step F w F' w') (hs:∀ i,F i->G i->False):RIs G w' r A/\∀ i,F' i->G i->False:=by
 obtain⟨h1,h2,h3⟩:=s.other h.lt hs
 exact⟨h.same h1 h2,h3⟩
theorem RL.topCells (h:RL G w r dp dc ds lp lc fs A):w.cell? ⟨r,0,none⟩=some (.slice dp A.D.length dc)/\w.cell? ⟨r,1,none⟩=some (.int .i64 (A.n:Int))/\w.cell? ⟨r,2,none⟩=some (.slice lp A.L.length lc)/\w.cell? ⟨r,3,none⟩=some (.int .i64 (A.left:Int))/\w.cell? ⟨r,4,none⟩=some (.bool A.dark) :=
 ⟨topCell (j:=0) h.top rfl,topCell (j:=1) h.top rfl,topCell (j:=2) h.top rfl,topCell (j:=3) h.top rfl,topCell (j:=4) h.top rfl⟩
theorem RL.turn (h:RL G w r dp dc ds lp lc fs A) {w':World} (g:w.grownBy w' (some r)) {l':Nat} {k':Bool} (hl:l' < 9223372036854775808)
 (ht:w'.heap[r]?=some (.cells #[.slice dp A.D.length dc,.int .i64 (A.n:Int),.slice lp A.L.length lc,.int .i64 (l':Int),.bool k'] 86 (0,0))):RL G w' r dp dc ds lp lc fs { A with left:=l',dark:=k' }:=by
 have hb:∀ (i:Nat) (c:Array Value) (t:TypeId),G i->w.heap[i]?=some (.cells c t (0,0))->t ≠ 86->w'.heap[i]?=w.heap[i]?:=fun i c t hi hc hn=>g.block i (h.lt i hi) (fun e=>by
  obtain rfl:=Option.some.inj e
  exact hn (heap_ty hc h.top))
 refine⟨fun i hi=>Nat.lt_of_lt_of_le (h.lt i hi) g.size,ht,ownsRow_same h.dsk (fun b hb'=>?_),h.dlen,h.sec_same (fun b c hb' hc=>hb b c _ hb' hc (by decide)) (fun b c hb' hc=>hb b c _ hb' hc (by decide)),ownsRow_same h.fly (fun b hb'=>?_),h.flen,h.fv_same (fun b c hb' hc=>hb b c _ hb' hc (by decide)),h.Gr,h.Gd,h.Gs,h.Gl,h.ap,hl,h.n2,h.d2⟩
 ·obtain⟨c,hc⟩:=rowBlock h.dsk hb'
  exact hb b c _ (h.Gd b hb') hc (by decide)
 ·obtain⟨c,hc⟩:=rowBlock h.fly hb'
  exact hb b c _ (h.Gl b hb') hc (by decide)
theorem RL.flown (h:RL G w r dp dc ds lp lc fs A) {G':Nat->Prop} {w1 w':World} (hG:∀ i,G i->G' i) (hlt:∀ i,G' i->i < w1.heap.size) {old:Option Nat} (g1:w.grownBy w1 old) (ho:∀ g,old=some g->(Value.slice lp A.L.length lc).ownBlock=some g) {L':List AM.Fl} {fs':List Value} {lp':Option Addr} {lc':Nat}
 (hrow:w1.ownsRow 0 138 3 (.slice lp' L'.length lc') L'.length (frow fs' L')) (hfl:fs'.length=L'.length) (hGl:∀ g,(Value.slice lp' L'.length lc').ownBlock=some g->G' g)
 (hfv:∀ (i:Nat) (u:Value) (x:AM.Fl),fs'[i]?=some u->L'[i]?=some x->Own 0 w1 u x.b/\∀ g,u.ownBlock=some g->G' g) (e:w'=w1.setCell ⟨r,2,none⟩ (.slice lp' L'.length lc')):RL G' w' r dp dc ds lp' lc' fs' { A with L:=L' }:=by
 have hb1:∀ (i:Nat) (c:Array Value) (t:TypeId),G i->w.heap[i]?=some (.cells c t (0,0))->t ≠ 138->w1.heap[i]?=w.heap[i]?:=fun i c t hi hc hn=>g1.block i (h.lt i hi) (fun e=>by
  obtain⟨c',hc'⟩:=rowBlock h.fly (ho i e.symm)
  exact hn (heap_ty hc hc'))
 have ht1:=(hb1 r _ _ h.Gr h.top (by decide)).trans h.top
 have hb2:∀ (i:Nat) (c:Array Value) (t:TypeId),w1.heap[i]?=some (.cells c t (0,0))->t ≠ 86->w'.heap[i]?=w1.heap[i]?:=fun i c t hc hn=>by
  rw[e]
  exact Below.heap_setCell _ _ _ _ (fun e'=>by
   have e':i=r:=e'
   subst e'
   exact hn (heap_ty hc ht1))
 have hb:∀ (i:Nat) (c:Array Value) (t:TypeId),G i->w.heap[i]?=some (.cells c t (0,0))->t ≠ 138->t ≠ 86->w'.heap[i]?=w.heap[i]?:=fun i c t hi hc h1 h2=>by
  have:=hb1 i c t hi hc h1
  rw[hb2 i c t (this.trans hc) h2,this]
 have hsz:w'.heap.size=w1.heap.size:=by rw[e];simp
 refine⟨fun i hi=>by rw[hsz];exact hlt i hi,?_,ownsRow_same h.dsk (fun b hb'=>?_),h.dlen,fun i v hv=>?_,ownsRow_same hrow (fun b hb'=>?_),hfl,fun i u x hu hx=>⟨(hfv i u x hu hx).1.same0 (fun b hb'=>?_),(hfv i u x hu hx).2⟩,hG r h.Gr,fun g hg=>hG g (h.Gd g hg),fun i v hv g hg=>hG g (h.Gs i v hv g hg),hGl,h.ap,h.left,h.n2,h.d2⟩
 ·rw[e,heap_setCell_same _ _ _ _ _ _ ht1];rfl
 ·obtain⟨c,hc⟩:=rowBlock h.dsk hb'
  exact hb b c _ (h.Gd b hb') hc (by decide) (by decide)
 ·rcases h.sec_same (w':=w') (fun b c hb' hc=>hb b c _ hb' hc (by decide) (by decide)) (fun b c hb' hc=>hb b c _ hb' hc (by decide) (by decide)) i v hv with h1 | ⟨ss,vs,h1,h2,h3,h4⟩
  ·exact .inl h1
  ·exact .inr ⟨ss,vs,h1,h2,h3,fun k u b hu hb=>⟨(h4 k u b hu hb).1,fun g hg=>hG g ((h4 k u b hu hb).2 g hg)⟩⟩
 ·obtain⟨c,hc⟩:=rowBlock hrow hb'
  exact hb2 b c _ hc (by decide)
 ·obtain⟨c,hc⟩:=rowBlock (hfv i u x hu hx).1.row hb'
  exact hb2 b c _ hc (by decide)
end
structure Half (w0 w:World) (a2 dg2:Nat) (dv:List Value) (k:Nat) (R:AM.Raw) (fp:Option Addr) (fc:Nat):Prop where
 top:w.heap[a2]?=some (.cells #[.slice (some ⟨dg2,0,none⟩) R.C.length R.C.length,.int .i64 (R.n:Int),.slice fp R.L.length fc,.int .i64 (R.fuse:Int),.bool R.off] 103 (0,0))
 dsk:w.heap[dg2]?=some (.cells dv.toArray 105 (0,0))
 len:dv.length=R.C.length
 a_lo:w0.heap.size<=a2
 d_lo:w0.heap.size<=dg2
 don:∀ (i:Nat) (v:Value),dv[i]?=some v->i < k->(R.C[i]?=some none/\v=.slice none 0 0)\/∃ xs,R.C[i]?=some (some xs)/\w.ownsRow w0.heap.size 108 64 v R.n (xs.map bv)
 ap:∀ (i j:Nat) (u v:Value),i < k->j < k->dv[i]?=some u->dv[j]?=some v->∀ g,u.ownBlock=some g->v.ownBlock=some g->i=j
 grown:w0.grownBy w none
section
variable {w0 w:World} {a2 dg2:Nat} {dv:List Value} {k:Nat} {R:AM.Raw} {fp:Option Addr} {fc:Nat}
theorem rows_blk {w:World} {B e size n:Nat} {v:Value} {xs:List Value} (h:w.ownsRow B e size v n xs) {g:Nat} (hg:v.ownBlock=some g):B<=g/\g < w.heap.size/\∃ c,w.heap[g]?=some (.cells c e (0,0)):=by
 rcases h.2 with ⟨rfl,_⟩ | ⟨g',cap,cur,rfl,h1,h2,_⟩
 ·cases hg
 ·obtain rfl:g'=g:=Option.some.inj hg
  exact⟨h1,(Array.getElem?_eq_some_iff.1 h2).1,cur,h2⟩
theorem Half.a_lt (h:Half w0 w a2 dg2 dv k R fp fc):a2 < w.heap.size:=(Array.getElem?_eq_some_iff.1 h.top).1
theorem Half.d_lt (h:Half w0 w a2 dg2 dv k R fp fc):dg2 < w.heap.size:=(Array.getElem?_eq_some_iff.1 h.dsk).1
theorem Half.keep (h:Half w0 w a2 dg2 dv k R fp fc) {w':World} (g:w.grownBy w' none):Half w0 w' a2 dg2 dv k R fp fc:=by
 refine⟨by rw[g.block a2 h.a_lt (by simp)];exact h.top,by rw[g.block dg2 h.d_lt (by simp)];exact h.dsk,h.len,h.a_lo,h.d_lo,fun i v hv hi=>?_,h.ap,grown_trans h.grown g⟩
 rcases h.don i v hv hi with h1 | ⟨xs,h1,h2⟩
 ·exact .inl h1
 ·exact .inr ⟨xs,h1,ownsRow_same h2 (fun b hb=>g.block b (rows_blk h2 hb).2.1 (by simp))⟩
theorem Half.put (h:Half w0 w a2 dg2 dv k R fp fc) (hk:k < R.C.length) {w1:World} (g1:w.grownBy w1 none) {v:Value}
 (hv:(R.C[k]?=some none/\v=.slice none 0 0)\/∃ xs,R.C[k]?=some (some xs)/\w1.ownsRow w.heap.size 108 64 v R.n (xs.map bv)):Half w0 (w1.setCell ⟨dg2,k,none⟩ v) a2 dg2 (dv.set k v) (k+1) R fp fc:=by
 have h1:=h.keep g1
 have hdl:k < dv.length:=by rw[h.len];exact hk
 have hb:∀ i,i ≠ dg2->(w1.setCell ⟨dg2,k,none⟩ v).heap[i]?=w1.heap[i]?:=fun i hne=>Below.heap_setCell _ _ _ _ hne
 have hsplit:∀ (i:Nat) (u:Value),(dv.set k v)[i]?=some u->i < k+1->(i=k/\u=v)\/(i < k/\dv[i]?=some u):=fun i u hu hi=>by
  by_cases c:k=i
  ·subst c
   rw[List.getElem?_set,if_pos rfl,if_pos hdl] at hu
   exact .inl ⟨rfl,(Option.some.inj hu).symm⟩
  ·rw[List.getElem?_set,if_neg c] at hu
   exact .inr ⟨by omega,hu⟩
 have hnew:∀ g,v.ownBlock=some g->w.heap.size<=g:=fun g hg=>by
  rcases hv with ⟨_,rfl⟩ | ⟨xs,_,h2⟩
  ·cases hg
  ·exact (rows_blk h2 hg).1
 have hold:∀ (i:Nat) (u:Value),dv[i]?=some u->i < k->∀ g,u.ownBlock=some g->g < w.heap.size:=fun i u hu hi g hg=>by
  rcases h.don i u hu hi with ⟨_,rfl⟩ | ⟨xs,_,h2⟩
  ·cases hg
  ·exact (rows_blk h2 hg).2.1
 refine⟨?_,?_,by simpa using h.len,h.a_lo,h.d_lo,fun i u hu hi=>?_,fun i j u u' hi hj hu hu' g hg hg'=>?_,?_⟩
 ·rw[hb a2 (ne_ty h1.top h1.dsk (by decide))];exact h1.top
 ·rw[heap_setCell_same _ _ _ _ _ _ h1.dsk];simp
 ·rcases hsplit i u hu hi with ⟨rfl,rfl⟩ | ⟨hlt,hu⟩
  ·rcases hv with h2 | ⟨xs,h2,h3⟩
   ·exact .inl h2
   ·refine .inr ⟨xs,h2,ownsRow_down (ownsRow_same h3 (fun g hg=>hb g ?_)) h.grown.size⟩
    obtain⟨_,_,c,hc⟩:=rows_blk h3 hg
    exact ne_ty hc h1.dsk (by decide)
  ·rcases h1.don i u hu hlt with h2 | ⟨xs,h2,h3⟩
   ·exact .inl h2
   ·refine .inr ⟨xs,h2,ownsRow_same h3 (fun g hg=>hb g ?_)⟩
    obtain⟨_,_,c,hc⟩:=rows_blk h3 hg
    exact ne_ty hc h1.dsk (by decide)
 ·rcases hsplit i u hu hi with ⟨e1,e2⟩ | ⟨hlt,hu2⟩
  ·rcases hsplit j u' hu' hj with ⟨e3,e4⟩ | ⟨hlt',hu3⟩
   ·omega
   ·have:=hnew g (by rw[<- e2];exact hg);have:=hold j u' hu3 hlt' g hg';omega
  ·rcases hsplit j u' hu' hj with ⟨e3,e4⟩ | ⟨hlt',hu3⟩
   ·have:=hnew g (by rw[<- e4];exact hg');have:=hold i u hu2 hlt g hg;omega
   ·exact h.ap i j u u' hlt hlt' hu2 hu3 g hg hg'
 ·exact gb_setCell h1.grown h.d_lo v
theorem Half.fin (h:Half w0 w a2 dg2 dv R.C.length R fp fc) (hok:R.Ok) {w1:World} (g1:w.grownBy w1 none) {fp2:Option Addr} {fc2:Nat} (hrow:w1.ownsRow w0.heap.size 110 130 (.slice fp2 R.L.length fc2) R.L.length (wrow R.L)) :
 Is (fun i=>w0.heap.size<=i/\i < w1.heap.size) (w1.setCell ⟨a2,2,none⟩ (.slice fp2 R.L.length fc2)) a2 R/\w0.grownBy (w1.setCell ⟨a2,2,none⟩ (.slice fp2 R.L.length fc2)) none:=by
 have h1:=h.keep g1
 have hb:∀ i,i ≠ a2->(w1.setCell ⟨a2,2,none⟩ (.slice fp2 R.L.length fc2)).heap[i]?=w1.heap[i]?:=fun i hne=>Below.heap_setCell _ _ _ _ hne
 have hdi:∀ (i:Nat) (v:Value),dv[i]?=some v->i < R.C.length:=fun i v hv=>by
  have:=(List.getElem?_eq_some_iff.1 hv).1
  rw[h.len] at this
  exact this
 refine⟨⟨dg2,dv,fp2,fc2,⟨hok,fun i hi=>by simpa using hi.2,?_,?_,h.len,fun i v hv=>?_,?_,⟨h1.a_lo,h1.a_lt⟩,⟨h1.d_lo,h1.d_lt⟩,fun i v hv g hg=>?_,fun g hg=>?_,fun i j u v hu hv=>h.ap i j u v (hdi i u hu) (hdi j v hv) hu hv⟩⟩,gb_setCell h1.grown h.a_lo _⟩
 ·rw[heap_setCell_same _ _ _ _ _ _ h1.top];rfl
 ·rw[hb dg2 (ne_ty h1.dsk h1.top (by decide))];exact h1.dsk
 ·rcases h1.don i v hv (hdi i v hv) with h2 | ⟨xs,h2,h3⟩
  ·exact .inl h2
  ·refine .inr ⟨xs,h2,ownsRow_down (ownsRow_same h3 (fun g hg=>hb g ?_)) (Nat.zero_le _)⟩
   obtain⟨_,_,c,hc⟩:=rows_blk h3 hg
   exact ne_ty hc h1.top (by decide)
 ·refine ownsRow_down (ownsRow_same hrow (fun g hg=>hb g ?_)) (Nat.zero_le _)
  obtain⟨_,_,c,hc⟩:=rows_blk hrow hg
  exact ne_ty hc h1.top (by decide)
 ·rcases h1.don i v hv (hdi i v hv) with ⟨_,rfl⟩ | ⟨xs,h2,h3⟩
  ·cases hg
  ·exact⟨(rows_blk h3 hg).1,(rows_blk h3 hg).2.1⟩
 ·exact⟨(rows_blk hrow hg).1,(rows_blk hrow hg).2.1⟩
end
theorem zeroArr:(Tryz.prog.info? 103).map (fun i=>(i.zero,i.size,i.bytes))=some (some (.agg #[.slice none 0 0,.int .i64 0,.slice none 0 0,.int .i64 0,.bool false]),5,72):=by kernel_rfl
theorem run_zeroArr (w:World):(zeroValue 103).run Tryz.prog w=.ok (.agg #[.slice none 0 0,.int .i64 0,.slice none 0 0,.int .i64 0,.bool false]) w:=by
 obtain⟨i,hi,h0,h1,h2⟩:=info_parts zeroArr
 simp[zeroValue,typeInfo,hi,h0]
theorem Tryz.sizeArr:(Tryz.prog.info? 103).map (·.size)=some 5:=by kernel_rfl
theorem wpList_load_arr {w:World} {ops:Array Oper} {rest:List Oper} {op:Oper} {a:Act} {Q:Exit->Act->World->Prop} (hgd:op.guard=none) (x:Operand) (ho:op.op=.load 103 x) {b:Nat} {AR:Array Value} (hx:a.eval x=.pointer (some ⟨b,0,none⟩)) (hr:w.rangeAt b 0 AR.toList) (hs:(Tryz.prog.info? 103).map (·.size)=some AR.toList.length)
 (h:wpList Tryz.prog ops Q rest (a.put op.dst (.agg AR)) w):wpList Tryz.prog ops Q (op :: rest) a w:=by
 refine wpList_load_mid hgd 103 x ho b 0 hx AR.toList _ hr Tryz.underlying103 rfl hs ?_
 simpa using h
set_option maxRecDepth 100000 in
set_option maxHeartbeats 1600000 in
theorem copy_yes {F:Nat->Prop} {w:World} {a:Nat} {R:AM.Raw} (h:Is F w a R) (hL:R.L.length<=1000000):Calls Tryz.prog 49 #[ptr a] w fun e w'=>∃ a' F',e=.returned (ptr a')/\Is F' w' a' R/\(∀ i,F' i->w.heap.size<=i)/\w.grownBy w' none:=by
 have HI:Hid (Is F w a R):=h
 have HLL:Hid (R.L.length<=1000000):=hL
 obtain⟨dg,dv,fp,fc,h⟩:=h
 have HLI:Hid (Lies F w a dg dv fp fc R):=h
 have hN:=h.ok.d2
 have c0:w.cell? ⟨a,0,none⟩=some (.slice (some ⟨dg,0,none⟩) R.C.length R.C.length):=topCell (j:=0) h.top rfl
 have c1:w.cell? ⟨a,1,none⟩=some (.int .i64 (R.n:Int)):=topCell (j:=1) h.top rfl
 have c2:w.cell? ⟨a,2,none⟩=some (.slice fp R.L.length fc):=topCell (j:=2) h.top rfl
 have c3:w.cell? ⟨a,3,none⟩=some (.int .i64 (R.fuse:Int)):=topCell (j:=3) h.top rfl
 have c4:w.cell? ⟨a,4,none⟩=some (.bool R.off):=topCell (j:=4) h.top rfl
 have hmd:∀ W:World,(Instr.makeSlice 100 (.int .i64 (R.C.length:Int)) (.int .i64 (R.C.length:Int))).run Tryz.prog W=.ok (.slice (some ⟨W.heap.size,0,none⟩) R.C.length R.C.length) (W.alloc (.cells (List.replicate R.C.length (Value.slice none 0 0)).toArray 105)):=fun W=>run_make_drvs W hN
 obtain⟨AR,hAR⟩:∃ AR:Array Value,AR=#[.slice (some ⟨dg,0,none⟩) R.C.length R.C.length,.int .i64 (R.n:Int),.slice fp R.L.length fc,.int .i64 (R.fuse:Int),.bool R.off]:=⟨_,rfl⟩
 obtain⟨ZD,hZD⟩:∃ ZD:Array Value,ZD=(List.replicate R.C.length (Value.slice none 0 0)).toArray:=⟨_,rfl⟩
 rw[<- hZD] at hmd
 have zA:=run_zeroArr
 obtain⟨ZR,hZR⟩:∃ ZR:Array Value,ZR=#[.slice none 0 0,.int .i64 0,.slice none 0 0,.int .i64 0,.bool false]:=⟨_,rfl⟩
 rw[<- hZR] at zA
 have HZR:Hid (ZR.size=5):=by show _=_;rw[hZR];rfl
 have HAR:Hid (AR=#[.slice (some ⟨dg,0,none⟩) R.C.length R.C.length,.int .i64 (R.n:Int),.slice fp R.L.length fc,.int .i64 (R.fuse:Int),.bool R.off]):=hAR
 have HARS:Hid (AR.size=5/\AR.all (·.oneCell')=true):=by
  rw[hAR]
  refine⟨rfl,?_⟩
  simp[Value.oneCell']
 have HINF:Hid ((Tryz.prog.info? 103).map (·.size)=some AR.size):=by rw[HARS.out.1];exact Tryz.sizeArr
 have HRG:Hid (w.rangeAt a 0 AR.toList):=fun j u hj=>by
  rw[Nat.zero_add]
  exact topCell h.top (by rw[<- hAR];simpa using hj)
 have HSZ:Hid ((Tryz.prog.info? 103).map (·.size)=some AR.toList.length):=by rw[Array.length_toList];exact HINF.out
 -- the world behind the head
 obtain⟨W3,hW3⟩:∃ W3:World,W3=(w.alloc (.cells (AR.setIfInBounds 0 (.slice (some ⟨w.heap.size+1,0,none⟩) R.C.length R.C.length)) 103)).alloc (.cells ZD 105):=⟨_,rfl⟩
 have HH:Hid (Half w W3 w.heap.size (w.heap.size+1) (List.replicate R.C.length (Value.slice none 0 0)) 0 R fp fc):=by
  have g1:w.grownBy W3 none:=by rw[hW3];exact gb_alloc (World.grownBy_alloc _ _ none) _
  refine⟨?_,?_,by simp,Nat.le_refl _,by omega,fun i v hv hi=>by omega,fun i j u v hi=>by omega,g1⟩
  ·rw[hW3,heap_old _ _ (heap_alloc_new w _),hAR];rfl
  ·rw[hW3,hZD]
   exact heap_new _ _ _ (by simp)
 have HFN:Hid (∀ k:Nat,k < R.C.length->∃ v,w.cell? ⟨dg,k,none⟩=some v/\((R.C[k]?=some none/\v=.slice none 0 0)\/∃ xs g c,R.C[k]?=some (some xs)/\v=.slice (some ⟨g,0,none⟩) R.n c/\w.ownsRow 0 108 64 v R.n (xs.map bv))):=fun k hk=>by
  have hdl:k < dv.length:=by rw[h.len];exact hk
  have hdv:dv[k]?=some dv[k]:=List.getElem?_eq_getElem hdl
  refine⟨dv[k],topCell h.dsk (by rw[List.getElem?_toArray];exact hdv),?_⟩
  rcases h.drv k _ hdv with h1 | ⟨xs,h1,h2⟩
  ·exact .inl h1
  ·rcases h2.2 with ⟨_,e2⟩ | ⟨g,c,cur,e,_⟩
   ·have:=h.ok.n1;omega
   ·exact .inr ⟨xs,g,c,h1,e,h2⟩
 have ha3:W3.cell? ⟨a,0,none⟩=some (.slice (some ⟨dg,0,none⟩) R.C.length R.C.length):=HH.out.grown.cell c0 (by simp)
 have HOK:Hid (R.Ok):=h.ok
 have hn4:=h.ok.n2
 have hAL:Hid (a < w.heap.size):=h.lt a h.Fa
 have ca0:(w.alloc (.cells AR 103)).cell? ⟨a,0,none⟩=some (.slice (some ⟨dg,0,none⟩) R.C.length R.C.length):=(World.grownBy_alloc w _ none).cell c0 (by simp)
 have ht:((w.alloc (.cells AR 103)).alloc (.cells ZD 105)).heap[w.heap.size]?=some (.cells AR 103 (0,0)):=heap_old _ _ (heap_alloc_new w _)
 have cb0:((w.alloc (.cells AR 103)).alloc (.cells ZD 105)).cell? ⟨w.heap.size,0,none⟩=some (.slice (some ⟨dg,0,none⟩) R.C.length R.C.length):=topCell ht (by rw[hAR];rfl)
 have fb0:=topFrozen 0 ht
 have HW3:Hid (W3=(w.alloc (.cells (AR.setIfInBounds 0 (.slice (some ⟨w.heap.size+1,0,none⟩) R.C.length R.C.length)) 103)).alloc (.cells ZD 105)):=hW3
 rw[hW3] at ha3
 obtain⟨N,hNe⟩:∃ N,N=R.C.length:=⟨_,rfl⟩
 have HN:Hid (N=R.C.length):=hNe
 rw[<- hNe] at c0 hmd ha3 ca0 cb0 hN HW3
 have HC2:Hid (w.cell? ⟨a,2,none⟩=some (.slice fp R.L.length fc)):=c2
 clear h hL hAR hZD hZR hW3 ht hNe c1 c2 c3 c4
 go_enter Tryz.func49,Tryz.ntmps49
 go_wp2_with (first
  | (go_at_call 77;refine (made_yes HI.out).mono ?_;rintro e w1 ⟨rfl,hw⟩;obtain rfl:=hw.symm;clear hw)
  | (refine wpList_load_arr rfl (.tmp 10) rfl rfl HRG.out HSZ.out ?_)
  | (refine wpList_store_row rfl 103 (.tmp 3) (.tmp 11) rfl w.heap.size AR rfl rfl 103 ZR (heap_alloc_new w _) HINF.out (by rw[HZR.out,HARS.out.1]) HARS.out.2 ?_;rw[World.setRow_alloc_new])
  | fail)
 rw[<- HW3.out]
 clear ca0 cb0 fb0 ha3 HW3 HRG HSZ hmd zA HINF HARS HZR HAR
 obtain⟨a2,ha2⟩:∃ a2,a2=w.heap.size:=⟨_,rfl⟩
 obtain⟨d2,hd2⟩:∃ d2,d2=w.heap.size+1:=⟨_,rfl⟩
 rw[<- hd2,<- ha2] at HH
 rw[<- ha2]
 clear ha2 hd2
 go_loopw [24] (fun ti wr=>∃ k:Nat,k<=N/\ti=.int .i64 (k:Int)/\Hid (∃ dv2,Half w wr a2 d2 dv2 k R fp fc)) (fun ti _=>N - (intOf ti).toNat)
 case atStart=>exact⟨0,by omega,rfl,_,HH.out⟩
 case round =>
  clear HH
  obtain⟨k,hk,rfl,HX⟩:=hrel
  by_cases hlt:k < N
  ·have i1:(k:Int) < (N:Int):=by omega
   obtain⟨dv2,hh⟩:=HX.out
   have hkN:k < R.C.length:=by rw[<- HN.out];exact hlt
   have HKN:Hid (k < R.C.length):=hkN
   have HH:Hid (Half w wr a2 d2 dv2 k R fp fc):=hh
   have hkd:k < dv2.length:=by rw[hh.len];exact hkN
   obtain⟨ov,hov⟩:∃ ov,ov=dv2[k]:=⟨_,rfl⟩
   have HCO:Hid (∀ W,wr.grownBy W none->W.cell? ⟨d2,k,none⟩=some ov/\W.frozen? ⟨d2,k,none⟩=false):=fun W g=>⟨topCell (hh.keep g).dsk (by rw[List.getElem?_toArray,hov];exact List.getElem?_eq_getElem hkd),topFrozen k (hh.keep g).dsk⟩
   have HA0:Hid (∀ W,wr.grownBy W none->W.cell? ⟨a2,0,none⟩=some (.slice (some ⟨d2,0,none⟩) N N)):=fun W g=>by rw[HN.out];exact topCell (j:=0) (hh.keep g).top rfl
   have HAS:Hid (∀ W v,wr.grownBy W none->(W.setCell ⟨d2,k,none⟩ v).cell? ⟨a2,0,none⟩=some (.slice (some ⟨d2,0,none⟩) N N)):=fun W v g=>by
    rw[World.cell?_setCell_far _ _ _ _ (by show d2 ≠ a2;exact ne_ty hh.dsk hh.top (by decide))]
    exact HA0.out W g
   obtain⟨fv,cfv,hfv⟩:=HFN.out k hkN
   have cfw:wr.cell? ⟨dg,k,none⟩=some fv:=hh.grown.cell cfv (by simp)
   have HN4:Hid (R.n<=4096):=hn4
   rcases hfv with ⟨hC,rfl⟩ | ⟨xs,g,c,hC,rfl,how⟩
   ·clear hh hkN hkd hov cfv HX
    go_wp2_with fail
    go_region_held3 (fun w'=>w'.cell? ⟨a2,0,none⟩=some (.slice (some ⟨d2,0,none⟩) N N)) (first | exact HA0.out _ (by first | exact World.grownBy.refl _ _ | exact gb_drew (World.grownBy.refl _ _) | exact gb_drew (gb_drew (World.grownBy.refl _ _))) | exact HA0.out _ HGF.out | exact HA0.out _ (gb_drew HGF.out) | exact HAS.out _ _ HGF.out | exact HAS.out _ _ (gb_drew HGF.out))
     ((go_at_call 93;refine (clone_drv_nil _).mono ?_;rintro e w8 ⟨rfl,hw⟩;have HGF:Hid (wr.grownBy w8 none):=(by rw[hw];exact (by first | exact World.grownBy.refl _ _ | exact gb_drew (World.grownBy.refl _ _) | exact gb_drew (gb_drew (World.grownBy.refl _ _))));clear hw;have co:=(HCO.out _ HGF.out).1;have fo:=(HCO.out _ HGF.out).2;have HP:Hid (Half w (w8.setCell ⟨d2,k,none⟩ (.slice none 0 0)) a2 d2 (dv2.set k (.slice none 0 0)) (k+1) R fp fc):=HH.out.put HKN.out HGF.out (.inl ⟨hC,rfl⟩)))
    go_wp2
    go_roundw
    case rel=>exact⟨k+1,by omega,by go_num,_,by first | exact HP.out | exact HP.out.keep (grown_drewN _ 1)⟩
    case measure=>simp[intOf];omega
   ·have HOW:Hid (w.ownsRow 0 108 64 (.slice (some ⟨g,0,none⟩) R.n c) R.n (xs.map bv)):=how
    have HOB:Hid (∀ W,wr.grownBy W none->∀ b,(Value.slice (some ⟨g,0,none⟩) R.n c).ownBlock=some b->W.heap[b]?=w.heap[b]?):=fun W gw b hb=>(grown_trans HH.out.grown gw).block b (rows_blk how hb).2.1 (by simp)
    clear hh hkN hkd hov cfv HX how
    go_wp2_with fail
    go_region_held3 (fun w'=>w'.cell? ⟨a2,0,none⟩=some (.slice (some ⟨d2,0,none⟩) N N)) (first | exact HA0.out _ (by first | exact World.grownBy.refl _ _ | exact gb_drew (World.grownBy.refl _ _) | exact gb_drew (gb_drew (World.grownBy.refl _ _))) | exact HA0.out _ HGF.out | exact HA0.out _ (gb_drew HGF.out) | exact HAS.out _ _ HGF.out | exact HAS.out _ _ (gb_drew HGF.out))
     ((go_at_call 93;refine (clone_drv_yes (ownsRow_same HOW.out (fun g hg=>HOB.out _ (by first | exact World.grownBy.refl _ _ | exact gb_drew (World.grownBy.refl _ _) | exact gb_drew (gb_drew (World.grownBy.refl _ _))) g hg)) HN4.out).mono ?_;rintro e w8 ⟨p8,c8,rfl,ho8,hg8⟩;have HGF:Hid (wr.grownBy w8 none):=grown_trans (by first | exact World.grownBy.refl _ _ | exact gb_drew (World.grownBy.refl _ _) | exact gb_drew (gb_drew (World.grownBy.refl _ _))) hg8;have co:=(HCO.out _ HGF.out).1;have fo:=(HCO.out _ HGF.out).2;have HP:Hid (Half w (w8.setCell ⟨d2,k,none⟩ (.slice p8 R.n c8)) a2 d2 (dv2.set k (.slice p8 R.n c8)) (k+1) R fp fc):=HH.out.put HKN.out HGF.out (.inr ⟨xs,hC,ho8⟩);clear ho8 hg8))
    go_wp2
    go_roundw
    case rel=>exact⟨k+1,by omega,by go_num,_,by first | exact HP.out | exact HP.out.keep (grown_drewN _ 1)⟩
    case measure=>simp[intOf];omega
  ·have i1:¬ (k:Int) < (N:Int):=by omega
   obtain⟨dv2,hh⟩:=HX.out
   have ek:k=R.C.length:=by have:=HN.out;omega
   rw[ek] at hh
   have cF:wr.cell? ⟨a,2,none⟩=some (.slice fp R.L.length fc):=hh.grown.cell HC2.out (by simp)
   have HH:Hid (Half w wr a2 d2 dv2 R.C.length R fp fc):=hh
   obtain⟨M,hM⟩:∃ M,M=R.L.length:=⟨_,rfl⟩
   have HCO:Hid (∀ W,wr.grownBy W none->W.cell? ⟨a2,2,none⟩=some (.slice fp M fc)/\W.frozen? ⟨a2,2,none⟩=false):=fun W g=>⟨by rw[hM];exact topCell (j:=2) (hh.keep g).top rfl,topFrozen 2 (hh.keep g).top⟩
   have HFI:Hid (∀ (w8:World) (p8:Option Addr) (c8:Nat),wr.grownBy w8 none->w8.ownsRow wr.heap.size 110 130 (.slice p8 M c8) M (wrow R.L)->Is (fun i=>w.heap.size<=i/\i < w8.heap.size) (w8.setCell ⟨a2,2,none⟩ (.slice p8 M c8)) a2 R/\w.grownBy (w8.setCell ⟨a2,2,none⟩ (.slice p8 M c8)) none):=fun w8 p8 c8 g hr=>by
    rw[hM] at hr ⊢
    exact HH.out.fin HOK.out g (ownsRow_down hr HH.out.grown.size)
   have hfl:=HLI.out.fly
   rw[<- hM] at cF hfl
   have HM:Hid (M<=1000000):=by show _<=_;rw[hM];exact HLL.out
   rcases hfl.2 with ⟨e,e2⟩ | ⟨g,cap,cur,e,hr2⟩
   ·injection e with e1 e3 e4
    subst e1
    subst e4
    have hM0:M=0:=e3
    subst hM0
    have HFI2:Hid (Is (fun i=>w.heap.size<=i/\i < wr.heap.size) (wr.setCell ⟨a2,2,none⟩ (.slice none 0 0)) a2 R/\w.grownBy (wr.setCell ⟨a2,2,none⟩ (.slice none 0 0)) none):=HFI.out wr none 0 (World.grownBy.refl _ _) (by
     have hL0:R.L=[]:=List.eq_nil_of_length_eq_zero hM.symm
     rw[hL0]
     exact World.ownsRow_nil wr _ _ _)
    have co:=(HCO.out wr (World.grownBy.refl _ _)).1
    have fo:=(HCO.out wr (World.grownBy.refl _ _)).2
    clear hh ek hM hfl e2 e3 HFI HCO HX
    go_wp2_with (first | (go_at_call 94;refine (clone_wr_nil _).mono ?_;rintro e w8 ⟨rfl,hw⟩;obtain rfl:=hw.symm;clear hw) | fail)
    go_ret
    exact⟨a2,_,rfl,HFI2.out.1,fun i h=>h.1,HFI2.out.2⟩
   ·injection e with e1 e3 e4
    subst e1
    have HROW:Hid (wr.ownsRow 0 110 130 (.slice (some ⟨g,0,none⟩) M fc) M (wrow R.L)):=ownsRow_same hfl (fun b hb=>hh.grown.block b (rows_blk hfl hb).2.1 (by simp))
    have HONE:Hid (∀ u ∈ wrow R.L,u.oneCell'=true):=fun u hu=>by
     obtain⟨l,_,hu⟩:=List.mem_flatMap.1 hu
     exact wcells_one l u hu
    clear hh ek hM hfl hr2 e3 e4 HX
    go_wp2_with (first | (go_at_call 94;refine (clone_wr_yes HROW.out HM.out HONE.out).mono ?_;rintro e w8 ⟨p8,c8,rfl,ho8,hg8⟩;have HIS:Hid (Is (fun i=>w.heap.size<=i/\i < w8.heap.size) (w8.setCell ⟨a2,2,none⟩ (.slice p8 M c8)) a2 R/\w.grownBy (w8.setCell ⟨a2,2,none⟩ (.slice p8 M c8)) none):=HFI.out w8 p8 c8 hg8 ho8;have co:=(HCO.out _ hg8).1;have fo:=(HCO.out _ hg8).2;clear ho8 hg8) | fail)
    go_ret
    exact⟨a2,_,rfl,HIS.out.1,fun i h=>h.1,HIS.out.2⟩
abbrev rptr (a:Nat):Value:=.pointer (some ⟨a,0,none⟩)
theorem own_any {w:World} {v:Value} {xs:List Nat} (h:Vec w v xs):Calls Tryz.prog 92 #[v] w fun e w'=>∃ p n c,e=.returned (.slice p n c)/\Own w.heap.size w' (.slice p n c) xs/\w.grownBy w' none:=by
 have HV:Hid (Vec w v xs):=h
 have HL:Hid (xs.length<=140737488351232):=h.len
 obtain⟨p,n,c,rfl,_⟩:=h.opened
 clear h
 go_enter Tryz.func92,Tryz.ntmps92
 go_wp2_with (first | (at_builtin;refine wpList_append_vec rfl _ _ rfl _ _ rfl rfl (Own.nil w.heap.size w) HV.out (Nat.le_refl _) (by have:=HL.out;simp;omega) ?_;intro v9 w9 ho hg;have HO:Hid (Own w.heap.size w9 v9 xs):=ho;have HG:Hid (w.grownBy w9 none):=hg;clear ho hg) | fail)
 go_ret
 obtain⟨p9,n9,c9,rfl,_⟩:=HO.out.vec.opened
 exact⟨p9,n9,c9,rfl,HO.out,HG.out⟩
theorem drow_set {ds:List Value} {D:List (Option (List (List Nat)))} {i:Nat} {o o':Option (List (List Nat))} (h:D[i]?=some o) (e:o'.isNone=o.isNone):drow ds (D.set i o')=drow ds D:=by
 unfold drow
 induction ds generalizing D i with
 | nil=>simp
 | cons v r ih =>
   cases D with
   | nil=>simp at h
   | cons x y =>
     cases i with
     | zero =>
       simp at h
       subst h
       simp[e]
     | succ j =>
       simp at h
       simp[ih h]
section
variable {G:Nat->Prop} {w:World} {r:Nat} {dp:Option Addr} {dc:Nat} {ds:List Value} {lp:Option Addr} {lc:Nat} {fs:List Value} {A:AM.RA}
theorem rows_at {w:World} {B e size n m c:Nat} {p:Option Addr} {xs:List Value} (h:w.ownsRow B e size (.slice p m c) n xs) (hn:0 < n):∃ g,p=some ⟨g,0,none⟩/\∃ cur,w.heap[g]?=some (.cells cur e (0,0))/\∀ j u,xs[j]?=some u->w.cell? ⟨g,j,none⟩=some u:=by
 have hr:=h
 rcases h.2 with ⟨e1,hn0⟩ | ⟨g,cap,cur,e1,hb,hg,_⟩
 ·omega
 ·injection e1 with e2 e3 e4
  subst e2
  refine⟨g,rfl,cur,hg,fun j u hj=>?_⟩
  have:=hr.cells (g:=g) rfl j u hj
  rwa [add_at,Nat.zero_add] at this
theorem RL.disk (h:RL G w r dp dc ds lp lc fs A) {i:Nat} (hi:i < A.D.length):∃ dg v,dp=some ⟨dg,0,none⟩/\ds[i]?=some v/\w.cell? ⟨dg,i * 2,none⟩=some v/\w.cell? ⟨dg,i * 2+1,none⟩=some (.bool (A.D[i]'hi).isNone)/\∃ c,w.heap[dg]?=some (.cells c 124 (0,0)):=by
 obtain⟨g,rfl,cur,hg,hc⟩:=rows_at h.dsk (by omega)
 have hl:i < ds.length:=by rw[h.dlen];exact hi
 have hz:i < (ds.zip A.D).length:=by simp;omega
 have hf:∀ x ∈ ds.zip A.D,([x.1,Value.bool x.2.isNone]:List Value).length=2:=fun x _=>rfl
 refine⟨g,ds[i],rfl,List.getElem?_eq_getElem hl,?_,?_,cur,hg⟩
 ·have:=flat_get (f:=fun x:Value × Option (List (List Nat))=>[x.1,Value.bool x.2.isNone]) (m:=2) (i:=0) (by decide) hf hz
  exact hc _ _ (by rw[Nat.add_zero] at this;unfold drow;rw[this];simp)
 ·have:=flat_get (f:=fun x:Value × Option (List (List Nat))=>[x.1,Value.bool x.2.isNone]) (m:=2) (i:=1) (by decide) hf hz
  exact hc _ _ (by unfold drow;rw[this];simp)
theorem RL.flight (h:RL G w r dp dc ds lp lc fs A) {i:Nat} (hi:i < A.L.length):∃ lg u,lp=some ⟨lg,0,none⟩/\fs[i]?=some u/\w.cell? ⟨lg,i * 3,none⟩=some (.int .i64 ((A.L[i]'hi).d:Int))/\w.cell? ⟨lg,i * 3+1,none⟩=some (.int .i64 ((A.L[i]'hi).k:Int))/\w.cell? ⟨lg,i * 3+2,none⟩=some u/\Own 0 w u (A.L[i]'hi).b/\∃ c,w.heap[lg]?=some (.cells c 138 (0,0)):=by
 obtain⟨g,rfl,cur,hg,hc⟩:=rows_at h.fly (by omega)
 have hl:i < fs.length:=by rw[h.flen];exact hi
 have hz:i < (fs.zip A.L).length:=by simp;omega
 have hf:∀ x ∈ fs.zip A.L,([.int .i64 (x.2.d:Int),.int .i64 (x.2.k:Int),x.1]:List Value).length=3:=fun x _=>rfl
 have key:∀ j (hj:j < 3),(frow fs A.L)[i * 3+j]?=([.int .i64 ((A.L[i]'hi).d:Int),.int .i64 ((A.L[i]'hi).k:Int),fs[i]]:List Value)[j]?:=fun j hj=>by
  have:=flat_get (f:=fun x:Value × AM.Fl=>([.int .i64 (x.2.d:Int),.int .i64 (x.2.k:Int),x.1]:List Value)) (m:=3) (i:=j) hj hf hz
  unfold frow
  rw[this]
  simp
 exact⟨g,fs[i],rfl,List.getElem?_eq_getElem hl,hc _ _ (by have:=key 0 (by decide);rwa [Nat.add_zero] at this),hc _ _ (key 1 (by decide)),hc _ _ (key 2 (by decide)),(h.fv i _ _ (List.getElem?_eq_getElem hl) (List.getElem?_eq_getElem hi)).1,cur,hg⟩
theorem rows_set1 {w:World} {B e n g c k:Nat} {us:List Value} (h:w.ownsRow B e 1 (.slice (some ⟨g,0,none⟩) n c) n us) (hk:k < n) (u:Value):(w.setCell ⟨g,k,none⟩ u).ownsRow B e 1 (.slice (some ⟨g,0,none⟩) n c) n (us.set k u):=by
 have hl:=h.1
 rcases h.2 with ⟨e1,hn⟩ | ⟨g',cap',cur,e1,hb,hg,hc,hm,hs,ht⟩
 ·cases e1
 ·injection e1 with e2 e3 e4
  injection e2 with e2
  injection e2 with e2
  subst e2
  subst e4
  refine⟨by simpa using hl,.inr ⟨g,c,cur.setIfInBounds k u,rfl,hb,?_,hc,hm,by simpa using hs,?_⟩⟩
  ·rw[setCell_eq_setRow w g k cur e (0,0) _ hg]
   exact setRow_heap w g cur _ e _ hg
  ·simp only[Array.toList_setIfInBounds]
   rw[List.take_set,ht]
theorem RL.place (h:RL G w r dp dc ds lp lc fs A) {i k:Nat} {v:Value} {ss:List (List Nat)} (hv:ds[i]?=some v) (hD:A.D[i]?=some (some ss)) (hk:k < A.n):∃ sg c u b,v=.slice (some ⟨sg,0,none⟩) A.n c/\w.cell? ⟨sg,k,none⟩=some u/\w.frozen? ⟨sg,k,none⟩=false/\ss[k]?=some b/\Own 0 w u b/\G sg/\∃ cc,w.heap[sg]?=some (.cells cc 31 (0,0)):=by
 rcases h.sec i v hv with ⟨h1,_⟩ | ⟨ss',vs,h1,h2,h3,h4⟩
 ·rw[hD] at h1;cases h1
 ·rw[hD] at h1
  injection h1 with h1
  injection h1 with h1
  subst h1
  obtain⟨p,c,rfl⟩:=rows_slice h2
  obtain⟨g,rfl,cur,hg,hc⟩:=rows_at h2 (by omega)
  have hvl:vs.length=A.n:=by have:=h2.1;omega
  have hu:vs[k]?=some (vs[k]'(by omega)):=List.getElem?_eq_getElem (by omega)
  have hb:ss[k]?=some (ss[k]'(by omega)):=List.getElem?_eq_getElem (by omega)
  exact⟨g,c,_,_,rfl,hc k _ hu,topFrozen k hg,hb,(h4 k _ _ hu hb).1,h.Gs i _ hv g rfl,cur,hg⟩
theorem RL.laid (h:RL G w r dp dc ds lp lc fs A) {w1:World} (g1:w.grownBy w1 none) {i k sg c:Nat} {u:Value} {ss:List (List Nat)} {b:List Nat} (hv:ds[i]?=some (.slice (some ⟨sg,0,none⟩) A.n c)) (hD:A.D[i]?=some (some ss)) (hk:k < A.n) (hu:Own w.heap.size w1 u b) :
 RL (fun j=>G j\/u.ownBlock=some j) (w1.setCell ⟨sg,k,none⟩ u) r dp dc ds lp lc fs { A with D:=A.D.set i (some (ss.set k b)) }:=by
 have h1:=h.keep g1
 obtain⟨c',hc'⟩:∃ c,w1.heap[sg]?=some (.cells c 31 (0,0)):=by
  rcases h1.sec i _ hv with ⟨_,e⟩ | ⟨ss',vs,_,h2,_⟩
  ·cases e
  ·exact rowBlock h2 rfl
 have hb:∀ j,j ≠ sg->(w1.setCell ⟨sg,k,none⟩ u).heap[j]?=w1.heap[j]?:=fun j hj=>Below.heap_setCell _ _ _ _ hj
 have hne:∀ (j:Nat) (c:Array Value) (t:TypeId),w1.heap[j]?=some (.cells c t (0,0))->t ≠ 31->(w1.setCell ⟨sg,k,none⟩ u).heap[j]?=w1.heap[j]?:=fun j c t hj ht=>hb j (ne_ty hj hc' ht)
 have hil:i < A.D.length:=(List.getElem?_eq_some_iff.1 hD).1
 have hlen:(A.D.set i (some (ss.set k b))).length=A.D.length:=List.length_set ..
 have hown:Own 0 (w1.setCell ⟨sg,k,none⟩ u) u b:=(hu.down (Nat.zero_le _)).same0 (fun g hg=>by
  obtain⟨cc,hcc⟩:=rowBlock hu.row hg
  exact hne g cc _ hcc (by decide))
 refine⟨fun j hj=>?_,?_,?_,by rw[hlen];exact h.dlen,fun j v hv'=>?_,ownsRow_same h1.fly (fun g hg=>?_),h.flen,fun j u' x hu' hx=>?_,.inl h.Gr,fun g hg=>.inl (h.Gd g (by rw[hlen] at hg;exact hg)),fun j v hv' g hg=>.inl (h.Gs j v hv' g hg),fun g hg=>.inl (h.Gl g hg),h.ap,h.left,h.n2,by rw[hlen];exact h.d2⟩
 ·rcases hj with hj | hj
  ·simpa using h1.lt j hj
  ·have:=(rows_blk hu.row hj).2.1
   simpa using this
 ·rw[hne r _ _ h1.top (by decide),hlen];exact h1.top
 ·rw[hlen]
  show World.ownsRow _ 0 _ 2 _ _ (drow ds (A.D.set i (some (ss.set k b))))
  rw[drow_set (o':=some (ss.set k b)) hD rfl]
  exact ownsRow_same h1.dsk (fun g hg=>by
   obtain⟨cc,hcc⟩:=rowBlock h1.dsk hg
   exact hne g cc _ hcc (by decide))
 ·by_cases cji:i=j
  ·subst cji
   rw[hv] at hv'
   obtain rfl:=Option.some.inj hv'
   rcases h1.sec i _ hv with ⟨_,e⟩ | ⟨ss',vs,h2,h3,h4,h5⟩
   ·cases e
   ·rw[hD] at h2
    injection h2 with h2
    injection h2 with h2
    subst h2
    refine .inr ⟨ss.set k b,vs.set k u,by rw[List.getElem?_set,if_pos rfl,if_pos hil],rows_set1 h3 hk u,by simpa using h4,fun k' u' b' hu' hb'=>?_⟩
    by_cases ck:k=k'
    ·subst ck
     have hkv:k < vs.length:=by have:=h3.1;omega
     rw[List.getElem?_set,if_pos rfl,if_pos hkv] at hu'
     rw[List.getElem?_set,if_pos rfl,if_pos (by omega)] at hb'
     obtain rfl:=Option.some.inj hu'
     obtain rfl:=Option.some.inj hb'
     exact⟨hown,fun g hg=>.inr hg⟩
    ·rw[List.getElem?_set,if_neg ck] at hu'
     rw[List.getElem?_set,if_neg ck] at hb'
     obtain⟨q1,q2⟩:=h5 k' u' b' hu' hb'
     exact⟨q1.same0 (fun g hg=>by
      obtain⟨cc,hcc⟩:=rowBlock q1.row hg
      exact hne g cc _ hcc (by decide)),fun g hg=>.inl (q2 g hg)⟩
  ·rcases h1.sec j v hv' with h2 | ⟨ss',vs,h2,h3,h4,h5⟩
   ·exact .inl ⟨by rw[List.getElem?_set,if_neg cji];exact h2.1,h2.2⟩
   ·refine .inr ⟨ss',vs,by rw[List.getElem?_set,if_neg cji];exact h2,ownsRow_same h3 (fun g hg=>hb g (fun e=>cji (h.ap i j _ v hv hv' g (by rw[e];rfl) hg))),h4,fun k' u' b' hu' hb'=>?_⟩
    obtain⟨q1,q2⟩:=h5 k' u' b' hu' hb'
    exact⟨q1.same0 (fun g hg=>by
     obtain⟨cc,hcc⟩:=rowBlock q1.row hg
     exact hne g cc _ hcc (by decide)),fun g hg=>.inl (q2 g hg)⟩
 ·obtain⟨cc,hcc⟩:=rowBlock h1.fly hg
  exact hne g cc _ hcc (by decide)
 ·obtain⟨q1,q2⟩:=h1.fv j u' x hu' hx
  exact⟨q1.same0 (fun g hg=>by
   obtain⟨cc,hcc⟩:=rowBlock q1.row hg
   exact hne g cc _ hcc (by decide)),fun g hg=>.inl (q2 g hg)⟩
end
end Go.Proofs.YtaalagkbpeinkaaGreat
