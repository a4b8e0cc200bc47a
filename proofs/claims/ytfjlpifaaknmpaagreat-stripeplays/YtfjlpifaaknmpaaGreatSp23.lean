/- Packed: Srt8, IntA4, Nil8, Whl8, RHi8. -/
import Derived.Test.YtfjlpifaaknmpaaGreatSp22
import Derived.ArgAppend
set_option linter.unusedSimpArgs false
set_option linter.unusedVariables false
set_option maxRecDepth 100000
namespace Go.Proofs.YtfjlpifaaknmpaaGreat
open Go.RowKit
theorem Tryz.infoU8:(Tryz.prog.info? 39).map (fun i=>(i.zero,i.size,i.bytes)) = some (some (.int .u64 0),1,8):=by kernel_rfl
structure UOwn (B:Nat) (w:World) (v:Value) (ls:List Nat):Prop where
 len:ls.length <= 1000
 row:w.ownsRow B 39 1 v ls.length (ls.map fun x:Nat=>Value.int .u64 (x:Int))
section
variable {B:Nat} {w w':World} {v:Value} {ls:List Nat}
theorem UOwn.keep (h:UOwn B w v ls) (g:w.grownBy w' none):UOwn B w' v ls:=⟨h.len,h.row.kept g (Classical.em _)⟩
theorem UOwn.kept {row:Option Nat} (h:UOwn B w v ls) (g:w.grownBy w' row) (ne:v.ownBlock = none \/ v.ownBlock ≠ row):UOwn B w' v ls:=⟨h.len,h.row.kept g ne⟩
theorem UOwn.lo (h:UOwn B w v ls):Lo B v:=fun k hk=>(h.row.lt k hk).1
theorem UOwn.nil (B:Nat) (w:World):UOwn B w (.slice none 0 0) []:=⟨by simp,World.ownsRow_nil w B 39 1⟩
theorem UOwn.opened (h:UOwn B w v ls):∃ p n c,v = .slice p n c /\ n = ls.length:=by
 rcases h.row.2 with ⟨e,hn⟩ | ⟨g,cap',cur,e,_⟩
 ·exact ⟨none,0,0,e,hn.symm⟩
 ·exact ⟨_,_,_,e,rfl⟩
theorem UOwn.place {p:Option Addr} {n cap:Nat} (h:UOwn B w (.slice p n cap) ls) {k:Nat} (hk:k < ls.length) :
 ∃ g,p = some ⟨g,0,none⟩ /\ B <= g /\ w.cell? ⟨g,k,none⟩ = some (.int .u64 ((ls.getD k 0:Nat):Int)) /\ w.frozen? ⟨g,k,none⟩ = false /\
   (∀ z:Nat,UOwn B (w.setCell ⟨g,k,none⟩ (.int .u64 (z:Int))) (.slice (some ⟨g,0,none⟩) n cap) (ls.set k z)) /\ ∀ u,w.grownBy (w.setCell ⟨g,k,none⟩ u) (some g):=by
 obtain ⟨g,e,hn,hb,hc,hf,hset,hgr⟩:=row_place h.row (by simp) (k:=k) (by simpa using hk)
 refine ⟨g,e,hb,by rw [hc];simp [List.getD,hk],hf,fun z=>⟨by simpa using h.len,?_⟩,hgr⟩
 have:=hset (.int .u64 (z:Int))
 simpa [List.map_set] using this
theorem UOwn.swapped {g n cap:Nat} (h:UOwn B w (.slice (some ⟨g,0,none⟩) n cap) ls) {j:Nat} (h0:0 < j) (hj:j < ls.length) :
 UOwn B ((w.setCell ⟨g,j,none⟩ (.int .u64 ((ls.getD (j - 1) 0:Nat):Int))).setCell ⟨g,j - 1,none⟩ (.int .u64 ((ls.getD j 0:Nat):Int))) (.slice (some ⟨g,0,none⟩) n cap) (SP.swap ls j) /\
  w.grownBy ((w.setCell ⟨g,j,none⟩ (.int .u64 ((ls.getD (j - 1) 0:Nat):Int))).setCell ⟨g,j - 1,none⟩ (.int .u64 ((ls.getD j 0:Nat):Int))) (some g):=by
 obtain ⟨g1,e1,_,_,_,hput,hgr⟩:=h.place hj
 obtain rfl:g = g1:=(by injection e1 with e1;injection e1 with e1)
 obtain ⟨g2,e2,_,_,_,hput2,hgr2⟩:=(hput (ls.getD (j - 1) 0)).place (k:=j - 1) (by simp;omega)
 obtain rfl:g = g2:=(by injection e2 with e2;injection e2 with e2)
 exact ⟨hput2 (ls.getD j 0),grown_trans (hgr _) (hgr2 _)⟩
end
theorem isNaN_no (w:World) (x:Nat):Calls Tryz.prog 169 #[.int .u64 (x:Int)] w fun e w'=>e = .returned (.bool false) /\ w' = w:=by
 have hne:((x:Int) != (x:Int)) = false:=neb_no rfl
 go_enter Tryz.func169,Tryz.ntmps169
 go_wp2
 go_ret
 exact ⟨rfl,rfl⟩
theorem less_yes (w:World) {x y:Nat} (h:x < y):Calls Tryz.prog 150 #[.int .u64 (x:Int),.int .u64 (y:Int)] w fun e w'=>e = .returned (.bool true) /\ w' = w:=by
 have i1:(x:Int) < (y:Int):=by omega
 have HL:Hid (x < y):=h
 clear h
 go_enter Tryz.func150,Tryz.ntmps150
 go_wp2_with (go_at_call 169;refine (isNaN_no _ _).mono ?_;rintro e w1 ⟨rfl,hw⟩;obtain rfl:=hw.symm;clear hw)
 go_ret
 exact ⟨by simp [HL.out],rfl⟩
theorem less_no (w:World) {x y:Nat} (h:¬ x < y):Calls Tryz.prog 150 #[.int .u64 (x:Int),.int .u64 (y:Int)] w fun e w'=>e = .returned (.bool false) /\ w' = w:=by
 have i1:¬ (x:Int) < (y:Int):=by omega
 have HL:Hid (¬ x < y):=h
 clear h
 go_enter Tryz.func150,Tryz.ntmps150
 go_wp2_with (go_at_call 169;refine (isNaN_no _ _).mono ?_;rintro e w1 ⟨rfl,hw⟩;obtain rfl:=hw.symm;clear hw)
 go_ret
 exact ⟨by simp [HL.out],rfl⟩
theorem len64_small {n:Nat} (h:n <= 12) (w:World):Calls Tryz.prog 154 #[.int .u64 (n:Int)] w fun e w'=>∃ m:Int,e = .returned (.int .i64 m) /\ w' = w:=by
 have hc:n = 0 \/ n = 1 \/ n = 2 \/ n = 3 \/ n = 4 \/ n = 5 \/ n = 6 \/ n = 7 \/ n = 8 \/ n = 9 \/ n = 10 \/ n = 11 \/ n = 12:=by omega
 rcases hc with rfl | rfl | rfl | rfl | rfl | rfl | rfl | rfl | rfl | rfl | rfl | rfl | rfl
 all_goals
  clear h
  go_enter Tryz.func154,Tryz.ntmps154
  go_wp2
  go_ret
  exact ⟨_,rfl,rfl⟩
theorem len_small {n:Nat} (h:n <= 12) (w:World):Calls Tryz.prog 136 #[.int .u64 (n:Int)] w fun e w'=>∃ m:Int,e = .returned (.int .i64 m) /\ w' = w:=by
 have HM:Hid (Calls Tryz.prog 154 #[.int .u64 (n:Int)] w fun e w'=>∃ m:Int,e = .returned (.int .i64 m) /\ w' = w):=len64_small h w
 clear h
 go_enter Tryz.func136,Tryz.ntmps136
 go_wp2_with (go_at_call 154;refine HM.out.mono ?_;rintro e w1 ⟨m,rfl,hw⟩;obtain rfl:=hw.symm;clear hw)
 go_ret
 exact ⟨_,rfl,rfl⟩
set_option maxHeartbeats 6400000 in
theorem insort_yes {B:Nat} {w:World} {v:Value} {S:List Nat} {n:Nat} (hu:UOwn B w v S) (hn:n = S.length) :
 Calls Tryz.prog 144 #[v,.int .i64 0,.int .i64 (n:Int)] w fun e w'=>e = .returned (.tuple #[]) /\ (∃ T,UOwn B w' v T /\ T.Perm S /\ SP.Sorted T) /\ w.grownBy w' v.ownBlock:=by
 obtain ⟨q,N,cap,rfl,hN⟩:=hu.opened
 have hNn:N = n:=by omega
 subst hNn
 have h1000:N <= 1000:=by have:=hu.len;omega
 have HL:Hid (S.length = N):=hn.symm
 have HS:Hid (∃ T,UOwn B w (.slice q N cap) T /\ SP.Pre S T 1):=⟨S,hu,SP.Pre.start S⟩
 obtain ⟨rw,hrw⟩:∃ rw,rw = (Value.slice q N cap).ownBlock:=⟨_,rfl⟩
 have HRW:Hid (rw = (Value.slice q N cap).ownBlock):=hrw
 rw [<- hrw]
 have HG:Hid (w.grownBy w rw):=World.grownBy.refl _ _
 clear hu hN hn hrw
 go_enter Tryz.func144,Tryz.ntmps144
 go_wp2_with fail
 go_loopw [6] (fun ti wr=>∃ i:Nat,(1 <= i /\ (i = 1 \/ i <= N)) /\ ti = .int .i64 i /\ Hid (∃ T,UOwn B wr (.slice q N cap) T /\ SP.Pre S T i) /\ Hid (w.grownBy wr rw)) (fun ti _=>N - (intOf ti).toNat)
 case atStart=>exact ⟨1,⟨by omega,.inl rfl⟩,rfl,HS,HG⟩
 case round =>
  clear HS HG
  obtain ⟨i,hi,rfl,HT,GK⟩:=hrel
  obtain ⟨wa,hwa⟩:∃ wa,wa = wr:=⟨wr,rfl⟩
  subst hwa
  by_cases hlt:i < N
  ·have i1:(i:Int) < (N:Int):=by omega
   have HI:Hid (∃ T,UOwn B wa (.slice q N cap) T /\ SP.Ins S T i i):=by
    obtain ⟨T,h1,h2⟩:=HT.out
    exact ⟨T,h1,h2.ins (by rw [h2.len,HL.out];exact hlt)⟩
   clear HT
   go_wp2_with fail
   go_loopw [7] (fun tj wr=>∃ j:Nat,j <= i /\ tj = .int .i64 j /\ Hid (∃ T,UOwn B wr (.slice q N cap) T /\ SP.Ins S T i j) /\ Hid (w.grownBy wr rw)) (fun tj _=>(intOf tj).toNat)
   case atStart=>exact ⟨i,Nat.le_refl _,rfl,HI,GK⟩
   case round =>
    clear HI GK
    obtain ⟨j,hj,rfl,HT,GK⟩:=hrel
    obtain ⟨T,z1,z2⟩:=HT.out
    have UT:Hid (UOwn B wr (.slice q N cap) T):=z1
    have IT:Hid (SP.Ins S T i j):=z2
    have HTL:Hid (T.length = N):=by show _ = _;rw [z2.perm.length_eq,HL.out]
    clear z1 z2 HT
    by_cases h0:j = 0
    ·subst h0
     have HP:Hid (∀ n,(∃ T,UOwn B (wr.drewN n) (.slice q N cap) T /\ SP.Pre S T (i + 1)) /\ w.grownBy (wr.drewN n) rw):=fun n=>⟨⟨T,UT.out.keep (grown_drewN _ _),IT.out.done0⟩,grown_trans GK.out (grown_any (grown_drewN _ _) _)⟩
     clear UT IT HTL GK
     go_wp2_with fail
     go_quiet (fail)
     go_wp2
     go_roundw
     case rel=>exact ⟨i + 1,⟨by omega,.inr (by omega)⟩,by go_num,(HP.out _).1,(HP.out _).2⟩
     case measure=>simp [intOf];omega
    ·obtain ⟨p,rfl⟩:∃ p,j = p + 1:=⟨j - 1,by omega⟩
     have hj0:(0:Int) < (p:Int) + 1:=by omega
     obtain ⟨g,rfl,hb,hc,hf,_,_⟩:=UT.out.place (k:=p + 1) (by rw [HTL.out];omega)
     obtain ⟨g1,e1,_,hc1,hf1,_,_⟩:=UT.out.place (k:=p) (by rw [HTL.out];omega)
     obtain rfl:g = g1:=(by injection e1 with e1;injection e1 with e1)
     have HB:Hid (rw = some g):=HRW.out
     have HC:Hid (∀ n,(wr.drewN n).cell? ⟨g,p + 1,none⟩ = some (.int .u64 ((T.getD (p + 1) 0:Nat):Int)) /\ (wr.drewN n).cell? ⟨g,p,none⟩ = some (.int .u64 ((T.getD p 0:Nat):Int))):=fun n=>⟨(grown_drewN wr n).cell hc (by simp),(grown_drewN wr n).cell hc1 (by simp)⟩
     have HPN:Hid (p + 1 < N):=by show _ < _;omega
     have b1:(p:Int) + 1 < (N:Int):=by omega
     have b2:(p:Int) < (N:Int):=by omega
     have b3:(0:Int) <= (p:Int):=by omega
     have b4:(0:Int) <= (p:Int) + 1:=by omega
     have b5:IntKind.i64.wrap (p:Int) = (p:Int):=IntWalk.i64_in _ (by omega)
     have b6:IntKind.i64.wrap ((p:Int) + 1 - 1) = (p:Int):=by rw [show (p:Int) + 1 - 1 = (p:Int) by omega];exact b5
     clear e1 hb h0
     by_cases hl:T.getD (p + 1) 0 < T.getD p 0
     ·have HX:Hid (∀ w',((wr.setCell ⟨g,p + 1,none⟩ (.int .u64 ((T.getD p 0:Nat):Int))).setCell ⟨g,p,none⟩ (.int .u64 ((T.getD (p + 1) 0:Nat):Int))).grownBy w' none -> (∃ T',UOwn B w' (.slice (some ⟨g,0,none⟩) N cap) T' /\ SP.Ins S T' i p) /\ w.grownBy w' rw):=fun w' g9=>by
       have h1:=UT.out.swapped (j:=p + 1) (by omega) (by rw [HTL.out];exact HPN.out)
       exact ⟨⟨_,h1.1.keep g9,IT.out.swap (by omega) hl⟩,grown_trans (grown_trans GK.out (by rw [HB.out];exact h1.2)) (grown_any g9 _)⟩
      have LS:Hid (∀ W,Calls Tryz.prog 150 #[.int .u64 ((T.getD (p + 1) 0:Nat):Int),.int .u64 ((T.getD p 0:Nat):Int)] W fun e w'=>e = .returned (.bool true) /\ w' = W):=fun W=>less_yes W hl
      clear hl UT IT HTL GK
      generalize T.getD (p + 1) 0 = y at *
      generalize T.getD p 0 = x at *
      go_wp2_with fail
      go_region_held3 (fun w'=>w'.cell? ⟨g,p + 1,none⟩ = some (.int .u64 (y:Int)) /\ w'.cell? ⟨g,p,none⟩ = some (.int .u64 (x:Int))) (exact HC.out _) ((go_at_call 150;refine (LS.out _).mono ?_;rintro e w1 ⟨rfl,hw⟩;obtain rfl:=hw.symm;clear hw))
      clear HC
      go_wp2_with fail
      go_region_with fail
      all_goals
       go_wp2
       go_roundw
       case rel=>exact ⟨p,by omega,by go_num,(HX.out _ (grown_trans (grown_drewN _ 1) (grown_drewN _ 1))).1,(HX.out _ (grown_trans (grown_drewN _ 1) (grown_drewN _ 1))).2⟩
       case measure=>simp [intOf]
     ·have hdn:Hid (∀ n,(∃ T,UOwn B (wr.drewN n) (.slice (some ⟨g,0,none⟩) N cap) T /\ SP.Pre S T (i + 1)) /\ w.grownBy (wr.drewN n) rw):=fun n=>⟨⟨T,UT.out.keep (grown_drewN _ _),IT.out.done (by omega) (by show T.getD p 0 <= _;omega)⟩,grown_trans GK.out (grown_any (grown_drewN _ _) _)⟩
      have LS:Hid (∀ W,Calls Tryz.prog 150 #[.int .u64 ((T.getD (p + 1) 0:Nat):Int),.int .u64 ((T.getD p 0:Nat):Int)] W fun e w'=>e = .returned (.bool false) /\ w' = W):=fun W=>less_no W hl
      clear hl UT IT HTL GK
      generalize T.getD (p + 1) 0 = y at *
      generalize T.getD p 0 = x at *
      go_wp2_with fail
      go_region_held3 (fun w'=>w'.cell? ⟨g,p + 1,none⟩ = some (.int .u64 (y:Int)) /\ w'.cell? ⟨g,p,none⟩ = some (.int .u64 (x:Int))) (exact HC.out _) ((go_at_call 150;refine (LS.out _).mono ?_;rintro e w1 ⟨rfl,hw⟩;obtain rfl:=hw.symm;clear hw))
      go_wp2
      go_roundw
      case rel=>exact ⟨i + 1,⟨by omega,.inr (by omega)⟩,by go_num,(hdn.out _).1,(hdn.out _).2⟩
      case measure=>simp [intOf];omega
  ·have i1:¬ (i:Int) < (N:Int):=by omega
   have HE:Hid (∃ T,UOwn B wa (.slice q N cap) T /\ T.Perm S /\ SP.Sorted T):=by
    obtain ⟨T,h1,h2⟩:=HT.out
    refine ⟨T,h1,h2.perm,?_⟩
    have hl:=h2.len
    have:=HL.out
    intro a b hab hb
    exact h2.srt a b hab (by omega)
   clear HT
   go_wp2
   go_end0
   exact ⟨rfl,HE.out,GK.out⟩
theorem pdq_yes {B:Nat} {w:World} {v:Value} {S:List Nat} {n:Nat} (hu:UOwn B w v S) (hn:n = S.length) (h12:n <= 12) (m:Int) :
 Calls Tryz.prog 135 #[v,.int .i64 0,.int .i64 (n:Int),.int .i64 m] w fun e w'=>e = .returned (.tuple #[]) /\ (∃ T,UOwn B w' v T /\ T.Perm S /\ SP.Sorted T) /\ w.grownBy w' v.ownBlock:=by
 have HI:Hid (Calls Tryz.prog 144 #[v,.int .i64 0,.int .i64 (n:Int)] w fun e w'=>e = .returned (.tuple #[]) /\ (∃ T,UOwn B w' v T /\ T.Perm S /\ SP.Sorted T) /\ w.grownBy w' v.ownBlock):=insort_yes hu hn
 have i1:(n:Int) <= 12:=by omega
 have i2:IntKind.i64.wrap (n:Int) = (n:Int):=IntWalk.i64_in _ (by omega)
 clear hu hn h12
 go_enter Tryz.func135,Tryz.ntmps135
 go_wp2_with fail
 go_loopw [1,2] (fun ta tb wr=>ta = .int .i64 0 /\ tb = .int .i64 (n:Int) /\ Hid (wr = w)) (fun _ _ _=>0)
 case atStart=>exact ⟨rfl,rfl,rfl⟩
 case round =>
  obtain ⟨rfl,rfl,hw⟩:=hrel
  obtain rfl:=hw.out
  clear hw
  go_wp2_with (first
   | (go_at_call 144;refine HI.out.mono ?_;rintro e w1 ⟨rfl,h1,h2⟩;have H1:Hid ((∃ T,UOwn B w1 v T /\ T.Perm S /\ SP.Sorted T) /\ wr.grownBy w1 v.ownBlock):=⟨h1,h2⟩;clear h1 h2)
   | fail)
  refine bodyPost_ret (results_none rfl _ _ _) rfl ?_
  exact ⟨rfl,H1.out⟩
theorem sort_yes {B:Nat} {w:World} {v:Value} {S:List Nat} (hu:UOwn B w v S) (h12:S.length <= 12) :
 Calls Tryz.prog 115 #[v] w fun e w'=>e = .returned (.tuple #[]) /\ (∃ T,UOwn B w' v T /\ T.Perm S /\ SP.Sorted T) /\ w.grownBy w' v.ownBlock:=by
 obtain ⟨q,N,cap,rfl,hN⟩:=hu.opened
 have HP:Hid (∀ m,Calls Tryz.prog 135 #[.slice q N cap,.int .i64 0,.int .i64 (N:Int),.int .i64 m] w fun e w'=>e = .returned (.tuple #[]) /\ (∃ T,UOwn B w' (.slice q N cap) T /\ T.Perm S /\ SP.Sorted T) /\ w.grownBy w' (Value.slice q N cap).ownBlock):=fun m=>pdq_yes hu hN (by omega) m
 have HLN:Hid (Calls Tryz.prog 136 #[.int .u64 (N:Int)] w fun e w'=>∃ m:Int,e = .returned (.int .i64 m) /\ w' = w):=len_small (by omega) w
 have i1:IntKind.u64.wrap (N:Int) = (N:Int):=by rw [IntKind.wrap_u64];omega
 have i2:(N:Int) <= 12:=by omega
 clear hu hN h12
 go_enter Tryz.func115,Tryz.ntmps115
 go_wp2_with (first
  | (go_at_call 136;refine HLN.out.mono ?_;rintro e w1 ⟨m,rfl,hw⟩;obtain rfl:=hw.symm;clear hw)
  | (go_at_call 135;refine (HP.out _).mono ?_;rintro e w2 ⟨rfl,h1,h2⟩;have H1:Hid ((∃ T,UOwn B w2 (.slice q N cap) T /\ T.Perm S /\ SP.Sorted T) /\ w.grownBy w2 (Value.slice q N cap).ownBlock):=⟨h1,h2⟩;clear h1 h2)
  | fail)
 go_end0
 exact ⟨rfl,H1.out⟩
set_option maxHeartbeats 6400000 in
theorem often_yes {B:Nat} {w:World} {v:Value} {S:List Nat} {k:Nat} (hu:UOwn B w v S) (h12:S.length <= 12) (hk:1 <= k) (hk2:k <= 255) :
 Calls Tryz.prog 67 #[v,.int .i64 (k:Int)] w fun e w'=>e = .returned (.int .u64 ((SP.often S k:Nat):Int)) /\ w.grownBy w' v.ownBlock:=by
 obtain ⟨q,N,cap,rfl,hN⟩:=hu.opened
 have HSO:Hid (Calls Tryz.prog 115 #[.slice q N cap] w fun e w'=>e = .returned (.tuple #[]) /\ (∃ T,UOwn B w' (.slice q N cap) T /\ T.Perm S /\ SP.Sorted T) /\ w.grownBy w' (Value.slice q N cap).ownBlock):=sort_yes hu h12
 obtain ⟨rw,hrw⟩:∃ rw,rw = (Value.slice q N cap).ownBlock:=⟨_,rfl⟩
 rw [<- hrw] at HSO ⊢
 have HK:Hid (1 <= k /\ k <= 255 /\ S.length = N /\ N <= 12):=⟨hk,hk2,hN.symm,by omega⟩
 have hN12:N <= 12:=by omega
 obtain ⟨c,hc⟩:∃ c:Int,c = (k:Int) - 1:=⟨_,rfl⟩
 have i1:IntKind.i64.wrap ((k:Int) - 1) = c:=by rw [hc];exact IntWalk.i64_in _ (by omega)
 have i2:IntKind.i64.wrap ((N:Int) - 1) = (N:Int) - 1:=IntWalk.i64_in _ (by omega)
 have HC:Hid (c = (k:Int) - 1):=hc
 clear hu hN h12 hrw hk hk2 hc
 go_enter Tryz.func67,Tryz.ntmps67
 go_wp2_with (first
  | (go_at_call 115;refine HSO.out.mono ?_;rintro e w1 ⟨rfl,⟨T,h1,h2,h3⟩,h4⟩;have U1:Hid (UOwn B w1 (.slice q N cap) T):=h1;have G1:Hid (w.grownBy w1 rw):=h4;have HT:Hid (T.Perm S /\ SP.Sorted T /\ T.length = N):=⟨h2,h3,(by rw [h2.length_eq];exact HK.out.2.2.1)⟩;clear h1 h2 h3 h4)
  | fail)
 have HO:Hid (SP.often S k = SP.often T k):=(SP.often_perm HT.out.1 k).symm
 clear i2
 go_loopw [5] (fun tl wr=>∃ x:Int,(-1 <= x /\ x < (N:Int)) /\ tl = .int .i64 x /\ Hid (∀ j:Nat,x < (j:Int) -> k <= j + 1 -> j < T.length -> T.getD (j + 1 - k) 0 ≠ T.getD j 0) /\ Hid (w1.grownBy wr none)) (fun tl _=>(intOf tl + 1).toNat)
 case atStart=>exact ⟨(N:Int) - 1,by omega,rfl,fun j h1 h2 h3=>by have:=HT.out.2.2;omega,World.grownBy.refl _ _⟩
 case round =>
  obtain ⟨x,hx,rfl,HNO,GK⟩:=hrel
  by_cases hlt:c <= x
  ·obtain ⟨l,rfl⟩:∃ l:Nat,x = (l:Int):=⟨x.toNat,by have:=HC.out;have:=HK.out;omega⟩
   have HL:Hid (k <= l + 1 /\ l < N):=⟨by have:=HC.out;omega,by omega⟩
   obtain ⟨z,hz⟩:∃ z,z = l + 1 - k:=⟨_,rfl⟩
   have HZ:Hid (z = l + 1 - k):=hz
   have i3:IntKind.i64.wrap ((l:Int) - (k:Int)) = (z:Int) - 1:=by
    have e:(l:Int) - (k:Int) = (z:Int) - 1:=by have:=HL.out;omega
    rw [e];exact IntWalk.i64_in _ (by omega)
   have i4:IntKind.i64.wrap ((z:Int) - 1 + 1) = (z:Int):=by
    rw [show (z:Int) - 1 + 1 = (z:Int) by omega];exact IntWalk.i64_in _ (by have:=HL.out;omega)
   have i4':IntKind.i64.wrap (z:Int) = (z:Int):=IntWalk.i64_in _ (by have:=HL.out;omega)
   have i5:IntKind.i64.wrap ((l:Int) - 1) = (l:Int) - 1:=IntWalk.i64_in _ (by omega)
   have b1:(z:Int) < (N:Int):=by have:=HL.out;have:=HK.out;omega
   have b2:(0:Int) <= (z:Int):=by omega
   have b3:(l:Int) < (N:Int):=by omega
   have b4:(0:Int) <= (l:Int):=by omega
   obtain ⟨g,e0,_,hcl,_,_,_⟩:=(U1.out.keep GK.out).place (k:=l) (by have:=HT.out.2.2;have:=HL.out;omega)
   subst e0
   obtain ⟨g1,e1,_,hcz,_,_,_⟩:=(U1.out.keep GK.out).place (k:=z) (by have:=HT.out.2.2;have:=HL.out;have:=HK.out;omega)
   obtain rfl:g = g1:=(by injection e1 with e1;injection e1 with e1)
   have HCC:Hid (∀ n,(wr.drewN n).cell? ⟨g,z,none⟩ = some (.int .u64 ((T.getD z 0:Nat):Int)) /\ (wr.drewN n).cell? ⟨g,l,none⟩ = some (.int .u64 ((T.getD l 0:Nat):Int))):=fun n=>⟨(grown_drewN wr n).cell hcz (by simp),(grown_drewN wr n).cell hcl (by simp)⟩
   clear e1 hz hcz hcl
   by_cases he:T.getD z 0 = T.getD l 0
   ·have HE:Hid (SP.often T k = T.getD l 0):=SP.often_at HT.out.2.1 HK.out.1 (by have:=HL.out;have:=HT.out.2.2;omega) HL.out.1 (by rw [<- HZ.out];exact he) (fun j h1 h2=>HNO.out j (by omega) (by have:=HL.out;omega) h2)
    rw [he] at HCC
    clear he HNO
    generalize T.getD l 0 = y at *
    have i6:((y:Int) == (y:Int)) = true:=eqb_yes rfl
    go_wp2_with fail
    go_region_held3 (fun w'=>w'.cell? ⟨g,z,none⟩ = some (.int .u64 (y:Int)) /\ w'.cell? ⟨g,l,none⟩ = some (.int .u64 (y:Int))) (exact HCC.out _) (fail)
    have cl:=(HCC.out 1).2
    have GN:Hid (w.grownBy (wr.drewN 1) rw):=grown_trans G1.out (grown_any (grown_trans GK.out (grown_drewN _ _)) _)
    clear HCC
    go_wp2
    go_ret
    exact ⟨by rw [HO.out,HE.out];rfl,GN.out⟩
   ·have HNO2:Hid (∀ j:Nat,(l:Int) - 1 < (j:Int) -> k <= j + 1 -> j < T.length -> T.getD (j + 1 - k) 0 ≠ T.getD j 0):=fun j h1 h2 h3=>by
     by_cases c:j = l
     ·subst c;rw [<- HZ.out];exact he
     ·exact HNO.out j (by omega) h2 h3
    have i6:(((T.getD z 0:Nat):Int) == ((T.getD l 0:Nat):Int)) = false:=eqb_no he
    have GN:Hid (w1.grownBy (wr.drewN 1) none):=grown_trans GK.out (grown_drewN _ _)
    clear he HNO
    generalize T.getD l 0 = y at *
    generalize T.getD z 0 = y2 at *
    go_wp2_with fail
    go_region_held3 (fun w'=>w'.cell? ⟨g,z,none⟩ = some (.int .u64 (y2:Int)) /\ w'.cell? ⟨g,l,none⟩ = some (.int .u64 (y:Int))) (exact HCC.out _) (fail)
    go_wp2
    go_roundw
    case rel=>exact ⟨(l:Int) - 1,by omega,rfl,HNO2,GN⟩
    case measure=>simp [intOf]
  ·have HE:Hid (SP.often T k = 0):=SP.often_none HT.out.2.1 HK.out.1 (fun j h1 h2=>HNO.out j (by have:=HC.out;omega) h1 h2)
   have GN:Hid (w.grownBy wr rw):=grown_trans G1.out (grown_any GK.out _)
   go_wp2
   go_ret
   exact ⟨by rw [HO.out,HE.out];rfl,GN.out⟩
theorem row_apart {B B':Nat} {w:World} {e e':TypeId} {v u:Value} {n m:Nat} {xs ys:List Value} (ne:e ≠ e') (hv:w.ownsRow B e 1 v n xs) (hu:w.ownsRow B' e' 1 u m ys):Ap v u:=by
 unfold Ap
 rcases hv.2 with ⟨rfl,_⟩ | ⟨g,cap,cur,rfl,_,hg,_⟩
 ·exact .inl rfl
 ·rcases hu.2 with ⟨rfl,_⟩ | ⟨g',cap',cur',rfl,_,hg',_⟩
  ·exact .inr (by simp [Value.ownBlock])
  ·refine .inr fun h=>?_
   have e1:g = g':=by simpa [Value.ownBlock] using h
   subst e1
   rw [hg] at hg'
   injection hg' with h1
   injection h1 with _ h2 _
   exact ne h2
theorem IOwn.kept {B:Nat} {w w':World} {v:Value} {ls:List Int} {row:Option Nat} (h:IOwn B w v ls) (g:w.grownBy w' row) (ne:v.ownBlock = none \/ v.ownBlock ≠ row):IOwn B w' v ls:=⟨h.len,h.row.kept g ne⟩
theorem IOwn.nil (B:Nat) (w:World):IOwn B w (.slice none 0 0) []:=⟨by simp,World.ownsRow_nil w B 3 1⟩
theorem IVec.none {w:World} (p:Option Addr) (c:Nat) (hc:c <= maxLen):IVec w (.slice p 0 c) []:=⟨by simp,p,c,rfl,by simp,hc,fun h=>absurd rfl h⟩
theorem run_append_int {B:Nat} {w:World} {dv:Value} {ls:List Int} (hd:IOwn B w dv ls) (ad:Addr) {x:Int} (hu:w.cell? ad = some (.int .i64 x)) (hB:B <= w.heap.size) (hl:(ls.length + 1) * 8 <= 140737488351232) (ty:TypeId) :
 ∃ v' w',(Builtin.append_ #[95,95] ty #[dv,.slice (some ad) 1 1]).run Tryz.prog w = .ok v' w' /\ IOwn B w' v' (ls ++ [x]) /\ w.grownBy w' dv.ownBlock /\ (v'.ownBlock = dv.ownBlock \/ v'.ownBlock = some w.heap.size):=by
 obtain ⟨i0,hi,hz0,hz1,hz2⟩:=info_parts Tryz.infoI
 obtain ⟨v',w',r1,r2,r3,_,r5⟩:=run_append_own_at (P:=Tryz.prog) w B 95 ty 3 i0 (.int .i64 0) 1 8 Tryz.underlying95 hi hz0 hz1 hz2 rfl (by decide) dv ls.length _ hd.row ad 1 1 [.int .i64 x] (by simp)
  (fun j v hj=>by
    match j,hj with
    | 0,hj=>simp at hj;subst hj;simpa [Addr.add] using hu)
  (fun v hv=>by simp at hv;subst hv;rfl) (by unfold maxLen;omega) (by omega) hB
 exact ⟨v',w',r1,⟨by simpa using hl,by simpa using r2⟩,r3,r5⟩
theorem wpList_append_int {w:World} {ops:Array Oper} {rest:List Oper} {o:Oper} {a:Act} {Q:Exit -> Act -> World -> Prop} (hgd:o.guard = none) (d s:Operand)
 (ho:o.op = .call { callee:=.builtin .append,args:=#[d,s],argTypes:=#[95,95] }) (dv:Value) (ad:Addr) (hed:a.eval d = dv) (hes:a.eval s = .slice (some ad) 1 1)
 {B:Nat} {ls:List Int} {x:Int} (hd:IOwn B w dv ls) (hu:w.cell? ad = some (.int .i64 x)) (hB:B <= w.heap.size) (hl:(ls.length + 1) * 8 <= 140737488351232)
 (h:∀ v' w',IOwn B w' v' (ls ++ [x]) -> w.grownBy w' dv.ownBlock -> (v'.ownBlock = dv.ownBlock \/ v'.ownBlock = some w.heap.size) -> wpList Tryz.prog ops Q rest (a.put o.dst v') w'):wpList Tryz.prog ops Q (o :: rest) a w:=by
 refine wpList_plain hgd fun K hK=>?_
 obtain ⟨v',w',hrun,r1,r2,r3⟩:=run_append_int hd ad hu hB hl o.type
 unfold Oper.wp
 simp [execOp,ho,resolve,invoke,builtin,hed,hes,hrun,Result.andThen]
 exact hK _ _ (h _ _ r1 r2 r3)
theorem step_append_int {ops:Array Oper} {o:Oper} {a:Act} {w:World} {K:Act -> World -> Prop} {Q:Exit -> Act -> World -> Prop} {E:Prop} (hgd:o.guard = none) (d s:Operand)
 (ho:o.op = .call { callee:=.builtin .append,args:=#[d,s],argTypes:=#[95,95] }) (dv:Value) (ad:Addr) (hed:a.eval d = dv) (hes:a.eval s = .slice (some ad) 1 1)
 {B:Nat} {ls:List Int} {x:Int} (hd:IOwn B w dv ls) (hu:w.cell? ad = some (.int .i64 x)) (hB:B <= w.heap.size) (hl:(ls.length + 1) * 8 <= 140737488351232)
 (h:∀ v' w',IOwn B w' v' (ls ++ [x]) -> w.grownBy w' dv.ownBlock -> (v'.ownBlock = dv.ownBlock \/ v'.ownBlock = some w.heap.size) -> K (a.put o.dst v') w') :
 if Region.wanted o (yielded ops a.tmps) = true then Oper.wp Tryz.prog o a w K Q else E:=by
 have hw:Region.wanted o (yielded ops a.tmps) = true:=by simp [Region.wanted,hgd]
 rw [if_pos hw]
 obtain ⟨v',w',hrun,r1,r2,r3⟩:=run_append_int hd ad hu hB hl o.type
 unfold Oper.wp
 simp [execOp,ho,resolve,invoke,builtin,hed,hes,hrun,Result.andThen]
 exact h _ _ r1 r2 r3
section
variable {F F':Nat -> Prop} {w w':World} {s a:Nat} {g:SP.Geo} {R R':AM.Raw}
theorem swhole_err (h:SI F w s a g R) {slot:Int} (hy:SP.why R g slot ≠ 0) :
 Calls Tryz.prog 21 #[ptr s,.int .i64 slot] w fun e w'=>e = .returned (.tuple #[.int .u64 0,.int .i64 (SP.why R g slot:Int)]) /\ w' = w:=by
 obtain ⟨y,hy1⟩:∃ y,y = SP.why R g slot:=⟨_,rfl⟩
 have HR:Hid (Calls Tryz.prog 45 #[ptr s,.int .i64 slot] w fun e w''=>e = .returned (.int .i64 (y:Int)) /\ w'' = w):=by rw [hy1];exact sreach_yes h slot
 rw [<- hy1] at hy ⊢
 have hne:((y:Int) != 0) = true:=neb_yes (b:=0) hy
 clear h hy hy1
 go_enter Tryz.func21,Tryz.ntmps21
 go_wp2_with (go_at_call 45;refine HR.out.mono ?_;rintro e w9 ⟨rfl,hw9⟩;obtain rfl:=hw9.symm;clear hw9)
 go_ret2
 exact ⟨rfl,rfl⟩
end
theorem run_append_u64 {B:Nat} {w:World} {dv:Value} {ls:List Nat} (hd:UOwn B w dv ls) (ad:Addr) {x:Nat} (hu:w.cell? ad = some (.int .u64 (x:Int))) (hB:B <= w.heap.size) (hl:ls.length + 1 <= 1000) (ty:TypeId) :
 ∃ v' w',(Builtin.append_ #[109,109] ty #[dv,.slice (some ad) 1 1]).run Tryz.prog w = .ok v' w' /\ UOwn B w' v' (ls ++ [x]) /\ w.grownBy w' dv.ownBlock:=by
 obtain ⟨i0,hi,hz0,hz1,hz2⟩:=info_parts Tryz.infoU8
 obtain ⟨v',w',r1,r2,r3,_,r5⟩:=run_append_own_at (P:=Tryz.prog) w B 109 ty 39 i0 (.int .u64 0) 1 8 Tryz.underlying109 hi hz0 hz1 hz2 rfl (by decide) dv ls.length _ hd.row ad 1 1 [.int .u64 (x:Int)] (by simp)
  (fun j v hj=>by
    match j,hj with
    | 0,hj=>simp at hj;subst hj;simpa [Addr.add] using hu)
  (fun v hv=>by simp at hv;subst hv;rfl) (by unfold maxLen;omega) (by omega) hB
 exact ⟨v',w',r1,⟨by simpa using hl,by simpa using r2⟩,r3⟩
theorem wpList_append_u64 {w:World} {ops:Array Oper} {rest:List Oper} {o:Oper} {a:Act} {Q:Exit -> Act -> World -> Prop} (hgd:o.guard = none) (d s:Operand)
 (ho:o.op = .call { callee:=.builtin .append,args:=#[d,s],argTypes:=#[109,109] }) (dv:Value) (ad:Addr) (hed:a.eval d = dv) (hes:a.eval s = .slice (some ad) 1 1)
 {B:Nat} {ls:List Nat} {x:Nat} (hd:UOwn B w dv ls) (hu:w.cell? ad = some (.int .u64 (x:Int))) (hB:B <= w.heap.size) (hl:ls.length + 1 <= 1000)
 (h:∀ v' w',UOwn B w' v' (ls ++ [x]) -> w.grownBy w' dv.ownBlock -> wpList Tryz.prog ops Q rest (a.put o.dst v') w'):wpList Tryz.prog ops Q (o :: rest) a w:=by
 refine wpList_plain hgd fun K hK=>?_
 obtain ⟨v',w',hrun,r1,r2⟩:=run_append_u64 hd ad hu hB hl o.type
 unfold Oper.wp
 simp [execOp,ho,resolve,invoke,builtin,hed,hes,hrun,Result.andThen]
 exact hK _ _ (h _ _ r1 r2)
structure WhI (w0:World) (A:Nat) (w:World) (va va':Value) (S:List Nat):Prop where
 ba:Boxed w A 109 va
 ia:UOwn w0.heap.size w va' S
 lA:w0.heap.size <= A
 gr:w0.grownBy w none
section
variable {w0 w w':World} {A:Nat} {va va':Value} {S:List Nat}
theorem WhI.keep (h:WhI w0 A w va va' S) (g:w.grownBy w' none):WhI w0 A w' va va' S:=⟨h.ba.kept g (by simp),h.ia.keep g,h.lA,grown_trans h.gr g⟩
theorem WhI.app (h:WhI w0 A w va va' S) {v2:Value} {m:Nat} (o:UOwn w0.heap.size w' v2 (S ++ [m])) (g:w.grownBy w' va'.ownBlock):WhI w0 A w' va v2 (S ++ [m]) :=
 ⟨h.ba.kept g (h.ba.not_row (by decide) h.ia.row),o,h.lA,grown_new h.gr g (fun i e=>h.ia.lo i e)⟩
theorem UOwn.boxed {B A:Nat} {w w':World} {v u:Value} {ls:List Nat} {t:TypeId} (h:UOwn B w v ls) (hb:Boxed w A t u) (ht:t ≠ 39) (g:w.grownBy w' (some A)):UOwn B w' v ls :=
 h.kept g (by
  have:=hb.not_row ht h.row
  cases e:v.ownBlock with
  | none=>exact .inl rfl
  | some k=>exact .inr (fun e2=>this (by rw [e,<- e2])))
theorem WhI.setA (h:WhI w0 A w va va' S):WhI w0 A (w.setCell ⟨A,0,none⟩ va') va' va' S :=
 have g:=grownBy_setCell' w A va'
 ⟨h.ba.set _,h.ia.boxed h.ba (by decide) g,h.lA,grown_new h.gr g (fun i e=>by have:=Option.some.inj e;have:=h.lA;omega)⟩
theorem wh_yes (h:WhI w0 A w va va S) {j m:Nat} {u:Value} (hl:S.length < 255) :
 Calls Tryz.prog 66 #[.int .i64 (j:Int),.int .u64 (m:Int),u,.pointer (some ⟨A,0,none⟩)] w fun e w'=>e = .returned (.bool true) /\ ∃ va',WhI w0 A w' va' va' (S ++ [m]):=by
 obtain ⟨ap,an,ac,rfl,ha⟩:=h.ia.opened
 have T:Hid (WhI w0 A (w.alloc (.cells #[.int .u64 (m:Int)] 39)) (.slice ap an ac) (.slice ap an ac) S):=h.keep (World.grownBy_alloc w _ none)
 have c0:=h.ba.cell
 have HL:Hid (S.length + 1 <= 1000):=by show _ <= _;omega
 clear h ha hl
 go_enter Tryz.func66,Tryz.ntmps66
 go_wp2_with (first
  | (at_builtin;refine wpList_append_u64 rfl _ _ rfl _ ⟨w.heap.size,0,none⟩ rfl rfl T.out.ia (cell_new1 _ _ rfl) T.out.gr.size HL.out ?_;intro v2 w2 o2 g2;have T2:Hid (WhI w0 A w2 (.slice ap an ac) v2 (S ++ [m])):=T.out.app o2 g2;clear o2 g2 T;obtain ⟨p2,n2,k2,rfl,hn2⟩:=T2.out.ia.opened;clear hn2;have kc:=T2.out.ba.cell;have kf:=T2.out.ba.frozen)
  | fail)
 go_ret
 exact ⟨rfl,_,T2.out.setA⟩
end
theorem enters_wh:∀ args w,(callFunc 66 args).run Tryz.prog w = .ok (.enter 66 args) w:=by
 intro args w
 simp [go_sem,callFunc,Tryz.func66,Tryz.f66]
def SP.wholeV (R:AM.Raw) (g:SP.Geo) (slot:Int):Nat:=if SP.why R g slot = 0 then SP.whole R g slot.toNat else 0
section
variable {F F':Nat -> Prop} {w w':World} {s a:Nat} {g:SP.Geo} {R R':AM.Raw}
theorem wh_walk {A slot:Nat} {w4:World} (h:SI F w s a g R) (h0:R.off = false) (hs:slot < g.s) (T:WhI w A w4 (.slice none 0 0) (.slice none 0 0) []) :
 Calls Tryz.prog 55 #[ptr s,.int .i64 (slot:Int),.func (.func 66) #[] #[.pointer (some ⟨A,0,none⟩)]] w4 fun e w' =>
  e = .returned (.tuple #[]) /\ ∃ va,WhI w A w' va va (SP.stampTo R g slot g.n):=by
 have hn255:=h.ok.n255
 refine (swalk_any (g:=g) (R:=R) (F:=F) (a:=a) (B:=w.heap.size) h0 hs enters_wh
  (fun j w'=>∃ va,WhI w A w' va va (SP.stampTo R g slot j)) (fun _=>False) (fun _=>true) ?_ ?_ ?_ ?_ ?_ ?_).mono ?_
 ·rintro j w1 ⟨_,T1⟩
  exact h.keep T1.gr
 ·rintro j w1 ⟨_,T1⟩
  exact T1.gr.size
 ·rintro j w1 w2 ⟨va,T1⟩ g1
  exact ⟨va,T1.keep g1⟩
 ·rintro j w1 hj hy ⟨va,T1⟩
  refine ⟨va,?_⟩
  rw [SP.stampTo_succ,hy]
  simpa using T1
 ·rintro j w1 v hj hy ⟨va,T1⟩ hv
  have hle:=SP.stampTo_le R g slot j
  refine (wh_yes T1 (j:=j) (m:=SP.numD R g slot j) (u:=v) (by omega)).mono ?_
  rintro e2 w2 ⟨rfl,va',T2⟩
  refine ⟨rfl,?_⟩
  rw [if_pos rfl]
  refine ⟨va',?_⟩
  rw [SP.stampTo_succ,hy,if_pos rfl]
  exact T2
 ·exact ⟨_,T⟩
 ·rintro e w' ⟨rfl,h1⟩
  refine ⟨rfl,?_⟩
  rcases h1 with h1 | h1
  ·exact h1
  ·exact h1.elim
theorem wh_start (w:World):WhI w w.heap.size (w.alloc (.cells #[.slice none 0 0] 109)) (.slice none 0 0) (.slice none 0 0) [] :=
 ⟨Boxed.new w _ _,UOwn.nil _ _,Nat.le_refl _,World.grownBy_alloc w _ none⟩
set_option maxHeartbeats 6400000 in
theorem swhole_main (h:SI F w s a g R) {slot:Nat} (hy:SP.why R g (slot:Int) = 0) (hn:g.n <= 12) :
 Calls Tryz.prog 21 #[ptr s,.int .i64 (slot:Int)] w fun e w'=>e = .returned (.tuple #[.int .u64 ((SP.whole R g slot:Nat):Int),.int .i64 0]) /\ w.grownBy w' none:=by
 have HR:Hid (Calls Tryz.prog 45 #[ptr s,.int .i64 (slot:Int)] w fun e w''=>e = .returned (.int .i64 0) /\ w'' = w):=sreach_at h (by rw [hy];rfl)
 obtain ⟨q0,q1,q2⟩:=SP.why_zero hy
 have HW:Hid (∀ A w4,WhI w A w4 (.slice none 0 0) (.slice none 0 0) [] -> Calls Tryz.prog 55 #[ptr s,.int .i64 (slot:Int),.func (.func 66) #[] #[.pointer (some ⟨A,0,none⟩)]] w4 fun e w' =>
  e = .returned (.tuple #[]) /\ ∃ va,WhI w A w' va va (SP.stampTo R g slot g.n)):=fun A w4 T=>wh_walk h q0 (by omega) T
 have HS:Hid (∀ w',w.grownBy w' none -> w'.cell? ⟨s,1,none⟩ = some (.int .i64 (g.k:Int))):=fun w' g'=>(h.keep g').at2
 have T0:Hid (WhI w _ _ _ _ _):=wh_start w
 have HO:Hid (g.Ok R /\ g.n <= 12):=⟨h.ok,hn⟩
 clear h hy q0 q1 q2 hn
 go_enter Tryz.func21,Tryz.ntmps21
 go_wp2_with (first
  | (go_at_call 45;refine HR.out.mono ?_;rintro e w9 ⟨rfl,hw9⟩;obtain rfl:=hw9.symm;clear hw9)
  | (go_at_call 55;refine (HW.out _ _ T0.out).mono ?_;rintro e w5 ⟨rfl,va,t5⟩;obtain ⟨ap,an,ac,rfl,ha⟩:=t5.ia.opened;have T5:Hid (WhI w w.heap.size w5 (.slice ap an ac) (.slice ap an ac) (SP.stampTo R g slot g.n)):=t5;clear t5 ha))
 obtain ⟨A,hA⟩:∃ A,A = w.heap.size:=⟨_,rfl⟩
 rw [<- hA] at T5
 (try rw [<- hA])
 clear hA T0 HW HR
 have HC5:Hid ((w5.drewN 1).cell? ⟨A,0,none⟩ = some (.slice ap an ac) /\ (w5.drewN 1).cell? ⟨s,1,none⟩ = some (.int .i64 (g.k:Int))):=⟨(T5.out.keep (grown_drewN w5 1)).ba.cell,HS.out _ (T5.out.keep (grown_drewN w5 1)).gr⟩
 have OF:Hid (Calls Tryz.prog 67 #[.slice ap an ac,.int .i64 (g.k:Int)] (w5.drewN 1) fun e w''=>e = .returned (.int .u64 ((SP.whole R g slot:Nat):Int)) /\ w''.cell? ⟨A,0,none⟩ = some (.slice ap an ac) /\ w''.cell? ⟨s,1,none⟩ = some (.int .i64 (g.k:Int)) /\ w.grownBy w'' none):=by
  have T6:=T5.out.keep (grown_drewN w5 1)
  refine (often_yes T6.ia (by have:=SP.stampTo_le R g slot g.n;have:=HO.out.2;omega) HO.out.1.k1 (by have:=HO.out.1.kn;have:=HO.out.1.n255;omega)).mono ?_
  rintro e w6 ⟨rfl,g6⟩
  have gw:=grown_new T6.gr g6 (fun i e=>T6.ia.lo i e)
  exact ⟨rfl,(T6.ba.kept g6 (T6.ba.not_row (by decide) T6.ia.row)).cell,HS.out _ gw,gw⟩
 go_region_held3 (fun w'=>w'.cell? ⟨A,0,none⟩ = some (.slice ap an ac) /\ w'.cell? ⟨s,1,none⟩ = some (.int .i64 (g.k:Int))) (first | exact HC5.out | exact HC6.out)
  ((go_at_call 67;refine OF.out.mono ?_;rintro e w6 ⟨rfl,z1,z2,z3⟩;have HC6:Hid (w6.cell? ⟨A,0,none⟩ = some (.slice ap an ac) /\ w6.cell? ⟨s,1,none⟩ = some (.int .i64 (g.k:Int))):=⟨z1,z2⟩;have G6:Hid (w.grownBy w6 none):=z3;clear z1 z2 z3))
 go_wp2
 go_ret2
 exact ⟨rfl,G6.out⟩
theorem swhole_all (h:SI F w s a g R) (slot:Int) (hn:g.n <= 12) :
 Calls Tryz.prog 21 #[ptr s,.int .i64 slot] w fun e w'=>e = .returned (.tuple #[.int .u64 ((SP.wholeV R g slot:Nat):Int),.int .i64 (SP.why R g slot:Int)]) /\ w.grownBy w' none:=by
 unfold SP.wholeV
 by_cases hy:SP.why R g slot = 0
 ·obtain ⟨_,q1,_⟩:=SP.why_zero hy
  obtain ⟨n,rfl⟩:∃ n:Nat,slot = (n:Int):=⟨slot.toNat,by omega⟩
  rw [if_pos hy,hy,Int.toNat_natCast]
  exact swhole_main h hy hn
 ·rw [if_neg hy]
  refine (swhole_err h hy).mono ?_
  rintro e w' ⟨rfl,rfl⟩
  exact ⟨rfl,World.grownBy.refl _ _⟩
end
section
variable {G G':Nat -> Prop} {w w':World} {t r:Nat} {g:SP.Geo} {R R':AM.Raw}
theorem rshigh_err (h:RSI G w t r g R) {slot:Int} (hy:SP.why R g slot ≠ 0) :
 Calls Tryz.prog 24 #[tptr t,.int .i64 slot] w fun e w'=>e = .returned (.tuple #[.int .u64 0,.int .i64 (SP.why R g slot:Int)]) /\ w' = w:=by
 obtain ⟨y,hy1⟩:∃ y,y = SP.why R g slot:=⟨_,rfl⟩
 have HR:Hid (Calls Tryz.prog 50 #[tptr t,.int .i64 0,.int .i64 slot] w fun e w''=>e = .returned (.int .i64 (y:Int)) /\ w'' = w):=rswhy_0 h (by rw [hy1])
 rw [<- hy1] at hy ⊢
 have hne:((y:Int) != 0) = true:=neb_yes (b:=0) hy
 clear h hy hy1
 go_enter Tryz.func24,Tryz.ntmps24
 go_wp2_with (go_at_call 50;refine HR.out.mono ?_;rintro e w9 ⟨rfl,hw9⟩;obtain rfl:=hw9.symm;clear hw9)
 go_ret2
 exact ⟨rfl,rfl⟩
set_option maxHeartbeats 3200000 in
theorem rshigh_main (h:RSI G w t r g R) (hL:R.L.length <= 1000000) {slot:Nat} (hy:SP.why R g (slot:Int) = 0) :
 Calls Tryz.prog 24 #[tptr t,.int .i64 (slot:Int)] w fun e w'=>e = .returned (.tuple #[.int .u64 ((SP.high R g slot:Nat):Int),.int .i64 0]) /\ w.grownBy w' none:=by
 have HR:Hid (Calls Tryz.prog 50 #[tptr t,.int .i64 0,.int .i64 (slot:Int)] w fun e w''=>e = .returned (.int .i64 0) /\ w'' = w):=rswhy_0 h (by rw [hy];rfl)
 obtain ⟨q0,q1,q2⟩:=SP.why_zero hy
 have H:Hid (RSI G w t r g R):=h
 have HN:Hid (R.off = false /\ slot < g.s /\ R.L.length <= 1000000):=⟨q0,by omega,hL⟩
 have hn255:g.n <= 255:=h.ok.n255
 clear h hy q0 q1 q2 hL
 go_enter Tryz.func24,Tryz.ntmps24
 go_wp2_with (first | (go_at_call 50;refine HR.out.mono ?_;rintro e w9 ⟨rfl,hw9⟩;obtain rfl:=hw9.symm;clear hw9) | fail)
 clear HR
 go_loopw [7,8] (fun th ti wr=>∃ k:Nat,k <= g.n /\ ti = .int .i64 k /\ th = .int .u64 ((SP.top (SP.markTo R g slot k):Nat):Int) /\ Hid (w.grownBy wr none)) (fun _ ti _=>g.n - (intOf ti).toNat)
 case atStart=>exact ⟨0,by omega,rfl,rfl,World.grownBy.refl _ _⟩
 case round =>
  obtain ⟨k,hk,rfl,rfl,GK⟩:=hrel
  obtain ⟨wa,hwa⟩:∃ wa,wa = wr:=⟨wr,rfl⟩
  subst hwa
  have c2:=(H.out.keep GK.out).at3
  by_cases hlt:k < g.n
  ·have i4:(k:Int) < (g.n:Int):=by omega
   have HM:Hid (SP.markTo R g slot (k + 1) = SP.markTo R g slot k ++ SP.marks R g slot k):=SP.markTo_succ R g slot k
   have HON:Hid (R.on (k:Int) = true -> SP.marks R g slot k = (List.range 8).map (fun i=>SM.val (AM.look R.C k (g.f + 8 * slot + i)) 8)):=SP.marks_on
   have HOF:Hid (R.on (k:Int) = false -> SP.marks R g slot k = []):=SP.marks_off
   generalize SP.marks R g slot k = M at *
   generalize SP.markTo R g slot k = L0 at *
   go_wp2_with fail
   clear c2
   go_loopw [7,9] (fun th ti wr=>∃ i:Nat,i <= 8 /\ ti = .int .i64 i /\ th = .int .u64 ((SP.top (L0 ++ M.take i):Nat):Int) /\ Hid (wa.grownBy wr none)) (fun _ ti _=>8 - (intOf ti).toNat)
   case atStart=>exact ⟨0,by omega,rfl,by simp,World.grownBy.refl _ _⟩
   case round =>
    obtain ⟨i,hi,rfl,rfl,GI⟩:=hrel
    by_cases hlt2:i < 8
    ·have i5:(i:Int) < 8:=by omega
     have GD:Hid (w.grownBy (wr.drewN 1) none):=grown_trans (grown_trans GK.out GI.out) (grown_drewN wr 1)
     have GE:Hid (wa.grownBy (wr.drewN 1) none):=grown_trans GI.out (grown_drewN wr 1)
     have HS:Hid (∀ w',w.grownBy w' none -> w'.cell? ⟨t,0,none⟩ = some (rptr r) /\ w'.cell? ⟨t,4,none⟩ = some (.int .i64 (g.f:Int))):=fun w' g'=>⟨(H.out.keep g').at1,(H.out.keep g').at5⟩
     obtain ⟨j1,j2,j3⟩:=sec_sums (k:=i) H.out.ok H.out.n HN.out.2.1 hi
     have SE:=(H.out.keep GD.out).sect HN.out.2.2 HN.out.1 (d:=k) hlt HN.out.2.1 hlt2
     obtain ⟨b,hb⟩:∃ b,b = g.f + 8 * slot:=⟨_,rfl⟩
     have HV:Hid (R.on (k:Int) = true -> M.length = 8 /\ M.getD i 0 = SM.val (AM.look R.C k (g.f + 8 * slot + i)) 8 /\ (AM.look R.C k (g.f + 8 * slot + i)).length = 64):=fun ho=>by
      rw [HON.out ho]
      obtain ⟨A,_,hsim⟩:=H.out.j
      refine ⟨by simp,by simp [List.getD,hlt2],(SP.sect_ok hsim.ok H.out.ok HN.out.2.1 hlt2 ho).1⟩
     obtain ⟨z,hz⟩:∃ z,z = g.f + 8 * slot + i:=⟨_,rfl⟩
     rw [<- hz] at SE HV j3
     rw [<- hb] at j2 j3
     generalize AM.look R.C k z = SK at *
     clear hb hz
     cases ho:R.on (k:Int)
     ·rw [ho] at SE
      have RD:Hid (Calls Tryz.prog 69 #[rptr r,.int .i64 (k:Int),.int .i64 (z:Int)] (wr.drewN 1) fun e w'=>∃ p n m,e = .returned (.tuple #[.slice p n m,.int .i64 9]) /\ (wr.drewN 1).grownBy w' none):=SE.mono fun e w' ⟨p,n,m,q1,_,q3⟩=>⟨p,n,m,q1,q3⟩
      have HM0:Hid (∀ (j:Nat),L0 ++ M.take j = L0):=fun j=>by rw [HOF.out ho];simp
      rw [HM0.out i]
      clear SE ho HV HOF HON
      go_wp2_with fail
      go_region_held3 (fun w'=>w'.cell? ⟨t,0,none⟩ = some (rptr r) /\ w'.cell? ⟨t,4,none⟩ = some (.int .i64 (g.f:Int))) (first | exact HS.out _ GD.out | exact HS.out _ (grown_trans GD.out G1.out))
       ((go_at_call 69;refine RD.out.mono ?_;rintro e w2 ⟨p,pn,pm,rfl,g2⟩;have G1:Hid ((wr.drewN 1).grownBy w2 none):=g2;clear g2))
      go_wp2
      go_roundw
      case rel=>exact ⟨i + 1,by omega,by go_num,by rw [HM0.out],grown_trans GE.out G1.out⟩
      case measure=>simp [intOf];omega
     ·rw [ho] at SE
      obtain ⟨v1,v2,v3⟩:=HV.out ho
      have RD:Hid (Calls Tryz.prog 69 #[rptr r,.int .i64 (k:Int),.int .i64 (z:Int)] (wr.drewN 1) fun e w'=>∃ p n m,e = .returned (.tuple #[.slice p n m,.int .i64 0]) /\ Vec w' (.slice p n m) SK /\ (wr.drewN 1).grownBy w' none):=SE.mono fun e w' ⟨p,n,m,q1,q2,q3⟩=>⟨p,n,m,q1,(q2 rfl).vec,q3⟩
      have HM1:Hid (SP.top (L0 ++ M.take (i + 1)) = max (SP.top (L0 ++ M.take i)) (SM.val SK 8)):=by
       have:=top_take (L0:=L0) (M:=M) (i:=i) (by omega)
       rw [v2] at this
       exact this
      have H64:Hid (SK.length = 64):=v3
      clear SE ho HV HOF HON v1 v2 v3
      obtain ⟨T1,hT1⟩:∃ T1,T1 = SP.top (L0 ++ M.take (i + 1)):=⟨_,rfl⟩
      rw [<- hT1] at HM1
      have HT1:Hid (T1 = SP.top (L0 ++ M.take (i + 1))):=hT1
      clear hT1
      generalize SP.top (L0 ++ M.take i) = T0 at *
      have RT:Hid (∀ W p n m,Vec W (.slice p n m) SK -> Calls Tryz.prog 70 #[.slice p n m] W fun e w'=>∃ u,e = .returned (.tuple #[.int .u64 ((SM.val SK 8:Nat):Int),u,.int .i64 0]) /\ W.grownBy w' none):=fun W p n m hv=>(refTake_yes hv H64.out).mono fun e w' ⟨u,q1,_,q2⟩=>⟨u,q1,q2⟩
      generalize SM.val SK 8 = V at *
      by_cases hg:T0 < V
      ·have i6:(T0:Int) < (V:Int):=by omega
       have HE:Hid (T1 = V):=by show _ = _;rw [HM1.out];omega
       clear HM1
       go_wp2_with fail
       go_region_held3 (fun w'=>w'.cell? ⟨t,0,none⟩ = some (rptr r) /\ w'.cell? ⟨t,4,none⟩ = some (.int .i64 (g.f:Int))) (first | exact HS.out _ GD.out | exact HS.out _ (grown_trans GD.out G1.out))
        ((go_at_call 69;refine RD.out.mono ?_;rintro e w2 ⟨p,pn,pm,rfl,v2,g2⟩;have G1:Hid ((wr.drewN 1).grownBy w2 none):=g2;have V2:Hid (Vec w2 (.slice p pn pm) SK):=v2;clear v2 g2))
       go_wp2_with (go_at_call 70;refine (RT.out _ _ _ _ V2.out).mono ?_;rintro e w3 ⟨u,rfl,g3⟩;have G3:Hid (wa.grownBy w3 none):=grown_trans (grown_trans GE.out G1.out) g3;clear g3)
       go_roundw
       case rel=>exact ⟨i + 1,by omega,by go_num,by rw [<- HT1.out,HE.out],G3⟩
       case measure=>simp [intOf];omega
      ·have i6:¬ (T0:Int) < (V:Int):=by omega
       have HE:Hid (T1 = T0):=by show _ = _;rw [HM1.out];omega
       clear HM1
       go_wp2_with fail
       go_region_held3 (fun w'=>w'.cell? ⟨t,0,none⟩ = some (rptr r) /\ w'.cell? ⟨t,4,none⟩ = some (.int .i64 (g.f:Int))) (first | exact HS.out _ GD.out | exact HS.out _ (grown_trans GD.out G1.out))
        ((go_at_call 69;refine RD.out.mono ?_;rintro e w2 ⟨p,pn,pm,rfl,v2,g2⟩;have G1:Hid ((wr.drewN 1).grownBy w2 none):=g2;have V2:Hid (Vec w2 (.slice p pn pm) SK):=v2;clear v2 g2))
       go_wp2_with (go_at_call 70;refine (RT.out _ _ _ _ V2.out).mono ?_;rintro e w3 ⟨u,rfl,g3⟩;have G3:Hid (wa.grownBy w3 none):=grown_trans (grown_trans GE.out G1.out) g3;clear g3)
       go_roundw
       case rel=>exact ⟨i + 1,by omega,by go_num,by rw [<- HT1.out,HE.out],G3⟩
       case measure=>simp [intOf];omega
    ·have i5:¬ (i:Int) < 8:=by omega
     have HE:Hid (SP.top (L0 ++ M.take i) = SP.top (SP.markTo R g slot (k + 1))):=by
      show _ = _
      have h8:M.length <= i:=by
       cases ho:R.on (k:Int)
       ·rw [HOF.out ho];simp
       ·rw [HON.out ho];simp;omega
      rw [HM.out,List.take_of_length_le h8]
     go_wp2
     go_roundw
     case rel=>exact ⟨k + 1,by omega,by go_num,by rw [HE.out],grown_trans GK.out GI.out⟩
     case measure=>simp [intOf];omega
  ·have i4:¬ (k:Int) < (g.n:Int):=by omega
   have hkn:Hid (k = g.n):=by show _ = _;omega
   go_wp2
   go_ret2
   exact ⟨by unfold SP.high;rw [hkn.out];rfl,GK.out⟩
theorem rshigh_all (h:RSI G w t r g R) (hL:R.L.length <= 1000000) (slot:Int) :
 Calls Tryz.prog 24 #[tptr t,.int .i64 slot] w fun e w'=>e = .returned (.tuple #[.int .u64 ((SP.hiN R g slot:Nat):Int),.int .i64 (SP.why R g slot:Int)]) /\ w.grownBy w' none:=by
 unfold SP.hiN
 by_cases hy:SP.why R g slot = 0
 ·obtain ⟨_,q1,_⟩:=SP.why_zero hy
  obtain ⟨n,rfl⟩:∃ n:Nat,slot = (n:Int):=⟨slot.toNat,by omega⟩
  rw [if_pos hy,hy,Int.toNat_natCast]
  exact rshigh_main h hL hy
 ·rw [if_neg hy]
  refine (rshigh_err h hy).mono ?_
  rintro e w' ⟨rfl,rfl⟩
  exact ⟨rfl,World.grownBy.refl _ _⟩
theorem hasV_in {slot i m:Nat} (hy:SP.why R g (slot:Int) = 0) (hi:i < g.n) (hm:m ≠ 0):SP.hasE R g (i:Int) (slot:Int) m = 0 /\ SP.hasV R g (i:Int) (slot:Int) m = SP.has R g slot m i:=by
 have h1:SP.whyD R g (i:Int) (slot:Int) = 0:=by unfold SP.whyD;rw [if_neg (by omega),if_pos (by omega)]
 have h2:SP.hasE R g (i:Int) (slot:Int) m = 0:=by unfold SP.hasE;rw [if_neg (by omega),if_neg hm]
 refine ⟨h2,?_⟩
 unfold SP.hasV SP.has
 rw [h2,Int.toNat_natCast,Int.toNat_natCast]
 by_cases c:SP.numD R g slot i = m <;> simp [c]
theorem rswhole_err (h:RSI G w t r g R) {slot:Int} (hy:SP.why R g slot ≠ 0) :
 Calls Tryz.prog 22 #[tptr t,.int .i64 slot] w fun e w'=>e = .returned (.tuple #[.int .u64 0,.int .i64 (SP.why R g slot:Int)]) /\ w' = w:=by
 obtain ⟨y,hy1⟩:∃ y,y = SP.why R g slot:=⟨_,rfl⟩
 have HR:Hid (Calls Tryz.prog 50 #[tptr t,.int .i64 0,.int .i64 slot] w fun e w''=>e = .returned (.int .i64 (y:Int)) /\ w'' = w):=rswhy_0 h (by rw [hy1])
 rw [<- hy1] at hy ⊢
 have hne:((y:Int) != 0) = true:=neb_yes (b:=0) hy
 clear h hy hy1
 go_enter Tryz.func22,Tryz.ntmps22
 go_wp2_with (go_at_call 50;refine HR.out.mono ?_;rintro e w9 ⟨rfl,hw9⟩;obtain rfl:=hw9.symm;clear hw9)
 go_ret2
 exact ⟨rfl,rfl⟩
set_option maxHeartbeats 6400000 in
theorem rswhole_main (h:RSI G w t r g R) (hL:R.L.length <= 1000000) {slot:Nat} (hy:SP.why R g (slot:Int) = 0) :
 Calls Tryz.prog 22 #[tptr t,.int .i64 (slot:Int)] w fun e w'=>e = .returned (.tuple #[.int .u64 ((SP.whole R g slot:Nat):Int),.int .i64 0]) /\ w.grownBy w' none:=by
 have HR:Hid (Calls Tryz.prog 50 #[tptr t,.int .i64 0,.int .i64 (slot:Int)] w fun e w''=>e = .returned (.int .i64 0) /\ w'' = w):=rswhy_0 h (by rw [hy];rfl)
 obtain ⟨q0,q1,q2⟩:=SP.why_zero hy
 have H:Hid (RSI G w t r g R):=h
 have HN:Hid (R.off = false /\ slot < g.s /\ R.L.length <= 1000000 /\ SP.why R g (slot:Int) = 0 /\ 1 <= g.k):=⟨q0,by omega,hL,hy,h.ok.k1⟩
 have hn255:g.n <= 255:=h.ok.n255
 clear h hy q0 q1 q2 hL
 go_enter Tryz.func22,Tryz.ntmps22
 go_wp2_with (first | (go_at_call 50;refine HR.out.mono ?_;rintro e w9 ⟨rfl,hw9⟩;obtain rfl:=hw9.symm;clear hw9) | fail)
 clear HR
 go_loopw [7,8] (fun tb ti wr=>∃ k:Nat,k <= g.n /\ ti = .int .i64 k /\ tb = .int .u64 ((SP.bestTo R g slot k:Nat):Int) /\ Hid (w.grownBy wr none)) (fun _ ti _=>g.n - (intOf ti).toNat)
 case atStart=>exact ⟨0,by omega,rfl,by rw [SP.best_zero];rfl,World.grownBy.refl _ _⟩
 case round =>
  obtain ⟨k,hk,rfl,rfl,GK⟩:=hrel
  obtain ⟨wa,hwa⟩:∃ wa,wa = wr:=⟨wr,rfl⟩
  subst hwa
  have c2:=(H.out.keep GK.out).at3
  by_cases hlt:k < g.n
  ·have i4:(k:Int) < (g.n:Int):=by omega
   have TK:Hid (Calls Tryz.prog 59 #[tptr t,.int .i64 (k:Int),.int .i64 (slot:Int)] wa fun e w'=>∃ u,e = .returned (.tuple #[.int .u64 ((SP.numD R g slot k:Nat):Int),u,.bool (SP.yesD R g slot k)]) /\ wa.grownBy w' none):=(rstake_any (H.out.keep GK.out) HN.out.2.2.1 HN.out.1 hlt HN.out.2.1).mono fun e w' ⟨u,q1,_,q2⟩=>⟨u,q1,q2⟩
   obtain ⟨T0,hT0⟩:∃ T0,T0 = SP.bestTo R g slot k:=⟨_,rfl⟩
   obtain ⟨T1,hT1⟩:∃ T1,T1 = SP.bestTo R g slot (k + 1):=⟨_,rfl⟩
   have HT1:Hid (T1 = SP.bestTo R g slot (k + 1)):=hT1
   cases hyes:SP.yesD R g slot k
   ·have HE:Hid (T1 = T0):=by show _ = _;rw [hT1,hT0];exact SP.best_no hyes
    rw [hyes] at TK
    rw [<- hT0]
    have i9:¬ (g.k:Int) <= 0:=by have:=HN.out.2.2.2.2;omega
    clear hyes hT0 hT1
    generalize SP.numD R g slot k = m at *
    go_wp2_with (first
     | (go_at_call 59;refine TK.out.mono ?_;rintro e w1 ⟨u,rfl,g1⟩;have G1:Hid (wa.grownBy w1 none):=g1;have c1:=(H.out.keep (grown_trans GK.out g1)).at2;clear g1 c2)
     | fail)
    go_loopw [12,13] (fun tn ti wr=>tn = .int .i64 0 /\ ti = .int .i64 0 /\ Hid (wa.grownBy wr none)) (fun _ _ _=>0)
    case atStart=>exact ⟨rfl,rfl,G1⟩
    case round =>
     obtain ⟨rfl,rfl,G2⟩:=hrel
     have c1:=(H.out.keep (grown_trans GK.out G2.out)).at2
     go_wp2
     go_roundw
     case rel=>exact ⟨k + 1,by omega,by go_num,by rw [<- HT1.out,HE.out],grown_trans GK.out G2.out⟩
     case measure=>simp [intOf];omega
   ·rw [hyes] at TK
    have hm0:=SP.num_ne hyes
    have HB:Hid ((¬ g.k <= (SP.hits R g slot (SP.numD R g slot k) g.n).length -> T1 = T0) /\ (g.k <= (SP.hits R g slot (SP.numD R g slot k) g.n).length -> T1 = max T0 (SP.numD R g slot k))):=by
     rw [hT1,hT0]
     exact ⟨SP.best_few hyes,SP.best_more hyes⟩
    rw [<- hT0]
    clear hyes hT0 hT1
    generalize SP.numD R g slot k = m at *
    have HM:Hid (m ≠ 0):=hm0
    have HHL:Hid (∀ (j:Nat),(SP.hits R g slot m j).length <= j):=SP.hits_len_le R g slot m
    have HHS:Hid (∀ (j:Nat),(SP.hits R g slot m (j + 1)).length = (SP.hits R g slot m j).length + (if SP.has R g slot m j then 1 else 0)):=fun j=>by
     rw [SP.hits_succ,List.length_append]
     congr 1
     cases SP.has R g slot m j <;> rfl
    have HAS:Hid (∀ (j:Nat) (W:World),j < g.n -> w.grownBy W none -> Calls Tryz.prog 20 #[tptr t,.int .i64 (j:Int),.int .i64 (slot:Int),.int .u64 (m:Int)] W fun e w'=>e = .returned (.tuple #[.bool (SP.has R g slot m j),.int .i64 0]) /\ W.grownBy w' none):=fun j W hj gW=>by
     have h1:=rshas_all (H.out.keep gW) HN.out.2.2.1 (j:Int) (slot:Int) m
     obtain ⟨h2,h3⟩:=hasV_in HN.out.2.2.2.1 hj HM.out
     rw [h2,h3] at h1
     exact h1
    have HZ:Hid ((SP.hits R g slot m 0).length = 0):=by show _ = _;rw [SP.hits_zero];rfl
    clear hm0
    obtain ⟨C,hC⟩:∃ C:Nat -> Nat,C = fun j=>(SP.hits R g slot m j).length:=⟨_,rfl⟩
    obtain ⟨B,hB⟩:∃ B:Nat -> Bool,B = SP.has R g slot m:=⟨_,rfl⟩
    have HCC:Hid ((∀ (j:Nat),C j <= j) /\ (∀ (j:Nat),C (j + 1) = C j + (if B j then 1 else 0)) /\ C 0 = 0):=by
     rw [hC,hB]
     exact ⟨HHL.out,HHS.out,HZ.out⟩
    have HBB:Hid ((¬ g.k <= C g.n -> T1 = T0) /\ (g.k <= C g.n -> T1 = max T0 m)):=by
     rw [hC]
     exact HB.out
    rw [<- hB] at HAS
    clear HHL HHS HZ HB hC hB
    go_wp2_with (first
     | (go_at_call 59;refine TK.out.mono ?_;rintro e w1 ⟨u,rfl,g1⟩;have G1:Hid (wa.grownBy w1 none):=g1;clear g1 c2)
     | fail)
    go_loopw [12,13] (fun tn ti wr=>∃ i:Nat,i <= g.n /\ ti = .int .i64 i /\ tn = .int .i64 ((C i:Nat):Int) /\ Hid (wa.grownBy wr none)) (fun _ ti _=>g.n - (intOf ti).toNat)
    case atStart=>exact ⟨0,by omega,rfl,by rw [HCC.out.2.2];rfl,G1⟩
    case round =>
     obtain ⟨i,hi,rfl,rfl,GI⟩:=hrel
     have c2:=(H.out.keep (grown_trans GK.out GI.out)).at3
     by_cases hlt2:i < g.n
     ·have i5:(i:Int) < (g.n:Int):=by omega
      have HA:Hid (Calls Tryz.prog 20 #[tptr t,.int .i64 (i:Int),.int .i64 (slot:Int),.int .u64 (m:Int)] wr fun e w'=>e = .returned (.tuple #[.bool (B i),.int .i64 0]) /\ wr.grownBy w' none):=HAS.out i wr hlt2 (grown_trans GK.out GI.out)
      have hci:=HCC.out.1 i
      have hcs:=HCC.out.2.1 i
      obtain ⟨n0,hn0⟩:∃ n0,n0 = C i:=⟨_,rfl⟩
      rw [<- hn0] at hci hcs ⊢
      have HCS:Hid (C (i + 1) = n0 + (if B i then 1 else 0)):=hcs
      clear hcs hn0
      generalize B i = bi at *
      cases bi
      ·have HC1:Hid (C (i + 1) = n0):=HCS.out
       clear HCS
       go_wp2_with (go_at_call 20;refine HA.out.mono ?_;rintro e w3 ⟨rfl,g3⟩;have G3:Hid (wa.grownBy w3 none):=grown_trans GI.out g3;clear g3)
       go_roundw
       case rel=>exact ⟨i + 1,by omega,by go_num,by rw [HC1.out],G3⟩
       case measure=>simp [intOf];omega
      ·have HC1:Hid (C (i + 1) = n0 + 1):=HCS.out
       clear HCS
       go_wp2_with (go_at_call 20;refine HA.out.mono ?_;rintro e w3 ⟨rfl,g3⟩;have G3:Hid (wa.grownBy w3 none):=grown_trans GI.out g3;clear g3)
       go_roundw
       case rel=>exact ⟨i + 1,by omega,by go_num,by rw [HC1.out];go_num,G3⟩
       case measure=>simp [intOf];omega
     ·have i5:¬ (i:Int) < (g.n:Int):=by omega
      have hin:i = g.n:=by omega
      have HBi:Hid ((¬ g.k <= C i -> T1 = T0) /\ (g.k <= C i -> T1 = max T0 m)):=by rw [hin];exact HBB.out
      have c1:=(H.out.keep (grown_trans GK.out GI.out)).at2
      clear hin
      generalize C i = n0 at *
      by_cases hge:g.k <= n0
      ·have i7:(g.k:Int) <= (n0:Int):=by omega
       by_cases hgt:T0 < m
       ·have i8:(T0:Int) < (m:Int):=by omega
        have HE:Hid (T1 = m):=by show _ = _;rw [HBi.out.2 hge];omega
        clear HBi
        go_wp2
        go_roundw
        case rel=>exact ⟨k + 1,by omega,by go_num,by rw [<- HT1.out,HE.out],grown_trans GK.out GI.out⟩
        case measure=>simp [intOf];omega
       ·have i8:¬ (T0:Int) < (m:Int):=by omega
        have HE:Hid (T1 = T0):=by show _ = _;rw [HBi.out.2 hge];omega
        clear HBi
        go_wp2
        go_roundw
        case rel=>exact ⟨k + 1,by omega,by go_num,by rw [<- HT1.out,HE.out],grown_trans GK.out GI.out⟩
        case measure=>simp [intOf];omega
      ·have i7:¬ (g.k:Int) <= (n0:Int):=by omega
       have HE:Hid (T1 = T0):=HBi.out.1 hge
       clear HBi
       go_wp2
       go_roundw
       case rel=>exact ⟨k + 1,by omega,by go_num,by rw [<- HT1.out,HE.out],grown_trans GK.out GI.out⟩
       case measure=>simp [intOf];omega
  ·have i4:¬ (k:Int) < (g.n:Int):=by omega
   have hkn:Hid (k = g.n):=by show _ = _;omega
   go_wp2
   go_ret2
   exact ⟨by rw [hkn.out,SP.best_all];rfl,GK.out⟩
theorem rswhole_all (h:RSI G w t r g R) (hL:R.L.length <= 1000000) (slot:Int) :
 Calls Tryz.prog 22 #[tptr t,.int .i64 slot] w fun e w'=>e = .returned (.tuple #[.int .u64 ((SP.wholeV R g slot:Nat):Int),.int .i64 (SP.why R g slot:Int)]) /\ w.grownBy w' none:=by
 unfold SP.wholeV
 by_cases hy:SP.why R g slot = 0
 ·obtain ⟨_,q1,_⟩:=SP.why_zero hy
  obtain ⟨n,rfl⟩:∃ n:Nat,slot = (n:Int):=⟨slot.toNat,by omega⟩
  rw [if_pos hy,hy,Int.toNat_natCast]
  exact rswhole_main h hL hy
 ·rw [if_neg hy]
  refine (rswhole_err h hy).mono ?_
  rintro e w' ⟨rfl,rfl⟩
  exact ⟨rfl,World.grownBy.refl _ _⟩
end
end Go.Proofs.YtfjlpifaaknmpaaGreat
