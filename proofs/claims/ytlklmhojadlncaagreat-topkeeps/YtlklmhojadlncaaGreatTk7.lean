/- Packed: Leaf6, Leaf7, Lay6, Fuse6. -/
import Derived.Test.YtlklmhojadlncaaGreatTk6
set_option linter.unusedSimpArgs false
set_option linter.unusedVariables false
set_option maxRecDepth 100000
namespace Go.Proofs.YtlklmhojadlncaaGreat
open Go.RowKit
abbrev ptr (a:Nat):Value:=.pointer (some ⟨a,0,none⟩)
section
variable {F:Nat->Prop} {w:World} {a:Nat} {R:AM.Raw}
theorem made_yes (h:Is F w a R):Calls Tryz.prog 39 #[ptr a] w fun e w'=>e=.returned (.bool true)/\w'=w:=by
 obtain⟨dg,fp,fc,ht⟩:=h.top
 have c0:=topCell (j:=0) ht rfl
 clear h ht
 go_enter Tryz.func39,Tryz.ntmps39
 go_wp2
 go_ret
 exact⟨rfl,rfl⟩
theorem disks_yes (h:Is F w a R):Calls Tryz.prog 29 #[ptr a] w fun e w'=>e=.returned (.int .i64 (R.C.length:Int))/\w'=w:=by
 obtain⟨dg,fp,fc,ht⟩:=h.top
 have c0:=topCell (j:=0) ht rfl
 have H:Hid (Is F w a R):=h
 clear h ht
 go_enter Tryz.func29,Tryz.ntmps29
 go_wp2_with (go_at_call 39;refine (made_yes H.out).mono ?_;rintro e w1 ⟨rfl,hw⟩;obtain rfl:=hw.symm;clear hw)
 go_ret
 exact⟨rfl,rfl⟩
theorem sectors_yes (h:Is F w a R):Calls Tryz.prog 68 #[ptr a] w fun e w'=>e=.returned (.int .i64 (R.n:Int))/\w'=w:=by
 obtain⟨dg,fp,fc,ht⟩:=h.top
 have c1:=topCell (j:=1) ht rfl
 have H:Hid (Is F w a R):=h
 clear h ht
 go_enter Tryz.func68,Tryz.ntmps68
 go_wp2_with (go_at_call 39;refine (made_yes H.out).mono ?_;rintro e w1 ⟨rfl,hw⟩;obtain rfl:=hw.symm;clear hw)
 go_ret
 exact⟨rfl,rfl⟩
theorem off_yes (h:Is F w a R):Calls Tryz.prog 33 #[ptr a] w fun e w'=>e=.returned (.bool R.off)/\w'=w:=by
 obtain⟨dg,fp,fc,ht⟩:=h.top
 have c4:=topCell (j:=4) ht rfl
 have H:Hid (Is F w a R):=h
 clear h ht
 go_enter Tryz.func33,Tryz.ntmps33
 go_wp2_with (go_at_call 39;refine (made_yes H.out).mono ?_;rintro e w1 ⟨rfl,hw⟩;obtain rfl:=hw.symm;clear hw)
 go_ret
 exact⟨rfl,rfl⟩
theorem power_yes (h:Is F w a R):Calls Tryz.prog 36 #[ptr a] w fun e w'=>e=.returned (.int .i64 (R.power:Int))/\w'=w:=by
 obtain⟨dg,fp,fc,ht⟩:=h.top
 have c4:=topCell (j:=4) ht rfl
 have H:Hid (Is F w a R):=h
 clear h ht
 cases ho:R.off with
 | true =>
   rw[ho] at c4
   have hp:Hid ((R.power:Int)=8):=by show _=_;simp[AM.Raw.power,ho]
   clear ho
   go_enter Tryz.func36,Tryz.ntmps36
   go_wp2_with (go_at_call 39;refine (made_yes H.out).mono ?_;rintro e w1 ⟨rfl,hw⟩;obtain rfl:=hw.symm;clear hw)
   go_ret
   exact⟨by rw[hp.out];rfl,rfl⟩
 | false =>
   rw[ho] at c4
   have hp:Hid ((R.power:Int)=0):=by show _=_;simp[AM.Raw.power,ho]
   clear ho
   go_enter Tryz.func36,Tryz.ntmps36
   go_wp2_with (go_at_call 39;refine (made_yes H.out).mono ?_;rintro e w1 ⟨rfl,hw⟩;obtain rfl:=hw.symm;clear hw)
   go_ret
   exact⟨by rw[hp.out];rfl,rfl⟩
def hasD (R:AM.Raw) (d:Int):Bool:=decide (0<=d)&&decide (d < (R.C.length:Int))
theorem has_yes (h:Is F w a R) (d:Int):Calls Tryz.prog 38 #[ptr a,.int .i64 d] w fun e w'=>e=.returned (.bool (hasD R d))/\w'=w:=by
 have H:Hid (Is F w a R):=h
 clear h
 by_cases h1:0<=d
 ·have hv:Hid (hasD R d=decide (d < (R.C.length:Int))):=by show _=_;simp[hasD,h1]
  go_enter Tryz.func38,Tryz.ntmps38
  go_wp2_with (go_at_call 29;refine (disks_yes H.out).mono ?_;rintro e w1 ⟨rfl,hw⟩;obtain rfl:=hw.symm;clear hw)
  go_ret
  exact⟨by rw[hv.out];rfl,rfl⟩
 ·have hv:Hid (hasD R d=false):=by show _=_;simp[hasD,h1]
  go_enter Tryz.func38,Tryz.ntmps38
  go_wp2
  go_ret
  exact⟨by rw[hv.out];rfl,rfl⟩
theorem find_yes (h:Is F w a R) (d:Int):Calls Tryz.prog 30 #[ptr a,.int .i64 d] w fun e w'=>e=.returned (.int .i64 (R.find d:Int))/\w'=w:=by
 have H:Hid (Is F w a R):=h
 clear h
 cases hh:hasD R d with
 | true =>
   have hp:Hid ((R.find d:Int)=0):=by
    show _=_
    simp only[hasD,Bool.and_eq_true,decide_eq_true_eq] at hh
    simp[AM.Raw.find,hh.1,hh.2]
   have hc:=has_yes H.out d
   rw[hh] at hc
   have HC:Hid (Calls Tryz.prog 38 #[ptr a,.int .i64 d] w fun e w'=>e=.returned (.bool true)/\w'=w):=hc
   clear hh hc
   go_enter Tryz.func30,Tryz.ntmps30
   go_wp2_with (first
    | (go_at_call 39;refine (made_yes H.out).mono ?_;rintro e w1 ⟨rfl,hw⟩;obtain rfl:=hw.symm;clear hw)
    | (go_at_call 38;refine HC.out.mono ?_;rintro e w1 ⟨rfl,hw⟩;obtain rfl:=hw.symm;clear hw))
   go_ret
   exact⟨by rw[hp.out];rfl,rfl⟩
 | false =>
   have hp:Hid ((R.find d:Int)=6):=by
    show _=_
    have:¬ (0<=d/\d < (R.C.length:Int)):=fun c=>by simp[hasD,c.1,c.2] at hh
    simp[AM.Raw.find,this]
   have hc:=has_yes H.out d
   rw[hh] at hc
   have HC:Hid (Calls Tryz.prog 38 #[ptr a,.int .i64 d] w fun e w'=>e=.returned (.bool false)/\w'=w):=hc
   clear hh hc
   go_enter Tryz.func30,Tryz.ntmps30
   go_wp2_with (first
    | (go_at_call 39;refine (made_yes H.out).mono ?_;rintro e w1 ⟨rfl,hw⟩;obtain rfl:=hw.symm;clear hw)
    | (go_at_call 38;refine HC.out.mono ?_;rintro e w1 ⟨rfl,hw⟩;obtain rfl:=hw.symm;clear hw))
   go_ret
   exact⟨by rw[hp.out];rfl,rfl⟩
theorem Is.drive (h:Is F w a R) {d:Nat} (hd:d < R.C.length):∃ dg v,(w.cell? ⟨a,0,none⟩=some (.slice (some ⟨dg,0,none⟩) R.C.length R.C.length))/\w.cell? ⟨dg,d,none⟩=some v /\
 ((R.C[d]?=some none/\v=.slice none 0 0)\/∃ xs g c,R.C[d]?=some (some xs)/\v=.slice (some ⟨g,0,none⟩) R.n c):=by
 obtain⟨dg,dv,fp,fc,h⟩:=h
 have hl:d < dv.length:=by rw[h.len];exact hd
 refine⟨dg,dv[d],topCell (j:=0) h.top rfl,topCell h.dsk (by simp[hl]),?_⟩
 rcases h.drv d dv[d] (List.getElem?_eq_getElem hl) with h1 | ⟨xs,h1,h2⟩
 ·exact .inl h1
 ·rcases h2.2 with ⟨h3,h4⟩ | ⟨g,cap,cur,h3,_⟩
  ·have:=h.ok.n1;omega
  ·exact .inr ⟨xs,g,cap,h1,h3⟩
theorem on_yes (h:Is F w a R) (d:Int):Calls Tryz.prog 17 #[ptr a,.int .i64 d] w fun e w'=>e=.returned (.bool (R.on d))/\w'=w:=by
 have H:Hid (Is F w a R):=h
 cases hh:hasD R d with
 | true =>
   have hc:=has_yes h d
   rw[hh] at hc
   have HC:Hid (Calls Tryz.prog 38 #[ptr a,.int .i64 d] w fun e w'=>e=.returned (.bool true)/\w'=w):=hc
   simp only[hasD,Bool.and_eq_true,decide_eq_true_eq] at hh
   obtain⟨h1,h2⟩:=hh
   obtain⟨k,rfl⟩:∃ k:Nat,d=(k:Int):=⟨d.toNat,by omega⟩
   have hk:k < R.C.length:=by omega
   obtain⟨dg,v,c0,cv,hv⟩:=h.drive hk
   have hb:=h.ok.d2
   clear hc h
   rcases hv with ⟨hn,rfl⟩ | ⟨xs,g,c,hn,rfl⟩
   ·have ho:Hid (R.on (k:Int)=false):=by show _=_;simp[AM.Raw.on,List.getD,hn]
    clear hn
    generalize R.C.length=N at *
    go_enter Tryz.func17,Tryz.ntmps17
    go_wp2_with (go_at_call 38;refine HC.out.mono ?_;rintro e w1 ⟨rfl,hw⟩;obtain rfl:=hw.symm;clear hw)
    go_ret
    exact⟨by rw[ho.out];rfl,rfl⟩
   ·have ho:Hid (R.on (k:Int)=true):=by show _=_;simp[AM.Raw.on,List.getD,hn,h1,h2]
    clear hn
    generalize R.C.length=N at *
    go_enter Tryz.func17,Tryz.ntmps17
    go_wp2_with (go_at_call 38;refine HC.out.mono ?_;rintro e w1 ⟨rfl,hw⟩;obtain rfl:=hw.symm;clear hw)
    go_ret
    exact⟨by rw[ho.out];rfl,rfl⟩
 | false =>
   have hc:=has_yes h d
   rw[hh] at hc
   have HC:Hid (Calls Tryz.prog 38 #[ptr a,.int .i64 d] w fun e w'=>e=.returned (.bool false)/\w'=w):=hc
   have ho:Hid (R.on d=false):=by
    show _=_
    have:(decide (0<=d)&&decide (d < (R.C.length:Int)))=false:=hh
    simp only[AM.Raw.on,this,Bool.false_and]
   clear hh hc h
   go_enter Tryz.func17,Tryz.ntmps17
   go_wp2_with (go_at_call 38;refine HC.out.mono ?_;rintro e w1 ⟨rfl,hw⟩;obtain rfl:=hw.symm;clear hw)
   go_ret
   exact⟨by rw[ho.out];rfl,rfl⟩
end
section
variable {F:Nat->Prop} {w:World} {a:Nat} {R:AM.Raw}
def cnt_a (R:AM.Raw) (k:Nat):Nat:=(R.C.take k).countP (·.isSome)
theorem cnt_zero (R:AM.Raw):cnt_a R 0=0:=by simp[cnt_a]
theorem cnt_all (R:AM.Raw):cnt_a R R.C.length=R.ons:=by simp[cnt_a,AM.Raw.ons]
theorem cnt_step {R:AM.Raw} {k:Nat} (h:k < R.C.length):cnt_a R (k+1)=cnt_a R k+(if R.on (k:Int) then 1 else 0):=by
 unfold cnt_a
 rw[List.take_succ_eq_append_getElem h,List.countP_append]
 congr 1
 have hon:R.on (k:Int)=R.C[k].isSome:=by
  simp only[AM.Raw.on,Int.toNat_natCast,List.getD,List.getElem?_eq_getElem h,Option.getD_some]
  simp;omega
 rw[hon]
 simp[List.countP_cons]
theorem cnt_le_a (R:AM.Raw) (k:Nat):cnt_a R k<=k:=Nat.le_trans List.countP_le_length (by simp;omega)
theorem ons_yes (h:Is F w a R):Calls Tryz.prog 12 #[ptr a] w fun e w'=>e=.returned (.int .i64 (R.ons:Int))/\w'=w:=by
 have H:Hid (Is F w a R):=h
 have hN:R.C.length<=255:=h.ok.d2
 obtain⟨N,hNe⟩:∃ N,N=R.C.length:=⟨_,rfl⟩
 have HN:Hid (N=R.C.length):=hNe
 have HD:Hid (Calls Tryz.prog 29 #[ptr a] w fun e w'=>e=.returned (.int .i64 (N:Int))/\w'=w):=by rw[hNe];exact disks_yes h
 rw[<- hNe] at hN
 clear h hNe
 go_enter Tryz.func12,Tryz.ntmps12
 go_wp2_with (go_at_call 29;refine HD.out.mono ?_;rintro e w1 ⟨rfl,hw⟩;obtain rfl:=hw.symm;clear hw)
 go_loop [3,7] (fun tc ti=>∃ k:Nat,k<=N/\ti=.int .i64 (k:Int)/\tc=.int .i64 (cnt_a R k:Int)) (fun _ ti=>N - (intOf ti).toNat)
 case atStart=>exact⟨0,by omega,rfl,by rw[cnt_zero];rfl⟩
 case round =>
  obtain⟨k,hk,rfl,rfl⟩:=hrel
  by_cases hlt:k < N
  ·have i1:(k:Int) < (N:Int):=by omega
   have hs:=cnt_step (R:=R) (k:=k) (by rw[<- HN.out];exact hlt)
   have hcl:=cnt_le_a R k
   have hc:=on_yes H.out (k:Int)
   cases ho:R.on (k:Int) with
   | true =>
     rw[ho] at hc hs
     have HC:Hid (Calls Tryz.prog 17 #[ptr a,.int .i64 (k:Int)] w fun e w'=>e=.returned (.bool true)/\w'=w):=hc
     have HS:Hid (cnt_a R (k+1)=cnt_a R k+1):=hs
     clear hc hs ho
     generalize cnt_a R k=c at *
     go_wp2_with (go_at_call 17;refine HC.out.mono ?_;rintro e w1 ⟨rfl,hw⟩;obtain rfl:=hw.symm;clear hw)
     go_round
     case rel=>exact⟨k+1,by omega,by go_num,by rw[HS.out];go_num⟩
     case measure=>simp[intOf];omega
   | false =>
     rw[ho] at hc hs
     have HC:Hid (Calls Tryz.prog 17 #[ptr a,.int .i64 (k:Int)] w fun e w'=>e=.returned (.bool false)/\w'=w):=hc
     have HS:Hid (cnt_a R (k+1)=cnt_a R k):=hs
     clear hc hs ho
     generalize cnt_a R k=c at *
     go_wp2_with (go_at_call 17;refine HC.out.mono ?_;rintro e w1 ⟨rfl,hw⟩;obtain rfl:=hw.symm;clear hw)
     go_round
     case rel=>exact⟨k+1,by omega,by go_num,by rw[HS.out]⟩
     case measure=>simp[intOf];omega
  ·have i1:¬ (k:Int) < (N:Int):=by omega
   have HE:Hid (cnt_a R k=R.ons):=by
    have e:k=R.C.length:=by have:=HN.out;omega
    show _=_
    rw[e,cnt_all]
   go_wp2
   go_ret
   exact⟨by rw[HE.out];rfl,rfl⟩
theorem reach_yes (h:Is F w a R) (d k:Int):Calls Tryz.prog 88 #[ptr a,.int .i64 d,.int .i64 k] w fun e w'=>e=.returned (.int .i64 (R.reach d k:Int))/\w'=w:=by
 have H:Hid (Is F w a R):=h
 have hp:=power_yes h
 obtain⟨dg,fp,fc,ht⟩:=h.top
 have c1:w.cell? ⟨a,1,none⟩=some (.int .i64 (R.n:Int)):=topCell (j:=1) ht rfl
 clear ht
 cases hoff:R.off with
 | true =>
   rw[AM.Raw.power,hoff] at hp
   have HP:Hid (Calls Tryz.prog 36 #[ptr a] w fun e w'=>e=.returned (.int .i64 8)/\w'=w):=hp
   have HR:Hid ((R.reach d k:Int)=8):=by show _=_;simp[AM.Raw.reach,hoff]
   clear hp h hoff c1
   go_enter Tryz.func88,Tryz.ntmps88
   go_wp2_with (go_at_call 36;refine HP.out.mono ?_;rintro e w1 ⟨rfl,hw⟩;obtain rfl:=hw.symm;clear hw)
   go_ret
   exact⟨by rw[HR.out];rfl,rfl⟩
 | false =>
   rw[AM.Raw.power,hoff] at hp
   have HP:Hid (Calls Tryz.prog 36 #[ptr a] w fun e w'=>e=.returned (.int .i64 0)/\w'=w):=hp
   have hc:=has_yes h d
   cases hh:hasD R d with
   | false =>
     rw[hh] at hc
     have HC:Hid (Calls Tryz.prog 38 #[ptr a,.int .i64 d] w fun e w'=>e=.returned (.bool false)/\w'=w):=hc
     have HR:Hid ((R.reach d k:Int)=6):=by
      show _=_
      have:¬ (0<=d/\d < (R.C.length:Int)/\0<=k/\k < (R.n:Int)):=fun c=>by simp[hasD,c.1,c.2.1] at hh
      simp[AM.Raw.reach,hoff,this]
     clear hp h hoff hh hc c1
     go_enter Tryz.func88,Tryz.ntmps88
     go_wp2_with (first
      | (go_at_call 36;refine HP.out.mono ?_;rintro e w1 ⟨rfl,hw⟩;obtain rfl:=hw.symm;clear hw)
      | (go_at_call 38;refine HC.out.mono ?_;rintro e w1 ⟨rfl,hw⟩;obtain rfl:=hw.symm;clear hw))
     go_ret
     exact⟨by rw[HR.out];rfl,rfl⟩
   | true =>
     rw[hh] at hc
     have HC:Hid (Calls Tryz.prog 38 #[ptr a,.int .i64 d] w fun e w'=>e=.returned (.bool true)/\w'=w):=hc
     simp only[hasD,Bool.and_eq_true,decide_eq_true_eq] at hh
     by_cases hk:0<=k/\k < (R.n:Int)
     ·have ho:=on_yes h d
      cases hon:R.on d with
      | true =>
        rw[hon] at ho
        have HO:Hid (Calls Tryz.prog 17 #[ptr a,.int .i64 d] w fun e w'=>e=.returned (.bool true)/\w'=w):=ho
        have HR:Hid ((R.reach d k:Int)=0):=by show _=_;simp[AM.Raw.reach,hoff,hh.1,hh.2,hk.1,hk.2,hon]
        clear hp h hoff hh hc ho hon
        obtain⟨k1,k2⟩:=hk
        go_enter Tryz.func88,Tryz.ntmps88
        go_wp2_with (first
         | (go_at_call 36;refine HP.out.mono ?_;rintro e w1 ⟨rfl,hw⟩;obtain rfl:=hw.symm;clear hw)
         | (go_at_call 38;refine HC.out.mono ?_;rintro e w1 ⟨rfl,hw⟩;obtain rfl:=hw.symm;clear hw)
         | (go_at_call 17;refine HO.out.mono ?_;rintro e w1 ⟨rfl,hw⟩;obtain rfl:=hw.symm;clear hw))
        go_ret
        exact⟨by rw[HR.out];rfl,rfl⟩
      | false =>
        rw[hon] at ho
        have HO:Hid (Calls Tryz.prog 17 #[ptr a,.int .i64 d] w fun e w'=>e=.returned (.bool false)/\w'=w):=ho
        have HR:Hid ((R.reach d k:Int)=9):=by show _=_;simp[AM.Raw.reach,hoff,hh.1,hh.2,hk.1,hk.2,hon]
        clear hp h hoff hh hc ho hon
        obtain⟨k1,k2⟩:=hk
        go_enter Tryz.func88,Tryz.ntmps88
        go_wp2_with (first
         | (go_at_call 36;refine HP.out.mono ?_;rintro e w1 ⟨rfl,hw⟩;obtain rfl:=hw.symm;clear hw)
         | (go_at_call 38;refine HC.out.mono ?_;rintro e w1 ⟨rfl,hw⟩;obtain rfl:=hw.symm;clear hw)
         | (go_at_call 17;refine HO.out.mono ?_;rintro e w1 ⟨rfl,hw⟩;obtain rfl:=hw.symm;clear hw))
        go_ret
        exact⟨by rw[HR.out];rfl,rfl⟩
     ·have HR:Hid ((R.reach d k:Int)=6):=by
       show _=_
       have:¬ (0<=d/\d < (R.C.length:Int)/\0<=k/\k < (R.n:Int)):=fun c=>hk c.2.2
       simp[AM.Raw.reach,hoff,this]
      clear hp h hoff hh hc
      by_cases k1:k < 0
      ·clear hk
       go_enter Tryz.func88,Tryz.ntmps88
       go_wp2_with (first
        | (go_at_call 36;refine HP.out.mono ?_;rintro e w1 ⟨rfl,hw⟩;obtain rfl:=hw.symm;clear hw)
        | (go_at_call 38;refine HC.out.mono ?_;rintro e w1 ⟨rfl,hw⟩;obtain rfl:=hw.symm;clear hw))
       go_ret
       exact⟨by rw[HR.out];rfl,rfl⟩
      ·have k2:(R.n:Int)<=k:=by omega
       clear hk
       go_enter Tryz.func88,Tryz.ntmps88
       go_wp2_with (first
        | (go_at_call 36;refine HP.out.mono ?_;rintro e w1 ⟨rfl,hw⟩;obtain rfl:=hw.symm;clear hw)
        | (go_at_call 38;refine HC.out.mono ?_;rintro e w1 ⟨rfl,hw⟩;obtain rfl:=hw.symm;clear hw))
       go_ret
       exact⟨by rw[HR.out];rfl,rfl⟩
theorem grown_set_a (w:World) (a j:Nat) (v:Value):w.grownBy (w.setCell ⟨a,j,none⟩ v) (some a):=⟨rfl,rfl,rfl,by simp,fun i _ hne=>Below.heap_setCell _ _ _ _ (by simpa using hne)⟩
theorem grown_set2 {w w':World} {a:Nat} (g:w.grownBy w' (some a)) (j:Nat) (v:Value):w.grownBy (w'.setCell ⟨a,j,none⟩ v) (some a):=grown_trans g (grown_set_a w' a j v)
theorem topFrozen {w:World} {a:Nat} {c:Array Value} {t:TypeId} (j:Nat) (h:w.heap[a]?=some (.cells c t (0,0))):w.frozen? ⟨a,j,none⟩=false:=by simp[World.frozen?,h]
theorem beq_dec (m:Nat):(m==0)=decide (m=0):=by cases m <;> rfl
theorem burns_yes (h:Is F w a R) (hoff:R.off=false):Calls Tryz.prog 37 #[ptr a] w fun e w'=>e=.returned (.bool R.burns)/\Is F w' a R.burnt/\Step F w F w':=by
 obtain⟨dg,dv,fp,fc,h⟩:=h
 have H:Hid (Lies F w a dg dv fp fc R):=h
 have hf:=h.ok.fuse
 have ht:=h.top
 have c3:w.cell? ⟨a,3,none⟩=some (.int .i64 (R.fuse:Int)):=topCell (j:=3) ht rfl
 have c4:w.cell? ⟨a,4,none⟩=some (.bool R.off):=topCell (j:=4) ht rfl
 have f3:=topFrozen 3 ht
 have f4:=topFrozen 4 ht
 have HT:Hid (w.heap[a]?=some (.cells #[.slice (some ⟨dg,0,none⟩) R.C.length R.C.length,.int .i64 (R.n:Int),.slice fp R.L.length fc,.int .i64 (R.fuse:Int),.bool R.off] 76 (0,0))):=ht
 clear h ht
 by_cases h0:R.fuse=0
 ·have HB:Hid (R.burns=false/\R.burnt=R):=⟨by simp[AM.Raw.burns,h0],by simp[AM.Raw.burnt,h0]⟩
  rw[h0] at c3
  have c3:w.cell? ⟨a,3,none⟩=some (.int .i64 0):=c3
  clear hf c4 f3 f4 h0
  go_enter Tryz.func37,Tryz.ntmps37
  go_wp2
  go_ret
  exact⟨by rw[HB.out.1];rfl,by rw[HB.out.2];exact H.out.is,Step.refl F w⟩
 ·obtain⟨m,hm⟩:∃ m,R.fuse=m+1:=⟨R.fuse - 1,by omega⟩
  have HB:Hid (R.burns=decide (m=0)/\R.burnt={ R with fuse:=m,off:=decide (m=0) }):=⟨by simp[AM.Raw.burns,hm,beq_dec],by
   unfold AM.Raw.burnt
   rw[if_neg h0,hm]
   simp[beq_dec]⟩
  have HT':Hid (((w.setCell ⟨a,3,none⟩ (.int .i64 (m:Int))).setCell ⟨a,4,none⟩ (.bool (decide (m=0)))).heap[a]?=some (.cells #[.slice (some ⟨dg,0,none⟩) R.C.length R.C.length,.int .i64 (R.n:Int),.slice fp R.L.length fc,.int .i64 (m:Int),.bool (decide (m=0))] 76 (0,0))):=by
   show _=_
   rw[heap_setCell_same _ _ _ _ _ _ (heap_setCell_same _ _ _ _ _ _ HT.out)]
   rfl
  have hmb:m < 9223372036854775807:=by omega
  have HI:Hid (Is F ((w.setCell ⟨a,3,none⟩ (.int .i64 (m:Int))).setCell ⟨a,4,none⟩ (.bool (decide (m=0)))) a R.burnt):=by
   rw[HB.out.2]
   exact (H.out.turn (R':={ R with fuse:=m,off:=decide (m=0) }) (grown_set2 (grown_set_a w a 3 _) 4 _) rfl rfl rfl (by show m < _;omega) HT'.out).is
  have HS:Hid (Step F w F ((w.setCell ⟨a,3,none⟩ (.int .i64 (m:Int))).setCell ⟨a,4,none⟩ (.bool (decide (m=0))))):=Step.of (grown_set2 (grown_set_a w a 3 _) 4 _) (fun i e=>by obtain rfl:=Option.some.inj e;exact H.out.Fa)
  have HB1:Hid (R.burns=decide (m=0)):=HB.out.1
  have i1:((((m:Nat):Int)+1)==0)=false:=by simp;omega
  rw[hm,Int.natCast_add,Int.natCast_one] at c3
  clear HB HT' HT H hf h0 hm
  by_cases hz:m=0
  ·subst hz
   go_enter Tryz.func37,Tryz.ntmps37
   go_wp2
   go_ret
   exact⟨by rw[HB1.out];rfl,HI.out,HS.out⟩
  ·have i2:(((m:Nat):Int)==0)=false:=by simp;omega
   have e2:decide (m=0)=false:=by simp[hz]
   rw[e2] at HI HS HB1
   clear e2
   go_enter Tryz.func37,Tryz.ntmps37
   go_wp2
   go_ret
   exact⟨by rw[HB1.out];rfl,HI.out,HS.out⟩
end
theorem bv_map_get {xs:List Nat} {j:Nat} {v:Value} (h:(xs.map bv)[j]?=some v):∃ x,xs[j]?=some x/\v=bv x:=by
 rw[List.getElem?_map] at h
 cases hx:xs[j]? with
 | none=>rw[hx] at h;cases h
 | some x=>rw[hx] at h;exact⟨x,rfl,(Option.some.inj h).symm⟩
theorem ownsRow_cell {w:World} {B size n g cap:Nat} {e:TypeId} {xs:List Value} (h:w.ownsRow B e size (.slice (some ⟨g,0,none⟩) n cap) n xs) {j:Nat} {v:Value} (hv:xs[j]?=some v):w.cell? ⟨g,j,none⟩=some v:=by
 have:=h.cells (g:=g) rfl j v hv
 rw[add_at,Nat.zero_add] at this
 exact this
theorem sector_vec {w:World} {B n g cap k:Nat} {xs:List Nat} (h:w.ownsRow B 79 64 (.slice (some ⟨g,0,none⟩) n cap) n (xs.map bv)) (hs:∀ x ∈ xs,x < 256) (hx:xs.length=n * 64) (hk:k < n) :
 Vec w (.slice (some ⟨g,k * 64,none⟩) 64 64) (AM.sec xs k):=by
 have hf:=AM.fits hk
 have hl:(AM.sec xs k).length=64:=AM.sec_len (by omega)
 refine⟨AM.sec_small hs k,by omega,_,_,by rw[hl],by omega,by decide,fun _=>⟨g,k * 64,rfl,fun j hj=>?_⟩⟩
 rw[hl] at hj
 refine ownsRow_cell h ?_
 have h1:(AM.sec xs k)[j]?=xs[k * 64+j]?:=by rw[AM.sec_get,if_pos hj]
 have h2:k * 64+j < xs.length:=by omega
 rw[List.getElem?_map,List.getElem?_eq_getElem h2]
 simp only[List.getD,h1,List.getElem?_eq_getElem h2]
 rfl
theorem map_put (xs b:List Nat) (k:Nat):(AM.put xs k b).map bv=(xs.map bv).take (k * 64)++b.map bv++(xs.map bv).drop (k * 64+b.length):=by
 simp[AM.put,List.map_take,List.map_drop]
theorem take_splice {α:Type} (c bs:List α) (o m:Nat) (h:o+bs.length<=m) (hm:m<=c.length):(c.take o++bs++c.drop (o+bs.length)).take m=(c.take m).take o++bs++(c.take m).drop (o+bs.length):=by
 obtain⟨P,Q,rfl,hP⟩:∃ P Q,c=P++Q/\P.length=m:=⟨c.take m,c.drop m,(List.take_append_drop m c).symm,by simp;omega⟩
 have e1:(P++Q).take o=P.take o:=List.take_append_of_le_length (by omega)
 have e2:(P++Q).drop (o+bs.length)=P.drop (o+bs.length)++Q:=List.drop_append_of_le_length (by omega)
 rw[e1,e2,List.take_left' hP,<- List.append_assoc,List.take_left' (by simp;omega)]
theorem run_copy_sec {w:World} {B n g cap k:Nat} {xs b:List Nat} {s:Value} (h:w.ownsRow B 79 64 (.slice (some ⟨g,0,none⟩) n cap) n (xs.map bv)) (hx:xs.length=n * 64) (hk:k < n) (hs:Vec w s b) (hb:b.length=64) (ty:TypeId) :
 ∃ w',(Builtin.copy_ #[26,26] ty #[.slice (some ⟨g,k * 64,none⟩) 64 64,s]).run Tryz.prog w=.ok (goInt 64) w'/\w'.ownsRow B 79 64 (.slice (some ⟨g,0,none⟩) n cap) n ((AM.put xs k b).map bv)/\w.grownBy w' (some g):=by
 have hf:=AM.fits hk
 obtain⟨s1,s2,p,scap,rfl,s3,s4,s5⟩:=hs
 obtain⟨sb,so,rfl,hc⟩:=s5 (fun e=>by rw[e] at hb;cases hb)
 rcases h.2 with ⟨h3,_⟩ | ⟨g',cap',cur,h3,hb',hg,hnc,hm,hcs,htk⟩
 ·cases h3
 ·injection h3 with e1 _ e3
  injection e1 with e1
  injection e1 with e1 _
  subst e1
  subst e3
  have hsz:n * 64<=cur.size:=by rw[hcs];exact Nat.mul_le_mul_right _ hnc
  have hr:=run_copy_row (P:=Tryz.prog) w 26 26 ty 5 g (k * 64) 64 64 ⟨sb,so,none⟩ b.length scap cur 79 (b.map bv) Tryz.underlying26 Tryz.size5 hg (by rw[List.length_map,hb];rfl)
   (fun j v hj=>by
     have hj':j < b.length:=by
      have:=(List.getElem?_eq_some_iff.1 hj).1
      simpa using this
     rw[getD_map_bv b j hj'] at hj
     rw[add_off,hc j hj'];exact hj) (by simp[hb];omega) (fun v hv=>by obtain⟨x,_,rfl⟩:=List.mem_map.1 hv;rfl)
  refine⟨w.setRow g (cur.toList.take (k * 64)++b.map bv++cur.toList.drop (k * 64+(b.map bv).length)).toArray,by rw[hr];simp[hb],⟨by rw[List.length_map,AM.put_len (by omega),hx],.inr ⟨g,cap,_,rfl,hb',setRow_heap w g cur _ 79 _ hg,hnc,hm,?_,?_⟩⟩,⟨rfl,rfl,rfl,by simp,fun i _ hi=>setRow_other w g i _ (fun e=>hi (by simp[e]))⟩⟩
  ·simp[hb];omega
  ·have hlm:(b.map bv).length=b.length:=by simp
   rw[map_put,<- htk]
   have:=take_splice cur.toList (b.map bv) (k * 64) (n * 64) (by rw[hlm,hb];exact hf) (by simpa using hsz)
   rw[hlm] at this ⊢
   exact this
theorem step_copy_sec {ops:Array Oper} {o:Oper} {ac:Act} {w:World} {K:Act->World->Prop} {Q:Exit->Act->World->Prop} {E:Prop} (hgd:o.guard=none) (d s:Operand)
 (ho:o.op=.call { callee:=.builtin .copy,args:=#[d,s],argTypes:=#[26,26] }) (sv:Value) {B n g cap k:Nat} {xs b:List Nat} (hed:ac.eval d=.slice (some ⟨g,k * 64,none⟩) 64 64) (hes:ac.eval s=sv)
 (hr:w.ownsRow B 79 64 (.slice (some ⟨g,0,none⟩) n cap) n (xs.map bv)) (hx:xs.length=n * 64) (hk:k < n) (hs:Vec w sv b) (hb:b.length=64)
 (h:∀ w',w'.ownsRow B 79 64 (.slice (some ⟨g,0,none⟩) n cap) n ((AM.put xs k b).map bv)->w.grownBy w' (some g)->K (ac.put o.dst (goInt 64)) w') :
 if Region.wanted o (yielded ops ac.tmps)=true then Oper.wp Tryz.prog o ac w K Q else E:=by
 have hw:Region.wanted o (yielded ops ac.tmps)=true:=by simp[Region.wanted,hgd]
 rw[if_pos hw]
 obtain⟨w',hrun,r1,r2⟩:=run_copy_sec hr hx hk hs hb o.type
 unfold Oper.wp
 simp[execOp,ho,resolve,invoke,builtin,hed,hes,hrun,Result.andThen]
 exact h _ r1 r2
theorem Lies.drive {F:Nat->Prop} {w:World} {a dg:Nat} {dv:List Value} {fp:Option Addr} {fc:Nat} {R:AM.Raw} (h:Lies F w a dg dv fp fc R) {d:Nat} {xs:List Nat} (hd:R.C[d]?=some (some xs)) :
 ∃ g c,dv[d]?=some (.slice (some ⟨g,0,none⟩) R.n c)/\w.cell? ⟨dg,d,none⟩=some (.slice (some ⟨g,0,none⟩) R.n c)/\w.ownsRow 0 79 64 (.slice (some ⟨g,0,none⟩) R.n c) R.n (xs.map bv)/\xs.length=R.n * 64/\(∀ x ∈ xs,x < 256)/\g ≠ a/\g ≠ dg/\d < R.C.length:=by
 have hlt:d < R.C.length:=(List.getElem?_eq_some_iff.1 hd).1
 have hl:d < dv.length:=by rw[h.len];exact hlt
 have hv:dv[d]?=some dv[d]:=List.getElem?_eq_getElem hl
 obtain⟨x1,x2⟩:=h.ok.C d xs hd
 rcases h.drv d dv[d] hv with ⟨h1,_⟩ | ⟨ys,h1,h2⟩
 ·rw[hd] at h1;cases h1
 ·rw[hd] at h1
  injection h1 with h1
  injection h1 with h1
  subst h1
  have h2':=h2
  rcases h2.2 with ⟨_,h4⟩ | ⟨g,cap,cur,h3,_,h5,_⟩
  ·have:=h.ok.n1;omega
  ·rw[h3] at hv h2'
   exact⟨g,cap,hv,topCell h.dsk (by rw[List.getElem?_toArray];exact hv),h2',x1,x2,ne_ty h5 h.top (by decide),ne_ty h5 h.dsk (by decide),hlt⟩
section
variable {F:Nat->Prop} {w:World} {a:Nat} {R:AM.Raw}
set_option maxHeartbeats 1600000 in
theorem lay_yes (h:Is F w a R) {d k:Nat} {b:List Nat} {sb so:Nat} (hon:∃ xs,R.C[d]?=some (some xs)) (hk:k < R.n) (hs:Vec w (.slice (some ⟨sb,so,none⟩) 64 64) b) (hb:b.length=64) :
 Calls Tryz.prog 41 #[ptr a,.int .i64 (d:Int),.int .i64 (k:Int),.pointer (some ⟨sb,so,none⟩)] w fun e w'=>e=.returned (.tuple #[])/\Is F w' a (R.lay d k b)/\Step F w F w'/\∃ g c,w.grownBy w' (some g)/\w.heap[g]?=some (.cells c 79 (0,0)):=by
 obtain⟨dg,dv,fp,fc,h⟩:=h
 obtain⟨xs,hon⟩:=hon
 obtain⟨g,c,hdv,cd,hrow,hxl,hxs,ga,gd,hdl⟩:=h.drive hon
 have c0:w.cell? ⟨a,0,none⟩=some (.slice (some ⟨dg,0,none⟩) R.C.length R.C.length):=topCell (j:=0) h.top rfl
 have hN:=h.ok.d2
 have hn2:=h.ok.n2
 have H:Hid (Lies F w a dg dv fp fc R):=h
 have HX:Hid (R.C[d]?=some (some xs)/\dv[d]?=some (.slice (some ⟨g,0,none⟩) R.n c)):=⟨hon,hdv⟩
 have HR:Hid (w.ownsRow 0 79 64 (.slice (some ⟨g,0,none⟩) R.n c) R.n (xs.map bv)):=hrow
 have HS:Hid (Vec w (.slice (some ⟨sb,so,none⟩) 64 64) b):=hs
 have HL:Hid (xs.length=R.n * 64/\∀ x ∈ xs,x < 256):=⟨hxl,hxs⟩
 have HK:Hid (g ≠ a/\g ≠ dg):=⟨ga,gd⟩
 clear h hon hdv hrow hs hxl hxs ga gd
 obtain⟨N,hNe⟩:∃ N,N=R.C.length:=⟨_,rfl⟩
 obtain⟨M,hMe⟩:∃ M,M=R.n:=⟨_,rfl⟩
 have HN:Hid (N=R.C.length/\M=R.n):=⟨hNe,hMe⟩
 rw[<- hNe] at c0 hN hdl
 rw[<- hMe] at cd hk hn2
 rw[<- hMe] at HR
 clear hNe hMe
 have hdi:(d:Int) < (N:Int):=by omega
 have hki:(k:Int) < (M:Int):=by omega
 go_enter Tryz.func41,Tryz.ntmps41
 go_region_held3 (fun w'=>w'.cell? ⟨a,0,none⟩=some (.slice (some ⟨dg,0,none⟩) N N)/\w'.cell? ⟨dg,d,none⟩=some (.slice (some ⟨g,0,none⟩) M c)) (first | exact⟨c0,cd⟩ | exact HC4.out)
  ((refine step_copy_sec (B:=0) (n:=M) (g:=g) (cap:=c) (k:=k) (xs:=xs) (b:=b) (by rfl) _ _ (by rfl) _ (by rfl) (by rfl) HR.out (by have:=HL.out.1;rw[HN.out.2];exact this) hk (HS.out.keep (grown_drewN w 1)) hb ?_;intro w4 h4 g4;have HC4:Hid (w4.cell? ⟨a,0,none⟩=some (.slice (some ⟨dg,0,none⟩) N N)/\w4.cell? ⟨dg,d,none⟩=some (.slice (some ⟨g,0,none⟩) M c)):=⟨g4.cell c0 (fun e=>HK.out.1 (Option.some.inj e).symm),g4.cell cd (fun e=>HK.out.2 (Option.some.inj e).symm)⟩))
 have G4:Hid (w.grownBy w4 (some g)):=grown_trans (grown_any (grown_drewN w 1) _) g4
 have H4:Hid (w4.ownsRow 0 79 64 (.slice (some ⟨g,0,none⟩) M c) M ((AM.put xs k b).map bv)):=h4
 clear h4 g4 HC4
 go_wp2
 go_end0
 obtain⟨rfl,rfl⟩:=HN.out
 have hf:=AM.fits hk
 have hbs:=HS.out.small
 have hC:AM.lay R.C d k b=R.C.set d (some (AM.put xs k b)):=by simp[AM.lay,List.getD,HX.out.1]
 obtain⟨cur,hcur⟩:=H.out.drvBlock HX.out.2 (g:=g) rfl
 exact⟨rfl,(H.out.rowed HX.out.2 rfl G4.out hC (by rw[AM.put_len (by rw[hb,HL.out.1];exact hf)];exact HL.out.1) (AM.put_small HL.out.2 hbs) ⟨xs,HX.out.1⟩ H4.out).is,Step.of G4.out (fun i e=>by obtain rfl:=Option.some.inj e;exact H.out.Fv d _ HX.out.2 g rfl),g,cur,G4.out,hcur⟩
end
section
variable {F:Nat->Prop} {w:World} {a:Nat} {R:AM.Raw}
theorem Lies.cleared {dg:Nat} {dv:List Value} {fp:Option Addr} {fc:Nat} (h:Lies F w a dg dv fp fc R):Lies F (w.setCell ⟨a,2,none⟩ (.slice none 0 0)) a dg dv none 0 { R with L:=[] } :=
 h.flown (fun _ h=>h) h.lt (World.grownBy.refl w _) (L':=[]) (World.ownsRow_nil w 0 81 130) (fun g hg=>by cases hg) (by simp) rfl
theorem fuse_yes (h:Is F w a R) {n:Int} (hn:n < 9223372036854775808):Calls Tryz.prog 18 #[ptr a,.int .i64 n] w fun e w'=>e=.returned (.tuple #[])/\Is F w' a (R.fused n)/\Step F w F w':=by
 have HI:Hid (Is F w a R):=h
 obtain⟨dg,dv,fp,fc,h⟩:=h
 have ht:=h.top
 have c3:w.cell? ⟨a,3,none⟩=some (.int .i64 (R.fuse:Int)):=topCell (j:=3) ht rfl
 have f3:=topFrozen 3 ht
 have HT':(w.setCell ⟨a,3,none⟩ (.int .i64 (n.toNat:Int))).heap[a]?=some (.cells #[.slice (some ⟨dg,0,none⟩) R.C.length R.C.length,.int .i64 (R.n:Int),.slice fp R.L.length fc,.int .i64 (n.toNat:Int),.bool R.off] 76 (0,0)):=by
  rw[heap_setCell_same _ _ _ _ _ _ ht];rfl
 have HR:Hid (Is F (w.setCell ⟨a,3,none⟩ (.int .i64 (n.toNat:Int))) a (R.fused n)):=(h.turn (R':=R.fused n) (grown_set_a w a 3 _) rfl rfl rfl (by show n.toNat < _;omega) HT').is
 have HS:Hid (Step F w F (w.setCell ⟨a,3,none⟩ (.int .i64 (n.toNat:Int)))):=Step.of (grown_set_a w a 3 _) (fun i e=>by obtain rfl:=Option.some.inj e;exact h.Fa)
 clear h ht HT'
 by_cases h0:0<=n
 ·have e:(n.toNat:Int)=n:=by omega
  rw[e] at HR HS
  go_enter Tryz.func18,Tryz.ntmps18
  go_wp2_with (go_at_call 39;refine (made_yes HI.out).mono ?_;rintro e w1 ⟨rfl,hw⟩;obtain rfl:=hw.symm;clear hw)
  go_end0
  exact⟨rfl,HR.out,HS.out⟩
 ·have e:(n.toNat:Int)=0:=by omega
  rw[e] at HR HS
  go_enter Tryz.func18,Tryz.ntmps18
  go_wp2_with (go_at_call 39;refine (made_yes HI.out).mono ?_;rintro e w1 ⟨rfl,hw⟩;obtain rfl:=hw.symm;clear hw)
  go_end0
  exact⟨rfl,HR.out,HS.out⟩
theorem barrier_yes (h:Is F w a R):Calls Tryz.prog 16 #[ptr a] w fun e w'=>e=.returned (.int .i64 (R.barrier.1:Int))/\Is F w' a R.barrier.2/\Step F w F w':=by
 have HI:Hid (Is F w a R):=h
 have hp:=power_yes h
 clear h
 cases hoff:R.off with
 | true =>
   rw[AM.Raw.power,hoff] at hp
   have HP:Hid (Calls Tryz.prog 36 #[ptr a] w fun e w'=>e=.returned (.int .i64 8)/\w'=w):=hp
   have HB:Hid (R.barrier=(8,R)):=by show _=_;simp[AM.Raw.barrier,hoff]
   clear hp hoff
   go_enter Tryz.func16,Tryz.ntmps16
   go_wp2_with (go_at_call 36;refine HP.out.mono ?_;rintro e w1 ⟨rfl,hw⟩;obtain rfl:=hw.symm;clear hw)
   go_ret
   exact⟨by rw[HB.out];rfl,by rw[HB.out];exact HI.out,Step.refl F w⟩
 | false =>
   rw[AM.Raw.power,hoff] at hp
   have HP:Hid (Calls Tryz.prog 36 #[ptr a] w fun e w'=>e=.returned (.int .i64 0)/\w'=w):=hp
   have hb:=burns_yes HI.out hoff
   cases hbu:R.burns with
   | true =>
     rw[hbu] at hb
     have HB:Hid (Calls Tryz.prog 37 #[ptr a] w fun e w'=>e=.returned (.bool true)/\Is F w' a R.burnt/\Step F w F w'):=hb
     have HV:Hid (R.barrier=(8,R.burnt)):=by show _=_;simp[AM.Raw.barrier,hoff,hbu]
     clear hp hoff hb hbu
     go_enter Tryz.func16,Tryz.ntmps16
     go_wp2_with (first
      | (go_at_call 36;refine HP.out.mono ?_;rintro e w1 ⟨rfl,hw⟩;obtain rfl:=hw.symm;clear hw)
      | (go_at_call 37;refine HB.out.mono ?_;rintro e w1 ⟨rfl,hi1,hs1⟩;have HI1:Hid (Is F w1 a R.burnt):=hi1;have HS1:Hid (Step F w F w1):=hs1;clear hi1 hs1))
     go_ret
     exact⟨by rw[HV.out];rfl,by rw[HV.out];exact HI1.out,HS1.out⟩
   | false =>
     rw[hbu] at hb
     have HB:Hid (Calls Tryz.prog 37 #[ptr a] w fun e w'=>e=.returned (.bool false)/\Is F w' a R.burnt/\Step F w F w'):=hb
     have HV:Hid (R.barrier=(0,{ R.burnt with L:=[] })):=by show _=_;simp[AM.Raw.barrier,hoff,hbu]
     clear hp hoff hb hbu
     go_enter Tryz.func16,Tryz.ntmps16
     go_wp2_with (first
      | (go_at_call 36;refine HP.out.mono ?_;rintro e w1 ⟨rfl,hw⟩;obtain rfl:=hw.symm;clear hw)
      | (go_at_call 37;refine HB.out.mono ?_;rintro e w1 ⟨rfl,⟨dg,dv,fp,fc,h1⟩,hs1⟩;have c2:w1.cell? ⟨a,2,none⟩=some (.slice fp R.burnt.L.length fc):=topCell (j:=2) h1.top rfl;have f2:=topFrozen 2 h1.top;have HI1:Hid (Lies F w1 a dg dv fp fc R.burnt):=h1;have HS1:Hid (Step F w F w1):=hs1;clear h1 hs1))
     go_ret
     exact⟨by rw[HV.out];rfl,by rw[HV.out];exact HI1.out.cleared.is,HS1.out.trans (Step.of (grown_set_a w1 a 2 _) (fun i e=>by obtain rfl:=Option.some.inj e;exact HI1.out.Fa))⟩
theorem read_no (h:Is F w a R) {d k:Int} (hr:R.reach d k ≠ 0):Calls Tryz.prog 79 #[ptr a,.int .i64 d,.int .i64 k] w fun e w'=>e=.returned (.tuple #[.slice none 0 0,.int .i64 (R.reach d k:Int)])/\w'=w:=by
 have HC:Hid (Calls Tryz.prog 88 #[ptr a,.int .i64 d,.int .i64 k] w fun e w'=>e=.returned (.int .i64 (R.reach d k:Int))/\w'=w):=reach_yes h d k
 have hne:¬ (R.reach d k:Int)=0:=by omega
 clear h hr
 generalize (R.reach d k:Int)=z at *
 go_enter Tryz.func79,Tryz.ntmps79
 go_wp2_with (go_at_call 88;refine HC.out.mono ?_;rintro e w1 ⟨rfl,hw⟩;obtain rfl:=hw.symm;clear hw)
 go_ret2
 exact⟨rfl,rfl⟩
theorem read_yes (h:Is F w a R) {d k:Nat} (hr:R.reach d k=0):Calls Tryz.prog 79 #[ptr a,.int .i64 (d:Int),.int .i64 (k:Int)] w fun e w'=>∃ p,e=.returned (.tuple #[.slice p 64 64,.int .i64 0])/\Own w.heap.size w' (.slice p 64 64) (AM.look R.C d k)/\w.grownBy w' none:=by
 have HC:Hid (Calls Tryz.prog 88 #[ptr a,.int .i64 (d:Int),.int .i64 (k:Int)] w fun e w'=>e=.returned (.int .i64 0)/\w'=w):=by have:=reach_yes h (d:Int) (k:Int);rw[hr] at this;exact this
 obtain⟨_,_,d2,_,k2,xs,hon⟩:=AM.reach_zero hr
 rw[Int.toNat_natCast] at hon
 have hk:k < R.n:=by omega
 obtain⟨dg,dv,fp,fc,h⟩:=h
 obtain⟨g,c,hdv,cd,hrow,hxl,hxs,ga,gd,hdl⟩:=h.drive hon
 have c0:w.cell? ⟨a,0,none⟩=some (.slice (some ⟨dg,0,none⟩) R.C.length R.C.length):=topCell (j:=0) h.top rfl
 have hN:=h.ok.d2
 have hn2:=h.ok.n2
 have HV:Hid (∀ w',w.grownBy w' none->Vec w' (.slice (some ⟨g,k * 64,none⟩) 64 64) (AM.look R.C d k)):=fun w' gw=>by
  rw[AM.look_at k hon]
  exact (sector_vec hrow hxs hxl hk).keep gw
 have HL:Hid ((AM.look R.C d k).length=64):=by
  show _=_
  rw[AM.look_at k hon]
  have hf:=AM.fits hk
  exact AM.sec_len (by omega)
 clear h hon hdv hrow hxl hxs ga gd hr
 generalize AM.look R.C d k=ys at *
 generalize R.C.length=N at *
 generalize R.n=M at *
 have H0:Hid (w.cell? ⟨a,0,none⟩=some (.slice (some ⟨dg,0,none⟩) N N)/\w.cell? ⟨dg,d,none⟩=some (.slice (some ⟨g,0,none⟩) M c)):=⟨c0,cd⟩
 clear c0 cd
 go_enter Tryz.func79,Tryz.ntmps79
 go_wp2_with (first
  | (go_at_call 88;refine HC.out.mono ?_;rintro e w1 ⟨rfl,hw⟩;obtain rfl:=hw.symm;clear hw)
  | (at_make;refine wpList_make_vec rfl _ _ rfl 64 rfl rfl (by decide) ?_;intro w1 p ou g1;have OU:Hid (Own w.heap.size w1 (.slice p 64 64) (AM.zs 64)):=ou;have G1:Hid (w.grownBy w1 none):=g1;have c0:=g1.cell H0.out.1 (by simp);have cd:=g1.cell H0.out.2 (by simp);clear ou g1)
  | (refine wpList_copy_vec rfl _ _ rfl _ _ rfl rfl OU.out (HV.out _ G1.out) (by rw[AM.zs_len];exact HL.out) ?_;intro w2 o2 g2;have O2:Hid (Own w.heap.size w2 (.slice p 64 64) ys):=o2;have G2:Hid (w.grownBy w2 none):=grown_new G1.out g2 (fun i e=>OU.out.lo i e);clear o2 g2))
 go_ret2
 exact⟨p,rfl,O2.out,G2.out⟩
end
end Go.Proofs.YtlklmhojadlncaaGreat
