/- Contracts of the closures of package vector: what each tells at a place. -/
import Derived.Test.YtlodpffdmlnemaaPlaces
import Derived.Deep.QuietTactic
import Derived.BigQuiet
namespace Go.Proofs.Ytlodpffdmlnemaa
open Go.RowKit

theorem addTo1_any (k bd bs : Nat) (d s : Value) (xs ys : List Nat) (w : World) (hd : w.cell? ⟨bd, 0, none⟩ = some d) (hs : w.cell? ⟨bs, 0, none⟩ = some s)
    (vd : Vec w d xs) (vs : Vec w s ys) (hk : k < xs.length) (hk' : k < ys.length) :
    Calls Try.prog 23 #[.int .i64 (k : Int), .pointer (some ⟨bd, 0, none⟩), .pointer (some ⟨bs, 0, none⟩)] w fun e w' => e = .returned (bv (xs.getD k 0 ^^^ ys.getD k 0)) ∧ ∃ m, w' = w.drewN m := by
  have hl := vd.len
  have hl' := vs.len
  obtain ⟨b, off, cap, rfl, hc, h1⟩ := vd.at hk
  obtain ⟨b', off', cap', rfl, hc', h1'⟩ := vs.at hk'
  clear vd vs
  generalize xs.getD k 0 = x at *
  generalize ys.getD k 0 = y at *
  generalize xs.length = n at *
  generalize ys.length = n' at *
  have i1 : (k : Int) < (n : Int) := by omega
  have i2 : (k : Int) < (n' : Int) := by omega
  have i3 : (0 : Int) ≤ (k : Int) := by omega
  go_enter Try.func23, Try.ntmps23
  go_wp2
  go_quiet ((go_at_call 24; exact Calls.quiet_of_same (add_any _ _ _ (by omega) (by omega) (by omega) (by omega))))
  go_wp2
  go_ret
  exact ⟨by simp [bv], _, rfl⟩

theorem mulAdd1_any (k bd bc bs : Nat) (d s : Value) (c : Nat) (xs ys : List Nat) (w : World) (hd : w.cell? ⟨bd, 0, none⟩ = some d) (hcc : w.cell? ⟨bc, 0, none⟩ = some (.int .u8 (c : Int))) (hs : w.cell? ⟨bs, 0, none⟩ = some s)
    (h256 : c < 256) (vd : Vec w d xs) (vs : Vec w s ys) (hk : k < xs.length) (hk' : k < ys.length) :
    Calls Try.prog 25 #[.int .i64 (k : Int), .pointer (some ⟨bd, 0, none⟩), .pointer (some ⟨bc, 0, none⟩), .pointer (some ⟨bs, 0, none⟩)] w fun e w' => e = .returned (bv (xs.getD k 0 ^^^ M.mul c (ys.getD k 0))) ∧ ∃ m, w' = w.drewN m := by
  have hl := vd.len
  have hl' := vs.len
  obtain ⟨b, off, cap, rfl, hc, h1⟩ := vd.at hk
  obtain ⟨b', off', cap', rfl, hc', h1'⟩ := vs.at hk'
  clear vd vs
  generalize xs.getD k 0 = x at *
  generalize ys.getD k 0 = y at *
  generalize xs.length = n at *
  generalize ys.length = n' at *
  have i1 : (k : Int) < (n : Int) := by omega
  have i2 : (k : Int) < (n' : Int) := by omega
  have i3 : (0 : Int) ≤ (k : Int) := by omega
  have hm : M.mul c y < 256 := M.mul_lt _ h256
  go_enter Try.func25, Try.ntmps25
  go_wp2
  go_quiet ((first | (go_at_call 26; exact Calls.quiet_of_same (mul_any _ _ _ (by omega) (by omega) (by omega) (by omega))) | (go_at_call 24; exact Calls.quiet_of_same (add_any _ _ _ (by omega) (by omega) (by omega) (by omega)))))
  go_wp2
  go_ret
  exact ⟨by simp [bv], _, rfl⟩

theorem scale1_any (k bc bd : Nat) (d : Value) (c : Nat) (xs : List Nat) (w : World) (hcc : w.cell? ⟨bc, 0, none⟩ = some (.int .u8 (c : Int))) (hd : w.cell? ⟨bd, 0, none⟩ = some d)
    (h256 : c < 256) (vd : Vec w d xs) (hk : k < xs.length) :
    Calls Try.prog 28 #[.int .i64 (k : Int), .pointer (some ⟨bc, 0, none⟩), .pointer (some ⟨bd, 0, none⟩)] w fun e w' => e = .returned (bv (M.mul c (xs.getD k 0))) ∧ ∃ m, w' = w.drewN m := by
  have hl := vd.len
  obtain ⟨b, off, cap, rfl, hc, h1⟩ := vd.at hk
  clear vd
  generalize xs.getD k 0 = x at *
  generalize xs.length = n at *
  have i1 : (k : Int) < (n : Int) := by omega
  have i3 : (0 : Int) ≤ (k : Int) := by omega
  go_enter Try.func28, Try.ntmps28
  go_wp2
  go_quiet ((first | (go_at_call 26; exact Calls.quiet_of_same (mul_any _ _ _ (by omega) (by omega) (by omega) (by omega))) | (go_at_call 24; exact Calls.quiet_of_same (add_any _ _ _ (by omega) (by omega) (by omega) (by omega)))))
  go_wp2
  go_ret
  exact ⟨by simp [bv], _, rfl⟩

theorem dot1_any (k bd bs : Nat) (d s : Value) (xs ys : List Nat) (w : World) (hd : w.cell? ⟨bd, 0, none⟩ = some d) (hs : w.cell? ⟨bs, 0, none⟩ = some s)
    (vd : Vec w d xs) (vs : Vec w s ys) (hk : k < xs.length) (hk' : k < ys.length) :
    Calls Try.prog 30 #[.int .i64 (k : Int), .pointer (some ⟨bd, 0, none⟩), .pointer (some ⟨bs, 0, none⟩)] w fun e w' => e = .returned (bv (M.mul (xs.getD k 0) (ys.getD k 0))) ∧ ∃ m, w' = w.drewN m := by
  have hl := vd.len
  have hl' := vs.len
  obtain ⟨b, off, cap, rfl, hc, h1⟩ := vd.at hk
  obtain ⟨b', off', cap', rfl, hc', h1'⟩ := vs.at hk'
  clear vd vs
  generalize xs.getD k 0 = x at *
  generalize ys.getD k 0 = y at *
  generalize xs.length = n at *
  generalize ys.length = n' at *
  have i1 : (k : Int) < (n : Int) := by omega
  have i2 : (k : Int) < (n' : Int) := by omega
  have i3 : (0 : Int) ≤ (k : Int) := by omega
  go_enter Try.func30, Try.ntmps30
  go_wp2
  go_quiet ((first | (go_at_call 26; exact Calls.quiet_of_same (mul_any _ _ _ (by omega) (by omega) (by omega) (by omega))) | (go_at_call 24; exact Calls.quiet_of_same (add_any _ _ _ (by omega) (by omega) (by omega) (by omega)))))
  go_wp2
  go_ret
  exact ⟨by simp [bv], _, rfl⟩

theorem combine11_any (k p bc br bp : Nat) (c r : Value) (cs : List Nat) (vs : List Value) (xss : List (List Nat)) (w : World) (hc0 : w.cell? ⟨bc, 0, none⟩ = some c) (hr0 : w.cell? ⟨br, 0, none⟩ = some r) (hp0 : w.cell? ⟨bp, 0, none⟩ = some (.int .i64 (p : Int)))
    (vc : Vec w c cs) (mr : Mat w r vs xss) (hk : k < cs.length) (hk' : k < xss.length) (hp : p < (xss.getD k []).length) :
    Calls Try.prog 33 #[.int .i64 (k : Int), .pointer (some ⟨bc, 0, none⟩), .pointer (some ⟨br, 0, none⟩), .pointer (some ⟨bp, 0, none⟩)] w fun e w' => e = .returned (bv (M.mul (cs.getD k 0) ((xss.getD k []).getD p 0))) ∧ ∃ m, w' = w.drewN m := by
  have hl := vc.len
  have hl' := mr.row.len
  have hl'' := (mr.vec k hk').len
  obtain ⟨b, off, cap, rfl, hc, h1⟩ := vc.at hk
  obtain ⟨b', off', cap', rfl, hc'⟩ := mr.row.at (k := k) (by rw [mr.same]; exact hk')
  obtain ⟨b2, off2, cap2, e2, hc2, h2⟩ := (mr.vec k hk').at hp
  rw [e2] at hc'
  have hk2 : k < vs.length := by rw [mr.same]; exact hk'
  clear e2 vc mr hk'
  generalize cs.getD k 0 = x at *
  generalize (xss.getD k []).getD p 0 = y at *
  generalize (xss.getD k []).length = n2 at *
  generalize cs.length = n at *
  generalize vs.length = n' at *
  have i1 : (k : Int) < (n : Int) := by omega
  have i2 : (k : Int) < (n' : Int) := by omega
  have i3 : (0 : Int) ≤ (k : Int) := by omega
  have i4 : (p : Int) < (n2 : Int) := by omega
  have i5 : (0 : Int) ≤ (p : Int) := by omega
  go_enter Try.func33, Try.ntmps33
  go_wp2
  go_quiet ((first | (go_at_call 26; exact Calls.quiet_of_same (mul_any _ _ _ (by omega) (by omega) (by omega) (by omega))) | (go_at_call 24; exact Calls.quiet_of_same (add_any _ _ _ (by omega) (by omega) (by omega) (by omega)))))
  go_wp2
  go_ret
  exact ⟨by simp [bv], _, rfl⟩
end Go.Proofs.Ytlodpffdmlnemaa
