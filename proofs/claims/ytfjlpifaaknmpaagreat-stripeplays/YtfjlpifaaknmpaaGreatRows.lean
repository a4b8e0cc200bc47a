/-
  No cell of these rows narrows 'for every input' (looked for: loops, veiled, ifaces, maps, wideKeys, modest, calm, conditions, laid).
  DERIVED. THE GIVEN ROWS OF THIS SEAT. 3 by the template 'for every input the law returns true; each argument reads behind the call as it read before'; 0 by the template 'total and deterministic' (their statements: YtfjlpifaaknmpaaGreatTotals.lean).
  GIVEN WITH THE SEED: the statements are not yours to turn. If you find one false, say at which input.
  Laid BY PROGRAM, IN A SANDBOX (cutbox-rows.mjs): the forced cells as the released guide's own fill.sh prints them over the translation 9a65dd7f13c446ea… (all of the seat's roots in one cut). By AI agents, Wed Nov 11 2026. No macro, syntax, notation, axiom, sorry.
-/
import Derived.Test.YtfjlpifaaknmpaaGreatChecked
import GoSem.Claim
import GoSem.ClaimJoined
import GoSem.ClaimMapViews
import Derived.JoinedTies
import Derived.KernelRfl
namespace Go.Proofs.YtfjlpifaaknmpaaGreat
/- THE CELL 'sum', in the pinned program and in every row, IS THE sha256 OF THE DUMP (.gsa) THAT YtfjlpifaaknmpaaGreatProg.lean LOADS. Nothing in Lean hashes anything: it is a label: what it is worth is what the hold of that sum in a sandbox is worth. -/
noncomputable def Tryz.pinned : Pinned := { name := "ytfjlpifaaknmpaagreat", sum := "9a65dd7f13c446ea53f9b76adcc4f2c79ec2349e3ba458ddff5a468c7cf22090", checked := Tryz.checked }
namespace Rows
def none {H : Type} : Left H := { results := [], args := [] }

/-- 'hayricklaw08.StripePlays': WHATEVER THE INPUT: true; the input reads as it did. -/
def stripePlaysSpec : ChangeSpec := { name := "stripePlays", fn := fun _ => fun
  | [d] => { results := [.lit (.bool true)], args := [d] }
  | _ => none }
def stripePlaysRow : OpenClaim := { program := "ytfjlpifaaknmpaagreat", sum := "9a65dd7f13c446ea53f9b76adcc4f2c79ec2349e3ba458ddff5a468c7cf22090", func := "hayrick/hayricklaw08.StripePlays", spec := "stripePlays", inPlace := ["internal/bytealg.MakeNoZero"], unfollowed := true, recurses := true, apart := false }
def StripePlaysSaid : Prop := stripePlaysRow.holds Tryz.pinned (OpenSpec.ofChange stripePlaysSpec)

/-- ITS FALSE NEIGHBOUR: 'it returns false'. Refute it at one input. -/
def stripePlaysWrong : ChangeSpec := { name := "stripePlays", fn := fun _ => fun
  | [d] => { results := [.lit (.bool false)], args := [d] }
  | _ => none }
def StripePlaysWrongFalsely : Prop := stripePlaysRow.holds Tryz.pinned (OpenSpec.ofChange stripePlaysWrong)

/-- 'hayricklaw08.StripeAny': WHATEVER THE INPUT: true; the input reads as it did. -/
def stripeAnySpec : ChangeSpec := { name := "stripeAny", fn := fun _ => fun
  | [d] => { results := [.lit (.bool true)], args := [d] }
  | _ => none }
def stripeAnyRow : OpenClaim := { program := "ytfjlpifaaknmpaagreat", sum := "9a65dd7f13c446ea53f9b76adcc4f2c79ec2349e3ba458ddff5a468c7cf22090", func := "hayrick/hayricklaw08.StripeAny", spec := "stripeAny", unfollowed := true, recurses := true, apart := false }
def StripeAnySaid : Prop := stripeAnyRow.holds Tryz.pinned (OpenSpec.ofChange stripeAnySpec)

/-- ITS FALSE NEIGHBOUR: 'it returns false'. Refute it at one input. -/
def stripeAnyWrong : ChangeSpec := { name := "stripeAny", fn := fun _ => fun
  | [d] => { results := [.lit (.bool false)], args := [d] }
  | _ => none }
def StripeAnyWrongFalsely : Prop := stripeAnyRow.holds Tryz.pinned (OpenSpec.ofChange stripeAnyWrong)

/-- 'hayricklaw08.StripeKnown': WHATEVER THE INPUT: true; the input reads as it did. -/
def stripeKnownSpec : ChangeSpec := { name := "stripeKnown", fn := fun _ => fun
  | [] => { results := [.lit (.bool true)], args := [] }
  | _ => none }
def stripeKnownRow : OpenClaim := { program := "ytfjlpifaaknmpaagreat", sum := "9a65dd7f13c446ea53f9b76adcc4f2c79ec2349e3ba458ddff5a468c7cf22090", func := "hayrick/hayricklaw08.StripeKnown", spec := "stripeKnown", unfollowed := true, recurses := true, apart := false }
def StripeKnownSaid : Prop := stripeKnownRow.holds Tryz.pinned (OpenSpec.ofChange stripeKnownSpec)

/-- ITS FALSE NEIGHBOUR: 'it returns false'. Refute it at one input. -/
def stripeKnownWrong : ChangeSpec := { name := "stripeKnown", fn := fun _ => fun
  | [] => { results := [.lit (.bool false)], args := [] }
  | _ => none }
def StripeKnownWrongFalsely : Prop := stripeKnownRow.holds Tryz.pinned (OpenSpec.ofChange stripeKnownWrong)

/- THE SECOND FORM. 'bulk': how many values and letters a reading holds, each counted each time it is reached (what is shared counts as often as it is met; a slice's spare places count too). A statement '..UptoSaid' is the law's where the arguments, and the package variables that the reading takes, are together of bulk at most 1048576: NARROWER than '..Said'. Prove '..Said' where nothing that the law and all that it calls make is longer than what came in: it says more and counts as full. Else prove '..UptoSaid'. A law counts once. -/
mutual
def uptoBulk {H : Type} : DataW H → Nat
  | .lit (.string bytes) => bytes.length + 1
  | .lit _ => 1
  | .nil => 1
  | .ptr d => uptoBulk d + 1
  | .slice elems spare => uptoBulkAll elems + uptoBulkAll spare + 1
  | .agg parts => uptoBulkAll parts + 1
  | .iface _ d => uptoBulk d + 1
  | .map entries => uptoBulkEntries entries + 1
  | .held _ => 1
def uptoBulkAll {H : Type} : List (DataW H) → Nat
  | [] => 0
  | d :: r => uptoBulk d + uptoBulkAll r
def uptoBulkEntries {H : Type} : List (Lit × DataW H) → Nat
  | [] => 0
  | x :: r => uptoBulkEntry x + uptoBulkEntries r
def uptoBulkEntry {H : Type} : Lit × DataW H → Nat
  | (.string bytes, d) => bytes.length + uptoBulk d + 1
  | (_, d) => uptoBulk d + 1
 end
def uptoSmall : (H : Type) → List (DataW H) → Bool := fun _ ds => decide (uptoBulkAll ds ≤ 1048576)
def OpenSpec.upto (s : _root_.Go.ChangeSpec) : _root_.Go.OpenSpec := { _root_.Go.OpenSpec.ofChange s with cond := some uptoSmall }

/-- 'hayricklaw08.StripePlays', WHERE WHAT IT READS IS OF BULK AT MOST 1048576: true; the input reads as it did. -/
def stripePlaysUptoRow : OpenClaim := { program := "ytfjlpifaaknmpaagreat", sum := "9a65dd7f13c446ea53f9b76adcc4f2c79ec2349e3ba458ddff5a468c7cf22090", func := "hayrick/hayricklaw08.StripePlays", spec := "stripePlays", inPlace := ["internal/bytealg.MakeNoZero"], unfollowed := true, recurses := true, apart := false, narrowed := true }
def StripePlaysUptoSaid : Prop := stripePlaysUptoRow.holds Tryz.pinned (OpenSpec.upto stripePlaysSpec)

/-- 'hayricklaw08.StripeAny', WHERE WHAT IT READS IS OF BULK AT MOST 1048576: true; the input reads as it did. -/
def stripeAnyUptoRow : OpenClaim := { program := "ytfjlpifaaknmpaagreat", sum := "9a65dd7f13c446ea53f9b76adcc4f2c79ec2349e3ba458ddff5a468c7cf22090", func := "hayrick/hayricklaw08.StripeAny", spec := "stripeAny", unfollowed := true, recurses := true, apart := false, narrowed := true }
def StripeAnyUptoSaid : Prop := stripeAnyUptoRow.holds Tryz.pinned (OpenSpec.upto stripeAnySpec)

/-- 'hayricklaw08.StripeKnown', WHERE WHAT IT READS IS OF BULK AT MOST 1048576: true; the input reads as it did. -/
def stripeKnownUptoRow : OpenClaim := { program := "ytfjlpifaaknmpaagreat", sum := "9a65dd7f13c446ea53f9b76adcc4f2c79ec2349e3ba458ddff5a468c7cf22090", func := "hayrick/hayricklaw08.StripeKnown", spec := "stripeKnown", unfollowed := true, recurses := true, apart := false, narrowed := true }
def StripeKnownUptoSaid : Prop := stripeKnownUptoRow.holds Tryz.pinned (OpenSpec.upto stripeKnownSpec)

end Rows
end Go.Proofs.YtfjlpifaaknmpaaGreat
