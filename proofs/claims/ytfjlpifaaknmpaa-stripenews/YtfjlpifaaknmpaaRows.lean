/-
  No cell of these rows narrows 'for every input' (looked for: loops, veiled, ifaces, maps, wideKeys, modest, calm, conditions, laid).
  DERIVED. THE GIVEN ROWS OF THIS SEAT. 2 by the template 'for every input the law returns true; each argument reads behind the call as it read before'; 0 by the template 'total and deterministic' (their statements: YtfjlpifaaknmpaaTotals.lean).
  GIVEN WITH THE SEED: the statements are not yours to turn. If you find one false, say at which input.
  Laid BY PROGRAM, IN A SANDBOX (cutbox-rows.mjs): the forced cells as the released guide's own fill.sh prints them over the translation 59c154eb88944186… (all of the seat's roots in one cut). By AI agents, Wed Nov 11 2026. No macro, syntax, notation, axiom, sorry.
-/
import Derived.Test.YtfjlpifaaknmpaaChecked
import GoSem.Claim
import GoSem.ClaimJoined
import GoSem.ClaimMapViews
import Derived.JoinedTies
import Derived.KernelRfl
namespace Go.Proofs.Ytfjlpifaaknmpaa
/- THE CELL 'sum', in the pinned program and in every row, IS THE sha256 OF THE DUMP (.gsa) THAT YtfjlpifaaknmpaaProg.lean LOADS. Nothing in Lean hashes anything: it is a label: what it is worth is what the hold of that sum in a sandbox is worth. -/
noncomputable def Try.pinned : Pinned := { name := "ytfjlpifaaknmpaa", sum := "59c154eb889441868fbf1aebd13e7d5f7d3b5db8d204a8c702354bcde5f107e4", checked := Try.checked }
namespace Rows
def none {H : Type} : Left H := { results := [], args := [] }

/-- 'hayricklaw08.StripeNews': WHATEVER THE INPUT: true; the input reads as it did. -/
def stripeNewsSpec : ChangeSpec := { name := "stripeNews", fn := fun _ => fun
  | [d] => { results := [.lit (.bool true)], args := [d] }
  | _ => none }
def stripeNewsRow : OpenClaim := { program := "ytfjlpifaaknmpaa", sum := "59c154eb889441868fbf1aebd13e7d5f7d3b5db8d204a8c702354bcde5f107e4", func := "hayrick/hayricklaw08.StripeNews", spec := "stripeNews", unfollowed := true, recurses := true, apart := false }
def StripeNewsSaid : Prop := stripeNewsRow.holds Try.pinned (OpenSpec.ofChange stripeNewsSpec)

/-- ITS FALSE NEIGHBOUR: 'it returns false'. Refute it at one input. -/
def stripeNewsWrong : ChangeSpec := { name := "stripeNews", fn := fun _ => fun
  | [d] => { results := [.lit (.bool false)], args := [d] }
  | _ => none }
def StripeNewsWrongFalsely : Prop := stripeNewsRow.holds Try.pinned (OpenSpec.ofChange stripeNewsWrong)

/-- 'hayricklaw08.StripeTorn': WHATEVER THE INPUT: true; the input reads as it did. -/
def stripeTornSpec : ChangeSpec := { name := "stripeTorn", fn := fun _ => fun
  | [d] => { results := [.lit (.bool true)], args := [d] }
  | _ => none }
def stripeTornRow : OpenClaim := { program := "ytfjlpifaaknmpaa", sum := "59c154eb889441868fbf1aebd13e7d5f7d3b5db8d204a8c702354bcde5f107e4", func := "hayrick/hayricklaw08.StripeTorn", spec := "stripeTorn", unfollowed := true, recurses := true, apart := false }
def StripeTornSaid : Prop := stripeTornRow.holds Try.pinned (OpenSpec.ofChange stripeTornSpec)

/-- ITS FALSE NEIGHBOUR: 'it returns false'. Refute it at one input. -/
def stripeTornWrong : ChangeSpec := { name := "stripeTorn", fn := fun _ => fun
  | [d] => { results := [.lit (.bool false)], args := [d] }
  | _ => none }
def StripeTornWrongFalsely : Prop := stripeTornRow.holds Try.pinned (OpenSpec.ofChange stripeTornWrong)

/- THE SECOND FORM. 'bulk': how many values and letters a reading holds, each counted each time it is reached (what is shared counts as often as it is met; a slice's spare places count too). A statement '..UptoSaid' is the law's where the arguments, and the package variables that the reading takes, are together of bulk at most 1048576: NARROWER than '..Said'. Prove '..Said' where nothing that the law and all that it calls make is longer than what came in: it says more and counts as full. Else prove '..UptoSaid'. A law counts once. -/
mutual
def uptoBulk {H : Type} : DataW H → Nat
  | .lit (.string bytes) => bytes.length + 1
  | .lit _ => 1
  | .nil => 1
  | .ptr d => uptoBulk d + 1
  | .slice elems spare => uptoBulkAll elems + uptoBulkAll spare + 1
  | .agg parts => uptoBulkAll parts + 1
  | .iface _ d => uptoBulk d + 1
  | .map entries => uptoBulkEntries entries + 1
  | .held _ => 1
def uptoBulkAll {H : Type} : List (DataW H) → Nat
  | [] => 0
  | d :: r => uptoBulk d + uptoBulkAll r
def uptoBulkEntries {H : Type} : List (Lit × DataW H) → Nat
  | [] => 0
  | x :: r => uptoBulkEntry x + uptoBulkEntries r
def uptoBulkEntry {H : Type} : Lit × DataW H → Nat
  | (.string bytes, d) => bytes.length + uptoBulk d + 1
  | (_, d) => uptoBulk d + 1
 end
def uptoSmall : (H : Type) → List (DataW H) → Bool := fun _ ds => decide (uptoBulkAll ds ≤ 1048576)
def OpenSpec.upto (s : _root_.Go.ChangeSpec) : _root_.Go.OpenSpec := { _root_.Go.OpenSpec.ofChange s with cond := some uptoSmall }

/-- 'hayricklaw08.StripeNews', WHERE WHAT IT READS IS OF BULK AT MOST 1048576: true; the input reads as it did. -/
def stripeNewsUptoRow : OpenClaim := { program := "ytfjlpifaaknmpaa", sum := "59c154eb889441868fbf1aebd13e7d5f7d3b5db8d204a8c702354bcde5f107e4", func := "hayrick/hayricklaw08.StripeNews", spec := "stripeNews", unfollowed := true, recurses := true, apart := false, narrowed := true }
def StripeNewsUptoSaid : Prop := stripeNewsUptoRow.holds Try.pinned (OpenSpec.upto stripeNewsSpec)

/-- 'hayricklaw08.StripeTorn', WHERE WHAT IT READS IS OF BULK AT MOST 1048576: true; the input reads as it did. -/
def stripeTornUptoRow : OpenClaim := { program := "ytfjlpifaaknmpaa", sum := "59c154eb889441868fbf1aebd13e7d5f7d3b5db8d204a8c702354bcde5f107e4", func := "hayrick/hayricklaw08.StripeTorn", spec := "stripeTorn", unfollowed := true, recurses := true, apart := false, narrowed := true }
def StripeTornUptoSaid : Prop := stripeTornUptoRow.holds Try.pinned (OpenSpec.upto stripeTornSpec)

end Rows
end Go.Proofs.Ytfjlpifaaknmpaa
