/-
  No cell of these rows narrows 'for every input' (looked for: loops, veiled, ifaces, maps, wideKeys, modest, calm, conditions, laid).
  DERIVED. THE GIVEN ROWS OF THIS SEAT. 4 by the template 'for every input the law returns true; each argument reads behind the call as it read before'; 0 by the template 'total and deterministic' (their statements: YtaalagkbpeinkaaGreatTotals.lean).
  GIVEN WITH THE SEED: the statements are not yours to turn. If you find one false, say at which input.
  Laid BY PROGRAM, IN A SANDBOX (cutbox-rows.mjs): the forced cells as the released guide's own fill.sh prints them over the translation 5074c17be6fee166… (all of the seat's roots in one cut). By AI agents, Wed Nov 11 2026. No macro, syntax, notation, axiom, sorry.
-/
import Derived.Test.YtaalagkbpeinkaaGreatChecked
import GoSem.Claim
import GoSem.ClaimJoined
import GoSem.ClaimMapViews
import Derived.JoinedTies
import Derived.KernelRfl
namespace Go.Proofs.YtaalagkbpeinkaaGreat
/- THE CELL 'sum', in the pinned program and in every row, IS THE sha256 OF THE DUMP (.gsa) THAT YtaalagkbpeinkaaGreatProg.lean LOADS. Nothing in Lean hashes anything: it is a label: what it is worth is what the hold of that sum in a sandbox is worth. -/
noncomputable def Tryz.pinned : Pinned := { name := "ytaalagkbpeinkaagreat", sum := "5074c17be6fee16644d70d35285de9153ada584d07654c28de7543116015a777", checked := Tryz.checked }
namespace Rows
def none {H : Type} : Left H := { results := [], args := [] }

/-- 'hayricklaw09.MendPlays': WHATEVER THE INPUT: true; the input reads as it did. -/
def mendPlaysSpec : ChangeSpec := { name := "mendPlays", fn := fun _ => fun
  | [d1, d2, d3, d4] => { results := [.lit (.bool true)], args := [d1, d2, d3, d4] }
  | _ => none }
def mendPlaysRow : OpenClaim := { program := "ytaalagkbpeinkaagreat", sum := "5074c17be6fee16644d70d35285de9153ada584d07654c28de7543116015a777", func := "hayrick/hayricklaw09.MendPlays", spec := "mendPlays", unfollowed := true, recurses := true, apart := false }
def MendPlaysSaid : Prop := mendPlaysRow.holds Tryz.pinned (OpenSpec.ofChange mendPlaysSpec)

/-- ITS FALSE NEIGHBOUR: 'it returns false'. Refute it at one input. -/
def mendPlaysWrong : ChangeSpec := { name := "mendPlays", fn := fun _ => fun
  | [d1, d2, d3, d4] => { results := [.lit (.bool false)], args := [d1, d2, d3, d4] }
  | _ => none }
def MendPlaysWrongFalsely : Prop := mendPlaysRow.holds Tryz.pinned (OpenSpec.ofChange mendPlaysWrong)

/-- 'hayricklaw09.MendWhole': WHATEVER THE INPUT: true; the input reads as it did. -/
def mendWholeSpec : ChangeSpec := { name := "mendWhole", fn := fun _ => fun
  | [d] => { results := [.lit (.bool true)], args := [d] }
  | _ => none }
def mendWholeRow : OpenClaim := { program := "ytaalagkbpeinkaagreat", sum := "5074c17be6fee16644d70d35285de9153ada584d07654c28de7543116015a777", func := "hayrick/hayricklaw09.MendWhole", spec := "mendWhole", unfollowed := true, recurses := true, apart := false }
def MendWholeSaid : Prop := mendWholeRow.holds Tryz.pinned (OpenSpec.ofChange mendWholeSpec)

/-- ITS FALSE NEIGHBOUR: 'it returns false'. Refute it at one input. -/
def mendWholeWrong : ChangeSpec := { name := "mendWhole", fn := fun _ => fun
  | [d] => { results := [.lit (.bool false)], args := [d] }
  | _ => none }
def MendWholeWrongFalsely : Prop := mendWholeRow.holds Tryz.pinned (OpenSpec.ofChange mendWholeWrong)

/-- 'hayricklaw09.MendTorn': WHATEVER THE INPUT: true; the input reads as it did. -/
def mendTornSpec : ChangeSpec := { name := "mendTorn", fn := fun _ => fun
  | [d] => { results := [.lit (.bool true)], args := [d] }
  | _ => none }
def mendTornRow : OpenClaim := { program := "ytaalagkbpeinkaagreat", sum := "5074c17be6fee16644d70d35285de9153ada584d07654c28de7543116015a777", func := "hayrick/hayricklaw09.MendTorn", spec := "mendTorn", unfollowed := true, recurses := true, apart := false }
def MendTornSaid : Prop := mendTornRow.holds Tryz.pinned (OpenSpec.ofChange mendTornSpec)

/-- ITS FALSE NEIGHBOUR: 'it returns false'. Refute it at one input. -/
def mendTornWrong : ChangeSpec := { name := "mendTorn", fn := fun _ => fun
  | [d] => { results := [.lit (.bool false)], args := [d] }
  | _ => none }
def MendTornWrongFalsely : Prop := mendTornRow.holds Tryz.pinned (OpenSpec.ofChange mendTornWrong)

/-- 'hayricklaw09.MendKnown': WHATEVER THE INPUT: true; the input reads as it did. -/
def mendKnownSpec : ChangeSpec := { name := "mendKnown", fn := fun _ => fun
  | [] => { results := [.lit (.bool true)], args := [] }
  | _ => none }
def mendKnownRow : OpenClaim := { program := "ytaalagkbpeinkaagreat", sum := "5074c17be6fee16644d70d35285de9153ada584d07654c28de7543116015a777", func := "hayrick/hayricklaw09.MendKnown", spec := "mendKnown", unfollowed := true, recurses := true, apart := false }
def MendKnownSaid : Prop := mendKnownRow.holds Tryz.pinned (OpenSpec.ofChange mendKnownSpec)

/-- ITS FALSE NEIGHBOUR: 'it returns false'. Refute it at one input. -/
def mendKnownWrong : ChangeSpec := { name := "mendKnown", fn := fun _ => fun
  | [] => { results := [.lit (.bool false)], args := [] }
  | _ => none }
def MendKnownWrongFalsely : Prop := mendKnownRow.holds Tryz.pinned (OpenSpec.ofChange mendKnownWrong)

/- THE SECOND FORM. 'bulk': how many values and letters a reading holds, each counted each time it is reached (what is shared counts as often as it is met; a slice's spare places count too). A statement '..UptoSaid' is the law's where the arguments, and the package variables that the reading takes, are together of bulk at most 1048576: NARROWER than '..Said'. Prove '..Said' where nothing that the law and all that it calls make is longer than what came in: it says more and counts as full. Else prove '..UptoSaid'. A law counts once. -/
mutual
def uptoBulk {H : Type} : DataW H → Nat
  | .lit (.string bytes) => bytes.length + 1
  | .lit _ => 1
  | .nil => 1
  | .ptr d => uptoBulk d + 1
  | .slice elems spare => uptoBulkAll elems + uptoBulkAll spare + 1
  | .agg parts => uptoBulkAll parts + 1
  | .iface _ d => uptoBulk d + 1
  | .map entries => uptoBulkEntries entries + 1
  | .held _ => 1
def uptoBulkAll {H : Type} : List (DataW H) → Nat
  | [] => 0
  | d :: r => uptoBulk d + uptoBulkAll r
def uptoBulkEntries {H : Type} : List (Lit × DataW H) → Nat
  | [] => 0
  | x :: r => uptoBulkEntry x + uptoBulkEntries r
def uptoBulkEntry {H : Type} : Lit × DataW H → Nat
  | (.string bytes, d) => bytes.length + uptoBulk d + 1
  | (_, d) => uptoBulk d + 1
 end
def uptoSmall : (H : Type) → List (DataW H) → Bool := fun _ ds => decide (uptoBulkAll ds ≤ 1048576)
def OpenSpec.upto (s : _root_.Go.ChangeSpec) : _root_.Go.OpenSpec := { _root_.Go.OpenSpec.ofChange s with cond := some uptoSmall }

/-- 'hayricklaw09.MendPlays', WHERE WHAT IT READS IS OF BULK AT MOST 1048576: true; the input reads as it did. -/
def mendPlaysUptoRow : OpenClaim := { program := "ytaalagkbpeinkaagreat", sum := "5074c17be6fee16644d70d35285de9153ada584d07654c28de7543116015a777", func := "hayrick/hayricklaw09.MendPlays", spec := "mendPlays", unfollowed := true, recurses := true, apart := false, narrowed := true }
def MendPlaysUptoSaid : Prop := mendPlaysUptoRow.holds Tryz.pinned (OpenSpec.upto mendPlaysSpec)

/-- 'hayricklaw09.MendWhole', WHERE WHAT IT READS IS OF BULK AT MOST 1048576: true; the input reads as it did. -/
def mendWholeUptoRow : OpenClaim := { program := "ytaalagkbpeinkaagreat", sum := "5074c17be6fee16644d70d35285de9153ada584d07654c28de7543116015a777", func := "hayrick/hayricklaw09.MendWhole", spec := "mendWhole", unfollowed := true, recurses := true, apart := false, narrowed := true }
def MendWholeUptoSaid : Prop := mendWholeUptoRow.holds Tryz.pinned (OpenSpec.upto mendWholeSpec)

/-- 'hayricklaw09.MendTorn', WHERE WHAT IT READS IS OF BULK AT MOST 1048576: true; the input reads as it did. -/
def mendTornUptoRow : OpenClaim := { program := "ytaalagkbpeinkaagreat", sum := "5074c17be6fee16644d70d35285de9153ada584d07654c28de7543116015a777", func := "hayrick/hayricklaw09.MendTorn", spec := "mendTorn", unfollowed := true, recurses := true, apart := false, narrowed := true }
def MendTornUptoSaid : Prop := mendTornUptoRow.holds Tryz.pinned (OpenSpec.upto mendTornSpec)

/-- 'hayricklaw09.MendKnown', WHERE WHAT IT READS IS OF BULK AT MOST 1048576: true; the input reads as it did. -/
def mendKnownUptoRow : OpenClaim := { program := "ytaalagkbpeinkaagreat", sum := "5074c17be6fee16644d70d35285de9153ada584d07654c28de7543116015a777", func := "hayrick/hayricklaw09.MendKnown", spec := "mendKnown", unfollowed := true, recurses := true, apart := false, narrowed := true }
def MendKnownUptoSaid : Prop := mendKnownUptoRow.holds Tryz.pinned (OpenSpec.upto mendKnownSpec)

end Rows
end Go.Proofs.YtaalagkbpeinkaaGreat
