/-
  No cell of these rows narrows 'for every input' (looked for: loops, veiled, ifaces, maps, wideKeys, modest, calm, conditions, laid).
  DERIVED. THE GIVEN ROWS OF THIS SEAT. 6 by the template 'for every input the law returns true; each argument reads behind the call as it read before'; 0 by the template 'total and deterministic' (their statements: YtghchejehlljkaaTotals.lean).
  GIVEN WITH THE SEED: the statements are not yours to turn. If you find one false, say at which input.
  Laid BY PROGRAM, IN A SANDBOX (cutbox-rows.mjs): the forced cells as the released guide's own fill.sh prints them over the translation 78527149312a8df5… (all of the seat's roots in one cut). By AI agents, Wed Nov 11 2026. No macro, syntax, notation, axiom, sorry.
-/
import Derived.Test.YtghchejehlljkaaChecked
import GoSem.Claim
import GoSem.ClaimJoined
import GoSem.ClaimMapViews
import Derived.JoinedTies
import Derived.KernelRfl
namespace Go.Proofs.Ytghchejehlljkaa
/- THE CELL 'sum', in the pinned program and in every row, IS THE sha256 OF THE DUMP (.gsa) THAT YtghchejehlljkaaProg.lean LOADS. Nothing in Lean hashes anything: it is a label: what it is worth is what the hold of that sum in a sandbox is worth. -/
noncomputable def Try.pinned : Pinned := { name := "ytghchejehlljkaa", sum := "78527149312a8df584c0becd1515ea1e4e5442f84743e9537ce31a2259c75f3d", checked := Try.checked }
namespace Rows
def none {H : Type} : Left H := { results := [], args := [] }

/-- 'trivetlaw05.CircleNames': WHATEVER THE INPUT: true; the input reads as it did. -/
def circleNamesSpec : ChangeSpec := { name := "circleNames", fn := fun _ => fun
  | [] => { results := [.lit (.bool true)], args := [] }
  | _ => none }
def circleNamesRow : OpenClaim := { program := "ytghchejehlljkaa", sum := "78527149312a8df584c0becd1515ea1e4e5442f84743e9537ce31a2259c75f3d", func := "trivet/trivetlaw05.CircleNames", spec := "circleNames", inPlace := ["math.Float64bits", "math.Float64frombits", "math.archTrunc"], unfollowed := true, recurses := true, apart := false }
def CircleNamesSaid : Prop := circleNamesRow.holds Try.pinned (OpenSpec.ofChange circleNamesSpec)

/-- ITS FALSE NEIGHBOUR: 'it returns false'. Refute it at one input. -/
def circleNamesWrong : ChangeSpec := { name := "circleNames", fn := fun _ => fun
  | [] => { results := [.lit (.bool false)], args := [] }
  | _ => none }
def CircleNamesWrongFalsely : Prop := circleNamesRow.holds Try.pinned (OpenSpec.ofChange circleNamesWrong)

/-- 'trivetlaw05.CircleSign': WHATEVER THE INPUT: true; the input reads as it did. -/
def circleSignSpec : ChangeSpec := { name := "circleSign", fn := fun _ => fun
  | [d1, d2, d3, d4] => { results := [.lit (.bool true)], args := [d1, d2, d3, d4] }
  | _ => none }
def circleSignRow : OpenClaim := { program := "ytghchejehlljkaa", sum := "78527149312a8df584c0becd1515ea1e4e5442f84743e9537ce31a2259c75f3d", func := "trivet/trivetlaw05.CircleSign", spec := "circleSign", inPlace := ["math.Float64bits", "math.Float64frombits", "math.archTrunc"], unfollowed := true, recurses := true, apart := false }
def CircleSignSaid : Prop := circleSignRow.holds Try.pinned (OpenSpec.ofChange circleSignSpec)

/-- ITS FALSE NEIGHBOUR: 'it returns false'. Refute it at one input. -/
def circleSignWrong : ChangeSpec := { name := "circleSign", fn := fun _ => fun
  | [d1, d2, d3, d4] => { results := [.lit (.bool false)], args := [d1, d2, d3, d4] }
  | _ => none }
def CircleSignWrongFalsely : Prop := circleSignRow.holds Try.pinned (OpenSpec.ofChange circleSignWrong)

/-- 'trivetlaw05.CircleKnows': WHATEVER THE INPUT: true; the input reads as it did. -/
def circleKnowsSpec : ChangeSpec := { name := "circleKnows", fn := fun _ => fun
  | [d] => { results := [.lit (.bool true)], args := [d] }
  | _ => none }
def circleKnowsRow : OpenClaim := { program := "ytghchejehlljkaa", sum := "78527149312a8df584c0becd1515ea1e4e5442f84743e9537ce31a2259c75f3d", func := "trivet/trivetlaw05.CircleKnows", spec := "circleKnows", inPlace := ["math.Float64bits", "math.Float64frombits", "math.archTrunc"], recurses := true, apart := false }
def CircleKnowsSaid : Prop := circleKnowsRow.holds Try.pinned (OpenSpec.ofChange circleKnowsSpec)

/-- ITS FALSE NEIGHBOUR: 'it returns false'. Refute it at one input. -/
def circleKnowsWrong : ChangeSpec := { name := "circleKnows", fn := fun _ => fun
  | [d] => { results := [.lit (.bool false)], args := [d] }
  | _ => none }
def CircleKnowsWrongFalsely : Prop := circleKnowsRow.holds Try.pinned (OpenSpec.ofChange circleKnowsWrong)

/-- 'trivetlaw05.CircleTurns': WHATEVER THE INPUT: true; the input reads as it did. -/
def circleTurnsSpec : ChangeSpec := { name := "circleTurns", fn := fun _ => fun
  | [d1, d2, d3, d4] => { results := [.lit (.bool true)], args := [d1, d2, d3, d4] }
  | _ => none }
def circleTurnsRow : OpenClaim := { program := "ytghchejehlljkaa", sum := "78527149312a8df584c0becd1515ea1e4e5442f84743e9537ce31a2259c75f3d", func := "trivet/trivetlaw05.CircleTurns", spec := "circleTurns", inPlace := ["math.Float64bits", "math.Float64frombits", "math.archTrunc"], unfollowed := true, recurses := true, apart := false }
def CircleTurnsSaid : Prop := circleTurnsRow.holds Try.pinned (OpenSpec.ofChange circleTurnsSpec)

/-- ITS FALSE NEIGHBOUR: 'it returns false'. Refute it at one input. -/
def circleTurnsWrong : ChangeSpec := { name := "circleTurns", fn := fun _ => fun
  | [d1, d2, d3, d4] => { results := [.lit (.bool false)], args := [d1, d2, d3, d4] }
  | _ => none }
def CircleTurnsWrongFalsely : Prop := circleTurnsRow.holds Try.pinned (OpenSpec.ofChange circleTurnsWrong)

/-- 'trivetlaw05.CircleOne': WHATEVER THE INPUT: true; the input reads as it did. -/
def circleOneSpec : ChangeSpec := { name := "circleOne", fn := fun _ => fun
  | [d1, d2, d3, d4] => { results := [.lit (.bool true)], args := [d1, d2, d3, d4] }
  | _ => none }
def circleOneRow : OpenClaim := { program := "ytghchejehlljkaa", sum := "78527149312a8df584c0becd1515ea1e4e5442f84743e9537ce31a2259c75f3d", func := "trivet/trivetlaw05.CircleOne", spec := "circleOne", inPlace := ["math.Float64bits", "math.Float64frombits", "math.archTrunc"], unfollowed := true, recurses := true, apart := false }
def CircleOneSaid : Prop := circleOneRow.holds Try.pinned (OpenSpec.ofChange circleOneSpec)

/-- ITS FALSE NEIGHBOUR: 'it returns false'. Refute it at one input. -/
def circleOneWrong : ChangeSpec := { name := "circleOne", fn := fun _ => fun
  | [d1, d2, d3, d4] => { results := [.lit (.bool false)], args := [d1, d2, d3, d4] }
  | _ => none }
def CircleOneWrongFalsely : Prop := circleOneRow.holds Try.pinned (OpenSpec.ofChange circleOneWrong)

/-- 'trivetlaw05.CircleMoved': WHATEVER THE INPUT: true; the input reads as it did. -/
def circleMovedSpec : ChangeSpec := { name := "circleMoved", fn := fun _ => fun
  | [d1, d2, d3, d4, d5] => { results := [.lit (.bool true)], args := [d1, d2, d3, d4, d5] }
  | _ => none }
def circleMovedRow : OpenClaim := { program := "ytghchejehlljkaa", sum := "78527149312a8df584c0becd1515ea1e4e5442f84743e9537ce31a2259c75f3d", func := "trivet/trivetlaw05.CircleMoved", spec := "circleMoved", inPlace := ["math.Float64bits", "math.Float64frombits", "math.archTrunc"], unfollowed := true, recurses := true, apart := false }
def CircleMovedSaid : Prop := circleMovedRow.holds Try.pinned (OpenSpec.ofChange circleMovedSpec)

/-- ITS FALSE NEIGHBOUR: 'it returns false'. Refute it at one input. -/
def circleMovedWrong : ChangeSpec := { name := "circleMoved", fn := fun _ => fun
  | [d1, d2, d3, d4, d5] => { results := [.lit (.bool false)], args := [d1, d2, d3, d4, d5] }
  | _ => none }
def CircleMovedWrongFalsely : Prop := circleMovedRow.holds Try.pinned (OpenSpec.ofChange circleMovedWrong)

/- THE SECOND FORM. 'bulk': how many values and letters a reading holds, each counted each time it is reached (what is shared counts as often as it is met; a slice's spare places count too). A statement '..UptoSaid' is the law's where the arguments, and the package variables that the reading takes, are together of bulk at most 1048576: NARROWER than '..Said'. Prove '..Said' where nothing that the law and all that it calls make is longer than what came in: it says more and counts as full. Else prove '..UptoSaid'. A law counts once. -/
mutual
def uptoBulk {H : Type} : DataW H → Nat
  | .lit (.string bytes) => bytes.length + 1
  | .lit _ => 1
  | .nil => 1
  | .ptr d => uptoBulk d + 1
  | .slice elems spare => uptoBulkAll elems + uptoBulkAll spare + 1
  | .agg parts => uptoBulkAll parts + 1
  | .iface _ d => uptoBulk d + 1
  | .map entries => uptoBulkEntries entries + 1
  | .held _ => 1
def uptoBulkAll {H : Type} : List (DataW H) → Nat
  | [] => 0
  | d :: r => uptoBulk d + uptoBulkAll r
def uptoBulkEntries {H : Type} : List (Lit × DataW H) → Nat
  | [] => 0
  | x :: r => uptoBulkEntry x + uptoBulkEntries r
def uptoBulkEntry {H : Type} : Lit × DataW H → Nat
  | (.string bytes, d) => bytes.length + uptoBulk d + 1
  | (_, d) => uptoBulk d + 1
 end
def uptoSmall : (H : Type) → List (DataW H) → Bool := fun _ ds => decide (uptoBulkAll ds ≤ 1048576)
def OpenSpec.upto (s : _root_.Go.ChangeSpec) : _root_.Go.OpenSpec := { _root_.Go.OpenSpec.ofChange s with cond := some uptoSmall }

/-- 'trivetlaw05.CircleNames', WHERE WHAT IT READS IS OF BULK AT MOST 1048576: true; the input reads as it did. -/
def circleNamesUptoRow : OpenClaim := { program := "ytghchejehlljkaa", sum := "78527149312a8df584c0becd1515ea1e4e5442f84743e9537ce31a2259c75f3d", func := "trivet/trivetlaw05.CircleNames", spec := "circleNames", inPlace := ["math.Float64bits", "math.Float64frombits", "math.archTrunc"], unfollowed := true, recurses := true, apart := false, narrowed := true }
def CircleNamesUptoSaid : Prop := circleNamesUptoRow.holds Try.pinned (OpenSpec.upto circleNamesSpec)

/-- 'trivetlaw05.CircleSign', WHERE WHAT IT READS IS OF BULK AT MOST 1048576: true; the input reads as it did. -/
def circleSignUptoRow : OpenClaim := { program := "ytghchejehlljkaa", sum := "78527149312a8df584c0becd1515ea1e4e5442f84743e9537ce31a2259c75f3d", func := "trivet/trivetlaw05.CircleSign", spec := "circleSign", inPlace := ["math.Float64bits", "math.Float64frombits", "math.archTrunc"], unfollowed := true, recurses := true, apart := false, narrowed := true }
def CircleSignUptoSaid : Prop := circleSignUptoRow.holds Try.pinned (OpenSpec.upto circleSignSpec)

/-- 'trivetlaw05.CircleKnows', WHERE WHAT IT READS IS OF BULK AT MOST 1048576: true; the input reads as it did. -/
def circleKnowsUptoRow : OpenClaim := { program := "ytghchejehlljkaa", sum := "78527149312a8df584c0becd1515ea1e4e5442f84743e9537ce31a2259c75f3d", func := "trivet/trivetlaw05.CircleKnows", spec := "circleKnows", inPlace := ["math.Float64bits", "math.Float64frombits", "math.archTrunc"], recurses := true, apart := false, narrowed := true }
def CircleKnowsUptoSaid : Prop := circleKnowsUptoRow.holds Try.pinned (OpenSpec.upto circleKnowsSpec)

/-- 'trivetlaw05.CircleTurns', WHERE WHAT IT READS IS OF BULK AT MOST 1048576: true; the input reads as it did. -/
def circleTurnsUptoRow : OpenClaim := { program := "ytghchejehlljkaa", sum := "78527149312a8df584c0becd1515ea1e4e5442f84743e9537ce31a2259c75f3d", func := "trivet/trivetlaw05.CircleTurns", spec := "circleTurns", inPlace := ["math.Float64bits", "math.Float64frombits", "math.archTrunc"], unfollowed := true, recurses := true, apart := false, narrowed := true }
def CircleTurnsUptoSaid : Prop := circleTurnsUptoRow.holds Try.pinned (OpenSpec.upto circleTurnsSpec)

/-- 'trivetlaw05.CircleOne', WHERE WHAT IT READS IS OF BULK AT MOST 1048576: true; the input reads as it did. -/
def circleOneUptoRow : OpenClaim := { program := "ytghchejehlljkaa", sum := "78527149312a8df584c0becd1515ea1e4e5442f84743e9537ce31a2259c75f3d", func := "trivet/trivetlaw05.CircleOne", spec := "circleOne", inPlace := ["math.Float64bits", "math.Float64frombits", "math.archTrunc"], unfollowed := true, recurses := true, apart := false, narrowed := true }
def CircleOneUptoSaid : Prop := circleOneUptoRow.holds Try.pinned (OpenSpec.upto circleOneSpec)

/-- 'trivetlaw05.CircleMoved', WHERE WHAT IT READS IS OF BULK AT MOST 1048576: true; the input reads as it did. -/
def circleMovedUptoRow : OpenClaim := { program := "ytghchejehlljkaa", sum := "78527149312a8df584c0becd1515ea1e4e5442f84743e9537ce31a2259c75f3d", func := "trivet/trivetlaw05.CircleMoved", spec := "circleMoved", inPlace := ["math.Float64bits", "math.Float64frombits", "math.archTrunc"], unfollowed := true, recurses := true, apart := false, narrowed := true }
def CircleMovedUptoSaid : Prop := circleMovedUptoRow.holds Try.pinned (OpenSpec.upto circleMovedSpec)

end Rows
end Go.Proofs.Ytghchejehlljkaa
