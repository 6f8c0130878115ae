/-
  No cell of these rows narrows 'for every input' (looked for: loops, veiled, ifaces, maps, wideKeys, modest, calm, conditions, laid).
  DERIVED. THE GIVEN ROWS OF THIS SEAT. 6 by the template 'for every input the law returns true; each argument reads behind the call as it read before'; 0 by the template 'total and deterministic' (their statements: YtglcngjllfgdpabTotals.lean).
  GIVEN WITH THE SEED: the statements are not yours to turn. If you find one false, say at which input.
  Laid BY PROGRAM, IN A SANDBOX (cutbox-rows.mjs): the forced cells as the released guide's own fill.sh prints them over the translation 690cadeb2ea6509e… (all of the seat's roots in one cut). By AI agents, Wed Nov 11 2026. No macro, syntax, notation, axiom, sorry.
-/
import Derived.Test.YtglcngjllfgdpabChecked
import GoSem.Claim
import GoSem.ClaimJoined
import GoSem.ClaimMapViews
import Derived.JoinedTies
import Derived.KernelRfl
namespace Go.Proofs.Ytglcngjllfgdpab
/- THE CELL 'sum', in the pinned program and in every row, IS THE sha256 OF THE DUMP (.gsa) THAT YtglcngjllfgdpabProg.lean LOADS. Nothing in Lean hashes anything: it is a label: what it is worth is what the hold of that sum in a sandbox is worth. -/
noncomputable def Try.pinned : Pinned := { name := "ytglcngjllfgdpab", sum := "690cadeb2ea6509e24c4744572ca32017a7dd8acbf17638bf2562422af2a9ed5", checked := Try.checked }
namespace Rows
def none {H : Type} : Left H := { results := [], args := [] }

/-- 'trivetlaw04.OrientSigns': WHATEVER THE INPUT: true; the input reads as it did. -/
def orientSignsSpec : ChangeSpec := { name := "orientSigns", fn := fun _ => fun
  | [d1, d2, d3] => { results := [.lit (.bool true)], args := [d1, d2, d3] }
  | _ => none }
def orientSignsRow : OpenClaim := { program := "ytglcngjllfgdpab", sum := "690cadeb2ea6509e24c4744572ca32017a7dd8acbf17638bf2562422af2a9ed5", func := "trivet/trivetlaw04.OrientSigns", spec := "orientSigns", inPlace := ["math.Float64bits", "math.Float64frombits", "math.archTrunc"], unfollowed := true, recurses := true, apart := false }
def OrientSignsSaid : Prop := orientSignsRow.holds Try.pinned (OpenSpec.ofChange orientSignsSpec)

/-- ITS FALSE NEIGHBOUR: 'it returns false'. Refute it at one input. -/
def orientSignsWrong : ChangeSpec := { name := "orientSigns", fn := fun _ => fun
  | [d1, d2, d3] => { results := [.lit (.bool false)], args := [d1, d2, d3] }
  | _ => none }
def OrientSignsWrongFalsely : Prop := orientSignsRow.holds Try.pinned (OpenSpec.ofChange orientSignsWrong)

/-- 'trivetlaw04.OrientKnows': WHATEVER THE INPUT: true; the input reads as it did. -/
def orientKnowsSpec : ChangeSpec := { name := "orientKnows", fn := fun _ => fun
  | [d] => { results := [.lit (.bool true)], args := [d] }
  | _ => none }
def orientKnowsRow : OpenClaim := { program := "ytglcngjllfgdpab", sum := "690cadeb2ea6509e24c4744572ca32017a7dd8acbf17638bf2562422af2a9ed5", func := "trivet/trivetlaw04.OrientKnows", spec := "orientKnows", inPlace := ["math.Float64bits", "math.Float64frombits", "math.archTrunc"], unfollowed := true, recurses := true, apart := false }
def OrientKnowsSaid : Prop := orientKnowsRow.holds Try.pinned (OpenSpec.ofChange orientKnowsSpec)

/-- ITS FALSE NEIGHBOUR: 'it returns false'. Refute it at one input. -/
def orientKnowsWrong : ChangeSpec := { name := "orientKnows", fn := fun _ => fun
  | [d] => { results := [.lit (.bool false)], args := [d] }
  | _ => none }
def OrientKnowsWrongFalsely : Prop := orientKnowsRow.holds Try.pinned (OpenSpec.ofChange orientKnowsWrong)

/-- 'trivetlaw04.OrientMeets': WHATEVER THE INPUT: true; the input reads as it did. -/
def orientMeetsSpec : ChangeSpec := { name := "orientMeets", fn := fun _ => fun
  | [d1, d2, d3, d4] => { results := [.lit (.bool true)], args := [d1, d2, d3, d4] }
  | _ => none }
def orientMeetsRow : OpenClaim := { program := "ytglcngjllfgdpab", sum := "690cadeb2ea6509e24c4744572ca32017a7dd8acbf17638bf2562422af2a9ed5", func := "trivet/trivetlaw04.OrientMeets", spec := "orientMeets", inPlace := ["math.Float64bits", "math.Float64frombits", "math.archTrunc"], unfollowed := true, recurses := true, apart := false }
def OrientMeetsSaid : Prop := orientMeetsRow.holds Try.pinned (OpenSpec.ofChange orientMeetsSpec)

/-- ITS FALSE NEIGHBOUR: 'it returns false'. Refute it at one input. -/
def orientMeetsWrong : ChangeSpec := { name := "orientMeets", fn := fun _ => fun
  | [d1, d2, d3, d4] => { results := [.lit (.bool false)], args := [d1, d2, d3, d4] }
  | _ => none }
def OrientMeetsWrongFalsely : Prop := orientMeetsRow.holds Try.pinned (OpenSpec.ofChange orientMeetsWrong)

/-- 'trivetlaw04.OrientTurns': WHATEVER THE INPUT: true; the input reads as it did. -/
def orientTurnsSpec : ChangeSpec := { name := "orientTurns", fn := fun _ => fun
  | [d1, d2, d3] => { results := [.lit (.bool true)], args := [d1, d2, d3] }
  | _ => none }
def orientTurnsRow : OpenClaim := { program := "ytglcngjllfgdpab", sum := "690cadeb2ea6509e24c4744572ca32017a7dd8acbf17638bf2562422af2a9ed5", func := "trivet/trivetlaw04.OrientTurns", spec := "orientTurns", inPlace := ["math.Float64bits", "math.Float64frombits", "math.archTrunc"], unfollowed := true, recurses := true, apart := false }
def OrientTurnsSaid : Prop := orientTurnsRow.holds Try.pinned (OpenSpec.ofChange orientTurnsSpec)

/-- ITS FALSE NEIGHBOUR: 'it returns false'. Refute it at one input. -/
def orientTurnsWrong : ChangeSpec := { name := "orientTurns", fn := fun _ => fun
  | [d1, d2, d3] => { results := [.lit (.bool false)], args := [d1, d2, d3] }
  | _ => none }
def OrientTurnsWrongFalsely : Prop := orientTurnsRow.holds Try.pinned (OpenSpec.ofChange orientTurnsWrong)

/-- 'trivetlaw04.OrientAround': WHATEVER THE INPUT: true; the input reads as it did. -/
def orientAroundSpec : ChangeSpec := { name := "orientAround", fn := fun _ => fun
  | [d1, d2, d3, d4, d5] => { results := [.lit (.bool true)], args := [d1, d2, d3, d4, d5] }
  | _ => none }
def orientAroundRow : OpenClaim := { program := "ytglcngjllfgdpab", sum := "690cadeb2ea6509e24c4744572ca32017a7dd8acbf17638bf2562422af2a9ed5", func := "trivet/trivetlaw04.OrientAround", spec := "orientAround", inPlace := ["math.Float64bits", "math.Float64frombits", "math.archTrunc"], unfollowed := true, recurses := true, apart := false }
def OrientAroundSaid : Prop := orientAroundRow.holds Try.pinned (OpenSpec.ofChange orientAroundSpec)

/-- ITS FALSE NEIGHBOUR: 'it returns false'. Refute it at one input. -/
def orientAroundWrong : ChangeSpec := { name := "orientAround", fn := fun _ => fun
  | [d1, d2, d3, d4, d5] => { results := [.lit (.bool false)], args := [d1, d2, d3, d4, d5] }
  | _ => none }
def OrientAroundWrongFalsely : Prop := orientAroundRow.holds Try.pinned (OpenSpec.ofChange orientAroundWrong)

/-- 'trivetlaw04.OrientMoved': WHATEVER THE INPUT: true; the input reads as it did. -/
def orientMovedSpec : ChangeSpec := { name := "orientMoved", fn := fun _ => fun
  | [d1, d2, d3, d4] => { results := [.lit (.bool true)], args := [d1, d2, d3, d4] }
  | _ => none }
def orientMovedRow : OpenClaim := { program := "ytglcngjllfgdpab", sum := "690cadeb2ea6509e24c4744572ca32017a7dd8acbf17638bf2562422af2a9ed5", func := "trivet/trivetlaw04.OrientMoved", spec := "orientMoved", inPlace := ["math.Float64bits", "math.Float64frombits", "math.archTrunc"], unfollowed := true, recurses := true, apart := false }
def OrientMovedSaid : Prop := orientMovedRow.holds Try.pinned (OpenSpec.ofChange orientMovedSpec)

/-- ITS FALSE NEIGHBOUR: 'it returns false'. Refute it at one input. -/
def orientMovedWrong : ChangeSpec := { name := "orientMoved", fn := fun _ => fun
  | [d1, d2, d3, d4] => { results := [.lit (.bool false)], args := [d1, d2, d3, d4] }
  | _ => none }
def OrientMovedWrongFalsely : Prop := orientMovedRow.holds Try.pinned (OpenSpec.ofChange orientMovedWrong)

/- THE SECOND FORM. 'bulk': how many values and letters a reading holds, each counted each time it is reached (what is shared counts as often as it is met; a slice's spare places count too). A statement '..UptoSaid' is the law's where the arguments, and the package variables that the reading takes, are together of bulk at most 1048576: NARROWER than '..Said'. Prove '..Said' where nothing that the law and all that it calls make is longer than what came in: it says more and counts as full. Else prove '..UptoSaid'. A law counts once. -/
mutual
def uptoBulk {H : Type} : DataW H → Nat
  | .lit (.string bytes) => bytes.length + 1
  | .lit _ => 1
  | .nil => 1
  | .ptr d => uptoBulk d + 1
  | .slice elems spare => uptoBulkAll elems + uptoBulkAll spare + 1
  | .agg parts => uptoBulkAll parts + 1
  | .iface _ d => uptoBulk d + 1
  | .map entries => uptoBulkEntries entries + 1
  | .held _ => 1
def uptoBulkAll {H : Type} : List (DataW H) → Nat
  | [] => 0
  | d :: r => uptoBulk d + uptoBulkAll r
def uptoBulkEntries {H : Type} : List (Lit × DataW H) → Nat
  | [] => 0
  | x :: r => uptoBulkEntry x + uptoBulkEntries r
def uptoBulkEntry {H : Type} : Lit × DataW H → Nat
  | (.string bytes, d) => bytes.length + uptoBulk d + 1
  | (_, d) => uptoBulk d + 1
 end
def uptoSmall : (H : Type) → List (DataW H) → Bool := fun _ ds => decide (uptoBulkAll ds ≤ 1048576)
def OpenSpec.upto (s : _root_.Go.ChangeSpec) : _root_.Go.OpenSpec := { _root_.Go.OpenSpec.ofChange s with cond := some uptoSmall }

/-- 'trivetlaw04.OrientSigns', WHERE WHAT IT READS IS OF BULK AT MOST 1048576: true; the input reads as it did. -/
def orientSignsUptoRow : OpenClaim := { program := "ytglcngjllfgdpab", sum := "690cadeb2ea6509e24c4744572ca32017a7dd8acbf17638bf2562422af2a9ed5", func := "trivet/trivetlaw04.OrientSigns", spec := "orientSigns", inPlace := ["math.Float64bits", "math.Float64frombits", "math.archTrunc"], unfollowed := true, recurses := true, apart := false, narrowed := true }
def OrientSignsUptoSaid : Prop := orientSignsUptoRow.holds Try.pinned (OpenSpec.upto orientSignsSpec)

/-- 'trivetlaw04.OrientKnows', WHERE WHAT IT READS IS OF BULK AT MOST 1048576: true; the input reads as it did. -/
def orientKnowsUptoRow : OpenClaim := { program := "ytglcngjllfgdpab", sum := "690cadeb2ea6509e24c4744572ca32017a7dd8acbf17638bf2562422af2a9ed5", func := "trivet/trivetlaw04.OrientKnows", spec := "orientKnows", inPlace := ["math.Float64bits", "math.Float64frombits", "math.archTrunc"], unfollowed := true, recurses := true, apart := false, narrowed := true }
def OrientKnowsUptoSaid : Prop := orientKnowsUptoRow.holds Try.pinned (OpenSpec.upto orientKnowsSpec)

/-- 'trivetlaw04.OrientMeets', WHERE WHAT IT READS IS OF BULK AT MOST 1048576: true; the input reads as it did. -/
def orientMeetsUptoRow : OpenClaim := { program := "ytglcngjllfgdpab", sum := "690cadeb2ea6509e24c4744572ca32017a7dd8acbf17638bf2562422af2a9ed5", func := "trivet/trivetlaw04.OrientMeets", spec := "orientMeets", inPlace := ["math.Float64bits", "math.Float64frombits", "math.archTrunc"], unfollowed := true, recurses := true, apart := false, narrowed := true }
def OrientMeetsUptoSaid : Prop := orientMeetsUptoRow.holds Try.pinned (OpenSpec.upto orientMeetsSpec)

/-- 'trivetlaw04.OrientTurns', WHERE WHAT IT READS IS OF BULK AT MOST 1048576: true; the input reads as it did. -/
def orientTurnsUptoRow : OpenClaim := { program := "ytglcngjllfgdpab", sum := "690cadeb2ea6509e24c4744572ca32017a7dd8acbf17638bf2562422af2a9ed5", func := "trivet/trivetlaw04.OrientTurns", spec := "orientTurns", inPlace := ["math.Float64bits", "math.Float64frombits", "math.archTrunc"], unfollowed := true, recurses := true, apart := false, narrowed := true }
def OrientTurnsUptoSaid : Prop := orientTurnsUptoRow.holds Try.pinned (OpenSpec.upto orientTurnsSpec)

/-- 'trivetlaw04.OrientAround', WHERE WHAT IT READS IS OF BULK AT MOST 1048576: true; the input reads as it did. -/
def orientAroundUptoRow : OpenClaim := { program := "ytglcngjllfgdpab", sum := "690cadeb2ea6509e24c4744572ca32017a7dd8acbf17638bf2562422af2a9ed5", func := "trivet/trivetlaw04.OrientAround", spec := "orientAround", inPlace := ["math.Float64bits", "math.Float64frombits", "math.archTrunc"], unfollowed := true, recurses := true, apart := false, narrowed := true }
def OrientAroundUptoSaid : Prop := orientAroundUptoRow.holds Try.pinned (OpenSpec.upto orientAroundSpec)

/-- 'trivetlaw04.OrientMoved', WHERE WHAT IT READS IS OF BULK AT MOST 1048576: true; the input reads as it did. -/
def orientMovedUptoRow : OpenClaim := { program := "ytglcngjllfgdpab", sum := "690cadeb2ea6509e24c4744572ca32017a7dd8acbf17638bf2562422af2a9ed5", func := "trivet/trivetlaw04.OrientMoved", spec := "orientMoved", inPlace := ["math.Float64bits", "math.Float64frombits", "math.archTrunc"], unfollowed := true, recurses := true, apart := false, narrowed := true }
def OrientMovedUptoSaid : Prop := orientMovedUptoRow.holds Try.pinned (OpenSpec.upto orientMovedSpec)

end Rows
end Go.Proofs.Ytglcngjllfgdpab
