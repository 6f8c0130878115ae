/-
  No cell of these rows narrows 'for every input' (looked for: loops, veiled, ifaces, maps, wideKeys, modest, calm, conditions, laid).
  DERIVED. THE GIVEN ROWS OF THIS SEAT. 5 by the template 'for every input the law returns true; each argument reads behind the call as it read before'; 0 by the template 'total and deterministic' (their statements: YtgpbfhennineiaaTotals.lean).
  GIVEN WITH THE SEED: the statements are not yours to turn. If you find one false, say at which input.
  Laid BY PROGRAM, IN A SANDBOX (cutbox-rows.mjs): the forced cells as the released guide's own fill.sh prints them over the translation 79f530a68f363893… (all of the seat's roots in one cut). By AI agents, Wed Nov 11 2026. No macro, syntax, notation, axiom, sorry.
-/
import Derived.Test.YtgpbfhennineiaaChecked
import GoSem.Claim
import GoSem.ClaimJoined
import GoSem.ClaimMapViews
import Derived.JoinedTies
import Derived.KernelRfl
namespace Go.Proofs.Ytgpbfhennineiaa
/- THE CELL 'sum', in the pinned program and in every row, IS THE sha256 OF THE DUMP (.gsa) THAT YtgpbfhennineiaaProg.lean LOADS. Nothing in Lean hashes anything: it is a label: what it is worth is what the hold of that sum in a sandbox is worth. -/
noncomputable def Try.pinned : Pinned := { name := "ytgpbfhennineiaa", sum := "79f530a68f363893670f14be57857512ffae72ffca25454fcaf8b9531ac9b69c", checked := Try.checked }
namespace Rows
def none {H : Type} : Left H := { results := [], args := [] }

/-- 'trivetlaw07.AdmitNames': WHATEVER THE INPUT: true; the input reads as it did. -/
def admitNamesSpec : ChangeSpec := { name := "admitNames", fn := fun _ => fun
  | [] => { results := [.lit (.bool true)], args := [] }
  | _ => none }
def admitNamesRow : OpenClaim := { program := "ytgpbfhennineiaa", sum := "79f530a68f363893670f14be57857512ffae72ffca25454fcaf8b9531ac9b69c", func := "trivet/trivetlaw07.AdmitNames", spec := "admitNames", inPlace := ["math.Float64bits", "math.Float64frombits", "math.archTrunc"], unfollowed := true, recurses := true, plainKeys := false, apart := false }
def AdmitNamesSaid : Prop := admitNamesRow.holds Try.pinned (OpenSpec.ofChange admitNamesSpec)

/-- ITS FALSE NEIGHBOUR: 'it returns false'. Refute it at one input. -/
def admitNamesWrong : ChangeSpec := { name := "admitNames", fn := fun _ => fun
  | [] => { results := [.lit (.bool false)], args := [] }
  | _ => none }
def AdmitNamesWrongFalsely : Prop := admitNamesRow.holds Try.pinned (OpenSpec.ofChange admitNamesWrong)

/-- 'trivetlaw07.AdmitPoints': WHATEVER THE INPUT: true; the input reads as it did. -/
def admitPointsSpec : ChangeSpec := { name := "admitPoints", fn := fun _ => fun
  | [d1, d2] => { results := [.lit (.bool true)], args := [d1, d2] }
  | _ => none }
def admitPointsRow : OpenClaim := { program := "ytgpbfhennineiaa", sum := "79f530a68f363893670f14be57857512ffae72ffca25454fcaf8b9531ac9b69c", func := "trivet/trivetlaw07.AdmitPoints", spec := "admitPoints", inPlace := ["math.Float64bits", "math.Float64frombits", "math.archTrunc"], recurses := true, plainKeys := false, apart := false }
def AdmitPointsSaid : Prop := admitPointsRow.holds Try.pinned (OpenSpec.ofChange admitPointsSpec)

/-- ITS FALSE NEIGHBOUR: 'it returns false'. Refute it at one input. -/
def admitPointsWrong : ChangeSpec := { name := "admitPoints", fn := fun _ => fun
  | [d1, d2] => { results := [.lit (.bool false)], args := [d1, d2] }
  | _ => none }
def AdmitPointsWrongFalsely : Prop := admitPointsRow.holds Try.pinned (OpenSpec.ofChange admitPointsWrong)

/-- 'trivetlaw07.AdmitOrder': WHATEVER THE INPUT: true; the input reads as it did. -/
def admitOrderSpec : ChangeSpec := { name := "admitOrder", fn := fun _ => fun
  | [d] => { results := [.lit (.bool true)], args := [d] }
  | _ => none }
def admitOrderRow : OpenClaim := { program := "ytgpbfhennineiaa", sum := "79f530a68f363893670f14be57857512ffae72ffca25454fcaf8b9531ac9b69c", func := "trivet/trivetlaw07.AdmitOrder", spec := "admitOrder", inPlace := ["math.Float64bits", "math.Float64frombits", "math.archTrunc"], unfollowed := true, recurses := true, plainKeys := false, apart := false }
def AdmitOrderSaid : Prop := admitOrderRow.holds Try.pinned (OpenSpec.ofChange admitOrderSpec)

/-- ITS FALSE NEIGHBOUR: 'it returns false'. Refute it at one input. -/
def admitOrderWrong : ChangeSpec := { name := "admitOrder", fn := fun _ => fun
  | [d] => { results := [.lit (.bool false)], args := [d] }
  | _ => none }
def AdmitOrderWrongFalsely : Prop := admitOrderRow.holds Try.pinned (OpenSpec.ofChange admitOrderWrong)

/-- 'trivetlaw07.AdmitTurned': WHATEVER THE INPUT: true; the input reads as it did. -/
def admitTurnedSpec : ChangeSpec := { name := "admitTurned", fn := fun _ => fun
  | [d1, d2] => { results := [.lit (.bool true)], args := [d1, d2] }
  | _ => none }
def admitTurnedRow : OpenClaim := { program := "ytgpbfhennineiaa", sum := "79f530a68f363893670f14be57857512ffae72ffca25454fcaf8b9531ac9b69c", func := "trivet/trivetlaw07.AdmitTurned", spec := "admitTurned", inPlace := ["math.Float64bits", "math.Float64frombits", "math.archTrunc"], unfollowed := true, recurses := true, plainKeys := false, apart := false }
def AdmitTurnedSaid : Prop := admitTurnedRow.holds Try.pinned (OpenSpec.ofChange admitTurnedSpec)

/-- ITS FALSE NEIGHBOUR: 'it returns false'. Refute it at one input. -/
def admitTurnedWrong : ChangeSpec := { name := "admitTurned", fn := fun _ => fun
  | [d1, d2] => { results := [.lit (.bool false)], args := [d1, d2] }
  | _ => none }
def AdmitTurnedWrongFalsely : Prop := admitTurnedRow.holds Try.pinned (OpenSpec.ofChange admitTurnedWrong)

/-- 'trivetlaw07.AdmitFlat': WHATEVER THE INPUT: true; the input reads as it did. -/
def admitFlatSpec : ChangeSpec := { name := "admitFlat", fn := fun _ => fun
  | [d1, d2] => { results := [.lit (.bool true)], args := [d1, d2] }
  | _ => none }
def admitFlatRow : OpenClaim := { program := "ytgpbfhennineiaa", sum := "79f530a68f363893670f14be57857512ffae72ffca25454fcaf8b9531ac9b69c", func := "trivet/trivetlaw07.AdmitFlat", spec := "admitFlat", inPlace := ["math.Float64bits", "math.Float64frombits", "math.archTrunc"], unfollowed := true, recurses := true, plainKeys := false, apart := false }
def AdmitFlatSaid : Prop := admitFlatRow.holds Try.pinned (OpenSpec.ofChange admitFlatSpec)

/-- ITS FALSE NEIGHBOUR: 'it returns false'. Refute it at one input. -/
def admitFlatWrong : ChangeSpec := { name := "admitFlat", fn := fun _ => fun
  | [d1, d2] => { results := [.lit (.bool false)], args := [d1, d2] }
  | _ => none }
def AdmitFlatWrongFalsely : Prop := admitFlatRow.holds Try.pinned (OpenSpec.ofChange admitFlatWrong)

/- THE SECOND FORM. 'bulk': how many values and letters a reading holds, each counted each time it is reached (what is shared counts as often as it is met; a slice's spare places count too). A statement '..UptoSaid' is the law's where the arguments, and the package variables that the reading takes, are together of bulk at most 1048576: NARROWER than '..Said'. Prove '..Said' where nothing that the law and all that it calls make is longer than what came in: it says more and counts as full. Else prove '..UptoSaid'. A law counts once. -/
mutual
def uptoBulk {H : Type} : DataW H → Nat
  | .lit (.string bytes) => bytes.length + 1
  | .lit _ => 1
  | .nil => 1
  | .ptr d => uptoBulk d + 1
  | .slice elems spare => uptoBulkAll elems + uptoBulkAll spare + 1
  | .agg parts => uptoBulkAll parts + 1
  | .iface _ d => uptoBulk d + 1
  | .map entries => uptoBulkEntries entries + 1
  | .held _ => 1
def uptoBulkAll {H : Type} : List (DataW H) → Nat
  | [] => 0
  | d :: r => uptoBulk d + uptoBulkAll r
def uptoBulkEntries {H : Type} : List (Lit × DataW H) → Nat
  | [] => 0
  | x :: r => uptoBulkEntry x + uptoBulkEntries r
def uptoBulkEntry {H : Type} : Lit × DataW H → Nat
  | (.string bytes, d) => bytes.length + uptoBulk d + 1
  | (_, d) => uptoBulk d + 1
 end
def uptoSmall : (H : Type) → List (DataW H) → Bool := fun _ ds => decide (uptoBulkAll ds ≤ 1048576)
def OpenSpec.upto (s : _root_.Go.ChangeSpec) : _root_.Go.OpenSpec := { _root_.Go.OpenSpec.ofChange s with cond := some uptoSmall }

/-- 'trivetlaw07.AdmitNames', WHERE WHAT IT READS IS OF BULK AT MOST 1048576: true; the input reads as it did. -/
def admitNamesUptoRow : OpenClaim := { program := "ytgpbfhennineiaa", sum := "79f530a68f363893670f14be57857512ffae72ffca25454fcaf8b9531ac9b69c", func := "trivet/trivetlaw07.AdmitNames", spec := "admitNames", inPlace := ["math.Float64bits", "math.Float64frombits", "math.archTrunc"], unfollowed := true, recurses := true, plainKeys := false, apart := false, narrowed := true }
def AdmitNamesUptoSaid : Prop := admitNamesUptoRow.holds Try.pinned (OpenSpec.upto admitNamesSpec)

/-- 'trivetlaw07.AdmitPoints', WHERE WHAT IT READS IS OF BULK AT MOST 1048576: true; the input reads as it did. -/
def admitPointsUptoRow : OpenClaim := { program := "ytgpbfhennineiaa", sum := "79f530a68f363893670f14be57857512ffae72ffca25454fcaf8b9531ac9b69c", func := "trivet/trivetlaw07.AdmitPoints", spec := "admitPoints", inPlace := ["math.Float64bits", "math.Float64frombits", "math.archTrunc"], recurses := true, plainKeys := false, apart := false, narrowed := true }
def AdmitPointsUptoSaid : Prop := admitPointsUptoRow.holds Try.pinned (OpenSpec.upto admitPointsSpec)

/-- 'trivetlaw07.AdmitOrder', WHERE WHAT IT READS IS OF BULK AT MOST 1048576: true; the input reads as it did. -/
def admitOrderUptoRow : OpenClaim := { program := "ytgpbfhennineiaa", sum := "79f530a68f363893670f14be57857512ffae72ffca25454fcaf8b9531ac9b69c", func := "trivet/trivetlaw07.AdmitOrder", spec := "admitOrder", inPlace := ["math.Float64bits", "math.Float64frombits", "math.archTrunc"], unfollowed := true, recurses := true, plainKeys := false, apart := false, narrowed := true }
def AdmitOrderUptoSaid : Prop := admitOrderUptoRow.holds Try.pinned (OpenSpec.upto admitOrderSpec)

/-- 'trivetlaw07.AdmitTurned', WHERE WHAT IT READS IS OF BULK AT MOST 1048576: true; the input reads as it did. -/
def admitTurnedUptoRow : OpenClaim := { program := "ytgpbfhennineiaa", sum := "79f530a68f363893670f14be57857512ffae72ffca25454fcaf8b9531ac9b69c", func := "trivet/trivetlaw07.AdmitTurned", spec := "admitTurned", inPlace := ["math.Float64bits", "math.Float64frombits", "math.archTrunc"], unfollowed := true, recurses := true, plainKeys := false, apart := false, narrowed := true }
def AdmitTurnedUptoSaid : Prop := admitTurnedUptoRow.holds Try.pinned (OpenSpec.upto admitTurnedSpec)

/-- 'trivetlaw07.AdmitFlat', WHERE WHAT IT READS IS OF BULK AT MOST 1048576: true; the input reads as it did. -/
def admitFlatUptoRow : OpenClaim := { program := "ytgpbfhennineiaa", sum := "79f530a68f363893670f14be57857512ffae72ffca25454fcaf8b9531ac9b69c", func := "trivet/trivetlaw07.AdmitFlat", spec := "admitFlat", inPlace := ["math.Float64bits", "math.Float64frombits", "math.archTrunc"], unfollowed := true, recurses := true, plainKeys := false, apart := false, narrowed := true }
def AdmitFlatUptoSaid : Prop := admitFlatUptoRow.holds Try.pinned (OpenSpec.upto admitFlatSpec)

end Rows
end Go.Proofs.Ytgpbfhennineiaa
