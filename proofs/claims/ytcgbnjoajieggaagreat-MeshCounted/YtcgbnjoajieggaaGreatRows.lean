/-
  No cell of these rows narrows 'for every input' (looked for: loops, veiled, ifaces, maps, wideKeys, modest, calm, conditions, laid).
  DERIVED. THE GIVEN ROWS OF THIS SEAT. 6 by the template 'for every input the law returns true; each argument reads behind the call as it read before'; 0 by the template 'total and deterministic' (their statements: YtcgbnjoajieggaaGreatTotals.lean).
  GIVEN WITH THE SEED: the statements are not yours to turn. If you find one false, say at which input.
  Laid BY PROGRAM, IN A SANDBOX (cutbox-rows.mjs): the forced cells as the released guide's own fill.sh prints them over the translation 03b58ae5677287d2… (all of the seat's roots in one cut). By AI agents, Wed Nov 11 2026. No macro, syntax, notation, axiom, sorry.
-/
import Derived.Test.YtcgbnjoajieggaaGreatChecked
import GoSem.Claim
import GoSem.ClaimJoined
import GoSem.ClaimMapViews
import Derived.JoinedTies
import Derived.KernelRfl
namespace Go.Proofs.YtcgbnjoajieggaaGreat
/- THE CELL 'sum', in the pinned program and in every row, IS THE sha256 OF THE DUMP (.gsa) THAT YtcgbnjoajieggaaGreatProg.lean LOADS. Nothing in Lean hashes anything: it is a label: what it is worth is what the hold of that sum in a sandbox is worth. -/
noncomputable def Tryz.pinned : Pinned := { name := "ytcgbnjoajieggaagreat", sum := "03b58ae5677287d223d055e63f5fd1fc6bfbc6659eb97c1a0a6fbc85ed580efc", checked := Tryz.checked }
namespace Rows
def none {H : Type} : Left H := { results := [], args := [] }

/-- 'trivetlaw15.MeshNames': WHATEVER THE INPUT: true; the input reads as it did. -/
def meshNamesSpec : ChangeSpec := { name := "meshNames", fn := fun _ => fun
  | [] => { results := [.lit (.bool true)], args := [] }
  | _ => none }
def meshNamesRow : OpenClaim := { program := "ytcgbnjoajieggaagreat", sum := "03b58ae5677287d223d055e63f5fd1fc6bfbc6659eb97c1a0a6fbc85ed580efc", func := "trivet/trivetlaw15.MeshNames", spec := "meshNames", inPlace := ["math.Float64bits", "math.Float64frombits", "math.archTrunc", "maps.clone"], unfollowed := true, recurses := true, plainKeys := false, apart := false }
def MeshNamesSaid : Prop := meshNamesRow.holds Tryz.pinned (OpenSpec.ofChange meshNamesSpec)

/-- ITS FALSE NEIGHBOUR: 'it returns false'. Refute it at one input. -/
def meshNamesWrong : ChangeSpec := { name := "meshNames", fn := fun _ => fun
  | [] => { results := [.lit (.bool false)], args := [] }
  | _ => none }
def MeshNamesWrongFalsely : Prop := meshNamesRow.holds Tryz.pinned (OpenSpec.ofChange meshNamesWrong)

/-- 'trivetlaw15.MeshPlays': WHATEVER THE INPUT: true; the input reads as it did. -/
def meshPlaysSpec : ChangeSpec := { name := "meshPlays", fn := fun _ => fun
  | [d1, d2] => { results := [.lit (.bool true)], args := [d1, d2] }
  | _ => none }
def meshPlaysRow : OpenClaim := { program := "ytcgbnjoajieggaagreat", sum := "03b58ae5677287d223d055e63f5fd1fc6bfbc6659eb97c1a0a6fbc85ed580efc", func := "trivet/trivetlaw15.MeshPlays", spec := "meshPlays", inPlace := ["math.Float64bits", "math.Float64frombits", "math.archTrunc", "maps.clone"], unfollowed := true, recurses := true, plainKeys := false, apart := false }
def MeshPlaysSaid : Prop := meshPlaysRow.holds Tryz.pinned (OpenSpec.ofChange meshPlaysSpec)

/-- ITS FALSE NEIGHBOUR: 'it returns false'. Refute it at one input. -/
def meshPlaysWrong : ChangeSpec := { name := "meshPlays", fn := fun _ => fun
  | [d1, d2] => { results := [.lit (.bool false)], args := [d1, d2] }
  | _ => none }
def MeshPlaysWrongFalsely : Prop := meshPlaysRow.holds Tryz.pinned (OpenSpec.ofChange meshPlaysWrong)

/-- 'trivetlaw15.MeshOf': WHATEVER THE INPUT: true; the input reads as it did. -/
def meshOfSpec : ChangeSpec := { name := "meshOf", fn := fun _ => fun
  | [d1, d2] => { results := [.lit (.bool true)], args := [d1, d2] }
  | _ => none }
def meshOfRow : OpenClaim := { program := "ytcgbnjoajieggaagreat", sum := "03b58ae5677287d223d055e63f5fd1fc6bfbc6659eb97c1a0a6fbc85ed580efc", func := "trivet/trivetlaw15.MeshOf", spec := "meshOf", inPlace := ["math.Float64bits", "math.Float64frombits", "math.archTrunc"], unfollowed := true, recurses := true, plainKeys := false, apart := false }
def MeshOfSaid : Prop := meshOfRow.holds Tryz.pinned (OpenSpec.ofChange meshOfSpec)

/-- ITS FALSE NEIGHBOUR: 'it returns false'. Refute it at one input. -/
def meshOfWrong : ChangeSpec := { name := "meshOf", fn := fun _ => fun
  | [d1, d2] => { results := [.lit (.bool false)], args := [d1, d2] }
  | _ => none }
def MeshOfWrongFalsely : Prop := meshOfRow.holds Tryz.pinned (OpenSpec.ofChange meshOfWrong)

/-- 'trivetlaw15.MeshAgain': WHATEVER THE INPUT: true; the input reads as it did. -/
def meshAgainSpec : ChangeSpec := { name := "meshAgain", fn := fun _ => fun
  | [d1, d2, d3] => { results := [.lit (.bool true)], args := [d1, d2, d3] }
  | _ => none }
def meshAgainRow : OpenClaim := { program := "ytcgbnjoajieggaagreat", sum := "03b58ae5677287d223d055e63f5fd1fc6bfbc6659eb97c1a0a6fbc85ed580efc", func := "trivet/trivetlaw15.MeshAgain", spec := "meshAgain", inPlace := ["math.Float64bits", "math.Float64frombits", "math.archTrunc"], unfollowed := true, recurses := true, plainKeys := false, apart := false }
def MeshAgainSaid : Prop := meshAgainRow.holds Tryz.pinned (OpenSpec.ofChange meshAgainSpec)

/-- ITS FALSE NEIGHBOUR: 'it returns false'. Refute it at one input. -/
def meshAgainWrong : ChangeSpec := { name := "meshAgain", fn := fun _ => fun
  | [d1, d2, d3] => { results := [.lit (.bool false)], args := [d1, d2, d3] }
  | _ => none }
def MeshAgainWrongFalsely : Prop := meshAgainRow.holds Tryz.pinned (OpenSpec.ofChange meshAgainWrong)

/-- 'trivetlaw15.MeshCounted': WHATEVER THE INPUT: true; the input reads as it did. -/
def meshCountedSpec : ChangeSpec := { name := "meshCounted", fn := fun _ => fun
  | [d1, d2] => { results := [.lit (.bool true)], args := [d1, d2] }
  | _ => none }
def meshCountedRow : OpenClaim := { program := "ytcgbnjoajieggaagreat", sum := "03b58ae5677287d223d055e63f5fd1fc6bfbc6659eb97c1a0a6fbc85ed580efc", func := "trivet/trivetlaw15.MeshCounted", spec := "meshCounted", inPlace := ["math.Float64bits", "math.Float64frombits", "math.archTrunc"], unfollowed := true, recurses := true, plainKeys := false, apart := false }
def MeshCountedSaid : Prop := meshCountedRow.holds Tryz.pinned (OpenSpec.ofChange meshCountedSpec)

/-- ITS FALSE NEIGHBOUR: 'it returns false'. Refute it at one input. -/
def meshCountedWrong : ChangeSpec := { name := "meshCounted", fn := fun _ => fun
  | [d1, d2] => { results := [.lit (.bool false)], args := [d1, d2] }
  | _ => none }
def MeshCountedWrongFalsely : Prop := meshCountedRow.holds Tryz.pinned (OpenSpec.ofChange meshCountedWrong)

/-- 'trivetlaw15.MeshUndone': WHATEVER THE INPUT: true; the input reads as it did. -/
def meshUndoneSpec : ChangeSpec := { name := "meshUndone", fn := fun _ => fun
  | [d1, d2, d3] => { results := [.lit (.bool true)], args := [d1, d2, d3] }
  | _ => none }
def meshUndoneRow : OpenClaim := { program := "ytcgbnjoajieggaagreat", sum := "03b58ae5677287d223d055e63f5fd1fc6bfbc6659eb97c1a0a6fbc85ed580efc", func := "trivet/trivetlaw15.MeshUndone", spec := "meshUndone", inPlace := ["math.Float64bits", "math.Float64frombits", "math.archTrunc"], unfollowed := true, recurses := true, plainKeys := false, apart := false }
def MeshUndoneSaid : Prop := meshUndoneRow.holds Tryz.pinned (OpenSpec.ofChange meshUndoneSpec)

/-- ITS FALSE NEIGHBOUR: 'it returns false'. Refute it at one input. -/
def meshUndoneWrong : ChangeSpec := { name := "meshUndone", fn := fun _ => fun
  | [d1, d2, d3] => { results := [.lit (.bool false)], args := [d1, d2, d3] }
  | _ => none }
def MeshUndoneWrongFalsely : Prop := meshUndoneRow.holds Tryz.pinned (OpenSpec.ofChange meshUndoneWrong)

/- THE SECOND FORM. 'bulk': how many values and letters a reading holds, each counted each time it is reached (what is shared counts as often as it is met; a slice's spare places count too). A statement '..UptoSaid' is the law's where the arguments, and the package variables that the reading takes, are together of bulk at most 1048576: NARROWER than '..Said'. Prove '..Said' where nothing that the law and all that it calls make is longer than what came in: it says more and counts as full. Else prove '..UptoSaid'. A law counts once. -/
mutual
def uptoBulk {H : Type} : DataW H → Nat
  | .lit (.string bytes) => bytes.length + 1
  | .lit _ => 1
  | .nil => 1
  | .ptr d => uptoBulk d + 1
  | .slice elems spare => uptoBulkAll elems + uptoBulkAll spare + 1
  | .agg parts => uptoBulkAll parts + 1
  | .iface _ d => uptoBulk d + 1
  | .map entries => uptoBulkEntries entries + 1
  | .held _ => 1
def uptoBulkAll {H : Type} : List (DataW H) → Nat
  | [] => 0
  | d :: r => uptoBulk d + uptoBulkAll r
def uptoBulkEntries {H : Type} : List (Lit × DataW H) → Nat
  | [] => 0
  | x :: r => uptoBulkEntry x + uptoBulkEntries r
def uptoBulkEntry {H : Type} : Lit × DataW H → Nat
  | (.string bytes, d) => bytes.length + uptoBulk d + 1
  | (_, d) => uptoBulk d + 1
 end
def uptoSmall : (H : Type) → List (DataW H) → Bool := fun _ ds => decide (uptoBulkAll ds ≤ 1048576)
def OpenSpec.upto (s : _root_.Go.ChangeSpec) : _root_.Go.OpenSpec := { _root_.Go.OpenSpec.ofChange s with cond := some uptoSmall }

/-- 'trivetlaw15.MeshNames', WHERE WHAT IT READS IS OF BULK AT MOST 1048576: true; the input reads as it did. -/
def meshNamesUptoRow : OpenClaim := { program := "ytcgbnjoajieggaagreat", sum := "03b58ae5677287d223d055e63f5fd1fc6bfbc6659eb97c1a0a6fbc85ed580efc", func := "trivet/trivetlaw15.MeshNames", spec := "meshNames", inPlace := ["math.Float64bits", "math.Float64frombits", "math.archTrunc", "maps.clone"], unfollowed := true, recurses := true, plainKeys := false, apart := false, narrowed := true }
def MeshNamesUptoSaid : Prop := meshNamesUptoRow.holds Tryz.pinned (OpenSpec.upto meshNamesSpec)

/-- 'trivetlaw15.MeshPlays', WHERE WHAT IT READS IS OF BULK AT MOST 1048576: true; the input reads as it did. -/
def meshPlaysUptoRow : OpenClaim := { program := "ytcgbnjoajieggaagreat", sum := "03b58ae5677287d223d055e63f5fd1fc6bfbc6659eb97c1a0a6fbc85ed580efc", func := "trivet/trivetlaw15.MeshPlays", spec := "meshPlays", inPlace := ["math.Float64bits", "math.Float64frombits", "math.archTrunc", "maps.clone"], unfollowed := true, recurses := true, plainKeys := false, apart := false, narrowed := true }
def MeshPlaysUptoSaid : Prop := meshPlaysUptoRow.holds Tryz.pinned (OpenSpec.upto meshPlaysSpec)

/-- 'trivetlaw15.MeshOf', WHERE WHAT IT READS IS OF BULK AT MOST 1048576: true; the input reads as it did. -/
def meshOfUptoRow : OpenClaim := { program := "ytcgbnjoajieggaagreat", sum := "03b58ae5677287d223d055e63f5fd1fc6bfbc6659eb97c1a0a6fbc85ed580efc", func := "trivet/trivetlaw15.MeshOf", spec := "meshOf", inPlace := ["math.Float64bits", "math.Float64frombits", "math.archTrunc"], unfollowed := true, recurses := true, plainKeys := false, apart := false, narrowed := true }
def MeshOfUptoSaid : Prop := meshOfUptoRow.holds Tryz.pinned (OpenSpec.upto meshOfSpec)

/-- 'trivetlaw15.MeshAgain', WHERE WHAT IT READS IS OF BULK AT MOST 1048576: true; the input reads as it did. -/
def meshAgainUptoRow : OpenClaim := { program := "ytcgbnjoajieggaagreat", sum := "03b58ae5677287d223d055e63f5fd1fc6bfbc6659eb97c1a0a6fbc85ed580efc", func := "trivet/trivetlaw15.MeshAgain", spec := "meshAgain", inPlace := ["math.Float64bits", "math.Float64frombits", "math.archTrunc"], unfollowed := true, recurses := true, plainKeys := false, apart := false, narrowed := true }
def MeshAgainUptoSaid : Prop := meshAgainUptoRow.holds Tryz.pinned (OpenSpec.upto meshAgainSpec)

/-- 'trivetlaw15.MeshCounted', WHERE WHAT IT READS IS OF BULK AT MOST 1048576: true; the input reads as it did. -/
def meshCountedUptoRow : OpenClaim := { program := "ytcgbnjoajieggaagreat", sum := "03b58ae5677287d223d055e63f5fd1fc6bfbc6659eb97c1a0a6fbc85ed580efc", func := "trivet/trivetlaw15.MeshCounted", spec := "meshCounted", inPlace := ["math.Float64bits", "math.Float64frombits", "math.archTrunc"], unfollowed := true, recurses := true, plainKeys := false, apart := false, narrowed := true }
def MeshCountedUptoSaid : Prop := meshCountedUptoRow.holds Tryz.pinned (OpenSpec.upto meshCountedSpec)

/-- 'trivetlaw15.MeshUndone', WHERE WHAT IT READS IS OF BULK AT MOST 1048576: true; the input reads as it did. -/
def meshUndoneUptoRow : OpenClaim := { program := "ytcgbnjoajieggaagreat", sum := "03b58ae5677287d223d055e63f5fd1fc6bfbc6659eb97c1a0a6fbc85ed580efc", func := "trivet/trivetlaw15.MeshUndone", spec := "meshUndone", inPlace := ["math.Float64bits", "math.Float64frombits", "math.archTrunc"], unfollowed := true, recurses := true, plainKeys := false, apart := false, narrowed := true }
def MeshUndoneUptoSaid : Prop := meshUndoneUptoRow.holds Tryz.pinned (OpenSpec.upto meshUndoneSpec)

end Rows
end Go.Proofs.YtcgbnjoajieggaaGreat
