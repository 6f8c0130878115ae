/-
  No cell of these rows narrows 'for every input' (looked for: loops, veiled, ifaces, maps, wideKeys, modest, calm, conditions, laid).
  DERIVED. THE GIVEN ROWS OF THIS SEAT. 6 by the template 'for every input the law returns true; each argument reads behind the call as it read before'; 0 by the template 'total and deterministic' (their statements: YtglcngjllfgdpaaTotals.lean).
  GIVEN WITH THE SEED: the statements are not yours to turn. If you find one false, say at which input.
  Laid BY PROGRAM, IN A SANDBOX (cutbox-rows.mjs): the forced cells as the released guide's own fill.sh prints them over the translation 78d2aae4e1b458cd… (all of the seat's roots in one cut). By AI agents, Wed Nov 11 2026. No macro, syntax, notation, axiom, sorry.
-/
import Derived.Test.YtglcngjllfgdpaaChecked
import GoSem.Claim
import GoSem.ClaimJoined
import GoSem.ClaimMapViews
import Derived.JoinedTies
import Derived.KernelRfl
namespace Go.Proofs.Ytglcngjllfgdpaa
/- THE CELL 'sum', in the pinned program and in every row, IS THE sha256 OF THE DUMP (.gsa) THAT YtglcngjllfgdpaaProg.lean LOADS. Nothing in Lean hashes anything: it is a label: what it is worth is what the hold of that sum in a sandbox is worth. -/
noncomputable def Try.pinned : Pinned := { name := "ytglcngjllfgdpaa", sum := "78d2aae4e1b458cdbb5a7401d6ad5bbb01133e1ccf641b4d77b682557285d02e", checked := Try.checked }
namespace Rows
def none {H : Type} : Left H := { results := [], args := [] }

/-- 'trivetlaw02.EftSums': WHATEVER THE INPUT: true; the input reads as it did. -/
def eftSumsSpec : ChangeSpec := { name := "eftSums", fn := fun _ => fun
  | [d1, d2] => { results := [.lit (.bool true)], args := [d1, d2] }
  | _ => none }
def eftSumsRow : OpenClaim := { program := "ytglcngjllfgdpaa", sum := "78d2aae4e1b458cdbb5a7401d6ad5bbb01133e1ccf641b4d77b682557285d02e", func := "trivet/trivetlaw02.EftSums", spec := "eftSums", inPlace := ["math.Float64bits", "math.Float64frombits"], unfollowed := true, recurses := true, apart := false }
def EftSumsSaid : Prop := eftSumsRow.holds Try.pinned (OpenSpec.ofChange eftSumsSpec)

/-- ITS FALSE NEIGHBOUR: 'it returns false'. Refute it at one input. -/
def eftSumsWrong : ChangeSpec := { name := "eftSums", fn := fun _ => fun
  | [d1, d2] => { results := [.lit (.bool false)], args := [d1, d2] }
  | _ => none }
def EftSumsWrongFalsely : Prop := eftSumsRow.holds Try.pinned (OpenSpec.ofChange eftSumsWrong)

/-- 'trivetlaw02.EftProducts': WHATEVER THE INPUT: true; the input reads as it did. -/
def eftProductsSpec : ChangeSpec := { name := "eftProducts", fn := fun _ => fun
  | [d1, d2] => { results := [.lit (.bool true)], args := [d1, d2] }
  | _ => none }
def eftProductsRow : OpenClaim := { program := "ytglcngjllfgdpaa", sum := "78d2aae4e1b458cdbb5a7401d6ad5bbb01133e1ccf641b4d77b682557285d02e", func := "trivet/trivetlaw02.EftProducts", spec := "eftProducts", inPlace := ["math.Float64bits", "math.Float64frombits"], unfollowed := true, recurses := true, apart := false }
def EftProductsSaid : Prop := eftProductsRow.holds Try.pinned (OpenSpec.ofChange eftProductsSpec)

/-- ITS FALSE NEIGHBOUR: 'it returns false'. Refute it at one input. -/
def eftProductsWrong : ChangeSpec := { name := "eftProducts", fn := fun _ => fun
  | [d1, d2] => { results := [.lit (.bool false)], args := [d1, d2] }
  | _ => none }
def EftProductsWrongFalsely : Prop := eftProductsRow.holds Try.pinned (OpenSpec.ofChange eftProductsWrong)

/-- 'trivetlaw02.EftHalves': WHATEVER THE INPUT: true; the input reads as it did. -/
def eftHalvesSpec : ChangeSpec := { name := "eftHalves", fn := fun _ => fun
  | [d1, d2] => { results := [.lit (.bool true)], args := [d1, d2] }
  | _ => none }
def eftHalvesRow : OpenClaim := { program := "ytglcngjllfgdpaa", sum := "78d2aae4e1b458cdbb5a7401d6ad5bbb01133e1ccf641b4d77b682557285d02e", func := "trivet/trivetlaw02.EftHalves", spec := "eftHalves", inPlace := ["math.Float64bits", "math.Float64frombits"], unfollowed := true, recurses := true, apart := false }
def EftHalvesSaid : Prop := eftHalvesRow.holds Try.pinned (OpenSpec.ofChange eftHalvesSpec)

/-- ITS FALSE NEIGHBOUR: 'it returns false'. Refute it at one input. -/
def eftHalvesWrong : ChangeSpec := { name := "eftHalves", fn := fun _ => fun
  | [d1, d2] => { results := [.lit (.bool false)], args := [d1, d2] }
  | _ => none }
def EftHalvesWrongFalsely : Prop := eftHalvesRow.holds Try.pinned (OpenSpec.ofChange eftHalvesWrong)

/-- 'trivetlaw03.ExpandNames': WHATEVER THE INPUT: true; the input reads as it did. -/
def expandNamesSpec : ChangeSpec := { name := "expandNames", fn := fun _ => fun
  | [] => { results := [.lit (.bool true)], args := [] }
  | _ => none }
def expandNamesRow : OpenClaim := { program := "ytglcngjllfgdpaa", sum := "78d2aae4e1b458cdbb5a7401d6ad5bbb01133e1ccf641b4d77b682557285d02e", func := "trivet/trivetlaw03.ExpandNames", spec := "expandNames", inPlace := ["math.Float64bits", "math.Float64frombits"], unfollowed := true, recurses := true, apart := false }
def ExpandNamesSaid : Prop := expandNamesRow.holds Try.pinned (OpenSpec.ofChange expandNamesSpec)

/-- ITS FALSE NEIGHBOUR: 'it returns false'. Refute it at one input. -/
def expandNamesWrong : ChangeSpec := { name := "expandNames", fn := fun _ => fun
  | [] => { results := [.lit (.bool false)], args := [] }
  | _ => none }
def ExpandNamesWrongFalsely : Prop := expandNamesRow.holds Try.pinned (OpenSpec.ofChange expandNamesWrong)

/-- 'trivetlaw03.ExpandMuls': WHATEVER THE INPUT: true; the input reads as it did. -/
def expandMulsSpec : ChangeSpec := { name := "expandMuls", fn := fun _ => fun
  | [d1, d2, d3] => { results := [.lit (.bool true)], args := [d1, d2, d3] }
  | _ => none }
def expandMulsRow : OpenClaim := { program := "ytglcngjllfgdpaa", sum := "78d2aae4e1b458cdbb5a7401d6ad5bbb01133e1ccf641b4d77b682557285d02e", func := "trivet/trivetlaw03.ExpandMuls", spec := "expandMuls", inPlace := ["math.Float64bits", "math.Float64frombits"], unfollowed := true, recurses := true, apart := false }
def ExpandMulsSaid : Prop := expandMulsRow.holds Try.pinned (OpenSpec.ofChange expandMulsSpec)

/-- ITS FALSE NEIGHBOUR: 'it returns false'. Refute it at one input. -/
def expandMulsWrong : ChangeSpec := { name := "expandMuls", fn := fun _ => fun
  | [d1, d2, d3] => { results := [.lit (.bool false)], args := [d1, d2, d3] }
  | _ => none }
def ExpandMulsWrongFalsely : Prop := expandMulsRow.holds Try.pinned (OpenSpec.ofChange expandMulsWrong)

/-- 'trivetlaw03.ExpandSigns': WHATEVER THE INPUT: true; the input reads as it did. -/
def expandSignsSpec : ChangeSpec := { name := "expandSigns", fn := fun _ => fun
  | [d1, d2, d3] => { results := [.lit (.bool true)], args := [d1, d2, d3] }
  | _ => none }
def expandSignsRow : OpenClaim := { program := "ytglcngjllfgdpaa", sum := "78d2aae4e1b458cdbb5a7401d6ad5bbb01133e1ccf641b4d77b682557285d02e", func := "trivet/trivetlaw03.ExpandSigns", spec := "expandSigns", inPlace := ["math.Float64bits", "math.Float64frombits"], unfollowed := true, recurses := true, apart := false }
def ExpandSignsSaid : Prop := expandSignsRow.holds Try.pinned (OpenSpec.ofChange expandSignsSpec)

/-- ITS FALSE NEIGHBOUR: 'it returns false'. Refute it at one input. -/
def expandSignsWrong : ChangeSpec := { name := "expandSigns", fn := fun _ => fun
  | [d1, d2, d3] => { results := [.lit (.bool false)], args := [d1, d2, d3] }
  | _ => none }
def ExpandSignsWrongFalsely : Prop := expandSignsRow.holds Try.pinned (OpenSpec.ofChange expandSignsWrong)

/- THE SECOND FORM. 'bulk': how many values and letters a reading holds, each counted each time it is reached (what is shared counts as often as it is met; a slice's spare places count too). A statement '..UptoSaid' is the law's where the arguments, and the package variables that the reading takes, are together of bulk at most 1048576: NARROWER than '..Said'. Prove '..Said' where nothing that the law and all that it calls make is longer than what came in: it says more and counts as full. Else prove '..UptoSaid'. A law counts once. -/
mutual
def uptoBulk {H : Type} : DataW H → Nat
  | .lit (.string bytes) => bytes.length + 1
  | .lit _ => 1
  | .nil => 1
  | .ptr d => uptoBulk d + 1
  | .slice elems spare => uptoBulkAll elems + uptoBulkAll spare + 1
  | .agg parts => uptoBulkAll parts + 1
  | .iface _ d => uptoBulk d + 1
  | .map entries => uptoBulkEntries entries + 1
  | .held _ => 1
def uptoBulkAll {H : Type} : List (DataW H) → Nat
  | [] => 0
  | d :: r => uptoBulk d + uptoBulkAll r
def uptoBulkEntries {H : Type} : List (Lit × DataW H) → Nat
  | [] => 0
  | x :: r => uptoBulkEntry x + uptoBulkEntries r
def uptoBulkEntry {H : Type} : Lit × DataW H → Nat
  | (.string bytes, d) => bytes.length + uptoBulk d + 1
  | (_, d) => uptoBulk d + 1
 end
def uptoSmall : (H : Type) → List (DataW H) → Bool := fun _ ds => decide (uptoBulkAll ds ≤ 1048576)
def OpenSpec.upto (s : _root_.Go.ChangeSpec) : _root_.Go.OpenSpec := { _root_.Go.OpenSpec.ofChange s with cond := some uptoSmall }

/-- 'trivetlaw02.EftSums', WHERE WHAT IT READS IS OF BULK AT MOST 1048576: true; the input reads as it did. -/
def eftSumsUptoRow : OpenClaim := { program := "ytglcngjllfgdpaa", sum := "78d2aae4e1b458cdbb5a7401d6ad5bbb01133e1ccf641b4d77b682557285d02e", func := "trivet/trivetlaw02.EftSums", spec := "eftSums", inPlace := ["math.Float64bits", "math.Float64frombits"], unfollowed := true, recurses := true, apart := false, narrowed := true }
def EftSumsUptoSaid : Prop := eftSumsUptoRow.holds Try.pinned (OpenSpec.upto eftSumsSpec)

/-- 'trivetlaw02.EftProducts', WHERE WHAT IT READS IS OF BULK AT MOST 1048576: true; the input reads as it did. -/
def eftProductsUptoRow : OpenClaim := { program := "ytglcngjllfgdpaa", sum := "78d2aae4e1b458cdbb5a7401d6ad5bbb01133e1ccf641b4d77b682557285d02e", func := "trivet/trivetlaw02.EftProducts", spec := "eftProducts", inPlace := ["math.Float64bits", "math.Float64frombits"], unfollowed := true, recurses := true, apart := false, narrowed := true }
def EftProductsUptoSaid : Prop := eftProductsUptoRow.holds Try.pinned (OpenSpec.upto eftProductsSpec)

/-- 'trivetlaw02.EftHalves', WHERE WHAT IT READS IS OF BULK AT MOST 1048576: true; the input reads as it did. -/
def eftHalvesUptoRow : OpenClaim := { program := "ytglcngjllfgdpaa", sum := "78d2aae4e1b458cdbb5a7401d6ad5bbb01133e1ccf641b4d77b682557285d02e", func := "trivet/trivetlaw02.EftHalves", spec := "eftHalves", inPlace := ["math.Float64bits", "math.Float64frombits"], unfollowed := true, recurses := true, apart := false, narrowed := true }
def EftHalvesUptoSaid : Prop := eftHalvesUptoRow.holds Try.pinned (OpenSpec.upto eftHalvesSpec)

/-- 'trivetlaw03.ExpandNames', WHERE WHAT IT READS IS OF BULK AT MOST 1048576: true; the input reads as it did. -/
def expandNamesUptoRow : OpenClaim := { program := "ytglcngjllfgdpaa", sum := "78d2aae4e1b458cdbb5a7401d6ad5bbb01133e1ccf641b4d77b682557285d02e", func := "trivet/trivetlaw03.ExpandNames", spec := "expandNames", inPlace := ["math.Float64bits", "math.Float64frombits"], unfollowed := true, recurses := true, apart := false, narrowed := true }
def ExpandNamesUptoSaid : Prop := expandNamesUptoRow.holds Try.pinned (OpenSpec.upto expandNamesSpec)

/-- 'trivetlaw03.ExpandMuls', WHERE WHAT IT READS IS OF BULK AT MOST 1048576: true; the input reads as it did. -/
def expandMulsUptoRow : OpenClaim := { program := "ytglcngjllfgdpaa", sum := "78d2aae4e1b458cdbb5a7401d6ad5bbb01133e1ccf641b4d77b682557285d02e", func := "trivet/trivetlaw03.ExpandMuls", spec := "expandMuls", inPlace := ["math.Float64bits", "math.Float64frombits"], unfollowed := true, recurses := true, apart := false, narrowed := true }
def ExpandMulsUptoSaid : Prop := expandMulsUptoRow.holds Try.pinned (OpenSpec.upto expandMulsSpec)

/-- 'trivetlaw03.ExpandSigns', WHERE WHAT IT READS IS OF BULK AT MOST 1048576: true; the input reads as it did. -/
def expandSignsUptoRow : OpenClaim := { program := "ytglcngjllfgdpaa", sum := "78d2aae4e1b458cdbb5a7401d6ad5bbb01133e1ccf641b4d77b682557285d02e", func := "trivet/trivetlaw03.ExpandSigns", spec := "expandSigns", inPlace := ["math.Float64bits", "math.Float64frombits"], unfollowed := true, recurses := true, apart := false, narrowed := true }
def ExpandSignsUptoSaid : Prop := expandSignsUptoRow.holds Try.pinned (OpenSpec.upto expandSignsSpec)

end Rows
end Go.Proofs.Ytglcngjllfgdpaa
