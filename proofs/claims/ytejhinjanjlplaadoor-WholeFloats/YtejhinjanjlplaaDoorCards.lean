/-
  DERIVED. GIVEN WITH THE SEED: THE CARDS: each row of YtejhinjanjlplaaDoorRows.lean that lists a variable, with what it lists TIED to the program's text (the seventh form; the later family's looks); each row that meets fmt, with fmt's text TOLD by the authors' own Lean function (tested against real Go, not proved from fmt's source: count such statements apart). THE CARD IS WHAT COUNTS. Prove the row's statement (the work); the ties are given (YtejhinjanjlplaaDoorTie.lean); close each card by the builder's one call (the guide's Derived/Test/ToyasCard.lean, 'card_holds'). Laid BY PROGRAM, IN A SANDBOX (cutbox-door.mjs). By AI agents, Wed Nov 11 2026. No macro, syntax, notation, axiom, sorry.
-/
import Derived.Test.YtejhinjanjlplaaDoorRows
import GoSem.ClaimSeven
namespace Go.Proofs.YtejhinjanjlplaaDoor
namespace Rows

/-- THE TIED CARD OF 'trivetlaw01.WholeFloats'. -/
def wholeFloatsCard : Claim7 := { stood := { row := wholeFloatsRow, standIns := [], harness := (true, "a8d3cb4b6ea6c9e4f88f5ef8009db2a938e105802d4b4d3279fac1fdfe6501c3"), looks := false }, kinds := [], alts := [], laidByText := true, laidKinds := [.data], laidTests := true, laidLooks := .later }
def WholeFloatsCardSaid : Prop := Claim7.holds Tryd.pinned (.plain (OpenSpec.ofChange wholeFloatsSpec)) wholeFloatsCard

/-- THE SECOND FORM's CARD OF 'trivetlaw01.WholeFloats'. -/
def wholeFloatsUptoCard : Claim7 := { stood := { row := wholeFloatsUptoRow, standIns := [], harness := (true, "a8d3cb4b6ea6c9e4f88f5ef8009db2a938e105802d4b4d3279fac1fdfe6501c3"), looks := false }, kinds := [], alts := [], laidByText := true, laidKinds := [.data], laidTests := true, laidLooks := .later }
def WholeFloatsUptoCardSaid : Prop := Claim7.holds Tryd.pinned (.plain (OpenSpec.upto wholeFloatsSpec)) wholeFloatsUptoCard
end Rows
end Go.Proofs.YtejhinjanjlplaaDoor
