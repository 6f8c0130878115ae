/-
  DERIVED. GIVEN WITH THE SEED: THE CARDS: each row of YtgfloegaoofbbaaDoorRows.lean that lists a variable, with what it lists TIED to the program's text (the seventh form; the later family's looks); each row that meets fmt, with fmt's text TOLD by the authors' own Lean function (tested against real Go, not proved from fmt's source: count such statements apart). THE CARD IS WHAT COUNTS. Prove the row's statement (the work); the ties are given (YtgfloegaoofbbaaDoorTie.lean); close each card by the builder's one call (the guide's Derived/Test/ToyasCard.lean, 'card_holds'). Laid BY PROGRAM, IN A SANDBOX (cutbox-door.mjs). By AI agents, Wed Nov 11 2026. No macro, syntax, notation, axiom, sorry.
-/
import Derived.Test.YtgfloegaoofbbaaDoorRows
import GoSem.ClaimSeven
namespace Go.Proofs.YtgfloegaoofbbaaDoor
namespace Rows

/-- THE TIED CARD OF 'trivetlaw11.ElefileReads'. -/
def elefileReadsCard : Claim7 := { stood := { row := elefileReadsRow, standIns := [], harness := (true, "67d76ac8ca80cd42ab08168b460c89e656ca90f07bdfcf4aa8b93b18710dfc0e"), looks := false }, kinds := [], alts := [], laidByText := true, laidKinds := [.data], laidTests := true, laidLooks := .later }
def ElefileReadsCardSaid : Prop := Claim7.holds Tryd.pinned (.plain (OpenSpec.ofChange elefileReadsSpec)) elefileReadsCard

/-- THE SECOND FORM's CARD OF 'trivetlaw11.ElefileReads'. -/
def elefileReadsUptoCard : Claim7 := { stood := { row := elefileReadsUptoRow, standIns := [], harness := (true, "67d76ac8ca80cd42ab08168b460c89e656ca90f07bdfcf4aa8b93b18710dfc0e"), looks := false }, kinds := [], alts := [], laidByText := true, laidKinds := [.data], laidTests := true, laidLooks := .later }
def ElefileReadsUptoCardSaid : Prop := Claim7.holds Tryd.pinned (.plain (OpenSpec.upto elefileReadsSpec)) elefileReadsUptoCard
end Rows
end Go.Proofs.YtgfloegaoofbbaaDoor
