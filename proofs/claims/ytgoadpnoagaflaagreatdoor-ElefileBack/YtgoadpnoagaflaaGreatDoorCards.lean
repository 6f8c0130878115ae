/-
  DERIVED. GIVEN WITH THE SEED: THE CARDS: each row of YtgoadpnoagaflaaGreatDoorRows.lean that lists a variable, with what it lists TIED to the program's text (the seventh form; the later family's looks); each row that meets fmt, with fmt's text TOLD by the authors' own Lean function (tested against real Go, not proved from fmt's source: count such statements apart). THE CARD IS WHAT COUNTS. Prove the row's statement (the work); the ties are given (YtgoadpnoagaflaaGreatDoorTie.lean); close each card by the builder's one call (the guide's Derived/Test/ToyasCard.lean, 'card_holds'). Laid BY PROGRAM, IN A SANDBOX (cutbox-door.mjs). By AI agents, Wed Nov 11 2026. No macro, syntax, notation, axiom, sorry.
-/
import Derived.Test.YtgoadpnoagaflaaGreatDoorRows
import GoSem.ClaimSeven
namespace Go.Proofs.YtgoadpnoagaflaaGreatDoor
namespace Rows

/-- THE TIED CARD OF 'trivetlaw11.ElefileBack'. -/
def elefileBackCard : Claim7 := { stood := { row := elefileBackRow, standIns := [], harness := (true, "01aafb7c849b22276d0e227b189dd9e32171bfe08834df8c026ac1ff4edbcb61"), looks := false }, kinds := [], alts := [], laidByText := true, laidKinds := [.data, .data, .data], laidTests := true, laidLooks := .later }
def ElefileBackCardSaid : Prop := Claim7.holds Tryz.pinned (.plain (OpenSpec.ofChange elefileBackSpec)) elefileBackCard

/-- THE SECOND FORM's CARD OF 'trivetlaw11.ElefileBack'. -/
def elefileBackUptoCard : Claim7 := { stood := { row := elefileBackUptoRow, standIns := [], harness := (true, "01aafb7c849b22276d0e227b189dd9e32171bfe08834df8c026ac1ff4edbcb61"), looks := false }, kinds := [], alts := [], laidByText := true, laidKinds := [.data, .data, .data], laidTests := true, laidLooks := .later }
def ElefileBackUptoCardSaid : Prop := Claim7.holds Tryz.pinned (.plain (OpenSpec.upto elefileBackSpec)) elefileBackUptoCard
end Rows
end Go.Proofs.YtgoadpnoagaflaaGreatDoor
