/-
  DERIVED. GIVEN WITH THE SEED: THE CARDS: each row of YtofklahgpkmfmaaGreatDoorRows.lean that lists a variable, with what it lists TIED to the program's text (the seventh form; the later family's looks); each row that meets fmt, with fmt's text TOLD by the authors' own Lean function (tested against real Go, not proved from fmt's source: count such statements apart). THE CARD IS WHAT COUNTS. Prove the row's statement (the work); the ties are given (YtofklahgpkmfmaaGreatDoorTie.lean); close each card by the builder's one call (the guide's Derived/Test/ToyasCard.lean, 'card_holds'). Laid BY PROGRAM, IN A SANDBOX (cutbox-door.mjs). By AI agents, Wed Nov 11 2026. No macro, syntax, notation, axiom, sorry.
-/
import Derived.Test.YtofklahgpkmfmaaGreatDoorRows
import GoSem.ClaimSeven
namespace Go.Proofs.YtofklahgpkmfmaaGreatDoor
namespace Rows

/-- THE TIED CARD OF 'trivetlaw10.NodefileReads'. -/
def nodefileReadsCard : Claim7 := { stood := { row := nodefileReadsRow, standIns := [], harness := (true, "6e5de145b385ae919ec7982c486a0904ada67fb088b5a2d58e1da5a35c92fa45"), looks := true }, kinds := [], alts := [], laidByText := true, laidKinds := [.data, .data, .data, .handle], laidTests := true, laidLooks := .later }
def NodefileReadsCardSaid : Prop := Claim7.holds Tryz.pinned (.plain (OpenSpec.ofChange nodefileReadsSpec)) nodefileReadsCard

/-- THE TIED CARD OF 'trivetlaw10.NodefileWrites'. -/
def nodefileWritesCard : Claim7 := { stood := { row := nodefileWritesRow, standIns := [], harness := (true, "6e5de145b385ae919ec7982c486a0904ada67fb088b5a2d58e1da5a35c92fa45"), looks := true }, kinds := [], alts := [], laidByText := true, laidKinds := [.data, .data, .data, .handle], laidTests := true, laidLooks := .later }
def NodefileWritesCardSaid : Prop := Claim7.holds Tryz.pinned (.plain (OpenSpec.ofChange nodefileWritesSpec)) nodefileWritesCard

/-- THE TIED CARD OF 'trivetlaw10.NodefileNames'. -/
def nodefileNamesCard : Claim7 := { stood := { row := nodefileNamesRow, standIns := [], harness := (true, "6e5de145b385ae919ec7982c486a0904ada67fb088b5a2d58e1da5a35c92fa45"), looks := true }, kinds := [], alts := [], laidByText := true, laidKinds := [.data, .data, .data, .handle], laidTests := true, laidLooks := .later }
def NodefileNamesCardSaid : Prop := Claim7.holds Tryz.pinned (.plain (OpenSpec.ofChange nodefileNamesSpec)) nodefileNamesCard

/-- THE TIED CARD OF 'trivetlaw10.NodefileBack'. -/
def nodefileBackCard : Claim7 := { stood := { row := nodefileBackRow, standIns := [], harness := (true, "6e5de145b385ae919ec7982c486a0904ada67fb088b5a2d58e1da5a35c92fa45"), looks := true }, kinds := [], alts := [], laidByText := true, laidKinds := [.data, .data, .data, .handle], laidTests := true, laidLooks := .later }
def NodefileBackCardSaid : Prop := Claim7.holds Tryz.pinned (.plain (OpenSpec.ofChange nodefileBackSpec)) nodefileBackCard

/-- THE TIED CARD OF 'trivetlaw10.NodefileBlanks'. -/
def nodefileBlanksCard : Claim7 := { stood := { row := nodefileBlanksRow, standIns := [], harness := (true, "6e5de145b385ae919ec7982c486a0904ada67fb088b5a2d58e1da5a35c92fa45"), looks := true }, kinds := [], alts := [], laidByText := true, laidKinds := [.data, .data, .data, .handle], laidTests := true, laidLooks := .later }
def NodefileBlanksCardSaid : Prop := Claim7.holds Tryz.pinned (.plain (OpenSpec.ofChange nodefileBlanksSpec)) nodefileBlanksCard

/-- THE SECOND FORM's CARD OF 'trivetlaw10.NodefileReads'. -/
def nodefileReadsUptoCard : Claim7 := { stood := { row := nodefileReadsUptoRow, standIns := [], harness := (true, "6e5de145b385ae919ec7982c486a0904ada67fb088b5a2d58e1da5a35c92fa45"), looks := true }, kinds := [], alts := [], laidByText := true, laidKinds := [.data, .data, .data, .handle], laidTests := true, laidLooks := .later }
def NodefileReadsUptoCardSaid : Prop := Claim7.holds Tryz.pinned (.plain (OpenSpec.upto nodefileReadsSpec)) nodefileReadsUptoCard

/-- THE SECOND FORM's CARD OF 'trivetlaw10.NodefileWrites'. -/
def nodefileWritesUptoCard : Claim7 := { stood := { row := nodefileWritesUptoRow, standIns := [], harness := (true, "6e5de145b385ae919ec7982c486a0904ada67fb088b5a2d58e1da5a35c92fa45"), looks := true }, kinds := [], alts := [], laidByText := true, laidKinds := [.data, .data, .data, .handle], laidTests := true, laidLooks := .later }
def NodefileWritesUptoCardSaid : Prop := Claim7.holds Tryz.pinned (.plain (OpenSpec.upto nodefileWritesSpec)) nodefileWritesUptoCard

/-- THE SECOND FORM's CARD OF 'trivetlaw10.NodefileNames'. -/
def nodefileNamesUptoCard : Claim7 := { stood := { row := nodefileNamesUptoRow, standIns := [], harness := (true, "6e5de145b385ae919ec7982c486a0904ada67fb088b5a2d58e1da5a35c92fa45"), looks := true }, kinds := [], alts := [], laidByText := true, laidKinds := [.data, .data, .data, .handle], laidTests := true, laidLooks := .later }
def NodefileNamesUptoCardSaid : Prop := Claim7.holds Tryz.pinned (.plain (OpenSpec.upto nodefileNamesSpec)) nodefileNamesUptoCard

/-- THE SECOND FORM's CARD OF 'trivetlaw10.NodefileBack'. -/
def nodefileBackUptoCard : Claim7 := { stood := { row := nodefileBackUptoRow, standIns := [], harness := (true, "6e5de145b385ae919ec7982c486a0904ada67fb088b5a2d58e1da5a35c92fa45"), looks := true }, kinds := [], alts := [], laidByText := true, laidKinds := [.data, .data, .data, .handle], laidTests := true, laidLooks := .later }
def NodefileBackUptoCardSaid : Prop := Claim7.holds Tryz.pinned (.plain (OpenSpec.upto nodefileBackSpec)) nodefileBackUptoCard

/-- THE SECOND FORM's CARD OF 'trivetlaw10.NodefileBlanks'. -/
def nodefileBlanksUptoCard : Claim7 := { stood := { row := nodefileBlanksUptoRow, standIns := [], harness := (true, "6e5de145b385ae919ec7982c486a0904ada67fb088b5a2d58e1da5a35c92fa45"), looks := true }, kinds := [], alts := [], laidByText := true, laidKinds := [.data, .data, .data, .handle], laidTests := true, laidLooks := .later }
def NodefileBlanksUptoCardSaid : Prop := Claim7.holds Tryz.pinned (.plain (OpenSpec.upto nodefileBlanksSpec)) nodefileBlanksUptoCard
end Rows
end Go.Proofs.YtofklahgpkmfmaaGreatDoor
