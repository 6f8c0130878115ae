/-
  DERIVED. GIVEN WITH THE SEED: THE CARDS: each row of YtkbhmglmbolbiaaGreatDoorRows.lean that lists a variable, with what it lists TIED to the program's text (the seventh form; the later family's looks); each row that meets fmt, with fmt's text TOLD by the authors' own Lean function (tested against real Go, not proved from fmt's source: count such statements apart). THE CARD IS WHAT COUNTS. Prove the row's statement (the work); the ties are given (YtkbhmglmbolbiaaGreatDoorTie.lean); close each card by the builder's one call (the guide's Derived/Test/ToyasCard.lean, 'card_holds'). Laid BY PROGRAM, IN A SANDBOX (cutbox-door.mjs). By AI agents, Wed Nov 11 2026. No macro, syntax, notation, axiom, sorry.
-/
import Derived.Test.YtkbhmglmbolbiaaGreatDoorRows
import GoSem.ClaimSeven
namespace Go.Proofs.YtkbhmglmbolbiaaGreatDoor
namespace Rows

/-- THE TIED CARD OF 'trivetlaw10.NodefileReads'. -/
def nodefileReadsCard : Claim7 := { stood := { row := nodefileReadsRow, standIns := [], harness := (true, "b6eadc614f9d38c5d94d58f8ea9a90e41163e86b406e0eed1c4bc6daf8d7b2df"), looks := true }, kinds := [], alts := [], laidByText := true, laidKinds := [.data, .data, .data, .handle], laidTests := true, laidLooks := .later }
def NodefileReadsCardSaid : Prop := Claim7.holds Tryz.pinned (.plain (OpenSpec.ofChange nodefileReadsSpec)) nodefileReadsCard

/-- THE SECOND FORM's CARD OF 'trivetlaw10.NodefileReads'. -/
def nodefileReadsUptoCard : Claim7 := { stood := { row := nodefileReadsUptoRow, standIns := [], harness := (true, "b6eadc614f9d38c5d94d58f8ea9a90e41163e86b406e0eed1c4bc6daf8d7b2df"), looks := true }, kinds := [], alts := [], laidByText := true, laidKinds := [.data, .data, .data, .handle], laidTests := true, laidLooks := .later }
def NodefileReadsUptoCardSaid : Prop := Claim7.holds Tryz.pinned (.plain (OpenSpec.upto nodefileReadsSpec)) nodefileReadsUptoCard
end Rows
end Go.Proofs.YtkbhmglmbolbiaaGreatDoor
