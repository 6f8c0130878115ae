/-
  DERIVED. GIVEN WITH THE SEED: THE CARDS: each row of YtfcgndgmbmkdgaaDoorRows.lean that lists a variable, with what it lists TIED to the program's text (the seventh form; the later family's looks); each row that meets fmt, with fmt's text TOLD by the authors' own Lean function (tested against real Go, not proved from fmt's source: count such statements apart). THE CARD IS WHAT COUNTS. Prove the row's statement (the work); the ties are given (YtfcgndgmbmkdgaaDoorTie.lean); close each card by the builder's one call (the guide's Derived/Test/ToyasCard.lean, 'card_holds'). Laid BY PROGRAM, IN A SANDBOX (cutbox-door.mjs). By AI agents, Wed Nov 11 2026. No macro, syntax, notation, axiom, sorry.
-/
import Derived.Test.YtfcgndgmbmkdgaaDoorRows
import GoSem.ClaimSeven
namespace Go.Proofs.YtfcgndgmbmkdgaaDoor
namespace Rows

/-- THE TIED CARD OF 'trivetlaw03.ExpandWhole'. -/
def expandWholeCard : Claim7 := { stood := { row := expandWholeRow, standIns := [], harness := (true, "f800f0de03c9e7ba27acc3610d0edb604b603fdf75ae2f5674eae36ce27a997d"), looks := false }, kinds := [], alts := [], laidByText := true, laidKinds := [.data], laidTests := true, laidLooks := .later }
def ExpandWholeCardSaid : Prop := Claim7.holds Tryd.pinned (.plain (OpenSpec.ofChange expandWholeSpec)) expandWholeCard

/-- THE SECOND FORM's CARD OF 'trivetlaw03.ExpandWhole'. -/
def expandWholeUptoCard : Claim7 := { stood := { row := expandWholeUptoRow, standIns := [], harness := (true, "f800f0de03c9e7ba27acc3610d0edb604b603fdf75ae2f5674eae36ce27a997d"), looks := false }, kinds := [], alts := [], laidByText := true, laidKinds := [.data], laidTests := true, laidLooks := .later }
def ExpandWholeUptoCardSaid : Prop := Claim7.holds Tryd.pinned (.plain (OpenSpec.upto expandWholeSpec)) expandWholeUptoCard
end Rows
end Go.Proofs.YtfcgndgmbmkdgaaDoor
