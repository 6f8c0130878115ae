/-
  DERIVED. GIVEN WITH THE SEED: THE CARDS: each row of YtgoadpnoagaflaaDoorRows.lean that lists a variable, with what it lists TIED to the program's text (the seventh form; the later family's looks); each row that meets fmt, with fmt's text TOLD by the authors' own Lean function (tested against real Go, not proved from fmt's source: count such statements apart). THE CARD IS WHAT COUNTS. Prove the row's statement (the work); the ties are given (YtgoadpnoagaflaaDoorTie.lean); close each card by the builder's one call (the guide's Derived/Test/ToyasCard.lean, 'card_holds'). Laid BY PROGRAM, IN A SANDBOX (cutbox-door.mjs). By AI agents, Wed Nov 11 2026. No macro, syntax, notation, axiom, sorry.
-/
import Derived.Test.YtgoadpnoagaflaaDoorRows
import GoSem.ClaimSeven
namespace Go.Proofs.YtgoadpnoagaflaaDoor
namespace Rows

/-- THE TIED CARD OF 'trivetlaw11.ElefileNames'. -/
def elefileNamesCard : Claim7 := { stood := { row := elefileNamesRow, standIns := [], harness := (true, "e22355020c488b447b5b2ce198429c5ec6aebb6522884a803d0752842bf912cb"), looks := false }, kinds := [], alts := [], laidByText := true, laidKinds := [.data, .data, .data], laidTests := true, laidLooks := .later }
def ElefileNamesCardSaid : Prop := Claim7.holds Tryd.pinned (.plain (OpenSpec.ofChange elefileNamesSpec)) elefileNamesCard

/-- THE TIED CARD OF 'trivetlaw11.ElefileReads'. -/
def elefileReadsCard : Claim7 := { stood := { row := elefileReadsRow, standIns := [], harness := (true, "e22355020c488b447b5b2ce198429c5ec6aebb6522884a803d0752842bf912cb"), looks := false }, kinds := [], alts := [], laidByText := true, laidKinds := [.data], laidTests := true, laidLooks := .later }
def ElefileReadsCardSaid : Prop := Claim7.holds Tryd.pinned (.plain (OpenSpec.ofChange elefileReadsSpec)) elefileReadsCard

/-- THE TIED CARD OF 'trivetlaw11.ElefileWrites'. -/
def elefileWritesCard : Claim7 := { stood := { row := elefileWritesRow, standIns := [], harness := (true, "e22355020c488b447b5b2ce198429c5ec6aebb6522884a803d0752842bf912cb"), looks := false }, kinds := [], alts := [], laidByText := true, laidKinds := [.data, .data, .data], laidTests := true, laidLooks := .later }
def ElefileWritesCardSaid : Prop := Claim7.holds Tryd.pinned (.plain (OpenSpec.ofChange elefileWritesSpec)) elefileWritesCard

/-- THE SECOND FORM's CARD OF 'trivetlaw11.ElefileNames'. -/
def elefileNamesUptoCard : Claim7 := { stood := { row := elefileNamesUptoRow, standIns := [], harness := (true, "e22355020c488b447b5b2ce198429c5ec6aebb6522884a803d0752842bf912cb"), looks := false }, kinds := [], alts := [], laidByText := true, laidKinds := [.data, .data, .data], laidTests := true, laidLooks := .later }
def ElefileNamesUptoCardSaid : Prop := Claim7.holds Tryd.pinned (.plain (OpenSpec.upto elefileNamesSpec)) elefileNamesUptoCard

/-- THE SECOND FORM's CARD OF 'trivetlaw11.ElefileReads'. -/
def elefileReadsUptoCard : Claim7 := { stood := { row := elefileReadsUptoRow, standIns := [], harness := (true, "e22355020c488b447b5b2ce198429c5ec6aebb6522884a803d0752842bf912cb"), looks := false }, kinds := [], alts := [], laidByText := true, laidKinds := [.data], laidTests := true, laidLooks := .later }
def ElefileReadsUptoCardSaid : Prop := Claim7.holds Tryd.pinned (.plain (OpenSpec.upto elefileReadsSpec)) elefileReadsUptoCard

/-- THE SECOND FORM's CARD OF 'trivetlaw11.ElefileWrites'. -/
def elefileWritesUptoCard : Claim7 := { stood := { row := elefileWritesUptoRow, standIns := [], harness := (true, "e22355020c488b447b5b2ce198429c5ec6aebb6522884a803d0752842bf912cb"), looks := false }, kinds := [], alts := [], laidByText := true, laidKinds := [.data, .data, .data], laidTests := true, laidLooks := .later }
def ElefileWritesUptoCardSaid : Prop := Claim7.holds Tryd.pinned (.plain (OpenSpec.upto elefileWritesSpec)) elefileWritesUptoCard
end Rows
end Go.Proofs.YtgoadpnoagaflaaDoor
