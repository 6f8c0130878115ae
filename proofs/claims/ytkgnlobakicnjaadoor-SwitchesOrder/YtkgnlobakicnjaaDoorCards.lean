/-
  DERIVED. GIVEN WITH THE SEED: THE CARDS: each row of YtkgnlobakicnjaaDoorRows.lean that lists a variable, with what it lists TIED to the program's text (the seventh form; the later family's looks); each row that meets fmt, with fmt's text TOLD by the authors' own Lean function (tested against real Go, not proved from fmt's source: count such statements apart). THE CARD IS WHAT COUNTS. Prove the row's statement (the work); the ties are given (YtkgnlobakicnjaaDoorTie.lean); close each card by the builder's one call (the guide's Derived/Test/ToyasCard.lean, 'card_holds'). Laid BY PROGRAM, IN A SANDBOX (cutbox-door.mjs). By AI agents, Wed Nov 11 2026. No macro, syntax, notation, axiom, sorry.
-/
import Derived.Test.YtkgnlobakicnjaaDoorRows
import GoSem.ClaimSeven
namespace Go.Proofs.YtkgnlobakicnjaaDoor
namespace Rows

/-- THE TIED CARD OF 'trivetlaw11.ElefileReads'. -/
def elefileReadsCard : Claim7 := { stood := { row := elefileReadsRow, standIns := [], harness := (true, "05f8499510efbdadc8b32e1e117c899f19c9b54959292f05a503ea11c6156454"), looks := false }, kinds := [], alts := [], laidByText := true, laidKinds := [.data], laidTests := true, laidLooks := .later }
def ElefileReadsCardSaid : Prop := Claim7.holds Tryd.pinned (.plain (OpenSpec.ofChange elefileReadsSpec)) elefileReadsCard

/-- THE TIED CARD OF 'trivetlaw14.SwitchesBack'. -/
def switchesBackCard : Claim7 := { stood := { row := switchesBackRow, standIns := [], harness := (true, "05f8499510efbdadc8b32e1e117c899f19c9b54959292f05a503ea11c6156454"), looks := false }, kinds := [], alts := [], laidByText := true, laidKinds := [.data, .data, .data, .data, .pinned], laidTests := true, laidLooks := .later }
def SwitchesBackCardSaid : Prop := Claim7.holds Tryd.pinned (.plain (OpenSpec.ofChange switchesBackSpec)) switchesBackCard

/-- THE TIED CARD OF 'trivetlaw14.SwitchesOrder'. -/
def switchesOrderCard : Claim7 := { stood := { row := switchesOrderRow, standIns := [], harness := (true, "05f8499510efbdadc8b32e1e117c899f19c9b54959292f05a503ea11c6156454"), looks := false }, kinds := [], alts := [], laidByText := true, laidKinds := [.data, .data, .data, .data, .pinned], laidTests := true, laidLooks := .later }
def SwitchesOrderCardSaid : Prop := Claim7.holds Tryd.pinned (.plain (OpenSpec.ofChange switchesOrderSpec)) switchesOrderCard

/-- THE SECOND FORM's CARD OF 'trivetlaw11.ElefileReads'. -/
def elefileReadsUptoCard : Claim7 := { stood := { row := elefileReadsUptoRow, standIns := [], harness := (true, "05f8499510efbdadc8b32e1e117c899f19c9b54959292f05a503ea11c6156454"), looks := false }, kinds := [], alts := [], laidByText := true, laidKinds := [.data], laidTests := true, laidLooks := .later }
def ElefileReadsUptoCardSaid : Prop := Claim7.holds Tryd.pinned (.plain (OpenSpec.upto elefileReadsSpec)) elefileReadsUptoCard

/-- THE SECOND FORM's CARD OF 'trivetlaw14.SwitchesBack'. -/
def switchesBackUptoCard : Claim7 := { stood := { row := switchesBackUptoRow, standIns := [], harness := (true, "05f8499510efbdadc8b32e1e117c899f19c9b54959292f05a503ea11c6156454"), looks := false }, kinds := [], alts := [], laidByText := true, laidKinds := [.data, .data, .data, .data, .pinned], laidTests := true, laidLooks := .later }
def SwitchesBackUptoCardSaid : Prop := Claim7.holds Tryd.pinned (.plain (OpenSpec.upto switchesBackSpec)) switchesBackUptoCard

/-- THE SECOND FORM's CARD OF 'trivetlaw14.SwitchesOrder'. -/
def switchesOrderUptoCard : Claim7 := { stood := { row := switchesOrderUptoRow, standIns := [], harness := (true, "05f8499510efbdadc8b32e1e117c899f19c9b54959292f05a503ea11c6156454"), looks := false }, kinds := [], alts := [], laidByText := true, laidKinds := [.data, .data, .data, .data, .pinned], laidTests := true, laidLooks := .later }
def SwitchesOrderUptoCardSaid : Prop := Claim7.holds Tryd.pinned (.plain (OpenSpec.upto switchesOrderSpec)) switchesOrderUptoCard
end Rows
end Go.Proofs.YtkgnlobakicnjaaDoor
