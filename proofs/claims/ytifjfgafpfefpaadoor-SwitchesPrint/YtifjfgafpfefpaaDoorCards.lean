/-
  DERIVED. GIVEN WITH THE SEED: THE CARDS: each row of YtifjfgafpfefpaaDoorRows.lean that lists a variable, with what it lists TIED to the program's text (the seventh form; the later family's looks); each row that meets fmt, with fmt's text TOLD by the authors' own Lean function (tested against real Go, not proved from fmt's source: count such statements apart). THE CARD IS WHAT COUNTS. Prove the row's statement (the work); the ties are given (YtifjfgafpfefpaaDoorTie.lean); close each card by the builder's one call (the guide's Derived/Test/ToyasCard.lean, 'card_holds'). Laid BY PROGRAM, IN A SANDBOX (cutbox-door.mjs). By AI agents, Wed Nov 11 2026. No macro, syntax, notation, axiom, sorry.
-/
import Derived.Test.YtifjfgafpfefpaaDoorRows
import GoSem.ClaimSeven
namespace Go.Proofs.YtifjfgafpfefpaaDoor
namespace Rows

/-- THE TIED CARD OF 'trivetlaw14.SwitchesPrint'. -/
def switchesPrintCard : Claim7 := { stood := { row := switchesPrintRow, standIns := [], harness := (true, "2fc9ad2d1911256c015b4ac8d89e391a8f8795daf0ef6ab4975be10a48c84934"), looks := false }, kinds := [], alts := [], laidByText := true, laidKinds := [.data, .data, .data, .data, .pinned], laidTests := true, laidLooks := .later }
def SwitchesPrintCardSaid : Prop := Claim7.holds Tryd.pinned (.plain (OpenSpec.ofChange switchesPrintSpec)) switchesPrintCard

/-- THE TIED CARD OF 'trivetlaw14.SwitchesNames'. -/
def switchesNamesCard : Claim7 := { stood := { row := switchesNamesRow, standIns := [], harness := (true, "2fc9ad2d1911256c015b4ac8d89e391a8f8795daf0ef6ab4975be10a48c84934"), looks := false }, kinds := [], alts := [], laidByText := true, laidKinds := [.data, .data, .data, .data, .pinned], laidTests := true, laidLooks := .later }
def SwitchesNamesCardSaid : Prop := Claim7.holds Tryd.pinned (.plain (OpenSpec.ofChange switchesNamesSpec)) switchesNamesCard

/-- THE TIED CARD OF 'trivetlaw14.SwitchesBack'. -/
def switchesBackCard : Claim7 := { stood := { row := switchesBackRow, standIns := [], harness := (true, "2fc9ad2d1911256c015b4ac8d89e391a8f8795daf0ef6ab4975be10a48c84934"), looks := false }, kinds := [], alts := [], laidByText := true, laidKinds := [.data, .data, .data, .data, .pinned], laidTests := true, laidLooks := .later }
def SwitchesBackCardSaid : Prop := Claim7.holds Tryd.pinned (.plain (OpenSpec.ofChange switchesBackSpec)) switchesBackCard

/-- THE TIED CARD OF 'trivetlaw14.SwitchesOrder'. -/
def switchesOrderCard : Claim7 := { stood := { row := switchesOrderRow, standIns := [], harness := (true, "2fc9ad2d1911256c015b4ac8d89e391a8f8795daf0ef6ab4975be10a48c84934"), looks := false }, kinds := [], alts := [], laidByText := true, laidKinds := [.data, .data, .data, .data, .pinned], laidTests := true, laidLooks := .later }
def SwitchesOrderCardSaid : Prop := Claim7.holds Tryd.pinned (.plain (OpenSpec.ofChange switchesOrderSpec)) switchesOrderCard

/-- THE SECOND FORM's CARD OF 'trivetlaw14.SwitchesPrint'. -/
def switchesPrintUptoCard : Claim7 := { stood := { row := switchesPrintUptoRow, standIns := [], harness := (true, "2fc9ad2d1911256c015b4ac8d89e391a8f8795daf0ef6ab4975be10a48c84934"), looks := false }, kinds := [], alts := [], laidByText := true, laidKinds := [.data, .data, .data, .data, .pinned], laidTests := true, laidLooks := .later }
def SwitchesPrintUptoCardSaid : Prop := Claim7.holds Tryd.pinned (.plain (OpenSpec.upto switchesPrintSpec)) switchesPrintUptoCard

/-- THE SECOND FORM's CARD OF 'trivetlaw14.SwitchesNames'. -/
def switchesNamesUptoCard : Claim7 := { stood := { row := switchesNamesUptoRow, standIns := [], harness := (true, "2fc9ad2d1911256c015b4ac8d89e391a8f8795daf0ef6ab4975be10a48c84934"), looks := false }, kinds := [], alts := [], laidByText := true, laidKinds := [.data, .data, .data, .data, .pinned], laidTests := true, laidLooks := .later }
def SwitchesNamesUptoCardSaid : Prop := Claim7.holds Tryd.pinned (.plain (OpenSpec.upto switchesNamesSpec)) switchesNamesUptoCard

/-- THE SECOND FORM's CARD OF 'trivetlaw14.SwitchesBack'. -/
def switchesBackUptoCard : Claim7 := { stood := { row := switchesBackUptoRow, standIns := [], harness := (true, "2fc9ad2d1911256c015b4ac8d89e391a8f8795daf0ef6ab4975be10a48c84934"), looks := false }, kinds := [], alts := [], laidByText := true, laidKinds := [.data, .data, .data, .data, .pinned], laidTests := true, laidLooks := .later }
def SwitchesBackUptoCardSaid : Prop := Claim7.holds Tryd.pinned (.plain (OpenSpec.upto switchesBackSpec)) switchesBackUptoCard

/-- THE SECOND FORM's CARD OF 'trivetlaw14.SwitchesOrder'. -/
def switchesOrderUptoCard : Claim7 := { stood := { row := switchesOrderUptoRow, standIns := [], harness := (true, "2fc9ad2d1911256c015b4ac8d89e391a8f8795daf0ef6ab4975be10a48c84934"), looks := false }, kinds := [], alts := [], laidByText := true, laidKinds := [.data, .data, .data, .data, .pinned], laidTests := true, laidLooks := .later }
def SwitchesOrderUptoCardSaid : Prop := Claim7.holds Tryd.pinned (.plain (OpenSpec.upto switchesOrderSpec)) switchesOrderUptoCard
end Rows
end Go.Proofs.YtifjfgafpfefpaaDoor
