/-
  DERIVED. GIVEN WITH THE SEED: THE CARDS: each row of YtmcllgoeldfgmaaDoorRows.lean that lists a variable, with what it lists TIED to the program's text (the seventh form; the later family's looks); each row that meets fmt, with fmt's text TOLD by the authors' own Lean function (tested against real Go, not proved from fmt's source: count such statements apart). THE CARD IS WHAT COUNTS. Prove the row's statement (the work); the ties are given (YtmcllgoeldfgmaaDoorTie.lean); close each card by the builder's one call (the guide's Derived/Test/ToyasCard.lean, 'card_holds'). Laid BY PROGRAM, IN A SANDBOX (cutbox-door.mjs). By AI agents, Wed Nov 11 2026. No macro, syntax, notation, axiom, sorry.
-/
import Derived.Test.YtmcllgoeldfgmaaDoorRows
import GoSem.ClaimSeven
namespace Go.Proofs.YtmcllgoeldfgmaaDoor
namespace Rows

/-- THE TIED CARD OF 'trivetlaw01.WholeNames'. -/
def wholeNamesCard : Claim7 := { stood := { row := wholeNamesRow, standIns := [], harness := (true, "db2b1e7329170c5e20235c2e53ad2a3b5b8ea44eb8333f8b3076fe71d49d412c"), looks := false }, kinds := [], alts := [], laidByText := true, laidKinds := [.data], laidTests := true, laidLooks := .later }
def WholeNamesCardSaid : Prop := Claim7.holds Tryd.pinned (.plain (OpenSpec.ofChange wholeNamesSpec)) wholeNamesCard

/-- THE TIED CARD OF 'trivetlaw01.WholeReckons'. -/
def wholeReckonsCard : Claim7 := { stood := { row := wholeReckonsRow, standIns := [], harness := (true, "db2b1e7329170c5e20235c2e53ad2a3b5b8ea44eb8333f8b3076fe71d49d412c"), looks := false }, kinds := [], alts := [], laidByText := true, laidKinds := [.data], laidTests := true, laidLooks := .later }
def WholeReckonsCardSaid : Prop := Claim7.holds Tryd.pinned (.plain (OpenSpec.ofChange wholeReckonsSpec)) wholeReckonsCard

/-- THE TIED CARD OF 'trivetlaw01.WholeFloats'. -/
def wholeFloatsCard : Claim7 := { stood := { row := wholeFloatsRow, standIns := [], harness := (true, "db2b1e7329170c5e20235c2e53ad2a3b5b8ea44eb8333f8b3076fe71d49d412c"), looks := false }, kinds := [], alts := [], laidByText := true, laidKinds := [.data], laidTests := true, laidLooks := .later }
def WholeFloatsCardSaid : Prop := Claim7.holds Tryd.pinned (.plain (OpenSpec.ofChange wholeFloatsSpec)) wholeFloatsCard

/-- THE TIED CARD OF 'trivetlaw03.ExpandWhole'. -/
def expandWholeCard : Claim7 := { stood := { row := expandWholeRow, standIns := [], harness := (true, "db2b1e7329170c5e20235c2e53ad2a3b5b8ea44eb8333f8b3076fe71d49d412c"), looks := false }, kinds := [], alts := [], laidByText := true, laidKinds := [.data], laidTests := true, laidLooks := .later }
def ExpandWholeCardSaid : Prop := Claim7.holds Tryd.pinned (.plain (OpenSpec.ofChange expandWholeSpec)) expandWholeCard

/-- THE TIED CARD OF 'trivetlaw03.ExpandLeads'. -/
def expandLeadsCard : Claim7 := { stood := { row := expandLeadsRow, standIns := [], harness := (true, "db2b1e7329170c5e20235c2e53ad2a3b5b8ea44eb8333f8b3076fe71d49d412c"), looks := false }, kinds := [], alts := [], laidByText := true, laidKinds := [.data], laidTests := true, laidLooks := .later }
def ExpandLeadsCardSaid : Prop := Claim7.holds Tryd.pinned (.plain (OpenSpec.ofChange expandLeadsSpec)) expandLeadsCard

/-- THE SECOND FORM's CARD OF 'trivetlaw01.WholeNames'. -/
def wholeNamesUptoCard : Claim7 := { stood := { row := wholeNamesUptoRow, standIns := [], harness := (true, "db2b1e7329170c5e20235c2e53ad2a3b5b8ea44eb8333f8b3076fe71d49d412c"), looks := false }, kinds := [], alts := [], laidByText := true, laidKinds := [.data], laidTests := true, laidLooks := .later }
def WholeNamesUptoCardSaid : Prop := Claim7.holds Tryd.pinned (.plain (OpenSpec.upto wholeNamesSpec)) wholeNamesUptoCard

/-- THE SECOND FORM's CARD OF 'trivetlaw01.WholeReckons'. -/
def wholeReckonsUptoCard : Claim7 := { stood := { row := wholeReckonsUptoRow, standIns := [], harness := (true, "db2b1e7329170c5e20235c2e53ad2a3b5b8ea44eb8333f8b3076fe71d49d412c"), looks := false }, kinds := [], alts := [], laidByText := true, laidKinds := [.data], laidTests := true, laidLooks := .later }
def WholeReckonsUptoCardSaid : Prop := Claim7.holds Tryd.pinned (.plain (OpenSpec.upto wholeReckonsSpec)) wholeReckonsUptoCard

/-- THE SECOND FORM's CARD OF 'trivetlaw01.WholeFloats'. -/
def wholeFloatsUptoCard : Claim7 := { stood := { row := wholeFloatsUptoRow, standIns := [], harness := (true, "db2b1e7329170c5e20235c2e53ad2a3b5b8ea44eb8333f8b3076fe71d49d412c"), looks := false }, kinds := [], alts := [], laidByText := true, laidKinds := [.data], laidTests := true, laidLooks := .later }
def WholeFloatsUptoCardSaid : Prop := Claim7.holds Tryd.pinned (.plain (OpenSpec.upto wholeFloatsSpec)) wholeFloatsUptoCard

/-- THE SECOND FORM's CARD OF 'trivetlaw03.ExpandWhole'. -/
def expandWholeUptoCard : Claim7 := { stood := { row := expandWholeUptoRow, standIns := [], harness := (true, "db2b1e7329170c5e20235c2e53ad2a3b5b8ea44eb8333f8b3076fe71d49d412c"), looks := false }, kinds := [], alts := [], laidByText := true, laidKinds := [.data], laidTests := true, laidLooks := .later }
def ExpandWholeUptoCardSaid : Prop := Claim7.holds Tryd.pinned (.plain (OpenSpec.upto expandWholeSpec)) expandWholeUptoCard

/-- THE SECOND FORM's CARD OF 'trivetlaw03.ExpandLeads'. -/
def expandLeadsUptoCard : Claim7 := { stood := { row := expandLeadsUptoRow, standIns := [], harness := (true, "db2b1e7329170c5e20235c2e53ad2a3b5b8ea44eb8333f8b3076fe71d49d412c"), looks := false }, kinds := [], alts := [], laidByText := true, laidKinds := [.data], laidTests := true, laidLooks := .later }
def ExpandLeadsUptoCardSaid : Prop := Claim7.holds Tryd.pinned (.plain (OpenSpec.upto expandLeadsSpec)) expandLeadsUptoCard
end Rows
end Go.Proofs.YtmcllgoeldfgmaaDoor
