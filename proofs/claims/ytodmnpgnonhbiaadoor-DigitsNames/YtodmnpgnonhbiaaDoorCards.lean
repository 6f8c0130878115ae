/-
  DERIVED. GIVEN WITH THE SEED: THE CARDS: each row of YtodmnpgnonhbiaaDoorRows.lean that lists a variable, with what it lists TIED to the program's text (the seventh form; the later family's looks); each row that meets fmt, with fmt's text TOLD by the authors' own Lean function (tested against real Go, not proved from fmt's source: count such statements apart). THE CARD IS WHAT COUNTS. Prove the row's statement (the work); the ties are given (YtodmnpgnonhbiaaDoorTie.lean); close each card by the builder's one call (the guide's Derived/Test/ToyasCard.lean, 'card_holds'). Laid BY PROGRAM, IN A SANDBOX (cutbox-door.mjs). By AI agents, Wed Nov 11 2026. No macro, syntax, notation, axiom, sorry.
-/
import Derived.Test.YtodmnpgnonhbiaaDoorRows
import GoSem.ClaimSeven
namespace Go.Proofs.YtodmnpgnonhbiaaDoor
namespace Rows

/-- THE TIED CARD OF 'trivetlaw08.DigitsReads'. -/
def digitsReadsCard : Claim7 := { stood := { row := digitsReadsRow, standIns := [], harness := (true, "89daa2d59521f3f668ab95f432ef8dae85c22b99bbb398750ec810a5c7af2dc9"), looks := false }, kinds := [], alts := [], laidByText := true, laidKinds := [.data, .data, .data], laidTests := true, laidLooks := .later }
def DigitsReadsCardSaid : Prop := Claim7.holds Tryd.pinned (.plain (OpenSpec.ofChange digitsReadsSpec)) digitsReadsCard

/-- THE TIED CARD OF 'trivetlaw08.DigitsWrites'. -/
def digitsWritesCard : Claim7 := { stood := { row := digitsWritesRow, standIns := [], harness := (true, "89daa2d59521f3f668ab95f432ef8dae85c22b99bbb398750ec810a5c7af2dc9"), looks := false }, kinds := [], alts := [], laidByText := true, laidKinds := [.data, .data, .data], laidTests := true, laidLooks := .later }
def DigitsWritesCardSaid : Prop := Claim7.holds Tryd.pinned (.plain (OpenSpec.ofChange digitsWritesSpec)) digitsWritesCard

/-- THE TIED CARD OF 'trivetlaw08.DigitsNames'. -/
def digitsNamesCard : Claim7 := { stood := { row := digitsNamesRow, standIns := [], harness := (true, "89daa2d59521f3f668ab95f432ef8dae85c22b99bbb398750ec810a5c7af2dc9"), looks := false }, kinds := [], alts := [], laidByText := true, laidKinds := [.data, .data, .data], laidTests := true, laidLooks := .later }
def DigitsNamesCardSaid : Prop := Claim7.holds Tryd.pinned (.plain (OpenSpec.ofChange digitsNamesSpec)) digitsNamesCard

/-- THE TIED CARD OF 'trivetlaw08.DigitsBack'. -/
def digitsBackCard : Claim7 := { stood := { row := digitsBackRow, standIns := [], harness := (true, "89daa2d59521f3f668ab95f432ef8dae85c22b99bbb398750ec810a5c7af2dc9"), looks := false }, kinds := [], alts := [], laidByText := true, laidKinds := [.data, .data, .data], laidTests := true, laidLooks := .later }
def DigitsBackCardSaid : Prop := Claim7.holds Tryd.pinned (.plain (OpenSpec.ofChange digitsBackSpec)) digitsBackCard

/-- THE TIED CARD OF 'trivetlaw08.DigitsTwice'. -/
def digitsTwiceCard : Claim7 := { stood := { row := digitsTwiceRow, standIns := [], harness := (true, "89daa2d59521f3f668ab95f432ef8dae85c22b99bbb398750ec810a5c7af2dc9"), looks := false }, kinds := [], alts := [], laidByText := true, laidKinds := [.data, .data, .data], laidTests := true, laidLooks := .later }
def DigitsTwiceCardSaid : Prop := Claim7.holds Tryd.pinned (.plain (OpenSpec.ofChange digitsTwiceSpec)) digitsTwiceCard

/-- THE TIED CARD OF 'trivetlaw08.DigitsWhole'. -/
def digitsWholeCard : Claim7 := { stood := { row := digitsWholeRow, standIns := [], harness := (true, "89daa2d59521f3f668ab95f432ef8dae85c22b99bbb398750ec810a5c7af2dc9"), looks := false }, kinds := [], alts := [], laidByText := true, laidKinds := [.data, .data, .data], laidTests := true, laidLooks := .later }
def DigitsWholeCardSaid : Prop := Claim7.holds Tryd.pinned (.plain (OpenSpec.ofChange digitsWholeSpec)) digitsWholeCard

/-- THE SECOND FORM's CARD OF 'trivetlaw08.DigitsReads'. -/
def digitsReadsUptoCard : Claim7 := { stood := { row := digitsReadsUptoRow, standIns := [], harness := (true, "89daa2d59521f3f668ab95f432ef8dae85c22b99bbb398750ec810a5c7af2dc9"), looks := false }, kinds := [], alts := [], laidByText := true, laidKinds := [.data, .data, .data], laidTests := true, laidLooks := .later }
def DigitsReadsUptoCardSaid : Prop := Claim7.holds Tryd.pinned (.plain (OpenSpec.upto digitsReadsSpec)) digitsReadsUptoCard

/-- THE SECOND FORM's CARD OF 'trivetlaw08.DigitsWrites'. -/
def digitsWritesUptoCard : Claim7 := { stood := { row := digitsWritesUptoRow, standIns := [], harness := (true, "89daa2d59521f3f668ab95f432ef8dae85c22b99bbb398750ec810a5c7af2dc9"), looks := false }, kinds := [], alts := [], laidByText := true, laidKinds := [.data, .data, .data], laidTests := true, laidLooks := .later }
def DigitsWritesUptoCardSaid : Prop := Claim7.holds Tryd.pinned (.plain (OpenSpec.upto digitsWritesSpec)) digitsWritesUptoCard

/-- THE SECOND FORM's CARD OF 'trivetlaw08.DigitsNames'. -/
def digitsNamesUptoCard : Claim7 := { stood := { row := digitsNamesUptoRow, standIns := [], harness := (true, "89daa2d59521f3f668ab95f432ef8dae85c22b99bbb398750ec810a5c7af2dc9"), looks := false }, kinds := [], alts := [], laidByText := true, laidKinds := [.data, .data, .data], laidTests := true, laidLooks := .later }
def DigitsNamesUptoCardSaid : Prop := Claim7.holds Tryd.pinned (.plain (OpenSpec.upto digitsNamesSpec)) digitsNamesUptoCard

/-- THE SECOND FORM's CARD OF 'trivetlaw08.DigitsBack'. -/
def digitsBackUptoCard : Claim7 := { stood := { row := digitsBackUptoRow, standIns := [], harness := (true, "89daa2d59521f3f668ab95f432ef8dae85c22b99bbb398750ec810a5c7af2dc9"), looks := false }, kinds := [], alts := [], laidByText := true, laidKinds := [.data, .data, .data], laidTests := true, laidLooks := .later }
def DigitsBackUptoCardSaid : Prop := Claim7.holds Tryd.pinned (.plain (OpenSpec.upto digitsBackSpec)) digitsBackUptoCard

/-- THE SECOND FORM's CARD OF 'trivetlaw08.DigitsTwice'. -/
def digitsTwiceUptoCard : Claim7 := { stood := { row := digitsTwiceUptoRow, standIns := [], harness := (true, "89daa2d59521f3f668ab95f432ef8dae85c22b99bbb398750ec810a5c7af2dc9"), looks := false }, kinds := [], alts := [], laidByText := true, laidKinds := [.data, .data, .data], laidTests := true, laidLooks := .later }
def DigitsTwiceUptoCardSaid : Prop := Claim7.holds Tryd.pinned (.plain (OpenSpec.upto digitsTwiceSpec)) digitsTwiceUptoCard

/-- THE SECOND FORM's CARD OF 'trivetlaw08.DigitsWhole'. -/
def digitsWholeUptoCard : Claim7 := { stood := { row := digitsWholeUptoRow, standIns := [], harness := (true, "89daa2d59521f3f668ab95f432ef8dae85c22b99bbb398750ec810a5c7af2dc9"), looks := false }, kinds := [], alts := [], laidByText := true, laidKinds := [.data, .data, .data], laidTests := true, laidLooks := .later }
def DigitsWholeUptoCardSaid : Prop := Claim7.holds Tryd.pinned (.plain (OpenSpec.upto digitsWholeSpec)) digitsWholeUptoCard
end Rows
end Go.Proofs.YtodmnpgnonhbiaaDoor
