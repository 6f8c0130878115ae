/-
  DERIVED. GIVEN WITH THE SEED: THE CARDS: each row of YtocnkgfoffpbfaaGreatDoorRows.lean that lists a variable, with what it lists TIED to the program's text (the seventh form; the later family's looks); each row that meets fmt, with fmt's text TOLD by the authors' own Lean function (tested against real Go, not proved from fmt's source: count such statements apart). THE CARD IS WHAT COUNTS. Prove the row's statement (the work); the ties are given (YtocnkgfoffpbfaaGreatDoorTie.lean); close each card by the builder's one call (the guide's Derived/Test/ToyasCard.lean, 'card_holds'). Laid BY PROGRAM, IN A SANDBOX (cutbox-door.mjs). By AI agents, Wed Nov 11 2026. No macro, syntax, notation, axiom, sorry.
-/
import Derived.Test.YtocnkgfoffpbfaaGreatDoorRows
import GoSem.ClaimSeven
namespace Go.Proofs.YtocnkgfoffpbfaaGreatDoor
namespace Rows

/-- THE TIED CARD OF 'trivetlaw06.GaugeLengths'. -/
def gaugeLengthsCard : Claim7 := { stood := { row := gaugeLengthsRow, standIns := [], harness := (true, "31080f9d9ebadf8d7c0840aaa92da0d8a8c7b716054c3dc40eec09738929a693"), looks := false }, kinds := [], alts := [], laidByText := true, laidKinds := [.data], laidTests := true, laidLooks := .later }
def GaugeLengthsCardSaid : Prop := Claim7.holds Tryz.pinned (.plain (OpenSpec.ofChange gaugeLengthsSpec)) gaugeLengthsCard

/-- THE TIED CARD OF 'trivetlaw06.GaugeAngles'. -/
def gaugeAnglesCard : Claim7 := { stood := { row := gaugeAnglesRow, standIns := [], harness := (true, "31080f9d9ebadf8d7c0840aaa92da0d8a8c7b716054c3dc40eec09738929a693"), looks := false }, kinds := [], alts := [], laidByText := true, laidKinds := [.data], laidTests := true, laidLooks := .later }
def GaugeAnglesCardSaid : Prop := Claim7.holds Tryz.pinned (.plain (OpenSpec.ofChange gaugeAnglesSpec)) gaugeAnglesCard

/-- THE TIED CARD OF 'trivetlaw06.GaugeCenters'. -/
def gaugeCentersCard : Claim7 := { stood := { row := gaugeCentersRow, standIns := [], harness := (true, "31080f9d9ebadf8d7c0840aaa92da0d8a8c7b716054c3dc40eec09738929a693"), looks := false }, kinds := [], alts := [], laidByText := true, laidKinds := [.data], laidTests := true, laidLooks := .later }
def GaugeCentersCardSaid : Prop := Claim7.holds Tryz.pinned (.plain (OpenSpec.ofChange gaugeCentersSpec)) gaugeCentersCard

/-- THE TIED CARD OF 'trivetlaw06.GaugePoints'. -/
def gaugePointsCard : Claim7 := { stood := { row := gaugePointsRow, standIns := [], harness := (true, "31080f9d9ebadf8d7c0840aaa92da0d8a8c7b716054c3dc40eec09738929a693"), looks := false }, kinds := [], alts := [], laidByText := true, laidKinds := [.data], laidTests := true, laidLooks := .later }
def GaugePointsCardSaid : Prop := Claim7.holds Tryz.pinned (.plain (OpenSpec.ofChange gaugePointsSpec)) gaugePointsCard

/-- THE TIED CARD OF 'trivetlaw06.GaugeTriangles'. -/
def gaugeTrianglesCard : Claim7 := { stood := { row := gaugeTrianglesRow, standIns := [], harness := (true, "31080f9d9ebadf8d7c0840aaa92da0d8a8c7b716054c3dc40eec09738929a693"), looks := false }, kinds := [], alts := [], laidByText := true, laidKinds := [.data], laidTests := true, laidLooks := .later }
def GaugeTrianglesCardSaid : Prop := Claim7.holds Tryz.pinned (.plain (OpenSpec.ofChange gaugeTrianglesSpec)) gaugeTrianglesCard

/-- THE TIED CARD OF 'trivetlaw06.GaugeOrder'. -/
def gaugeOrderCard : Claim7 := { stood := { row := gaugeOrderRow, standIns := [], harness := (true, "31080f9d9ebadf8d7c0840aaa92da0d8a8c7b716054c3dc40eec09738929a693"), looks := false }, kinds := [], alts := [], laidByText := true, laidKinds := [.data], laidTests := true, laidLooks := .later }
def GaugeOrderCardSaid : Prop := Claim7.holds Tryz.pinned (.plain (OpenSpec.ofChange gaugeOrderSpec)) gaugeOrderCard

/-- THE SECOND FORM's CARD OF 'trivetlaw06.GaugeLengths'. -/
def gaugeLengthsUptoCard : Claim7 := { stood := { row := gaugeLengthsUptoRow, standIns := [], harness := (true, "31080f9d9ebadf8d7c0840aaa92da0d8a8c7b716054c3dc40eec09738929a693"), looks := false }, kinds := [], alts := [], laidByText := true, laidKinds := [.data], laidTests := true, laidLooks := .later }
def GaugeLengthsUptoCardSaid : Prop := Claim7.holds Tryz.pinned (.plain (OpenSpec.upto gaugeLengthsSpec)) gaugeLengthsUptoCard

/-- THE SECOND FORM's CARD OF 'trivetlaw06.GaugeAngles'. -/
def gaugeAnglesUptoCard : Claim7 := { stood := { row := gaugeAnglesUptoRow, standIns := [], harness := (true, "31080f9d9ebadf8d7c0840aaa92da0d8a8c7b716054c3dc40eec09738929a693"), looks := false }, kinds := [], alts := [], laidByText := true, laidKinds := [.data], laidTests := true, laidLooks := .later }
def GaugeAnglesUptoCardSaid : Prop := Claim7.holds Tryz.pinned (.plain (OpenSpec.upto gaugeAnglesSpec)) gaugeAnglesUptoCard

/-- THE SECOND FORM's CARD OF 'trivetlaw06.GaugeCenters'. -/
def gaugeCentersUptoCard : Claim7 := { stood := { row := gaugeCentersUptoRow, standIns := [], harness := (true, "31080f9d9ebadf8d7c0840aaa92da0d8a8c7b716054c3dc40eec09738929a693"), looks := false }, kinds := [], alts := [], laidByText := true, laidKinds := [.data], laidTests := true, laidLooks := .later }
def GaugeCentersUptoCardSaid : Prop := Claim7.holds Tryz.pinned (.plain (OpenSpec.upto gaugeCentersSpec)) gaugeCentersUptoCard

/-- THE SECOND FORM's CARD OF 'trivetlaw06.GaugePoints'. -/
def gaugePointsUptoCard : Claim7 := { stood := { row := gaugePointsUptoRow, standIns := [], harness := (true, "31080f9d9ebadf8d7c0840aaa92da0d8a8c7b716054c3dc40eec09738929a693"), looks := false }, kinds := [], alts := [], laidByText := true, laidKinds := [.data], laidTests := true, laidLooks := .later }
def GaugePointsUptoCardSaid : Prop := Claim7.holds Tryz.pinned (.plain (OpenSpec.upto gaugePointsSpec)) gaugePointsUptoCard

/-- THE SECOND FORM's CARD OF 'trivetlaw06.GaugeTriangles'. -/
def gaugeTrianglesUptoCard : Claim7 := { stood := { row := gaugeTrianglesUptoRow, standIns := [], harness := (true, "31080f9d9ebadf8d7c0840aaa92da0d8a8c7b716054c3dc40eec09738929a693"), looks := false }, kinds := [], alts := [], laidByText := true, laidKinds := [.data], laidTests := true, laidLooks := .later }
def GaugeTrianglesUptoCardSaid : Prop := Claim7.holds Tryz.pinned (.plain (OpenSpec.upto gaugeTrianglesSpec)) gaugeTrianglesUptoCard

/-- THE SECOND FORM's CARD OF 'trivetlaw06.GaugeOrder'. -/
def gaugeOrderUptoCard : Claim7 := { stood := { row := gaugeOrderUptoRow, standIns := [], harness := (true, "31080f9d9ebadf8d7c0840aaa92da0d8a8c7b716054c3dc40eec09738929a693"), looks := false }, kinds := [], alts := [], laidByText := true, laidKinds := [.data], laidTests := true, laidLooks := .later }
def GaugeOrderUptoCardSaid : Prop := Claim7.holds Tryz.pinned (.plain (OpenSpec.upto gaugeOrderSpec)) gaugeOrderUptoCard
end Rows
end Go.Proofs.YtocnkgfoffpbfaaGreatDoor
