/-
  DERIVED. GIVEN WITH THE SEED: THE CARDS: each row of YtabofadjnbpjkabDoorRows.lean that lists a variable, with what it lists TIED to the program's text (the seventh form; the later family's looks); each row that meets fmt, with fmt's text TOLD by the authors' own Lean function (tested against real Go, not proved from fmt's source: count such statements apart). THE CARD IS WHAT COUNTS. Prove the row's statement (the work); the ties are given (YtabofadjnbpjkabDoorTie.lean); close each card by the builder's one call (the guide's Derived/Test/ToyasCard.lean, 'card_holds'). Laid BY PROGRAM, IN A SANDBOX (cutbox-door.mjs). By AI agents, Wed Nov 11 2026. No macro, syntax, notation, axiom, sorry.
-/
import Derived.Test.YtabofadjnbpjkabDoorRows
import GoSem.ClaimSeven
namespace Go.Proofs.YtabofadjnbpjkabDoor
namespace Rows

/-- THE TIED CARD OF 'posternlaw02.ScalarBack'. -/
def scalarBackCard : Claim7 := { stood := { row := scalarBackRow, standIns := [], harness := (true, "343920e212d4c9283012b7a0fd010b0847d555370654db318a9907e901cedbe7"), looks := false }, kinds := [], alts := [], laidByText := true, laidKinds := [.data, .pinned], laidTests := true, laidLooks := .later }
def ScalarBackCardSaid : Prop := Claim7.holds Tryd.pinned (.plain (OpenSpec.ofChange scalarBackSpec)) scalarBackCard

/-- THE TIED CARD OF 'posternlaw02.ScalarFeeds'. -/
def scalarFeedsCard : Claim7 := { stood := { row := scalarFeedsRow, standIns := [], harness := (true, "343920e212d4c9283012b7a0fd010b0847d555370654db318a9907e901cedbe7"), looks := false }, kinds := [], alts := [], laidByText := true, laidKinds := [.data, .pinned], laidTests := true, laidLooks := .later }
def ScalarFeedsCardSaid : Prop := Claim7.holds Tryd.pinned (.plain (OpenSpec.ofChange scalarFeedsSpec)) scalarFeedsCard

/-- THE TIED CARD OF 'posternlaw02.ScalarTwo'. -/
def scalarTwoCard : Claim7 := { stood := { row := scalarTwoRow, standIns := [], harness := (true, "343920e212d4c9283012b7a0fd010b0847d555370654db318a9907e901cedbe7"), looks := false }, kinds := [], alts := [], laidByText := true, laidKinds := [.data, .pinned], laidTests := true, laidLooks := .later }
def ScalarTwoCardSaid : Prop := Claim7.holds Tryd.pinned (.plain (OpenSpec.ofChange scalarTwoSpec)) scalarTwoCard

/-- THE TIED CARD OF 'posternlaw02.ScalarMemory'. -/
def scalarMemoryCard : Claim7 := { stood := { row := scalarMemoryRow, standIns := [], harness := (true, "343920e212d4c9283012b7a0fd010b0847d555370654db318a9907e901cedbe7"), looks := false }, kinds := [], alts := [], laidByText := true, laidKinds := [.data, .pinned], laidTests := true, laidLooks := .later }
def ScalarMemoryCardSaid : Prop := Claim7.holds Tryd.pinned (.plain (OpenSpec.ofChange scalarMemorySpec)) scalarMemoryCard

/-- THE TIED CARD OF 'posternlaw02.ScalarPlaces'. -/
def scalarPlacesCard : Claim7 := { stood := { row := scalarPlacesRow, standIns := [], harness := (true, "343920e212d4c9283012b7a0fd010b0847d555370654db318a9907e901cedbe7"), looks := false }, kinds := [], alts := [], laidByText := true, laidKinds := [.data, .pinned], laidTests := true, laidLooks := .later }
def ScalarPlacesCardSaid : Prop := Claim7.holds Tryd.pinned (.plain (OpenSpec.ofChange scalarPlacesSpec)) scalarPlacesCard

/-- THE TIED CARD OF 'posternlaw02.ScalarUnit'. -/
def scalarUnitCard : Claim7 := { stood := { row := scalarUnitRow, standIns := [], harness := (true, "343920e212d4c9283012b7a0fd010b0847d555370654db318a9907e901cedbe7"), looks := false }, kinds := [], alts := [], laidByText := true, laidKinds := [.data, .pinned], laidTests := true, laidLooks := .later }
def ScalarUnitCardSaid : Prop := Claim7.holds Tryd.pinned (.plain (OpenSpec.ofChange scalarUnitSpec)) scalarUnitCard

/-- THE SECOND FORM's CARD OF 'posternlaw02.ScalarBack'. -/
def scalarBackUptoCard : Claim7 := { stood := { row := scalarBackUptoRow, standIns := [], harness := (true, "343920e212d4c9283012b7a0fd010b0847d555370654db318a9907e901cedbe7"), looks := false }, kinds := [], alts := [], laidByText := true, laidKinds := [.data, .pinned], laidTests := true, laidLooks := .later }
def ScalarBackUptoCardSaid : Prop := Claim7.holds Tryd.pinned (.plain (OpenSpec.upto scalarBackSpec)) scalarBackUptoCard

/-- THE SECOND FORM's CARD OF 'posternlaw02.ScalarFeeds'. -/
def scalarFeedsUptoCard : Claim7 := { stood := { row := scalarFeedsUptoRow, standIns := [], harness := (true, "343920e212d4c9283012b7a0fd010b0847d555370654db318a9907e901cedbe7"), looks := false }, kinds := [], alts := [], laidByText := true, laidKinds := [.data, .pinned], laidTests := true, laidLooks := .later }
def ScalarFeedsUptoCardSaid : Prop := Claim7.holds Tryd.pinned (.plain (OpenSpec.upto scalarFeedsSpec)) scalarFeedsUptoCard

/-- THE SECOND FORM's CARD OF 'posternlaw02.ScalarTwo'. -/
def scalarTwoUptoCard : Claim7 := { stood := { row := scalarTwoUptoRow, standIns := [], harness := (true, "343920e212d4c9283012b7a0fd010b0847d555370654db318a9907e901cedbe7"), looks := false }, kinds := [], alts := [], laidByText := true, laidKinds := [.data, .pinned], laidTests := true, laidLooks := .later }
def ScalarTwoUptoCardSaid : Prop := Claim7.holds Tryd.pinned (.plain (OpenSpec.upto scalarTwoSpec)) scalarTwoUptoCard

/-- THE SECOND FORM's CARD OF 'posternlaw02.ScalarMemory'. -/
def scalarMemoryUptoCard : Claim7 := { stood := { row := scalarMemoryUptoRow, standIns := [], harness := (true, "343920e212d4c9283012b7a0fd010b0847d555370654db318a9907e901cedbe7"), looks := false }, kinds := [], alts := [], laidByText := true, laidKinds := [.data, .pinned], laidTests := true, laidLooks := .later }
def ScalarMemoryUptoCardSaid : Prop := Claim7.holds Tryd.pinned (.plain (OpenSpec.upto scalarMemorySpec)) scalarMemoryUptoCard

/-- THE SECOND FORM's CARD OF 'posternlaw02.ScalarPlaces'. -/
def scalarPlacesUptoCard : Claim7 := { stood := { row := scalarPlacesUptoRow, standIns := [], harness := (true, "343920e212d4c9283012b7a0fd010b0847d555370654db318a9907e901cedbe7"), looks := false }, kinds := [], alts := [], laidByText := true, laidKinds := [.data, .pinned], laidTests := true, laidLooks := .later }
def ScalarPlacesUptoCardSaid : Prop := Claim7.holds Tryd.pinned (.plain (OpenSpec.upto scalarPlacesSpec)) scalarPlacesUptoCard

/-- THE SECOND FORM's CARD OF 'posternlaw02.ScalarUnit'. -/
def scalarUnitUptoCard : Claim7 := { stood := { row := scalarUnitUptoRow, standIns := [], harness := (true, "343920e212d4c9283012b7a0fd010b0847d555370654db318a9907e901cedbe7"), looks := false }, kinds := [], alts := [], laidByText := true, laidKinds := [.data, .pinned], laidTests := true, laidLooks := .later }
def ScalarUnitUptoCardSaid : Prop := Claim7.holds Tryd.pinned (.plain (OpenSpec.upto scalarUnitSpec)) scalarUnitUptoCard
end Rows
end Go.Proofs.YtabofadjnbpjkabDoor
