/-
  DERIVED. GIVEN WITH THE SEED: THE CARDS: each row of YtabofadjnbpjkaaDoorRows.lean that lists a variable, with what it lists TIED to the program's text (the seventh form; the later family's looks); each row that meets fmt, with fmt's text TOLD by the authors' own Lean function (tested against real Go, not proved from fmt's source: count such statements apart). THE CARD IS WHAT COUNTS. Prove the row's statement (the work); the ties are given (YtabofadjnbpjkaaDoorTie.lean); close each card by the builder's one call (the guide's Derived/Test/ToyasCard.lean, 'card_holds'). Laid BY PROGRAM, IN A SANDBOX (cutbox-door.mjs). By AI agents, Wed Nov 11 2026. No macro, syntax, notation, axiom, sorry.
-/
import Derived.Test.YtabofadjnbpjkaaDoorRows
import GoSem.ClaimSeven
namespace Go.Proofs.YtabofadjnbpjkaaDoor
namespace Rows

/-- THE TIED CARD OF 'posternlaw02.ScalarValues'. -/
def scalarValuesCard : Claim7 := { stood := { row := scalarValuesRow, standIns := [], harness := (true, "26981f1665fd328c90b38f89fd4310a18a1706bf96b7a742e1d40a676dc9b673"), looks := false }, kinds := [], alts := [], laidByText := true, laidKinds := [.data, .pinned], laidTests := true, laidLooks := .later }
def ScalarValuesCardSaid : Prop := Claim7.holds Tryd.pinned (.plain (OpenSpec.ofChange scalarValuesSpec)) scalarValuesCard

/-- THE TIED CARD OF 'posternlaw02.ScalarDecodes'. -/
def scalarDecodesCard : Claim7 := { stood := { row := scalarDecodesRow, standIns := [], harness := (true, "26981f1665fd328c90b38f89fd4310a18a1706bf96b7a742e1d40a676dc9b673"), looks := false }, kinds := [], alts := [], laidByText := true, laidKinds := [.data, .pinned], laidTests := true, laidLooks := .later }
def ScalarDecodesCardSaid : Prop := Claim7.holds Tryd.pinned (.plain (OpenSpec.ofChange scalarDecodesSpec)) scalarDecodesCard

/-- THE TIED CARD OF 'posternlaw02.ScalarAt'. -/
def scalarAtCard : Claim7 := { stood := { row := scalarAtRow, standIns := [], harness := (true, "26981f1665fd328c90b38f89fd4310a18a1706bf96b7a742e1d40a676dc9b673"), looks := false }, kinds := [], alts := [], laidByText := true, laidKinds := [.data, .pinned], laidTests := true, laidLooks := .later }
def ScalarAtCardSaid : Prop := Claim7.holds Tryd.pinned (.plain (OpenSpec.ofChange scalarAtSpec)) scalarAtCard

/-- THE TIED CARD OF 'posternlaw02.ScalarEncodes'. -/
def scalarEncodesCard : Claim7 := { stood := { row := scalarEncodesRow, standIns := [], harness := (true, "26981f1665fd328c90b38f89fd4310a18a1706bf96b7a742e1d40a676dc9b673"), looks := false }, kinds := [], alts := [], laidByText := true, laidKinds := [.data, .pinned], laidTests := true, laidLooks := .later }
def ScalarEncodesCardSaid : Prop := Claim7.holds Tryd.pinned (.plain (OpenSpec.ofChange scalarEncodesSpec)) scalarEncodesCard

/-- THE TIED CARD OF 'posternlaw02.ScalarUnits'. -/
def scalarUnitsCard : Claim7 := { stood := { row := scalarUnitsRow, standIns := [], harness := (true, "26981f1665fd328c90b38f89fd4310a18a1706bf96b7a742e1d40a676dc9b673"), looks := false }, kinds := [], alts := [], laidByText := true, laidKinds := [.data, .pinned], laidTests := true, laidLooks := .later }
def ScalarUnitsCardSaid : Prop := Claim7.holds Tryd.pinned (.plain (OpenSpec.ofChange scalarUnitsSpec)) scalarUnitsCard

/-- THE TIED CARD OF 'posternlaw02.ScalarCleans'. -/
def scalarCleansCard : Claim7 := { stood := { row := scalarCleansRow, standIns := [], harness := (true, "26981f1665fd328c90b38f89fd4310a18a1706bf96b7a742e1d40a676dc9b673"), looks := false }, kinds := [], alts := [], laidByText := true, laidKinds := [.data, .pinned], laidTests := true, laidLooks := .later }
def ScalarCleansCardSaid : Prop := Claim7.holds Tryd.pinned (.plain (OpenSpec.ofChange scalarCleansSpec)) scalarCleansCard

/-- THE SECOND FORM's CARD OF 'posternlaw02.ScalarValues'. -/
def scalarValuesUptoCard : Claim7 := { stood := { row := scalarValuesUptoRow, standIns := [], harness := (true, "26981f1665fd328c90b38f89fd4310a18a1706bf96b7a742e1d40a676dc9b673"), looks := false }, kinds := [], alts := [], laidByText := true, laidKinds := [.data, .pinned], laidTests := true, laidLooks := .later }
def ScalarValuesUptoCardSaid : Prop := Claim7.holds Tryd.pinned (.plain (OpenSpec.upto scalarValuesSpec)) scalarValuesUptoCard

/-- THE SECOND FORM's CARD OF 'posternlaw02.ScalarDecodes'. -/
def scalarDecodesUptoCard : Claim7 := { stood := { row := scalarDecodesUptoRow, standIns := [], harness := (true, "26981f1665fd328c90b38f89fd4310a18a1706bf96b7a742e1d40a676dc9b673"), looks := false }, kinds := [], alts := [], laidByText := true, laidKinds := [.data, .pinned], laidTests := true, laidLooks := .later }
def ScalarDecodesUptoCardSaid : Prop := Claim7.holds Tryd.pinned (.plain (OpenSpec.upto scalarDecodesSpec)) scalarDecodesUptoCard

/-- THE SECOND FORM's CARD OF 'posternlaw02.ScalarAt'. -/
def scalarAtUptoCard : Claim7 := { stood := { row := scalarAtUptoRow, standIns := [], harness := (true, "26981f1665fd328c90b38f89fd4310a18a1706bf96b7a742e1d40a676dc9b673"), looks := false }, kinds := [], alts := [], laidByText := true, laidKinds := [.data, .pinned], laidTests := true, laidLooks := .later }
def ScalarAtUptoCardSaid : Prop := Claim7.holds Tryd.pinned (.plain (OpenSpec.upto scalarAtSpec)) scalarAtUptoCard

/-- THE SECOND FORM's CARD OF 'posternlaw02.ScalarEncodes'. -/
def scalarEncodesUptoCard : Claim7 := { stood := { row := scalarEncodesUptoRow, standIns := [], harness := (true, "26981f1665fd328c90b38f89fd4310a18a1706bf96b7a742e1d40a676dc9b673"), looks := false }, kinds := [], alts := [], laidByText := true, laidKinds := [.data, .pinned], laidTests := true, laidLooks := .later }
def ScalarEncodesUptoCardSaid : Prop := Claim7.holds Tryd.pinned (.plain (OpenSpec.upto scalarEncodesSpec)) scalarEncodesUptoCard

/-- THE SECOND FORM's CARD OF 'posternlaw02.ScalarUnits'. -/
def scalarUnitsUptoCard : Claim7 := { stood := { row := scalarUnitsUptoRow, standIns := [], harness := (true, "26981f1665fd328c90b38f89fd4310a18a1706bf96b7a742e1d40a676dc9b673"), looks := false }, kinds := [], alts := [], laidByText := true, laidKinds := [.data, .pinned], laidTests := true, laidLooks := .later }
def ScalarUnitsUptoCardSaid : Prop := Claim7.holds Tryd.pinned (.plain (OpenSpec.upto scalarUnitsSpec)) scalarUnitsUptoCard

/-- THE SECOND FORM's CARD OF 'posternlaw02.ScalarCleans'. -/
def scalarCleansUptoCard : Claim7 := { stood := { row := scalarCleansUptoRow, standIns := [], harness := (true, "26981f1665fd328c90b38f89fd4310a18a1706bf96b7a742e1d40a676dc9b673"), looks := false }, kinds := [], alts := [], laidByText := true, laidKinds := [.data, .pinned], laidTests := true, laidLooks := .later }
def ScalarCleansUptoCardSaid : Prop := Claim7.holds Tryd.pinned (.plain (OpenSpec.upto scalarCleansSpec)) scalarCleansUptoCard
end Rows
end Go.Proofs.YtabofadjnbpjkaaDoor
