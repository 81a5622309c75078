/-
  DERIVED. GIVEN WITH THE SEED: THE CARDS: each row of YtoliiccmfmgmlaaDoorRows.lean that lists a variable, with what it lists TIED to the program's text (the seventh form; the later family's looks); each row that meets fmt, with fmt's text TOLD by the authors' own Lean function (tested against real Go, not proved from fmt's source: count such statements apart). THE CARD IS WHAT COUNTS. Prove the row's statement (the work); the ties are given (YtoliiccmfmgmlaaDoorTie.lean); close each card by the builder's one call (the guide's Derived/Test/ToyasCard.lean, 'card_holds'). Laid BY PROGRAM, IN A SANDBOX (cutbox-door.mjs). By AI agents, Wed Nov 11 2026. No macro, syntax, notation, axiom, sorry.
-/
import Derived.Test.YtoliiccmfmgmlaaDoorRows
import GoSem.ClaimSeven
namespace Go.Proofs.YtoliiccmfmgmlaaDoor
namespace Rows

/-- THE TIED CARD OF 'posternlaw03.PercentForms'. -/
def percentFormsCard : Claim7 := { stood := { row := percentFormsRow, standIns := [], harness := (true, "07610e427cde748088cd24e2d440f86d07fd56bc9caf36c66d57bcdb554465bb"), looks := false }, kinds := [], alts := [], laidByText := true, laidKinds := [.data, .pinned], laidTests := true, laidLooks := .later }
def PercentFormsCardSaid : Prop := Claim7.holds Tryd.pinned (.plain (OpenSpec.ofChange percentFormsSpec)) percentFormsCard

/-- THE TIED CARD OF 'posternlaw03.PercentBack'. -/
def percentBackCard : Claim7 := { stood := { row := percentBackRow, standIns := [], harness := (true, "07610e427cde748088cd24e2d440f86d07fd56bc9caf36c66d57bcdb554465bb"), looks := false }, kinds := [], alts := [], laidByText := true, laidKinds := [.data, .pinned], laidTests := true, laidLooks := .later }
def PercentBackCardSaid : Prop := Claim7.holds Tryd.pinned (.plain (OpenSpec.ofChange percentBackSpec)) percentBackCard

/-- THE SECOND FORM's CARD OF 'posternlaw03.PercentForms'. -/
def percentFormsUptoCard : Claim7 := { stood := { row := percentFormsUptoRow, standIns := [], harness := (true, "07610e427cde748088cd24e2d440f86d07fd56bc9caf36c66d57bcdb554465bb"), looks := false }, kinds := [], alts := [], laidByText := true, laidKinds := [.data, .pinned], laidTests := true, laidLooks := .later }
def PercentFormsUptoCardSaid : Prop := Claim7.holds Tryd.pinned (.plain (OpenSpec.upto percentFormsSpec)) percentFormsUptoCard

/-- THE SECOND FORM's CARD OF 'posternlaw03.PercentBack'. -/
def percentBackUptoCard : Claim7 := { stood := { row := percentBackUptoRow, standIns := [], harness := (true, "07610e427cde748088cd24e2d440f86d07fd56bc9caf36c66d57bcdb554465bb"), looks := false }, kinds := [], alts := [], laidByText := true, laidKinds := [.data, .pinned], laidTests := true, laidLooks := .later }
def PercentBackUptoCardSaid : Prop := Claim7.holds Tryd.pinned (.plain (OpenSpec.upto percentBackSpec)) percentBackUptoCard
end Rows
end Go.Proofs.YtoliiccmfmgmlaaDoor
