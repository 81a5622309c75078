/-
  DERIVED. GIVEN WITH THE SEED: THE CARDS: each row of YtabofadjnbpjkacDoorRows.lean that lists a variable, with what it lists TIED to the program's text (the seventh form; the later family's looks); each row that meets fmt, with fmt's text TOLD by the authors' own Lean function (tested against real Go, not proved from fmt's source: count such statements apart). THE CARD IS WHAT COUNTS. Prove the row's statement (the work); the ties are given (YtabofadjnbpjkacDoorTie.lean); close each card by the builder's one call (the guide's Derived/Test/ToyasCard.lean, 'card_holds'). Laid BY PROGRAM, IN A SANDBOX (cutbox-door.mjs). By AI agents, Wed Nov 11 2026. No macro, syntax, notation, axiom, sorry.
-/
import Derived.Test.YtabofadjnbpjkacDoorRows
import GoSem.ClaimSeven
namespace Go.Proofs.YtabofadjnbpjkacDoor
namespace Rows

/-- THE TIED CARD OF 'posternlaw02.ScalarCompares'. -/
def scalarComparesCard : Claim7 := { stood := { row := scalarComparesRow, standIns := [], harness := (true, "cc1b0743e3a57e2ea13eb9ba9f16fa60ec928a264ba4d71449d1718c9be219fc"), looks := false }, kinds := [], alts := [], laidByText := true, laidKinds := [.data, .pinned], laidTests := true, laidLooks := .later }
def ScalarComparesCardSaid : Prop := Claim7.holds Tryd.pinned (.plain (OpenSpec.ofChange scalarComparesSpec)) scalarComparesCard

/-- THE TIED CARD OF 'posternlaw02.ScalarUnitFeeds'. -/
def scalarUnitFeedsCard : Claim7 := { stood := { row := scalarUnitFeedsRow, standIns := [], harness := (true, "cc1b0743e3a57e2ea13eb9ba9f16fa60ec928a264ba4d71449d1718c9be219fc"), looks := false }, kinds := [], alts := [], laidByText := true, laidKinds := [.data, .pinned], laidTests := true, laidLooks := .later }
def ScalarUnitFeedsCardSaid : Prop := Claim7.holds Tryd.pinned (.plain (OpenSpec.ofChange scalarUnitFeedsSpec)) scalarUnitFeedsCard

/-- THE SECOND FORM's CARD OF 'posternlaw02.ScalarCompares'. -/
def scalarComparesUptoCard : Claim7 := { stood := { row := scalarComparesUptoRow, standIns := [], harness := (true, "cc1b0743e3a57e2ea13eb9ba9f16fa60ec928a264ba4d71449d1718c9be219fc"), looks := false }, kinds := [], alts := [], laidByText := true, laidKinds := [.data, .pinned], laidTests := true, laidLooks := .later }
def ScalarComparesUptoCardSaid : Prop := Claim7.holds Tryd.pinned (.plain (OpenSpec.upto scalarComparesSpec)) scalarComparesUptoCard

/-- THE SECOND FORM's CARD OF 'posternlaw02.ScalarUnitFeeds'. -/
def scalarUnitFeedsUptoCard : Claim7 := { stood := { row := scalarUnitFeedsUptoRow, standIns := [], harness := (true, "cc1b0743e3a57e2ea13eb9ba9f16fa60ec928a264ba4d71449d1718c9be219fc"), looks := false }, kinds := [], alts := [], laidByText := true, laidKinds := [.data, .pinned], laidTests := true, laidLooks := .later }
def ScalarUnitFeedsUptoCardSaid : Prop := Claim7.holds Tryd.pinned (.plain (OpenSpec.upto scalarUnitFeedsSpec)) scalarUnitFeedsUptoCard
end Rows
end Go.Proofs.YtabofadjnbpjkacDoor
