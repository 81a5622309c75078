/-
  DERIVED. GIVEN WITH THE SEED: THE CARDS: each row of YtcjlplaepnpopaaDoorRows.lean that lists a variable, with what it lists TIED to the program's text (the seventh form; the later family's looks); each row that meets fmt, with fmt's text TOLD by the authors' own Lean function (tested against real Go, not proved from fmt's source: count such statements apart). THE CARD IS WHAT COUNTS. Prove the row's statement (the work); the ties are given (YtcjlplaepnpopaaDoorTie.lean); close each card by the builder's one call (the guide's Derived/Test/ToyasCard.lean, 'card_holds'). Laid BY PROGRAM, IN A SANDBOX (cutbox-door.mjs). By AI agents, Wed Nov 11 2026. No macro, syntax, notation, axiom, sorry.
-/
import Derived.Test.YtcjlplaepnpopaaDoorRows
import GoSem.ClaimSeven
namespace Go.Proofs.YtcjlplaepnpopaaDoor
namespace Rows

/-- THE TIED CARD OF 'posternlaw09.LineFields'. -/
def lineFieldsCard : Claim7 := { stood := { row := lineFieldsRow, standIns := [], harness := (true, "66f221349a4f8c9f6acd9d0d9ca7e39245c4fa972cd60a3b7dd3eda1b6ab9b77"), looks := false }, kinds := [], alts := [], laidByText := true, laidKinds := [.data, .pinned], laidTests := true, laidLooks := .later }
def LineFieldsCardSaid : Prop := Claim7.holds Tryd.pinned (.plain (OpenSpec.ofChange lineFieldsSpec)) lineFieldsCard

/-- THE TIED CARD OF 'posternlaw09.LinePrints'. -/
def linePrintsCard : Claim7 := { stood := { row := linePrintsRow, standIns := [], harness := (true, "66f221349a4f8c9f6acd9d0d9ca7e39245c4fa972cd60a3b7dd3eda1b6ab9b77"), looks := false }, kinds := [], alts := [], laidByText := true, laidKinds := [.data, .data, .data, .data, .pinned], laidTests := true, laidLooks := .later }
def LinePrintsCardSaid : Prop := Claim7.holds Tryd.pinned (.plain (OpenSpec.ofChange linePrintsSpec)) linePrintsCard

/-- THE SECOND FORM's CARD OF 'posternlaw09.LineFields'. -/
def lineFieldsUptoCard : Claim7 := { stood := { row := lineFieldsUptoRow, standIns := [], harness := (true, "66f221349a4f8c9f6acd9d0d9ca7e39245c4fa972cd60a3b7dd3eda1b6ab9b77"), looks := false }, kinds := [], alts := [], laidByText := true, laidKinds := [.data, .pinned], laidTests := true, laidLooks := .later }
def LineFieldsUptoCardSaid : Prop := Claim7.holds Tryd.pinned (.plain (OpenSpec.upto lineFieldsSpec)) lineFieldsUptoCard

/-- THE SECOND FORM's CARD OF 'posternlaw09.LinePrints'. -/
def linePrintsUptoCard : Claim7 := { stood := { row := linePrintsUptoRow, standIns := [], harness := (true, "66f221349a4f8c9f6acd9d0d9ca7e39245c4fa972cd60a3b7dd3eda1b6ab9b77"), looks := false }, kinds := [], alts := [], laidByText := true, laidKinds := [.data, .data, .data, .data, .pinned], laidTests := true, laidLooks := .later }
def LinePrintsUptoCardSaid : Prop := Claim7.holds Tryd.pinned (.plain (OpenSpec.upto linePrintsSpec)) linePrintsUptoCard
end Rows
end Go.Proofs.YtcjlplaepnpopaaDoor
