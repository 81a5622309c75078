/-
  NARROWER THAN 'FOR EVERY INPUT', by the rows' own cells (each row's printed sentence says how): ScalarBack: laid · ScalarFeeds: laid · ScalarTwo: laid · ScalarMemory: laid · ScalarPlaces: laid · ScalarUnit: laid.
  DERIVED. THE GIVEN ROWS OF THIS SEAT. 6 by the template 'for every input the law returns true; each argument reads behind the call as it read before'; 0 by the template 'total and deterministic' (their statements: YtabofadjnbpjkabDoorTotals.lean).
  GIVEN WITH THE SEED: the statements are not yours to turn. If you find one false, say at which input.
  Laid BY PROGRAM, IN A SANDBOX (cutbox-rows.mjs): the forced cells as the released guide's own fill.sh prints them over the translation 128ff25f5d96f142… (all of the seat's roots in one cut). By AI agents, Wed Nov 11 2026. No macro, syntax, notation, axiom, sorry.
-/
import Derived.Test.YtabofadjnbpjkabDoorChecked
import GoSem.PinnedTables
import GoSem.Claim
import GoSem.ClaimJoined
import GoSem.ClaimMapViews
import Derived.JoinedTies
import Derived.KernelRfl
namespace Go.Proofs.YtabofadjnbpjkabDoor
/- THE CELL 'sum', in the pinned program and in every row, IS THE sha256 OF THE DUMP (.gsa) THAT YtabofadjnbpjkabDoorProg.lean LOADS. Nothing in Lean hashes anything: it is a label: what it is worth is what the hold of that sum in a sandbox is worth. -/
noncomputable def Tryd.pinned : Pinned := { name := "ytabofadjnbpjkabdoor", sum := "128ff25f5d96f142c6e8de90fc7b5e056ea1df572a68d5d4f3e15f84c601fff3", checked := Tryd.checked }
namespace Rows
def none {H : Type} : Left H := { results := [], args := [] }

/- WHAT THE LISTED PACKAGE-LEVEL VARIABLES READ AS WHEN THE CALL BEGINS. Each datum BY PROGRAM (the guide's laid-datum.mjs) off the statement by which the dump's own 'gosem.cut.vars' lays the variable. In a bare row this is a premise. The card (YtabofadjnbpjkabDoorCards.lean) ties it to the program's text. -/
def laid_unicode_utf8_acceptRanges {H : Type} : DataW H := .agg [.agg [.lit (.int .u8 128), .lit (.int .u8 191)], .agg [.lit (.int .u8 160), .lit (.int .u8 191)], .agg [.lit (.int .u8 128), .lit (.int .u8 159)], .agg [.lit (.int .u8 144), .lit (.int .u8 191)], .agg [.lit (.int .u8 128), .lit (.int .u8 143)], .agg [.lit (.int .u8 0), .lit (.int .u8 0)], .agg [.lit (.int .u8 0), .lit (.int .u8 0)], .agg [.lit (.int .u8 0), .lit (.int .u8 0)], .agg [.lit (.int .u8 0), .lit (.int .u8 0)], .agg [.lit (.int .u8 0), .lit (.int .u8 0)], .agg [.lit (.int .u8 0), .lit (.int .u8 0)], .agg [.lit (.int .u8 0), .lit (.int .u8 0)], .agg [.lit (.int .u8 0), .lit (.int .u8 0)], .agg [.lit (.int .u8 0), .lit (.int .u8 0)], .agg [.lit (.int .u8 0), .lit (.int .u8 0)], .agg [.lit (.int .u8 0), .lit (.int .u8 0)]]
/-- One of Go's own tables, pinned by name: the form's constant. -/
def laid_unicode_utf8_first : DataW Unit := Go.Pinned.utf8First

/-- 'posternlaw02.ScalarBack': WHATEVER THE INPUT: true; the input reads as it did. -/
def scalarBackSpec : ChangeSpec := { name := "scalarBack", fn := fun _ => fun
  | [d] => { results := [.lit (.bool true)], args := [d] }
  | _ => none }
def scalarBackRow : OpenClaim := { program := "ytabofadjnbpjkabdoor", sum := "128ff25f5d96f142c6e8de90fc7b5e056ea1df572a68d5d4f3e15f84c601fff3", func := "postern/posternlaw02.ScalarBack", spec := "scalarBack", unfollowed := true, recurses := true, named := ["unicode/utf8.first", "unicode/utf8.acceptRanges"], apart := false, laid := [("unicode/utf8.acceptRanges", laid_unicode_utf8_acceptRanges), ("unicode/utf8.first", laid_unicode_utf8_first)] }
def ScalarBackSaid : Prop := scalarBackRow.holds Tryd.pinned (OpenSpec.ofChange scalarBackSpec)

/-- ITS FALSE NEIGHBOUR: 'it returns false'. Refute it at one input. -/
def scalarBackWrong : ChangeSpec := { name := "scalarBack", fn := fun _ => fun
  | [d] => { results := [.lit (.bool false)], args := [d] }
  | _ => none }
def ScalarBackWrongFalsely : Prop := scalarBackRow.holds Tryd.pinned (OpenSpec.ofChange scalarBackWrong)

/-- 'posternlaw02.ScalarFeeds': WHATEVER THE INPUT: true; the input reads as it did. -/
def scalarFeedsSpec : ChangeSpec := { name := "scalarFeeds", fn := fun _ => fun
  | [d1, d2] => { results := [.lit (.bool true)], args := [d1, d2] }
  | _ => none }
def scalarFeedsRow : OpenClaim := { program := "ytabofadjnbpjkabdoor", sum := "128ff25f5d96f142c6e8de90fc7b5e056ea1df572a68d5d4f3e15f84c601fff3", func := "postern/posternlaw02.ScalarFeeds", spec := "scalarFeeds", unfollowed := true, recurses := true, named := ["unicode/utf8.first", "unicode/utf8.acceptRanges"], apart := false, laid := [("unicode/utf8.acceptRanges", laid_unicode_utf8_acceptRanges), ("unicode/utf8.first", laid_unicode_utf8_first)] }
def ScalarFeedsSaid : Prop := scalarFeedsRow.holds Tryd.pinned (OpenSpec.ofChange scalarFeedsSpec)

/-- ITS FALSE NEIGHBOUR: 'it returns false'. Refute it at one input. -/
def scalarFeedsWrong : ChangeSpec := { name := "scalarFeeds", fn := fun _ => fun
  | [d1, d2] => { results := [.lit (.bool false)], args := [d1, d2] }
  | _ => none }
def ScalarFeedsWrongFalsely : Prop := scalarFeedsRow.holds Tryd.pinned (OpenSpec.ofChange scalarFeedsWrong)

/-- 'posternlaw02.ScalarTwo': WHATEVER THE INPUT: true; the input reads as it did. -/
def scalarTwoSpec : ChangeSpec := { name := "scalarTwo", fn := fun _ => fun
  | [d1, d2] => { results := [.lit (.bool true)], args := [d1, d2] }
  | _ => none }
def scalarTwoRow : OpenClaim := { program := "ytabofadjnbpjkabdoor", sum := "128ff25f5d96f142c6e8de90fc7b5e056ea1df572a68d5d4f3e15f84c601fff3", func := "postern/posternlaw02.ScalarTwo", spec := "scalarTwo", unfollowed := true, recurses := true, named := ["unicode/utf8.first", "unicode/utf8.acceptRanges"], apart := false, laid := [("unicode/utf8.acceptRanges", laid_unicode_utf8_acceptRanges), ("unicode/utf8.first", laid_unicode_utf8_first)] }
def ScalarTwoSaid : Prop := scalarTwoRow.holds Tryd.pinned (OpenSpec.ofChange scalarTwoSpec)

/-- ITS FALSE NEIGHBOUR: 'it returns false'. Refute it at one input. -/
def scalarTwoWrong : ChangeSpec := { name := "scalarTwo", fn := fun _ => fun
  | [d1, d2] => { results := [.lit (.bool false)], args := [d1, d2] }
  | _ => none }
def ScalarTwoWrongFalsely : Prop := scalarTwoRow.holds Tryd.pinned (OpenSpec.ofChange scalarTwoWrong)

/-- 'posternlaw02.ScalarMemory': WHATEVER THE INPUT: true; the input reads as it did. -/
def scalarMemorySpec : ChangeSpec := { name := "scalarMemory", fn := fun _ => fun
  | [d] => { results := [.lit (.bool true)], args := [d] }
  | _ => none }
def scalarMemoryRow : OpenClaim := { program := "ytabofadjnbpjkabdoor", sum := "128ff25f5d96f142c6e8de90fc7b5e056ea1df572a68d5d4f3e15f84c601fff3", func := "postern/posternlaw02.ScalarMemory", spec := "scalarMemory", unfollowed := true, recurses := true, named := ["unicode/utf8.first", "unicode/utf8.acceptRanges"], apart := false, laid := [("unicode/utf8.acceptRanges", laid_unicode_utf8_acceptRanges), ("unicode/utf8.first", laid_unicode_utf8_first)] }
def ScalarMemorySaid : Prop := scalarMemoryRow.holds Tryd.pinned (OpenSpec.ofChange scalarMemorySpec)

/-- ITS FALSE NEIGHBOUR: 'it returns false'. Refute it at one input. -/
def scalarMemoryWrong : ChangeSpec := { name := "scalarMemory", fn := fun _ => fun
  | [d] => { results := [.lit (.bool false)], args := [d] }
  | _ => none }
def ScalarMemoryWrongFalsely : Prop := scalarMemoryRow.holds Tryd.pinned (OpenSpec.ofChange scalarMemoryWrong)

/-- 'posternlaw02.ScalarPlaces': WHATEVER THE INPUT: true; the input reads as it did. -/
def scalarPlacesSpec : ChangeSpec := { name := "scalarPlaces", fn := fun _ => fun
  | [d1, d2, d3] => { results := [.lit (.bool true)], args := [d1, d2, d3] }
  | _ => none }
def scalarPlacesRow : OpenClaim := { program := "ytabofadjnbpjkabdoor", sum := "128ff25f5d96f142c6e8de90fc7b5e056ea1df572a68d5d4f3e15f84c601fff3", func := "postern/posternlaw02.ScalarPlaces", spec := "scalarPlaces", unfollowed := true, recurses := true, named := ["unicode/utf8.first", "unicode/utf8.acceptRanges"], apart := false, laid := [("unicode/utf8.acceptRanges", laid_unicode_utf8_acceptRanges), ("unicode/utf8.first", laid_unicode_utf8_first)] }
def ScalarPlacesSaid : Prop := scalarPlacesRow.holds Tryd.pinned (OpenSpec.ofChange scalarPlacesSpec)

/-- ITS FALSE NEIGHBOUR: 'it returns false'. Refute it at one input. -/
def scalarPlacesWrong : ChangeSpec := { name := "scalarPlaces", fn := fun _ => fun
  | [d1, d2, d3] => { results := [.lit (.bool false)], args := [d1, d2, d3] }
  | _ => none }
def ScalarPlacesWrongFalsely : Prop := scalarPlacesRow.holds Tryd.pinned (OpenSpec.ofChange scalarPlacesWrong)

/-- 'posternlaw02.ScalarUnit': WHATEVER THE INPUT: true; the input reads as it did. -/
def scalarUnitSpec : ChangeSpec := { name := "scalarUnit", fn := fun _ => fun
  | [d] => { results := [.lit (.bool true)], args := [d] }
  | _ => none }
def scalarUnitRow : OpenClaim := { program := "ytabofadjnbpjkabdoor", sum := "128ff25f5d96f142c6e8de90fc7b5e056ea1df572a68d5d4f3e15f84c601fff3", func := "postern/posternlaw02.ScalarUnit", spec := "scalarUnit", unfollowed := true, recurses := true, named := ["unicode/utf8.first", "unicode/utf8.acceptRanges"], apart := false, laid := [("unicode/utf8.acceptRanges", laid_unicode_utf8_acceptRanges), ("unicode/utf8.first", laid_unicode_utf8_first)] }
def ScalarUnitSaid : Prop := scalarUnitRow.holds Tryd.pinned (OpenSpec.ofChange scalarUnitSpec)

/-- ITS FALSE NEIGHBOUR: 'it returns false'. Refute it at one input. -/
def scalarUnitWrong : ChangeSpec := { name := "scalarUnit", fn := fun _ => fun
  | [d] => { results := [.lit (.bool false)], args := [d] }
  | _ => none }
def ScalarUnitWrongFalsely : Prop := scalarUnitRow.holds Tryd.pinned (OpenSpec.ofChange scalarUnitWrong)

/- THE SECOND FORM. 'bulk': how many values and letters a reading holds, each counted each time it is reached (what is shared counts as often as it is met; a slice's spare places count too). A statement '..UptoSaid' is the law's where the arguments, and the package variables that the reading takes, are together of bulk at most 1048576: NARROWER than '..Said'. Prove '..Said' where nothing that the law and all that it calls make is longer than what came in: it says more and counts as full. Else prove '..UptoSaid'. A law counts once. -/
mutual
def uptoBulk {H : Type} : DataW H → Nat
  | .lit (.string bytes) => bytes.length + 1
  | .lit _ => 1
  | .nil => 1
  | .ptr d => uptoBulk d + 1
  | .slice elems spare => uptoBulkAll elems + uptoBulkAll spare + 1
  | .agg parts => uptoBulkAll parts + 1
  | .iface _ d => uptoBulk d + 1
  | .map entries => uptoBulkEntries entries + 1
  | .held _ => 1
def uptoBulkAll {H : Type} : List (DataW H) → Nat
  | [] => 0
  | d :: r => uptoBulk d + uptoBulkAll r
def uptoBulkEntries {H : Type} : List (Lit × DataW H) → Nat
  | [] => 0
  | x :: r => uptoBulkEntry x + uptoBulkEntries r
def uptoBulkEntry {H : Type} : Lit × DataW H → Nat
  | (.string bytes, d) => bytes.length + uptoBulk d + 1
  | (_, d) => uptoBulk d + 1
 end
def uptoSmall : (H : Type) → List (DataW H) → Bool := fun _ ds => decide (uptoBulkAll ds ≤ 1048576)
def OpenSpec.upto (s : _root_.Go.ChangeSpec) : _root_.Go.OpenSpec := { _root_.Go.OpenSpec.ofChange s with cond := some uptoSmall }

/-- 'posternlaw02.ScalarBack', WHERE WHAT IT READS IS OF BULK AT MOST 1048576: true; the input reads as it did. -/
def scalarBackUptoRow : OpenClaim := { program := "ytabofadjnbpjkabdoor", sum := "128ff25f5d96f142c6e8de90fc7b5e056ea1df572a68d5d4f3e15f84c601fff3", func := "postern/posternlaw02.ScalarBack", spec := "scalarBack", unfollowed := true, recurses := true, named := ["unicode/utf8.first", "unicode/utf8.acceptRanges"], apart := false, laid := [("unicode/utf8.acceptRanges", laid_unicode_utf8_acceptRanges), ("unicode/utf8.first", laid_unicode_utf8_first)], narrowed := true }
def ScalarBackUptoSaid : Prop := scalarBackUptoRow.holds Tryd.pinned (OpenSpec.upto scalarBackSpec)

/-- 'posternlaw02.ScalarFeeds', WHERE WHAT IT READS IS OF BULK AT MOST 1048576: true; the input reads as it did. -/
def scalarFeedsUptoRow : OpenClaim := { program := "ytabofadjnbpjkabdoor", sum := "128ff25f5d96f142c6e8de90fc7b5e056ea1df572a68d5d4f3e15f84c601fff3", func := "postern/posternlaw02.ScalarFeeds", spec := "scalarFeeds", unfollowed := true, recurses := true, named := ["unicode/utf8.first", "unicode/utf8.acceptRanges"], apart := false, laid := [("unicode/utf8.acceptRanges", laid_unicode_utf8_acceptRanges), ("unicode/utf8.first", laid_unicode_utf8_first)], narrowed := true }
def ScalarFeedsUptoSaid : Prop := scalarFeedsUptoRow.holds Tryd.pinned (OpenSpec.upto scalarFeedsSpec)

/-- 'posternlaw02.ScalarTwo', WHERE WHAT IT READS IS OF BULK AT MOST 1048576: true; the input reads as it did. -/
def scalarTwoUptoRow : OpenClaim := { program := "ytabofadjnbpjkabdoor", sum := "128ff25f5d96f142c6e8de90fc7b5e056ea1df572a68d5d4f3e15f84c601fff3", func := "postern/posternlaw02.ScalarTwo", spec := "scalarTwo", unfollowed := true, recurses := true, named := ["unicode/utf8.first", "unicode/utf8.acceptRanges"], apart := false, laid := [("unicode/utf8.acceptRanges", laid_unicode_utf8_acceptRanges), ("unicode/utf8.first", laid_unicode_utf8_first)], narrowed := true }
def ScalarTwoUptoSaid : Prop := scalarTwoUptoRow.holds Tryd.pinned (OpenSpec.upto scalarTwoSpec)

/-- 'posternlaw02.ScalarMemory', WHERE WHAT IT READS IS OF BULK AT MOST 1048576: true; the input reads as it did. -/
def scalarMemoryUptoRow : OpenClaim := { program := "ytabofadjnbpjkabdoor", sum := "128ff25f5d96f142c6e8de90fc7b5e056ea1df572a68d5d4f3e15f84c601fff3", func := "postern/posternlaw02.ScalarMemory", spec := "scalarMemory", unfollowed := true, recurses := true, named := ["unicode/utf8.first", "unicode/utf8.acceptRanges"], apart := false, laid := [("unicode/utf8.acceptRanges", laid_unicode_utf8_acceptRanges), ("unicode/utf8.first", laid_unicode_utf8_first)], narrowed := true }
def ScalarMemoryUptoSaid : Prop := scalarMemoryUptoRow.holds Tryd.pinned (OpenSpec.upto scalarMemorySpec)

/-- 'posternlaw02.ScalarPlaces', WHERE WHAT IT READS IS OF BULK AT MOST 1048576: true; the input reads as it did. -/
def scalarPlacesUptoRow : OpenClaim := { program := "ytabofadjnbpjkabdoor", sum := "128ff25f5d96f142c6e8de90fc7b5e056ea1df572a68d5d4f3e15f84c601fff3", func := "postern/posternlaw02.ScalarPlaces", spec := "scalarPlaces", unfollowed := true, recurses := true, named := ["unicode/utf8.first", "unicode/utf8.acceptRanges"], apart := false, laid := [("unicode/utf8.acceptRanges", laid_unicode_utf8_acceptRanges), ("unicode/utf8.first", laid_unicode_utf8_first)], narrowed := true }
def ScalarPlacesUptoSaid : Prop := scalarPlacesUptoRow.holds Tryd.pinned (OpenSpec.upto scalarPlacesSpec)

/-- 'posternlaw02.ScalarUnit', WHERE WHAT IT READS IS OF BULK AT MOST 1048576: true; the input reads as it did. -/
def scalarUnitUptoRow : OpenClaim := { program := "ytabofadjnbpjkabdoor", sum := "128ff25f5d96f142c6e8de90fc7b5e056ea1df572a68d5d4f3e15f84c601fff3", func := "postern/posternlaw02.ScalarUnit", spec := "scalarUnit", unfollowed := true, recurses := true, named := ["unicode/utf8.first", "unicode/utf8.acceptRanges"], apart := false, laid := [("unicode/utf8.acceptRanges", laid_unicode_utf8_acceptRanges), ("unicode/utf8.first", laid_unicode_utf8_first)], narrowed := true }
def ScalarUnitUptoSaid : Prop := scalarUnitUptoRow.holds Tryd.pinned (OpenSpec.upto scalarUnitSpec)

end Rows
end Go.Proofs.YtabofadjnbpjkabDoor
