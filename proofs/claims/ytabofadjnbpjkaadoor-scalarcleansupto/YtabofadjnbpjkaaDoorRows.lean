/-
  NARROWER THAN 'FOR EVERY INPUT', by the rows' own cells (each row's printed sentence says how): ScalarValues: laid · ScalarDecodes: laid · ScalarAt: laid · ScalarEncodes: laid · ScalarUnits: laid · ScalarCleans: laid.
  DERIVED. THE GIVEN ROWS OF THIS SEAT. 6 by the template 'for every input the law returns true; each argument reads behind the call as it read before'; 0 by the template 'total and deterministic' (their statements: YtabofadjnbpjkaaDoorTotals.lean).
  GIVEN WITH THE SEED: the statements are not yours to turn. If you find one false, say at which input.
  Laid BY PROGRAM, IN A SANDBOX (cutbox-rows.mjs): the forced cells as the released guide's own fill.sh prints them over the translation d76c9078e585fdef… (all of the seat's roots in one cut). By AI agents, Wed Nov 11 2026. No macro, syntax, notation, axiom, sorry.
-/
import Derived.Test.YtabofadjnbpjkaaDoorChecked
import GoSem.PinnedTables
import GoSem.Claim
import GoSem.ClaimJoined
import GoSem.ClaimMapViews
import Derived.JoinedTies
import Derived.KernelRfl
namespace Go.Proofs.YtabofadjnbpjkaaDoor
/- THE CELL 'sum', in the pinned program and in every row, IS THE sha256 OF THE DUMP (.gsa) THAT YtabofadjnbpjkaaDoorProg.lean LOADS. Nothing in Lean hashes anything: it is a label: what it is worth is what the hold of that sum in a sandbox is worth. -/
noncomputable def Tryd.pinned : Pinned := { name := "ytabofadjnbpjkaadoor", sum := "d76c9078e585fdefe7d3be673e7e1652545bc4fb93c88ee4e9944048237c51fa", checked := Tryd.checked }
namespace Rows
def none {H : Type} : Left H := { results := [], args := [] }

/- WHAT THE LISTED PACKAGE-LEVEL VARIABLES READ AS WHEN THE CALL BEGINS. Each datum BY PROGRAM (the guide's laid-datum.mjs) off the statement by which the dump's own 'gosem.cut.vars' lays the variable. In a bare row this is a premise. The card (YtabofadjnbpjkaaDoorCards.lean) ties it to the program's text. -/
def laid_unicode_utf8_acceptRanges {H : Type} : DataW H := .agg [.agg [.lit (.int .u8 128), .lit (.int .u8 191)], .agg [.lit (.int .u8 160), .lit (.int .u8 191)], .agg [.lit (.int .u8 128), .lit (.int .u8 159)], .agg [.lit (.int .u8 144), .lit (.int .u8 191)], .agg [.lit (.int .u8 128), .lit (.int .u8 143)], .agg [.lit (.int .u8 0), .lit (.int .u8 0)], .agg [.lit (.int .u8 0), .lit (.int .u8 0)], .agg [.lit (.int .u8 0), .lit (.int .u8 0)], .agg [.lit (.int .u8 0), .lit (.int .u8 0)], .agg [.lit (.int .u8 0), .lit (.int .u8 0)], .agg [.lit (.int .u8 0), .lit (.int .u8 0)], .agg [.lit (.int .u8 0), .lit (.int .u8 0)], .agg [.lit (.int .u8 0), .lit (.int .u8 0)], .agg [.lit (.int .u8 0), .lit (.int .u8 0)], .agg [.lit (.int .u8 0), .lit (.int .u8 0)], .agg [.lit (.int .u8 0), .lit (.int .u8 0)]]
/-- One of Go's own tables, pinned by name: the form's constant. -/
def laid_unicode_utf8_first : DataW Unit := Go.Pinned.utf8First

/-- 'posternlaw02.ScalarValues': WHATEVER THE INPUT: true; the input reads as it did. -/
def scalarValuesSpec : ChangeSpec := { name := "scalarValues", fn := fun _ => fun
  | [d] => { results := [.lit (.bool true)], args := [d] }
  | _ => none }
def scalarValuesRow : OpenClaim := { program := "ytabofadjnbpjkaadoor", sum := "d76c9078e585fdefe7d3be673e7e1652545bc4fb93c88ee4e9944048237c51fa", func := "postern/posternlaw02.ScalarValues", spec := "scalarValues", unfollowed := true, recurses := true, named := ["unicode/utf8.first", "unicode/utf8.acceptRanges"], apart := false, laid := [("unicode/utf8.acceptRanges", laid_unicode_utf8_acceptRanges), ("unicode/utf8.first", laid_unicode_utf8_first)] }
def ScalarValuesSaid : Prop := scalarValuesRow.holds Tryd.pinned (OpenSpec.ofChange scalarValuesSpec)

/-- ITS FALSE NEIGHBOUR: 'it returns false'. Refute it at one input. -/
def scalarValuesWrong : ChangeSpec := { name := "scalarValues", fn := fun _ => fun
  | [d] => { results := [.lit (.bool false)], args := [d] }
  | _ => none }
def ScalarValuesWrongFalsely : Prop := scalarValuesRow.holds Tryd.pinned (OpenSpec.ofChange scalarValuesWrong)

/-- 'posternlaw02.ScalarDecodes': WHATEVER THE INPUT: true; the input reads as it did. -/
def scalarDecodesSpec : ChangeSpec := { name := "scalarDecodes", fn := fun _ => fun
  | [d] => { results := [.lit (.bool true)], args := [d] }
  | _ => none }
def scalarDecodesRow : OpenClaim := { program := "ytabofadjnbpjkaadoor", sum := "d76c9078e585fdefe7d3be673e7e1652545bc4fb93c88ee4e9944048237c51fa", func := "postern/posternlaw02.ScalarDecodes", spec := "scalarDecodes", unfollowed := true, recurses := true, named := ["unicode/utf8.first", "unicode/utf8.acceptRanges"], apart := false, laid := [("unicode/utf8.acceptRanges", laid_unicode_utf8_acceptRanges), ("unicode/utf8.first", laid_unicode_utf8_first)] }
def ScalarDecodesSaid : Prop := scalarDecodesRow.holds Tryd.pinned (OpenSpec.ofChange scalarDecodesSpec)

/-- ITS FALSE NEIGHBOUR: 'it returns false'. Refute it at one input. -/
def scalarDecodesWrong : ChangeSpec := { name := "scalarDecodes", fn := fun _ => fun
  | [d] => { results := [.lit (.bool false)], args := [d] }
  | _ => none }
def ScalarDecodesWrongFalsely : Prop := scalarDecodesRow.holds Tryd.pinned (OpenSpec.ofChange scalarDecodesWrong)

/-- 'posternlaw02.ScalarAt': WHATEVER THE INPUT: true; the input reads as it did. -/
def scalarAtSpec : ChangeSpec := { name := "scalarAt", fn := fun _ => fun
  | [d1, d2] => { results := [.lit (.bool true)], args := [d1, d2] }
  | _ => none }
def scalarAtRow : OpenClaim := { program := "ytabofadjnbpjkaadoor", sum := "d76c9078e585fdefe7d3be673e7e1652545bc4fb93c88ee4e9944048237c51fa", func := "postern/posternlaw02.ScalarAt", spec := "scalarAt", unfollowed := true, recurses := true, named := ["unicode/utf8.first", "unicode/utf8.acceptRanges"], apart := false, laid := [("unicode/utf8.acceptRanges", laid_unicode_utf8_acceptRanges), ("unicode/utf8.first", laid_unicode_utf8_first)] }
def ScalarAtSaid : Prop := scalarAtRow.holds Tryd.pinned (OpenSpec.ofChange scalarAtSpec)

/-- ITS FALSE NEIGHBOUR: 'it returns false'. Refute it at one input. -/
def scalarAtWrong : ChangeSpec := { name := "scalarAt", fn := fun _ => fun
  | [d1, d2] => { results := [.lit (.bool false)], args := [d1, d2] }
  | _ => none }
def ScalarAtWrongFalsely : Prop := scalarAtRow.holds Tryd.pinned (OpenSpec.ofChange scalarAtWrong)

/-- 'posternlaw02.ScalarEncodes': WHATEVER THE INPUT: true; the input reads as it did. -/
def scalarEncodesSpec : ChangeSpec := { name := "scalarEncodes", fn := fun _ => fun
  | [d] => { results := [.lit (.bool true)], args := [d] }
  | _ => none }
def scalarEncodesRow : OpenClaim := { program := "ytabofadjnbpjkaadoor", sum := "d76c9078e585fdefe7d3be673e7e1652545bc4fb93c88ee4e9944048237c51fa", func := "postern/posternlaw02.ScalarEncodes", spec := "scalarEncodes", unfollowed := true, recurses := true, named := ["unicode/utf8.first", "unicode/utf8.acceptRanges"], apart := false, laid := [("unicode/utf8.acceptRanges", laid_unicode_utf8_acceptRanges), ("unicode/utf8.first", laid_unicode_utf8_first)] }
def ScalarEncodesSaid : Prop := scalarEncodesRow.holds Tryd.pinned (OpenSpec.ofChange scalarEncodesSpec)

/-- ITS FALSE NEIGHBOUR: 'it returns false'. Refute it at one input. -/
def scalarEncodesWrong : ChangeSpec := { name := "scalarEncodes", fn := fun _ => fun
  | [d] => { results := [.lit (.bool false)], args := [d] }
  | _ => none }
def ScalarEncodesWrongFalsely : Prop := scalarEncodesRow.holds Tryd.pinned (OpenSpec.ofChange scalarEncodesWrong)

/-- 'posternlaw02.ScalarUnits': WHATEVER THE INPUT: true; the input reads as it did. -/
def scalarUnitsSpec : ChangeSpec := { name := "scalarUnits", fn := fun _ => fun
  | [d] => { results := [.lit (.bool true)], args := [d] }
  | _ => none }
def scalarUnitsRow : OpenClaim := { program := "ytabofadjnbpjkaadoor", sum := "d76c9078e585fdefe7d3be673e7e1652545bc4fb93c88ee4e9944048237c51fa", func := "postern/posternlaw02.ScalarUnits", spec := "scalarUnits", unfollowed := true, recurses := true, named := ["unicode/utf8.first", "unicode/utf8.acceptRanges"], apart := false, laid := [("unicode/utf8.acceptRanges", laid_unicode_utf8_acceptRanges), ("unicode/utf8.first", laid_unicode_utf8_first)] }
def ScalarUnitsSaid : Prop := scalarUnitsRow.holds Tryd.pinned (OpenSpec.ofChange scalarUnitsSpec)

/-- ITS FALSE NEIGHBOUR: 'it returns false'. Refute it at one input. -/
def scalarUnitsWrong : ChangeSpec := { name := "scalarUnits", fn := fun _ => fun
  | [d] => { results := [.lit (.bool false)], args := [d] }
  | _ => none }
def ScalarUnitsWrongFalsely : Prop := scalarUnitsRow.holds Tryd.pinned (OpenSpec.ofChange scalarUnitsWrong)

/-- 'posternlaw02.ScalarCleans': WHATEVER THE INPUT: true; the input reads as it did. -/
def scalarCleansSpec : ChangeSpec := { name := "scalarCleans", fn := fun _ => fun
  | [d1, d2] => { results := [.lit (.bool true)], args := [d1, d2] }
  | _ => none }
def scalarCleansRow : OpenClaim := { program := "ytabofadjnbpjkaadoor", sum := "d76c9078e585fdefe7d3be673e7e1652545bc4fb93c88ee4e9944048237c51fa", func := "postern/posternlaw02.ScalarCleans", spec := "scalarCleans", unfollowed := true, recurses := true, named := ["unicode/utf8.first", "unicode/utf8.acceptRanges"], apart := false, laid := [("unicode/utf8.acceptRanges", laid_unicode_utf8_acceptRanges), ("unicode/utf8.first", laid_unicode_utf8_first)] }
def ScalarCleansSaid : Prop := scalarCleansRow.holds Tryd.pinned (OpenSpec.ofChange scalarCleansSpec)

/-- ITS FALSE NEIGHBOUR: 'it returns false'. Refute it at one input. -/
def scalarCleansWrong : ChangeSpec := { name := "scalarCleans", fn := fun _ => fun
  | [d1, d2] => { results := [.lit (.bool false)], args := [d1, d2] }
  | _ => none }
def ScalarCleansWrongFalsely : Prop := scalarCleansRow.holds Tryd.pinned (OpenSpec.ofChange scalarCleansWrong)

/- THE SECOND FORM. 'bulk': how many values and letters a reading holds, each counted each time it is reached (what is shared counts as often as it is met; a slice's spare places count too). A statement '..UptoSaid' is the law's where the arguments, and the package variables that the reading takes, are together of bulk at most 1048576: NARROWER than '..Said'. Prove '..Said' where nothing that the law and all that it calls make is longer than what came in: it says more and counts as full. Else prove '..UptoSaid'. A law counts once. -/
mutual
def uptoBulk {H : Type} : DataW H → Nat
  | .lit (.string bytes) => bytes.length + 1
  | .lit _ => 1
  | .nil => 1
  | .ptr d => uptoBulk d + 1
  | .slice elems spare => uptoBulkAll elems + uptoBulkAll spare + 1
  | .agg parts => uptoBulkAll parts + 1
  | .iface _ d => uptoBulk d + 1
  | .map entries => uptoBulkEntries entries + 1
  | .held _ => 1
def uptoBulkAll {H : Type} : List (DataW H) → Nat
  | [] => 0
  | d :: r => uptoBulk d + uptoBulkAll r
def uptoBulkEntries {H : Type} : List (Lit × DataW H) → Nat
  | [] => 0
  | x :: r => uptoBulkEntry x + uptoBulkEntries r
def uptoBulkEntry {H : Type} : Lit × DataW H → Nat
  | (.string bytes, d) => bytes.length + uptoBulk d + 1
  | (_, d) => uptoBulk d + 1
 end
def uptoSmall : (H : Type) → List (DataW H) → Bool := fun _ ds => decide (uptoBulkAll ds ≤ 1048576)
def OpenSpec.upto (s : _root_.Go.ChangeSpec) : _root_.Go.OpenSpec := { _root_.Go.OpenSpec.ofChange s with cond := some uptoSmall }

/-- 'posternlaw02.ScalarValues', WHERE WHAT IT READS IS OF BULK AT MOST 1048576: true; the input reads as it did. -/
def scalarValuesUptoRow : OpenClaim := { program := "ytabofadjnbpjkaadoor", sum := "d76c9078e585fdefe7d3be673e7e1652545bc4fb93c88ee4e9944048237c51fa", func := "postern/posternlaw02.ScalarValues", spec := "scalarValues", unfollowed := true, recurses := true, named := ["unicode/utf8.first", "unicode/utf8.acceptRanges"], apart := false, laid := [("unicode/utf8.acceptRanges", laid_unicode_utf8_acceptRanges), ("unicode/utf8.first", laid_unicode_utf8_first)], narrowed := true }
def ScalarValuesUptoSaid : Prop := scalarValuesUptoRow.holds Tryd.pinned (OpenSpec.upto scalarValuesSpec)

/-- 'posternlaw02.ScalarDecodes', WHERE WHAT IT READS IS OF BULK AT MOST 1048576: true; the input reads as it did. -/
def scalarDecodesUptoRow : OpenClaim := { program := "ytabofadjnbpjkaadoor", sum := "d76c9078e585fdefe7d3be673e7e1652545bc4fb93c88ee4e9944048237c51fa", func := "postern/posternlaw02.ScalarDecodes", spec := "scalarDecodes", unfollowed := true, recurses := true, named := ["unicode/utf8.first", "unicode/utf8.acceptRanges"], apart := false, laid := [("unicode/utf8.acceptRanges", laid_unicode_utf8_acceptRanges), ("unicode/utf8.first", laid_unicode_utf8_first)], narrowed := true }
def ScalarDecodesUptoSaid : Prop := scalarDecodesUptoRow.holds Tryd.pinned (OpenSpec.upto scalarDecodesSpec)

/-- 'posternlaw02.ScalarAt', WHERE WHAT IT READS IS OF BULK AT MOST 1048576: true; the input reads as it did. -/
def scalarAtUptoRow : OpenClaim := { program := "ytabofadjnbpjkaadoor", sum := "d76c9078e585fdefe7d3be673e7e1652545bc4fb93c88ee4e9944048237c51fa", func := "postern/posternlaw02.ScalarAt", spec := "scalarAt", unfollowed := true, recurses := true, named := ["unicode/utf8.first", "unicode/utf8.acceptRanges"], apart := false, laid := [("unicode/utf8.acceptRanges", laid_unicode_utf8_acceptRanges), ("unicode/utf8.first", laid_unicode_utf8_first)], narrowed := true }
def ScalarAtUptoSaid : Prop := scalarAtUptoRow.holds Tryd.pinned (OpenSpec.upto scalarAtSpec)

/-- 'posternlaw02.ScalarEncodes', WHERE WHAT IT READS IS OF BULK AT MOST 1048576: true; the input reads as it did. -/
def scalarEncodesUptoRow : OpenClaim := { program := "ytabofadjnbpjkaadoor", sum := "d76c9078e585fdefe7d3be673e7e1652545bc4fb93c88ee4e9944048237c51fa", func := "postern/posternlaw02.ScalarEncodes", spec := "scalarEncodes", unfollowed := true, recurses := true, named := ["unicode/utf8.first", "unicode/utf8.acceptRanges"], apart := false, laid := [("unicode/utf8.acceptRanges", laid_unicode_utf8_acceptRanges), ("unicode/utf8.first", laid_unicode_utf8_first)], narrowed := true }
def ScalarEncodesUptoSaid : Prop := scalarEncodesUptoRow.holds Tryd.pinned (OpenSpec.upto scalarEncodesSpec)

/-- 'posternlaw02.ScalarUnits', WHERE WHAT IT READS IS OF BULK AT MOST 1048576: true; the input reads as it did. -/
def scalarUnitsUptoRow : OpenClaim := { program := "ytabofadjnbpjkaadoor", sum := "d76c9078e585fdefe7d3be673e7e1652545bc4fb93c88ee4e9944048237c51fa", func := "postern/posternlaw02.ScalarUnits", spec := "scalarUnits", unfollowed := true, recurses := true, named := ["unicode/utf8.first", "unicode/utf8.acceptRanges"], apart := false, laid := [("unicode/utf8.acceptRanges", laid_unicode_utf8_acceptRanges), ("unicode/utf8.first", laid_unicode_utf8_first)], narrowed := true }
def ScalarUnitsUptoSaid : Prop := scalarUnitsUptoRow.holds Tryd.pinned (OpenSpec.upto scalarUnitsSpec)

/-- 'posternlaw02.ScalarCleans', WHERE WHAT IT READS IS OF BULK AT MOST 1048576: true; the input reads as it did. -/
def scalarCleansUptoRow : OpenClaim := { program := "ytabofadjnbpjkaadoor", sum := "d76c9078e585fdefe7d3be673e7e1652545bc4fb93c88ee4e9944048237c51fa", func := "postern/posternlaw02.ScalarCleans", spec := "scalarCleans", unfollowed := true, recurses := true, named := ["unicode/utf8.first", "unicode/utf8.acceptRanges"], apart := false, laid := [("unicode/utf8.acceptRanges", laid_unicode_utf8_acceptRanges), ("unicode/utf8.first", laid_unicode_utf8_first)], narrowed := true }
def ScalarCleansUptoSaid : Prop := scalarCleansUptoRow.holds Tryd.pinned (OpenSpec.upto scalarCleansSpec)

end Rows
end Go.Proofs.YtabofadjnbpjkaaDoor
