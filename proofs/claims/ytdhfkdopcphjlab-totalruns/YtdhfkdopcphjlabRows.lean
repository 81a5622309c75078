/-
  No cell of these rows narrows 'for every input' (looked for: loops, veiled, ifaces, maps, wideKeys, modest, calm, conditions, laid).
  DERIVED. THE GIVEN ROWS OF THIS SEAT. 6 by the template 'for every input the law returns true; each argument reads behind the call as it read before'; 0 by the template 'total and deterministic' (their statements: YtdhfkdopcphjlabTotals.lean).
  GIVEN WITH THE SEED: the statements are not yours to turn. If you find one false, say at which input.
  Laid BY PROGRAM, IN A SANDBOX (cutbox-rows.mjs): the forced cells as the released guide's own fill.sh prints them over the translation 409551824d81b78e… (all of the seat's roots in one cut). By AI agents, Wed Nov 11 2026. No macro, syntax, notation, axiom, sorry.
-/
import Derived.Test.YtdhfkdopcphjlabChecked
import GoSem.Claim
import GoSem.ClaimJoined
import GoSem.ClaimMapViews
import Derived.JoinedTies
import Derived.KernelRfl
namespace Go.Proofs.Ytdhfkdopcphjlab
/- THE CELL 'sum', in the pinned program and in every row, IS THE sha256 OF THE DUMP (.gsa) THAT YtdhfkdopcphjlabProg.lean LOADS. Nothing in Lean hashes anything: it is a label: what it is worth is what the hold of that sum in a sandbox is worth. -/
noncomputable def Try.pinned : Pinned := { name := "ytdhfkdopcphjlab", sum := "409551824d81b78e9ccff8c233df7c5cb6d576b7cf8566de0ee93ddedd3cbe8e", checked := Try.checked }
namespace Rows
def none {H : Type} : Left H := { results := [], args := [] }

/-- 'posternlaw05.TotalLimits': WHATEVER THE INPUT: true; the input reads as it did. -/
def totalLimitsSpec : ChangeSpec := { name := "totalLimits", fn := fun _ => fun
  | [d1, d2] => { results := [.lit (.bool true)], args := [d1, d2] }
  | _ => none }
def totalLimitsRow : OpenClaim := { program := "ytdhfkdopcphjlab", sum := "409551824d81b78e9ccff8c233df7c5cb6d576b7cf8566de0ee93ddedd3cbe8e", func := "postern/posternlaw05.TotalLimits", spec := "totalLimits", inPlace := ["math.Float64bits", "math/bits.Sub64", "math/bits.Add64", "math.Float64frombits"], recurses := true, apart := false }
def TotalLimitsSaid : Prop := totalLimitsRow.holds Try.pinned (OpenSpec.ofChange totalLimitsSpec)

/-- ITS FALSE NEIGHBOUR: 'it returns false'. Refute it at one input. -/
def totalLimitsWrong : ChangeSpec := { name := "totalLimits", fn := fun _ => fun
  | [d1, d2] => { results := [.lit (.bool false)], args := [d1, d2] }
  | _ => none }
def TotalLimitsWrongFalsely : Prop := totalLimitsRow.holds Try.pinned (OpenSpec.ofChange totalLimitsWrong)

/-- 'posternlaw05.TotalGathers': WHATEVER THE INPUT: true; the input reads as it did. -/
def totalGathersSpec : ChangeSpec := { name := "totalGathers", fn := fun _ => fun
  | [d1, d2] => { results := [.lit (.bool true)], args := [d1, d2] }
  | _ => none }
def totalGathersRow : OpenClaim := { program := "ytdhfkdopcphjlab", sum := "409551824d81b78e9ccff8c233df7c5cb6d576b7cf8566de0ee93ddedd3cbe8e", func := "postern/posternlaw05.TotalGathers", spec := "totalGathers", inPlace := ["math.Float64bits", "math/bits.Sub64", "math/bits.Add64", "math.Float64frombits"], apart := false }
def TotalGathersSaid : Prop := totalGathersRow.holds Try.pinned (OpenSpec.ofChange totalGathersSpec)

/-- ITS FALSE NEIGHBOUR: 'it returns false'. Refute it at one input. -/
def totalGathersWrong : ChangeSpec := { name := "totalGathers", fn := fun _ => fun
  | [d1, d2] => { results := [.lit (.bool false)], args := [d1, d2] }
  | _ => none }
def TotalGathersWrongFalsely : Prop := totalGathersRow.holds Try.pinned (OpenSpec.ofChange totalGathersWrong)

/-- 'posternlaw05.TotalSpreads': WHATEVER THE INPUT: true; the input reads as it did. -/
def totalSpreadsSpec : ChangeSpec := { name := "totalSpreads", fn := fun _ => fun
  | [d] => { results := [.lit (.bool true)], args := [d] }
  | _ => none }
def totalSpreadsRow : OpenClaim := { program := "ytdhfkdopcphjlab", sum := "409551824d81b78e9ccff8c233df7c5cb6d576b7cf8566de0ee93ddedd3cbe8e", func := "postern/posternlaw05.TotalSpreads", spec := "totalSpreads", inPlace := ["math.Float64bits", "math/bits.Sub64", "math/bits.Add64", "math.Float64frombits", "math.sqrt"], unfollowed := true, recurses := true, apart := false }
def TotalSpreadsSaid : Prop := totalSpreadsRow.holds Try.pinned (OpenSpec.ofChange totalSpreadsSpec)

/-- ITS FALSE NEIGHBOUR: 'it returns false'. Refute it at one input. -/
def totalSpreadsWrong : ChangeSpec := { name := "totalSpreads", fn := fun _ => fun
  | [d] => { results := [.lit (.bool false)], args := [d] }
  | _ => none }
def TotalSpreadsWrongFalsely : Prop := totalSpreadsRow.holds Try.pinned (OpenSpec.ofChange totalSpreadsWrong)

/-- 'posternlaw05.TotalExpands': WHATEVER THE INPUT: true; the input reads as it did. -/
def totalExpandsSpec : ChangeSpec := { name := "totalExpands", fn := fun _ => fun
  | [d1, d2, d3] => { results := [.lit (.bool true)], args := [d1, d2, d3] }
  | _ => none }
def totalExpandsRow : OpenClaim := { program := "ytdhfkdopcphjlab", sum := "409551824d81b78e9ccff8c233df7c5cb6d576b7cf8566de0ee93ddedd3cbe8e", func := "postern/posternlaw05.TotalExpands", spec := "totalExpands", inPlace := ["math.Float64bits", "math/bits.Sub64", "math/bits.Add64", "math.Float64frombits"], apart := false }
def TotalExpandsSaid : Prop := totalExpandsRow.holds Try.pinned (OpenSpec.ofChange totalExpandsSpec)

/-- ITS FALSE NEIGHBOUR: 'it returns false'. Refute it at one input. -/
def totalExpandsWrong : ChangeSpec := { name := "totalExpands", fn := fun _ => fun
  | [d1, d2, d3] => { results := [.lit (.bool false)], args := [d1, d2, d3] }
  | _ => none }
def TotalExpandsWrongFalsely : Prop := totalExpandsRow.holds Try.pinned (OpenSpec.ofChange totalExpandsWrong)

/-- 'posternlaw05.TotalKeepsAll': WHATEVER THE INPUT: true; the input reads as it did. -/
def totalKeepsAllSpec : ChangeSpec := { name := "totalKeepsAll", fn := fun _ => fun
  | [d1, d2] => { results := [.lit (.bool true)], args := [d1, d2] }
  | _ => none }
def totalKeepsAllRow : OpenClaim := { program := "ytdhfkdopcphjlab", sum := "409551824d81b78e9ccff8c233df7c5cb6d576b7cf8566de0ee93ddedd3cbe8e", func := "postern/posternlaw05.TotalKeepsAll", spec := "totalKeepsAll", inPlace := ["math.Float64bits", "math/bits.Sub64", "math/bits.Add64", "math.Float64frombits"], apart := false }
def TotalKeepsAllSaid : Prop := totalKeepsAllRow.holds Try.pinned (OpenSpec.ofChange totalKeepsAllSpec)

/-- ITS FALSE NEIGHBOUR: 'it returns false'. Refute it at one input. -/
def totalKeepsAllWrong : ChangeSpec := { name := "totalKeepsAll", fn := fun _ => fun
  | [d1, d2] => { results := [.lit (.bool false)], args := [d1, d2] }
  | _ => none }
def TotalKeepsAllWrongFalsely : Prop := totalKeepsAllRow.holds Try.pinned (OpenSpec.ofChange totalKeepsAllWrong)

/-- 'posternlaw05.TotalRuns': WHATEVER THE INPUT: true; the input reads as it did. -/
def totalRunsSpec : ChangeSpec := { name := "totalRuns", fn := fun _ => fun
  | [d1, d2] => { results := [.lit (.bool true)], args := [d1, d2] }
  | _ => none }
def totalRunsRow : OpenClaim := { program := "ytdhfkdopcphjlab", sum := "409551824d81b78e9ccff8c233df7c5cb6d576b7cf8566de0ee93ddedd3cbe8e", func := "postern/posternlaw05.TotalRuns", spec := "totalRuns", inPlace := ["math.Float64bits", "math/bits.Sub64", "math/bits.Add64", "math.Float64frombits"], apart := false }
def TotalRunsSaid : Prop := totalRunsRow.holds Try.pinned (OpenSpec.ofChange totalRunsSpec)

/-- ITS FALSE NEIGHBOUR: 'it returns false'. Refute it at one input. -/
def totalRunsWrong : ChangeSpec := { name := "totalRuns", fn := fun _ => fun
  | [d1, d2] => { results := [.lit (.bool false)], args := [d1, d2] }
  | _ => none }
def TotalRunsWrongFalsely : Prop := totalRunsRow.holds Try.pinned (OpenSpec.ofChange totalRunsWrong)

/- THE SECOND FORM. 'bulk': how many values and letters a reading holds, each counted each time it is reached (what is shared counts as often as it is met; a slice's spare places count too). A statement '..UptoSaid' is the law's where the arguments, and the package variables that the reading takes, are together of bulk at most 1048576: NARROWER than '..Said'. Prove '..Said' where nothing that the law and all that it calls make is longer than what came in: it says more and counts as full. Else prove '..UptoSaid'. A law counts once. -/
mutual
def uptoBulk {H : Type} : DataW H → Nat
  | .lit (.string bytes) => bytes.length + 1
  | .lit _ => 1
  | .nil => 1
  | .ptr d => uptoBulk d + 1
  | .slice elems spare => uptoBulkAll elems + uptoBulkAll spare + 1
  | .agg parts => uptoBulkAll parts + 1
  | .iface _ d => uptoBulk d + 1
  | .map entries => uptoBulkEntries entries + 1
  | .held _ => 1
def uptoBulkAll {H : Type} : List (DataW H) → Nat
  | [] => 0
  | d :: r => uptoBulk d + uptoBulkAll r
def uptoBulkEntries {H : Type} : List (Lit × DataW H) → Nat
  | [] => 0
  | x :: r => uptoBulkEntry x + uptoBulkEntries r
def uptoBulkEntry {H : Type} : Lit × DataW H → Nat
  | (.string bytes, d) => bytes.length + uptoBulk d + 1
  | (_, d) => uptoBulk d + 1
 end
def uptoSmall : (H : Type) → List (DataW H) → Bool := fun _ ds => decide (uptoBulkAll ds ≤ 1048576)
def OpenSpec.upto (s : _root_.Go.ChangeSpec) : _root_.Go.OpenSpec := { _root_.Go.OpenSpec.ofChange s with cond := some uptoSmall }

/-- 'posternlaw05.TotalLimits', WHERE WHAT IT READS IS OF BULK AT MOST 1048576: true; the input reads as it did. -/
def totalLimitsUptoRow : OpenClaim := { program := "ytdhfkdopcphjlab", sum := "409551824d81b78e9ccff8c233df7c5cb6d576b7cf8566de0ee93ddedd3cbe8e", func := "postern/posternlaw05.TotalLimits", spec := "totalLimits", inPlace := ["math.Float64bits", "math/bits.Sub64", "math/bits.Add64", "math.Float64frombits"], recurses := true, apart := false, narrowed := true }
def TotalLimitsUptoSaid : Prop := totalLimitsUptoRow.holds Try.pinned (OpenSpec.upto totalLimitsSpec)

/-- 'posternlaw05.TotalGathers', WHERE WHAT IT READS IS OF BULK AT MOST 1048576: true; the input reads as it did. -/
def totalGathersUptoRow : OpenClaim := { program := "ytdhfkdopcphjlab", sum := "409551824d81b78e9ccff8c233df7c5cb6d576b7cf8566de0ee93ddedd3cbe8e", func := "postern/posternlaw05.TotalGathers", spec := "totalGathers", inPlace := ["math.Float64bits", "math/bits.Sub64", "math/bits.Add64", "math.Float64frombits"], apart := false, narrowed := true }
def TotalGathersUptoSaid : Prop := totalGathersUptoRow.holds Try.pinned (OpenSpec.upto totalGathersSpec)

/-- 'posternlaw05.TotalSpreads', WHERE WHAT IT READS IS OF BULK AT MOST 1048576: true; the input reads as it did. -/
def totalSpreadsUptoRow : OpenClaim := { program := "ytdhfkdopcphjlab", sum := "409551824d81b78e9ccff8c233df7c5cb6d576b7cf8566de0ee93ddedd3cbe8e", func := "postern/posternlaw05.TotalSpreads", spec := "totalSpreads", inPlace := ["math.Float64bits", "math/bits.Sub64", "math/bits.Add64", "math.Float64frombits", "math.sqrt"], unfollowed := true, recurses := true, apart := false, narrowed := true }
def TotalSpreadsUptoSaid : Prop := totalSpreadsUptoRow.holds Try.pinned (OpenSpec.upto totalSpreadsSpec)

/-- 'posternlaw05.TotalExpands', WHERE WHAT IT READS IS OF BULK AT MOST 1048576: true; the input reads as it did. -/
def totalExpandsUptoRow : OpenClaim := { program := "ytdhfkdopcphjlab", sum := "409551824d81b78e9ccff8c233df7c5cb6d576b7cf8566de0ee93ddedd3cbe8e", func := "postern/posternlaw05.TotalExpands", spec := "totalExpands", inPlace := ["math.Float64bits", "math/bits.Sub64", "math/bits.Add64", "math.Float64frombits"], apart := false, narrowed := true }
def TotalExpandsUptoSaid : Prop := totalExpandsUptoRow.holds Try.pinned (OpenSpec.upto totalExpandsSpec)

/-- 'posternlaw05.TotalKeepsAll', WHERE WHAT IT READS IS OF BULK AT MOST 1048576: true; the input reads as it did. -/
def totalKeepsAllUptoRow : OpenClaim := { program := "ytdhfkdopcphjlab", sum := "409551824d81b78e9ccff8c233df7c5cb6d576b7cf8566de0ee93ddedd3cbe8e", func := "postern/posternlaw05.TotalKeepsAll", spec := "totalKeepsAll", inPlace := ["math.Float64bits", "math/bits.Sub64", "math/bits.Add64", "math.Float64frombits"], apart := false, narrowed := true }
def TotalKeepsAllUptoSaid : Prop := totalKeepsAllUptoRow.holds Try.pinned (OpenSpec.upto totalKeepsAllSpec)

/-- 'posternlaw05.TotalRuns', WHERE WHAT IT READS IS OF BULK AT MOST 1048576: true; the input reads as it did. -/
def totalRunsUptoRow : OpenClaim := { program := "ytdhfkdopcphjlab", sum := "409551824d81b78e9ccff8c233df7c5cb6d576b7cf8566de0ee93ddedd3cbe8e", func := "postern/posternlaw05.TotalRuns", spec := "totalRuns", inPlace := ["math.Float64bits", "math/bits.Sub64", "math/bits.Add64", "math.Float64frombits"], apart := false, narrowed := true }
def TotalRunsUptoSaid : Prop := totalRunsUptoRow.holds Try.pinned (OpenSpec.upto totalRunsSpec)

end Rows
end Go.Proofs.Ytdhfkdopcphjlab
