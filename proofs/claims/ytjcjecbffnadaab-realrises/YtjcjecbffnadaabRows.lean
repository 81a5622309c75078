/-
  No cell of these rows narrows 'for every input' (looked for: loops, veiled, ifaces, maps, wideKeys, modest, calm, conditions, laid).
  DERIVED. THE GIVEN ROWS OF THIS SEAT. 6 by the template 'for every input the law returns true; each argument reads behind the call as it read before'; 0 by the template 'total and deterministic' (their statements: YtjcjecbffnadaabTotals.lean).
  GIVEN WITH THE SEED: the statements are not yours to turn. If you find one false, say at which input.
  Laid BY PROGRAM, IN A SANDBOX (cutbox-rows.mjs): the forced cells as the released guide's own fill.sh prints them over the translation 1a7efb3af9445bbc… (all of the seat's roots in one cut). By AI agents, Wed Nov 11 2026. No macro, syntax, notation, axiom, sorry.
-/
import Derived.Test.YtjcjecbffnadaabChecked
import GoSem.Claim
import GoSem.ClaimJoined
import GoSem.ClaimMapViews
import Derived.JoinedTies
import Derived.KernelRfl
namespace Go.Proofs.Ytjcjecbffnadaab
/- THE CELL 'sum', in the pinned program and in every row, IS THE sha256 OF THE DUMP (.gsa) THAT YtjcjecbffnadaabProg.lean LOADS. Nothing in Lean hashes anything: it is a label: what it is worth is what the hold of that sum in a sandbox is worth. -/
noncomputable def Try.pinned : Pinned := { name := "ytjcjecbffnadaab", sum := "1a7efb3af9445bbc0e33da428aa9a0dcc983d3f4bf38e57c236ef2f56893b3cd", checked := Try.checked }
namespace Rows
def none {H : Type} : Left H := { results := [], args := [] }

/-- 'posternlaw04.RealScales': WHATEVER THE INPUT: true; the input reads as it did. -/
def realScalesSpec : ChangeSpec := { name := "realScales", fn := fun _ => fun
  | [d1, d2] => { results := [.lit (.bool true)], args := [d1, d2] }
  | _ => none }
def realScalesRow : OpenClaim := { program := "ytjcjecbffnadaab", sum := "1a7efb3af9445bbc0e33da428aa9a0dcc983d3f4bf38e57c236ef2f56893b3cd", func := "postern/posternlaw04.RealScales", spec := "realScales", inPlace := ["math.Float64bits", "math.Float64frombits"], apart := false }
def RealScalesSaid : Prop := realScalesRow.holds Try.pinned (OpenSpec.ofChange realScalesSpec)

/-- ITS FALSE NEIGHBOUR: 'it returns false'. Refute it at one input. -/
def realScalesWrong : ChangeSpec := { name := "realScales", fn := fun _ => fun
  | [d1, d2] => { results := [.lit (.bool false)], args := [d1, d2] }
  | _ => none }
def RealScalesWrongFalsely : Prop := realScalesRow.holds Try.pinned (OpenSpec.ofChange realScalesWrong)

/-- 'posternlaw04.RealWholes': WHATEVER THE INPUT: true; the input reads as it did. -/
def realWholesSpec : ChangeSpec := { name := "realWholes", fn := fun _ => fun
  | [d] => { results := [.lit (.bool true)], args := [d] }
  | _ => none }
def realWholesRow : OpenClaim := { program := "ytjcjecbffnadaab", sum := "1a7efb3af9445bbc0e33da428aa9a0dcc983d3f4bf38e57c236ef2f56893b3cd", func := "postern/posternlaw04.RealWholes", spec := "realWholes", inPlace := ["math.Float64bits", "math.Float64frombits"], apart := false }
def RealWholesSaid : Prop := realWholesRow.holds Try.pinned (OpenSpec.ofChange realWholesSpec)

/-- ITS FALSE NEIGHBOUR: 'it returns false'. Refute it at one input. -/
def realWholesWrong : ChangeSpec := { name := "realWholes", fn := fun _ => fun
  | [d] => { results := [.lit (.bool false)], args := [d] }
  | _ => none }
def RealWholesWrongFalsely : Prop := realWholesRow.holds Try.pinned (OpenSpec.ofChange realWholesWrong)

/-- 'posternlaw04.RealRises': WHATEVER THE INPUT: true; the input reads as it did. -/
def realRisesSpec : ChangeSpec := { name := "realRises", fn := fun _ => fun
  | [d1, d2] => { results := [.lit (.bool true)], args := [d1, d2] }
  | _ => none }
def realRisesRow : OpenClaim := { program := "ytjcjecbffnadaab", sum := "1a7efb3af9445bbc0e33da428aa9a0dcc983d3f4bf38e57c236ef2f56893b3cd", func := "postern/posternlaw04.RealRises", spec := "realRises", inPlace := ["math.Float64bits", "math.Float64frombits", "math.Float32frombits"], apart := false }
def RealRisesSaid : Prop := realRisesRow.holds Try.pinned (OpenSpec.ofChange realRisesSpec)

/-- ITS FALSE NEIGHBOUR: 'it returns false'. Refute it at one input. -/
def realRisesWrong : ChangeSpec := { name := "realRises", fn := fun _ => fun
  | [d1, d2] => { results := [.lit (.bool false)], args := [d1, d2] }
  | _ => none }
def RealRisesWrongFalsely : Prop := realRisesRow.holds Try.pinned (OpenSpec.ofChange realRisesWrong)

/-- 'posternlaw04.RealRoots': WHATEVER THE INPUT: true; the input reads as it did. -/
def realRootsSpec : ChangeSpec := { name := "realRoots", fn := fun _ => fun
  | [d] => { results := [.lit (.bool true)], args := [d] }
  | _ => none }
def realRootsRow : OpenClaim := { program := "ytjcjecbffnadaab", sum := "1a7efb3af9445bbc0e33da428aa9a0dcc983d3f4bf38e57c236ef2f56893b3cd", func := "postern/posternlaw04.RealRoots", spec := "realRoots", inPlace := ["math.Float64bits", "math.Float64frombits"], apart := false }
def RealRootsSaid : Prop := realRootsRow.holds Try.pinned (OpenSpec.ofChange realRootsSpec)

/-- ITS FALSE NEIGHBOUR: 'it returns false'. Refute it at one input. -/
def realRootsWrong : ChangeSpec := { name := "realRoots", fn := fun _ => fun
  | [d] => { results := [.lit (.bool false)], args := [d] }
  | _ => none }
def RealRootsWrongFalsely : Prop := realRootsRow.holds Try.pinned (OpenSpec.ofChange realRootsWrong)

/-- 'posternlaw04.RealRests': WHATEVER THE INPUT: true; the input reads as it did. -/
def realRestsSpec : ChangeSpec := { name := "realRests", fn := fun _ => fun
  | [d1, d2] => { results := [.lit (.bool true)], args := [d1, d2] }
  | _ => none }
def realRestsRow : OpenClaim := { program := "ytjcjecbffnadaab", sum := "1a7efb3af9445bbc0e33da428aa9a0dcc983d3f4bf38e57c236ef2f56893b3cd", func := "postern/posternlaw04.RealRests", spec := "realRests", inPlace := ["math.Float64bits", "math.Float64frombits"], apart := false }
def RealRestsSaid : Prop := realRestsRow.holds Try.pinned (OpenSpec.ofChange realRestsSpec)

/-- ITS FALSE NEIGHBOUR: 'it returns false'. Refute it at one input. -/
def realRestsWrong : ChangeSpec := { name := "realRests", fn := fun _ => fun
  | [d1, d2] => { results := [.lit (.bool false)], args := [d1, d2] }
  | _ => none }
def RealRestsWrongFalsely : Prop := realRestsRow.holds Try.pinned (OpenSpec.ofChange realRestsWrong)

/-- 'posternlaw04.RealFormats': WHATEVER THE INPUT: true; the input reads as it did. -/
def realFormatsSpec : ChangeSpec := { name := "realFormats", fn := fun _ => fun
  | [d1, d2, d3] => { results := [.lit (.bool true)], args := [d1, d2, d3] }
  | _ => none }
def realFormatsRow : OpenClaim := { program := "ytjcjecbffnadaab", sum := "1a7efb3af9445bbc0e33da428aa9a0dcc983d3f4bf38e57c236ef2f56893b3cd", func := "postern/posternlaw04.RealFormats", spec := "realFormats", inPlace := ["math.Float64bits", "math.Float64frombits"], apart := false }
def RealFormatsSaid : Prop := realFormatsRow.holds Try.pinned (OpenSpec.ofChange realFormatsSpec)

/-- ITS FALSE NEIGHBOUR: 'it returns false'. Refute it at one input. -/
def realFormatsWrong : ChangeSpec := { name := "realFormats", fn := fun _ => fun
  | [d1, d2, d3] => { results := [.lit (.bool false)], args := [d1, d2, d3] }
  | _ => none }
def RealFormatsWrongFalsely : Prop := realFormatsRow.holds Try.pinned (OpenSpec.ofChange realFormatsWrong)

/- THE SECOND FORM. 'bulk': how many values and letters a reading holds, each counted each time it is reached (what is shared counts as often as it is met; a slice's spare places count too). A statement '..UptoSaid' is the law's where the arguments, and the package variables that the reading takes, are together of bulk at most 1048576: NARROWER than '..Said'. Prove '..Said' where nothing that the law and all that it calls make is longer than what came in: it says more and counts as full. Else prove '..UptoSaid'. A law counts once. -/
mutual
def uptoBulk {H : Type} : DataW H → Nat
  | .lit (.string bytes) => bytes.length + 1
  | .lit _ => 1
  | .nil => 1
  | .ptr d => uptoBulk d + 1
  | .slice elems spare => uptoBulkAll elems + uptoBulkAll spare + 1
  | .agg parts => uptoBulkAll parts + 1
  | .iface _ d => uptoBulk d + 1
  | .map entries => uptoBulkEntries entries + 1
  | .held _ => 1
def uptoBulkAll {H : Type} : List (DataW H) → Nat
  | [] => 0
  | d :: r => uptoBulk d + uptoBulkAll r
def uptoBulkEntries {H : Type} : List (Lit × DataW H) → Nat
  | [] => 0
  | x :: r => uptoBulkEntry x + uptoBulkEntries r
def uptoBulkEntry {H : Type} : Lit × DataW H → Nat
  | (.string bytes, d) => bytes.length + uptoBulk d + 1
  | (_, d) => uptoBulk d + 1
 end
def uptoSmall : (H : Type) → List (DataW H) → Bool := fun _ ds => decide (uptoBulkAll ds ≤ 1048576)
def OpenSpec.upto (s : _root_.Go.ChangeSpec) : _root_.Go.OpenSpec := { _root_.Go.OpenSpec.ofChange s with cond := some uptoSmall }

/-- 'posternlaw04.RealScales', WHERE WHAT IT READS IS OF BULK AT MOST 1048576: true; the input reads as it did. -/
def realScalesUptoRow : OpenClaim := { program := "ytjcjecbffnadaab", sum := "1a7efb3af9445bbc0e33da428aa9a0dcc983d3f4bf38e57c236ef2f56893b3cd", func := "postern/posternlaw04.RealScales", spec := "realScales", inPlace := ["math.Float64bits", "math.Float64frombits"], apart := false, narrowed := true }
def RealScalesUptoSaid : Prop := realScalesUptoRow.holds Try.pinned (OpenSpec.upto realScalesSpec)

/-- 'posternlaw04.RealWholes', WHERE WHAT IT READS IS OF BULK AT MOST 1048576: true; the input reads as it did. -/
def realWholesUptoRow : OpenClaim := { program := "ytjcjecbffnadaab", sum := "1a7efb3af9445bbc0e33da428aa9a0dcc983d3f4bf38e57c236ef2f56893b3cd", func := "postern/posternlaw04.RealWholes", spec := "realWholes", inPlace := ["math.Float64bits", "math.Float64frombits"], apart := false, narrowed := true }
def RealWholesUptoSaid : Prop := realWholesUptoRow.holds Try.pinned (OpenSpec.upto realWholesSpec)

/-- 'posternlaw04.RealRises', WHERE WHAT IT READS IS OF BULK AT MOST 1048576: true; the input reads as it did. -/
def realRisesUptoRow : OpenClaim := { program := "ytjcjecbffnadaab", sum := "1a7efb3af9445bbc0e33da428aa9a0dcc983d3f4bf38e57c236ef2f56893b3cd", func := "postern/posternlaw04.RealRises", spec := "realRises", inPlace := ["math.Float64bits", "math.Float64frombits", "math.Float32frombits"], apart := false, narrowed := true }
def RealRisesUptoSaid : Prop := realRisesUptoRow.holds Try.pinned (OpenSpec.upto realRisesSpec)

/-- 'posternlaw04.RealRoots', WHERE WHAT IT READS IS OF BULK AT MOST 1048576: true; the input reads as it did. -/
def realRootsUptoRow : OpenClaim := { program := "ytjcjecbffnadaab", sum := "1a7efb3af9445bbc0e33da428aa9a0dcc983d3f4bf38e57c236ef2f56893b3cd", func := "postern/posternlaw04.RealRoots", spec := "realRoots", inPlace := ["math.Float64bits", "math.Float64frombits"], apart := false, narrowed := true }
def RealRootsUptoSaid : Prop := realRootsUptoRow.holds Try.pinned (OpenSpec.upto realRootsSpec)

/-- 'posternlaw04.RealRests', WHERE WHAT IT READS IS OF BULK AT MOST 1048576: true; the input reads as it did. -/
def realRestsUptoRow : OpenClaim := { program := "ytjcjecbffnadaab", sum := "1a7efb3af9445bbc0e33da428aa9a0dcc983d3f4bf38e57c236ef2f56893b3cd", func := "postern/posternlaw04.RealRests", spec := "realRests", inPlace := ["math.Float64bits", "math.Float64frombits"], apart := false, narrowed := true }
def RealRestsUptoSaid : Prop := realRestsUptoRow.holds Try.pinned (OpenSpec.upto realRestsSpec)

/-- 'posternlaw04.RealFormats', WHERE WHAT IT READS IS OF BULK AT MOST 1048576: true; the input reads as it did. -/
def realFormatsUptoRow : OpenClaim := { program := "ytjcjecbffnadaab", sum := "1a7efb3af9445bbc0e33da428aa9a0dcc983d3f4bf38e57c236ef2f56893b3cd", func := "postern/posternlaw04.RealFormats", spec := "realFormats", inPlace := ["math.Float64bits", "math.Float64frombits"], apart := false, narrowed := true }
def RealFormatsUptoSaid : Prop := realFormatsUptoRow.holds Try.pinned (OpenSpec.upto realFormatsSpec)

end Rows
end Go.Proofs.Ytjcjecbffnadaab
