/-
  No cell of these rows narrows 'for every input' (looked for: loops, veiled, ifaces, maps, wideKeys, modest, calm, conditions, laid).
  DERIVED. THE GIVEN ROWS OF THIS SEAT. 6 by the template 'for every input the law returns true; each argument reads behind the call as it read before'; 0 by the template 'total and deterministic' (their statements: YtjcjecbffnadaaaTotals.lean).
  GIVEN WITH THE SEED: the statements are not yours to turn. If you find one false, say at which input.
  Laid BY PROGRAM, IN A SANDBOX (cutbox-rows.mjs): the forced cells as the released guide's own fill.sh prints them over the translation 85feaa9a69a446b1… (all of the seat's roots in one cut). By AI agents, Wed Nov 11 2026. No macro, syntax, notation, axiom, sorry.
-/
import Derived.Test.YtjcjecbffnadaaaChecked
import GoSem.Claim
import GoSem.ClaimJoined
import GoSem.ClaimMapViews
import Derived.JoinedTies
import Derived.KernelRfl
namespace Go.Proofs.Ytjcjecbffnadaaa
/- THE CELL 'sum', in the pinned program and in every row, IS THE sha256 OF THE DUMP (.gsa) THAT YtjcjecbffnadaaaProg.lean LOADS. Nothing in Lean hashes anything: it is a label: what it is worth is what the hold of that sum in a sandbox is worth. -/
noncomputable def Try.pinned : Pinned := { name := "ytjcjecbffnadaaa", sum := "85feaa9a69a446b15300d921c87213c9016837463fb017cff732f232f36e98ee", checked := Try.checked }
namespace Rows
def none {H : Type} : Left H := { results := [], args := [] }

/-- 'posternlaw04.RealParts': WHATEVER THE INPUT: true; the input reads as it did. -/
def realPartsSpec : ChangeSpec := { name := "realParts", fn := fun _ => fun
  | [d1, d2] => { results := [.lit (.bool true)], args := [d1, d2] }
  | _ => none }
def realPartsRow : OpenClaim := { program := "ytjcjecbffnadaaa", sum := "85feaa9a69a446b15300d921c87213c9016837463fb017cff732f232f36e98ee", func := "postern/posternlaw04.RealParts", spec := "realParts", inPlace := ["math.Float64bits", "math.Float64frombits", "math.Float32frombits", "math.Float32bits"], apart := false }
def RealPartsSaid : Prop := realPartsRow.holds Try.pinned (OpenSpec.ofChange realPartsSpec)

/-- ITS FALSE NEIGHBOUR: 'it returns false'. Refute it at one input. -/
def realPartsWrong : ChangeSpec := { name := "realParts", fn := fun _ => fun
  | [d1, d2] => { results := [.lit (.bool false)], args := [d1, d2] }
  | _ => none }
def RealPartsWrongFalsely : Prop := realPartsRow.holds Try.pinned (OpenSpec.ofChange realPartsWrong)

/-- 'posternlaw04.RealOf': WHATEVER THE INPUT: true; the input reads as it did. -/
def realOfSpec : ChangeSpec := { name := "realOf", fn := fun _ => fun
  | [d] => { results := [.lit (.bool true)], args := [d] }
  | _ => none }
def realOfRow : OpenClaim := { program := "ytjcjecbffnadaaa", sum := "85feaa9a69a446b15300d921c87213c9016837463fb017cff732f232f36e98ee", func := "postern/posternlaw04.RealOf", spec := "realOf", inPlace := ["math.Float64bits", "math.Float64frombits", "math.Float32frombits", "math.Float32bits"], apart := false }
def RealOfSaid : Prop := realOfRow.holds Try.pinned (OpenSpec.ofChange realOfSpec)

/-- ITS FALSE NEIGHBOUR: 'it returns false'. Refute it at one input. -/
def realOfWrong : ChangeSpec := { name := "realOf", fn := fun _ => fun
  | [d] => { results := [.lit (.bool false)], args := [d] }
  | _ => none }
def RealOfWrongFalsely : Prop := realOfRow.holds Try.pinned (OpenSpec.ofChange realOfWrong)

/-- 'posternlaw04.RealSteps': WHATEVER THE INPUT: true; the input reads as it did. -/
def realStepsSpec : ChangeSpec := { name := "realSteps", fn := fun _ => fun
  | [d1, d2] => { results := [.lit (.bool true)], args := [d1, d2] }
  | _ => none }
def realStepsRow : OpenClaim := { program := "ytjcjecbffnadaaa", sum := "85feaa9a69a446b15300d921c87213c9016837463fb017cff732f232f36e98ee", func := "postern/posternlaw04.RealSteps", spec := "realSteps", inPlace := ["math.Float64bits", "math.Float64frombits"], apart := false }
def RealStepsSaid : Prop := realStepsRow.holds Try.pinned (OpenSpec.ofChange realStepsSpec)

/-- ITS FALSE NEIGHBOUR: 'it returns false'. Refute it at one input. -/
def realStepsWrong : ChangeSpec := { name := "realSteps", fn := fun _ => fun
  | [d1, d2] => { results := [.lit (.bool false)], args := [d1, d2] }
  | _ => none }
def RealStepsWrongFalsely : Prop := realStepsRow.holds Try.pinned (OpenSpec.ofChange realStepsWrong)

/-- 'posternlaw04.RealOrders': WHATEVER THE INPUT: true; the input reads as it did. -/
def realOrdersSpec : ChangeSpec := { name := "realOrders", fn := fun _ => fun
  | [d1, d2] => { results := [.lit (.bool true)], args := [d1, d2] }
  | _ => none }
def realOrdersRow : OpenClaim := { program := "ytjcjecbffnadaaa", sum := "85feaa9a69a446b15300d921c87213c9016837463fb017cff732f232f36e98ee", func := "postern/posternlaw04.RealOrders", spec := "realOrders", inPlace := ["math.Float64bits", "math.Float64frombits"], apart := false }
def RealOrdersSaid : Prop := realOrdersRow.holds Try.pinned (OpenSpec.ofChange realOrdersSpec)

/-- ITS FALSE NEIGHBOUR: 'it returns false'. Refute it at one input. -/
def realOrdersWrong : ChangeSpec := { name := "realOrders", fn := fun _ => fun
  | [d1, d2] => { results := [.lit (.bool false)], args := [d1, d2] }
  | _ => none }
def RealOrdersWrongFalsely : Prop := realOrdersRow.holds Try.pinned (OpenSpec.ofChange realOrdersWrong)

/-- 'posternlaw04.RealExtremes': WHATEVER THE INPUT: true; the input reads as it did. -/
def realExtremesSpec : ChangeSpec := { name := "realExtremes", fn := fun _ => fun
  | [d1, d2] => { results := [.lit (.bool true)], args := [d1, d2] }
  | _ => none }
def realExtremesRow : OpenClaim := { program := "ytjcjecbffnadaaa", sum := "85feaa9a69a446b15300d921c87213c9016837463fb017cff732f232f36e98ee", func := "postern/posternlaw04.RealExtremes", spec := "realExtremes", inPlace := ["math.Float64bits", "math.Float64frombits"], apart := false }
def RealExtremesSaid : Prop := realExtremesRow.holds Try.pinned (OpenSpec.ofChange realExtremesSpec)

/-- ITS FALSE NEIGHBOUR: 'it returns false'. Refute it at one input. -/
def realExtremesWrong : ChangeSpec := { name := "realExtremes", fn := fun _ => fun
  | [d1, d2] => { results := [.lit (.bool false)], args := [d1, d2] }
  | _ => none }
def RealExtremesWrongFalsely : Prop := realExtremesRow.holds Try.pinned (OpenSpec.ofChange realExtremesWrong)

/-- 'posternlaw04.RealRounds': WHATEVER THE INPUT: true; the input reads as it did. -/
def realRoundsSpec : ChangeSpec := { name := "realRounds", fn := fun _ => fun
  | [d1, d2, d3] => { results := [.lit (.bool true)], args := [d1, d2, d3] }
  | _ => none }
def realRoundsRow : OpenClaim := { program := "ytjcjecbffnadaaa", sum := "85feaa9a69a446b15300d921c87213c9016837463fb017cff732f232f36e98ee", func := "postern/posternlaw04.RealRounds", spec := "realRounds", inPlace := ["math.Float64bits", "math.Float64frombits", "math.Float32frombits", "math.Float32bits"], apart := false }
def RealRoundsSaid : Prop := realRoundsRow.holds Try.pinned (OpenSpec.ofChange realRoundsSpec)

/-- ITS FALSE NEIGHBOUR: 'it returns false'. Refute it at one input. -/
def realRoundsWrong : ChangeSpec := { name := "realRounds", fn := fun _ => fun
  | [d1, d2, d3] => { results := [.lit (.bool false)], args := [d1, d2, d3] }
  | _ => none }
def RealRoundsWrongFalsely : Prop := realRoundsRow.holds Try.pinned (OpenSpec.ofChange realRoundsWrong)

/- THE SECOND FORM. 'bulk': how many values and letters a reading holds, each counted each time it is reached (what is shared counts as often as it is met; a slice's spare places count too). A statement '..UptoSaid' is the law's where the arguments, and the package variables that the reading takes, are together of bulk at most 1048576: NARROWER than '..Said'. Prove '..Said' where nothing that the law and all that it calls make is longer than what came in: it says more and counts as full. Else prove '..UptoSaid'. A law counts once. -/
mutual
def uptoBulk {H : Type} : DataW H → Nat
  | .lit (.string bytes) => bytes.length + 1
  | .lit _ => 1
  | .nil => 1
  | .ptr d => uptoBulk d + 1
  | .slice elems spare => uptoBulkAll elems + uptoBulkAll spare + 1
  | .agg parts => uptoBulkAll parts + 1
  | .iface _ d => uptoBulk d + 1
  | .map entries => uptoBulkEntries entries + 1
  | .held _ => 1
def uptoBulkAll {H : Type} : List (DataW H) → Nat
  | [] => 0
  | d :: r => uptoBulk d + uptoBulkAll r
def uptoBulkEntries {H : Type} : List (Lit × DataW H) → Nat
  | [] => 0
  | x :: r => uptoBulkEntry x + uptoBulkEntries r
def uptoBulkEntry {H : Type} : Lit × DataW H → Nat
  | (.string bytes, d) => bytes.length + uptoBulk d + 1
  | (_, d) => uptoBulk d + 1
 end
def uptoSmall : (H : Type) → List (DataW H) → Bool := fun _ ds => decide (uptoBulkAll ds ≤ 1048576)
def OpenSpec.upto (s : _root_.Go.ChangeSpec) : _root_.Go.OpenSpec := { _root_.Go.OpenSpec.ofChange s with cond := some uptoSmall }

/-- 'posternlaw04.RealParts', WHERE WHAT IT READS IS OF BULK AT MOST 1048576: true; the input reads as it did. -/
def realPartsUptoRow : OpenClaim := { program := "ytjcjecbffnadaaa", sum := "85feaa9a69a446b15300d921c87213c9016837463fb017cff732f232f36e98ee", func := "postern/posternlaw04.RealParts", spec := "realParts", inPlace := ["math.Float64bits", "math.Float64frombits", "math.Float32frombits", "math.Float32bits"], apart := false, narrowed := true }
def RealPartsUptoSaid : Prop := realPartsUptoRow.holds Try.pinned (OpenSpec.upto realPartsSpec)

/-- 'posternlaw04.RealOf', WHERE WHAT IT READS IS OF BULK AT MOST 1048576: true; the input reads as it did. -/
def realOfUptoRow : OpenClaim := { program := "ytjcjecbffnadaaa", sum := "85feaa9a69a446b15300d921c87213c9016837463fb017cff732f232f36e98ee", func := "postern/posternlaw04.RealOf", spec := "realOf", inPlace := ["math.Float64bits", "math.Float64frombits", "math.Float32frombits", "math.Float32bits"], apart := false, narrowed := true }
def RealOfUptoSaid : Prop := realOfUptoRow.holds Try.pinned (OpenSpec.upto realOfSpec)

/-- 'posternlaw04.RealSteps', WHERE WHAT IT READS IS OF BULK AT MOST 1048576: true; the input reads as it did. -/
def realStepsUptoRow : OpenClaim := { program := "ytjcjecbffnadaaa", sum := "85feaa9a69a446b15300d921c87213c9016837463fb017cff732f232f36e98ee", func := "postern/posternlaw04.RealSteps", spec := "realSteps", inPlace := ["math.Float64bits", "math.Float64frombits"], apart := false, narrowed := true }
def RealStepsUptoSaid : Prop := realStepsUptoRow.holds Try.pinned (OpenSpec.upto realStepsSpec)

/-- 'posternlaw04.RealOrders', WHERE WHAT IT READS IS OF BULK AT MOST 1048576: true; the input reads as it did. -/
def realOrdersUptoRow : OpenClaim := { program := "ytjcjecbffnadaaa", sum := "85feaa9a69a446b15300d921c87213c9016837463fb017cff732f232f36e98ee", func := "postern/posternlaw04.RealOrders", spec := "realOrders", inPlace := ["math.Float64bits", "math.Float64frombits"], apart := false, narrowed := true }
def RealOrdersUptoSaid : Prop := realOrdersUptoRow.holds Try.pinned (OpenSpec.upto realOrdersSpec)

/-- 'posternlaw04.RealExtremes', WHERE WHAT IT READS IS OF BULK AT MOST 1048576: true; the input reads as it did. -/
def realExtremesUptoRow : OpenClaim := { program := "ytjcjecbffnadaaa", sum := "85feaa9a69a446b15300d921c87213c9016837463fb017cff732f232f36e98ee", func := "postern/posternlaw04.RealExtremes", spec := "realExtremes", inPlace := ["math.Float64bits", "math.Float64frombits"], apart := false, narrowed := true }
def RealExtremesUptoSaid : Prop := realExtremesUptoRow.holds Try.pinned (OpenSpec.upto realExtremesSpec)

/-- 'posternlaw04.RealRounds', WHERE WHAT IT READS IS OF BULK AT MOST 1048576: true; the input reads as it did. -/
def realRoundsUptoRow : OpenClaim := { program := "ytjcjecbffnadaaa", sum := "85feaa9a69a446b15300d921c87213c9016837463fb017cff732f232f36e98ee", func := "postern/posternlaw04.RealRounds", spec := "realRounds", inPlace := ["math.Float64bits", "math.Float64frombits", "math.Float32frombits", "math.Float32bits"], apart := false, narrowed := true }
def RealRoundsUptoSaid : Prop := realRoundsUptoRow.holds Try.pinned (OpenSpec.upto realRoundsSpec)

end Rows
end Go.Proofs.Ytjcjecbffnadaaa
