/-
  No cell of these rows narrows 'for every input' (looked for: loops, veiled, ifaces, maps, wideKeys, modest, calm, conditions, laid).
  DERIVED. THE GIVEN ROWS OF THIS SEAT. 5 by the template 'for every input the law returns true; each argument reads behind the call as it read before'; 0 by the template 'total and deterministic' (their statements: YtookbgmolggohabTotals.lean).
  GIVEN WITH THE SEED: the statements are not yours to turn. If you find one false, say at which input.
  Laid BY PROGRAM, IN A SANDBOX (cutbox-rows.mjs): the forced cells as the released guide's own fill.sh prints them over the translation c68cca6455f06150… (all of the seat's roots in one cut). By AI agents, Wed Nov 11 2026. No macro, syntax, notation, axiom, sorry.
-/
import Derived.Test.YtookbgmolggohabChecked
import GoSem.Claim
import GoSem.ClaimJoined
import GoSem.ClaimMapViews
import Derived.JoinedTies
import Derived.KernelRfl
namespace Go.Proofs.Ytookbgmolggohab
/- THE CELL 'sum', in the pinned program and in every row, IS THE sha256 OF THE DUMP (.gsa) THAT YtookbgmolggohabProg.lean LOADS. Nothing in Lean hashes anything: it is a label: what it is worth is what the hold of that sum in a sandbox is worth. -/
noncomputable def Try.pinned : Pinned := { name := "ytookbgmolggohab", sum := "c68cca6455f0615087b7dc9099c4f1b89aa65aa8d6f514da8004d604ade7586a", checked := Try.checked }
namespace Rows
def none {H : Type} : Left H := { results := [], args := [] }

/-- 'posternlaw08.StageMemory': WHATEVER THE INPUT: true; the input reads as it did. -/
def stageMemorySpec : ChangeSpec := { name := "stageMemory", fn := fun _ => fun
  | [d1, d2] => { results := [.lit (.bool true)], args := [d1, d2] }
  | _ => none }
def stageMemoryRow : OpenClaim := { program := "ytookbgmolggohab", sum := "c68cca6455f0615087b7dc9099c4f1b89aa65aa8d6f514da8004d604ade7586a", func := "postern/posternlaw08.StageMemory", spec := "stageMemory", unfollowed := true, recurses := true, plainKeys := false, apart := false }
def StageMemorySaid : Prop := stageMemoryRow.holds Try.pinned (OpenSpec.ofChange stageMemorySpec)

/-- ITS FALSE NEIGHBOUR: 'it returns false'. Refute it at one input. -/
def stageMemoryWrong : ChangeSpec := { name := "stageMemory", fn := fun _ => fun
  | [d1, d2] => { results := [.lit (.bool false)], args := [d1, d2] }
  | _ => none }
def StageMemoryWrongFalsely : Prop := stageMemoryRow.holds Try.pinned (OpenSpec.ofChange stageMemoryWrong)

/-- 'posternlaw08.StageDiffers': WHATEVER THE INPUT: true; the input reads as it did. -/
def stageDiffersSpec : ChangeSpec := { name := "stageDiffers", fn := fun _ => fun
  | [d1, d2] => { results := [.lit (.bool true)], args := [d1, d2] }
  | _ => none }
def stageDiffersRow : OpenClaim := { program := "ytookbgmolggohab", sum := "c68cca6455f0615087b7dc9099c4f1b89aa65aa8d6f514da8004d604ade7586a", func := "postern/posternlaw08.StageDiffers", spec := "stageDiffers", unfollowed := true, recurses := true, plainKeys := false, apart := false }
def StageDiffersSaid : Prop := stageDiffersRow.holds Try.pinned (OpenSpec.ofChange stageDiffersSpec)

/-- ITS FALSE NEIGHBOUR: 'it returns false'. Refute it at one input. -/
def stageDiffersWrong : ChangeSpec := { name := "stageDiffers", fn := fun _ => fun
  | [d1, d2] => { results := [.lit (.bool false)], args := [d1, d2] }
  | _ => none }
def StageDiffersWrongFalsely : Prop := stageDiffersRow.holds Try.pinned (OpenSpec.ofChange stageDiffersWrong)

/-- 'posternlaw08.StageWheres': WHATEVER THE INPUT: true; the input reads as it did. -/
def stageWheresSpec : ChangeSpec := { name := "stageWheres", fn := fun _ => fun
  | [d1, d2, d3] => { results := [.lit (.bool true)], args := [d1, d2, d3] }
  | _ => none }
def stageWheresRow : OpenClaim := { program := "ytookbgmolggohab", sum := "c68cca6455f0615087b7dc9099c4f1b89aa65aa8d6f514da8004d604ade7586a", func := "postern/posternlaw08.StageWheres", spec := "stageWheres", unfollowed := true, recurses := true, plainKeys := false, apart := false }
def StageWheresSaid : Prop := stageWheresRow.holds Try.pinned (OpenSpec.ofChange stageWheresSpec)

/-- ITS FALSE NEIGHBOUR: 'it returns false'. Refute it at one input. -/
def stageWheresWrong : ChangeSpec := { name := "stageWheres", fn := fun _ => fun
  | [d1, d2, d3] => { results := [.lit (.bool false)], args := [d1, d2, d3] }
  | _ => none }
def StageWheresWrongFalsely : Prop := stageWheresRow.holds Try.pinned (OpenSpec.ofChange stageWheresWrong)

/-- 'posternlaw08.StageSwaps': WHATEVER THE INPUT: true; the input reads as it did. -/
def stageSwapsSpec : ChangeSpec := { name := "stageSwaps", fn := fun _ => fun
  | [d1, d2] => { results := [.lit (.bool true)], args := [d1, d2] }
  | _ => none }
def stageSwapsRow : OpenClaim := { program := "ytookbgmolggohab", sum := "c68cca6455f0615087b7dc9099c4f1b89aa65aa8d6f514da8004d604ade7586a", func := "postern/posternlaw08.StageSwaps", spec := "stageSwaps", unfollowed := true, recurses := true, plainKeys := false, apart := false }
def StageSwapsSaid : Prop := stageSwapsRow.holds Try.pinned (OpenSpec.ofChange stageSwapsSpec)

/-- ITS FALSE NEIGHBOUR: 'it returns false'. Refute it at one input. -/
def stageSwapsWrong : ChangeSpec := { name := "stageSwaps", fn := fun _ => fun
  | [d1, d2] => { results := [.lit (.bool false)], args := [d1, d2] }
  | _ => none }
def StageSwapsWrongFalsely : Prop := stageSwapsRow.holds Try.pinned (OpenSpec.ofChange stageSwapsWrong)

/-- 'posternlaw08.StageSums': WHATEVER THE INPUT: true; the input reads as it did. -/
def stageSumsSpec : ChangeSpec := { name := "stageSums", fn := fun _ => fun
  | [d1, d2] => { results := [.lit (.bool true)], args := [d1, d2] }
  | _ => none }
def stageSumsRow : OpenClaim := { program := "ytookbgmolggohab", sum := "c68cca6455f0615087b7dc9099c4f1b89aa65aa8d6f514da8004d604ade7586a", func := "postern/posternlaw08.StageSums", spec := "stageSums", unfollowed := true, recurses := true, plainKeys := false, apart := false }
def StageSumsSaid : Prop := stageSumsRow.holds Try.pinned (OpenSpec.ofChange stageSumsSpec)

/-- ITS FALSE NEIGHBOUR: 'it returns false'. Refute it at one input. -/
def stageSumsWrong : ChangeSpec := { name := "stageSums", fn := fun _ => fun
  | [d1, d2] => { results := [.lit (.bool false)], args := [d1, d2] }
  | _ => none }
def StageSumsWrongFalsely : Prop := stageSumsRow.holds Try.pinned (OpenSpec.ofChange stageSumsWrong)

/- THE SECOND FORM. 'bulk': how many values and letters a reading holds, each counted each time it is reached (what is shared counts as often as it is met; a slice's spare places count too). A statement '..UptoSaid' is the law's where the arguments, and the package variables that the reading takes, are together of bulk at most 1048576: NARROWER than '..Said'. Prove '..Said' where nothing that the law and all that it calls make is longer than what came in: it says more and counts as full. Else prove '..UptoSaid'. A law counts once. -/
mutual
def uptoBulk {H : Type} : DataW H → Nat
  | .lit (.string bytes) => bytes.length + 1
  | .lit _ => 1
  | .nil => 1
  | .ptr d => uptoBulk d + 1
  | .slice elems spare => uptoBulkAll elems + uptoBulkAll spare + 1
  | .agg parts => uptoBulkAll parts + 1
  | .iface _ d => uptoBulk d + 1
  | .map entries => uptoBulkEntries entries + 1
  | .held _ => 1
def uptoBulkAll {H : Type} : List (DataW H) → Nat
  | [] => 0
  | d :: r => uptoBulk d + uptoBulkAll r
def uptoBulkEntries {H : Type} : List (Lit × DataW H) → Nat
  | [] => 0
  | x :: r => uptoBulkEntry x + uptoBulkEntries r
def uptoBulkEntry {H : Type} : Lit × DataW H → Nat
  | (.string bytes, d) => bytes.length + uptoBulk d + 1
  | (_, d) => uptoBulk d + 1
 end
def uptoSmall : (H : Type) → List (DataW H) → Bool := fun _ ds => decide (uptoBulkAll ds ≤ 1048576)
def OpenSpec.upto (s : _root_.Go.ChangeSpec) : _root_.Go.OpenSpec := { _root_.Go.OpenSpec.ofChange s with cond := some uptoSmall }

/-- 'posternlaw08.StageMemory', WHERE WHAT IT READS IS OF BULK AT MOST 1048576: true; the input reads as it did. -/
def stageMemoryUptoRow : OpenClaim := { program := "ytookbgmolggohab", sum := "c68cca6455f0615087b7dc9099c4f1b89aa65aa8d6f514da8004d604ade7586a", func := "postern/posternlaw08.StageMemory", spec := "stageMemory", unfollowed := true, recurses := true, plainKeys := false, apart := false, narrowed := true }
def StageMemoryUptoSaid : Prop := stageMemoryUptoRow.holds Try.pinned (OpenSpec.upto stageMemorySpec)

/-- 'posternlaw08.StageDiffers', WHERE WHAT IT READS IS OF BULK AT MOST 1048576: true; the input reads as it did. -/
def stageDiffersUptoRow : OpenClaim := { program := "ytookbgmolggohab", sum := "c68cca6455f0615087b7dc9099c4f1b89aa65aa8d6f514da8004d604ade7586a", func := "postern/posternlaw08.StageDiffers", spec := "stageDiffers", unfollowed := true, recurses := true, plainKeys := false, apart := false, narrowed := true }
def StageDiffersUptoSaid : Prop := stageDiffersUptoRow.holds Try.pinned (OpenSpec.upto stageDiffersSpec)

/-- 'posternlaw08.StageWheres', WHERE WHAT IT READS IS OF BULK AT MOST 1048576: true; the input reads as it did. -/
def stageWheresUptoRow : OpenClaim := { program := "ytookbgmolggohab", sum := "c68cca6455f0615087b7dc9099c4f1b89aa65aa8d6f514da8004d604ade7586a", func := "postern/posternlaw08.StageWheres", spec := "stageWheres", unfollowed := true, recurses := true, plainKeys := false, apart := false, narrowed := true }
def StageWheresUptoSaid : Prop := stageWheresUptoRow.holds Try.pinned (OpenSpec.upto stageWheresSpec)

/-- 'posternlaw08.StageSwaps', WHERE WHAT IT READS IS OF BULK AT MOST 1048576: true; the input reads as it did. -/
def stageSwapsUptoRow : OpenClaim := { program := "ytookbgmolggohab", sum := "c68cca6455f0615087b7dc9099c4f1b89aa65aa8d6f514da8004d604ade7586a", func := "postern/posternlaw08.StageSwaps", spec := "stageSwaps", unfollowed := true, recurses := true, plainKeys := false, apart := false, narrowed := true }
def StageSwapsUptoSaid : Prop := stageSwapsUptoRow.holds Try.pinned (OpenSpec.upto stageSwapsSpec)

/-- 'posternlaw08.StageSums', WHERE WHAT IT READS IS OF BULK AT MOST 1048576: true; the input reads as it did. -/
def stageSumsUptoRow : OpenClaim := { program := "ytookbgmolggohab", sum := "c68cca6455f0615087b7dc9099c4f1b89aa65aa8d6f514da8004d604ade7586a", func := "postern/posternlaw08.StageSums", spec := "stageSums", unfollowed := true, recurses := true, plainKeys := false, apart := false, narrowed := true }
def StageSumsUptoSaid : Prop := stageSumsUptoRow.holds Try.pinned (OpenSpec.upto stageSumsSpec)

end Rows
end Go.Proofs.Ytookbgmolggohab
