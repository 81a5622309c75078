/-
  No cell of these rows narrows 'for every input' (looked for: loops, veiled, ifaces, maps, wideKeys, modest, calm, conditions, laid).
  DERIVED. THE GIVEN ROWS OF THIS SEAT. 2 by the template 'for every input the law returns true; each argument reads behind the call as it read before'; 0 by the template 'total and deterministic' (their statements: YtahmeejcgddlhabTotals.lean).
  GIVEN WITH THE SEED: the statements are not yours to turn. If you find one false, say at which input.
  Laid BY PROGRAM, IN A SANDBOX (cutbox-rows.mjs): the forced cells as the released guide's own fill.sh prints them over the translation 6a039c919833772a… (all of the seat's roots in one cut). By AI agents, Wed Nov 11 2026. No macro, syntax, notation, axiom, sorry.
-/
import Derived.Test.YtahmeejcgddlhabChecked
import GoSem.Claim
import GoSem.ClaimJoined
import GoSem.ClaimMapViews
import Derived.JoinedTies
import Derived.KernelRfl
namespace Go.Proofs.Ytahmeejcgddlhab
/- THE CELL 'sum', in the pinned program and in every row, IS THE sha256 OF THE DUMP (.gsa) THAT YtahmeejcgddlhabProg.lean LOADS. Nothing in Lean hashes anything: it is a label: what it is worth is what the hold of that sum in a sandbox is worth. -/
noncomputable def Try.pinned : Pinned := { name := "ytahmeejcgddlhab", sum := "6a039c919833772aded1fbd63a3e9c55a2b6d5e9e4ec19d67cbade58d9c8984b", checked := Try.checked }
namespace Rows
def none {H : Type} : Left H := { results := [], args := [] }

/-- 'posternlaw14.PunyBoots': WHATEVER THE INPUT: true; the input reads as it did. -/
def punyBootsSpec : ChangeSpec := { name := "punyBoots", fn := fun _ => fun
  | [d1, d2, d3] => { results := [.lit (.bool true)], args := [d1, d2, d3] }
  | _ => none }
def punyBootsRow : OpenClaim := { program := "ytahmeejcgddlhab", sum := "6a039c919833772aded1fbd63a3e9c55a2b6d5e9e4ec19d67cbade58d9c8984b", func := "postern/posternlaw14.PunyBoots", spec := "punyBoots", unfollowed := true, recurses := true, apart := false }
def PunyBootsSaid : Prop := punyBootsRow.holds Try.pinned (OpenSpec.ofChange punyBootsSpec)

/-- ITS FALSE NEIGHBOUR: 'it returns false'. Refute it at one input. -/
def punyBootsWrong : ChangeSpec := { name := "punyBoots", fn := fun _ => fun
  | [d1, d2, d3] => { results := [.lit (.bool false)], args := [d1, d2, d3] }
  | _ => none }
def PunyBootsWrongFalsely : Prop := punyBootsRow.holds Try.pinned (OpenSpec.ofChange punyBootsWrong)

/-- 'posternlaw14.PunyUsual': WHATEVER THE INPUT: true; the input reads as it did. -/
def punyUsualSpec : ChangeSpec := { name := "punyUsual", fn := fun _ => fun
  | [d1, d2, d3] => { results := [.lit (.bool true)], args := [d1, d2, d3] }
  | _ => none }
def punyUsualRow : OpenClaim := { program := "ytahmeejcgddlhab", sum := "6a039c919833772aded1fbd63a3e9c55a2b6d5e9e4ec19d67cbade58d9c8984b", func := "postern/posternlaw14.PunyUsual", spec := "punyUsual", unfollowed := true, recurses := true, apart := false }
def PunyUsualSaid : Prop := punyUsualRow.holds Try.pinned (OpenSpec.ofChange punyUsualSpec)

/-- ITS FALSE NEIGHBOUR: 'it returns false'. Refute it at one input. -/
def punyUsualWrong : ChangeSpec := { name := "punyUsual", fn := fun _ => fun
  | [d1, d2, d3] => { results := [.lit (.bool false)], args := [d1, d2, d3] }
  | _ => none }
def PunyUsualWrongFalsely : Prop := punyUsualRow.holds Try.pinned (OpenSpec.ofChange punyUsualWrong)

/- THE SECOND FORM. 'bulk': how many values and letters a reading holds, each counted each time it is reached (what is shared counts as often as it is met; a slice's spare places count too). A statement '..UptoSaid' is the law's where the arguments, and the package variables that the reading takes, are together of bulk at most 1048576: NARROWER than '..Said'. Prove '..Said' where nothing that the law and all that it calls make is longer than what came in: it says more and counts as full. Else prove '..UptoSaid'. A law counts once. -/
mutual
def uptoBulk {H : Type} : DataW H → Nat
  | .lit (.string bytes) => bytes.length + 1
  | .lit _ => 1
  | .nil => 1
  | .ptr d => uptoBulk d + 1
  | .slice elems spare => uptoBulkAll elems + uptoBulkAll spare + 1
  | .agg parts => uptoBulkAll parts + 1
  | .iface _ d => uptoBulk d + 1
  | .map entries => uptoBulkEntries entries + 1
  | .held _ => 1
def uptoBulkAll {H : Type} : List (DataW H) → Nat
  | [] => 0
  | d :: r => uptoBulk d + uptoBulkAll r
def uptoBulkEntries {H : Type} : List (Lit × DataW H) → Nat
  | [] => 0
  | x :: r => uptoBulkEntry x + uptoBulkEntries r
def uptoBulkEntry {H : Type} : Lit × DataW H → Nat
  | (.string bytes, d) => bytes.length + uptoBulk d + 1
  | (_, d) => uptoBulk d + 1
 end
def uptoSmall : (H : Type) → List (DataW H) → Bool := fun _ ds => decide (uptoBulkAll ds ≤ 1048576)
def OpenSpec.upto (s : _root_.Go.ChangeSpec) : _root_.Go.OpenSpec := { _root_.Go.OpenSpec.ofChange s with cond := some uptoSmall }

/-- 'posternlaw14.PunyBoots', WHERE WHAT IT READS IS OF BULK AT MOST 1048576: true; the input reads as it did. -/
def punyBootsUptoRow : OpenClaim := { program := "ytahmeejcgddlhab", sum := "6a039c919833772aded1fbd63a3e9c55a2b6d5e9e4ec19d67cbade58d9c8984b", func := "postern/posternlaw14.PunyBoots", spec := "punyBoots", unfollowed := true, recurses := true, apart := false, narrowed := true }
def PunyBootsUptoSaid : Prop := punyBootsUptoRow.holds Try.pinned (OpenSpec.upto punyBootsSpec)

/-- 'posternlaw14.PunyUsual', WHERE WHAT IT READS IS OF BULK AT MOST 1048576: true; the input reads as it did. -/
def punyUsualUptoRow : OpenClaim := { program := "ytahmeejcgddlhab", sum := "6a039c919833772aded1fbd63a3e9c55a2b6d5e9e4ec19d67cbade58d9c8984b", func := "postern/posternlaw14.PunyUsual", spec := "punyUsual", unfollowed := true, recurses := true, apart := false, narrowed := true }
def PunyUsualUptoSaid : Prop := punyUsualUptoRow.holds Try.pinned (OpenSpec.upto punyUsualSpec)

end Rows
end Go.Proofs.Ytahmeejcgddlhab
