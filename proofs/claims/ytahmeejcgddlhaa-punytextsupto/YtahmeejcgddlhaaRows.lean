/-
  No cell of these rows narrows 'for every input' (looked for: loops, veiled, ifaces, maps, wideKeys, modest, calm, conditions, laid).
  DERIVED. THE GIVEN ROWS OF THIS SEAT. 6 by the template 'for every input the law returns true; each argument reads behind the call as it read before'; 0 by the template 'total and deterministic' (their statements: YtahmeejcgddlhaaTotals.lean).
  GIVEN WITH THE SEED: the statements are not yours to turn. If you find one false, say at which input.
  Laid BY PROGRAM, IN A SANDBOX (cutbox-rows.mjs): the forced cells as the released guide's own fill.sh prints them over the translation f2ab030c187c95a7… (all of the seat's roots in one cut). By AI agents, Wed Nov 11 2026. No macro, syntax, notation, axiom, sorry.
-/
import Derived.Test.YtahmeejcgddlhaaChecked
import GoSem.Claim
import GoSem.ClaimJoined
import GoSem.ClaimMapViews
import Derived.JoinedTies
import Derived.KernelRfl
namespace Go.Proofs.Ytahmeejcgddlhaa
/- THE CELL 'sum', in the pinned program and in every row, IS THE sha256 OF THE DUMP (.gsa) THAT YtahmeejcgddlhaaProg.lean LOADS. Nothing in Lean hashes anything: it is a label: what it is worth is what the hold of that sum in a sandbox is worth. -/
noncomputable def Try.pinned : Pinned := { name := "ytahmeejcgddlhaa", sum := "f2ab030c187c95a72c939d1417d82cd5082e1f2e7ac49dd808a11bb2046e1764", checked := Try.checked }
namespace Rows
def none {H : Type} : Left H := { results := [], args := [] }

/-- 'posternlaw14.PunyEncodes': WHATEVER THE INPUT: true; the input reads as it did. -/
def punyEncodesSpec : ChangeSpec := { name := "punyEncodes", fn := fun _ => fun
  | [d] => { results := [.lit (.bool true)], args := [d] }
  | _ => none }
def punyEncodesRow : OpenClaim := { program := "ytahmeejcgddlhaa", sum := "f2ab030c187c95a72c939d1417d82cd5082e1f2e7ac49dd808a11bb2046e1764", func := "postern/posternlaw14.PunyEncodes", spec := "punyEncodes", unfollowed := true, recurses := true, apart := false }
def PunyEncodesSaid : Prop := punyEncodesRow.holds Try.pinned (OpenSpec.ofChange punyEncodesSpec)

/-- ITS FALSE NEIGHBOUR: 'it returns false'. Refute it at one input. -/
def punyEncodesWrong : ChangeSpec := { name := "punyEncodes", fn := fun _ => fun
  | [d] => { results := [.lit (.bool false)], args := [d] }
  | _ => none }
def PunyEncodesWrongFalsely : Prop := punyEncodesRow.holds Try.pinned (OpenSpec.ofChange punyEncodesWrong)

/-- 'posternlaw14.PunyDecodes': WHATEVER THE INPUT: true; the input reads as it did. -/
def punyDecodesSpec : ChangeSpec := { name := "punyDecodes", fn := fun _ => fun
  | [d] => { results := [.lit (.bool true)], args := [d] }
  | _ => none }
def punyDecodesRow : OpenClaim := { program := "ytahmeejcgddlhaa", sum := "f2ab030c187c95a72c939d1417d82cd5082e1f2e7ac49dd808a11bb2046e1764", func := "postern/posternlaw14.PunyDecodes", spec := "punyDecodes", unfollowed := true, recurses := true, apart := false }
def PunyDecodesSaid : Prop := punyDecodesRow.holds Try.pinned (OpenSpec.ofChange punyDecodesSpec)

/-- ITS FALSE NEIGHBOUR: 'it returns false'. Refute it at one input. -/
def punyDecodesWrong : ChangeSpec := { name := "punyDecodes", fn := fun _ => fun
  | [d] => { results := [.lit (.bool false)], args := [d] }
  | _ => none }
def PunyDecodesWrongFalsely : Prop := punyDecodesRow.holds Try.pinned (OpenSpec.ofChange punyDecodesWrong)

/-- 'posternlaw14.PunyBack': WHATEVER THE INPUT: true; the input reads as it did. -/
def punyBackSpec : ChangeSpec := { name := "punyBack", fn := fun _ => fun
  | [d] => { results := [.lit (.bool true)], args := [d] }
  | _ => none }
def punyBackRow : OpenClaim := { program := "ytahmeejcgddlhaa", sum := "f2ab030c187c95a72c939d1417d82cd5082e1f2e7ac49dd808a11bb2046e1764", func := "postern/posternlaw14.PunyBack", spec := "punyBack", unfollowed := true, recurses := true, apart := false }
def PunyBackSaid : Prop := punyBackRow.holds Try.pinned (OpenSpec.ofChange punyBackSpec)

/-- ITS FALSE NEIGHBOUR: 'it returns false'. Refute it at one input. -/
def punyBackWrong : ChangeSpec := { name := "punyBack", fn := fun _ => fun
  | [d] => { results := [.lit (.bool false)], args := [d] }
  | _ => none }
def PunyBackWrongFalsely : Prop := punyBackRow.holds Try.pinned (OpenSpec.ofChange punyBackWrong)

/-- 'posternlaw14.PunyTexts': WHATEVER THE INPUT: true; the input reads as it did. -/
def punyTextsSpec : ChangeSpec := { name := "punyTexts", fn := fun _ => fun
  | [d] => { results := [.lit (.bool true)], args := [d] }
  | _ => none }
def punyTextsRow : OpenClaim := { program := "ytahmeejcgddlhaa", sum := "f2ab030c187c95a72c939d1417d82cd5082e1f2e7ac49dd808a11bb2046e1764", func := "postern/posternlaw14.PunyTexts", spec := "punyTexts", unfollowed := true, recurses := true, apart := false }
def PunyTextsSaid : Prop := punyTextsRow.holds Try.pinned (OpenSpec.ofChange punyTextsSpec)

/-- ITS FALSE NEIGHBOUR: 'it returns false'. Refute it at one input. -/
def punyTextsWrong : ChangeSpec := { name := "punyTexts", fn := fun _ => fun
  | [d] => { results := [.lit (.bool false)], args := [d] }
  | _ => none }
def PunyTextsWrongFalsely : Prop := punyTextsRow.holds Try.pinned (OpenSpec.ofChange punyTextsWrong)

/-- 'posternlaw14.PunyDigits': WHATEVER THE INPUT: true; the input reads as it did. -/
def punyDigitsSpec : ChangeSpec := { name := "punyDigits", fn := fun _ => fun
  | [d1, d2, d3] => { results := [.lit (.bool true)], args := [d1, d2, d3] }
  | _ => none }
def punyDigitsRow : OpenClaim := { program := "ytahmeejcgddlhaa", sum := "f2ab030c187c95a72c939d1417d82cd5082e1f2e7ac49dd808a11bb2046e1764", func := "postern/posternlaw14.PunyDigits", spec := "punyDigits", unfollowed := true, recurses := true, apart := false }
def PunyDigitsSaid : Prop := punyDigitsRow.holds Try.pinned (OpenSpec.ofChange punyDigitsSpec)

/-- ITS FALSE NEIGHBOUR: 'it returns false'. Refute it at one input. -/
def punyDigitsWrong : ChangeSpec := { name := "punyDigits", fn := fun _ => fun
  | [d1, d2, d3] => { results := [.lit (.bool false)], args := [d1, d2, d3] }
  | _ => none }
def PunyDigitsWrongFalsely : Prop := punyDigitsRow.holds Try.pinned (OpenSpec.ofChange punyDigitsWrong)

/-- 'posternlaw14.PunyMemory': WHATEVER THE INPUT: true; the input reads as it did. -/
def punyMemorySpec : ChangeSpec := { name := "punyMemory", fn := fun _ => fun
  | [d] => { results := [.lit (.bool true)], args := [d] }
  | _ => none }
def punyMemoryRow : OpenClaim := { program := "ytahmeejcgddlhaa", sum := "f2ab030c187c95a72c939d1417d82cd5082e1f2e7ac49dd808a11bb2046e1764", func := "postern/posternlaw14.PunyMemory", spec := "punyMemory", unfollowed := true, recurses := true, apart := false }
def PunyMemorySaid : Prop := punyMemoryRow.holds Try.pinned (OpenSpec.ofChange punyMemorySpec)

/-- ITS FALSE NEIGHBOUR: 'it returns false'. Refute it at one input. -/
def punyMemoryWrong : ChangeSpec := { name := "punyMemory", fn := fun _ => fun
  | [d] => { results := [.lit (.bool false)], args := [d] }
  | _ => none }
def PunyMemoryWrongFalsely : Prop := punyMemoryRow.holds Try.pinned (OpenSpec.ofChange punyMemoryWrong)

/- THE SECOND FORM. 'bulk': how many values and letters a reading holds, each counted each time it is reached (what is shared counts as often as it is met; a slice's spare places count too). A statement '..UptoSaid' is the law's where the arguments, and the package variables that the reading takes, are together of bulk at most 1048576: NARROWER than '..Said'. Prove '..Said' where nothing that the law and all that it calls make is longer than what came in: it says more and counts as full. Else prove '..UptoSaid'. A law counts once. -/
mutual
def uptoBulk {H : Type} : DataW H → Nat
  | .lit (.string bytes) => bytes.length + 1
  | .lit _ => 1
  | .nil => 1
  | .ptr d => uptoBulk d + 1
  | .slice elems spare => uptoBulkAll elems + uptoBulkAll spare + 1
  | .agg parts => uptoBulkAll parts + 1
  | .iface _ d => uptoBulk d + 1
  | .map entries => uptoBulkEntries entries + 1
  | .held _ => 1
def uptoBulkAll {H : Type} : List (DataW H) → Nat
  | [] => 0
  | d :: r => uptoBulk d + uptoBulkAll r
def uptoBulkEntries {H : Type} : List (Lit × DataW H) → Nat
  | [] => 0
  | x :: r => uptoBulkEntry x + uptoBulkEntries r
def uptoBulkEntry {H : Type} : Lit × DataW H → Nat
  | (.string bytes, d) => bytes.length + uptoBulk d + 1
  | (_, d) => uptoBulk d + 1
 end
def uptoSmall : (H : Type) → List (DataW H) → Bool := fun _ ds => decide (uptoBulkAll ds ≤ 1048576)
def OpenSpec.upto (s : _root_.Go.ChangeSpec) : _root_.Go.OpenSpec := { _root_.Go.OpenSpec.ofChange s with cond := some uptoSmall }

/-- 'posternlaw14.PunyEncodes', WHERE WHAT IT READS IS OF BULK AT MOST 1048576: true; the input reads as it did. -/
def punyEncodesUptoRow : OpenClaim := { program := "ytahmeejcgddlhaa", sum := "f2ab030c187c95a72c939d1417d82cd5082e1f2e7ac49dd808a11bb2046e1764", func := "postern/posternlaw14.PunyEncodes", spec := "punyEncodes", unfollowed := true, recurses := true, apart := false, narrowed := true }
def PunyEncodesUptoSaid : Prop := punyEncodesUptoRow.holds Try.pinned (OpenSpec.upto punyEncodesSpec)

/-- 'posternlaw14.PunyDecodes', WHERE WHAT IT READS IS OF BULK AT MOST 1048576: true; the input reads as it did. -/
def punyDecodesUptoRow : OpenClaim := { program := "ytahmeejcgddlhaa", sum := "f2ab030c187c95a72c939d1417d82cd5082e1f2e7ac49dd808a11bb2046e1764", func := "postern/posternlaw14.PunyDecodes", spec := "punyDecodes", unfollowed := true, recurses := true, apart := false, narrowed := true }
def PunyDecodesUptoSaid : Prop := punyDecodesUptoRow.holds Try.pinned (OpenSpec.upto punyDecodesSpec)

/-- 'posternlaw14.PunyBack', WHERE WHAT IT READS IS OF BULK AT MOST 1048576: true; the input reads as it did. -/
def punyBackUptoRow : OpenClaim := { program := "ytahmeejcgddlhaa", sum := "f2ab030c187c95a72c939d1417d82cd5082e1f2e7ac49dd808a11bb2046e1764", func := "postern/posternlaw14.PunyBack", spec := "punyBack", unfollowed := true, recurses := true, apart := false, narrowed := true }
def PunyBackUptoSaid : Prop := punyBackUptoRow.holds Try.pinned (OpenSpec.upto punyBackSpec)

/-- 'posternlaw14.PunyTexts', WHERE WHAT IT READS IS OF BULK AT MOST 1048576: true; the input reads as it did. -/
def punyTextsUptoRow : OpenClaim := { program := "ytahmeejcgddlhaa", sum := "f2ab030c187c95a72c939d1417d82cd5082e1f2e7ac49dd808a11bb2046e1764", func := "postern/posternlaw14.PunyTexts", spec := "punyTexts", unfollowed := true, recurses := true, apart := false, narrowed := true }
def PunyTextsUptoSaid : Prop := punyTextsUptoRow.holds Try.pinned (OpenSpec.upto punyTextsSpec)

/-- 'posternlaw14.PunyDigits', WHERE WHAT IT READS IS OF BULK AT MOST 1048576: true; the input reads as it did. -/
def punyDigitsUptoRow : OpenClaim := { program := "ytahmeejcgddlhaa", sum := "f2ab030c187c95a72c939d1417d82cd5082e1f2e7ac49dd808a11bb2046e1764", func := "postern/posternlaw14.PunyDigits", spec := "punyDigits", unfollowed := true, recurses := true, apart := false, narrowed := true }
def PunyDigitsUptoSaid : Prop := punyDigitsUptoRow.holds Try.pinned (OpenSpec.upto punyDigitsSpec)

/-- 'posternlaw14.PunyMemory', WHERE WHAT IT READS IS OF BULK AT MOST 1048576: true; the input reads as it did. -/
def punyMemoryUptoRow : OpenClaim := { program := "ytahmeejcgddlhaa", sum := "f2ab030c187c95a72c939d1417d82cd5082e1f2e7ac49dd808a11bb2046e1764", func := "postern/posternlaw14.PunyMemory", spec := "punyMemory", unfollowed := true, recurses := true, apart := false, narrowed := true }
def PunyMemoryUptoSaid : Prop := punyMemoryUptoRow.holds Try.pinned (OpenSpec.upto punyMemorySpec)

end Rows
end Go.Proofs.Ytahmeejcgddlhaa
