/-
  No cell of these rows narrows 'for every input' (looked for: loops, veiled, ifaces, maps, wideKeys, modest, calm, conditions, laid).
  DERIVED. THE GIVEN ROWS OF THIS SEAT. 6 by the template 'for every input the law returns true; each argument reads behind the call as it read before'; 0 by the template 'total and deterministic' (their statements: YtdhfkdopcphjlaaTotals.lean).
  GIVEN WITH THE SEED: the statements are not yours to turn. If you find one false, say at which input.
  Laid BY PROGRAM, IN A SANDBOX (cutbox-rows.mjs): the forced cells as the released guide's own fill.sh prints them over the translation 2eaab9f1c7e2190f… (all of the seat's roots in one cut). By AI agents, Wed Nov 11 2026. No macro, syntax, notation, axiom, sorry.
-/
import Derived.Test.YtdhfkdopcphjlaaChecked
import GoSem.Claim
import GoSem.ClaimJoined
import GoSem.ClaimMapViews
import Derived.JoinedTies
import Derived.KernelRfl
namespace Go.Proofs.Ytdhfkdopcphjlaa
/- THE CELL 'sum', in the pinned program and in every row, IS THE sha256 OF THE DUMP (.gsa) THAT YtdhfkdopcphjlaaProg.lean LOADS. Nothing in Lean hashes anything: it is a label: what it is worth is what the hold of that sum in a sandbox is worth. -/
noncomputable def Try.pinned : Pinned := { name := "ytdhfkdopcphjlaa", sum := "2eaab9f1c7e2190f130995b94675027b6ab90e81fd6cdfaed32e6e2043d7e034", checked := Try.checked }
namespace Rows
def none {H : Type} : Left H := { results := [], args := [] }

/-- 'posternlaw05.TotalSums': WHATEVER THE INPUT: true; the input reads as it did. -/
def totalSumsSpec : ChangeSpec := { name := "totalSums", fn := fun _ => fun
  | [d1, d2] => { results := [.lit (.bool true)], args := [d1, d2] }
  | _ => none }
def totalSumsRow : OpenClaim := { program := "ytdhfkdopcphjlaa", sum := "2eaab9f1c7e2190f130995b94675027b6ab90e81fd6cdfaed32e6e2043d7e034", func := "postern/posternlaw05.TotalSums", spec := "totalSums", inPlace := ["math.Float64bits", "math/bits.Sub64", "math/bits.Add64", "math.Float64frombits"], recurses := true, apart := false }
def TotalSumsSaid : Prop := totalSumsRow.holds Try.pinned (OpenSpec.ofChange totalSumsSpec)

/-- ITS FALSE NEIGHBOUR: 'it returns false'. Refute it at one input. -/
def totalSumsWrong : ChangeSpec := { name := "totalSums", fn := fun _ => fun
  | [d1, d2] => { results := [.lit (.bool false)], args := [d1, d2] }
  | _ => none }
def TotalSumsWrongFalsely : Prop := totalSumsRow.holds Try.pinned (OpenSpec.ofChange totalSumsWrong)

/-- 'posternlaw05.TotalKeeps': WHATEVER THE INPUT: true; the input reads as it did. -/
def totalKeepsSpec : ChangeSpec := { name := "totalKeeps", fn := fun _ => fun
  | [d1, d2, d3] => { results := [.lit (.bool true)], args := [d1, d2, d3] }
  | _ => none }
def totalKeepsRow : OpenClaim := { program := "ytdhfkdopcphjlaa", sum := "2eaab9f1c7e2190f130995b94675027b6ab90e81fd6cdfaed32e6e2043d7e034", func := "postern/posternlaw05.TotalKeeps", spec := "totalKeeps", inPlace := ["math.Float64bits", "math/bits.Sub64", "math/bits.Add64", "math.Float64frombits"], apart := false }
def TotalKeepsSaid : Prop := totalKeepsRow.holds Try.pinned (OpenSpec.ofChange totalKeepsSpec)

/-- ITS FALSE NEIGHBOUR: 'it returns false'. Refute it at one input. -/
def totalKeepsWrong : ChangeSpec := { name := "totalKeeps", fn := fun _ => fun
  | [d1, d2, d3] => { results := [.lit (.bool false)], args := [d1, d2, d3] }
  | _ => none }
def TotalKeepsWrongFalsely : Prop := totalKeepsRow.holds Try.pinned (OpenSpec.ofChange totalKeepsWrong)

/-- 'posternlaw05.TotalExact': WHATEVER THE INPUT: true; the input reads as it did. -/
def totalExactSpec : ChangeSpec := { name := "totalExact", fn := fun _ => fun
  | [d] => { results := [.lit (.bool true)], args := [d] }
  | _ => none }
def totalExactRow : OpenClaim := { program := "ytdhfkdopcphjlaa", sum := "2eaab9f1c7e2190f130995b94675027b6ab90e81fd6cdfaed32e6e2043d7e034", func := "postern/posternlaw05.TotalExact", spec := "totalExact", inPlace := ["math.Float64bits", "math/bits.Sub64", "math/bits.Add64", "math.Float64frombits"], apart := false }
def TotalExactSaid : Prop := totalExactRow.holds Try.pinned (OpenSpec.ofChange totalExactSpec)

/-- ITS FALSE NEIGHBOUR: 'it returns false'. Refute it at one input. -/
def totalExactWrong : ChangeSpec := { name := "totalExact", fn := fun _ => fun
  | [d] => { results := [.lit (.bool false)], args := [d] }
  | _ => none }
def TotalExactWrongFalsely : Prop := totalExactRow.holds Try.pinned (OpenSpec.ofChange totalExactWrong)

/-- 'posternlaw05.TotalOrders': WHATEVER THE INPUT: true; the input reads as it did. -/
def totalOrdersSpec : ChangeSpec := { name := "totalOrders", fn := fun _ => fun
  | [d1, d2] => { results := [.lit (.bool true)], args := [d1, d2] }
  | _ => none }
def totalOrdersRow : OpenClaim := { program := "ytdhfkdopcphjlaa", sum := "2eaab9f1c7e2190f130995b94675027b6ab90e81fd6cdfaed32e6e2043d7e034", func := "postern/posternlaw05.TotalOrders", spec := "totalOrders", inPlace := ["math.Float64bits", "math/bits.Sub64", "math/bits.Add64", "math.Float64frombits"], apart := false }
def TotalOrdersSaid : Prop := totalOrdersRow.holds Try.pinned (OpenSpec.ofChange totalOrdersSpec)

/-- ITS FALSE NEIGHBOUR: 'it returns false'. Refute it at one input. -/
def totalOrdersWrong : ChangeSpec := { name := "totalOrders", fn := fun _ => fun
  | [d1, d2] => { results := [.lit (.bool false)], args := [d1, d2] }
  | _ => none }
def TotalOrdersWrongFalsely : Prop := totalOrdersRow.holds Try.pinned (OpenSpec.ofChange totalOrdersWrong)

/-- 'posternlaw05.TotalCancels': WHATEVER THE INPUT: true; the input reads as it did. -/
def totalCancelsSpec : ChangeSpec := { name := "totalCancels", fn := fun _ => fun
  | [d1, d2, d3] => { results := [.lit (.bool true)], args := [d1, d2, d3] }
  | _ => none }
def totalCancelsRow : OpenClaim := { program := "ytdhfkdopcphjlaa", sum := "2eaab9f1c7e2190f130995b94675027b6ab90e81fd6cdfaed32e6e2043d7e034", func := "postern/posternlaw05.TotalCancels", spec := "totalCancels", inPlace := ["math.Float64bits", "math/bits.Sub64", "math/bits.Add64", "math.Float64frombits"], apart := false }
def TotalCancelsSaid : Prop := totalCancelsRow.holds Try.pinned (OpenSpec.ofChange totalCancelsSpec)

/-- ITS FALSE NEIGHBOUR: 'it returns false'. Refute it at one input. -/
def totalCancelsWrong : ChangeSpec := { name := "totalCancels", fn := fun _ => fun
  | [d1, d2, d3] => { results := [.lit (.bool false)], args := [d1, d2, d3] }
  | _ => none }
def TotalCancelsWrongFalsely : Prop := totalCancelsRow.holds Try.pinned (OpenSpec.ofChange totalCancelsWrong)

/-- 'posternlaw05.TotalDots': WHATEVER THE INPUT: true; the input reads as it did. -/
def totalDotsSpec : ChangeSpec := { name := "totalDots", fn := fun _ => fun
  | [d1, d2, d3] => { results := [.lit (.bool true)], args := [d1, d2, d3] }
  | _ => none }
def totalDotsRow : OpenClaim := { program := "ytdhfkdopcphjlaa", sum := "2eaab9f1c7e2190f130995b94675027b6ab90e81fd6cdfaed32e6e2043d7e034", func := "postern/posternlaw05.TotalDots", spec := "totalDots", inPlace := ["math.Float64bits", "math/bits.Sub64", "math/bits.Add64", "math.Float64frombits"], apart := false }
def TotalDotsSaid : Prop := totalDotsRow.holds Try.pinned (OpenSpec.ofChange totalDotsSpec)

/-- ITS FALSE NEIGHBOUR: 'it returns false'. Refute it at one input. -/
def totalDotsWrong : ChangeSpec := { name := "totalDots", fn := fun _ => fun
  | [d1, d2, d3] => { results := [.lit (.bool false)], args := [d1, d2, d3] }
  | _ => none }
def TotalDotsWrongFalsely : Prop := totalDotsRow.holds Try.pinned (OpenSpec.ofChange totalDotsWrong)

/- THE SECOND FORM. 'bulk': how many values and letters a reading holds, each counted each time it is reached (what is shared counts as often as it is met; a slice's spare places count too). A statement '..UptoSaid' is the law's where the arguments, and the package variables that the reading takes, are together of bulk at most 1048576: NARROWER than '..Said'. Prove '..Said' where nothing that the law and all that it calls make is longer than what came in: it says more and counts as full. Else prove '..UptoSaid'. A law counts once. -/
mutual
def uptoBulk {H : Type} : DataW H → Nat
  | .lit (.string bytes) => bytes.length + 1
  | .lit _ => 1
  | .nil => 1
  | .ptr d => uptoBulk d + 1
  | .slice elems spare => uptoBulkAll elems + uptoBulkAll spare + 1
  | .agg parts => uptoBulkAll parts + 1
  | .iface _ d => uptoBulk d + 1
  | .map entries => uptoBulkEntries entries + 1
  | .held _ => 1
def uptoBulkAll {H : Type} : List (DataW H) → Nat
  | [] => 0
  | d :: r => uptoBulk d + uptoBulkAll r
def uptoBulkEntries {H : Type} : List (Lit × DataW H) → Nat
  | [] => 0
  | x :: r => uptoBulkEntry x + uptoBulkEntries r
def uptoBulkEntry {H : Type} : Lit × DataW H → Nat
  | (.string bytes, d) => bytes.length + uptoBulk d + 1
  | (_, d) => uptoBulk d + 1
 end
def uptoSmall : (H : Type) → List (DataW H) → Bool := fun _ ds => decide (uptoBulkAll ds ≤ 1048576)
def OpenSpec.upto (s : _root_.Go.ChangeSpec) : _root_.Go.OpenSpec := { _root_.Go.OpenSpec.ofChange s with cond := some uptoSmall }

/-- 'posternlaw05.TotalSums', WHERE WHAT IT READS IS OF BULK AT MOST 1048576: true; the input reads as it did. -/
def totalSumsUptoRow : OpenClaim := { program := "ytdhfkdopcphjlaa", sum := "2eaab9f1c7e2190f130995b94675027b6ab90e81fd6cdfaed32e6e2043d7e034", func := "postern/posternlaw05.TotalSums", spec := "totalSums", inPlace := ["math.Float64bits", "math/bits.Sub64", "math/bits.Add64", "math.Float64frombits"], recurses := true, apart := false, narrowed := true }
def TotalSumsUptoSaid : Prop := totalSumsUptoRow.holds Try.pinned (OpenSpec.upto totalSumsSpec)

/-- 'posternlaw05.TotalKeeps', WHERE WHAT IT READS IS OF BULK AT MOST 1048576: true; the input reads as it did. -/
def totalKeepsUptoRow : OpenClaim := { program := "ytdhfkdopcphjlaa", sum := "2eaab9f1c7e2190f130995b94675027b6ab90e81fd6cdfaed32e6e2043d7e034", func := "postern/posternlaw05.TotalKeeps", spec := "totalKeeps", inPlace := ["math.Float64bits", "math/bits.Sub64", "math/bits.Add64", "math.Float64frombits"], apart := false, narrowed := true }
def TotalKeepsUptoSaid : Prop := totalKeepsUptoRow.holds Try.pinned (OpenSpec.upto totalKeepsSpec)

/-- 'posternlaw05.TotalExact', WHERE WHAT IT READS IS OF BULK AT MOST 1048576: true; the input reads as it did. -/
def totalExactUptoRow : OpenClaim := { program := "ytdhfkdopcphjlaa", sum := "2eaab9f1c7e2190f130995b94675027b6ab90e81fd6cdfaed32e6e2043d7e034", func := "postern/posternlaw05.TotalExact", spec := "totalExact", inPlace := ["math.Float64bits", "math/bits.Sub64", "math/bits.Add64", "math.Float64frombits"], apart := false, narrowed := true }
def TotalExactUptoSaid : Prop := totalExactUptoRow.holds Try.pinned (OpenSpec.upto totalExactSpec)

/-- 'posternlaw05.TotalOrders', WHERE WHAT IT READS IS OF BULK AT MOST 1048576: true; the input reads as it did. -/
def totalOrdersUptoRow : OpenClaim := { program := "ytdhfkdopcphjlaa", sum := "2eaab9f1c7e2190f130995b94675027b6ab90e81fd6cdfaed32e6e2043d7e034", func := "postern/posternlaw05.TotalOrders", spec := "totalOrders", inPlace := ["math.Float64bits", "math/bits.Sub64", "math/bits.Add64", "math.Float64frombits"], apart := false, narrowed := true }
def TotalOrdersUptoSaid : Prop := totalOrdersUptoRow.holds Try.pinned (OpenSpec.upto totalOrdersSpec)

/-- 'posternlaw05.TotalCancels', WHERE WHAT IT READS IS OF BULK AT MOST 1048576: true; the input reads as it did. -/
def totalCancelsUptoRow : OpenClaim := { program := "ytdhfkdopcphjlaa", sum := "2eaab9f1c7e2190f130995b94675027b6ab90e81fd6cdfaed32e6e2043d7e034", func := "postern/posternlaw05.TotalCancels", spec := "totalCancels", inPlace := ["math.Float64bits", "math/bits.Sub64", "math/bits.Add64", "math.Float64frombits"], apart := false, narrowed := true }
def TotalCancelsUptoSaid : Prop := totalCancelsUptoRow.holds Try.pinned (OpenSpec.upto totalCancelsSpec)

/-- 'posternlaw05.TotalDots', WHERE WHAT IT READS IS OF BULK AT MOST 1048576: true; the input reads as it did. -/
def totalDotsUptoRow : OpenClaim := { program := "ytdhfkdopcphjlaa", sum := "2eaab9f1c7e2190f130995b94675027b6ab90e81fd6cdfaed32e6e2043d7e034", func := "postern/posternlaw05.TotalDots", spec := "totalDots", inPlace := ["math.Float64bits", "math/bits.Sub64", "math/bits.Add64", "math.Float64frombits"], apart := false, narrowed := true }
def TotalDotsUptoSaid : Prop := totalDotsUptoRow.holds Try.pinned (OpenSpec.upto totalDotsSpec)

end Rows
end Go.Proofs.Ytdhfkdopcphjlaa
