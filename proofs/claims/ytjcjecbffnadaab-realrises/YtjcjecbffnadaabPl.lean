/-
  The contracts of the statements' own change of parts to the document's, and how the document compares parts. No condition.
-/
import Derived.Test.YtjcjecbffnadaabEv
namespace Go.Proofs.Ytjcjecbffnadaab
open Go.RowKit
set_option maxHeartbeats 1000000 in
theorem ne_val (x y : Pt) (w : World) : (binOp .neq 27 x.val y.val).run Try.prog w = .ok (.bool (!decide (x = y))) w := by
  obtain ⟨a, b, c, d, e, f⟩ := x
  obtain ⟨a', b', c', d', e', f'⟩ := y
  unfold Pt.val
  have u3 := Try.underlying3
  have a3 := Try.isAgg3
  have z3 := Try.sizeOf3
  have u4 := Try.underlying4
  have a4 := Try.isAgg4
  have z4 := Try.sizeOf4
  have u22 := Try.underlying22
  have a22 := Try.isAgg22
  have z22 := Try.sizeOf22
  have u34 := Try.underlying27
  have a34 := Try.isAgg27
  go_simp
  clear u3 a3 z3 u4 a4 z4 u22 a22 z22 u34 a34
  by_cases h1 : a = a' <;> by_cases h2 : b = b' <;> by_cases h3 : c = c' <;> by_cases h4 : d = d' <;> by_cases h5 : e = e' <;> by_cases h6 : f = f' <;> simp [h1, h2, h3, h4, h5, h6] <;> omega
theorem ng_val (t u : Tmp) (x y : Pt) (w : World) : (eqGuard .neq 27 (.tmp t) (.tmp u) x.val y.val).run Try.prog w = .ok () w := by
  kernel_rfl
end Go.Proofs.Ytjcjecbffnadaab
