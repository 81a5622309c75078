/-
  The contracts of the statements' own change of parts to the document's, and how the document compares parts. No condition.
-/
import Derived.Test.YtjcjecbffnadaaaEv
namespace Go.Proofs.Ytjcjecbffnadaaa
open Go.RowKit
set_option maxHeartbeats 1000000 in
theorem plain_any (x : Pt) (w : World) : Calls Try.prog 23 #[x.val] w fun e w' => e = .returned x.val ∧ Below w.heap.size w w' := by
  obtain ⟨a, b, c, d, e, f⟩ := x
  unfold Pt.val
  dsimp only
  go_enter Try.func23, Try.ntmps23
  go_wp2
  refine bodyPost_ret (v := .agg #[.int .i64 a, .bool b, .int .u64 (c : Int), .int .i64 d, .bool e, .int .u64 (f : Int)]) (by simp [results, Try.results23, go_sem]) rfl ⟨rfl, ?_⟩
  exact ((Below.refl _ _).alloc (Nat.le_refl _) _).alloc (by simp) _
set_option maxHeartbeats 1000000 in
theorem ne_val (x y : Pt) (w : World) : (binOp .neq 34 x.val y.val).run Try.prog w = .ok (.bool (!decide (x = y))) w := by
  obtain ⟨a, b, c, d, e, f⟩ := x
  obtain ⟨a', b', c', d', e', f'⟩ := y
  unfold Pt.val
  have u3 := Try.underlying3
  have a3 := Try.isAgg3
  have z3 := Try.sizeOf3
  have u4 := Try.underlying4
  have a4 := Try.isAgg4
  have z4 := Try.sizeOf4
  have u22 := Try.underlying22
  have a22 := Try.isAgg22
  have z22 := Try.sizeOf22
  have u34 := Try.underlying34
  have a34 := Try.isAgg34
  go_simp
  clear u3 a3 z3 u4 a4 z4 u22 a22 z22 u34 a34
  by_cases h1 : a = a' <;> by_cases h2 : b = b' <;> by_cases h3 : c = c' <;> by_cases h4 : d = d' <;> by_cases h5 : e = e' <;> by_cases h6 : f = f' <;> simp [h1, h2, h3, h4, h5, h6] <;> omega
theorem ng_val (t u : Tmp) (x y : Pt) (w : World) : (eqGuard .neq 34 (.tmp t) (.tmp u) x.val y.val).run Try.prog w = .ok () w := by
  kernel_rfl
end Go.Proofs.Ytjcjecbffnadaaa
