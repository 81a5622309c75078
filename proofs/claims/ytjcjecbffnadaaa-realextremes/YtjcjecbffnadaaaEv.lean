/-
  How the program compares parts: equal just if all six are. No condition.
-/
import Derived.Test.YtjcjecbffnadaaaPe
import Derived.Laws.StructEq
import Derived.KernelRfl
namespace Go.Proofs.Ytjcjecbffnadaaa
open Go.RowKit
set_option maxHeartbeats 1000000 in
theorem eq_val (x y : Pt) (w : World) : (binOp .eql 30 x.val y.val).run Try.prog w = .ok (.bool (decide (x = y))) w := by
  obtain ⟨a, b, c, d, e, f⟩ := x
  obtain ⟨a', b', c', d', e', f'⟩ := y
  unfold Pt.val
  have u3 := Try.underlying3
  have a3 := Try.isAgg3
  have z3 := Try.sizeOf3
  have u4 := Try.underlying4
  have a4 := Try.isAgg4
  have z4 := Try.sizeOf4
  have u22 := Try.underlying22
  have a22 := Try.isAgg22
  have z22 := Try.sizeOf22
  have u30 := Try.underlying30
  have a30 := Try.isAgg30
  go_simp
  clear u3 a3 z3 u4 a4 z4 u22 a22 z22 u30 a30
  by_cases h1 : a = a' <;> by_cases h2 : b = b' <;> by_cases h3 : c = c' <;> by_cases h4 : d = d' <;> by_cases h5 : e = e' <;> by_cases h6 : f = f' <;> simp [h1, h2, h3, h4, h5, h6] <;> omega
theorem eg_val (t u : Tmp) (x y : Pt) (w : World) : (eqGuard .eql 30 (.tmp t) (.tmp u) x.val y.val).run Try.prog w = .ok () w := by
  kernel_rfl
set_option maxHeartbeats 1000000 in
/-- The law's own comparison of parts with themselves. -/
theorem same_parts (x : Pt) (w : World) : Calls Try.prog 14 #[x.val, x.val] w fun e w' => e = .returned (.bool true) ∧ Below w.heap.size w w' := by
  obtain ⟨a, b, c, d, e, f⟩ := x
  unfold Pt.val
  dsimp only
  go_enter Try.func14, Try.ntmps14
  go_wp2
  go_ret
  exact ⟨rfl, ((Below.refl _ _).alloc (Nat.le_refl _) _).alloc (by simp) _⟩
end Go.Proofs.Ytjcjecbffnadaaa
