/-
  The contracts of Cross and Minus: words of both sets, and of the one and not of the other. No condition.
-/
import Derived.Test.YtoliiccmfmgmlaaDoorProg
import Derived.Test.YtoliiccmfmgmlaaDoorWd
import Derived.KernelRfl
namespace Go.Proofs.YtoliiccmfmgmlaaDoor
open Go.RowKit

set_option maxHeartbeats 800000 in
theorem minus_any (A B : Nat → Int) (w : World) : Calls Tryd.prog 28 #[.agg #[.int .u64 (A 0), .int .u64 (A 1), .int .u64 (A 2), .int .u64 (A 3)], .agg #[.int .u64 (B 0), .int .u64 (B 1), .int .u64 (B 2), .int .u64 (B 3)]] w fun e w' => e = .returned (.agg #[.int .u64 ((minusS A B) 0), .int .u64 ((minusS A B) 1), .int .u64 ((minusS A B) 2), .int .u64 ((minusS A B) 3)]) ∧ Below w.heap.size w w' := by
  have i0 : ∀ w, (Instr.index 27 (.agg #[.int .u64 (B 0), .int .u64 (B 1), .int .u64 (B 2), .int .u64 (B 3)]) (.int .i64 0)).run Tryd.prog w = .ok (.int .u64 (B 0)) w := fun _ => by kernel_rfl
  have i1 : ∀ w, (Instr.index 27 (.agg #[.int .u64 (B 0), .int .u64 (B 1), .int .u64 (B 2), .int .u64 (B 3)]) (.int .i64 1)).run Tryd.prog w = .ok (.int .u64 (B 1)) w := fun _ => by kernel_rfl
  have i2 : ∀ w, (Instr.index 27 (.agg #[.int .u64 (B 0), .int .u64 (B 1), .int .u64 (B 2), .int .u64 (B 3)]) (.int .i64 2)).run Tryd.prog w = .ok (.int .u64 (B 2)) w := fun _ => by kernel_rfl
  have i3 : ∀ w, (Instr.index 27 (.agg #[.int .u64 (B 0), .int .u64 (B 1), .int .u64 (B 2), .int .u64 (B 3)]) (.int .i64 3)).run Tryd.prog w = .ok (.int .u64 (B 3)) w := fun _ => by kernel_rfl
  go_enter Tryd.func28, Tryd.ntmps28
  go_wp2_with fail
  refine wp_loop_rounds 5 ?_
  rw [rounds_succ]
  go_wp2
  rw [rounds_succ]
  go_wp2
  rw [rounds_succ]
  go_wp2
  rw [rounds_succ]
  go_wp2
  rw [rounds_succ]
  go_wp2
  refine bodyPost_ret (v := .agg #[.int .u64 ((minusS A B) 0), .int .u64 ((minusS A B) 1), .int .u64 ((minusS A B) 2), .int .u64 ((minusS A B) 3)]) (by simp [results, Tryd.results28, go_sem, minusS]) rfl ⟨rfl, ?_⟩
  exact (((Below.refl _ _).alloc (by simp) _).alloc (by simp) _).alloc (by simp; omega) _
end Go.Proofs.YtoliiccmfmgmlaaDoor
