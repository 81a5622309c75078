/-
  The contracts of Cross and Minus: words of both sets, and of the one and not of the other. No condition.
-/
import Derived.Test.YtgfgkhgohoaneaaProg
import Derived.Test.YtgfgkhgohoaneaaRow
import Derived.KernelRfl
namespace Go.Proofs.Ytgfgkhgohoaneaa
open Go.RowKit
/-- The words of both; of the one and not of the other; of either. -/
def andS (A B : Nat → Int) : Nat → Int := fun i => bits BinOp.and IntKind.u64 (A i) (B i)
def minusS (A B : Nat → Int) : Nat → Int := fun i => bits BinOp.andNot IntKind.u64 (A i) (B i)
def orS (A B : Nat → Int) : Nat → Int := fun i => bits BinOp.or IntKind.u64 (A i) (B i)

set_option maxHeartbeats 800000 in
theorem cross_any (A B : Nat → Int) (w : World) : Calls Try.prog 22 #[.agg #[.int .u64 (A 0), .int .u64 (A 1), .int .u64 (A 2), .int .u64 (A 3)], .agg #[.int .u64 (B 0), .int .u64 (B 1), .int .u64 (B 2), .int .u64 (B 3)]] w fun e w' => e = .returned (.agg #[.int .u64 ((andS A B) 0), .int .u64 ((andS A B) 1), .int .u64 ((andS A B) 2), .int .u64 ((andS A B) 3)]) ∧ Below w.heap.size w w' := by
  have i0 : ∀ w, (Instr.index 32 (.agg #[.int .u64 (B 0), .int .u64 (B 1), .int .u64 (B 2), .int .u64 (B 3)]) (.int .i64 0)).run Try.prog w = .ok (.int .u64 (B 0)) w := fun _ => by kernel_rfl
  have i1 : ∀ w, (Instr.index 32 (.agg #[.int .u64 (B 0), .int .u64 (B 1), .int .u64 (B 2), .int .u64 (B 3)]) (.int .i64 1)).run Try.prog w = .ok (.int .u64 (B 1)) w := fun _ => by kernel_rfl
  have i2 : ∀ w, (Instr.index 32 (.agg #[.int .u64 (B 0), .int .u64 (B 1), .int .u64 (B 2), .int .u64 (B 3)]) (.int .i64 2)).run Try.prog w = .ok (.int .u64 (B 2)) w := fun _ => by kernel_rfl
  have i3 : ∀ w, (Instr.index 32 (.agg #[.int .u64 (B 0), .int .u64 (B 1), .int .u64 (B 2), .int .u64 (B 3)]) (.int .i64 3)).run Try.prog w = .ok (.int .u64 (B 3)) w := fun _ => by kernel_rfl
  go_enter Try.func22, Try.ntmps22
  go_wp2_with fail
  refine wp_loop_rounds 5 ?_
  rw [rounds_succ]
  go_wp2
  rw [rounds_succ]
  go_wp2
  rw [rounds_succ]
  go_wp2
  rw [rounds_succ]
  go_wp2
  rw [rounds_succ]
  go_wp2
  refine bodyPost_ret (v := .agg #[.int .u64 ((andS A B) 0), .int .u64 ((andS A B) 1), .int .u64 ((andS A B) 2), .int .u64 ((andS A B) 3)]) (by simp [results, Try.results22, go_sem, andS]) rfl ⟨rfl, ?_⟩
  exact (((Below.refl _ _).alloc (by simp) _).alloc (by simp) _).alloc (by simp; omega) _

set_option maxHeartbeats 800000 in
theorem minus_any (A B : Nat → Int) (w : World) : Calls Try.prog 23 #[.agg #[.int .u64 (A 0), .int .u64 (A 1), .int .u64 (A 2), .int .u64 (A 3)], .agg #[.int .u64 (B 0), .int .u64 (B 1), .int .u64 (B 2), .int .u64 (B 3)]] w fun e w' => e = .returned (.agg #[.int .u64 ((minusS A B) 0), .int .u64 ((minusS A B) 1), .int .u64 ((minusS A B) 2), .int .u64 ((minusS A B) 3)]) ∧ Below w.heap.size w w' := by
  have i0 : ∀ w, (Instr.index 32 (.agg #[.int .u64 (B 0), .int .u64 (B 1), .int .u64 (B 2), .int .u64 (B 3)]) (.int .i64 0)).run Try.prog w = .ok (.int .u64 (B 0)) w := fun _ => by kernel_rfl
  have i1 : ∀ w, (Instr.index 32 (.agg #[.int .u64 (B 0), .int .u64 (B 1), .int .u64 (B 2), .int .u64 (B 3)]) (.int .i64 1)).run Try.prog w = .ok (.int .u64 (B 1)) w := fun _ => by kernel_rfl
  have i2 : ∀ w, (Instr.index 32 (.agg #[.int .u64 (B 0), .int .u64 (B 1), .int .u64 (B 2), .int .u64 (B 3)]) (.int .i64 2)).run Try.prog w = .ok (.int .u64 (B 2)) w := fun _ => by kernel_rfl
  have i3 : ∀ w, (Instr.index 32 (.agg #[.int .u64 (B 0), .int .u64 (B 1), .int .u64 (B 2), .int .u64 (B 3)]) (.int .i64 3)).run Try.prog w = .ok (.int .u64 (B 3)) w := fun _ => by kernel_rfl
  go_enter Try.func23, Try.ntmps23
  go_wp2_with fail
  refine wp_loop_rounds 5 ?_
  rw [rounds_succ]
  go_wp2
  rw [rounds_succ]
  go_wp2
  rw [rounds_succ]
  go_wp2
  rw [rounds_succ]
  go_wp2
  rw [rounds_succ]
  go_wp2
  refine bodyPost_ret (v := .agg #[.int .u64 ((minusS A B) 0), .int .u64 ((minusS A B) 1), .int .u64 ((minusS A B) 2), .int .u64 ((minusS A B) 3)]) (by simp [results, Try.results23, go_sem, minusS]) rfl ⟨rfl, ?_⟩
  exact (((Below.refl _ _).alloc (by simp) _).alloc (by simp) _).alloc (by simp; omega) _
end Go.Proofs.Ytgfgkhgohoaneaa
