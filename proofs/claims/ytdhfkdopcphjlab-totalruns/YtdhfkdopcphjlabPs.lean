/-
  The contracts of Parts, Parts32, Of and Of32. Condition: the bits fit their size.
-/
import Derived.Test.YtdhfkdopcphjlabPe
import Derived.Test.YtdhfkdopcphjlabXt
namespace Go.Proofs.Ytdhfkdopcphjlab
open Go.RowKit
set_option maxHeartbeats 1000000 in
theorem Parts_any (b : Nat) (w : World) (hb : b < 18446744073709551616) : Calls Try.prog 85 #[.float .f64 b] w fun e w' => e = .returned (pt 52 11 1023 b).val ∧ Below w.heap.size w w' := by
  have k41 : ∀ w, Calls Try.prog 110 #[] w fun e w' => e = .returned (.agg #[.int .i64 52, .int .u64 2047, .int .i64 1023]) ∧ Below w.heap.size w w' := double_any
  have k42 : ∀ w, Calls Try.prog 111 #[.agg #[.int .i64 52, .int .u64 2047, .int .i64 1023], .int .u64 (b : Int)] w fun e w' => e = .returned (pt 52 11 1023 b).val ∧ Below w.heap.size w w' := fun w => parts_any lay64 b w (by omega)
  have x20 := ext20
  generalize pt 52 11 1023 b = x at k42 ⊢
  obtain ⟨kd, ng, M, X, qu, LD⟩ := x
  unfold Pt.val at k42 ⊢
  dsimp only at k42 ⊢
  go_enter Try.func85, Try.ntmps85
  go_wp2_with (go_at_call 110; refine (k41 _).mono ?_)
  rintro e w1 ⟨rfl, b1⟩
  have q1 : Hid (w1.heap[w.heap.size]? = some (.cells #[.int .i64 0, .bool false, .int .u64 0, .int .i64 0, .bool false, .int .u64 0] 100 (0, 0))) := (b1.block _ (by simp)).trans (heap_alloc_last _ _)
  have B1 : Hid (Below w.heap.size w w1) := ((Below.refl _ _).alloc (Nat.le_refl _) _).trans (b1.mono (by simp))
  have z1 : w.heap.size + 1 ≤ w1.heap.size := by have := b1.size; simpa using this
  clear b1
  go_wp2_with (go_at_call 111; refine (k42 _).mono ?_)
  rintro e w2 ⟨rfl, b2⟩
  have q2 := (b2.block _ (by omega)).trans q1.out
  have B2 : Hid (Below w.heap.size w w2) := B1.out.trans (b2.mono (by omega))
  clear b2 q1 B1
  have e0 := (cells6 q2).1
  have e1 := (cells6 q2).2.1
  have e2 := (cells6 q2).2.2.1
  have e3 := (cells6 q2).2.2.2.1
  have e4 := (cells6 q2).2.2.2.2.1
  have e5 := (cells6 q2).2.2.2.2.2
  have f0 := froz (i := 0) q2
  have f1 := froz (i := 1) q2
  have f2 := froz (i := 2) q2
  have f3 := froz (i := 3) q2
  have f4 := froz (i := 4) q2
  have f5 := froz (i := 5) q2
  have q2 := Hid.mk q2
  go_wp2
  refine bodyPost_ret (v := .agg #[.int .i64 kd, .bool ng, .int .u64 M, .int .i64 X, .bool qu, .int .u64 LD]) (results_cell_row Try.results85 _ _ w.heap.size 100 #[.int .i64 kd, .bool ng, .int .u64 M, .int .i64 X, .bool qu, .int .u64 LD] (0, 0) _ rfl (six q2.out) Try.underlying100 rfl (by kernel_rfl)) rfl ⟨rfl, below6 B2.out (Nat.le_refl _)⟩
end Go.Proofs.Ytdhfkdopcphjlab
