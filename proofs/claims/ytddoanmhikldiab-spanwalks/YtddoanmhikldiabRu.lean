/-
  Operations over spans in memory: an index, a read. Conditions: the index is in bounds.
-/
import Derived.Test.YtddoanmhikldiabIs
namespace Go.Proofs.Ytddoanmhikldiab
open Go.RowKit
theorem run_ia_22 {w : World} {l : List (Nat × Value)} {o : Oper} {a b : Operand} {g off n c k : Nat} (ho : o.op = .indexAddr 22 a b) (ha : rho l a = .slice (some ⟨g, off, none⟩) n c) (hb : rho l b = .int .i64 (k : Int)) (h : k < n) : (execOp (rho l) o).run Try.prog w = .ok (.value (.pointer (some ⟨g, off + k * 2, none⟩))) w := by
  have h2 : ¬ n ≤ k := by omega
  unfold execOp
  simp only [ho, ha, hb]
  simp [Instr.indexAt, asIntOf, run_underlying Try.underlying22, h2, Try.sizeOf41, Instr.sureAddr, Go.WideShapes.add_plain]
theorem run_ia_23 {w : World} {l : List (Nat × Value)} {o : Oper} {a b : Operand} {g off n c k : Nat} (ho : o.op = .indexAddr 23 a b) (ha : rho l a = .slice (some ⟨g, off, none⟩) n c) (hb : rho l b = .int .i64 (k : Int)) (h : k < n) : (execOp (rho l) o).run Try.prog w = .ok (.value (.pointer (some ⟨g, off + k * 2, none⟩))) w := by
  have h2 : ¬ n ≤ k := by omega
  unfold execOp
  simp only [ho, ha, hb]
  simp [Instr.indexAt, asIntOf, run_underlying Try.underlying23, h2, Try.sizeOf44, Instr.sureAddr, Go.WideShapes.add_plain]
theorem run_ia0_22 {w : World} {l : List (Nat × Value)} {o : Oper} {a b : Operand} {g off n c : Nat} (ho : o.op = .indexAddr 22 a b) (ha : rho l a = .slice (some ⟨g, off, none⟩) n c) (hb : rho l b = .int .i64 0) (h : 0 < n) : (execOp (rho l) o).run Try.prog w = .ok (.value (.pointer (some ⟨g, off, none⟩))) w := by
  have := run_ia_22 (w := w) ho ha (k := 0) hb h
  rwa [Nat.zero_mul, Nat.add_zero] at this
theorem run_l21 {w : World} {g o : Nat} {x : Int} (h : w.cell? ⟨g, o, none⟩ = some (.int .i32 x)) : (loadVar 21 ⟨g, o, none⟩).run Try.prog w = .ok (.int .i32 x) w := by
  simp [loadVar, go_sem, run_underlying Try.underlying21, isAgg, h]
theorem run_l57 {w : World} {g o : Nat} {x y : Int} (h : w.cell? ⟨g, o, none⟩ = some (.int .i32 x)) (h2 : w.cell? ⟨g, o + 1, none⟩ = some (.int .i32 y)) : (loadVar 41 ⟨g, o, none⟩).run Try.prog w = .ok (.agg #[.int .i32 x, .int .i32 y]) w := by
  simp [loadVar, go_sem, run_underlying Try.underlying41, isAgg, h, h2, Try.sizeOf41, loadCells, loadCellsFrom, Go.WideShapes.add_plain]
theorem run_l58 {w : World} {g o : Nat} {x y : Int} (h : w.cell? ⟨g, o, none⟩ = some (.int .i32 x)) (h2 : w.cell? ⟨g, o + 1, none⟩ = some (.int .i32 y)) : (loadVar 44 ⟨g, o, none⟩).run Try.prog w = .ok (.agg #[.int .i32 x, .int .i32 y]) w := by
  simp [loadVar, go_sem, run_underlying Try.underlying44, isAgg, h, h2, Try.sizeOf44, loadCells, loadCellsFrom, Go.WideShapes.add_plain]
end Go.Proofs.Ytddoanmhikldiab
