/-
  The contract of the document's parts: noughts and infinite ones. Condition: the size is one that is reckoned with.
-/
import Derived.Test.YtjcjecbffnadaaaPa
namespace Go.Proofs.Ytjcjecbffnadaaa
open Go.RowKit
set_option maxHeartbeats 2000000 in
theorem rparts_nought {p : Nat} {bi : Int} (b : Nat) (w : World) (_hb : b < 18446744073709551616) (h1 : 1 ≤ p) (h2 : p ≤ 52) (_hb0 : 0 ≤ bi) (_hb1 : bi ≤ 1023) (K E F NS P S : Nat) (ng : Bool)
    (hK0 : 3 ≤ K) (hK1 : K ≤ 2047) (_hEb : E ≤ 2047) (hP0 : 2 ≤ P) (hP1 : P ≤ 4503599627370496) (hP : IntKind.u64.wrap ((2 : Int) ^ p) = P) (hE : bits .and .u64 ((b : Int) / 2 ^ p) K = E) (hF : bits .and .u64 b ((P : Int) - 1) = F) (hN : bits .and .u64 b S = NS) (hng : ((NS : Int) != 0) = ng)
    (k44 : ∀ w, Calls Try.prog 44 #[.agg #[.int .i64 p, .int .i64 K, .int .i64 bi]] w fun e w' => e = .returned (.int .u64 S) ∧ Below w.heap.size w w')
    (_hEK : ¬ E = K) (hE0 : E = 0) (hF0 : F = 0) :
    Calls Try.prog 15 #[.int .u64 b, .agg #[.int .i64 p, .int .i64 K, .int .i64 bi]] w fun e w' => e = .returned (.agg #[.int .i64 0, .bool ng, .int .u64 0, .int .i64 0, .bool false, .int .u64 0]) ∧ Below w.heap.size w w' := by
  go_enter Try.func15, Try.ntmps15
  go_wp2_with (go_at_call 44; refine (k44 _).mono ?_)
  rintro e w1 ⟨rfl, b1⟩
  have r1 : Hid (w1.heap[w.heap.size]? = some (.cells #[.int .i64 p, .int .i64 K, .int .i64 bi] 37 (0, 0))) := (b1.block _ (by simp <;> omega)).trans ((Below.heap_alloc _ _ _ (by simp)).trans (heap_alloc_last _ _))
  have q1 : Hid (w1.heap[w.heap.size + 1]? = some (.cells #[.int .i64 0, .bool false, .int .u64 0, .int .i64 0, .bool false, .int .u64 0] 34 (0, 0))) := (b1.block _ (by simp <;> omega)).trans (last_at _ _ (by simp))
  have B1 : Hid (Below w.heap.size w w1) := by
    have h : Below w.heap.size _ w1 := b1.mono (by simp <;> omega)
    exact (((Below.refl _ _).alloc (Nat.le_refl _) _).alloc (by simp) _).trans h
  have z1 : w.heap.size + 2 ≤ w1.heap.size := by have := b1.size; simpa using this
  clear b1
  have c30 : ∀ c, (w1.alloc (.cells c 34)).cell? ⟨w.heap.size, 0, none⟩ = some (.int .i64 p) := fun c => cell_of_row _ _ 0 _ _ _ ((Below.heap_alloc _ _ _ (by omega)).trans r1.out)
  have c31 : ∀ c, (w1.alloc (.cells c 34)).cell? ⟨w.heap.size, 1, none⟩ = some (.int .i64 K) := fun c => cell_of_row _ _ 1 _ _ _ ((Below.heap_alloc _ _ _ (by omega)).trans r1.out)
  have c32 : ∀ c, (w1.alloc (.cells c 34)).cell? ⟨w.heap.size, 2, none⟩ = some (.int .i64 bi) := fun c => cell_of_row _ _ 2 _ _ _ ((Below.heap_alloc _ _ _ (by omega)).trans r1.out)
  have q3 : ∀ c, (w1.alloc (.cells c 34)).heap[w.heap.size + 1]? = some (.cells #[.int .i64 0, .bool false, .int .u64 0, .int .i64 0, .bool false, .int .u64 0] 34 (0, 0)) := fun c => (Below.heap_alloc _ _ _ (by omega)).trans q1.out
  have e0 := fun c => (cells6 (q3 c)).1
  have e1 := fun c => (cells6 (q3 c)).2.1
  have e2 := fun c => (cells6 (q3 c)).2.2.1
  have e3 := fun c => (cells6 (q3 c)).2.2.2.1
  have e4 := fun c => (cells6 (q3 c)).2.2.2.2.1
  have e5 := fun c => (cells6 (q3 c)).2.2.2.2.2
  have f0 := fun c => froz (i := 0) (q3 c)
  have f1 := fun c => froz (i := 1) (q3 c)
  have f2 := fun c => froz (i := 2) (q3 c)
  have f3 := fun c => froz (i := 3) (q3 c)
  have f4 := fun c => froz (i := 4) (q3 c)
  have f5 := fun c => froz (i := 5) (q3 c)
  have q3 := Hid.mk q3
  go_wp2
  refine bodyPost_ret (v := .agg #[.int .i64 0, .bool ng, .int .u64 0, .int .i64 0, .bool false, .int .u64 0]) (results_cell_row Try.results15 _ _ (w.heap.size + 1) 34 #[.int .i64 0, .bool ng, .int .u64 0, .int .i64 0, .bool false, .int .u64 0] (0, 0) _ rfl (six (q3.out _)) Try.underlying34 rfl (by kernel_rfl)) rfl ⟨rfl, ?_⟩
  exact below6 (B1.out.alloc (by omega) _) (by omega)
set_option maxHeartbeats 2000000 in
theorem rparts_inf {p : Nat} {bi : Int} (b : Nat) (w : World) (_hb : b < 18446744073709551616) (h1 : 1 ≤ p) (h2 : p ≤ 52) (_hb0 : 0 ≤ bi) (_hb1 : bi ≤ 1023) (K E F NS P S : Nat) (ng : Bool)
    (hK0 : 3 ≤ K) (hK1 : K ≤ 2047) (_hEb : E ≤ 2047) (hP0 : 2 ≤ P) (hP1 : P ≤ 4503599627370496) (hP : IntKind.u64.wrap ((2 : Int) ^ p) = P) (hE : bits .and .u64 ((b : Int) / 2 ^ p) K = E) (hF : bits .and .u64 b ((P : Int) - 1) = F) (hN : bits .and .u64 b S = NS) (hng : ((NS : Int) != 0) = ng)
    (k44 : ∀ w, Calls Try.prog 44 #[.agg #[.int .i64 p, .int .i64 K, .int .i64 bi]] w fun e w' => e = .returned (.int .u64 S) ∧ Below w.heap.size w w')
    (hEK : E = K) (hF0 : F = 0) :
    Calls Try.prog 15 #[.int .u64 b, .agg #[.int .i64 p, .int .i64 K, .int .i64 bi]] w fun e w' => e = .returned (.agg #[.int .i64 3, .bool ng, .int .u64 0, .int .i64 0, .bool false, .int .u64 0]) ∧ Below w.heap.size w w' := by
  go_enter Try.func15, Try.ntmps15
  go_wp2_with (go_at_call 44; refine (k44 _).mono ?_)
  rintro e w1 ⟨rfl, b1⟩
  have r1 : Hid (w1.heap[w.heap.size]? = some (.cells #[.int .i64 p, .int .i64 K, .int .i64 bi] 37 (0, 0))) := (b1.block _ (by simp <;> omega)).trans ((Below.heap_alloc _ _ _ (by simp)).trans (heap_alloc_last _ _))
  have q1 : Hid (w1.heap[w.heap.size + 1]? = some (.cells #[.int .i64 0, .bool false, .int .u64 0, .int .i64 0, .bool false, .int .u64 0] 34 (0, 0))) := (b1.block _ (by simp <;> omega)).trans (last_at _ _ (by simp))
  have B1 : Hid (Below w.heap.size w w1) := by
    have h : Below w.heap.size _ w1 := b1.mono (by simp <;> omega)
    exact (((Below.refl _ _).alloc (Nat.le_refl _) _).alloc (by simp) _).trans h
  have z1 : w.heap.size + 2 ≤ w1.heap.size := by have := b1.size; simpa using this
  clear b1
  have c30 : ∀ c, (w1.alloc (.cells c 34)).cell? ⟨w.heap.size, 0, none⟩ = some (.int .i64 p) := fun c => cell_of_row _ _ 0 _ _ _ ((Below.heap_alloc _ _ _ (by omega)).trans r1.out)
  have c31 : ∀ c, (w1.alloc (.cells c 34)).cell? ⟨w.heap.size, 1, none⟩ = some (.int .i64 K) := fun c => cell_of_row _ _ 1 _ _ _ ((Below.heap_alloc _ _ _ (by omega)).trans r1.out)
  have c32 : ∀ c, (w1.alloc (.cells c 34)).cell? ⟨w.heap.size, 2, none⟩ = some (.int .i64 bi) := fun c => cell_of_row _ _ 2 _ _ _ ((Below.heap_alloc _ _ _ (by omega)).trans r1.out)
  have q3 : ∀ c, (w1.alloc (.cells c 34)).heap[w.heap.size + 1]? = some (.cells #[.int .i64 0, .bool false, .int .u64 0, .int .i64 0, .bool false, .int .u64 0] 34 (0, 0)) := fun c => (Below.heap_alloc _ _ _ (by omega)).trans q1.out
  have e0 := fun c => (cells6 (q3 c)).1
  have e1 := fun c => (cells6 (q3 c)).2.1
  have e2 := fun c => (cells6 (q3 c)).2.2.1
  have e3 := fun c => (cells6 (q3 c)).2.2.2.1
  have e4 := fun c => (cells6 (q3 c)).2.2.2.2.1
  have e5 := fun c => (cells6 (q3 c)).2.2.2.2.2
  have f0 := fun c => froz (i := 0) (q3 c)
  have f1 := fun c => froz (i := 1) (q3 c)
  have f2 := fun c => froz (i := 2) (q3 c)
  have f3 := fun c => froz (i := 3) (q3 c)
  have f4 := fun c => froz (i := 4) (q3 c)
  have f5 := fun c => froz (i := 5) (q3 c)
  have q3 := Hid.mk q3
  go_wp2
  refine bodyPost_ret (v := .agg #[.int .i64 3, .bool ng, .int .u64 0, .int .i64 0, .bool false, .int .u64 0]) (results_cell_row Try.results15 _ _ (w.heap.size + 1) 34 #[.int .i64 3, .bool ng, .int .u64 0, .int .i64 0, .bool false, .int .u64 0] (0, 0) _ rfl (six (q3.out _)) Try.underlying34 rfl (by kernel_rfl)) rfl ⟨rfl, ?_⟩
  exact below6 (B1.out.alloc (by omega) _) (by omega)
end Go.Proofs.Ytjcjecbffnadaaa
