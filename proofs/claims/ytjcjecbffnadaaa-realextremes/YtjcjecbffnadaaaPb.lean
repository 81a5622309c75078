/-
  The contract of a layout's parts: noughts and infinite ones. Condition: the layout is one that is reckoned with.
-/
import Derived.Test.YtjcjecbffnadaaaPa
namespace Go.Proofs.Ytjcjecbffnadaaa
open Go.RowKit
set_option maxHeartbeats 2000000 in
theorem parts_nought {p : Nat} {bi : Int} (b : Nat) (w : World) (_hb : b < 18446744073709551616) (h1 : 1 ≤ p) (h2 : p ≤ 52) (_hb0 : 0 ≤ bi) (_hb1 : bi ≤ 1023) (K E F NS P S : Nat) (ng : Bool)
    (hK0 : 3 ≤ K) (hK1 : K ≤ 2047) (hP0 : 2 ≤ P) (hP1 : P ≤ 4503599627370496) (hE : bits .and .u64 ((b : Int) / 2 ^ p) K = E) (hF : bits .and .u64 b ((P : Int) - 1) = F) (hN : bits .and .u64 b S = NS) (hng : ((NS : Int) != 0) = ng)
    (k55 : ∀ w, Calls Try.prog 55 #[.agg #[.int .i64 p, .int .u64 K, .int .i64 bi]] w fun e w' => e = .returned (.int .u64 P) ∧ Below w.heap.size w w')
    (k56 : ∀ w, Calls Try.prog 56 #[.agg #[.int .i64 p, .int .u64 K, .int .i64 bi]] w fun e w' => e = .returned (.int .u64 S) ∧ Below w.heap.size w w')
    (_hEK : ¬ E = K) (hE0 : E = 0) (hF0 : F = 0) :
    Calls Try.prog 42 #[.agg #[.int .i64 p, .int .u64 K, .int .i64 bi], .int .u64 b] w fun e w' => e = .returned (.agg #[.int .i64 0, .bool ng, .int .u64 0, .int .i64 0, .bool false, .int .u64 0]) ∧ Below w.heap.size w w' := by
  go_enter Try.func42, Try.ntmps42
  go_wp2_with fail
  go_region
  go_wp2_with (go_at_call 55; refine (k55 _).mono ?_)
  rintro e w1 ⟨rfl, b1⟩
  have r1 : Hid (w1.heap[w.heap.size]? = some (.cells #[.int .i64 p, .int .u64 K, .int .i64 bi] 75 (0, 0))) := (b1.block _ (by simp [drew_heap] <;> omega)).trans ((Below.heap_alloc _ _ _ (by simp)).trans (heap_alloc_last _ _))
  have B1 : Hid (Below w.heap.size w w1) := by
    have h : Below w.heap.size _ w1 := b1.mono (by simp [drew_heap] <;> omega)
    exact (((Below.refl _ _).alloc (Nat.le_refl _) _).alloc (by simp) _).drew.trans h
  have z1 : w.heap.size + 2 ≤ w1.heap.size := by have := b1.size; simpa [drew_heap] using this
  have q1 : Hid (w1.heap[w.heap.size + 1]? = some (.cells #[.int .i64 0, .bool false, .int .u64 0, .int .i64 0, .bool false, .int .u64 0] 30 (0, 0))) := (b1.block _ (by simp [drew_heap] <;> omega)).trans (last_at _ _ (by simp))
  obtain ⟨c10, c11, c12⟩ := cells3 r1.out
  clear b1
  go_wp2_with (go_at_call 56; refine (k56 _).mono ?_)
  rintro e w2 ⟨rfl, b2⟩
  have r2 : Hid (w2.heap[w.heap.size]? = some (.cells #[.int .i64 p, .int .u64 K, .int .i64 bi] 75 (0, 0))) := (b2.block _ (by omega)).trans r1.out
  have B2 : Hid (Below w.heap.size w w2) := B1.out.trans (b2.mono (by omega))
  have q2 : Hid (w2.heap[w.heap.size + 1]? = some (.cells #[.int .i64 0, .bool false, .int .u64 0, .int .i64 0, .bool false, .int .u64 0] 30 (0, 0))) := (b2.block _ (by omega)).trans q1.out
  have z2 : w.heap.size + 2 ≤ w2.heap.size := Nat.le_trans z1 b2.size
  obtain ⟨c20, c21, c22⟩ := cells3 r2.out
  clear b2 r1 B1 c10 c11 c12 z1 q1
  have c31 : ∀ c, (w2.alloc (.cells c 30)).cell? ⟨w.heap.size, 1, none⟩ = some (.int .u64 K) := fun c => cell_of_row _ _ 1 _ _ _ ((Below.heap_alloc _ _ _ (by omega)).trans r2.out)
  have c30 : ∀ c, (w2.alloc (.cells c 30)).cell? ⟨w.heap.size, 0, none⟩ = some (.int .i64 p) := fun c => cell_of_row _ _ 0 _ _ _ ((Below.heap_alloc _ _ _ (by omega)).trans r2.out)
  have c32 : ∀ c, (w2.alloc (.cells c 30)).cell? ⟨w.heap.size, 2, none⟩ = some (.int .i64 bi) := fun c => cell_of_row _ _ 2 _ _ _ ((Below.heap_alloc _ _ _ (by omega)).trans r2.out)
  have q3 : ∀ c, (w2.alloc (.cells c 30)).heap[w.heap.size + 1]? = some (.cells #[.int .i64 0, .bool false, .int .u64 0, .int .i64 0, .bool false, .int .u64 0] 30 (0, 0)) := fun c => (Below.heap_alloc _ _ _ (by omega)).trans q2.out
  have e0 := fun c => (cells6 (q3 c)).1
  have e1 := fun c => (cells6 (q3 c)).2.1
  have e2 := fun c => (cells6 (q3 c)).2.2.1
  have e3 := fun c => (cells6 (q3 c)).2.2.2.1
  have e4 := fun c => (cells6 (q3 c)).2.2.2.2.1
  have e5 := fun c => (cells6 (q3 c)).2.2.2.2.2
  have f0 := fun c => froz (i := 0) (q3 c)
  have f1 := fun c => froz (i := 1) (q3 c)
  have f2 := fun c => froz (i := 2) (q3 c)
  have f3 := fun c => froz (i := 3) (q3 c)
  have f4 := fun c => froz (i := 4) (q3 c)
  have f5 := fun c => froz (i := 5) (q3 c)
  have q3 := Hid.mk q3
  go_wp2
  refine bodyPost_ret (v := .agg #[.int .i64 0, .bool ng, .int .u64 0, .int .i64 0, .bool false, .int .u64 0]) (results_cell_row Try.results42 _ _ (w.heap.size + 1) 30 #[.int .i64 0, .bool ng, .int .u64 0, .int .i64 0, .bool false, .int .u64 0] (0, 0) _ rfl (six (q3.out _)) Try.underlying30 rfl (by kernel_rfl)) rfl ⟨rfl, ?_⟩
  exact below6 (B2.out.alloc (by omega) _) (by omega)
set_option maxHeartbeats 2000000 in
theorem parts_inf {p : Nat} {bi : Int} (b : Nat) (w : World) (_hb : b < 18446744073709551616) (h1 : 1 ≤ p) (h2 : p ≤ 52) (_hb0 : 0 ≤ bi) (_hb1 : bi ≤ 1023) (K E F NS P S : Nat) (ng : Bool)
    (_hK0 : 3 ≤ K) (_hK1 : K ≤ 2047) (hP0 : 2 ≤ P) (hP1 : P ≤ 4503599627370496) (hE : bits .and .u64 ((b : Int) / 2 ^ p) K = E) (hF : bits .and .u64 b ((P : Int) - 1) = F) (hN : bits .and .u64 b S = NS) (hng : ((NS : Int) != 0) = ng)
    (k55 : ∀ w, Calls Try.prog 55 #[.agg #[.int .i64 p, .int .u64 K, .int .i64 bi]] w fun e w' => e = .returned (.int .u64 P) ∧ Below w.heap.size w w')
    (k56 : ∀ w, Calls Try.prog 56 #[.agg #[.int .i64 p, .int .u64 K, .int .i64 bi]] w fun e w' => e = .returned (.int .u64 S) ∧ Below w.heap.size w w')
    (hEK : E = K) (hF0 : F = 0) :
    Calls Try.prog 42 #[.agg #[.int .i64 p, .int .u64 K, .int .i64 bi], .int .u64 b] w fun e w' => e = .returned (.agg #[.int .i64 3, .bool ng, .int .u64 0, .int .i64 0, .bool false, .int .u64 0]) ∧ Below w.heap.size w w' := by
  go_enter Try.func42, Try.ntmps42
  go_wp2_with fail
  go_region
  go_wp2_with (go_at_call 55; refine (k55 _).mono ?_)
  rintro e w1 ⟨rfl, b1⟩
  have r1 : Hid (w1.heap[w.heap.size]? = some (.cells #[.int .i64 p, .int .u64 K, .int .i64 bi] 75 (0, 0))) := (b1.block _ (by simp [drew_heap] <;> omega)).trans ((Below.heap_alloc _ _ _ (by simp)).trans (heap_alloc_last _ _))
  have B1 : Hid (Below w.heap.size w w1) := by
    have h : Below w.heap.size _ w1 := b1.mono (by simp [drew_heap] <;> omega)
    exact (((Below.refl _ _).alloc (Nat.le_refl _) _).alloc (by simp) _).drew.trans h
  have z1 : w.heap.size + 2 ≤ w1.heap.size := by have := b1.size; simpa [drew_heap] using this
  have q1 : Hid (w1.heap[w.heap.size + 1]? = some (.cells #[.int .i64 0, .bool false, .int .u64 0, .int .i64 0, .bool false, .int .u64 0] 30 (0, 0))) := (b1.block _ (by simp [drew_heap] <;> omega)).trans (last_at _ _ (by simp))
  obtain ⟨c10, c11, c12⟩ := cells3 r1.out
  clear b1
  go_wp2_with (go_at_call 56; refine (k56 _).mono ?_)
  rintro e w2 ⟨rfl, b2⟩
  have r2 : Hid (w2.heap[w.heap.size]? = some (.cells #[.int .i64 p, .int .u64 K, .int .i64 bi] 75 (0, 0))) := (b2.block _ (by omega)).trans r1.out
  have B2 : Hid (Below w.heap.size w w2) := B1.out.trans (b2.mono (by omega))
  have q2 : Hid (w2.heap[w.heap.size + 1]? = some (.cells #[.int .i64 0, .bool false, .int .u64 0, .int .i64 0, .bool false, .int .u64 0] 30 (0, 0))) := (b2.block _ (by omega)).trans q1.out
  have z2 : w.heap.size + 2 ≤ w2.heap.size := Nat.le_trans z1 b2.size
  obtain ⟨c20, c21, c22⟩ := cells3 r2.out
  clear b2 r1 B1 c10 c11 c12 z1 q1
  have c31 : ∀ c, (w2.alloc (.cells c 30)).cell? ⟨w.heap.size, 1, none⟩ = some (.int .u64 K) := fun c => cell_of_row _ _ 1 _ _ _ ((Below.heap_alloc _ _ _ (by omega)).trans r2.out)
  have c30 : ∀ c, (w2.alloc (.cells c 30)).cell? ⟨w.heap.size, 0, none⟩ = some (.int .i64 p) := fun c => cell_of_row _ _ 0 _ _ _ ((Below.heap_alloc _ _ _ (by omega)).trans r2.out)
  have c32 : ∀ c, (w2.alloc (.cells c 30)).cell? ⟨w.heap.size, 2, none⟩ = some (.int .i64 bi) := fun c => cell_of_row _ _ 2 _ _ _ ((Below.heap_alloc _ _ _ (by omega)).trans r2.out)
  have q3 : ∀ c, (w2.alloc (.cells c 30)).heap[w.heap.size + 1]? = some (.cells #[.int .i64 0, .bool false, .int .u64 0, .int .i64 0, .bool false, .int .u64 0] 30 (0, 0)) := fun c => (Below.heap_alloc _ _ _ (by omega)).trans q2.out
  have e0 := fun c => (cells6 (q3 c)).1
  have e1 := fun c => (cells6 (q3 c)).2.1
  have e2 := fun c => (cells6 (q3 c)).2.2.1
  have e3 := fun c => (cells6 (q3 c)).2.2.2.1
  have e4 := fun c => (cells6 (q3 c)).2.2.2.2.1
  have e5 := fun c => (cells6 (q3 c)).2.2.2.2.2
  have f0 := fun c => froz (i := 0) (q3 c)
  have f1 := fun c => froz (i := 1) (q3 c)
  have f2 := fun c => froz (i := 2) (q3 c)
  have f3 := fun c => froz (i := 3) (q3 c)
  have f4 := fun c => froz (i := 4) (q3 c)
  have f5 := fun c => froz (i := 5) (q3 c)
  have q3 := Hid.mk q3
  go_wp2
  refine bodyPost_ret (v := .agg #[.int .i64 3, .bool ng, .int .u64 0, .int .i64 0, .bool false, .int .u64 0]) (results_cell_row Try.results42 _ _ (w.heap.size + 1) 30 #[.int .i64 3, .bool ng, .int .u64 0, .int .i64 0, .bool false, .int .u64 0] (0, 0) _ rfl (six (q3.out _)) Try.underlying30 rfl (by kernel_rfl)) rfl ⟨rfl, ?_⟩
  exact below6 (B2.out.alloc (by omega) _) (by omega)
end Go.Proofs.Ytjcjecbffnadaaa
