/-
  The contract of a layout's parts: subnormal ones. Condition: the layout is one that is reckoned with.
-/
import Derived.Test.YtjcjecbffnadaaaPa
namespace Go.Proofs.Ytjcjecbffnadaaa
open Go.RowKit
set_option maxHeartbeats 2000000 in
theorem parts_sub {p : Nat} {bi : Int} (b : Nat) (w : World) (_hb : b < 18446744073709551616) (h1 : 1 ≤ p) (h2 : p ≤ 52) (_hb0 : 0 ≤ bi) (_hb1 : bi ≤ 1023) (K E F NS P S : Nat) (ng : Bool)
    (hK0 : 3 ≤ K) (hK1 : K ≤ 2047) (hP0 : 2 ≤ P) (hP1 : P ≤ 4503599627370496) (hE : bits .and .u64 ((b : Int) / 2 ^ p) K = E) (hF : bits .and .u64 b ((P : Int) - 1) = F) (hN : bits .and .u64 b S = NS) (hng : ((NS : Int) != 0) = ng)
    (k55 : ∀ w, Calls Try.prog 55 #[.agg #[.int .i64 p, .int .u64 K, .int .i64 bi]] w fun e w' => e = .returned (.int .u64 P) ∧ Below w.heap.size w w')
    (k56 : ∀ w, Calls Try.prog 56 #[.agg #[.int .i64 p, .int .u64 K, .int .i64 bi]] w fun e w' => e = .returned (.int .u64 S) ∧ Below w.heap.size w w')
    (LOW : Int) (k58 : ∀ w, Calls Try.prog 58 #[.agg #[.int .i64 p, .int .u64 K, .int .i64 bi]] w fun e w' => e = .returned (.int .i64 LOW) ∧ Below w.heap.size w w')
    (_hEK : ¬ E = K) (hE0 : E = 0) (hF0 : ¬ F = 0) :
    Calls Try.prog 42 #[.agg #[.int .i64 p, .int .u64 K, .int .i64 bi], .int .u64 b] w fun e w' => e = .returned (.agg #[.int .i64 1, .bool ng, .int .u64 F, .int .i64 LOW, .bool false, .int .u64 0]) ∧ Below w.heap.size w w' := by
  go_enter Try.func42, Try.ntmps42
  go_wp2_with fail
  go_region
  go_wp2_with (go_at_call 55; refine (k55 _).mono ?_)
  rintro e w1 ⟨rfl, b1⟩
  have r1 : Hid (w1.heap[w.heap.size]? = some (.cells #[.int .i64 p, .int .u64 K, .int .i64 bi] 75 (0, 0))) := (b1.block _ (by simp [drew_heap] <;> omega)).trans ((Below.heap_alloc _ _ _ (by simp)).trans (heap_alloc_last _ _))
  have B1 : Hid (Below w.heap.size w w1) := by
    have h : Below w.heap.size _ w1 := b1.mono (by simp [drew_heap] <;> omega)
    exact (((Below.refl _ _).alloc (Nat.le_refl _) _).alloc (by simp) _).drew.trans h
  have z1 : w.heap.size + 2 ≤ w1.heap.size := by have := b1.size; simpa [drew_heap] using this
  have q1 : Hid (w1.heap[w.heap.size + 1]? = some (.cells #[.int .i64 0, .bool false, .int .u64 0, .int .i64 0, .bool false, .int .u64 0] 30 (0, 0))) := (b1.block _ (by simp [drew_heap] <;> omega)).trans (last_at _ _ (by simp))
  obtain ⟨c10, c11, c12⟩ := cells3 r1.out
  clear b1
  go_wp2_with (go_at_call 56; refine (k56 _).mono ?_)
  rintro e w2 ⟨rfl, b2⟩
  have r2 : Hid (w2.heap[w.heap.size]? = some (.cells #[.int .i64 p, .int .u64 K, .int .i64 bi] 75 (0, 0))) := (b2.block _ (by omega)).trans r1.out
  have B2 : Hid (Below w.heap.size w w2) := B1.out.trans (b2.mono (by omega))
  have q2 : Hid (w2.heap[w.heap.size + 1]? = some (.cells #[.int .i64 0, .bool false, .int .u64 0, .int .i64 0, .bool false, .int .u64 0] 30 (0, 0))) := (b2.block _ (by omega)).trans q1.out
  have z2 : w.heap.size + 2 ≤ w2.heap.size := Nat.le_trans z1 b2.size
  obtain ⟨c20, c21, c22⟩ := cells3 r2.out
  clear b2 r1 B1 c10 c11 c12 z1 q1
  have c31 : ∀ c, (w2.alloc (.cells c 30)).cell? ⟨w.heap.size, 1, none⟩ = some (.int .u64 K) := fun c => cell_of_row _ _ 1 _ _ _ ((Below.heap_alloc _ _ _ (by omega)).trans r2.out)
  have c30 : ∀ c, (w2.alloc (.cells c 30)).cell? ⟨w.heap.size, 0, none⟩ = some (.int .i64 p) := fun c => cell_of_row _ _ 0 _ _ _ ((Below.heap_alloc _ _ _ (by omega)).trans r2.out)
  have c32 : ∀ c, (w2.alloc (.cells c 30)).cell? ⟨w.heap.size, 2, none⟩ = some (.int .i64 bi) := fun c => cell_of_row _ _ 2 _ _ _ ((Below.heap_alloc _ _ _ (by omega)).trans r2.out)
  go_wp2_with (go_at_call 58; refine (k58 _).mono ?_)
  rintro e w4 ⟨rfl, b4⟩
  have p4 : w4.heap[w2.heap.size]? = some (.cells #[.int .i64 0, .bool ng, .int .u64 0, .int .i64 0, .bool false, .int .u64 0] 30 (0, 0)) := (b4.block _ (by simp)).trans (heap_alloc_last _ _)
  have q4 : w4.heap[w.heap.size + 1]? = some (.cells #[.int .i64 0, .bool false, .int .u64 0, .int .i64 0, .bool false, .int .u64 0] 30 (0, 0)) := (b4.block _ (by simp; omega)).trans ((Below.heap_alloc _ _ _ (by omega)).trans q2.out)
  have B4 : Hid (Below w.heap.size w w4) := (B2.out.alloc (by omega) _).trans (b4.mono (by simp; omega))
  have d0 := (cells6 p4).1
  have d1 := (cells6 p4).2.1
  have d2 := (cells6 p4).2.2.1
  have d3 := (cells6 p4).2.2.2.1
  have d4 := (cells6 p4).2.2.2.2.1
  have d5 := (cells6 p4).2.2.2.2.2
  have g0 := froz (i := 0) p4
  have g1 := froz (i := 1) p4
  have g2 := froz (i := 2) p4
  have g3 := froz (i := 3) p4
  have g4 := froz (i := 4) p4
  have g5 := froz (i := 5) p4
  have e0 := (cells6 q4).1
  have e1 := (cells6 q4).2.1
  have e2 := (cells6 q4).2.2.1
  have e3 := (cells6 q4).2.2.2.1
  have e4 := (cells6 q4).2.2.2.2.1
  have e5 := (cells6 q4).2.2.2.2.2
  have f0 := froz (i := 0) q4
  have f1 := froz (i := 1) q4
  have f2 := froz (i := 2) q4
  have f3 := froz (i := 3) q4
  have f4 := froz (i := 4) q4
  have f5 := froz (i := 5) q4
  have n1 : ¬ w.heap.size + 1 = w2.heap.size := by omega
  have n2 : ¬ w2.heap.size = w.heap.size + 1 := by omega
  have q4 := Hid.mk q4
  clear p4 b4 r2 B2 q2 c20 c21 c22 c30 c31 c32
  go_wp2
  refine bodyPost_ret (v := .agg #[.int .i64 1, .bool ng, .int .u64 F, .int .i64 LOW, .bool false, .int .u64 0]) (results_cell_row Try.results42 _ _ (w.heap.size + 1) 30 #[.int .i64 1, .bool ng, .int .u64 F, .int .i64 LOW, .bool false, .int .u64 0] (0, 0) _ rfl (six (set_other _ (by omega) (set_other _ (by omega) (set_other _ (by omega) q4.out)))) Try.underlying30 rfl (by kernel_rfl)) rfl ⟨rfl, ?_⟩
  exact below6 (((B4.out.setCell (p := ⟨w2.heap.size, 0, none⟩) (by show _ ≤ w2.heap.size; omega) _).setCell (p := ⟨w2.heap.size, 2, none⟩) (by show _ ≤ w2.heap.size; omega) _).setCell (p := ⟨w2.heap.size, 3, none⟩) (by show _ ≤ w2.heap.size; omega) _) (by omega)
end Go.Proofs.Ytjcjecbffnadaaa
