/-
  The contract of a layout's parts: noughts and infinite ones. Condition: the layout is one that is reckoned with.
-/
import Derived.Test.YtdhfkdopcphjlabPa
namespace Go.Proofs.Ytdhfkdopcphjlab
open Go.RowKit
set_option maxHeartbeats 2000000 in
theorem parts_nought {p : Nat} {bi : Int} (b : Nat) (w : World) (_hb : b < 18446744073709551616) (h1 : 1 ≤ p) (h2 : p ≤ 52) (_hb0 : 0 ≤ bi) (_hb1 : bi ≤ 1023) (K E F NS P S : Nat) (ng : Bool)
    (hK0 : 3 ≤ K) (hK1 : K ≤ 2047) (hP0 : 2 ≤ P) (hP1 : P ≤ 4503599627370496) (hE : bits .and .u64 ((b : Int) / 2 ^ p) K = E) (hF : bits .and .u64 b ((P : Int) - 1) = F) (hN : bits .and .u64 b S = NS) (hng : ((NS : Int) != 0) = ng)
    (k55 : ∀ w, Calls Try.prog 124 #[.agg #[.int .i64 p, .int .u64 K, .int .i64 bi]] w fun e w' => e = .returned (.int .u64 P) ∧ Below w.heap.size w w')
    (k56 : ∀ w, Calls Try.prog 120 #[.agg #[.int .i64 p, .int .u64 K, .int .i64 bi]] w fun e w' => e = .returned (.int .u64 S) ∧ Below w.heap.size w w')
    (_hEK : ¬ E = K) (hE0 : E = 0) (hF0 : F = 0) :
    Calls Try.prog 111 #[.agg #[.int .i64 p, .int .u64 K, .int .i64 bi], .int .u64 b] w fun e w' => e = .returned (.agg #[.int .i64 0, .bool ng, .int .u64 0, .int .i64 0, .bool false, .int .u64 0]) ∧ Below w.heap.size w w' := by
  go_enter Try.func111, Try.ntmps111
  go_wp2_with fail
  go_region
  go_wp2_with (go_at_call 124; refine (k55 _).mono ?_)
  rintro e w1 ⟨rfl, b1⟩
  have r1 : Hid (w1.heap[w.heap.size]? = some (.cells #[.int .i64 p, .int .u64 K, .int .i64 bi] 121 (0, 0))) := (b1.block _ (by simp [drew_heap] <;> omega)).trans ((Below.heap_alloc _ _ _ (by simp)).trans (heap_alloc_last _ _))
  have B1 : Hid (Below w.heap.size w w1) := by
    have h : Below w.heap.size _ w1 := b1.mono (by simp [drew_heap] <;> omega)
    exact (((Below.refl _ _).alloc (Nat.le_refl _) _).alloc (by simp) _).drew.trans h
  have z1 : w.heap.size + 2 ≤ w1.heap.size := by have := b1.size; simpa [drew_heap] using this
  have q1 : Hid (w1.heap[w.heap.size + 1]? = some (.cells #[.int .i64 0, .bool false, .int .u64 0, .int .i64 0, .bool false, .int .u64 0] 100 (0, 0))) := (b1.block _ (by simp [drew_heap] <;> omega)).trans (last_at _ _ (by simp))
  obtain ⟨c10, c11, c12⟩ := cells3 r1.out
  clear b1
  go_wp2_with (go_at_call 120; refine (k56 _).mono ?_)
  rintro e w2 ⟨rfl, b2⟩
  have r2 : Hid (w2.heap[w.heap.size]? = some (.cells #[.int .i64 p, .int .u64 K, .int .i64 bi] 121 (0, 0))) := (b2.block _ (by omega)).trans r1.out
  have B2 : Hid (Below w.heap.size w w2) := B1.out.trans (b2.mono (by omega))
  have q2 : Hid (w2.heap[w.heap.size + 1]? = some (.cells #[.int .i64 0, .bool false, .int .u64 0, .int .i64 0, .bool false, .int .u64 0] 100 (0, 0))) := (b2.block _ (by omega)).trans q1.out
  have z2 : w.heap.size + 2 ≤ w2.heap.size := Nat.le_trans z1 b2.size
  obtain ⟨c20, c21, c22⟩ := cells3 r2.out
  clear b2 r1 B1 c10 c11 c12 z1 q1
  have c31 : ∀ c, (w2.alloc (.cells c 100)).cell? ⟨w.heap.size, 1, none⟩ = some (.int .u64 K) := fun c => cell_of_row _ _ 1 _ _ _ ((Below.heap_alloc _ _ _ (by omega)).trans r2.out)
  have c30 : ∀ c, (w2.alloc (.cells c 100)).cell? ⟨w.heap.size, 0, none⟩ = some (.int .i64 p) := fun c => cell_of_row _ _ 0 _ _ _ ((Below.heap_alloc _ _ _ (by omega)).trans r2.out)
  have c32 : ∀ c, (w2.alloc (.cells c 100)).cell? ⟨w.heap.size, 2, none⟩ = some (.int .i64 bi) := fun c => cell_of_row _ _ 2 _ _ _ ((Below.heap_alloc _ _ _ (by omega)).trans r2.out)
  have q3 : ∀ c, (w2.alloc (.cells c 100)).heap[w.heap.size + 1]? = some (.cells #[.int .i64 0, .bool false, .int .u64 0, .int .i64 0, .bool false, .int .u64 0] 100 (0, 0)) := fun c => (Below.heap_alloc _ _ _ (by omega)).trans q2.out
  have e0 := fun c => (cells6 (q3 c)).1
  have e1 := fun c => (cells6 (q3 c)).2.1
  have e2 := fun c => (cells6 (q3 c)).2.2.1
  have e3 := fun c => (cells6 (q3 c)).2.2.2.1
  have e4 := fun c => (cells6 (q3 c)).2.2.2.2.1
  have e5 := fun c => (cells6 (q3 c)).2.2.2.2.2
  have f0 := fun c => froz (i := 0) (q3 c)
  have f1 := fun c => froz (i := 1) (q3 c)
  have f2 := fun c => froz (i := 2) (q3 c)
  have f3 := fun c => froz (i := 3) (q3 c)
  have f4 := fun c => froz (i := 4) (q3 c)
  have f5 := fun c => froz (i := 5) (q3 c)
  have q3 := Hid.mk q3
  go_wp2
  refine bodyPost_ret (v := .agg #[.int .i64 0, .bool ng, .int .u64 0, .int .i64 0, .bool false, .int .u64 0]) (results_cell_row Try.results111 _ _ (w.heap.size + 1) 100 #[.int .i64 0, .bool ng, .int .u64 0, .int .i64 0, .bool false, .int .u64 0] (0, 0) _ rfl (six (q3.out _)) Try.underlying100 rfl (by kernel_rfl)) rfl ⟨rfl, ?_⟩
  exact below6 (B2.out.alloc (by omega) _) (by omega)
set_option maxHeartbeats 2000000 in
theorem parts_inf {p : Nat} {bi : Int} (b : Nat) (w : World) (_hb : b < 18446744073709551616) (h1 : 1 ≤ p) (h2 : p ≤ 52) (_hb0 : 0 ≤ bi) (_hb1 : bi ≤ 1023) (K E F NS P S : Nat) (ng : Bool)
    (_hK0 : 3 ≤ K) (_hK1 : K ≤ 2047) (hP0 : 2 ≤ P) (hP1 : P ≤ 4503599627370496) (hE : bits .and .u64 ((b : Int) / 2 ^ p) K = E) (hF : bits .and .u64 b ((P : Int) - 1) = F) (hN : bits .and .u64 b S = NS) (hng : ((NS : Int) != 0) = ng)
    (k55 : ∀ w, Calls Try.prog 124 #[.agg #[.int .i64 p, .int .u64 K, .int .i64 bi]] w fun e w' => e = .returned (.int .u64 P) ∧ Below w.heap.size w w')
    (k56 : ∀ w, Calls Try.prog 120 #[.agg #[.int .i64 p, .int .u64 K, .int .i64 bi]] w fun e w' => e = .returned (.int .u64 S) ∧ Below w.heap.size w w')
    (hEK : E = K) (hF0 : F = 0) :
    Calls Try.prog 111 #[.agg #[.int .i64 p, .int .u64 K, .int .i64 bi], .int .u64 b] w fun e w' => e = .returned (.agg #[.int .i64 3, .bool ng, .int .u64 0, .int .i64 0, .bool false, .int .u64 0]) ∧ Below w.heap.size w w' := by
  go_enter Try.func111, Try.ntmps111
  go_wp2_with fail
  go_region
  go_wp2_with (go_at_call 124; refine (k55 _).mono ?_)
  rintro e w1 ⟨rfl, b1⟩
  have r1 : Hid (w1.heap[w.heap.size]? = some (.cells #[.int .i64 p, .int .u64 K, .int .i64 bi] 121 (0, 0))) := (b1.block _ (by simp [drew_heap] <;> omega)).trans ((Below.heap_alloc _ _ _ (by simp)).trans (heap_alloc_last _ _))
  have B1 : Hid (Below w.heap.size w w1) := by
    have h : Below w.heap.size _ w1 := b1.mono (by simp [drew_heap] <;> omega)
    exact (((Below.refl _ _).alloc (Nat.le_refl _) _).alloc (by simp) _).drew.trans h
  have z1 : w.heap.size + 2 ≤ w1.heap.size := by have := b1.size; simpa [drew_heap] using this
  have q1 : Hid (w1.heap[w.heap.size + 1]? = some (.cells #[.int .i64 0, .bool false, .int .u64 0, .int .i64 0, .bool false, .int .u64 0] 100 (0, 0))) := (b1.block _ (by simp [drew_heap] <;> omega)).trans (last_at _ _ (by simp))
  obtain ⟨c10, c11, c12⟩ := cells3 r1.out
  clear b1
  go_wp2_with (go_at_call 120; refine (k56 _).mono ?_)
  rintro e w2 ⟨rfl, b2⟩
  have r2 : Hid (w2.heap[w.heap.size]? = some (.cells #[.int .i64 p, .int .u64 K, .int .i64 bi] 121 (0, 0))) := (b2.block _ (by omega)).trans r1.out
  have B2 : Hid (Below w.heap.size w w2) := B1.out.trans (b2.mono (by omega))
  have q2 : Hid (w2.heap[w.heap.size + 1]? = some (.cells #[.int .i64 0, .bool false, .int .u64 0, .int .i64 0, .bool false, .int .u64 0] 100 (0, 0))) := (b2.block _ (by omega)).trans q1.out
  have z2 : w.heap.size + 2 ≤ w2.heap.size := Nat.le_trans z1 b2.size
  obtain ⟨c20, c21, c22⟩ := cells3 r2.out
  clear b2 r1 B1 c10 c11 c12 z1 q1
  have c31 : ∀ c, (w2.alloc (.cells c 100)).cell? ⟨w.heap.size, 1, none⟩ = some (.int .u64 K) := fun c => cell_of_row _ _ 1 _ _ _ ((Below.heap_alloc _ _ _ (by omega)).trans r2.out)
  have c30 : ∀ c, (w2.alloc (.cells c 100)).cell? ⟨w.heap.size, 0, none⟩ = some (.int .i64 p) := fun c => cell_of_row _ _ 0 _ _ _ ((Below.heap_alloc _ _ _ (by omega)).trans r2.out)
  have c32 : ∀ c, (w2.alloc (.cells c 100)).cell? ⟨w.heap.size, 2, none⟩ = some (.int .i64 bi) := fun c => cell_of_row _ _ 2 _ _ _ ((Below.heap_alloc _ _ _ (by omega)).trans r2.out)
  have q3 : ∀ c, (w2.alloc (.cells c 100)).heap[w.heap.size + 1]? = some (.cells #[.int .i64 0, .bool false, .int .u64 0, .int .i64 0, .bool false, .int .u64 0] 100 (0, 0)) := fun c => (Below.heap_alloc _ _ _ (by omega)).trans q2.out
  have e0 := fun c => (cells6 (q3 c)).1
  have e1 := fun c => (cells6 (q3 c)).2.1
  have e2 := fun c => (cells6 (q3 c)).2.2.1
  have e3 := fun c => (cells6 (q3 c)).2.2.2.1
  have e4 := fun c => (cells6 (q3 c)).2.2.2.2.1
  have e5 := fun c => (cells6 (q3 c)).2.2.2.2.2
  have f0 := fun c => froz (i := 0) (q3 c)
  have f1 := fun c => froz (i := 1) (q3 c)
  have f2 := fun c => froz (i := 2) (q3 c)
  have f3 := fun c => froz (i := 3) (q3 c)
  have f4 := fun c => froz (i := 4) (q3 c)
  have f5 := fun c => froz (i := 5) (q3 c)
  have q3 := Hid.mk q3
  go_wp2
  refine bodyPost_ret (v := .agg #[.int .i64 3, .bool ng, .int .u64 0, .int .i64 0, .bool false, .int .u64 0]) (results_cell_row Try.results111 _ _ (w.heap.size + 1) 100 #[.int .i64 3, .bool ng, .int .u64 0, .int .i64 0, .bool false, .int .u64 0] (0, 0) _ rfl (six (q3.out _)) Try.underlying100 rfl (by kernel_rfl)) rfl ⟨rfl, ?_⟩
  exact below6 (B2.out.alloc (by omega) _) (by omega)
set_option maxHeartbeats 2000000 in
theorem parts_sub {p : Nat} {bi : Int} (b : Nat) (w : World) (_hb : b < 18446744073709551616) (h1 : 1 ≤ p) (h2 : p ≤ 52) (_hb0 : 0 ≤ bi) (_hb1 : bi ≤ 1023) (K E F NS P S : Nat) (ng : Bool)
    (hK0 : 3 ≤ K) (hK1 : K ≤ 2047) (hP0 : 2 ≤ P) (hP1 : P ≤ 4503599627370496) (hE : bits .and .u64 ((b : Int) / 2 ^ p) K = E) (hF : bits .and .u64 b ((P : Int) - 1) = F) (hN : bits .and .u64 b S = NS) (hng : ((NS : Int) != 0) = ng)
    (k55 : ∀ w, Calls Try.prog 124 #[.agg #[.int .i64 p, .int .u64 K, .int .i64 bi]] w fun e w' => e = .returned (.int .u64 P) ∧ Below w.heap.size w w')
    (k56 : ∀ w, Calls Try.prog 120 #[.agg #[.int .i64 p, .int .u64 K, .int .i64 bi]] w fun e w' => e = .returned (.int .u64 S) ∧ Below w.heap.size w w')
    (LOW : Int) (k58 : ∀ w, Calls Try.prog 126 #[.agg #[.int .i64 p, .int .u64 K, .int .i64 bi]] w fun e w' => e = .returned (.int .i64 LOW) ∧ Below w.heap.size w w')
    (_hEK : ¬ E = K) (hE0 : E = 0) (hF0 : ¬ F = 0) :
    Calls Try.prog 111 #[.agg #[.int .i64 p, .int .u64 K, .int .i64 bi], .int .u64 b] w fun e w' => e = .returned (.agg #[.int .i64 1, .bool ng, .int .u64 F, .int .i64 LOW, .bool false, .int .u64 0]) ∧ Below w.heap.size w w' := by
  go_enter Try.func111, Try.ntmps111
  go_wp2_with fail
  go_region
  go_wp2_with (go_at_call 124; refine (k55 _).mono ?_)
  rintro e w1 ⟨rfl, b1⟩
  have r1 : Hid (w1.heap[w.heap.size]? = some (.cells #[.int .i64 p, .int .u64 K, .int .i64 bi] 121 (0, 0))) := (b1.block _ (by simp [drew_heap] <;> omega)).trans ((Below.heap_alloc _ _ _ (by simp)).trans (heap_alloc_last _ _))
  have B1 : Hid (Below w.heap.size w w1) := by
    have h : Below w.heap.size _ w1 := b1.mono (by simp [drew_heap] <;> omega)
    exact (((Below.refl _ _).alloc (Nat.le_refl _) _).alloc (by simp) _).drew.trans h
  have z1 : w.heap.size + 2 ≤ w1.heap.size := by have := b1.size; simpa [drew_heap] using this
  have q1 : Hid (w1.heap[w.heap.size + 1]? = some (.cells #[.int .i64 0, .bool false, .int .u64 0, .int .i64 0, .bool false, .int .u64 0] 100 (0, 0))) := (b1.block _ (by simp [drew_heap] <;> omega)).trans (last_at _ _ (by simp))
  obtain ⟨c10, c11, c12⟩ := cells3 r1.out
  clear b1
  go_wp2_with (go_at_call 120; refine (k56 _).mono ?_)
  rintro e w2 ⟨rfl, b2⟩
  have r2 : Hid (w2.heap[w.heap.size]? = some (.cells #[.int .i64 p, .int .u64 K, .int .i64 bi] 121 (0, 0))) := (b2.block _ (by omega)).trans r1.out
  have B2 : Hid (Below w.heap.size w w2) := B1.out.trans (b2.mono (by omega))
  have q2 : Hid (w2.heap[w.heap.size + 1]? = some (.cells #[.int .i64 0, .bool false, .int .u64 0, .int .i64 0, .bool false, .int .u64 0] 100 (0, 0))) := (b2.block _ (by omega)).trans q1.out
  have z2 : w.heap.size + 2 ≤ w2.heap.size := Nat.le_trans z1 b2.size
  obtain ⟨c20, c21, c22⟩ := cells3 r2.out
  clear b2 r1 B1 c10 c11 c12 z1 q1
  have c31 : ∀ c, (w2.alloc (.cells c 100)).cell? ⟨w.heap.size, 1, none⟩ = some (.int .u64 K) := fun c => cell_of_row _ _ 1 _ _ _ ((Below.heap_alloc _ _ _ (by omega)).trans r2.out)
  have c30 : ∀ c, (w2.alloc (.cells c 100)).cell? ⟨w.heap.size, 0, none⟩ = some (.int .i64 p) := fun c => cell_of_row _ _ 0 _ _ _ ((Below.heap_alloc _ _ _ (by omega)).trans r2.out)
  have c32 : ∀ c, (w2.alloc (.cells c 100)).cell? ⟨w.heap.size, 2, none⟩ = some (.int .i64 bi) := fun c => cell_of_row _ _ 2 _ _ _ ((Below.heap_alloc _ _ _ (by omega)).trans r2.out)
  go_wp2_with (go_at_call 126; refine (k58 _).mono ?_)
  rintro e w4 ⟨rfl, b4⟩
  have p4 : w4.heap[w2.heap.size]? = some (.cells #[.int .i64 0, .bool ng, .int .u64 0, .int .i64 0, .bool false, .int .u64 0] 100 (0, 0)) := (b4.block _ (by simp)).trans (heap_alloc_last _ _)
  have q4 : w4.heap[w.heap.size + 1]? = some (.cells #[.int .i64 0, .bool false, .int .u64 0, .int .i64 0, .bool false, .int .u64 0] 100 (0, 0)) := (b4.block _ (by simp; omega)).trans ((Below.heap_alloc _ _ _ (by omega)).trans q2.out)
  have B4 : Hid (Below w.heap.size w w4) := (B2.out.alloc (by omega) _).trans (b4.mono (by simp; omega))
  have d0 := (cells6 p4).1
  have d1 := (cells6 p4).2.1
  have d2 := (cells6 p4).2.2.1
  have d3 := (cells6 p4).2.2.2.1
  have d4 := (cells6 p4).2.2.2.2.1
  have d5 := (cells6 p4).2.2.2.2.2
  have g0 := froz (i := 0) p4
  have g1 := froz (i := 1) p4
  have g2 := froz (i := 2) p4
  have g3 := froz (i := 3) p4
  have g4 := froz (i := 4) p4
  have g5 := froz (i := 5) p4
  have e0 := (cells6 q4).1
  have e1 := (cells6 q4).2.1
  have e2 := (cells6 q4).2.2.1
  have e3 := (cells6 q4).2.2.2.1
  have e4 := (cells6 q4).2.2.2.2.1
  have e5 := (cells6 q4).2.2.2.2.2
  have f0 := froz (i := 0) q4
  have f1 := froz (i := 1) q4
  have f2 := froz (i := 2) q4
  have f3 := froz (i := 3) q4
  have f4 := froz (i := 4) q4
  have f5 := froz (i := 5) q4
  have n1 : ¬ w.heap.size + 1 = w2.heap.size := by omega
  have n2 : ¬ w2.heap.size = w.heap.size + 1 := by omega
  have q4 := Hid.mk q4
  clear p4 b4 r2 B2 q2 c20 c21 c22 c30 c31 c32
  go_wp2
  refine bodyPost_ret (v := .agg #[.int .i64 1, .bool ng, .int .u64 F, .int .i64 LOW, .bool false, .int .u64 0]) (results_cell_row Try.results111 _ _ (w.heap.size + 1) 100 #[.int .i64 1, .bool ng, .int .u64 F, .int .i64 LOW, .bool false, .int .u64 0] (0, 0) _ rfl (six (set_other _ (by omega) (set_other _ (by omega) (set_other _ (by omega) q4.out)))) Try.underlying100 rfl (by kernel_rfl)) rfl ⟨rfl, ?_⟩
  exact below6 (((B4.out.setCell (p := ⟨w2.heap.size, 0, none⟩) (by show _ ≤ w2.heap.size; omega) _).setCell (p := ⟨w2.heap.size, 2, none⟩) (by show _ ≤ w2.heap.size; omega) _).setCell (p := ⟨w2.heap.size, 3, none⟩) (by show _ ≤ w2.heap.size; omega) _) (by omega)
def cs9 (ng : Bool) (M : Nat) (X : Int) (s : Nat → Bool) : Array Value := #[.int .i64 (if s 11 then 2 else 0), .bool ng, .int .u64 (if s 13 then M else 0), .int .i64 (if s 15 then X else 0), .bool false, .int .u64 0]
set_option maxHeartbeats 2000000 in
theorem parts_normal {p : Nat} {bi : Int} (b : Nat) (w : World) (_hb : b < 18446744073709551616) (h1 : 1 ≤ p) (h2 : p ≤ 52) (_hb0 : 0 ≤ bi) (_hb1 : bi ≤ 1023) (K E F NS P S : Nat) (ng : Bool)
    (hK0 : 3 ≤ K) (hK1 : K ≤ 2047) (hP0 : 2 ≤ P) (hP1 : P ≤ 4503599627370496) (hE : bits .and .u64 ((b : Int) / 2 ^ p) K = E) (hF : bits .and .u64 b ((P : Int) - 1) = F) (hN : bits .and .u64 b S = NS) (hng : ((NS : Int) != 0) = ng)
    (k55 : ∀ w, Calls Try.prog 124 #[.agg #[.int .i64 p, .int .u64 K, .int .i64 bi]] w fun e w' => e = .returned (.int .u64 P) ∧ Below w.heap.size w w')
    (k56 : ∀ w, Calls Try.prog 120 #[.agg #[.int .i64 p, .int .u64 K, .int .i64 bi]] w fun e w' => e = .returned (.int .u64 S) ∧ Below w.heap.size w w')
    (LOW : Int) (k58 : ∀ w, Calls Try.prog 126 #[.agg #[.int .i64 p, .int .u64 K, .int .i64 bi]] w fun e w' => e = .returned (.int .i64 LOW) ∧ Below w.heap.size w w')
    (M : Nat) (X : Int) (hM : bits .or .u64 P F = M) (hwE : IntKind.i64.wrap (E : Int) = E) (hLE : IntKind.i64.wrap (LOW + (E : Int)) = LOW + E) (hX : IntKind.i64.wrap (LOW + (E : Int) - 1) = X) (hEK : ¬ E = K) (hE0 : ¬ E = 0) :
    Calls Try.prog 111 #[.agg #[.int .i64 p, .int .u64 K, .int .i64 bi], .int .u64 b] w fun e w' => e = .returned (.agg #[.int .i64 2, .bool ng, .int .u64 M, .int .i64 X, .bool false, .int .u64 0]) ∧ Below w.heap.size w w' := by
  go_enter Try.func111, Try.ntmps111
  go_wp2_with fail
  go_region
  go_wp2_with (go_at_call 124; refine (k55 _).mono ?_)
  rintro e w1 ⟨rfl, b1⟩
  have r1 : Hid (w1.heap[w.heap.size]? = some (.cells #[.int .i64 p, .int .u64 K, .int .i64 bi] 121 (0, 0))) := (b1.block _ (by simp [drew_heap] <;> omega)).trans ((Below.heap_alloc _ _ _ (by simp)).trans (heap_alloc_last _ _))
  have B1 : Hid (Below w.heap.size w w1) := by
    have h : Below w.heap.size _ w1 := b1.mono (by simp [drew_heap] <;> omega)
    exact (((Below.refl _ _).alloc (Nat.le_refl _) _).alloc (by simp) _).drew.trans h
  have z1 : w.heap.size + 2 ≤ w1.heap.size := by have := b1.size; simpa [drew_heap] using this
  have q1 : Hid (w1.heap[w.heap.size + 1]? = some (.cells #[.int .i64 0, .bool false, .int .u64 0, .int .i64 0, .bool false, .int .u64 0] 100 (0, 0))) := (b1.block _ (by simp [drew_heap] <;> omega)).trans (last_at _ _ (by simp))
  obtain ⟨c10, c11, c12⟩ := cells3 r1.out
  clear b1
  go_wp2_with (go_at_call 120; refine (k56 _).mono ?_)
  rintro e w2 ⟨rfl, b2⟩
  have r2 : Hid (w2.heap[w.heap.size]? = some (.cells #[.int .i64 p, .int .u64 K, .int .i64 bi] 121 (0, 0))) := (b2.block _ (by omega)).trans r1.out
  have B2 : Hid (Below w.heap.size w w2) := B1.out.trans (b2.mono (by omega))
  have q2 : Hid (w2.heap[w.heap.size + 1]? = some (.cells #[.int .i64 0, .bool false, .int .u64 0, .int .i64 0, .bool false, .int .u64 0] 100 (0, 0))) := (b2.block _ (by omega)).trans q1.out
  have z2 : w.heap.size + 2 ≤ w2.heap.size := Nat.le_trans z1 b2.size
  obtain ⟨c20, c21, c22⟩ := cells3 r2.out
  clear b2 r1 B1 c10 c11 c12 z1 q1
  have c31 : ∀ c, (w2.alloc (.cells c 100)).cell? ⟨w.heap.size, 1, none⟩ = some (.int .u64 K) := fun c => cell_of_row _ _ 1 _ _ _ ((Below.heap_alloc _ _ _ (by omega)).trans r2.out)
  have c30 : ∀ c, (w2.alloc (.cells c 100)).cell? ⟨w.heap.size, 0, none⟩ = some (.int .i64 p) := fun c => cell_of_row _ _ 0 _ _ _ ((Below.heap_alloc _ _ _ (by omega)).trans r2.out)
  have c32 : ∀ c, (w2.alloc (.cells c 100)).cell? ⟨w.heap.size, 2, none⟩ = some (.int .i64 bi) := fun c => cell_of_row _ _ 2 _ _ _ ((Below.heap_alloc _ _ _ (by omega)).trans r2.out)
  go_wp2_with fail
  refine wp_region_vals (a1 := ?a1) (Wrote w2.heap.size 100 _ (cs9 ng M X)) [.agg #[.int .i64 p, .int .u64 K, .int .i64 bi], .int .u64 P, .int .u64 F, .int .u64 M, .agg #[.int .i64 p, .int .u64 K, .int .i64 bi], .int .i64 LOW, .int .u64 E, .int .i64 (IntKind.i64.wrap E), .int .i64 (LOW + E), .int .i64 X, .pointer (some ⟨w2.heap.size, 0, none⟩), undef, .pointer (some ⟨w2.heap.size, 2, none⟩), undef, .pointer (some ⟨w2.heap.size, 3, none⟩), undef] 79 rfl (by kernel_rfl) (by kernel_rfl) (Wrote.start fun s hs => by rw [heap_alloc_last]; simp [cs9, hs]) ⟨?o0, ?o1, ?o2, ?o3, ?o4, ?o5, ?o6, ?o7, ?o8, ?o9, ?o10, ?o11, ?o12, ?o13, ?o14, ?o15, trivial⟩ ?ha ?hdone
  case ha => simp [putAll, Act.put]; exact rfl
  case o0 => exact ValOp.pure (Wrote.steady 0 (fun _ => rfl)) [(2, .pointer (some ⟨w.heap.size, 0, none⟩))] rfl (fun _ _ h2 => ⟨(h2 2 (by kernel_rfl)).trans rfl, trivial⟩) (by kernel_rfl) (fun _ _ _ hg _ => run_read rfl rfl (run_loadVar_row _ _ _ _ _ _ _ (hg.low ((Below.heap_alloc _ _ _ (by omega)).trans r2.out) (by omega)) Try.underlying121 rfl (by kernel_rfl)))
  case o1 => exact ValOp.call (Wrote.steady 1 (fun _ => rfl)) [(56, .agg #[.int .i64 p, .int .u64 K, .int .i64 bi])] rfl (fun _ h1 _ => ⟨h1 0 56 (by kernel_rfl), trivial⟩) (by kernel_rfl) 124 #[.agg #[.int .i64 p, .int .u64 K, .int .i64 bi]] (fun _ => by kernel_rfl) (fun _ w _ => k55 w)
  case o2 => exact ValOp.pure (Wrote.steady 2 (fun _ => rfl)) [(6, .int .u64 F)] rfl (fun _ _ h2 => ⟨(h2 6 (by kernel_rfl)).trans rfl, trivial⟩) (by kernel_rfl) (fun _ _ _ _ _ => by kernel_rfl)
  case o3 => exact ValOp.pure (Wrote.steady 3 (fun _ => rfl)) [(57, .int .u64 P), (58, .int .u64 F)] rfl (fun _ h1 _ => ⟨h1 1 57 (by kernel_rfl), h1 2 58 (by kernel_rfl), trivial⟩) (by kernel_rfl) (fun _ _ _ _ _ => run_bin (a := .int .u64 P) (b := .int .u64 F) rfl rfl rfl (by kernel_rfl) (by simp [go_sem, hM]))
  case o4 => exact ValOp.pure (Wrote.steady 4 (fun _ => rfl)) [(2, .pointer (some ⟨w.heap.size, 0, none⟩))] rfl (fun _ _ h2 => ⟨(h2 2 (by kernel_rfl)).trans rfl, trivial⟩) (by kernel_rfl) (fun _ _ _ hg _ => run_read rfl rfl (run_loadVar_row _ _ _ _ _ _ _ (hg.low ((Below.heap_alloc _ _ _ (by omega)).trans r2.out) (by omega)) Try.underlying121 rfl (by kernel_rfl)))
  case o5 => exact ValOp.call (Wrote.steady 5 (fun _ => rfl)) [(60, .agg #[.int .i64 p, .int .u64 K, .int .i64 bi])] rfl (fun _ h1 _ => ⟨h1 4 60 (by kernel_rfl), trivial⟩) (by kernel_rfl) 126 #[.agg #[.int .i64 p, .int .u64 K, .int .i64 bi]] (fun _ => by kernel_rfl) (fun _ w _ => k58 w)
  case o6 => exact ValOp.pure (Wrote.steady 6 (fun _ => rfl)) [(5, .int .u64 E)] rfl (fun _ _ h2 => ⟨(h2 5 (by kernel_rfl)).trans rfl, trivial⟩) (by kernel_rfl) (fun _ _ _ _ _ => by kernel_rfl)
  case o7 => exact ValOp.pure (Wrote.steady 7 (fun _ => rfl)) [(62, .int .u64 E)] rfl (fun _ h1 _ => ⟨h1 6 62 (by kernel_rfl), trivial⟩) (by kernel_rfl) (fun _ _ _ _ _ => by kernel_rfl)
  case o8 => exact ValOp.pure (Wrote.steady 8 (fun _ => rfl)) [(61, .int .i64 LOW), (63, .int .i64 (IntKind.i64.wrap E))] rfl (fun _ h1 _ => ⟨h1 5 61 (by kernel_rfl), h1 7 63 (by kernel_rfl), trivial⟩) (by kernel_rfl) (fun _ _ _ _ _ => run_bin (a := .int .i64 LOW) (b := .int .i64 (IntKind.i64.wrap E)) rfl rfl rfl (by kernel_rfl) (by simp [go_sem, hwE, hLE]))
  case o9 => exact ValOp.pure (Wrote.steady 9 (fun _ => rfl)) [(64, .int .i64 (LOW + E))] rfl (fun _ h1 _ => ⟨h1 8 64 (by kernel_rfl), trivial⟩) (by kernel_rfl) (fun _ _ _ _ _ => run_bin (a := .int .i64 (LOW + E)) (b := .int .i64 1) rfl rfl rfl (by kernel_rfl) (by simp [go_sem, hX]))
  case o10 => exact ValOp.pure (Wrote.steady 10 (fun _ => rfl)) [(7, .pointer (some ⟨w2.heap.size, 0, none⟩))] rfl (fun _ _ h2 => ⟨(h2 7 (by kernel_rfl)).trans rfl, trivial⟩) (by kernel_rfl) (fun _ _ _ _ _ => by kernel_rfl)
  case o11 => exact ValOp.store (v := .int .i64 2) [(66, .pointer (some ⟨w2.heap.size, 0, none⟩))] rfl rfl (fun _ h1 _ => ⟨h1 10 66 (by kernel_rfl), trivial⟩) (by kernel_rfl) rfl rfl rfl rfl (fun _ _ _ hg => run_store_int hg.at_ (by simp [cs9]) (Try.sizeOf3 _)) (fun s _ _ hg => hg.set (by simp [cs9, mark]))
  case o12 => exact ValOp.pure (Wrote.steady 12 (fun _ => rfl)) [(7, .pointer (some ⟨w2.heap.size, 0, none⟩))] rfl (fun _ _ h2 => ⟨(h2 7 (by kernel_rfl)).trans rfl, trivial⟩) (by kernel_rfl) (fun _ _ _ _ _ => by kernel_rfl)
  case o13 => exact ValOp.store (v := .int .u64 M) [(67, .pointer (some ⟨w2.heap.size, 2, none⟩)), (59, .int .u64 M)] rfl rfl (fun _ h1 _ => ⟨h1 12 67 (by kernel_rfl), h1 3 59 (by kernel_rfl), trivial⟩) (by kernel_rfl) rfl rfl rfl rfl (fun _ _ _ hg => run_store_int hg.at_ (by simp [cs9]) (Try.sizeOf66 _)) (fun s _ _ hg => hg.set (by simp [cs9, mark]))
  case o14 => exact ValOp.pure (Wrote.steady 14 (fun _ => rfl)) [(7, .pointer (some ⟨w2.heap.size, 0, none⟩))] rfl (fun _ _ h2 => ⟨(h2 7 (by kernel_rfl)).trans rfl, trivial⟩) (by kernel_rfl) (fun _ _ _ _ _ => by kernel_rfl)
  case o15 => exact ValOp.store (v := .int .i64 X) [(68, .pointer (some ⟨w2.heap.size, 3, none⟩)), (65, .int .i64 X)] rfl rfl (fun _ h1 _ => ⟨h1 14 68 (by kernel_rfl), h1 9 65 (by kernel_rfl), trivial⟩) (by kernel_rfl) rfl rfl rfl rfl (fun _ _ _ hg => run_store_int hg.at_ (by simp [cs9]) (Try.sizeOf3 _)) (fun s _ _ hg => hg.set (by simp [cs9, mark]))
  intro w3 s3 hs3 hg3
  have hr3 : w3.heap[w2.heap.size]? = some (.cells #[.int .i64 2, .bool ng, .int .u64 M, .int .i64 X, .bool false, .int .u64 0] 100 (0, 0)) := by
    have := hg3.at_
    simpa only [cs9, hs3 11 (by decide), hs3 13 (by decide), hs3 15 (by decide), if_true] using this
  have hB3 : Hid (Below w.heap.size w w3) := (B2.out.alloc (by omega) _).trans (hg3.below.mono (by omega))
  have hq3 : w3.heap[w.heap.size + 1]? = some (.cells #[.int .i64 0, .bool false, .int .u64 0, .int .i64 0, .bool false, .int .u64 0] 100 (0, 0)) := hg3.low ((Below.heap_alloc _ _ _ (by omega)).trans q2.out) (by omega)
  refine (by assumption : ∀ (a : Act) (w : World), Code.wp Try.prog ((Code.region 12 _ _).seq Code.ret) _ a w → _) _ _ ?_
  refine ret_row (gp := w2.heap.size) (gr := w.heap.size + 1) 100 7 78 4 rfl rfl rfl rfl ⟨rfl, rfl⟩ ⟨by simp, by decide⟩ rfl rfl hr3 hq3 rfl Try.underlying100 rfl (by kernel_rfl) (by simp [Value.oneCell']) Try.results111 rfl ?_
  exact ⟨rfl, below_set hB3.out (by omega)⟩
end Go.Proofs.Ytdhfkdopcphjlab
