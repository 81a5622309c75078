/-
  The contract of the document's parts: noughts and infinite ones. Condition: the size is one that is reckoned with.
-/
import Derived.Test.YtjcjecbffnadaabPa
namespace Go.Proofs.Ytjcjecbffnadaab
open Go.RowKit
set_option maxHeartbeats 2000000 in
theorem rparts_nought {p : Nat} {bi : Int} (b : Nat) (w : World) (_hb : b < 18446744073709551616) (h1 : 1 ≤ p) (h2 : p ≤ 52) (_hb0 : 0 ≤ bi) (_hb1 : bi ≤ 1023) (K E F NS P S : Nat) (ng : Bool)
    (hK0 : 3 ≤ K) (hK1 : K ≤ 2047) (_hEb : E ≤ 2047) (hP0 : 2 ≤ P) (hP1 : P ≤ 4503599627370496) (hP : IntKind.u64.wrap ((2 : Int) ^ p) = P) (hE : bits .and .u64 ((b : Int) / 2 ^ p) K = E) (hF : bits .and .u64 b ((P : Int) - 1) = F) (hN : bits .and .u64 b S = NS) (hng : ((NS : Int) != 0) = ng)
    (k44 : ∀ w, Calls Try.prog 48 #[.agg #[.int .i64 p, .int .i64 K, .int .i64 bi]] w fun e w' => e = .returned (.int .u64 S) ∧ Below w.heap.size w w')
    (_hEK : ¬ E = K) (hE0 : E = 0) (hF0 : F = 0) :
    Calls Try.prog 11 #[.int .u64 b, .agg #[.int .i64 p, .int .i64 K, .int .i64 bi]] w fun e w' => e = .returned (.agg #[.int .i64 0, .bool ng, .int .u64 0, .int .i64 0, .bool false, .int .u64 0]) ∧ Below w.heap.size w w' := by
  go_enter Try.func11, Try.ntmps11
  go_wp2_with (go_at_call 48; refine (k44 _).mono ?_)
  rintro e w1 ⟨rfl, b1⟩
  have r1 : Hid (w1.heap[w.heap.size]? = some (.cells #[.int .i64 p, .int .i64 K, .int .i64 bi] 30 (0, 0))) := (b1.block _ (by simp <;> omega)).trans ((Below.heap_alloc _ _ _ (by simp)).trans (heap_alloc_last _ _))
  have q1 : Hid (w1.heap[w.heap.size + 1]? = some (.cells #[.int .i64 0, .bool false, .int .u64 0, .int .i64 0, .bool false, .int .u64 0] 27 (0, 0))) := (b1.block _ (by simp <;> omega)).trans (last_at _ _ (by simp))
  have B1 : Hid (Below w.heap.size w w1) := by
    have h : Below w.heap.size _ w1 := b1.mono (by simp <;> omega)
    exact (((Below.refl _ _).alloc (Nat.le_refl _) _).alloc (by simp) _).trans h
  have z1 : w.heap.size + 2 ≤ w1.heap.size := by have := b1.size; simpa using this
  clear b1
  have c30 : ∀ c, (w1.alloc (.cells c 27)).cell? ⟨w.heap.size, 0, none⟩ = some (.int .i64 p) := fun c => cell_of_row _ _ 0 _ _ _ ((Below.heap_alloc _ _ _ (by omega)).trans r1.out)
  have c31 : ∀ c, (w1.alloc (.cells c 27)).cell? ⟨w.heap.size, 1, none⟩ = some (.int .i64 K) := fun c => cell_of_row _ _ 1 _ _ _ ((Below.heap_alloc _ _ _ (by omega)).trans r1.out)
  have c32 : ∀ c, (w1.alloc (.cells c 27)).cell? ⟨w.heap.size, 2, none⟩ = some (.int .i64 bi) := fun c => cell_of_row _ _ 2 _ _ _ ((Below.heap_alloc _ _ _ (by omega)).trans r1.out)
  have q3 : ∀ c, (w1.alloc (.cells c 27)).heap[w.heap.size + 1]? = some (.cells #[.int .i64 0, .bool false, .int .u64 0, .int .i64 0, .bool false, .int .u64 0] 27 (0, 0)) := fun c => (Below.heap_alloc _ _ _ (by omega)).trans q1.out
  have e0 := fun c => (cells6 (q3 c)).1
  have e1 := fun c => (cells6 (q3 c)).2.1
  have e2 := fun c => (cells6 (q3 c)).2.2.1
  have e3 := fun c => (cells6 (q3 c)).2.2.2.1
  have e4 := fun c => (cells6 (q3 c)).2.2.2.2.1
  have e5 := fun c => (cells6 (q3 c)).2.2.2.2.2
  have f0 := fun c => froz (i := 0) (q3 c)
  have f1 := fun c => froz (i := 1) (q3 c)
  have f2 := fun c => froz (i := 2) (q3 c)
  have f3 := fun c => froz (i := 3) (q3 c)
  have f4 := fun c => froz (i := 4) (q3 c)
  have f5 := fun c => froz (i := 5) (q3 c)
  have q3 := Hid.mk q3
  go_wp2
  refine bodyPost_ret (v := .agg #[.int .i64 0, .bool ng, .int .u64 0, .int .i64 0, .bool false, .int .u64 0]) (results_cell_row Try.results11 _ _ (w.heap.size + 1) 27 #[.int .i64 0, .bool ng, .int .u64 0, .int .i64 0, .bool false, .int .u64 0] (0, 0) _ rfl (six (q3.out _)) Try.underlying27 rfl (by kernel_rfl)) rfl ⟨rfl, ?_⟩
  exact below6 (B1.out.alloc (by omega) _) (by omega)
set_option maxHeartbeats 2000000 in
theorem rparts_inf {p : Nat} {bi : Int} (b : Nat) (w : World) (_hb : b < 18446744073709551616) (h1 : 1 ≤ p) (h2 : p ≤ 52) (_hb0 : 0 ≤ bi) (_hb1 : bi ≤ 1023) (K E F NS P S : Nat) (ng : Bool)
    (hK0 : 3 ≤ K) (hK1 : K ≤ 2047) (_hEb : E ≤ 2047) (hP0 : 2 ≤ P) (hP1 : P ≤ 4503599627370496) (hP : IntKind.u64.wrap ((2 : Int) ^ p) = P) (hE : bits .and .u64 ((b : Int) / 2 ^ p) K = E) (hF : bits .and .u64 b ((P : Int) - 1) = F) (hN : bits .and .u64 b S = NS) (hng : ((NS : Int) != 0) = ng)
    (k44 : ∀ w, Calls Try.prog 48 #[.agg #[.int .i64 p, .int .i64 K, .int .i64 bi]] w fun e w' => e = .returned (.int .u64 S) ∧ Below w.heap.size w w')
    (hEK : E = K) (hF0 : F = 0) :
    Calls Try.prog 11 #[.int .u64 b, .agg #[.int .i64 p, .int .i64 K, .int .i64 bi]] w fun e w' => e = .returned (.agg #[.int .i64 3, .bool ng, .int .u64 0, .int .i64 0, .bool false, .int .u64 0]) ∧ Below w.heap.size w w' := by
  go_enter Try.func11, Try.ntmps11
  go_wp2_with (go_at_call 48; refine (k44 _).mono ?_)
  rintro e w1 ⟨rfl, b1⟩
  have r1 : Hid (w1.heap[w.heap.size]? = some (.cells #[.int .i64 p, .int .i64 K, .int .i64 bi] 30 (0, 0))) := (b1.block _ (by simp <;> omega)).trans ((Below.heap_alloc _ _ _ (by simp)).trans (heap_alloc_last _ _))
  have q1 : Hid (w1.heap[w.heap.size + 1]? = some (.cells #[.int .i64 0, .bool false, .int .u64 0, .int .i64 0, .bool false, .int .u64 0] 27 (0, 0))) := (b1.block _ (by simp <;> omega)).trans (last_at _ _ (by simp))
  have B1 : Hid (Below w.heap.size w w1) := by
    have h : Below w.heap.size _ w1 := b1.mono (by simp <;> omega)
    exact (((Below.refl _ _).alloc (Nat.le_refl _) _).alloc (by simp) _).trans h
  have z1 : w.heap.size + 2 ≤ w1.heap.size := by have := b1.size; simpa using this
  clear b1
  have c30 : ∀ c, (w1.alloc (.cells c 27)).cell? ⟨w.heap.size, 0, none⟩ = some (.int .i64 p) := fun c => cell_of_row _ _ 0 _ _ _ ((Below.heap_alloc _ _ _ (by omega)).trans r1.out)
  have c31 : ∀ c, (w1.alloc (.cells c 27)).cell? ⟨w.heap.size, 1, none⟩ = some (.int .i64 K) := fun c => cell_of_row _ _ 1 _ _ _ ((Below.heap_alloc _ _ _ (by omega)).trans r1.out)
  have c32 : ∀ c, (w1.alloc (.cells c 27)).cell? ⟨w.heap.size, 2, none⟩ = some (.int .i64 bi) := fun c => cell_of_row _ _ 2 _ _ _ ((Below.heap_alloc _ _ _ (by omega)).trans r1.out)
  have q3 : ∀ c, (w1.alloc (.cells c 27)).heap[w.heap.size + 1]? = some (.cells #[.int .i64 0, .bool false, .int .u64 0, .int .i64 0, .bool false, .int .u64 0] 27 (0, 0)) := fun c => (Below.heap_alloc _ _ _ (by omega)).trans q1.out
  have e0 := fun c => (cells6 (q3 c)).1
  have e1 := fun c => (cells6 (q3 c)).2.1
  have e2 := fun c => (cells6 (q3 c)).2.2.1
  have e3 := fun c => (cells6 (q3 c)).2.2.2.1
  have e4 := fun c => (cells6 (q3 c)).2.2.2.2.1
  have e5 := fun c => (cells6 (q3 c)).2.2.2.2.2
  have f0 := fun c => froz (i := 0) (q3 c)
  have f1 := fun c => froz (i := 1) (q3 c)
  have f2 := fun c => froz (i := 2) (q3 c)
  have f3 := fun c => froz (i := 3) (q3 c)
  have f4 := fun c => froz (i := 4) (q3 c)
  have f5 := fun c => froz (i := 5) (q3 c)
  have q3 := Hid.mk q3
  go_wp2
  refine bodyPost_ret (v := .agg #[.int .i64 3, .bool ng, .int .u64 0, .int .i64 0, .bool false, .int .u64 0]) (results_cell_row Try.results11 _ _ (w.heap.size + 1) 27 #[.int .i64 3, .bool ng, .int .u64 0, .int .i64 0, .bool false, .int .u64 0] (0, 0) _ rfl (six (q3.out _)) Try.underlying27 rfl (by kernel_rfl)) rfl ⟨rfl, ?_⟩
  exact below6 (B1.out.alloc (by omega) _) (by omega)
set_option maxHeartbeats 2000000 in
theorem rparts_none {p : Nat} {bi : Int} (b : Nat) (w : World) (_hb : b < 18446744073709551616) (h1 : 1 ≤ p) (h2 : p ≤ 52) (_hb0 : 0 ≤ bi) (_hb1 : bi ≤ 1023) (K E F NS P S : Nat) (ng : Bool)
    (hK0 : 3 ≤ K) (hK1 : K ≤ 2047) (_hEb : E ≤ 2047) (hP0 : 2 ≤ P) (hP1 : P ≤ 4503599627370496) (hP : IntKind.u64.wrap ((2 : Int) ^ p) = P) (hE : bits .and .u64 ((b : Int) / 2 ^ p) K = E) (hF : bits .and .u64 b ((P : Int) - 1) = F) (hN : bits .and .u64 b S = NS) (hng : ((NS : Int) != 0) = ng)
    (k44 : ∀ w, Calls Try.prog 48 #[.agg #[.int .i64 p, .int .i64 K, .int .i64 bi]] w fun e w' => e = .returned (.int .u64 S) ∧ Below w.heap.size w w')
    (Q LD : Nat) (qu : Bool) (hqu : ((F : Int) / 2 ^ (p - 1) == 1) = qu) (hQ : IntKind.u64.wrap ((2 : Int) ^ (p - 1)) = Q) (hQ0 : 1 ≤ Q) (hQ1 : Q ≤ 4503599627370496) (hLD : bits .and .u64 F ((Q : Int) - 1) = LD) (hEK : E = K) (hF0 : ¬ F = 0) :
    Calls Try.prog 11 #[.int .u64 b, .agg #[.int .i64 p, .int .i64 K, .int .i64 bi]] w fun e w' => e = .returned (.agg #[.int .i64 4, .bool ng, .int .u64 0, .int .i64 0, .bool qu, .int .u64 LD]) ∧ Below w.heap.size w w' := by
  go_enter Try.func11, Try.ntmps11
  go_wp2_with (go_at_call 48; refine (k44 _).mono ?_)
  rintro e w1 ⟨rfl, b1⟩
  have r1 : Hid (w1.heap[w.heap.size]? = some (.cells #[.int .i64 p, .int .i64 K, .int .i64 bi] 30 (0, 0))) := (b1.block _ (by simp <;> omega)).trans ((Below.heap_alloc _ _ _ (by simp)).trans (heap_alloc_last _ _))
  have q1 : Hid (w1.heap[w.heap.size + 1]? = some (.cells #[.int .i64 0, .bool false, .int .u64 0, .int .i64 0, .bool false, .int .u64 0] 27 (0, 0))) := (b1.block _ (by simp <;> omega)).trans (last_at _ _ (by simp))
  have B1 : Hid (Below w.heap.size w w1) := by
    have h : Below w.heap.size _ w1 := b1.mono (by simp <;> omega)
    exact (((Below.refl _ _).alloc (Nat.le_refl _) _).alloc (by simp) _).trans h
  have z1 : w.heap.size + 2 ≤ w1.heap.size := by have := b1.size; simpa using this
  clear b1
  have c30 : ∀ c, (w1.alloc (.cells c 27)).cell? ⟨w.heap.size, 0, none⟩ = some (.int .i64 p) := fun c => cell_of_row _ _ 0 _ _ _ ((Below.heap_alloc _ _ _ (by omega)).trans r1.out)
  have c31 : ∀ c, (w1.alloc (.cells c 27)).cell? ⟨w.heap.size, 1, none⟩ = some (.int .i64 K) := fun c => cell_of_row _ _ 1 _ _ _ ((Below.heap_alloc _ _ _ (by omega)).trans r1.out)
  have c32 : ∀ c, (w1.alloc (.cells c 27)).cell? ⟨w.heap.size, 2, none⟩ = some (.int .i64 bi) := fun c => cell_of_row _ _ 2 _ _ _ ((Below.heap_alloc _ _ _ (by omega)).trans r1.out)
  have q3 : ∀ c, (w1.alloc (.cells c 27)).heap[w.heap.size + 1]? = some (.cells #[.int .i64 0, .bool false, .int .u64 0, .int .i64 0, .bool false, .int .u64 0] 27 (0, 0)) := fun c => (Below.heap_alloc _ _ _ (by omega)).trans q1.out
  have e0 := fun c => (cells6 (q3 c)).1
  have e1 := fun c => (cells6 (q3 c)).2.1
  have e2 := fun c => (cells6 (q3 c)).2.2.1
  have e3 := fun c => (cells6 (q3 c)).2.2.2.1
  have e4 := fun c => (cells6 (q3 c)).2.2.2.2.1
  have e5 := fun c => (cells6 (q3 c)).2.2.2.2.2
  have f0 := fun c => froz (i := 0) (q3 c)
  have f1 := fun c => froz (i := 1) (q3 c)
  have f2 := fun c => froz (i := 2) (q3 c)
  have f3 := fun c => froz (i := 3) (q3 c)
  have f4 := fun c => froz (i := 4) (q3 c)
  have f5 := fun c => froz (i := 5) (q3 c)
  have q3 := Hid.mk q3
  go_wp2
  refine bodyPost_ret (v := .agg #[.int .i64 4, .bool ng, .int .u64 0, .int .i64 0, .bool qu, .int .u64 LD]) (results_cell_row Try.results11 _ _ (w.heap.size + 1) 27 #[.int .i64 4, .bool ng, .int .u64 0, .int .i64 0, .bool qu, .int .u64 LD] (0, 0) _ rfl (six (q3.out _)) Try.underlying27 rfl (by kernel_rfl)) rfl ⟨rfl, ?_⟩
  exact below6 (B1.out.alloc (by omega) _) (by omega)
def csA (ng : Bool) (M : Nat) (X : Int) (s : Nat → Bool) : Array Value := #[.int .i64 (if s 8 then 1 else 0), .bool ng, .int .u64 (if s 10 then M else 0), .int .i64 (if s 12 then X else 0), .bool false, .int .u64 0]
set_option maxHeartbeats 2000000 in
theorem rparts_sub {p : Nat} {bi : Int} (b : Nat) (w : World) (_hb : b < 18446744073709551616) (h1 : 1 ≤ p) (h2 : p ≤ 52) (_hb0 : 0 ≤ bi) (_hb1 : bi ≤ 1023) (K E F NS P S : Nat) (ng : Bool)
    (hK0 : 3 ≤ K) (hK1 : K ≤ 2047) (_hEb : E ≤ 2047) (hP0 : 2 ≤ P) (hP1 : P ≤ 4503599627370496) (hP : IntKind.u64.wrap ((2 : Int) ^ p) = P) (hE : bits .and .u64 ((b : Int) / 2 ^ p) K = E) (hF : bits .and .u64 b ((P : Int) - 1) = F) (hN : bits .and .u64 b S = NS) (hng : ((NS : Int) != 0) = ng)
    (k44 : ∀ w, Calls Try.prog 48 #[.agg #[.int .i64 p, .int .i64 K, .int .i64 bi]] w fun e w' => e = .returned (.int .u64 S) ∧ Below w.heap.size w w')
    (LOW : Int) (h3 : IntKind.i64.wrap (1 - bi) = 1 - bi) (h6 : IntKind.i64.wrap (1 - bi - p) = LOW) (_hEK : ¬ E = K) (hE0 : E = 0) (hF0 : ¬ F = 0) :
    Calls Try.prog 11 #[.int .u64 b, .agg #[.int .i64 p, .int .i64 K, .int .i64 bi]] w fun e w' => e = .returned (.agg #[.int .i64 1, .bool ng, .int .u64 F, .int .i64 LOW, .bool false, .int .u64 0]) ∧ Below w.heap.size w w' := by
  go_enter Try.func11, Try.ntmps11
  go_wp2_with (go_at_call 48; refine (k44 _).mono ?_)
  rintro e w1 ⟨rfl, b1⟩
  have r1 : Hid (w1.heap[w.heap.size]? = some (.cells #[.int .i64 p, .int .i64 K, .int .i64 bi] 30 (0, 0))) := (b1.block _ (by simp <;> omega)).trans ((Below.heap_alloc _ _ _ (by simp)).trans (heap_alloc_last _ _))
  have q1 : Hid (w1.heap[w.heap.size + 1]? = some (.cells #[.int .i64 0, .bool false, .int .u64 0, .int .i64 0, .bool false, .int .u64 0] 27 (0, 0))) := (b1.block _ (by simp <;> omega)).trans (last_at _ _ (by simp))
  have B1 : Hid (Below w.heap.size w w1) := by
    have h : Below w.heap.size _ w1 := b1.mono (by simp <;> omega)
    exact (((Below.refl _ _).alloc (Nat.le_refl _) _).alloc (by simp) _).trans h
  have z1 : w.heap.size + 2 ≤ w1.heap.size := by have := b1.size; simpa using this
  clear b1
  have c30 : ∀ c, (w1.alloc (.cells c 27)).cell? ⟨w.heap.size, 0, none⟩ = some (.int .i64 p) := fun c => cell_of_row _ _ 0 _ _ _ ((Below.heap_alloc _ _ _ (by omega)).trans r1.out)
  have c31 : ∀ c, (w1.alloc (.cells c 27)).cell? ⟨w.heap.size, 1, none⟩ = some (.int .i64 K) := fun c => cell_of_row _ _ 1 _ _ _ ((Below.heap_alloc _ _ _ (by omega)).trans r1.out)
  have c32 : ∀ c, (w1.alloc (.cells c 27)).cell? ⟨w.heap.size, 2, none⟩ = some (.int .i64 bi) := fun c => cell_of_row _ _ 2 _ _ _ ((Below.heap_alloc _ _ _ (by omega)).trans r1.out)
  go_wp2_with fail
  refine wp_region_vals (a1 := ?a1) (Wrote w1.heap.size 27 _ (csA ng F LOW)) [.int .u64 F, .pointer (some ⟨w.heap.size, 2, none⟩), .int .i64 bi, .int .i64 (1 - bi), .pointer (some ⟨w.heap.size, 0, none⟩), .int .i64 p, .int .i64 LOW, .pointer (some ⟨w1.heap.size, 0, none⟩), undef, .pointer (some ⟨w1.heap.size, 2, none⟩), undef, .pointer (some ⟨w1.heap.size, 3, none⟩), undef] 97 rfl (by kernel_rfl) (by kernel_rfl) (Wrote.start fun s hs => by rw [heap_alloc_last]; simp [csA, hs]) ⟨?o0, ?o1, ?o2, ?o3, ?o4, ?o5, ?o6, ?o7, ?o8, ?o9, ?o10, ?o11, ?o12, trivial⟩ ?ha ?hdone
  case ha => simp [putAll, Act.put]; exact rfl
  case o0 => exact ValOp.pure (Wrote.steady 0 (fun _ => rfl)) [(7, .int .u64 F)] rfl (fun _ _ h2 => ⟨(h2 7 (by kernel_rfl)).trans rfl, trivial⟩) (by kernel_rfl) (fun _ _ _ _ _ => by kernel_rfl)
  case o1 => exact ValOp.pure (Wrote.steady 1 (fun _ => rfl)) [(3, .pointer (some ⟨w.heap.size, 0, none⟩))] rfl (fun _ _ h2 => ⟨(h2 3 (by kernel_rfl)).trans rfl, trivial⟩) (by kernel_rfl) (fun _ _ _ _ _ => by kernel_rfl)
  case o2 => exact ValOp.pure (Wrote.steady 2 (fun _ => rfl)) [(87, .pointer (some ⟨w.heap.size, 2, none⟩))] rfl (fun _ h1 _ => ⟨h1 1 87 (by kernel_rfl), trivial⟩) (by kernel_rfl) (fun _ _ _ hg _ => run_read rfl rfl (run_cell (hg.low ((Below.heap_alloc _ _ _ (by omega)).trans r1.out) (by omega)) rfl (Try.isAgg3 _)))
  case o3 => exact ValOp.pure (Wrote.steady 3 (fun _ => rfl)) [(88, .int .i64 bi)] rfl (fun _ h1 _ => ⟨h1 2 88 (by kernel_rfl), trivial⟩) (by kernel_rfl) (fun _ _ _ _ _ => run_bin (a := .int .i64 1) (b := .int .i64 bi) rfl rfl rfl (by kernel_rfl) (by simp [go_sem, h3]))
  case o4 => exact ValOp.pure (Wrote.steady 4 (fun _ => rfl)) [(3, .pointer (some ⟨w.heap.size, 0, none⟩))] rfl (fun _ _ h2 => ⟨(h2 3 (by kernel_rfl)).trans rfl, trivial⟩) (by kernel_rfl) (fun _ _ _ _ _ => by kernel_rfl)
  case o5 => exact ValOp.pure (Wrote.steady 5 (fun _ => rfl)) [(90, .pointer (some ⟨w.heap.size, 0, none⟩))] rfl (fun _ h1 _ => ⟨h1 4 90 (by kernel_rfl), trivial⟩) (by kernel_rfl) (fun _ _ _ hg _ => run_read rfl rfl (run_cell (hg.low ((Below.heap_alloc _ _ _ (by omega)).trans r1.out) (by omega)) rfl (Try.isAgg3 _)))
  case o6 => exact ValOp.pure (Wrote.steady 6 (fun _ => rfl)) [(89, .int .i64 (1 - bi)), (91, .int .i64 p)] rfl (fun _ h1 _ => ⟨h1 3 89 (by kernel_rfl), h1 5 91 (by kernel_rfl), trivial⟩) (by kernel_rfl) (fun _ _ _ _ _ => run_bin (a := .int .i64 (1 - bi)) (b := .int .i64 p) rfl rfl rfl (by kernel_rfl) (by simp [go_sem, h6]))
  case o7 => exact ValOp.pure (Wrote.steady 7 (fun _ => rfl)) [(5, .pointer (some ⟨w1.heap.size, 0, none⟩))] rfl (fun _ _ h2 => ⟨(h2 5 (by kernel_rfl)).trans rfl, trivial⟩) (by kernel_rfl) (fun _ _ _ _ _ => by kernel_rfl)
  case o8 => exact ValOp.store (v := .int .i64 1) [(93, .pointer (some ⟨w1.heap.size, 0, none⟩))] rfl rfl (fun _ h1 _ => ⟨h1 7 93 (by kernel_rfl), trivial⟩) (by kernel_rfl) rfl rfl rfl rfl (fun _ _ _ hg => run_store_int hg.at_ (by simp [csA]) (Try.sizeOf3 _)) (fun s _ _ hg => hg.set (by simp [csA, mark]))
  case o9 => exact ValOp.pure (Wrote.steady 9 (fun _ => rfl)) [(5, .pointer (some ⟨w1.heap.size, 0, none⟩))] rfl (fun _ _ h2 => ⟨(h2 5 (by kernel_rfl)).trans rfl, trivial⟩) (by kernel_rfl) (fun _ _ _ _ _ => by kernel_rfl)
  case o10 => exact ValOp.store (v := .int .u64 F) [(94, .pointer (some ⟨w1.heap.size, 2, none⟩)), (86, .int .u64 F)] rfl rfl (fun _ h1 _ => ⟨h1 9 94 (by kernel_rfl), h1 0 86 (by kernel_rfl), trivial⟩) (by kernel_rfl) rfl rfl rfl rfl (fun _ _ _ hg => run_store_int hg.at_ (by simp [csA]) (Try.sizeOf22 _)) (fun s _ _ hg => hg.set (by simp [csA, mark]))
  case o11 => exact ValOp.pure (Wrote.steady 11 (fun _ => rfl)) [(5, .pointer (some ⟨w1.heap.size, 0, none⟩))] rfl (fun _ _ h2 => ⟨(h2 5 (by kernel_rfl)).trans rfl, trivial⟩) (by kernel_rfl) (fun _ _ _ _ _ => by kernel_rfl)
  case o12 => exact ValOp.store (v := .int .i64 LOW) [(95, .pointer (some ⟨w1.heap.size, 3, none⟩)), (92, .int .i64 LOW)] rfl rfl (fun _ h1 _ => ⟨h1 11 95 (by kernel_rfl), h1 6 92 (by kernel_rfl), trivial⟩) (by kernel_rfl) rfl rfl rfl rfl (fun _ _ _ hg => run_store_int hg.at_ (by simp [csA]) (Try.sizeOf3 _)) (fun s _ _ hg => hg.set (by simp [csA, mark]))
  intro w3 s3 hs3 hg3
  have hr3 : w3.heap[w1.heap.size]? = some (.cells #[.int .i64 1, .bool ng, .int .u64 F, .int .i64 LOW, .bool false, .int .u64 0] 27 (0, 0)) := by
    have := hg3.at_
    simpa only [csA, hs3 8 (by decide), hs3 10 (by decide), hs3 12 (by decide), if_true] using this
  have hB3 : Hid (Below w.heap.size w w3) := (B1.out.alloc (by omega) _).trans (hg3.below.mono (by omega))
  have hq3 : w3.heap[w.heap.size + 1]? = some (.cells #[.int .i64 0, .bool false, .int .u64 0, .int .i64 0, .bool false, .int .u64 0] 27 (0, 0)) := hg3.low ((Below.heap_alloc _ _ _ (by omega)).trans q1.out) (by omega)
  refine (by assumption : ∀ (a : Act) (w : World), Code.wp Try.prog ((Code.region 14 _ _).seq Code.ret) _ a w → _) _ _ ?_
  refine ret_row (gp := w1.heap.size) (gr := w.heap.size + 1) 27 5 96 4 rfl rfl rfl rfl ⟨rfl, rfl⟩ ⟨by simp, by decide⟩ rfl rfl hr3 hq3 rfl Try.underlying27 rfl (by kernel_rfl) (by simp [Value.oneCell']) Try.results11 rfl ?_
  exact ⟨rfl, below_set hB3.out (by omega)⟩
def csB (ng : Bool) (M : Nat) (X : Int) (s : Nat → Bool) : Array Value := #[.int .i64 (if s 14 then 2 else 0), .bool ng, .int .u64 (if s 16 then M else 0), .int .i64 (if s 18 then X else 0), .bool false, .int .u64 0]
set_option maxHeartbeats 2000000 in
theorem rparts_normal {p : Nat} {bi : Int} (b : Nat) (w : World) (_hb : b < 18446744073709551616) (h1 : 1 ≤ p) (h2 : p ≤ 52) (_hb0 : 0 ≤ bi) (_hb1 : bi ≤ 1023) (K E F NS P S : Nat) (ng : Bool)
    (hK0 : 3 ≤ K) (hK1 : K ≤ 2047) (hEb : E ≤ 2047) (hP0 : 2 ≤ P) (hP1 : P ≤ 4503599627370496) (hP : IntKind.u64.wrap ((2 : Int) ^ p) = P) (hE : bits .and .u64 ((b : Int) / 2 ^ p) K = E) (hF : bits .and .u64 b ((P : Int) - 1) = F) (hN : bits .and .u64 b S = NS) (hng : ((NS : Int) != 0) = ng)
    (k44 : ∀ w, Calls Try.prog 48 #[.agg #[.int .i64 p, .int .i64 K, .int .i64 bi]] w fun e w' => e = .returned (.int .u64 S) ∧ Below w.heap.size w w')
    (M : Nat) (X : Int) (hwp : IntKind.u64.wrap (p : Int) = p) (hM : IntKind.u64.wrap ((P : Int) + F) = M) (h9 : IntKind.i64.wrap ((E : Int) - bi) = E - bi) (hX : IntKind.i64.wrap ((E : Int) - bi - p) = X) (hEK : ¬ E = K) (hE0 : ¬ E = 0) :
    Calls Try.prog 11 #[.int .u64 b, .agg #[.int .i64 p, .int .i64 K, .int .i64 bi]] w fun e w' => e = .returned (.agg #[.int .i64 2, .bool ng, .int .u64 M, .int .i64 X, .bool false, .int .u64 0]) ∧ Below w.heap.size w w' := by
  go_enter Try.func11, Try.ntmps11
  go_wp2_with (go_at_call 48; refine (k44 _).mono ?_)
  rintro e w1 ⟨rfl, b1⟩
  have r1 : Hid (w1.heap[w.heap.size]? = some (.cells #[.int .i64 p, .int .i64 K, .int .i64 bi] 30 (0, 0))) := (b1.block _ (by simp <;> omega)).trans ((Below.heap_alloc _ _ _ (by simp)).trans (heap_alloc_last _ _))
  have q1 : Hid (w1.heap[w.heap.size + 1]? = some (.cells #[.int .i64 0, .bool false, .int .u64 0, .int .i64 0, .bool false, .int .u64 0] 27 (0, 0))) := (b1.block _ (by simp <;> omega)).trans (last_at _ _ (by simp))
  have B1 : Hid (Below w.heap.size w w1) := by
    have h : Below w.heap.size _ w1 := b1.mono (by simp <;> omega)
    exact (((Below.refl _ _).alloc (Nat.le_refl _) _).alloc (by simp) _).trans h
  have z1 : w.heap.size + 2 ≤ w1.heap.size := by have := b1.size; simpa using this
  clear b1
  have c30 : ∀ c, (w1.alloc (.cells c 27)).cell? ⟨w.heap.size, 0, none⟩ = some (.int .i64 p) := fun c => cell_of_row _ _ 0 _ _ _ ((Below.heap_alloc _ _ _ (by omega)).trans r1.out)
  have c31 : ∀ c, (w1.alloc (.cells c 27)).cell? ⟨w.heap.size, 1, none⟩ = some (.int .i64 K) := fun c => cell_of_row _ _ 1 _ _ _ ((Below.heap_alloc _ _ _ (by omega)).trans r1.out)
  have c32 : ∀ c, (w1.alloc (.cells c 27)).cell? ⟨w.heap.size, 2, none⟩ = some (.int .i64 bi) := fun c => cell_of_row _ _ 2 _ _ _ ((Below.heap_alloc _ _ _ (by omega)).trans r1.out)
  go_wp2_with fail
  refine wp_region_vals (a1 := ?a1) (Wrote w1.heap.size 27 _ (csB ng M X)) [.pointer (some ⟨w.heap.size, 0, none⟩), .int .i64 p, .int .u64 (IntKind.u64.wrap p), .int .u64 P, .int .u64 F, .int .u64 M, .int .i64 E, .pointer (some ⟨w.heap.size, 2, none⟩), .int .i64 bi, .int .i64 (E - bi), .pointer (some ⟨w.heap.size, 0, none⟩), .int .i64 p, .int .i64 X, .pointer (some ⟨w1.heap.size, 0, none⟩), undef, .pointer (some ⟨w1.heap.size, 2, none⟩), undef, .pointer (some ⟨w1.heap.size, 3, none⟩), undef] 97 rfl (by kernel_rfl) (by kernel_rfl) (Wrote.start fun s hs => by rw [heap_alloc_last]; simp [csB, hs]) ⟨?o0, ?o1, ?o2, ?o3, ?o4, ?o5, ?o6, ?o7, ?o8, ?o9, ?o10, ?o11, ?o12, ?o13, ?o14, ?o15, ?o16, ?o17, ?o18, trivial⟩ ?ha ?hdone
  case ha => simp [putAll, Act.put]; exact rfl
  case o0 => exact ValOp.pure (Wrote.steady 0 (fun _ => rfl)) [(3, .pointer (some ⟨w.heap.size, 0, none⟩))] rfl (fun _ _ h2 => ⟨(h2 3 (by kernel_rfl)).trans rfl, trivial⟩) (by kernel_rfl) (fun _ _ _ _ _ => by kernel_rfl)
  case o1 => exact ValOp.pure (Wrote.steady 1 (fun _ => rfl)) [(67, .pointer (some ⟨w.heap.size, 0, none⟩))] rfl (fun _ h1 _ => ⟨h1 0 67 (by kernel_rfl), trivial⟩) (by kernel_rfl) (fun _ _ _ hg _ => run_read rfl rfl (run_cell (hg.low ((Below.heap_alloc _ _ _ (by omega)).trans r1.out) (by omega)) rfl (Try.isAgg3 _)))
  case o2 => exact ValOp.pure (Wrote.steady 2 (fun _ => rfl)) [(68, .int .i64 p)] rfl (fun _ h1 _ => ⟨h1 1 68 (by kernel_rfl), trivial⟩) (by kernel_rfl) (fun _ _ _ _ _ => by kernel_rfl)
  case o3 => exact ValOp.pure (Wrote.steady 3 (fun _ => rfl)) [(69, .int .u64 (IntKind.u64.wrap p))] rfl (fun _ h1 _ => ⟨h1 2 69 (by kernel_rfl), trivial⟩) (by kernel_rfl) (fun _ _ _ _ _ => run_bin (a := .int .u64 1) (b := .int .u64 (IntKind.u64.wrap p)) rfl rfl rfl (by kernel_rfl) (by simp [go_sem, hwp, hP]))
  case o4 => exact ValOp.pure (Wrote.steady 4 (fun _ => rfl)) [(7, .int .u64 F)] rfl (fun _ _ h2 => ⟨(h2 7 (by kernel_rfl)).trans rfl, trivial⟩) (by kernel_rfl) (fun _ _ _ _ _ => by kernel_rfl)
  case o5 => exact ValOp.pure (Wrote.steady 5 (fun _ => rfl)) [(70, .int .u64 P), (71, .int .u64 F)] rfl (fun _ h1 _ => ⟨h1 3 70 (by kernel_rfl), h1 4 71 (by kernel_rfl), trivial⟩) (by kernel_rfl) (fun _ _ _ _ _ => run_bin (a := .int .u64 P) (b := .int .u64 F) rfl rfl rfl (by kernel_rfl) (by simp [go_sem, hM]))
  case o6 => exact ValOp.pure (Wrote.steady 6 (fun _ => rfl)) [(6, .int .i64 E)] rfl (fun _ _ h2 => ⟨(h2 6 (by kernel_rfl)).trans rfl, trivial⟩) (by kernel_rfl) (fun _ _ _ _ _ => by kernel_rfl)
  case o7 => exact ValOp.pure (Wrote.steady 7 (fun _ => rfl)) [(3, .pointer (some ⟨w.heap.size, 0, none⟩))] rfl (fun _ _ h2 => ⟨(h2 3 (by kernel_rfl)).trans rfl, trivial⟩) (by kernel_rfl) (fun _ _ _ _ _ => by kernel_rfl)
  case o8 => exact ValOp.pure (Wrote.steady 8 (fun _ => rfl)) [(74, .pointer (some ⟨w.heap.size, 2, none⟩))] rfl (fun _ h1 _ => ⟨h1 7 74 (by kernel_rfl), trivial⟩) (by kernel_rfl) (fun _ _ _ hg _ => run_read rfl rfl (run_cell (hg.low ((Below.heap_alloc _ _ _ (by omega)).trans r1.out) (by omega)) rfl (Try.isAgg3 _)))
  case o9 => exact ValOp.pure (Wrote.steady 9 (fun _ => rfl)) [(73, .int .i64 E), (75, .int .i64 bi)] rfl (fun _ h1 _ => ⟨h1 6 73 (by kernel_rfl), h1 8 75 (by kernel_rfl), trivial⟩) (by kernel_rfl) (fun _ _ _ _ _ => run_bin (a := .int .i64 E) (b := .int .i64 bi) rfl rfl rfl (by kernel_rfl) (by simp [go_sem, h9]))
  case o10 => exact ValOp.pure (Wrote.steady 10 (fun _ => rfl)) [(3, .pointer (some ⟨w.heap.size, 0, none⟩))] rfl (fun _ _ h2 => ⟨(h2 3 (by kernel_rfl)).trans rfl, trivial⟩) (by kernel_rfl) (fun _ _ _ _ _ => by kernel_rfl)
  case o11 => exact ValOp.pure (Wrote.steady 11 (fun _ => rfl)) [(77, .pointer (some ⟨w.heap.size, 0, none⟩))] rfl (fun _ h1 _ => ⟨h1 10 77 (by kernel_rfl), trivial⟩) (by kernel_rfl) (fun _ _ _ hg _ => run_read rfl rfl (run_cell (hg.low ((Below.heap_alloc _ _ _ (by omega)).trans r1.out) (by omega)) rfl (Try.isAgg3 _)))
  case o12 => exact ValOp.pure (Wrote.steady 12 (fun _ => rfl)) [(76, .int .i64 (E - bi)), (78, .int .i64 p)] rfl (fun _ h1 _ => ⟨h1 9 76 (by kernel_rfl), h1 11 78 (by kernel_rfl), trivial⟩) (by kernel_rfl) (fun _ _ _ _ _ => run_bin (a := .int .i64 (E - bi)) (b := .int .i64 p) rfl rfl rfl (by kernel_rfl) (by simp [go_sem, hX]))
  case o13 => exact ValOp.pure (Wrote.steady 13 (fun _ => rfl)) [(5, .pointer (some ⟨w1.heap.size, 0, none⟩))] rfl (fun _ _ h2 => ⟨(h2 5 (by kernel_rfl)).trans rfl, trivial⟩) (by kernel_rfl) (fun _ _ _ _ _ => by kernel_rfl)
  case o14 => exact ValOp.store (v := .int .i64 2) [(80, .pointer (some ⟨w1.heap.size, 0, none⟩))] rfl rfl (fun _ h1 _ => ⟨h1 13 80 (by kernel_rfl), trivial⟩) (by kernel_rfl) rfl rfl rfl rfl (fun _ _ _ hg => run_store_int hg.at_ (by simp [csB]) (Try.sizeOf3 _)) (fun s _ _ hg => hg.set (by simp [csB, mark]))
  case o15 => exact ValOp.pure (Wrote.steady 15 (fun _ => rfl)) [(5, .pointer (some ⟨w1.heap.size, 0, none⟩))] rfl (fun _ _ h2 => ⟨(h2 5 (by kernel_rfl)).trans rfl, trivial⟩) (by kernel_rfl) (fun _ _ _ _ _ => by kernel_rfl)
  case o16 => exact ValOp.store (v := .int .u64 M) [(81, .pointer (some ⟨w1.heap.size, 2, none⟩)), (72, .int .u64 M)] rfl rfl (fun _ h1 _ => ⟨h1 15 81 (by kernel_rfl), h1 5 72 (by kernel_rfl), trivial⟩) (by kernel_rfl) rfl rfl rfl rfl (fun _ _ _ hg => run_store_int hg.at_ (by simp [csB]) (Try.sizeOf22 _)) (fun s _ _ hg => hg.set (by simp [csB, mark]))
  case o17 => exact ValOp.pure (Wrote.steady 17 (fun _ => rfl)) [(5, .pointer (some ⟨w1.heap.size, 0, none⟩))] rfl (fun _ _ h2 => ⟨(h2 5 (by kernel_rfl)).trans rfl, trivial⟩) (by kernel_rfl) (fun _ _ _ _ _ => by kernel_rfl)
  case o18 => exact ValOp.store (v := .int .i64 X) [(82, .pointer (some ⟨w1.heap.size, 3, none⟩)), (79, .int .i64 X)] rfl rfl (fun _ h1 _ => ⟨h1 17 82 (by kernel_rfl), h1 12 79 (by kernel_rfl), trivial⟩) (by kernel_rfl) rfl rfl rfl rfl (fun _ _ _ hg => run_store_int hg.at_ (by simp [csB]) (Try.sizeOf3 _)) (fun s _ _ hg => hg.set (by simp [csB, mark]))
  intro w3 s3 hs3 hg3
  have hr3 : w3.heap[w1.heap.size]? = some (.cells #[.int .i64 2, .bool ng, .int .u64 M, .int .i64 X, .bool false, .int .u64 0] 27 (0, 0)) := by
    have := hg3.at_
    simpa only [csB, hs3 14 (by decide), hs3 16 (by decide), hs3 18 (by decide), if_true] using this
  have hB3 : Hid (Below w.heap.size w w3) := (B1.out.alloc (by omega) _).trans (hg3.below.mono (by omega))
  have hq3 : w3.heap[w.heap.size + 1]? = some (.cells #[.int .i64 0, .bool false, .int .u64 0, .int .i64 0, .bool false, .int .u64 0] 27 (0, 0)) := hg3.low ((Below.heap_alloc _ _ _ (by omega)).trans q1.out) (by omega)
  refine (by assumption : ∀ (a : Act) (w : World), Code.wp Try.prog ((Code.region 14 _ _).seq Code.ret) _ a w → _) _ _ ?_
  refine ret_row (gp := w1.heap.size) (gr := w.heap.size + 1) 27 5 96 4 rfl rfl rfl rfl ⟨rfl, rfl⟩ ⟨by simp, by decide⟩ rfl rfl hr3 hq3 rfl Try.underlying27 rfl (by kernel_rfl) (by simp [Value.oneCell']) Try.results11 rfl ?_
  exact ⟨rfl, below_set hB3.out (by omega)⟩
end Go.Proofs.Ytjcjecbffnadaab
