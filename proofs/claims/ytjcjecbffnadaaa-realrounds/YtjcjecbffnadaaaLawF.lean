/-
  What the statement of Of asks, walked. Condition: the numbers in the parts fit their types.
-/
import Derived.Test.YtjcjecbffnadaaaOq
import Derived.Test.YtjcjecbffnadaaaRo
namespace Go.Proofs.Ytjcjecbffnadaaa
open Go.RowKit
theorem take_and {P : Prop} {e : Ending} {v : Value} {W : Prop} (h : (e = .returned v ∧ W) → P) : e = .returned v → W → P := fun a b => h ⟨a, b⟩
set_option maxHeartbeats 2000000 in
theorem law_of_by (kd X E1 E2 : Int) (ng qu : Bool) (M LD B C : Nat) (w : World) (hC : C < 4294967296)
    (k18 : ∀ w, Calls Try.prog 18 #[.agg #[.int .i64 kd, .bool ng, .int .u64 M, .int .i64 X, .bool qu, .int .u64 LD]] w fun e w' => e = .returned (.tuple #[.float .f64 B, .int .i64 E1]) ∧ Below w.heap.size w w') (k19 : ∀ w, Calls Try.prog 19 #[.agg #[.int .i64 kd, .bool ng, .int .u64 M, .int .i64 X, .bool qu, .int .u64 LD]] w fun e w' => e = .returned (.tuple #[.float .f32 C, .int .i64 E2]) ∧ Below w.heap.size w w') (k23 : ∀ w, Calls Try.prog 23 #[.agg #[.int .i64 kd, .bool ng, .int .u64 M, .int .i64 X, .bool qu, .int .u64 LD]] w fun e w' => e = .returned (.agg #[.int .i64 kd, .bool ng, .int .u64 M, .int .i64 X, .bool qu, .int .u64 LD]) ∧ Below w.heap.size w w')
    (k22 : ∀ w, Calls Try.prog 22 #[.agg #[.int .i64 kd, .bool ng, .int .u64 M, .int .i64 X, .bool qu, .int .u64 LD], .agg #[.int .i64 52, .int .i64 2047, .int .i64 1023]] w fun e w' => e = .returned (.tuple #[.int .u64 (B : Int), .int .i64 E1]) ∧ Below w.heap.size w w') (k22b : ∀ w, Calls Try.prog 22 #[.agg #[.int .i64 kd, .bool ng, .int .u64 M, .int .i64 X, .bool qu, .int .u64 LD], .agg #[.int .i64 23, .int .i64 255, .int .i64 127]] w fun e w' => e = .returned (.tuple #[.int .u64 (C : Int), .int .i64 E2]) ∧ Below w.heap.size w w') :
    Calls Try.prog 4 #[.agg #[.int .i64 kd, .bool ng, .int .u64 M, .int .i64 X, .bool qu, .int .u64 LD]] w fun e w' => e = .returned (.bool true) ∧ Below w.heap.size w w' := by
  have k9 := awake_any
  have k16 : ∀ w, Calls Try.prog 16 #[] w fun e w' => e = .returned (.agg #[.int .i64 52, .int .i64 2047, .int .i64 1023]) ∧ Below w.heap.size w w' := size64_any
  have k17 : ∀ w, Calls Try.prog 17 #[] w fun e w' => e = .returned (.agg #[.int .i64 23, .int .i64 255, .int .i64 127]) ∧ Below w.heap.size w w' := size32_any
  have x20 := ext20
  have x21 := ext21
  go_enter Try.func4, Try.ntmps4
  go_wp2_with (go_at_call 9; refine (k9 _).mono ?_)
  intro e w1 hh
  obtain ⟨rfl, b1⟩ : _ ∧ _ := hh
  have r1 : w1.heap[w.heap.size]? = some (.cells #[.int .i64 kd, .bool ng, .int .u64 M, .int .i64 X, .bool qu, .int .u64 LD] 30 (0, 0)) := (b1.block _ (by simp)).trans (heap_alloc_last _ _)
  have B1 : Hid (Below w.heap.size w w1) := ((Below.refl _ _).alloc (Nat.le_refl _) _).trans (b1.mono (by simp))
  have z1 : w.heap.size + 1 ≤ w1.heap.size := by have := b1.size; simpa using this
  clear b1
  have d0 := (cells6 r1).1
  have d1 := (cells6 r1).2.1
  have d2 := (cells6 r1).2.2.1
  have d3 := (cells6 r1).2.2.2.1
  have d4 := (cells6 r1).2.2.2.2.1
  have d5 := (cells6 r1).2.2.2.2.2
  go_wp2_with (go_at_call 18; refine (k18 _).mono ?_)
  intro e w2 hh
  first | (obtain ⟨rfl, b2⟩ : _ ∧ _ := hh) | (subst hh; intro b2)
  have r2 := (b2.block _ (by omega)).trans r1
  have B2 : Hid (Below w.heap.size w w2) := B1.out.trans (b2.mono (by omega))
  have z2 : w.heap.size + 1 ≤ w2.heap.size := Nat.le_trans z1 b2.size
  clear b2 B1 r1 z1 d0 d1 d2 d3 d4 d5
  have d0 := (cells6 r2).1
  have d1 := (cells6 r2).2.1
  have d2 := (cells6 r2).2.2.1
  have d3 := (cells6 r2).2.2.2.1
  have d4 := (cells6 r2).2.2.2.2.1
  have d5 := (cells6 r2).2.2.2.2.2
  go_wp2_with (go_at_call 23; refine (k23 _).mono ?_)
  intro e w3 hh
  first | (obtain ⟨rfl, b3⟩ : _ ∧ _ := hh) | (subst hh; intro b3)
  have r3 := (b3.block _ (by omega)).trans r2
  have B3 : Hid (Below w.heap.size w w3) := B2.out.trans (b3.mono (by omega))
  have z3 : w.heap.size + 1 ≤ w3.heap.size := Nat.le_trans z2 b3.size
  clear b3 B2 r2 z2 d0 d1 d2 d3 d4 d5
  have d0 := (cells6 r3).1
  have d1 := (cells6 r3).2.1
  have d2 := (cells6 r3).2.2.1
  have d3 := (cells6 r3).2.2.2.1
  have d4 := (cells6 r3).2.2.2.2.1
  have d5 := (cells6 r3).2.2.2.2.2
  go_wp2_with (go_at_call 16; refine (k16 _).mono ?_)
  intro e w4 hh
  first | (obtain ⟨rfl, b4⟩ : _ ∧ _ := hh) | (subst hh; intro b4)
  have r4 := (b4.block _ (by omega)).trans r3
  have B4 : Hid (Below w.heap.size w w4) := B3.out.trans (b4.mono (by omega))
  have z4 : w.heap.size + 1 ≤ w4.heap.size := Nat.le_trans z3 b4.size
  clear b4 B3 r3 z3 d0 d1 d2 d3 d4 d5
  have d0 := (cells6 r4).1
  have d1 := (cells6 r4).2.1
  have d2 := (cells6 r4).2.2.1
  have d3 := (cells6 r4).2.2.2.1
  have d4 := (cells6 r4).2.2.2.2.1
  have d5 := (cells6 r4).2.2.2.2.2
  go_wp2_with (go_at_call 22; refine (k22 _).mono ?_)
  intro e w5 hh
  first | (obtain ⟨rfl, b5⟩ : _ ∧ _ := hh) | (subst hh; intro b5)
  have r5 := (b5.block _ (by omega)).trans r4
  have B5 : Hid (Below w.heap.size w w5) := B4.out.trans (b5.mono (by omega))
  have z5 : w.heap.size + 1 ≤ w5.heap.size := Nat.le_trans z4 b5.size
  clear b5 B4 r4 z4 d0 d1 d2 d3 d4 d5
  have d0 := (cells6 r5).1
  have d1 := (cells6 r5).2.1
  have d2 := (cells6 r5).2.2.1
  have d3 := (cells6 r5).2.2.2.1
  have d4 := (cells6 r5).2.2.2.2.1
  have d5 := (cells6 r5).2.2.2.2.2
  go_wp2_with (go_at_call 19; refine (k19 _).mono ?_)
  intro e w6 hh
  first | (obtain ⟨rfl, b6⟩ : _ ∧ _ := hh) | (subst hh; intro b6)
  have r6 := (b6.block _ (by omega)).trans r5
  have B6 : Hid (Below w.heap.size w w6) := B5.out.trans (b6.mono (by omega))
  have z6 : w.heap.size + 1 ≤ w6.heap.size := Nat.le_trans z5 b6.size
  clear b6 B5 r5 z5 d0 d1 d2 d3 d4 d5
  have d0 := (cells6 r6).1
  have d1 := (cells6 r6).2.1
  have d2 := (cells6 r6).2.2.1
  have d3 := (cells6 r6).2.2.2.1
  have d4 := (cells6 r6).2.2.2.2.1
  have d5 := (cells6 r6).2.2.2.2.2
  go_wp2_with (go_at_call 23; refine (k23 _).mono ?_)
  intro e w7 hh
  first | (obtain ⟨rfl, b7⟩ : _ ∧ _ := hh) | (subst hh; intro b7)
  have r7 := (b7.block _ (by omega)).trans r6
  have B7 : Hid (Below w.heap.size w w7) := B6.out.trans (b7.mono (by omega))
  have z7 : w.heap.size + 1 ≤ w7.heap.size := Nat.le_trans z6 b7.size
  clear b7 B6 r6 z6 d0 d1 d2 d3 d4 d5
  have d0 := (cells6 r7).1
  have d1 := (cells6 r7).2.1
  have d2 := (cells6 r7).2.2.1
  have d3 := (cells6 r7).2.2.2.1
  have d4 := (cells6 r7).2.2.2.2.1
  have d5 := (cells6 r7).2.2.2.2.2
  go_wp2_with (go_at_call 17; refine (k17 _).mono ?_)
  intro e w8 hh
  first | (obtain ⟨rfl, b8⟩ : _ ∧ _ := hh) | (subst hh; intro b8)
  have r8 := (b8.block _ (by omega)).trans r7
  have B8 : Hid (Below w.heap.size w w8) := B7.out.trans (b8.mono (by omega))
  have z8 : w.heap.size + 1 ≤ w8.heap.size := Nat.le_trans z7 b8.size
  clear b8 B7 r7 z7 d0 d1 d2 d3 d4 d5
  have d0 := (cells6 r8).1
  have d1 := (cells6 r8).2.1
  have d2 := (cells6 r8).2.2.1
  have d3 := (cells6 r8).2.2.2.1
  have d4 := (cells6 r8).2.2.2.2.1
  have d5 := (cells6 r8).2.2.2.2.2
  go_wp2_with (go_at_call 22; refine (k22b _).mono ?_)
  intro e w9 hh
  first | (obtain ⟨rfl, b9⟩ : _ ∧ _ := hh) | (subst hh; intro b9)
  have r9 := (b9.block _ (by omega)).trans r8
  have B9 : Hid (Below w.heap.size w w9) := B8.out.trans (b9.mono (by omega))
  have z9 : w.heap.size + 1 ≤ w9.heap.size := Nat.le_trans z8 b9.size
  clear b9 B8 r8 z8 d0 d1 d2 d3 d4 d5
  have d0 := (cells6 r9).1
  have d1 := (cells6 r9).2.1
  have d2 := (cells6 r9).2.2.1
  have d3 := (cells6 r9).2.2.2.1
  have d4 := (cells6 r9).2.2.2.2.1
  have d5 := (cells6 r9).2.2.2.2.2
  go_wp2
  go_ret
  exact ⟨by simp, B9.out⟩
theorem ofV_is (fk : FloatKind) (r : Option Nat) : ofV fk r = .tuple #[.float fk (r.getD 0), .int .i64 (if r.isSome then 0 else 40)] := by cases r <;> rfl
theorem rofV_is (r : Option Nat) : rofV r = .tuple #[.int .u64 ((r.getD 0 : Nat) : Int), .int .i64 (if r.isSome then 0 else 40)] := by cases r <;> rfl
theorem law_of (x : Pt) (w : World) (hm : x.mant < 18446744073709551616) (hl : x.load < 18446744073709551616) : Calls Try.prog 4 #[x.val] w fun e w' => e = .returned (.bool true) ∧ Below w.heap.size w w' := by
  have k18 := fun w => of_any x hm hl w
  have k19 := fun w => of32_any x hm hl w
  have k22 := fun w => rof_any lay64 x hm hl w
  have k22b := fun w => rof_any lay32 x hm hl w
  rw [ofV_is] at k18 k19
  rw [rofV_is] at k22 k22b
  have hC : (ofB 23 8 127 x).getD 0 < 4294967296 := by
    cases h : ofB 23 8 127 x with
    | none => decide
    | some b => exact Nat.lt_of_lt_of_le (ofB_lt h).1 (by decide)
  exact law_of_by _ _ _ _ _ _ _ _ _ _ w hC k18 k19 (fun w => plain_any x w) k22 k22b
end Go.Proofs.Ytjcjecbffnadaaa
