/-
  What the statement of steps asks, walked. Condition: the bits fit 64 bits.
-/
import Derived.Test.YtjcjecbffnadaaaSs
import Derived.Test.YtjcjecbffnadaaaOq
namespace Go.Proofs.Ytjcjecbffnadaaa
open Go.RowKit
set_option maxHeartbeats 2000000 in
theorem steps_a (a b u f v d : Nat) (xb : Bool) (w : World) (hx1 : bits .xor .u64 (a : Int) 9223372036854775808 = (f : Int)) (hx2 : bits .xor .u64 (v : Int) 9223372036854775808 = (d : Int)) (na : (FloatKind.f64.format.order a a != some .eq) = true) (nb : (FloatKind.f64.format.order b b != some .eq) = xb)
    (k25 : ∀ w, Calls Try.prog 25 #[.float .f64 a] w fun e w' => e = .returned (.float .f64 u) ∧ w' = w) (k26 : ∀ w, Calls Try.prog 26 #[.int .u64 (a : Int)] w fun e w' => e = .returned (.int .u64 (u : Int)) ∧ Below w.heap.size w w') (k24 : ∀ w, Calls Try.prog 24 #[.float .f64 u, .int .u64 (u : Int)] w fun e w' => e = .returned (.bool true) ∧ Below w.heap.size w w') (k27 : ∀ w, Calls Try.prog 27 #[.float .f64 a] w fun e w' => e = .returned (.float .f64 d) ∧ Below w.heap.size w w') (k26f : ∀ w, Calls Try.prog 26 #[.int .u64 (f : Int)] w fun e w' => e = .returned (.int .u64 (v : Int)) ∧ Below w.heap.size w w') (k24d : ∀ w, Calls Try.prog 24 #[.float .f64 d, .int .u64 (d : Int)] w fun e w' => e = .returned (.bool true) ∧ Below w.heap.size w w')
    (k28 : ∀ w, Calls Try.prog 28 #[.float .f64 a, .float .f64 b] w fun e w' => e = .returned (.tuple #[.int .u64 0, .bool false]) ∧ Below w.heap.size w w') :
    Calls Try.prog 5 #[.int .u64 (a : Int), .int .u64 (b : Int)] w fun e w' => e = .returned (.bool true) ∧ Below w.heap.size w w' := by
  have k9 := awake_any
  have x10 := ext10
  go_enter Try.func5, Try.ntmps5
  go_wp2_with (go_at_call 9; refine (k9 _).mono ?_)
  rintro e w1 ⟨rfl, b1⟩
  have B1 : Hid (Below w.heap.size w w1) := b1
  clear b1
  go_wp2_with (go_at_call 25; refine (k25 _).mono ?_)
  rintro e w2 ⟨rfl, rfl⟩
  go_wp2_with (go_at_call 26; refine (k26 _).mono ?_)
  rintro e w3 ⟨rfl, b3⟩
  have B3 : Hid (Below w.heap.size w w3) := B1.out.trans (b3.mono B1.out.size)
  clear b3 B1
  go_wp2_with (go_at_call 24; refine (k24 _).mono ?_)
  rintro e w4 ⟨rfl, b4⟩
  have B4 : Hid (Below w.heap.size w w4) := B3.out.trans (b4.mono B3.out.size)
  clear b4 B3
  go_wp2_with (go_at_call 27; refine (k27 _).mono ?_)
  rintro e w5 ⟨rfl, b5⟩
  have B5 : Hid (Below w.heap.size w w5) := B4.out.trans (b5.mono B4.out.size)
  clear b5 B4
  go_wp2_with (go_at_call 26; refine (k26f _).mono ?_)
  rintro e w6 ⟨rfl, b6⟩
  have B6 : Hid (Below w.heap.size w w6) := B5.out.trans (b6.mono B5.out.size)
  clear b6 B5
  go_wp2_with (go_at_call 24; refine (k24d _).mono ?_)
  rintro e w7 ⟨rfl, b7⟩
  have B7 : Hid (Below w.heap.size w w7) := B6.out.trans (b7.mono B6.out.size)
  clear b7 B6
  go_wp2_with (go_at_call 28; refine (k28 _).mono ?_)
  rintro e w8 ⟨rfl, b8⟩
  have B8 : Hid (Below w.heap.size w w8) := B7.out.trans (b8.mono B7.out.size)
  clear b8 B7
  go_wp2
  first
  | (go_ret; exact ⟨rfl, B8.out⟩)
  | (go_ret; exact ⟨by simp, B8.out⟩)
  | (trace_state; sorry)
set_option maxHeartbeats 2000000 in
theorem steps_b (a b u f v d : Nat) (w : World) (hx1 : bits .xor .u64 (a : Int) 9223372036854775808 = (f : Int)) (hx2 : bits .xor .u64 (v : Int) 9223372036854775808 = (d : Int)) (na : (FloatKind.f64.format.order a a != some .eq) = false) (nb : (FloatKind.f64.format.order b b != some .eq) = true)
    (k25 : ∀ w, Calls Try.prog 25 #[.float .f64 a] w fun e w' => e = .returned (.float .f64 u) ∧ w' = w) (k26 : ∀ w, Calls Try.prog 26 #[.int .u64 (a : Int)] w fun e w' => e = .returned (.int .u64 (u : Int)) ∧ Below w.heap.size w w') (k24 : ∀ w, Calls Try.prog 24 #[.float .f64 u, .int .u64 (u : Int)] w fun e w' => e = .returned (.bool true) ∧ Below w.heap.size w w') (k27 : ∀ w, Calls Try.prog 27 #[.float .f64 a] w fun e w' => e = .returned (.float .f64 d) ∧ Below w.heap.size w w') (k26f : ∀ w, Calls Try.prog 26 #[.int .u64 (f : Int)] w fun e w' => e = .returned (.int .u64 (v : Int)) ∧ Below w.heap.size w w') (k24d : ∀ w, Calls Try.prog 24 #[.float .f64 d, .int .u64 (d : Int)] w fun e w' => e = .returned (.bool true) ∧ Below w.heap.size w w')
    (k28 : ∀ w, Calls Try.prog 28 #[.float .f64 a, .float .f64 b] w fun e w' => e = .returned (.tuple #[.int .u64 0, .bool false]) ∧ Below w.heap.size w w') :
    Calls Try.prog 5 #[.int .u64 (a : Int), .int .u64 (b : Int)] w fun e w' => e = .returned (.bool true) ∧ Below w.heap.size w w' := by
  have k9 := awake_any
  have x10 := ext10
  go_enter Try.func5, Try.ntmps5
  go_wp2_with (go_at_call 9; refine (k9 _).mono ?_)
  rintro e w1 ⟨rfl, b1⟩
  have B1 : Hid (Below w.heap.size w w1) := b1
  clear b1
  go_wp2_with (go_at_call 25; refine (k25 _).mono ?_)
  rintro e w2 ⟨rfl, rfl⟩
  go_wp2_with (go_at_call 26; refine (k26 _).mono ?_)
  rintro e w3 ⟨rfl, b3⟩
  have B3 : Hid (Below w.heap.size w w3) := B1.out.trans (b3.mono B1.out.size)
  clear b3 B1
  go_wp2_with (go_at_call 24; refine (k24 _).mono ?_)
  rintro e w4 ⟨rfl, b4⟩
  have B4 : Hid (Below w.heap.size w w4) := B3.out.trans (b4.mono B3.out.size)
  clear b4 B3
  go_wp2_with (go_at_call 27; refine (k27 _).mono ?_)
  rintro e w5 ⟨rfl, b5⟩
  have B5 : Hid (Below w.heap.size w w5) := B4.out.trans (b5.mono B4.out.size)
  clear b5 B4
  go_wp2_with (go_at_call 26; refine (k26f _).mono ?_)
  rintro e w6 ⟨rfl, b6⟩
  have B6 : Hid (Below w.heap.size w w6) := B5.out.trans (b6.mono B5.out.size)
  clear b6 B5
  go_wp2_with (go_at_call 24; refine (k24d _).mono ?_)
  rintro e w7 ⟨rfl, b7⟩
  have B7 : Hid (Below w.heap.size w w7) := B6.out.trans (b7.mono B6.out.size)
  clear b7 B6
  go_wp2_with (go_at_call 28; refine (k28 _).mono ?_)
  rintro e w8 ⟨rfl, b8⟩
  have B8 : Hid (Below w.heap.size w w8) := B7.out.trans (b8.mono B7.out.size)
  clear b8 B7
  go_wp2
  first
  | (go_ret; exact ⟨rfl, B8.out⟩)
  | (go_ret; exact ⟨by simp, B8.out⟩)
  | (trace_state; sorry)
set_option maxHeartbeats 2000000 in
theorem steps_c (a b u f v d : Nat) (P Q : Int) (w : World) (hx1 : bits .xor .u64 (a : Int) 9223372036854775808 = (f : Int)) (hx2 : bits .xor .u64 (v : Int) 9223372036854775808 = (d : Int)) (na : (FloatKind.f64.format.order a a != some .eq) = false) (nb : (FloatKind.f64.format.order b b != some .eq) = false)
    (k25 : ∀ w, Calls Try.prog 25 #[.float .f64 a] w fun e w' => e = .returned (.float .f64 u) ∧ w' = w) (k26 : ∀ w, Calls Try.prog 26 #[.int .u64 (a : Int)] w fun e w' => e = .returned (.int .u64 (u : Int)) ∧ Below w.heap.size w w') (k24 : ∀ w, Calls Try.prog 24 #[.float .f64 u, .int .u64 (u : Int)] w fun e w' => e = .returned (.bool true) ∧ Below w.heap.size w w') (k27 : ∀ w, Calls Try.prog 27 #[.float .f64 a] w fun e w' => e = .returned (.float .f64 d) ∧ Below w.heap.size w w') (k26f : ∀ w, Calls Try.prog 26 #[.int .u64 (f : Int)] w fun e w' => e = .returned (.int .u64 (v : Int)) ∧ Below w.heap.size w w') (k24d : ∀ w, Calls Try.prog 24 #[.float .f64 d, .int .u64 (d : Int)] w fun e w' => e = .returned (.bool true) ∧ Below w.heap.size w w')
    (k28 : ∀ w, Calls Try.prog 28 #[.float .f64 a, .float .f64 b] w fun e w' => e = .returned (.tuple #[.int .u64 (Q - P), .bool true]) ∧ Below w.heap.size w w') (ka : ∀ w, Calls Try.prog 29 #[.int .u64 (a : Int)] w fun e w' => e = .returned (.int .i64 P) ∧ w' = w) (kb : ∀ w, Calls Try.prog 29 #[.int .u64 (b : Int)] w fun e w' => e = .returned (.int .i64 Q) ∧ w' = w)
    (p1 : -9223372036854775808 < P) (p2 : P < 9223372036854775808) (q1 : -9223372036854775808 < Q) (q2 : Q < 9223372036854775808) (c : P ≤ Q) :
    Calls Try.prog 5 #[.int .u64 (a : Int), .int .u64 (b : Int)] w fun e w' => e = .returned (.bool true) ∧ Below w.heap.size w w' := by
  have hw : IntKind.u64.wrap (IntKind.u64.wrap Q - IntKind.u64.wrap P) = Q - P := by
    simp [IntKind.wrap, IntKind.bits, IntKind.signed]; omega
  have k9 := awake_any
  have x10 := ext10
  go_enter Try.func5, Try.ntmps5
  go_wp2_with (go_at_call 9; refine (k9 _).mono ?_)
  rintro e w1 ⟨rfl, b1⟩
  have B1 : Hid (Below w.heap.size w w1) := b1
  clear b1
  go_wp2_with (go_at_call 25; refine (k25 _).mono ?_)
  rintro e w2 ⟨rfl, rfl⟩
  go_wp2_with (go_at_call 26; refine (k26 _).mono ?_)
  rintro e w3 ⟨rfl, b3⟩
  have B3 : Hid (Below w.heap.size w w3) := B1.out.trans (b3.mono B1.out.size)
  clear b3 B1
  go_wp2_with (go_at_call 24; refine (k24 _).mono ?_)
  rintro e w4 ⟨rfl, b4⟩
  have B4 : Hid (Below w.heap.size w w4) := B3.out.trans (b4.mono B3.out.size)
  clear b4 B3
  go_wp2_with (go_at_call 27; refine (k27 _).mono ?_)
  rintro e w5 ⟨rfl, b5⟩
  have B5 : Hid (Below w.heap.size w w5) := B4.out.trans (b5.mono B4.out.size)
  clear b5 B4
  go_wp2_with (go_at_call 26; refine (k26f _).mono ?_)
  rintro e w6 ⟨rfl, b6⟩
  have B6 : Hid (Below w.heap.size w w6) := B5.out.trans (b6.mono B5.out.size)
  clear b6 B5
  go_wp2_with (go_at_call 24; refine (k24d _).mono ?_)
  rintro e w7 ⟨rfl, b7⟩
  have B7 : Hid (Below w.heap.size w w7) := B6.out.trans (b7.mono B6.out.size)
  clear b7 B6
  go_wp2_with (go_at_call 28; refine (k28 _).mono ?_)
  rintro e w8 ⟨rfl, b8⟩
  have B8 : Hid (Below w.heap.size w w8) := B7.out.trans (b8.mono B7.out.size)
  clear b8 B7
  go_wp2_with (go_at_call 29; refine (ka _).mono ?_)
  rintro e w9 ⟨rfl, rfl⟩
  go_wp2_with (go_at_call 29; refine (kb _).mono ?_)
  rintro e w9 ⟨rfl, rfl⟩
  go_wp2
  first
  | (go_ret; exact ⟨rfl, B8.out⟩)
  | (go_ret; exact ⟨by simp, B8.out⟩)
  | (trace_state; sorry)
set_option maxHeartbeats 2000000 in
theorem steps_d (a b u f v d : Nat) (P Q : Int) (w : World) (hx1 : bits .xor .u64 (a : Int) 9223372036854775808 = (f : Int)) (hx2 : bits .xor .u64 (v : Int) 9223372036854775808 = (d : Int)) (na : (FloatKind.f64.format.order a a != some .eq) = false) (nb : (FloatKind.f64.format.order b b != some .eq) = false)
    (k25 : ∀ w, Calls Try.prog 25 #[.float .f64 a] w fun e w' => e = .returned (.float .f64 u) ∧ w' = w) (k26 : ∀ w, Calls Try.prog 26 #[.int .u64 (a : Int)] w fun e w' => e = .returned (.int .u64 (u : Int)) ∧ Below w.heap.size w w') (k24 : ∀ w, Calls Try.prog 24 #[.float .f64 u, .int .u64 (u : Int)] w fun e w' => e = .returned (.bool true) ∧ Below w.heap.size w w') (k27 : ∀ w, Calls Try.prog 27 #[.float .f64 a] w fun e w' => e = .returned (.float .f64 d) ∧ Below w.heap.size w w') (k26f : ∀ w, Calls Try.prog 26 #[.int .u64 (f : Int)] w fun e w' => e = .returned (.int .u64 (v : Int)) ∧ Below w.heap.size w w') (k24d : ∀ w, Calls Try.prog 24 #[.float .f64 d, .int .u64 (d : Int)] w fun e w' => e = .returned (.bool true) ∧ Below w.heap.size w w')
    (k28 : ∀ w, Calls Try.prog 28 #[.float .f64 a, .float .f64 b] w fun e w' => e = .returned (.tuple #[.int .u64 (P - Q), .bool true]) ∧ Below w.heap.size w w') (ka : ∀ w, Calls Try.prog 29 #[.int .u64 (a : Int)] w fun e w' => e = .returned (.int .i64 P) ∧ w' = w) (kb : ∀ w, Calls Try.prog 29 #[.int .u64 (b : Int)] w fun e w' => e = .returned (.int .i64 Q) ∧ w' = w)
    (p1 : -9223372036854775808 < P) (p2 : P < 9223372036854775808) (q1 : -9223372036854775808 < Q) (q2 : Q < 9223372036854775808) (c : Q < P) :
    Calls Try.prog 5 #[.int .u64 (a : Int), .int .u64 (b : Int)] w fun e w' => e = .returned (.bool true) ∧ Below w.heap.size w w' := by
  have hw : IntKind.u64.wrap (IntKind.u64.wrap P - IntKind.u64.wrap Q) = P - Q := by
    simp [IntKind.wrap, IntKind.bits, IntKind.signed]; omega
  have k9 := awake_any
  have x10 := ext10
  go_enter Try.func5, Try.ntmps5
  go_wp2_with (go_at_call 9; refine (k9 _).mono ?_)
  rintro e w1 ⟨rfl, b1⟩
  have B1 : Hid (Below w.heap.size w w1) := b1
  clear b1
  go_wp2_with (go_at_call 25; refine (k25 _).mono ?_)
  rintro e w2 ⟨rfl, rfl⟩
  go_wp2_with (go_at_call 26; refine (k26 _).mono ?_)
  rintro e w3 ⟨rfl, b3⟩
  have B3 : Hid (Below w.heap.size w w3) := B1.out.trans (b3.mono B1.out.size)
  clear b3 B1
  go_wp2_with (go_at_call 24; refine (k24 _).mono ?_)
  rintro e w4 ⟨rfl, b4⟩
  have B4 : Hid (Below w.heap.size w w4) := B3.out.trans (b4.mono B3.out.size)
  clear b4 B3
  go_wp2_with (go_at_call 27; refine (k27 _).mono ?_)
  rintro e w5 ⟨rfl, b5⟩
  have B5 : Hid (Below w.heap.size w w5) := B4.out.trans (b5.mono B4.out.size)
  clear b5 B4
  go_wp2_with (go_at_call 26; refine (k26f _).mono ?_)
  rintro e w6 ⟨rfl, b6⟩
  have B6 : Hid (Below w.heap.size w w6) := B5.out.trans (b6.mono B5.out.size)
  clear b6 B5
  go_wp2_with (go_at_call 24; refine (k24d _).mono ?_)
  rintro e w7 ⟨rfl, b7⟩
  have B7 : Hid (Below w.heap.size w w7) := B6.out.trans (b7.mono B6.out.size)
  clear b7 B6
  go_wp2_with (go_at_call 28; refine (k28 _).mono ?_)
  rintro e w8 ⟨rfl, b8⟩
  have B8 : Hid (Below w.heap.size w w8) := B7.out.trans (b8.mono B7.out.size)
  clear b8 B7
  go_wp2_with (go_at_call 29; refine (ka _).mono ?_)
  rintro e w9 ⟨rfl, rfl⟩
  go_wp2_with (go_at_call 29; refine (kb _).mono ?_)
  rintro e w9 ⟨rfl, rfl⟩
  go_wp2
  first
  | (go_ret; exact ⟨rfl, B8.out⟩)
  | (go_ret; exact ⟨by simp, B8.out⟩)
  | (trace_state; sorry)
theorem law_steps (a b : Nat) (w : World) (ha : a < 18446744073709551616) (hb : b < 18446744073709551616) : Calls Try.prog 5 #[.int .u64 (a : Int), .int .u64 (b : Int)] w fun e w' => e = .returned (.bool true) ∧ Below w.heap.size w w' := by
  have hf := flip_lt ha
  have hv := up_lt hf
  have hd := flip_lt hv
  have hu := up_lt ha
  have pa := plc_in a ha
  have pb := plc_in b hb
  have na := nan_order a
  have nb := nan_order b
  have ka := fun w => nan_any a w
  have kb := fun w => nan_any b w
  have x1 := flip_is a ha
  have x2 := flip_is (upB (flipB a)) hv
  have k25 := fun w => up_any a w ha
  have k26 := fun w => rup_any a w ha
  have k24 := fun w => is_same (upB a) hu w
  have k27 := fun w => down_any a w ha
  have k26f := fun w => rup_any (flipB a) w hf
  have k24d := fun w => is_same (flipB (upB (flipB a))) hd w
  cases xa : nan64 a
  · rw [xa] at na ka
    cases xb : nan64 b
    · rw [xb] at nb kb
      have la := fun w => codeplace_any a w ha
      have lb := fun w => codeplace_any b w hb
      have ma := fun w => place_any a w ha
      have mb := fun w => place_any b w hb
      by_cases c : plc64 a ≤ plc64 b
      · exact steps_c a b _ _ _ _ _ _ w x1 x2 na nb k25 k26 k24 k27 k26f k24d (fun w => steps_le a b _ _ w pa.1 pa.2 pb.1 pb.2 ka kb la lb c) ma mb pa.1 pa.2 pb.1 pb.2 c
      · exact steps_d a b _ _ _ _ _ _ w x1 x2 na nb k25 k26 k24 k27 k26f k24d (fun w => steps_gt a b _ _ w pa.1 pa.2 pb.1 pb.2 ka kb la lb (by omega)) ma mb pa.1 pa.2 pb.1 pb.2 (by omega)
    · rw [xb] at nb kb
      exact steps_b a b _ _ _ _ w x1 x2 na nb k25 k26 k24 k27 k26f k24d (fun w => steps_nan2 a b w ka kb)
  · rw [xa] at na ka
    exact steps_a a b _ _ _ _ _ w x1 x2 na nb k25 k26 k24 k27 k26f k24d (fun w => steps_nan1 a b _ w ka kb)
end Go.Proofs.Ytjcjecbffnadaaa
