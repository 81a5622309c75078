/-
  The contracts of Down, Steps and place, of the document's Up, and of the statements' comparison of a float with bits. Condition: the bits fit 64 bits.
-/
import Derived.Test.YtjcjecbffnadaaaKs
import Derived.Test.YtjcjecbffnadaaaRp
namespace Go.Proofs.Ytjcjecbffnadaaa
open Go.RowKit
/-- The bits with the sign turned. -/
def flipB (v : Nat) : Nat := if v < 9223372036854775808 then v + 9223372036854775808 else v - 9223372036854775808
theorem xor_low {v : Nat} (h : v < 9223372036854775808) : v ^^^ 9223372036854775808 = v + 9223372036854775808 := by
  have h0 : v + 9223372036854775808 = v ||| 2 ^ 63 := (or_high (n := 63) (by omega)).symm
  have e : (9223372036854775808 : Nat) = 2 ^ 63 := by decide
  rw [h0]
  apply Nat.eq_of_testBit_eq
  intro j
  rw [Nat.testBit_xor, Nat.testBit_or, e, Nat.testBit_two_pow]
  by_cases hj : 63 = j
  · subst hj
    have : v.testBit 63 = false := Nat.testBit_lt_two_pow (by omega)
    simp [this]
  · simp [hj]
theorem flip_is (v : Nat) (h : v < 18446744073709551616) : bits .xor .u64 (v : Int) 9223372036854775808 = (flipB v : Nat) := by
  have h1 := u64_xor_nat v 9223372036854775808 h (by decide)
  refine h1.trans (congrArg Int.ofNat ?_)
  unfold flipB
  split
  · rename_i hl; exact xor_low hl
  · obtain ⟨u, hu⟩ : ∃ u, v = u + 9223372036854775808 := ⟨v - 9223372036854775808, by omega⟩
    have hl : u < 9223372036854775808 := by omega
    rw [hu, ← xor_low hl, Nat.xor_assoc, Nat.xor_self, Nat.xor_zero, xor_low hl]
    omega
theorem flip_lt {v : Nat} (h : v < 18446744073709551616) : flipB v < 18446744073709551616 := by unfold flipB; split <;> omega
theorem up_lt {v : Nat} (h : v < 18446744073709551616) : upB v < 18446744073709551616 := by
  unfold upB
  have hn := nan64_is h
  split
  · exact h
  · split
    · exact h
    · split
      · decide
      · split
        · omega
        · omega
set_option maxHeartbeats 1000000 in
theorem turned_any (b : Nat) (w : World) (hb : b < 18446744073709551616) : Calls Try.prog 47 #[.float .f64 b] w fun e w' => e = .returned (.float .f64 (flipB b)) ∧ Below w.heap.size w w' := by
  have x20 := ext20
  have x10 := ext10
  have k41 := k41l
  have k56 := k56l
  unfold k41L at k41
  unfold k56L at k56
  have hf := flip_is b hb
  generalize flipB b = f at *
  go_enter Try.func47, Try.ntmps47
  go_wp2_with (go_at_call 41; refine (k41 _).mono ?_)
  rintro e w1 ⟨rfl, b1⟩
  go_wp2_with (go_at_call 56; refine (k56 _).mono ?_)
  rintro e w2 ⟨rfl, b2⟩
  have B2 : Hid (Below w.heap.size w w2) := b1.trans (b2.mono b1.size)
  clear b1 b2
  go_wp2
  go_ret
  exact ⟨rfl, B2.out⟩
set_option maxHeartbeats 1000000 in
theorem down_any (b : Nat) (w : World) (hb : b < 18446744073709551616) : Calls Try.prog 27 #[.float .f64 b] w fun e w' => e = .returned (.float .f64 (flipB (upB (flipB b)))) ∧ Below w.heap.size w w' := by
  have k1 := fun w => turned_any b w hb
  have k2 := fun w => up_any (flipB b) w (flip_lt hb)
  have k3 := fun w => turned_any (upB (flipB b)) w (up_lt (flip_lt hb))
  generalize flipB (upB (flipB b)) = z at *
  generalize upB (flipB b) = y at *
  generalize flipB b = x at *
  go_enter Try.func27, Try.ntmps27
  go_wp2_with (go_at_call 47; refine (k1 _).mono ?_)
  rintro e w1 ⟨rfl, b1⟩
  go_wp2_with (go_at_call 25; refine (k2 _).mono ?_)
  rintro e w2 ⟨rfl, rfl⟩
  go_wp2_with (go_at_call 47; refine (k3 _).mono ?_)
  rintro e w3 ⟨rfl, b3⟩
  have B3 : Hid (Below w.heap.size w w3) := b1.trans (b3.mono b1.size)
  clear b1 b3
  go_wp2
  go_ret
  exact ⟨rfl, B3.out⟩
theorem andNot_top (b : Nat) (h1 : ¬ b < 9223372036854775808) (hb : b < 18446744073709551616) : bits .andNot .u64 (b : Int) 9223372036854775808 = (b : Int) - 9223372036854775808 := by
  have h := u64_andNot_nat b 9223372036854775808 hb (by decide)
  have h2 := andNot_bit b 63 (by decide) (by omega)
  rw [show (2 : Nat) ^ 63 = 9223372036854775808 from by decide] at h2
  rw [h2] at h
  refine h.trans ?_
  omega
set_option maxHeartbeats 1000000 in
theorem codeplace_any (b : Nat) (w : World) (hb : b < 18446744073709551616) : Calls Try.prog 48 #[.float .f64 b] w fun e w' => e = .returned (.int .i64 (plc64 b)) ∧ Below w.heap.size w w' := by
  have x20 := ext20
  have k41 := k41l
  have k56 := k56l
  unfold k41L at k41
  unfold k56L at k56
  have ha := and_top b hb
  unfold plc64
  by_cases h : b < 9223372036854775808
  · rw [if_pos h] at ha ⊢
    go_enter Try.func48, Try.ntmps48
    go_wp2_with (go_at_call 41; refine (k41 _).mono ?_)
    rintro e w1 ⟨rfl, b1⟩
    go_wp2_with (go_at_call 56; refine (k56 _).mono ?_)
    rintro e w2 ⟨rfl, b2⟩
    have B2 : Hid (Below w.heap.size w w2) := b1.trans (b2.mono b1.size)
    clear b1 b2
    go_wp2
    go_ret
    exact ⟨rfl, B2.out⟩
  · rw [if_neg h] at ha ⊢
    have hn := andNot_top b h hb
    go_enter Try.func48, Try.ntmps48
    go_wp2_with (go_at_call 41; refine (k41 _).mono ?_)
    rintro e w1 ⟨rfl, b1⟩
    go_wp2_with (go_at_call 56; refine (k56 _).mono ?_)
    rintro e w2 ⟨rfl, b2⟩
    have B2 : Hid (Below w.heap.size w w2) := b1.trans (b2.mono b1.size)
    clear b1 b2
    go_wp2
    go_ret
    exact ⟨rfl, B2.out⟩
/-- The kind and the sign of the bits of a float of 64 bits. -/
theorem kind64 (b : Nat) (hb : b < 18446744073709551616) : (pt 52 11 1023 b).kind = (if nan64 b then 4 else if b % 9223372036854775808 = 9218868437227405312 then 3 else if b % 9223372036854775808 = 0 then 0 else if b % 9223372036854775808 < 4503599627370496 then 1 else 2) ∧ (pt 52 11 1023 b).neg = decide (9223372036854775808 ≤ b) := by
  have e1 : (2 : Nat) ^ 52 = 4503599627370496 := by decide
  have e2 : (2 : Nat) ^ 11 = 2048 := by decide
  have e3 : (2 : Nat) ^ (52 + 11) = 9223372036854775808 := by decide
  have hn := nan64_is hb
  constructor
  · unfold pt
    rw [e1, e2]
    by_cases c1 : b / 4503599627370496 % 2048 = 2048 - 1
    · rw [if_pos c1]
      by_cases c2 : b % 4503599627370496 = 0
      · have hn' : nan64 b = false := by rw [hn]; exact decide_eq_false (by omega)
        rw [if_pos c2, hn', if_neg (by simp), if_pos (by omega)]
      · have hn' : nan64 b = true := by rw [hn]; exact decide_eq_true (by omega)
        rw [if_neg c2, hn', if_pos rfl]
    · have hn' : nan64 b = false := by rw [hn]; exact decide_eq_false (by omega)
      have c4 : ¬ b % 9223372036854775808 = 9218868437227405312 := by omega
      rw [if_neg c1, hn', if_neg (by simp : ¬ (false = true)), if_neg c4]
      by_cases c3 : b / 4503599627370496 % 2048 = 0
      · rw [if_pos c3]
        by_cases c2 : b % 4503599627370496 = 0
        · rw [if_pos c2, if_pos (by omega)]
        · rw [if_neg c2, if_neg (by omega), if_pos (by omega)]
      · rw [if_neg c3, if_neg (by omega), if_neg (by omega)]
  · rw [neg_pt, sg, e3]
    congr 1
    apply propext
    omega
def k16L : Prop := ∀ w, Calls Try.prog 16 #[] w fun e w' => e = .returned (.agg #[.int .i64 52, .int .i64 2047, .int .i64 1023]) ∧ Below w.heap.size w w'
theorem k16l : k16L := size64_any
theorem k15l (b : Nat) (hb : b < 18446744073709551616) (w : World) : Calls Try.prog 15 #[.int .u64 (b : Int), .agg #[.int .i64 52, .int .i64 2047, .int .i64 1023]] w fun e w' => e = .returned (pt 52 11 1023 b).val ∧ Below w.heap.size w w' := rparts_any lay64 b w hb
set_option maxHeartbeats 1000000 in
theorem rup_none (b : Nat) (X : Int) (ng : Bool) (qu : Bool) (M LD : Nat) (w : World) 
    (k15 : ∀ w, Calls Try.prog 15 #[.int .u64 (b : Int), .agg #[.int .i64 52, .int .i64 2047, .int .i64 1023]] w fun e w' => e = .returned (.agg #[.int .i64 4, .bool ng, .int .u64 (M : Int), .int .i64 X, .bool qu, .int .u64 (LD : Int)]) ∧ Below w.heap.size w w') :
    Calls Try.prog 26 #[.int .u64 (b : Int)] w fun e w' => e = .returned (.int .u64 ((b : Int))) ∧ Below w.heap.size w w' := by
  have k16 := k16l
  unfold k16L at k16
  go_enter Try.func26, Try.ntmps26
  go_wp2_with (go_at_call 16; refine (k16 _).mono ?_)
  rintro e w1 ⟨rfl, b1⟩
  go_wp2_with (go_at_call 15; refine (k15 _).mono ?_)
  rintro e w2 ⟨rfl, b2⟩
  have B2 : Hid (Below w.heap.size w w2) := b1.trans (b2.mono b1.size)
  clear b1 b2
  go_wp2
  go_ret
  exact ⟨rfl, B2.out.alloc B2.out.size _⟩
set_option maxHeartbeats 1000000 in
theorem rup_inf (b : Nat) (X : Int) (qu : Bool) (M LD : Nat) (w : World) 
    (k15 : ∀ w, Calls Try.prog 15 #[.int .u64 (b : Int), .agg #[.int .i64 52, .int .i64 2047, .int .i64 1023]] w fun e w' => e = .returned (.agg #[.int .i64 3, .bool false, .int .u64 (M : Int), .int .i64 X, .bool qu, .int .u64 (LD : Int)]) ∧ Below w.heap.size w w') :
    Calls Try.prog 26 #[.int .u64 (b : Int)] w fun e w' => e = .returned (.int .u64 ((b : Int))) ∧ Below w.heap.size w w' := by
  have k16 := k16l
  unfold k16L at k16
  go_enter Try.func26, Try.ntmps26
  go_wp2_with (go_at_call 16; refine (k16 _).mono ?_)
  rintro e w1 ⟨rfl, b1⟩
  go_wp2_with (go_at_call 15; refine (k15 _).mono ?_)
  rintro e w2 ⟨rfl, b2⟩
  have B2 : Hid (Below w.heap.size w w2) := b1.trans (b2.mono b1.size)
  clear b1 b2
  go_wp2
  go_ret
  exact ⟨rfl, B2.out.alloc B2.out.size _⟩
set_option maxHeartbeats 1000000 in
theorem rup_zero (b : Nat) (X : Int) (ng : Bool) (qu : Bool) (M LD : Nat) (w : World) 
    (k15 : ∀ w, Calls Try.prog 15 #[.int .u64 (b : Int), .agg #[.int .i64 52, .int .i64 2047, .int .i64 1023]] w fun e w' => e = .returned (.agg #[.int .i64 0, .bool ng, .int .u64 (M : Int), .int .i64 X, .bool qu, .int .u64 (LD : Int)]) ∧ Below w.heap.size w w') :
    Calls Try.prog 26 #[.int .u64 (b : Int)] w fun e w' => e = .returned (.int .u64 (1)) ∧ Below w.heap.size w w' := by
  have k16 := k16l
  unfold k16L at k16
  go_enter Try.func26, Try.ntmps26
  go_wp2_with (go_at_call 16; refine (k16 _).mono ?_)
  rintro e w1 ⟨rfl, b1⟩
  go_wp2_with (go_at_call 15; refine (k15 _).mono ?_)
  rintro e w2 ⟨rfl, b2⟩
  have B2 : Hid (Below w.heap.size w w2) := b1.trans (b2.mono b1.size)
  clear b1 b2
  go_wp2
  go_ret
  exact ⟨rfl, B2.out.alloc B2.out.size _⟩
set_option maxHeartbeats 1000000 in
theorem rup_neg3 (b : Nat) (X : Int) (qu : Bool) (M LD : Nat) (w : World) (h0 : (1 : Int) ≤ b) (h1 : (b : Int) < 18446744073709551616)
    (k15 : ∀ w, Calls Try.prog 15 #[.int .u64 (b : Int), .agg #[.int .i64 52, .int .i64 2047, .int .i64 1023]] w fun e w' => e = .returned (.agg #[.int .i64 3, .bool true, .int .u64 (M : Int), .int .i64 X, .bool qu, .int .u64 (LD : Int)]) ∧ Below w.heap.size w w') :
    Calls Try.prog 26 #[.int .u64 (b : Int)] w fun e w' => e = .returned (.int .u64 ((b : Int) - 1)) ∧ Below w.heap.size w w' := by
  have k16 := k16l
  unfold k16L at k16
  go_enter Try.func26, Try.ntmps26
  go_wp2_with (go_at_call 16; refine (k16 _).mono ?_)
  rintro e w1 ⟨rfl, b1⟩
  go_wp2_with (go_at_call 15; refine (k15 _).mono ?_)
  rintro e w2 ⟨rfl, b2⟩
  have B2 : Hid (Below w.heap.size w w2) := b1.trans (b2.mono b1.size)
  clear b1 b2
  go_wp2
  go_ret
  exact ⟨rfl, B2.out.alloc B2.out.size _⟩
set_option maxHeartbeats 1000000 in
theorem rup_neg_1 (b : Nat) (X : Int) (qu : Bool) (M LD : Nat) (w : World) (h0 : (1 : Int) ≤ b) (h1 : (b : Int) < 18446744073709551616)
    (k15 : ∀ w, Calls Try.prog 15 #[.int .u64 (b : Int), .agg #[.int .i64 52, .int .i64 2047, .int .i64 1023]] w fun e w' => e = .returned (.agg #[.int .i64 1, .bool true, .int .u64 (M : Int), .int .i64 X, .bool qu, .int .u64 (LD : Int)]) ∧ Below w.heap.size w w') :
    Calls Try.prog 26 #[.int .u64 (b : Int)] w fun e w' => e = .returned (.int .u64 ((b : Int) - 1)) ∧ Below w.heap.size w w' := by
  have k16 := k16l
  unfold k16L at k16
  go_enter Try.func26, Try.ntmps26
  go_wp2_with (go_at_call 16; refine (k16 _).mono ?_)
  rintro e w1 ⟨rfl, b1⟩
  go_wp2_with (go_at_call 15; refine (k15 _).mono ?_)
  rintro e w2 ⟨rfl, b2⟩
  have B2 : Hid (Below w.heap.size w w2) := b1.trans (b2.mono b1.size)
  clear b1 b2
  go_wp2
  go_ret
  exact ⟨rfl, B2.out.alloc B2.out.size _⟩
set_option maxHeartbeats 1000000 in
theorem rup_pos_1 (b : Nat) (X : Int) (qu : Bool) (M LD : Nat) (w : World) (h1 : (b : Int) + 1 < 18446744073709551616)
    (k15 : ∀ w, Calls Try.prog 15 #[.int .u64 (b : Int), .agg #[.int .i64 52, .int .i64 2047, .int .i64 1023]] w fun e w' => e = .returned (.agg #[.int .i64 1, .bool false, .int .u64 (M : Int), .int .i64 X, .bool qu, .int .u64 (LD : Int)]) ∧ Below w.heap.size w w') :
    Calls Try.prog 26 #[.int .u64 (b : Int)] w fun e w' => e = .returned (.int .u64 ((b : Int) + 1)) ∧ Below w.heap.size w w' := by
  have k16 := k16l
  unfold k16L at k16
  go_enter Try.func26, Try.ntmps26
  go_wp2_with (go_at_call 16; refine (k16 _).mono ?_)
  rintro e w1 ⟨rfl, b1⟩
  go_wp2_with (go_at_call 15; refine (k15 _).mono ?_)
  rintro e w2 ⟨rfl, b2⟩
  have B2 : Hid (Below w.heap.size w w2) := b1.trans (b2.mono b1.size)
  clear b1 b2
  go_wp2
  go_ret
  exact ⟨rfl, B2.out.alloc B2.out.size _⟩
set_option maxHeartbeats 1000000 in
theorem rup_neg_2 (b : Nat) (X : Int) (qu : Bool) (M LD : Nat) (w : World) (h0 : (1 : Int) ≤ b) (h1 : (b : Int) < 18446744073709551616)
    (k15 : ∀ w, Calls Try.prog 15 #[.int .u64 (b : Int), .agg #[.int .i64 52, .int .i64 2047, .int .i64 1023]] w fun e w' => e = .returned (.agg #[.int .i64 2, .bool true, .int .u64 (M : Int), .int .i64 X, .bool qu, .int .u64 (LD : Int)]) ∧ Below w.heap.size w w') :
    Calls Try.prog 26 #[.int .u64 (b : Int)] w fun e w' => e = .returned (.int .u64 ((b : Int) - 1)) ∧ Below w.heap.size w w' := by
  have k16 := k16l
  unfold k16L at k16
  go_enter Try.func26, Try.ntmps26
  go_wp2_with (go_at_call 16; refine (k16 _).mono ?_)
  rintro e w1 ⟨rfl, b1⟩
  go_wp2_with (go_at_call 15; refine (k15 _).mono ?_)
  rintro e w2 ⟨rfl, b2⟩
  have B2 : Hid (Below w.heap.size w w2) := b1.trans (b2.mono b1.size)
  clear b1 b2
  go_wp2
  go_ret
  exact ⟨rfl, B2.out.alloc B2.out.size _⟩
set_option maxHeartbeats 1000000 in
theorem rup_pos_2 (b : Nat) (X : Int) (qu : Bool) (M LD : Nat) (w : World) (h1 : (b : Int) + 1 < 18446744073709551616)
    (k15 : ∀ w, Calls Try.prog 15 #[.int .u64 (b : Int), .agg #[.int .i64 52, .int .i64 2047, .int .i64 1023]] w fun e w' => e = .returned (.agg #[.int .i64 2, .bool false, .int .u64 (M : Int), .int .i64 X, .bool qu, .int .u64 (LD : Int)]) ∧ Below w.heap.size w w') :
    Calls Try.prog 26 #[.int .u64 (b : Int)] w fun e w' => e = .returned (.int .u64 ((b : Int) + 1)) ∧ Below w.heap.size w w' := by
  have k16 := k16l
  unfold k16L at k16
  go_enter Try.func26, Try.ntmps26
  go_wp2_with (go_at_call 16; refine (k16 _).mono ?_)
  rintro e w1 ⟨rfl, b1⟩
  go_wp2_with (go_at_call 15; refine (k15 _).mono ?_)
  rintro e w2 ⟨rfl, b2⟩
  have B2 : Hid (Below w.heap.size w w2) := b1.trans (b2.mono b1.size)
  clear b1 b2
  go_wp2
  go_ret
  exact ⟨rfl, B2.out.alloc B2.out.size _⟩
theorem rup_any (b : Nat) (w : World) (hb : b < 18446744073709551616) : Calls Try.prog 26 #[.int .u64 (b : Int)] w fun e w' => e = .returned (.int .u64 (upB b : Nat)) ∧ Below w.heap.size w w' := by
  have k15 := k15l b hb
  obtain ⟨hk, hs⟩ := kind64 b hb
  have hn := nan64_is hb
  unfold Pt.val at k15
  rw [hk, hs] at k15
  unfold upB
  cases hc : nan64 b
  · rw [hc] at hn k15
    have hm := of_decide_eq_false hn.symm
    simp only [Bool.false_eq_true, if_false] at k15 ⊢
    by_cases c1 : b % 9223372036854775808 = 9218868437227405312
    · rw [if_pos c1] at k15
      by_cases c2 : b < 9223372036854775808
      · rw [decide_eq_false (by omega : ¬ 9223372036854775808 ≤ b)] at k15
        rw [if_pos (by omega : b = 9218868437227405312)]
        exact rup_inf b _ _ _ _ w k15
      · rw [decide_eq_true (by omega : 9223372036854775808 ≤ b)] at k15
        rw [if_neg (by omega), if_neg (by omega), if_pos (by omega)]
        have key := rup_neg3 b _ _ _ _ w (by omega) (by omega) k15
        have e : (b : Int) - 1 = ((b - 1 : Nat) : Int) := by omega
        rw [e] at key
        exact key
    · rw [if_neg c1] at k15
      by_cases c3 : b % 9223372036854775808 = 0
      · rw [if_pos c3] at k15
        rw [if_neg (by omega), if_pos (by omega)]
        exact rup_zero b _ _ _ _ _ w k15
      · rw [if_neg c3] at k15
        have e5 : (if b % 9223372036854775808 < 4503599627370496 then (1 : Int) else 2) = 1 ∨ (if b % 9223372036854775808 < 4503599627370496 then (1 : Int) else 2) = 2 := by split <;> simp
        generalize (if b % 9223372036854775808 < 4503599627370496 then (1 : Int) else 2) = kd at k15 e5
        by_cases c2 : b < 9223372036854775808
        · rw [decide_eq_false (by omega : ¬ 9223372036854775808 ≤ b)] at k15
          rw [if_neg (by omega), if_neg (by omega), if_neg (by omega)]
          have e : (b : Int) + 1 = ((b + 1 : Nat) : Int) := by omega
          rcases e5 with rfl | rfl
          · have key := rup_pos_1 b _ _ _ _ w (by omega) k15
            rw [e] at key
            exact key
          · have key := rup_pos_2 b _ _ _ _ w (by omega) k15
            rw [e] at key
            exact key
        · rw [decide_eq_true (by omega : 9223372036854775808 ≤ b)] at k15
          rw [if_neg (by omega), if_neg (by omega), if_pos (by omega)]
          have e : (b : Int) - 1 = ((b - 1 : Nat) : Int) := by omega
          rcases e5 with rfl | rfl
          · have key := rup_neg_1 b _ _ _ _ w (by omega) (by omega) k15
            rw [e] at key
            exact key
          · have key := rup_neg_2 b _ _ _ _ w (by omega) (by omega) k15
            rw [e] at key
            exact key
  · rw [hc] at k15
    rw [if_pos rfl] at k15 ⊢
    exact rup_none b _ _ _ _ _ w k15
theorem ne4 (p q r : Prop) [Decidable p] [Decidable q] [Decidable r] : ¬ (if p then (3 : Int) else if q then 0 else if r then 1 else 2) = 4 := by
  by_cases hp : p <;> by_cases hq : q <;> by_cases hr : r <;> simp [hp, hq, hr]
set_option maxHeartbeats 1000000 in
theorem is_by (v b : Nat) (kd X : Int) (ng qu nv : Bool) (M LD : Nat) (w : World) (hv : (FloatKind.f64.format.order v v != some .eq) = nv)
    (k15 : ∀ w, Calls Try.prog 15 #[.int .u64 (b : Int), .agg #[.int .i64 52, .int .i64 2047, .int .i64 1023]] w fun e w' => e = .returned (.agg #[.int .i64 kd, .bool ng, .int .u64 (M : Int), .int .i64 X, .bool qu, .int .u64 (LD : Int)]) ∧ Below w.heap.size w w') :
    Calls Try.prog 24 #[.float .f64 v, .int .u64 (b : Int)] w fun e w' => e = .returned (.bool (if kd = 4 then nv else decide (v = b))) ∧ Below w.heap.size w w' := by
  have k16 := k16l
  unfold k16L at k16
  have x20 := ext20
  have he : ((v : Int) == (b : Int)) = decide (v = b) := by
    rw [Bool.eq_iff_iff]; simp; omega
  have fl : ∀ w, (Instr.field 34 (.agg #[.int .i64 kd, .bool ng, .int .u64 (M : Int), .int .i64 X, .bool qu, .int .u64 (LD : Int)]) 0).run Try.prog w = .ok (.int .i64 kd) w := fun _ => by kernel_rfl
  by_cases h : kd = 4
  · subst h
    rw [if_pos rfl]
    go_enter Try.func24, Try.ntmps24
    go_wp2_with (go_at_call 16; refine (k16 _).mono ?_)
    rintro e w1 ⟨rfl, b1⟩
    go_wp2_with (go_at_call 15; refine (k15 _).mono ?_)
    rintro e w2 ⟨rfl, b2⟩
    have B2 : Hid (Below w.heap.size w w2) := b1.trans (b2.mono b1.size)
    clear b1 b2
    go_wp2
    go_ret
    exact ⟨rfl, B2.out⟩
  · rw [if_neg h]
    go_enter Try.func24, Try.ntmps24
    go_wp2_with (go_at_call 16; refine (k16 _).mono ?_)
    rintro e w1 ⟨rfl, b1⟩
    go_wp2_with (go_at_call 15; refine (k15 _).mono ?_)
    rintro e w2 ⟨rfl, b2⟩
    have B2 : Hid (Below w.heap.size w w2) := b1.trans (b2.mono b1.size)
    clear b1 b2
    go_wp2
    go_ret
    exact ⟨rfl, B2.out⟩
theorem is_same (v : Nat) (hv : v < 18446744073709551616) (w : World) : Calls Try.prog 24 #[.float .f64 v, .int .u64 (v : Int)] w fun e w' => e = .returned (.bool true) ∧ Below w.heap.size w w' := by
  have key := is_by v v _ _ _ _ _ _ _ w (nan_order v) (k15l v hv)
  have e : (if (pt 52 11 1023 v).kind = 4 then nan64 v else decide (v = v)) = true := by
    obtain ⟨hk, _⟩ := kind64 v hv
    cases hn : nan64 v
    · rw [hn] at hk
      simp only [Bool.false_eq_true, if_false] at hk
      rw [if_neg (by rw [hk]; exact ne4 _ _ _)]
      simp
    · simp
  rw [e] at key
  exact key
set_option maxHeartbeats 1000000 in
theorem steps_nan1 (a b : Nat) (nb : Bool) (w : World) (ka : ∀ w, Calls Try.prog 46 #[.float .f64 a] w fun e w' => e = .returned (.bool true) ∧ w' = w) (_kb : ∀ w, Calls Try.prog 46 #[.float .f64 b] w fun e w' => e = .returned (.bool nb) ∧ w' = w)
    : Calls Try.prog 28 #[.float .f64 a, .float .f64 b] w fun e w' => e = .returned (.tuple #[.int .u64 0, .bool false]) ∧ Below w.heap.size w w' := by
  go_enter Try.func28, Try.ntmps28
  go_wp2_with (go_at_call 46; refine (ka _).mono ?_)
  rintro e w1 ⟨rfl, rfl⟩
  go_wp2
  refine bodyPost_ret (v := .tuple #[.int .u64 0, .bool false]) (by simp [results, Try.results28, go_sem]) rfl ⟨rfl, Below.refl _ _⟩
set_option maxHeartbeats 1000000 in
theorem steps_nan2 (a b : Nat) (w : World) (ka : ∀ w, Calls Try.prog 46 #[.float .f64 a] w fun e w' => e = .returned (.bool false) ∧ w' = w) (kb : ∀ w, Calls Try.prog 46 #[.float .f64 b] w fun e w' => e = .returned (.bool true) ∧ w' = w)
    : Calls Try.prog 28 #[.float .f64 a, .float .f64 b] w fun e w' => e = .returned (.tuple #[.int .u64 0, .bool false]) ∧ Below w.heap.size w w' := by
  go_enter Try.func28, Try.ntmps28
  go_wp2_with (go_at_call 46; refine (ka _).mono ?_)
  rintro e w1 ⟨rfl, rfl⟩
  go_wp2_with (go_at_call 46; refine (kb _).mono ?_)
  rintro e w1 ⟨rfl, rfl⟩
  go_wp2
  refine bodyPost_ret (v := .tuple #[.int .u64 0, .bool false]) (by simp [results, Try.results28, go_sem]) rfl ⟨rfl, Below.refl _ _⟩
set_option maxHeartbeats 1000000 in
theorem steps_le (a b : Nat) (P Q : Int) (w : World) (p1 : -9223372036854775808 < P) (p2 : P < 9223372036854775808) (q1 : -9223372036854775808 < Q) (q2 : Q < 9223372036854775808)
    (ka : ∀ w, Calls Try.prog 46 #[.float .f64 a] w fun e w' => e = .returned (.bool false) ∧ w' = w) (kb : ∀ w, Calls Try.prog 46 #[.float .f64 b] w fun e w' => e = .returned (.bool false) ∧ w' = w)
    (la : ∀ w, Calls Try.prog 48 #[.float .f64 a] w fun e w' => e = .returned (.int .i64 P) ∧ Below w.heap.size w w') (lb : ∀ w, Calls Try.prog 48 #[.float .f64 b] w fun e w' => e = .returned (.int .i64 Q) ∧ Below w.heap.size w w') (h : P ≤ Q) :
    Calls Try.prog 28 #[.float .f64 a, .float .f64 b] w fun e w' => e = .returned (.tuple #[.int .u64 (Q - P), .bool true]) ∧ Below w.heap.size w w' := by
  have m1 : max P Q = Q := by omega
  have m2 : min P Q = P := by omega
  have hw : IntKind.u64.wrap (IntKind.u64.wrap Q - IntKind.u64.wrap P) = Q - P := by
    simp [IntKind.wrap, IntKind.bits, IntKind.signed]; omega
  go_enter Try.func28, Try.ntmps28
  go_wp2_with (go_at_call 46; refine (ka _).mono ?_)
  rintro e w1 ⟨rfl, rfl⟩
  go_wp2_with (go_at_call 46; refine (kb _).mono ?_)
  rintro e w1 ⟨rfl, rfl⟩
  go_wp2_with (go_at_call 48; refine (la _).mono ?_)
  rintro e w2 ⟨rfl, b2⟩
  go_wp2_with (go_at_call 48; refine (lb _).mono ?_)
  rintro e w3 ⟨rfl, b3⟩
  have B3 : Hid (Below _ _ w3) := b2.trans (b3.mono b2.size)
  clear b2 b3
  go_wp2
  first
  | (refine bodyPost_ret (v := .tuple #[.int .u64 (Q - P), .bool true]) (by simp [results, Try.results28, go_sem]) rfl ⟨rfl, B3.out⟩; done)
  | (trace_state; sorry)
set_option maxHeartbeats 1000000 in
theorem steps_gt (a b : Nat) (P Q : Int) (w : World) (p1 : -9223372036854775808 < P) (p2 : P < 9223372036854775808) (q1 : -9223372036854775808 < Q) (q2 : Q < 9223372036854775808)
    (ka : ∀ w, Calls Try.prog 46 #[.float .f64 a] w fun e w' => e = .returned (.bool false) ∧ w' = w) (kb : ∀ w, Calls Try.prog 46 #[.float .f64 b] w fun e w' => e = .returned (.bool false) ∧ w' = w)
    (la : ∀ w, Calls Try.prog 48 #[.float .f64 a] w fun e w' => e = .returned (.int .i64 P) ∧ Below w.heap.size w w') (lb : ∀ w, Calls Try.prog 48 #[.float .f64 b] w fun e w' => e = .returned (.int .i64 Q) ∧ Below w.heap.size w w') (h : Q < P) :
    Calls Try.prog 28 #[.float .f64 a, .float .f64 b] w fun e w' => e = .returned (.tuple #[.int .u64 (P - Q), .bool true]) ∧ Below w.heap.size w w' := by
  have m1 : max P Q = P := by omega
  have m2 : min P Q = Q := by omega
  have hw : IntKind.u64.wrap (IntKind.u64.wrap P - IntKind.u64.wrap Q) = P - Q := by
    simp [IntKind.wrap, IntKind.bits, IntKind.signed]; omega
  go_enter Try.func28, Try.ntmps28
  go_wp2_with (go_at_call 46; refine (ka _).mono ?_)
  rintro e w1 ⟨rfl, rfl⟩
  go_wp2_with (go_at_call 46; refine (kb _).mono ?_)
  rintro e w1 ⟨rfl, rfl⟩
  go_wp2_with (go_at_call 48; refine (la _).mono ?_)
  rintro e w2 ⟨rfl, b2⟩
  go_wp2_with (go_at_call 48; refine (lb _).mono ?_)
  rintro e w3 ⟨rfl, b3⟩
  have B3 : Hid (Below _ _ w3) := b2.trans (b3.mono b2.size)
  clear b2 b3
  go_wp2
  first
  | (refine bodyPost_ret (v := .tuple #[.int .u64 (P - Q), .bool true]) (by simp [results, Try.results28, go_sem]) rfl ⟨rfl, B3.out⟩; done)
  | (trace_state; sorry)
theorem plc_in (b : Nat) (hb : b < 18446744073709551616) : -9223372036854775808 < plc64 b ∧ plc64 b < 9223372036854775808 := by
  unfold plc64; split <;> omega
end Go.Proofs.Ytjcjecbffnadaaa
