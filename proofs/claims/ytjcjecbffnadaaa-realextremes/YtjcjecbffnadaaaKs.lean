/-
  The contracts of the total order: the document's key and place, rank, Compare, Order, Same. Condition: the bits fit 64 bits.
-/
import Derived.Test.YtjcjecbffnadaaaUp
import Derived.Test.YtjcjecbffnadaaaSg
namespace Go.Proofs.Ytjcjecbffnadaaa
open Go.RowKit
/-- Where bits stand in the total order. -/
def key64 (b : Nat) : Int := if b < 9223372036854775808 then b else -((b : Int) - 9223372036854775808) - 1
theorem low63 (b : Nat) (hb : b < 18446744073709551616) : bits .and .u64 (b : Int) 9223372036854775807 = ((b % 9223372036854775808 : Nat) : Int) := by
  have h := u64_and_nat b 9223372036854775807 hb (by decide)
  have h2 := and_low b 63
  rw [show (2 : Nat) ^ 63 - 1 = 9223372036854775807 from by decide, show (2 : Nat) ^ 63 = 9223372036854775808 from by decide] at h2
  rw [h2] at h
  exact h
set_option maxHeartbeats 1000000 in
theorem key_any (b : Nat) (w : World) (hb : b < 18446744073709551616) : Calls Try.prog 30 #[.int .u64 (b : Int)] w fun e w' => e = .returned (.int .i64 (key64 b)) ∧ w' = w := by
  have hm := low63 b hb
  unfold key64
  by_cases h : b < 9223372036854775808
  · rw [if_pos h]
    have h1 : (b : Int) / 9223372036854775808 = 0 := by omega
    clear hm
    go_enter Try.func30, Try.ntmps30
    go_wp2
    go_ret
    exact ⟨rfl, rfl⟩
  · rw [if_neg h]
    have h1 : (b : Int) / 9223372036854775808 = 1 := by omega
    have h2 : ((b % 9223372036854775808 : Nat) : Int) = (b : Int) - 9223372036854775808 := by omega
    rw [h2] at hm
    clear h2
    go_enter Try.func30, Try.ntmps30
    go_wp2
    go_ret
    exact ⟨rfl, rfl⟩
set_option maxHeartbeats 1000000 in
theorem place_any (b : Nat) (w : World) (hb : b < 18446744073709551616) : Calls Try.prog 29 #[.int .u64 (b : Int)] w fun e w' => e = .returned (.int .i64 (plc64 b)) ∧ w' = w := by
  have hm := low63 b hb
  unfold plc64
  by_cases h : b < 9223372036854775808
  · rw [if_pos h]
    have h1 : (b : Int) / 9223372036854775808 = 0 := by omega
    clear hm
    go_enter Try.func29, Try.ntmps29
    go_wp2
    go_ret
    exact ⟨rfl, rfl⟩
  · rw [if_neg h]
    have h1 : (b : Int) / 9223372036854775808 = 1 := by omega
    have h2 : ((b % 9223372036854775808 : Nat) : Int) = (b : Int) - 9223372036854775808 := by omega
    rw [h2] at hm
    clear h2
    go_enter Try.func29, Try.ntmps29
    go_wp2
    go_ret
    exact ⟨rfl, rfl⟩
/-- The sign bit, as the program asks for it. -/
theorem and_top (b : Nat) (hb : b < 18446744073709551616) : bits .and .u64 (b : Int) 9223372036854775808 = if b < 9223372036854775808 then 0 else 9223372036854775808 := by
  have h := u64_and_nat b 9223372036854775808 hb (by decide)
  have h2 := nat_bit 63 b
  rw [show (2 : Nat) ^ 63 = 9223372036854775808 from by decide] at h2
  rw [h2] at h
  refine h.trans ?_
  split
  · have : b / 9223372036854775808 = 0 := by omega
    rw [this]; rfl
  · have : b / 9223372036854775808 = 1 := by omega
    rw [this]; rfl
theorem or_top (b : Nat) (hb : b < 9223372036854775808) : bits .or .u64 (b : Int) 9223372036854775808 = (b : Int) + 9223372036854775808 := by
  have h := u64_or_nat b 9223372036854775808 (by omega) (by decide)
  have h2 := or_high (n := 63) (x := b) (by omega)
  rw [show (2 : Nat) ^ 63 = 9223372036854775808 from by decide] at h2
  rw [h2] at h
  exact h
theorem not_is (b : Nat) (hb : b < 18446744073709551616) : bits .xor .u64 IntKind.u64.max (b : Int) = 18446744073709551615 - (b : Int) := by
  have h := u64_xor_nat 18446744073709551615 b (by decide) hb
  have h2 : 18446744073709551615 ^^^ b = 18446744073709551615 - b := by
    apply Nat.eq_of_testBit_eq
    intro j
    have e1 : (18446744073709551615 : Nat) = 2 ^ 64 - (0 + 1) := by decide
    have e2 : 18446744073709551615 - b = 2 ^ 64 - (b + 1) := by omega
    rw [Nat.testBit_xor, e2, Nat.testBit_two_pow_sub_succ (by omega : b < 2 ^ 64), e1, Nat.testBit_two_pow_sub_succ (by decide : 0 < 2 ^ 64)]
    by_cases hj : j < 64
    · simp [hj]
    · have : b.testBit j = false := Nat.testBit_lt_two_pow (Nat.lt_of_lt_of_le hb (Nat.pow_le_pow_right (n := 2) (i := 64) (j := j) (by omega) (by omega)))
      simp [hj, this]
  rw [h2] at h
  refine h.trans ?_
  omega
def k41L : Prop := ∀ w, Calls Try.prog 41 #[] w fun e w' => e = .returned (.agg #[.int .i64 52, .int .u64 2047, .int .i64 1023]) ∧ Below w.heap.size w w'
theorem k41l : k41L := double_any
def k56L : Prop := ∀ w, Calls Try.prog 56 #[.agg #[.int .i64 52, .int .u64 2047, .int .i64 1023]] w fun e w' => e = .returned (.int .u64 9223372036854775808) ∧ Below w.heap.size w w'
theorem k56l : k56L := fun w => sign_any lay64 w
set_option maxHeartbeats 1000000 in
theorem rank_any (b : Nat) (w : World) (hb : b < 18446744073709551616) : Calls Try.prog 50 #[.float .f64 b] w fun e w' => e = .returned (.int .u64 (key64 b + 9223372036854775808)) ∧ Below w.heap.size w w' := by
  have x20 := ext20
  have k41 := k41l
  have k56 := k56l
  unfold k41L at k41
  unfold k56L at k56
  have ha := and_top b hb
  unfold key64
  by_cases h : b < 9223372036854775808
  · rw [if_pos h] at ha ⊢
    have ho := or_top b h
    go_enter Try.func50, Try.ntmps50
    go_wp2_with (go_at_call 41; refine (k41 _).mono ?_)
    rintro e w1 ⟨rfl, b1⟩
    go_wp2_with (go_at_call 56; refine (k56 _).mono ?_)
    rintro e w2 ⟨rfl, b2⟩
    have B2 : Hid (Below w.heap.size w w2) := b1.trans (b2.mono b1.size)
    clear b1 b2
    go_wp2
    go_ret
    exact ⟨rfl, B2.out⟩
  · rw [if_neg h] at ha ⊢
    go_enter Try.func50, Try.ntmps50
    go_wp2_with (go_at_call 41; refine (k41 _).mono ?_)
    rintro e w1 ⟨rfl, b1⟩
    go_wp2_with (go_at_call 56; refine (k56 _).mono ?_)
    rintro e w2 ⟨rfl, b2⟩
    have B2 : Hid (Below w.heap.size w w2) := b1.trans (b2.mono b1.size)
    clear b1 b2
    go_wp2
    go_ret
    refine ⟨congrArg Ending.returned (congrArg (Value.int IntKind.u64) ?_), B2.out⟩
    refine (not_is b hb).trans ?_
    omega
theorem isNaN_any (x : Int) (w : World) : Calls Try.prog 61 #[.int .u64 x] w fun e w' => e = .returned (.bool false) ∧ w' = w := by
  go_enter Try.func61, Try.ntmps61
  go_wp2
  go_ret
  exact ⟨rfl, rfl⟩
/-- Less, the same, more. -/
def sgnc (x y : Int) : Int := if x < y then -1 else if y < x then 1 else 0
set_option maxHeartbeats 1000000 in
theorem compare_any (x y : Int) (w : World) : Calls Try.prog 49 #[.int .u64 x, .int .u64 y] w fun e w' => e = .returned (.int .i64 (sgnc x y)) ∧ w' = w := by
  have k61 := isNaN_any
  unfold sgnc
  by_cases h1 : x < y
  · rw [if_pos h1]
    go_enter Try.func49, Try.ntmps49
    go_wp2_with (go_at_call 61; refine (k61 _ _).mono ?_)
    rintro e w1 ⟨rfl, rfl⟩
    go_wp2_with (go_at_call 61; refine (k61 _ _).mono ?_)
    rintro e w1 ⟨rfl, rfl⟩
    go_wp2
    go_ret
    exact ⟨rfl, rfl⟩
  · rw [if_neg h1]
    by_cases h2 : y < x
    · rw [if_pos h2]
      go_enter Try.func49, Try.ntmps49
      go_wp2_with (go_at_call 61; refine (k61 _ _).mono ?_)
      rintro e w1 ⟨rfl, rfl⟩
      go_wp2_with (go_at_call 61; refine (k61 _ _).mono ?_)
      first | (rintro e w1 ⟨rfl, rfl⟩; go_wp2) | skip
      go_ret
      exact ⟨rfl, rfl⟩
    · rw [if_neg h2]
      go_enter Try.func49, Try.ntmps49
      go_wp2_with (go_at_call 61; refine (k61 _ _).mono ?_)
      rintro e w1 ⟨rfl, rfl⟩
      go_wp2_with (go_at_call 61; refine (k61 _ _).mono ?_)
      first | (rintro e w1 ⟨rfl, rfl⟩; go_wp2) | skip
      go_ret
      exact ⟨rfl, rfl⟩
theorem sgnc_shift (x y c : Int) : sgnc (x + c) (y + c) = sgnc x y := by
  unfold sgnc
  simp only [Int.add_lt_add_iff_right]
set_option maxHeartbeats 1000000 in
theorem order_any (a b : Nat) (w : World) (ha : a < 18446744073709551616) (hb : b < 18446744073709551616) : Calls Try.prog 31 #[.float .f64 a, .float .f64 b] w fun e w' => e = .returned (.int .i64 (sgnc (key64 a) (key64 b))) ∧ Below w.heap.size w w' := by
  have ka := fun w => rank_any a w ha
  have kb := fun w => rank_any b w hb
  have kc := fun w => compare_any (key64 a + 9223372036854775808) (key64 b + 9223372036854775808) w
  rw [sgnc_shift] at kc
  generalize key64 a + 9223372036854775808 = x at *
  generalize key64 b + 9223372036854775808 = y at *
  generalize sgnc (key64 a) (key64 b) = z at *
  go_enter Try.func31, Try.ntmps31
  go_wp2_with (go_at_call 50; refine (ka _).mono ?_)
  rintro e w1 ⟨rfl, b1⟩
  go_wp2_with (go_at_call 50; refine (kb _).mono ?_)
  rintro e w2 ⟨rfl, b2⟩
  have B2 : Hid (Below w.heap.size w w2) := b1.trans (b2.mono b1.size)
  clear b1 b2
  go_wp2_with (go_at_call 49; refine (kc _).mono ?_)
  rintro e w3 ⟨rfl, rfl⟩
  go_wp2
  go_ret
  exact ⟨rfl, B2.out⟩
set_option maxHeartbeats 2000000 in
theorem same_any (a b : Nat) (w : World) : Calls Try.prog 32 #[.float .f64 a, .float .f64 b] w fun e w' => e = .returned (.bool (decide (a = b) || (nan64 a && nan64 b))) ∧ w' = w := by
  have x20 := ext20
  have ka := fun w => nan_any a w
  have kb := fun w => nan_any b w
  by_cases h : a = b
  · subst h
    simp only [decide_true, Bool.true_or]
    go_enter Try.func32, Try.ntmps32
    go_wp2
    go_ret
    exact ⟨rfl, rfl⟩
  · have h1 : ((a : Int) == (b : Int)) = false := by simp; omega
    rw [decide_eq_false h, Bool.false_or]
    generalize nan64 a = na at *
    generalize nan64 b = nb at *
    cases na
    · go_enter Try.func32, Try.ntmps32
      go_wp2_with (go_at_call 46; refine (ka _).mono ?_)
      rintro e w1 ⟨rfl, rfl⟩
      go_wp2
      go_ret
      exact ⟨rfl, rfl⟩
    · go_enter Try.func32, Try.ntmps32
      go_wp2_with (go_at_call 46; refine (ka _).mono ?_)
      rintro e w1 ⟨rfl, rfl⟩
      go_wp2_with (go_at_call 46; refine (kb _).mono ?_)
      rintro e w1 ⟨rfl, rfl⟩
      go_wp2
      go_ret
      exact ⟨rfl, rfl⟩
end Go.Proofs.Ytjcjecbffnadaaa
