/-
  The contracts of the total order, and of the lesser and the greater one of two floats. Condition: the bits fit 64 bits.
-/
import Derived.Test.YtdhfkdopcphjlabFc
import Derived.Test.YtdhfkdopcphjlabSg
import Derived.Test.YtdhfkdopcphjlabRq
import Derived.Deep.RegionWith
namespace Go.Proofs.Ytdhfkdopcphjlab
open Go.RowKit
/-- Where bits stand in the total order. -/
def key64 (b : Nat) : Int := if b < 9223372036854775808 then b else -((b : Int) - 9223372036854775808) - 1
/-- The sign bit, as the program asks for it. -/
theorem and_top (b : Nat) (hb : b < 18446744073709551616) : bits .and .u64 (b : Int) 9223372036854775808 = if b < 9223372036854775808 then 0 else 9223372036854775808 := by
  have h := u64_and_nat b 9223372036854775808 hb (by decide)
  have h2 := nat_bit 63 b
  rw [show (2 : Nat) ^ 63 = 9223372036854775808 from by decide] at h2
  rw [h2] at h
  refine h.trans ?_
  split
  · have : b / 9223372036854775808 = 0 := by omega
    rw [this]; rfl
  · have : b / 9223372036854775808 = 1 := by omega
    rw [this]; rfl
theorem or_top (b : Nat) (hb : b < 9223372036854775808) : bits .or .u64 (b : Int) 9223372036854775808 = (b : Int) + 9223372036854775808 := by
  have h := u64_or_nat b 9223372036854775808 (by omega) (by decide)
  have h2 := or_high (n := 63) (x := b) (by omega)
  rw [show (2 : Nat) ^ 63 = 9223372036854775808 from by decide] at h2
  rw [h2] at h
  exact h
theorem not_is (b : Nat) (hb : b < 18446744073709551616) : bits .xor .u64 IntKind.u64.max (b : Int) = 18446744073709551615 - (b : Int) := by
  have h := u64_xor_nat 18446744073709551615 b (by decide) hb
  have h2 : 18446744073709551615 ^^^ b = 18446744073709551615 - b := by
    apply Nat.eq_of_testBit_eq
    intro j
    have e1 : (18446744073709551615 : Nat) = 2 ^ 64 - (0 + 1) := by decide
    have e2 : 18446744073709551615 - b = 2 ^ 64 - (b + 1) := by omega
    rw [Nat.testBit_xor, e2, Nat.testBit_two_pow_sub_succ (by omega : b < 2 ^ 64), e1, Nat.testBit_two_pow_sub_succ (by decide : 0 < 2 ^ 64)]
    by_cases hj : j < 64
    · simp [hj]
    · have : b.testBit j = false := Nat.testBit_lt_two_pow (Nat.lt_of_lt_of_le hb (Nat.pow_le_pow_right (n := 2) (i := 64) (j := j) (by omega) (by omega)))
      simp [hj, this]
  rw [h2] at h
  refine h.trans ?_
  omega
def k41L : Prop := ∀ w, Calls Try.prog 110 #[] w fun e w' => e = .returned (.agg #[.int .i64 52, .int .u64 2047, .int .i64 1023]) ∧ Below w.heap.size w w'
theorem k41l : k41L := double_any
def k56L : Prop := ∀ w, Calls Try.prog 120 #[.agg #[.int .i64 52, .int .u64 2047, .int .i64 1023]] w fun e w' => e = .returned (.int .u64 9223372036854775808) ∧ Below w.heap.size w w'
theorem k56l : k56L := fun w => sign_any lay64 w
set_option maxHeartbeats 1000000 in
theorem rank_any (b : Nat) (w : World) (hb : b < 18446744073709551616) : Calls Try.prog 105 #[.float .f64 b] w fun e w' => e = .returned (.int .u64 (key64 b + 9223372036854775808)) ∧ Below w.heap.size w w' := by
  have x20 := ext20
  have k41 := k41l
  have k56 := k56l
  unfold k41L at k41
  unfold k56L at k56
  have ha := and_top b hb
  unfold key64
  by_cases h : b < 9223372036854775808
  · rw [if_pos h] at ha ⊢
    have ho := or_top b h
    go_enter Try.func105, Try.ntmps105
    go_wp2_with (go_at_call 110; refine (k41 _).mono ?_)
    rintro e w1 ⟨rfl, b1⟩
    go_wp2_with (go_at_call 120; refine (k56 _).mono ?_)
    rintro e w2 ⟨rfl, b2⟩
    have B2 : Hid (Below w.heap.size w w2) := b1.trans (b2.mono b1.size)
    clear b1 b2
    go_wp2
    go_ret
    exact ⟨rfl, B2.out⟩
  · rw [if_neg h] at ha ⊢
    go_enter Try.func105, Try.ntmps105
    go_wp2_with (go_at_call 110; refine (k41 _).mono ?_)
    rintro e w1 ⟨rfl, b1⟩
    go_wp2_with (go_at_call 120; refine (k56 _).mono ?_)
    rintro e w2 ⟨rfl, b2⟩
    have B2 : Hid (Below w.heap.size w w2) := b1.trans (b2.mono b1.size)
    clear b1 b2
    go_wp2
    go_ret
    refine ⟨congrArg Ending.returned (congrArg (Value.int IntKind.u64) ?_), B2.out⟩
    refine (not_is b hb).trans ?_
    omega
theorem isNaN_any (x : Int) (w : World) : Calls Try.prog 123 #[.int .u64 x] w fun e w' => e = .returned (.bool false) ∧ w' = w := by
  go_enter Try.func123, Try.ntmps123
  go_wp2
  go_ret
  exact ⟨rfl, rfl⟩
/-- Less, the same, more. -/
def sgnc (x y : Int) : Int := if x < y then -1 else if y < x then 1 else 0
set_option maxHeartbeats 1000000 in
theorem compare_any (x y : Int) (w : World) : Calls Try.prog 104 #[.int .u64 x, .int .u64 y] w fun e w' => e = .returned (.int .i64 (sgnc x y)) ∧ w' = w := by
  have k61 := isNaN_any
  unfold sgnc
  by_cases h1 : x < y
  · rw [if_pos h1]
    go_enter Try.func104, Try.ntmps104
    go_wp2_with (go_at_call 123; refine (k61 _ _).mono ?_)
    rintro e w1 ⟨rfl, rfl⟩
    go_wp2_with (go_at_call 123; refine (k61 _ _).mono ?_)
    rintro e w1 ⟨rfl, rfl⟩
    go_wp2
    go_ret
    exact ⟨rfl, rfl⟩
  · rw [if_neg h1]
    by_cases h2 : y < x
    · rw [if_pos h2]
      go_enter Try.func104, Try.ntmps104
      go_wp2_with (go_at_call 123; refine (k61 _ _).mono ?_)
      rintro e w1 ⟨rfl, rfl⟩
      go_wp2_with (go_at_call 123; refine (k61 _ _).mono ?_)
      first | (rintro e w1 ⟨rfl, rfl⟩; go_wp2) | skip
      go_ret
      exact ⟨rfl, rfl⟩
    · rw [if_neg h2]
      go_enter Try.func104, Try.ntmps104
      go_wp2_with (go_at_call 123; refine (k61 _ _).mono ?_)
      rintro e w1 ⟨rfl, rfl⟩
      go_wp2_with (go_at_call 123; refine (k61 _ _).mono ?_)
      first | (rintro e w1 ⟨rfl, rfl⟩; go_wp2) | skip
      go_ret
      exact ⟨rfl, rfl⟩
theorem sgnc_shift (x y c : Int) : sgnc (x + c) (y + c) = sgnc x y := by
  unfold sgnc
  simp only [Int.add_lt_add_iff_right]
set_option maxHeartbeats 1000000 in
theorem order_any (a b : Nat) (w : World) (ha : a < 18446744073709551616) (hb : b < 18446744073709551616) : Calls Try.prog 68 #[.float .f64 a, .float .f64 b] w fun e w' => e = .returned (.int .i64 (sgnc (key64 a) (key64 b))) ∧ Below w.heap.size w w' := by
  have ka := fun w => rank_any a w ha
  have kb := fun w => rank_any b w hb
  have kc := fun w => compare_any (key64 a + 9223372036854775808) (key64 b + 9223372036854775808) w
  rw [sgnc_shift] at kc
  generalize key64 a + 9223372036854775808 = x at *
  generalize key64 b + 9223372036854775808 = y at *
  generalize sgnc (key64 a) (key64 b) = z at *
  go_enter Try.func68, Try.ntmps68
  go_wp2_with (go_at_call 105; refine (ka _).mono ?_)
  rintro e w1 ⟨rfl, b1⟩
  go_wp2_with (go_at_call 105; refine (kb _).mono ?_)
  rintro e w2 ⟨rfl, b2⟩
  have B2 : Hid (Below w.heap.size w w2) := b1.trans (b2.mono b1.size)
  clear b1 b2
  go_wp2_with (go_at_call 104; refine (kc _).mono ?_)
  rintro e w3 ⟨rfl, rfl⟩
  go_wp2
  go_ret
  exact ⟨rfl, B2.out⟩
theorem sgnc_le (x y : Int) : (sgnc x y ≤ 0 ↔ x ≤ y) ∧ (0 ≤ sgnc x y ↔ y ≤ x) := by
  unfold sgnc
  by_cases h1 : x < y
  · rw [if_pos h1]; omega
  · rw [if_neg h1]
    by_cases h2 : y < x
    · rw [if_pos h2]; omega
    · rw [if_neg h2]; omega
/-- The bits of the lesser, of the greater one. -/
def minB (x y : Nat) : Nat := if (nan64 x || nan64 y) = true then 9221120237041090560 else if key64 x ≤ key64 y then x else y
def maxB (x y : Nat) : Nat := if (nan64 x || nan64 y) = true then 9221120237041090560 else if key64 y ≤ key64 x then x else y
set_option maxRecDepth 100000 in
set_option maxHeartbeats 2000000 in
theorem cnone_any (w : World) : Calls Try.prog 98 #[] w fun e w' => e = .returned (.float .f64 9221120237041090560) ∧ Below w.heap.size w w' := by
  have k50 : ∀ w, Calls Try.prog 101 #[.agg #[.int .i64 4, .bool false, .int .u64 0, .int .i64 0, .bool false, .int .u64 0]] w fun e w' => e = .returned (.float .f64 9221120237041090560) ∧ Below w.heap.size w w' := fun w => number_any ⟨4, false, 0, 0, false, 0⟩ w (by decide) (by decide) (by decide)
  have bl : ∀ w, (Instr.build 100 #[(0, .int .i64 4)]).run Try.prog w = .ok (.agg #[.int .i64 4, .bool false, .int .u64 0, .int .i64 0, .bool false, .int .u64 0]) w := fun _ => by kernel_rfl
  go_enter Try.func98, Try.ntmps98
  go_wp2_with (go_at_call 101; refine (k50 _).mono ?_)
  intro e1 w1 hq
  first | (obtain ⟨rfl, b1⟩ : _ ∧ _ := hq) | (subst hq; intro b1)
  have B1 : Hid (Below w.heap.size w w1) := b1
  clear b1
  go_wp2
  go_ret
  exact ⟨rfl, B1.out⟩
set_option maxHeartbeats 400000 in
theorem nan_any (b : Nat) (w : World) : Calls Try.prog 108 #[.float .f64 b] w fun e w' => e = .returned (.bool (nan64 b)) ∧ w' = w := by
  have hn := nan_order b
  cases hb : nan64 b
  · rw [hb] at hn
    have ho : FloatKind.f64.format.order b b = some .eq := by simpa using hn
    clear hn
    go_enter Try.func108, Try.ntmps108
    go_wp2
    go_ret
    exact ⟨rfl, rfl⟩
  · rw [hb] at hn
    have ho : FloatKind.f64.format.order b b = none := order_nan_left _ (by decide) hb b
    clear hn
    go_enter Try.func108, Try.ntmps108
    go_wp2
    go_ret
    exact ⟨rfl, rfl⟩
set_option maxRecDepth 100000 in
set_option maxHeartbeats 2000000 in
theorem min_any (x y : Nat) (w : World) (hx : x < 18446744073709551616) (hy : y < 18446744073709551616) : Calls Try.prog 79 #[.float .f64 x, .float .f64 y] w fun e w' => e = .returned (.float .f64 (minB x y)) ∧ Below w.heap.size w w' := by
  have k1 := fun w => nan_any x w
  have k2 := fun w => nan_any y w
  have k3 := cnone_any
  have k4 := fun w => order_any x y w hx hy
  unfold minB
  cases h1 : nan64 x
  · cases h2 : nan64 y
    · rw [h1] at k1
      rw [h2] at k2
      rw [if_neg (by decide)]
      by_cases c : key64 x ≤ key64 y
      · rw [if_pos c]
        have hc : sgnc (key64 x) (key64 y) ≤ 0 := by have := sgnc_le (key64 x) (key64 y); omega
        generalize sgnc (key64 x) (key64 y) = s at *
        clear c h1 h2
        go_enter Try.func79, Try.ntmps79
        go_wp2_with (first | (go_at_call 108; refine (k1 _).mono ?_; rintro e w' ⟨rfl, rfl⟩) | (go_at_call 108; refine (k2 _).mono ?_; rintro e w' ⟨rfl, rfl⟩) | (go_at_call 68; refine (k4 _).mono ?_))
        intro e1 w1 hq
        first | (obtain ⟨rfl, b1⟩ : _ ∧ _ := hq) | (subst hq; intro b1)
        have B1 : Hid (Below _ _ w1) := b1
        clear b1
        go_wp2
        go_ret
        exact ⟨rfl, B1.out⟩
      · rw [if_neg c]
        have hc : 0 < sgnc (key64 x) (key64 y) := by have := sgnc_le (key64 x) (key64 y); omega
        generalize sgnc (key64 x) (key64 y) = s at *
        clear c h1 h2
        go_enter Try.func79, Try.ntmps79
        go_wp2_with (first | (go_at_call 108; refine (k1 _).mono ?_; rintro e w' ⟨rfl, rfl⟩) | (go_at_call 108; refine (k2 _).mono ?_; rintro e w' ⟨rfl, rfl⟩) | (go_at_call 68; refine (k4 _).mono ?_))
        intro e1 w1 hq
        first | (obtain ⟨rfl, b1⟩ : _ ∧ _ := hq) | (subst hq; intro b1)
        have B1 : Hid (Below _ _ w1) := b1
        clear b1
        go_wp2
        go_ret
        exact ⟨rfl, B1.out⟩
    · rw [h1] at k1
      rw [h2] at k2
      rw [if_pos (by decide)]
      go_enter Try.func79, Try.ntmps79
      go_wp2_with (first | (go_at_call 108; refine (k1 _).mono ?_; rintro e w' ⟨rfl, rfl⟩) | (go_at_call 108; refine (k2 _).mono ?_; rintro e w' ⟨rfl, rfl⟩) | (go_at_call 98; refine (k3 _).mono ?_))
      intro e1 w1 hq
      first | (obtain ⟨rfl, b1⟩ : _ ∧ _ := hq) | (subst hq; intro b1)
      have B1 : Hid (Below _ _ w1) := b1
      clear b1
      go_wp2
      go_ret
      exact ⟨rfl, B1.out⟩
  · rw [h1] at k1
    rw [if_pos (by simp)]
    go_enter Try.func79, Try.ntmps79
    go_wp2_with (first | (go_at_call 108; refine (k1 _).mono ?_; rintro e w' ⟨rfl, rfl⟩) | (go_at_call 98; refine (k3 _).mono ?_))
    intro e1 w1 hq
    first | (obtain ⟨rfl, b1⟩ : _ ∧ _ := hq) | (subst hq; intro b1)
    have B1 : Hid (Below _ _ w1) := b1
    clear b1
    go_wp2
    go_ret
    exact ⟨rfl, B1.out⟩
set_option maxRecDepth 100000 in
set_option maxHeartbeats 2000000 in
theorem max_any (x y : Nat) (w : World) (hx : x < 18446744073709551616) (hy : y < 18446744073709551616) : Calls Try.prog 80 #[.float .f64 x, .float .f64 y] w fun e w' => e = .returned (.float .f64 (maxB x y)) ∧ Below w.heap.size w w' := by
  have k1 := fun w => nan_any x w
  have k2 := fun w => nan_any y w
  have k3 := cnone_any
  have k4 := fun w => order_any x y w hx hy
  unfold maxB
  cases h1 : nan64 x
  · cases h2 : nan64 y
    · rw [h1] at k1
      rw [h2] at k2
      rw [if_neg (by decide)]
      by_cases c : key64 y ≤ key64 x
      · rw [if_pos c]
        have hc : 0 ≤ sgnc (key64 x) (key64 y) := by have := sgnc_le (key64 x) (key64 y); omega
        generalize sgnc (key64 x) (key64 y) = s at *
        clear c h1 h2
        go_enter Try.func80, Try.ntmps80
        go_wp2_with (first | (go_at_call 108; refine (k1 _).mono ?_; rintro e w' ⟨rfl, rfl⟩) | (go_at_call 108; refine (k2 _).mono ?_; rintro e w' ⟨rfl, rfl⟩) | (go_at_call 68; refine (k4 _).mono ?_))
        intro e1 w1 hq
        first | (obtain ⟨rfl, b1⟩ : _ ∧ _ := hq) | (subst hq; intro b1)
        have B1 : Hid (Below _ _ w1) := b1
        clear b1
        go_wp2
        go_ret
        exact ⟨rfl, B1.out⟩
      · rw [if_neg c]
        have hc : sgnc (key64 x) (key64 y) < 0 := by have := sgnc_le (key64 x) (key64 y); omega
        generalize sgnc (key64 x) (key64 y) = s at *
        clear c h1 h2
        go_enter Try.func80, Try.ntmps80
        go_wp2_with (first | (go_at_call 108; refine (k1 _).mono ?_; rintro e w' ⟨rfl, rfl⟩) | (go_at_call 108; refine (k2 _).mono ?_; rintro e w' ⟨rfl, rfl⟩) | (go_at_call 68; refine (k4 _).mono ?_))
        intro e1 w1 hq
        first | (obtain ⟨rfl, b1⟩ : _ ∧ _ := hq) | (subst hq; intro b1)
        have B1 : Hid (Below _ _ w1) := b1
        clear b1
        go_wp2
        go_ret
        exact ⟨rfl, B1.out⟩
    · rw [h1] at k1
      rw [h2] at k2
      rw [if_pos (by decide)]
      go_enter Try.func80, Try.ntmps80
      go_wp2_with (first | (go_at_call 108; refine (k1 _).mono ?_; rintro e w' ⟨rfl, rfl⟩) | (go_at_call 108; refine (k2 _).mono ?_; rintro e w' ⟨rfl, rfl⟩) | (go_at_call 98; refine (k3 _).mono ?_))
      intro e1 w1 hq
      first | (obtain ⟨rfl, b1⟩ : _ ∧ _ := hq) | (subst hq; intro b1)
      have B1 : Hid (Below _ _ w1) := b1
      clear b1
      go_wp2
      go_ret
      exact ⟨rfl, B1.out⟩
  · rw [h1] at k1
    rw [if_pos (by simp)]
    go_enter Try.func80, Try.ntmps80
    go_wp2_with (first | (go_at_call 108; refine (k1 _).mono ?_; rintro e w' ⟨rfl, rfl⟩) | (go_at_call 98; refine (k3 _).mono ?_))
    intro e1 w1 hq
    first | (obtain ⟨rfl, b1⟩ : _ ∧ _ := hq) | (subst hq; intro b1)
    have B1 : Hid (Below _ _ w1) := b1
    clear b1
    go_wp2
    go_ret
    exact ⟨rfl, B1.out⟩
end Go.Proofs.Ytdhfkdopcphjlab
