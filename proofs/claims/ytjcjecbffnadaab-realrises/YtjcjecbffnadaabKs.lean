/-
  The contracts of the total order: the document's key and place, rank, Compare, Order, Same. Condition: the bits fit 64 bits.
-/
import Derived.Test.YtjcjecbffnadaabUp
import Derived.Test.YtjcjecbffnadaabSg
namespace Go.Proofs.Ytjcjecbffnadaab
open Go.RowKit
/-- Where bits stand in the total order. -/
def key64 (b : Nat) : Int := if b < 9223372036854775808 then b else -((b : Int) - 9223372036854775808) - 1
theorem low63 (b : Nat) (hb : b < 18446744073709551616) : bits .and .u64 (b : Int) 9223372036854775807 = ((b % 9223372036854775808 : Nat) : Int) := by
  have h := u64_and_nat b 9223372036854775807 hb (by decide)
  have h2 := and_low b 63
  rw [show (2 : Nat) ^ 63 - 1 = 9223372036854775807 from by decide, show (2 : Nat) ^ 63 = 9223372036854775808 from by decide] at h2
  rw [h2] at h
  exact h
/-- The sign bit, as the program asks for it. -/
theorem and_top (b : Nat) (hb : b < 18446744073709551616) : bits .and .u64 (b : Int) 9223372036854775808 = if b < 9223372036854775808 then 0 else 9223372036854775808 := by
  have h := u64_and_nat b 9223372036854775808 hb (by decide)
  have h2 := nat_bit 63 b
  rw [show (2 : Nat) ^ 63 = 9223372036854775808 from by decide] at h2
  rw [h2] at h
  refine h.trans ?_
  split
  · have : b / 9223372036854775808 = 0 := by omega
    rw [this]; rfl
  · have : b / 9223372036854775808 = 1 := by omega
    rw [this]; rfl
theorem or_top (b : Nat) (hb : b < 9223372036854775808) : bits .or .u64 (b : Int) 9223372036854775808 = (b : Int) + 9223372036854775808 := by
  have h := u64_or_nat b 9223372036854775808 (by omega) (by decide)
  have h2 := or_high (n := 63) (x := b) (by omega)
  rw [show (2 : Nat) ^ 63 = 9223372036854775808 from by decide] at h2
  rw [h2] at h
  exact h
theorem not_is (b : Nat) (hb : b < 18446744073709551616) : bits .xor .u64 IntKind.u64.max (b : Int) = 18446744073709551615 - (b : Int) := by
  have h := u64_xor_nat 18446744073709551615 b (by decide) hb
  have h2 : 18446744073709551615 ^^^ b = 18446744073709551615 - b := by
    apply Nat.eq_of_testBit_eq
    intro j
    have e1 : (18446744073709551615 : Nat) = 2 ^ 64 - (0 + 1) := by decide
    have e2 : 18446744073709551615 - b = 2 ^ 64 - (b + 1) := by omega
    rw [Nat.testBit_xor, e2, Nat.testBit_two_pow_sub_succ (by omega : b < 2 ^ 64), e1, Nat.testBit_two_pow_sub_succ (by decide : 0 < 2 ^ 64)]
    by_cases hj : j < 64
    · simp [hj]
    · have : b.testBit j = false := Nat.testBit_lt_two_pow (Nat.lt_of_lt_of_le hb (Nat.pow_le_pow_right (n := 2) (i := 64) (j := j) (by omega) (by omega)))
      simp [hj, this]
  rw [h2] at h
  refine h.trans ?_
  omega
def k41L : Prop := ∀ w, Calls Try.prog 64 #[] w fun e w' => e = .returned (.agg #[.int .i64 52, .int .u64 2047, .int .i64 1023]) ∧ Below w.heap.size w w'
theorem k41l : k41L := double_any
def k56L : Prop := ∀ w, Calls Try.prog 65 #[.agg #[.int .i64 52, .int .u64 2047, .int .i64 1023]] w fun e w' => e = .returned (.int .u64 9223372036854775808) ∧ Below w.heap.size w w'
theorem k56l : k56L := fun w => sign_any lay64 w
/-- Less, the same, more. -/
def sgnc (x y : Int) : Int := if x < y then -1 else if y < x then 1 else 0
theorem sgnc_shift (x y c : Int) : sgnc (x + c) (y + c) = sgnc x y := by
  unfold sgnc
  simp only [Int.add_lt_add_iff_right]
end Go.Proofs.Ytjcjecbffnadaab
