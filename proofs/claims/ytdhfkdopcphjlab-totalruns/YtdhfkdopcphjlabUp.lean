/-
  The contracts of IsNaN and Up. Condition: the bits fit 64 bits.
-/
import Derived.Test.YtdhfkdopcphjlabXt
import Derived.Test.YtdhfkdopcphjlabOr
import Derived.Laws.Cover2
import Derived.Below
namespace Go.Proofs.Ytdhfkdopcphjlab
open Go.RowKit
theorem cmp_self (x : Int) : compare x x = .eq := by simp [compare, compareOfLessAndEq]
/-- Whether the bits are those of a no number. -/
def nan64 (b : Nat) : Bool := isN FloatKind.f64.format b
theorem nan_order (b : Nat) : (FloatKind.f64.format.order b b != some .eq) = nan64 b := by
  unfold nan64
  cases h : isN FloatKind.f64.format b
  · rw [order_num _ (by decide) h h, cmp_self]; rfl
  · rw [order_nan_left _ (by decide) h]; rfl
/-- The place of the bits of a float of 64 bits. -/
def plc64 (b : Nat) : Int := if b < 9223372036854775808 then b else -((b : Int) - 9223372036854775808)
theorem plc_is (b : Nat) (h : b < 18446744073709551616) : plc FloatKind.f64.format b = plc64 b := by
  have e : FloatKind.f64.format.signWeight = 9223372036854775808 := by decide
  unfold plc plc64 sgn
  rw [e]
  by_cases h1 : b < 9223372036854775808
  · have h2 : b / 9223372036854775808 = 0 := by omega
    have h3 : b % 9223372036854775808 = b := by omega
    simp [h1, h2, h3]
  · have h2 : b / 9223372036854775808 = 1 := by omega
    have h3 : ((b % 9223372036854775808 : Nat) : Int) = (b : Int) - 9223372036854775808 := by omega
    simp only [h1, h2, if_false]
    simp
    omega
theorem order_is {a b : Nat} (ha : a < 18446744073709551616) (hb : b < 18446744073709551616) (na : nan64 a = false) (nb : nan64 b = false) : FloatKind.f64.format.order a b = some (compare (plc64 a) (plc64 b)) := by
  rw [order_num _ (by decide) na nb, plc_is a ha, plc_is b hb]
theorem lt_is (a b : Int) : (some (compare a b) == some Ordering.lt) = decide (a < b) := by
  simp only [compare, compareOfLessAndEq]
  by_cases h : a < b
  · simp [h]
  · by_cases h2 : a = b <;> simp [h, h2]
theorem gt_is (a b : Int) : (some (compare a b) == some Ordering.gt) = decide (b < a) := by
  simp only [compare, compareOfLessAndEq]
  by_cases h : a < b
  · have : ¬ b < a := by omega
    simp [h, this]
  · by_cases h2 : a = b
    · subst h2; simp
    · have : b < a := by omega
      simp [h, h2, this]
theorem eq_is (a b : Int) : (some (compare a b) == some Ordering.eq) = decide (a = b) := by
  simp only [compare, compareOfLessAndEq]
  by_cases h : a < b
  · have : ¬ a = b := by omega
    simp [h, this]
  · by_cases h2 : a = b <;> simp [h, h2]
/-- The bits of the least float above. -/
def upB (b : Nat) : Nat := if nan64 b then b else if b = 9218868437227405312 then b else if b = 0 ∨ b = 9223372036854775808 then 1 else if 9223372036854775808 ≤ b then b - 1 else b + 1
theorem nan64_is {b : Nat} (h : b < 18446744073709551616) : nan64 b = decide (9218868437227405312 < b % 9223372036854775808) := by
  have _ := h
  have e : FloatKind.f64.format.signWeight = 9223372036854775808 := by decide
  have e2 : FloatKind.f64.format.infRung = 9218868437227405312 := by decide
  unfold nan64 isN
  rw [e, e2]
end Go.Proofs.Ytdhfkdopcphjlab
