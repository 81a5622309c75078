/-
  The contracts of Abs, size, none and same: sizes of floats, whether two are the same. Condition: the floats' bits fit.
-/
import Derived.Test.YtdhfkdopcphjlabFb
import Derived.Test.YtdhfkdopcphjlabUp
import Derived.Test.YtdhfkdopcphjlabXt
import Derived.Laws.BitsAllLaws
namespace Go.Proofs.Ytdhfkdopcphjlab
open Go.RowKit
theorem andNot_sign (b : Nat) (h : b < 18446744073709551616) : bits .andNot .u64 (b : Int) 9223372036854775808 = ((b % 9223372036854775808 : Nat) : Int) := by
  have := u64_andNot_nat b 9223372036854775808 h (by decide)
  have e : b &&& (18446744073709551615 - 9223372036854775808) = b % 9223372036854775808 := Nat.and_two_pow_sub_one_eq_mod b 63
  rw [e] at this
  exact this
section
variable {P : Program} {ops : Array Oper} {rest : List Oper} {o : Oper} {a : Act} {w : World} {Q : Exit → Act → World → Prop}
theorem wpList_neg (hgd : o.guard = none) (k : FloatKind) (t : TypeId) (x : Operand) (ho : o.op = .unOp .neg t x) (p A : Nat) (hx : a.eval x = .float k p) (hA : Op.negFloat k p = A)
    (h : wpList P ops Q rest (a.put o.dst (.float k A)) w) : wpList P ops Q (o :: rest) a w :=
  wpList_plain hgd fun K hK => by
    subst hA
    unfold Oper.wp execOp
    simp only [ho, hx]
    exact hK _ _ h
end
/-- Bits that are a float's without its sign. -/
def Sz (r b : Nat) : Prop := r < 18446744073709551616 ∧ nan64 r = nan64 b ∧ (nan64 b = false → plc64 r = (plc64 b).natAbs)
theorem sz_mod {b : Nat} (h : b < 18446744073709551616) : Sz (b % 9223372036854775808) b := by
  have hm := Nat.mod_lt b (show 9223372036854775808 > 0 by decide)
  refine ⟨by omega, ?_, fun _ => ?_⟩
  · rw [nan64_is (by omega), nan64_is h, Nat.mod_mod]
  · unfold plc64
    rw [if_pos (by omega)]
    split <;> omega
set_option maxHeartbeats 400000 in
theorem abs_any (b : Nat) (w : World) (h : b < 18446744073709551616) : Calls Try.prog 50 #[.float .f64 b] w fun e w' => ∃ r, e = .returned (.float .f64 r) ∧ Sz r b ∧ w' = w := by
  have x10 := ext10
  have x20 := ext20
  have hA := andNot_sign b h
  have hS : Hid (Sz (b % 9223372036854775808) b) := sz_mod h
  generalize b % 9223372036854775808 = A at *
  go_enter Try.func50, Try.ntmps50
  go_wp2
  go_ret
  exact ⟨A, by simp, hS.out, rfl⟩
theorem neg_bits {b : Nat} (h : 9223372036854775808 ≤ b) (h2 : b < 18446744073709551616) : Op.negFloat .f64 b = b - 9223372036854775808 := by
  show b ^^^ 2 ^ 63 = _
  have e : b = 2 ^ 63 + (b - 9223372036854775808) := by rw [show (2 : Nat) ^ 63 = 9223372036854775808 from rfl]; omega
  have hj : 2 ^ 63 ||| (b - 9223372036854775808) = 2 ^ 63 + (b - 9223372036854775808) := nat_join 63 (2 ^ 63) _ (by decide) (by rw [show (2 : Nat) ^ 63 = 9223372036854775808 from rfl]; omega)
  have hx : 2 ^ 63 ^^^ (b - 9223372036854775808) = 2 ^ 63 + (b - 9223372036854775808) := by
    rw [← hj]
    apply Nat.eq_of_testBit_eq
    intro i
    rw [Nat.testBit_xor, Nat.testBit_or, Nat.testBit_two_pow]
    by_cases c : 63 = i
    · subst c
      have : (b - 9223372036854775808).testBit 63 = false := Nat.testBit_lt_two_pow (by rw [show (2 : Nat) ^ 63 = 9223372036854775808 from rfl]; omega)
      rw [this]; rfl
    · simp [c]
  have h3 : b ^^^ 2 ^ 63 = (2 ^ 63 ^^^ (b - 9223372036854775808)) ^^^ 2 ^ 63 := by rw [hx, ← e]
  rw [h3, Nat.xor_comm (2 ^ 63), Nat.xor_assoc, Nat.xor_self, Nat.xor_zero]
/-- Whether the one is no less in size. -/
def geO : Option Nat → Option Nat → Bool
  | some a, some b => decide ((plc64 b).natAbs ≤ (plc64 a).natAbs)
  | _, _ => false
theorem ge_order {a b r s : Nat} {x y : Option Nat} (hx : Is a x) (hy : Is b y) (hr : Sz r a) (hs : Sz s b) : (FloatKind.f64.format.order r s = none ∧ geO x y = false) ∨ (FloatKind.f64.format.order r s = some .lt ∧ geO x y = false) ∨ (FloatKind.f64.format.order r s = some .eq ∧ geO x y = true) ∨ (FloatKind.f64.format.order r s = some .gt ∧ geO x y = true) := by
  cases x with
  | none => exact .inl ⟨order_nan_left _ (by decide) (hr.2.1.trans hx.1) s, rfl⟩
  | some a' =>
    obtain ⟨rfl, hn, -⟩ := hx
    cases y with
    | none => exact .inl ⟨order_nan_right _ (by decide) r (hs.2.1.trans hy.1), rfl⟩
    | some b' =>
      obtain ⟨rfl, hm, -⟩ := hy
      have ho := order_is hr.1 hs.1 (hr.2.1.trans hn) (hs.2.1.trans hm)
      rw [hr.2.2 hn, hs.2.2 hm] at ho
      right
      have hg : geO (some a) (some b) = decide ((plc64 b).natAbs ≤ (plc64 a).natAbs) := rfl
      rw [hg]
      clear hg
      generalize (plc64 a).natAbs = p at *
      generalize (plc64 b).natAbs = q at *
      rw [ho]
      rcases Nat.lt_trichotomy p q with c | c | c
      · left
        have c1 : (p : Int) < q := by omega
        refine ⟨by simp [compare, compareOfLessAndEq, c1], ?_⟩
        exact decide_eq_false (by omega)
      · right; left
        subst c
        exact ⟨by simp [compare, compareOfLessAndEq], decide_eq_true (Nat.le_refl _)⟩
      · right; right
        have c1 : ¬ (p : Int) < q := by omega
        have c2 : ¬ (p : Int) = q := by omega
        exact ⟨by simp [compare, compareOfLessAndEq, c1, c2], decide_eq_true (by omega)⟩
set_option maxHeartbeats 400000 in
theorem none_any (b : Nat) (w : World) : Calls Try.prog 55 #[.float .f64 b] w fun e w' => e = .returned (.bool (nan64 b)) ∧ w' = w := by
  have hn := nan_order b
  cases hb : nan64 b
  · rw [hb] at hn
    have ho : FloatKind.f64.format.order b b = some .eq := by simpa using hn
    clear hn
    go_enter Try.func55, Try.ntmps55
    go_wp2
    go_ret
    exact ⟨rfl, rfl⟩
  · rw [hb] at hn
    have ho : FloatKind.f64.format.order b b = none := order_nan_left _ (by decide) hb b
    clear hn
    go_enter Try.func55, Try.ntmps55
    go_wp2
    go_ret
    exact ⟨rfl, rfl⟩
set_option maxHeartbeats 400000 in
theorem Same_any (a b : Nat) (w : World) (h : (nan64 a = true ∧ nan64 b = true) ∨ (a = b ∧ nan64 a = false)) : Calls Try.prog 54 #[.float .f64 a, .float .f64 b] w fun e w' => e = .returned (.bool true) ∧ w' = w := by
  have k1 := none_any a
  have k2 := none_any b
  have x20 := ext20
  rcases h with ⟨h1, h2⟩ | ⟨rfl, h1⟩
  · rw [h1] at k1
    rw [h2] at k2
    go_enter Try.func54, Try.ntmps54
    go_wp2_with fail
    refine (k1 _).mono ?_
    rintro e w1 ⟨rfl, rfl⟩
    go_wp2_with fail
    refine (k2 _).mono ?_
    rintro e w2 ⟨rfl, rfl⟩
    go_wp2
    go_ret
    exact ⟨rfl, rfl⟩
  · rw [h1] at k1
    go_enter Try.func54, Try.ntmps54
    go_wp2_with fail
    refine (k1 _).mono ?_
    rintro e w1 ⟨rfl, rfl⟩
    go_wp2
    go_ret
    exact ⟨rfl, rfl⟩
theorem same_by {a b : Nat} {o : Option Nat} (ha : Is a o) (hb : Is b o) : (nan64 a = true ∧ nan64 b = true) ∨ (a = b ∧ nan64 a = false) := by
  cases o with
  | none => exact .inl ⟨ha.1, hb.1⟩
  | some s => obtain ⟨rfl, h, -⟩ := ha; obtain ⟨rfl, -⟩ := hb; exact .inr ⟨rfl, h⟩
set_option maxHeartbeats 400000 in
theorem same_any (a b : Nat) (w : World) (h : (nan64 a = true ∧ nan64 b = true) ∨ (a = b ∧ nan64 a = false)) : Calls Try.prog 24 #[.float .f64 a, .float .f64 b] w fun e w' => e = .returned (.bool true) ∧ w' = w := by
  have k1 := fun w => Same_any a b w h
  clear h
  go_enter Try.func24, Try.ntmps24
  go_wp2_with fail
  refine (k1 _).mono ?_
  rintro e w1 ⟨rfl, rfl⟩
  go_wp2
  go_ret
  exact ⟨rfl, rfl⟩
end Go.Proofs.Ytdhfkdopcphjlab
