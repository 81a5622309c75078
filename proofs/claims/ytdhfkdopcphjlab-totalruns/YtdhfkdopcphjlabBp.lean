/-
  What the document's Exact needs: infinite, what plus adds to the number, what a float adds to the program's sum and flags. Conditions: the floats are of 64 bits.
-/
import Derived.Test.YtdhfkdopcphjlabBn
import Derived.Test.YtdhfkdopcphjlabBo2
namespace Go.Proofs.Ytdhfkdopcphjlab
open Go.RowKit
def infB (b : Nat) : Bool := decide (b % 9223372036854775808 = 9218868437227405312)
def nulB (b : Nat) : Bool := decide (b % 9223372036854775808 = 0)
theorem ord_max {b : Nat} (hb : b < 18446744073709551616) (hn : nan64 b = false) : FloatKind.f64.format.order b 9218868437227405311 = some (compare (plc64 b) 9218868437227405311) := order_is hb (by decide) hn (by decide)
theorem ord_min {b : Nat} (hb : b < 18446744073709551616) (hn : nan64 b = false) : FloatKind.f64.format.order b 18442240474082181119 = some (compare (plc64 b) (-9218868437227405311)) := order_is hb (by decide) hn (by decide)
theorem ord_nul {b : Nat} (hb : b < 18446744073709551616) (hn : nan64 b = false) : FloatKind.f64.format.order b 0 = some (compare (plc64 b) 0) := order_is hb (by decide) hn (by decide)
theorem cmp_lt {a b : Int} (h : a < b) : compare a b = .lt := by simp [compare, compareOfLessAndEq, h]
theorem cmp_eq {a b : Int} (h : a = b) : compare a b = .eq := by subst h; exact cmp_self _
theorem cmp_gt {a b : Int} (h : b < a) : compare a b = .gt := by
  have h1 : ¬ a < b := by omega
  have h2 : ¬ a = b := by omega
  simp [compare, compareOfLessAndEq, h1, h2]
set_option maxHeartbeats 400000 in
theorem infinite_doc (b : Nat) (w : World) (hb : b < 18446744073709551616) (hn : nan64 b = false) : Calls Try.prog 57 #[.float .f64 b] w fun e w' => e = .returned (.bool (infB b)) ∧ w' = w := by
  have o1 := ord_max hb hn
  have o2 := ord_min hb hn
  have hn2 := nan64_is hb
  rw [hn] at hn2
  have hn3 : b % 9223372036854775808 ≤ 9218868437227405312 := by
    have := (decide_eq_false_iff_not.1 hn2.symm)
    omega
  unfold plc64 at o1 o2
  by_cases c : b % 9223372036854775808 = 9218868437227405312
  · have hi : infB b = true := decide_eq_true c
    rw [hi]
    by_cases s : b < 9223372036854775808
    · rw [if_pos s, cmp_gt (by omega)] at o1
      clear o2 hn2 hn3 hi c s hb hn
      go_enter Try.func57, Try.ntmps57
      go_wp2
      go_ret
      exact ⟨rfl, rfl⟩
    · rw [if_neg s, cmp_lt (by omega)] at o1 o2
      clear hn2 hn3 hi c s hb hn
      go_enter Try.func57, Try.ntmps57
      go_wp2
      go_ret
      exact ⟨rfl, rfl⟩
  · have hi : infB b = false := decide_eq_false c
    rw [hi]
    have a1 : compare (if b < 9223372036854775808 then (b : Int) else -((b : Int) - 9223372036854775808)) 9218868437227405311 = .lt ∨ compare (if b < 9223372036854775808 then (b : Int) else -((b : Int) - 9223372036854775808)) 9218868437227405311 = .eq := by
      by_cases q : (if b < 9223372036854775808 then (b : Int) else -((b : Int) - 9223372036854775808)) < 9218868437227405311
      · exact .inl (cmp_lt q)
      · refine .inr (cmp_eq ?_)
        split at q <;> rename_i s
        · rw [if_pos s]; omega
        · rw [if_neg s]; omega
    have a2 : compare (if b < 9223372036854775808 then (b : Int) else -((b : Int) - 9223372036854775808)) (-9218868437227405311) = .gt ∨ compare (if b < 9223372036854775808 then (b : Int) else -((b : Int) - 9223372036854775808)) (-9218868437227405311) = .eq := by
      by_cases q : -9218868437227405311 < (if b < 9223372036854775808 then (b : Int) else -((b : Int) - 9223372036854775808))
      · exact .inl (cmp_gt q)
      · refine .inr (cmp_eq ?_)
        split at q <;> rename_i s
        · rw [if_pos s]; omega
        · rw [if_neg s]; omega
    rcases a1 with a1 | a1 <;> rcases a2 with a2 | a2 <;> rw [a1] at o1 <;> rw [a2] at o2 <;> clear a1 a2 hn2 hn3 hi c hb hn
    all_goals
      go_enter Try.func57, Try.ntmps57
      go_wp2
      go_ret
      exact ⟨rfl, rfl⟩
/-! ### what plus adds -/
theorem sgd_mul (ng : Bool) (a c : Int) : sgd ng a * c = sgd ng (a * c) := by cases ng <;> simp [sgd, Int.neg_mul]
theorem sgd_add (ng : Bool) (a b : Int) : sgd ng a + sgd ng b = sgd ng (a + b) := by cases ng <;> simp [sgd]; omega
theorem plW_step (f : Nat → Int) (k L : Nat) (ng : Bool) (i n : Nat) (h : k + i < n) : bigV (plW f k L ng (i + 1)) n = bigV (plW f k L ng i) n + sgd ng ((dgt L i * 65536 ^ (k + i) : Nat) : Int) := by
  show bigV (upd _ _ _) n = _
  rw [bigV_upd, if_pos h, Int.natCast_mul, ← sgd_mul]
  congr 2
  omega
theorem four {L : Nat} (h : L < 18446744073709551616) : dgt L 0 + dgt L 1 * 65536 + dgt L 2 * 4294967296 + dgt L 3 * 281474976710656 = L := by
  unfold dgt
  rw [Nat.pow_zero, Nat.pow_one, show (65536 : Nat) ^ 2 = 4294967296 from rfl, show (65536 : Nat) ^ 3 = 281474976710656 from rfl]
  omega
theorem hi_low (m s : Nat) (hs : s ≤ 64) (hm : m < 18446744073709551616) : m * 2 ^ s % 18446744073709551616 + hiF m s * 18446744073709551616 = m * 2 ^ s := by
  unfold hiF
  by_cases c : s = 0
  · subst c
    rw [if_pos rfl, Nat.pow_zero]
    omega
  · rw [if_neg c]
    have e : m * 2 ^ s / 18446744073709551616 = m / 2 ^ (64 - s) := by
      rw [show (18446744073709551616 : Nat) = 2 ^ (64 - s) * 2 ^ s by rw [← Nat.pow_add, show 64 - s + s = 64 by omega]]
      exact Nat.mul_div_mul_right _ _ (Nat.two_pow_pos _)
    rw [← e]
    have := Nat.div_add_mod (m * 2 ^ s) 18446744073709551616
    omega
theorem plus_val (f : Nat → Int) (m A : Nat) (ng : Bool) (n : Nat) (hm : m < 18446744073709551616) (hA : A / 16 + 4 < n) : bigV (plF f (A / 16) (m * 2 ^ (A % 16) % 18446744073709551616) (hiF m (A % 16)) ng) n = bigV f n + sgd ng ((m * 2 ^ A : Nat) : Int) := by
  have h1 := hi_low m (A % 16) (by omega) hm
  have h2 := four (L := m * 2 ^ (A % 16) % 18446744073709551616) (Nat.mod_lt _ (by decide))
  have h3 : (2 : Nat) ^ A = 65536 ^ (A / 16) * 2 ^ (A % 16) := by rw [← pow16]; congr 1; omega
  have h4 : m * 2 ^ A = 65536 ^ (A / 16) * (m * 2 ^ (A % 16)) := by rw [h3, ← Nat.mul_assoc, Nat.mul_comm m, Nat.mul_assoc]
  rw [h4]
  clear h3 h4
  generalize hiF m (A % 16) = H at *
  generalize m * 2 ^ (A % 16) % 18446744073709551616 = L at *
  generalize m * 2 ^ (A % 16) = X at *
  generalize A / 16 = k at *
  unfold plF
  rw [bigV_upd, if_pos hA, plW_far f k L ng 4 (k + 4) (Nat.le_refl _), plW_step _ _ _ _ _ _ (by omega), plW_step _ _ _ _ _ _ (by omega), plW_step _ _ _ _ _ _ (by omega), plW_step _ _ _ _ _ _ (by omega)]
  show bigV f n + _ + _ + _ + _ + _ = _
  rw [show f (k + 4) + sgd ng (H : Nat) - f (k + 4) = sgd ng (H : Nat) by omega, sgd_mul, ← Int.natCast_mul]
  rw [Int.add_assoc, Int.add_assoc, Int.add_assoc, Int.add_assoc, sgd_add, sgd_add, sgd_add, sgd_add]
  congr 2
  rw [← Int.natCast_add, ← Int.natCast_add, ← Int.natCast_add, ← Int.natCast_add]
  congr 1
  rw [Nat.add_zero, Nat.pow_add 65536 k 1, Nat.pow_add 65536 k 2, Nat.pow_add 65536 k 3, Nat.pow_add 65536 k 4, Nat.pow_one, show (65536 : Nat) ^ 2 = 4294967296 from rfl, show (65536 : Nat) ^ 3 = 281474976710656 from rfl, show (65536 : Nat) ^ 4 = 18446744073709551616 from rfl]
  generalize 65536 ^ k = P
  generalize dgt L 0 = d0 at *
  generalize dgt L 1 = d1 at *
  generalize dgt L 2 = d2 at *
  generalize dgt L 3 = d3 at *
  rw [← h1, ← h2]
  rw [Nat.mul_comm P (_ + _), Nat.add_mul, Nat.add_mul, Nat.add_mul, Nat.add_mul, ← Nat.mul_assoc, ← Nat.mul_assoc, ← Nat.mul_assoc, ← Nat.mul_assoc, Nat.mul_right_comm d1 65536 P, Nat.mul_right_comm d2 4294967296 P, Nat.mul_right_comm d3 281474976710656 P, Nat.mul_right_comm H 18446744073709551616 P]
  omega
theorem sgd_abs (ng : Bool) (d : Nat) : -(d : Int) ≤ sgd ng (d : Int) ∧ sgd ng (d : Int) ≤ d := by cases ng <;> simp [sgd] <;> omega
theorem plW_near (f : Nat → Int) (k L : Nat) (ng : Bool) : ∀ i j, f j - 65536 ≤ plW f k L ng i j ∧ plW f k L ng i j ≤ f j + 65536
  | 0, j => by show f j - 65536 ≤ f j ∧ f j ≤ f j + 65536; omega
  | i + 1, j => by
    show f j - 65536 ≤ upd _ _ _ j ∧ upd _ _ _ j ≤ f j + 65536
    unfold upd
    by_cases e : j = k + i
    · subst e
      have h1 := plW_far f k L ng i (k + i) (Nat.le_refl _)
      have h2 := dgt_lt L i
      have h3 := sgd_abs ng (dgt L i)
      rw [if_pos rfl, h1]
      omega
    · rw [if_neg e]
      exact plW_near f k L ng i j
theorem plF_near (f : Nat → Int) (k L H : Nat) (ng : Bool) (hH : H ≤ 65536) (j : Nat) : f j - 65536 ≤ plF f k L H ng j ∧ plF f k L H ng j ≤ f j + 65536 := by
  unfold plF upd
  by_cases e : j = k + 4
  · subst e
    have h3 := sgd_abs ng H
    rw [if_pos rfl]
    omega
  · rw [if_neg e]
    exact plW_near f k L ng 4 j
theorem hi_small (m s : Nat) (hs : s < 16) (hm : m < 18446744073709551616) : hiF m s ≤ 65536 := by
  unfold hiF
  split
  · omega
  · have h1 : 2 ^ 64 ≤ 2 ^ (64 - s) * 65536 := by
      rw [show (65536 : Nat) = 2 ^ 16 from rfl, ← Nat.pow_add]
      exact Nat.pow_le_pow_right (by omega) (by omega)
    refine Nat.le_of_lt (Nat.div_lt_of_lt_mul ?_)
    rw [show (2 : Nat) ^ 64 = 18446744073709551616 from rfl] at h1
    omega
end Go.Proofs.Ytdhfkdopcphjlab
