/-
  How floats are compared, by their bits: of two that are numbers the order is that of their places (the bits without the sign, with the sign); of one that is none there is no order. For every format with at least one bit of the exponent.
-/
import Ieee.Arith
import Derived.WalkKit
import Derived.WalkSmall
namespace Go.Proofs.Ytdhfkdopcphjlab
open Ieee
def sgn (s : Bool) (n : Nat) : Int := if s then -(n : Int) else n
/-- The place of a float among all. -/
def plc (f : Format) (w : Nat) : Int := sgn (w / f.signWeight % 2 == 1) (w % f.signWeight)
def isN (f : Format) (w : Nat) : Bool := decide (f.infRung < w % f.signWeight)
/-- How much the rung r is, in the least units. -/
def vr (B r : Nat) : Nat := if r < B then r else (B + r % B) * 2 ^ (r / B - 1)
theorem vr_succ (B r : Nat) (hB : 0 < B) : vr B r < vr B (r + 1) := by
  have hd := Nat.div_add_mod r B
  have hm := Nat.mod_lt r hB
  obtain ⟨q, hq⟩ : ∃ q, r / B = q := ⟨_, rfl⟩
  obtain ⟨m, hm'⟩ : ∃ m, r % B = m := ⟨_, rfl⟩
  rw [hq, hm'] at hd
  rw [hm'] at hm
  by_cases h0 : r < B
  · by_cases h1 : r + 1 < B
    · simp [vr, h0, h1]
    · have e : r + 1 = B := by omega
      simp only [vr, h0, if_true, e, Nat.lt_irrefl, if_false, Nat.mod_self, Nat.div_self hB]
      simp; omega
  · have h1 : ¬ r + 1 < B := by omega
    have hq1 : 1 ≤ q := by rw [← hq]; exact (Nat.one_le_div_iff hB).2 (by omega)
    simp only [vr, h0, h1, if_false]
    by_cases hs : m + 1 < B
    · have e1 : (r + 1) / B = q := by
        rw [Nat.div_eq_iff hB]
        rw [Nat.mul_comm] at hd
        constructor <;> omega
      have e2 : (r + 1) % B = m + 1 := by
        have := Nat.div_add_mod (r + 1) B
        rw [e1] at this; omega
      rw [e1, e2, hq, hm']
      exact Nat.mul_lt_mul_of_pos_right (by omega) (Nat.two_pow_pos _)
    · have e0 : r + 1 = B * (q + 1) := by rw [Nat.mul_succ]; omega
      have e1 : (r + 1) / B = q + 1 := by rw [e0, Nat.mul_div_cancel_left _ hB]
      have e2 : (r + 1) % B = 0 := by rw [e0, Nat.mul_mod_right]
      rw [e1, e2, hq, hm']
      obtain ⟨n, rfl⟩ : ∃ n, q = n + 1 := ⟨q - 1, by omega⟩
      simp only [Nat.add_sub_cancel, Nat.add_zero]
      rw [Nat.pow_succ, ← Nat.mul_assoc, Nat.mul_comm (B * 2 ^ n) 2, ← Nat.mul_assoc]
      exact Nat.mul_lt_mul_of_pos_right (by omega) (Nat.two_pow_pos _)
theorem vr_lt (B : Nat) (hB : 0 < B) {r s : Nat} (h : r < s) : vr B r < vr B s := by
  induction s with
  | zero => omega
  | succ s ih =>
    rcases Nat.lt_or_eq_of_le (Nat.le_of_lt_succ h) with h1 | h1
    · exact Nat.lt_trans (ih h1) (vr_succ B s hB)
    · subst h1; exact vr_succ B r hB
theorem vr_zero (B : Nat) (hB : 0 < B) : vr B 0 = 0 := by simp [vr, hB]
theorem cmp_of {a b c d : Int} (h1 : a < b ↔ c < d) (h2 : a = b ↔ c = d) : compare a b = compare c d := by
  simp only [compare, compareOfLessAndEq, h1, h2]
theorem sgn_vr (B : Nat) (hB : 0 < B) (s t : Bool) (r q : Nat) : compare (sgn s (vr B r)) (sgn t (vr B q)) = compare (sgn s r) (sgn t q) := by
  have z := vr_zero B hB
  have p1 : 0 < r → 0 < vr B r := fun h => by have := vr_lt B hB h; omega
  have p2 : 0 < q → 0 < vr B q := fun h => by have := vr_lt B hB h; omega
  have t1 : r < q → vr B r < vr B q := vr_lt B hB
  have t2 : q < r → vr B q < vr B r := vr_lt B hB
  have t3 : r = q → vr B r = vr B q := fun h => by rw [h]
  have t4 : r = 0 → vr B r = 0 := fun h => by rw [h, z]
  have t5 : q = 0 → vr B q = 0 := fun h => by rw [h, z]
  generalize vr B r = x at *
  generalize vr B q = y at *
  clear z hB
  cases s <;> cases t <;> refine cmp_of ?_ ?_ <;> simp only [sgn, if_true, if_false, Bool.false_eq_true] <;> omega
theorem signed_shift (s : Bool) (m u c : Nat) : signed s m u * (2 : Int) ^ c = sgn s (m * 2 ^ (u + c)) := by
  have h : ((m <<< u : Nat) : Int) * (2 : Int) ^ c = ((m * 2 ^ (u + c) : Nat) : Int) := by
    rw [Nat.shiftLeft_eq, Nat.pow_add, ← Nat.mul_assoc]
    push_cast; rfl
  cases s
  · simp only [signed, sgn, Bool.false_eq_true, if_false]; exact h
  · simp only [signed, sgn, if_true]; rw [Int.neg_mul, h]
theorem cmp_scale (a b : Int) (c : Nat) : compare (a * (2 : Int) ^ c) (b * (2 : Int) ^ c) = compare a b := by
  have hp : (0 : Int) < 2 ^ c := Int.pow_pos (by omega)
  refine cmp_of ⟨fun h => Int.lt_of_mul_lt_mul_right h (Int.le_of_lt hp), fun h => Int.mul_lt_mul_of_pos_right h hp⟩ ⟨fun h => Int.eq_of_mul_eq_mul_right (by omega) h, fun h => by rw [h]⟩
theorem binade_pos (f : Format) : 0 < f.binade := Nat.two_pow_pos _
theorem read_fin (f : Format) (w : Nat) (h : w % f.signWeight < f.infRung) : ∃ m i, f.read w = .number (w / f.signWeight % 2 == 1) m i ∧ f.leastPlace ≤ i ∧ m * 2 ^ (i - f.leastPlace).toNat = vr f.binade (w % f.signWeight) := by
  unfold Format.read
  dsimp only
  by_cases h1 : w % f.signWeight < f.binade
  · rw [if_pos h1]
    refine ⟨_, _, rfl, Int.le_refl _, ?_⟩
    rw [Int.sub_self]; simp [vr, h1]
  · rw [if_neg h1, if_pos h]
    refine ⟨_, _, rfl, by omega, ?_⟩
    rw [vr, if_neg h1]
    congr 2
    omega
theorem order_fin (f : Format) (s t : Bool) (m n : Nat) (i j : Int) (hi : f.leastPlace ≤ i) (hj : f.leastPlace ≤ j) :
    (Datum.number s m i).order (.number t n j) = some (compare (sgn s (m * 2 ^ (i - f.leastPlace).toNat)) (sgn t (n * 2 ^ (j - f.leastPlace).toNat))) := by
  simp only [Datum.order]
  rw [← cmp_scale _ _ (min i j - f.leastPlace).toNat, signed_shift, signed_shift]
  congr 6 <;> omega
theorem order_nan_left (f : Format) (hk : 1 ≤ f.exponentBits) {a : Nat} (h : isN f a = true) (b : Nat) : f.order a b = none := by
  have h := of_decide_eq_true h
  have hk' : 2 ≤ 2 ^ f.exponentBits := Nat.pow_le_pow_right (n := 2) (i := 1) (by omega) hk
  have h0 : f.binade ≤ f.infRung := by unfold Format.infRung; exact Nat.le_mul_of_pos_left _ (by omega)
  unfold Format.order
  have : f.read a = .nan (a / f.signWeight % 2 == 1) (a % f.signWeight - f.infRung) := by
    unfold Format.read; dsimp only
    rw [if_neg (by omega), if_neg (by omega), if_neg (by omega)]
  rw [this]; rfl
theorem order_nan_right (f : Format) (hk : 1 ≤ f.exponentBits) (a : Nat) {b : Nat} (h : isN f b = true) : f.order a b = none := by
  have h := of_decide_eq_true h
  have hk' : 2 ≤ 2 ^ f.exponentBits := Nat.pow_le_pow_right (n := 2) (i := 1) (by omega) hk
  have h0 : f.binade ≤ f.infRung := by unfold Format.infRung; exact Nat.le_mul_of_pos_left _ (by omega)
  unfold Format.order
  have : f.read b = .nan (b / f.signWeight % 2 == 1) (b % f.signWeight - f.infRung) := by
    unfold Format.read; dsimp only
    rw [if_neg (by omega), if_neg (by omega), if_neg (by omega)]
  rw [this]
  cases f.read a <;> rfl
theorem read_inf (f : Format) (hk : 1 ≤ f.exponentBits) {w : Nat} (h : w % f.signWeight = f.infRung) : f.read w = .infinity (w / f.signWeight % 2 == 1) := by
  have hk' : 2 ≤ 2 ^ f.exponentBits := Nat.pow_le_pow_right (n := 2) (i := 1) (by omega) hk
  have h0 : f.binade ≤ f.infRung := by unfold Format.infRung; exact Nat.le_mul_of_pos_left _ (by omega)
  unfold Format.read; dsimp only
  rw [if_neg (by omega), if_neg (by omega), if_pos h]
/-- Of two numbers the order is that of their places. -/
theorem order_num (f : Format) (hk : 1 ≤ f.exponentBits) {a b : Nat} (ha : isN f a = false) (hb : isN f b = false) : f.order a b = some (compare (plc f a) (plc f b)) := by
  have ha := of_decide_eq_false ha
  have hb := of_decide_eq_false hb
  have hk' : 2 ≤ 2 ^ f.exponentBits := Nat.pow_le_pow_right (n := 2) (i := 1) (by omega) hk
  have hB := binade_pos f
  have h0 : f.binade ≤ f.infRung := by unfold Format.infRung; exact Nat.le_mul_of_pos_left _ (by omega)
  unfold Format.order
  by_cases a1 : a % f.signWeight < f.infRung <;> by_cases b1 : b % f.signWeight < f.infRung
  · obtain ⟨m, i, r1, l1, v1⟩ := read_fin f a a1
    obtain ⟨n, j, r2, l2, v2⟩ := read_fin f b b1
    rw [r1, r2, order_fin f _ _ _ _ _ _ l1 l2, v1, v2, sgn_vr _ hB]; rfl
  · obtain ⟨m, i, r1, l1, v1⟩ := read_fin f a a1
    have b2 : b % f.signWeight = f.infRung := by omega
    rw [r1, read_inf f hk b2]
    simp only [Datum.order, plc, b2]
    generalize (a / f.signWeight % 2 == 1) = s
    generalize (b / f.signWeight % 2 == 1) = t
    congr 1
    simp only [compare, compareOfLessAndEq]
    cases s <;> cases t <;> simp [sgn] <;> (repeat' split) <;> first | rfl | omega
  · obtain ⟨n, j, r2, l2, v2⟩ := read_fin f b b1
    have a2 : a % f.signWeight = f.infRung := by omega
    rw [r2, read_inf f hk a2]
    simp only [Datum.order, plc, a2]
    generalize (a / f.signWeight % 2 == 1) = s
    generalize (b / f.signWeight % 2 == 1) = t
    congr 1
    simp only [compare, compareOfLessAndEq]
    cases s <;> cases t <;> simp [sgn] <;> (repeat' split) <;> first | rfl | omega
  · have a2 : a % f.signWeight = f.infRung := by omega
    have b2 : b % f.signWeight = f.infRung := by omega
    rw [read_inf f hk a2, read_inf f hk b2]
    simp only [Datum.order, plc, a2, b2]
    generalize (a / f.signWeight % 2 == 1) = s
    generalize (b / f.signWeight % 2 == 1) = t
    congr 1
    simp only [compare, compareOfLessAndEq]
    cases s <;> cases t <;> simp [sgn] <;> (repeat' split) <;> first | rfl | omega
end Go.Proofs.Ytdhfkdopcphjlab
