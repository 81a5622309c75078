/-
  What a float of any layout is made of, as plain numbers: its parts, that they tell its bits, and the bits that are made of parts. A layout has p bits of the fraction and k bits of the exponent.
-/
import Derived.WalkKit
import Derived.WalkSmall
import Derived.Laws.BitsAllLaws
namespace Go.Proofs.Ytdhfkdopcphjlab
/-- Parts: kind, sign, mantissa, exponent, quiet, load. -/
structure Pt where
  kind : Int
  neg : Bool
  mant : Nat
  exp : Int
  quiet : Bool
  load : Nat
  deriving DecidableEq
/-- The sign of the bits. -/
def sg (n b : Nat) : Bool := decide (b / 2 ^ n % 2 = 1)
/-- The parts of the float with the bits b. -/
def pt (p k : Nat) (bi : Int) (b : Nat) : Pt :=
  if b / 2 ^ p % 2 ^ k = 2 ^ k - 1 then
    if b % 2 ^ p = 0 then ⟨3, sg (p + k) b, 0, 0, false, 0⟩
    else ⟨4, sg (p + k) b, 0, 0, decide (b % 2 ^ p / 2 ^ (p - 1) = 1), b % 2 ^ p % 2 ^ (p - 1)⟩
  else if b / 2 ^ p % 2 ^ k = 0 then
    if b % 2 ^ p = 0 then ⟨0, sg (p + k) b, 0, 0, false, 0⟩
    else ⟨1, sg (p + k) b, b % 2 ^ p, 1 - bi - p, false, 0⟩
  else ⟨2, sg (p + k) b, 2 ^ p + b % 2 ^ p, (b / 2 ^ p % 2 ^ k : Nat) - bi - p, false, 0⟩
/-- A layout that is reckoned with. -/
structure Lay (p k : Nat) (bi : Int) : Prop where
  p1 : 1 ≤ p
  p52 : p ≤ 52
  k2 : 2 ≤ k
  k11 : k ≤ 11
  bi : bi = 2 ^ (k - 1) - 1
theorem lay64 : Lay 52 11 1023 := ⟨by decide, by decide, by decide, by decide, by decide⟩
theorem lay32 : Lay 23 8 127 := ⟨by decide, by decide, by decide, by decide, by decide⟩
theorem two_cases {n : Nat} (h : n < 2) : n = 0 ∨ n = 1 := by omega
theorem and_low (x n : Nat) : x &&& (2 ^ n - 1) = x % 2 ^ n := Nat.and_two_pow_sub_one_eq_mod x n
theorem pow_le64 {n : Nat} (h : n ≤ 63) : 2 ^ n ≤ 9223372036854775808 := Nat.pow_le_pow_right (n := 2) (i := n) (j := 63) (by omega) h
theorem pow_half {p : Nat} (h : 1 ≤ p) : 2 ^ p = 2 * 2 ^ (p - 1) := by
  obtain ⟨q, rfl⟩ : ∃ q, p = q + 1 := ⟨p - 1, by omega⟩
  rw [Nat.add_sub_cancel, Nat.pow_succ]; omega
theorem andNot_bit (x i : Nat) (hi : i < 64) (hx : x < 2 ^ (i + 1)) : x &&& (18446744073709551615 - 2 ^ i) = x % 2 ^ i := by
  apply Nat.eq_of_testBit_eq
  intro j
  have h2 : (2:Nat) ^ i < 2 ^ 64 := Nat.pow_lt_pow_right (by omega) hi
  have h1 : (18446744073709551615 - 2 ^ i : Nat) = 2 ^ 64 - (2 ^ i + 1) := by omega
  rw [Nat.testBit_and, h1, Nat.testBit_two_pow_sub_succ h2, Nat.testBit_mod_two_pow, Nat.testBit_two_pow]
  by_cases hj : j < i
  · have : ¬ i = j := by omega
    simp [hj, this, show j < 64 by omega]
  · by_cases e : i = j
    · subst e; simp
    · have : x.testBit j = false := Nat.testBit_lt_two_pow (Nat.lt_of_lt_of_le hx (Nat.pow_le_pow_right (by omega) (by omega)))
      simp [hj, this]
theorem sg_lt {n b : Nat} (h : b < 2 ^ n) : sg n b = false := by
  unfold sg; rw [Nat.div_eq_of_lt h]; rfl
/-- The bits, out of three numbers. -/
theorem parts_sum (p k b : Nat) : b % 2 ^ (p + k) = b / 2 ^ p % 2 ^ k * 2 ^ p + b % 2 ^ p := by
  rw [Nat.pow_add, Nat.mod_mul, Nat.mul_comm, Nat.add_comm]
theorem bits_sum {p k b : Nat} (h : b < 2 ^ (p + k + 1)) : b = (if sg (p + k) b then 2 ^ (p + k) else 0) + b / 2 ^ p % 2 ^ k * 2 ^ p + b % 2 ^ p := by
  have h1 := parts_sum p k b
  have h2 := Nat.div_add_mod b (2 ^ (p + k))
  have h3 : b / 2 ^ (p + k) < 2 := Nat.div_lt_of_lt_mul (by rw [Nat.pow_succ] at h; omega)
  unfold sg
  have h4 := two_cases h3
  rcases h4 with h4 | h4 <;> rw [h4] at h2 ⊢ <;> simp <;> omega
/-- What the bits are, by the parts alone. -/
def rung (p k : Nat) (bi : Int) (x : Pt) : Nat :=
  if x.kind = 1 then x.mant
  else if x.kind = 2 then (x.exp + bi + p - 1).toNat * 2 ^ p + x.mant
  else if x.kind = 3 then (2 ^ k - 1) * 2 ^ p
  else if x.kind = 4 then (2 ^ k - 1) * 2 ^ p + ((if x.quiet then 2 ^ (p - 1) else 0) + x.load)
  else 0
theorem rung_pt {p k : Nat} {bi : Int} (L : Lay p k bi) (b : Nat) : b % 2 ^ (p + k) = rung p k bi (pt p k bi b) := by
  rw [parts_sum]
  have hk : 0 < 2 ^ k := Nat.two_pow_pos k
  have hf : b % 2 ^ p < 2 ^ p := Nat.mod_lt _ (Nat.two_pow_pos p)
  unfold pt
  split
  · rename_i he
    rw [he]
    split
    · rename_i hz; simp [rung, hz]
    · simp only [rung]
      have hp := pow_half L.p1
      have hd : b % 2 ^ p / 2 ^ (p - 1) < 2 := Nat.div_lt_of_lt_mul (by omega)
      have hm := Nat.div_add_mod (b % 2 ^ p) (2 ^ (p - 1))
      have h4 := two_cases hd
      rcases h4 with h4 | h4 <;> rw [h4] at hm ⊢ <;> simp <;> omega
  · split
    · rename_i he
      rw [he]
      split
      · rename_i hz; simp [rung, hz]
      · simp [rung]
    · rename_i he
      simp only [rung]
      have h1 : ((b / 2 ^ p % 2 ^ k : Nat) - bi - p + bi + p - 1 : Int).toNat = b / 2 ^ p % 2 ^ k - 1 := by omega
      rw [h1]
      obtain ⟨n, hn⟩ : ∃ n, b / 2 ^ p % 2 ^ k = n + 1 := ⟨b / 2 ^ p % 2 ^ k - 1, by omega⟩
      rw [hn, Nat.add_sub_cancel, Nat.succ_mul]
      simp; omega
theorem neg_pt (p k : Nat) (bi : Int) (b : Nat) : (pt p k bi b).neg = sg (p + k) b := by
  unfold pt; repeat' split
  all_goals rfl
/-- The bits that are made of the parts, where there are such. -/
def back (p k : Nat) (bi : Int) (x : Pt) : Nat := (if x.neg then 2 ^ (p + k) else 0) + rung p k bi x
theorem back_pt {p k : Nat} {bi : Int} (L : Lay p k bi) {b : Nat} (h : b < 2 ^ (p + k + 1)) : back p k bi (pt p k bi b) = b := by
  unfold back
  rw [neg_pt, ← rung_pt L b, parts_sum]
  have := bits_sum h
  omega
theorem pt_inj {p k : Nat} {bi : Int} (L : Lay p k bi) {a b : Nat} (ha : a < 2 ^ (p + k + 1)) (hb : b < 2 ^ (p + k + 1)) (e : pt p k bi a = pt p k bi b) : a = b := by
  rw [← back_pt L ha, ← back_pt L hb, e]
/-- The bits of the float whose parts are these, if there is one. -/
def ofB (p k : Nat) (bi : Int) (x : Pt) : Option Nat :=
  if back p k bi x < 2 ^ (p + k + 1) ∧ pt p k bi (back p k bi x) = x then some (back p k bi x) else none
theorem ofB_pt {p k : Nat} {bi : Int} (L : Lay p k bi) {b : Nat} (h : b < 2 ^ (p + k + 1)) : ofB p k bi (pt p k bi b) = some b := by
  unfold ofB
  rw [back_pt L h, if_pos ⟨h, rfl⟩]
theorem ofB_some {p k : Nat} {bi : Int} (L : Lay p k bi) {b : Nat} {x : Pt} (h : b < 2 ^ (p + k + 1)) (e : pt p k bi b = x) : ofB p k bi x = some b := by
  subst e; exact ofB_pt L h
theorem ofB_lt {p k : Nat} {bi : Int} {b : Nat} {x : Pt} (e : ofB p k bi x = some b) : b < 2 ^ (p + k + 1) ∧ pt p k bi b = x := by
  unfold ofB at e
  split at e
  · rename_i h; cases e; exact h
  · cases e
theorem ofB_none {p k : Nat} {bi : Int} {x : Pt} (e : ∀ b, b < 2 ^ (p + k + 1) → pt p k bi b ≠ x) : ofB p k bi x = none := by
  cases h : ofB p k bi x with
  | none => rfl
  | some b => exact absurd (ofB_lt h).2 (e b (ofB_lt h).1)
end Go.Proofs.Ytdhfkdopcphjlab
