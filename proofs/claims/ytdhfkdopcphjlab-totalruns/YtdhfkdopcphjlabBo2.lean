/-
  The document's rounding is the program's: of the number that is 2^52 times as great, by its own lowest bit, and of 63 bits with what is left told in the last one.
-/
import Derived.Test.YtdhfkdopcphjlabBm
namespace Go.Proofs.Ytdhfkdopcphjlab
/-- Rounding a number with noughts behind. -/
theorem rnd_up (n s c : Nat) : rnd (n * 2 ^ c) (s + c) = rnd n s := by
  have hp := Nat.two_pow_pos c
  unfold rnd
  have e1 : n * 2 ^ c / 2 ^ (s + c) = n / 2 ^ s := by rw [Nat.pow_add, Nat.mul_div_mul_right _ _ hp]
  have e2 : n * 2 ^ c % 2 ^ (s + c) = n % 2 ^ s * 2 ^ c := by rw [Nat.pow_add, Nat.mul_mod_mul_right]
  rw [e1, e2, Nat.pow_add]
  have e3 : (2 ^ s * 2 ^ c < 2 * (n % 2 ^ s * 2 ^ c)) ↔ 2 ^ s < 2 * (n % 2 ^ s) := by rw [← Nat.mul_assoc]; exact Nat.mul_lt_mul_right hp
  have e4 : (2 ^ s * 2 ^ c = 2 * (n % 2 ^ s * 2 ^ c)) ↔ 2 ^ s = 2 * (n % 2 ^ s) := by rw [← Nat.mul_assoc]; exact Nat.mul_left_inj (by omega)
  simp only [e3, e4]
/-- Rounding sees no more of what is cut off than whether it is nothing. -/
theorem rnd_sticky (n c s : Nat) (hs : 2 ≤ s) : rnd (if n % 2 ^ c = 0 then n / 2 ^ c else n / 2 ^ c / 2 * 2 + 1) s = rnd n (s + c) := by
  obtain ⟨t, rfl⟩ : ∃ t, s = t + 2 := ⟨s - 2, by omega⟩
  by_cases h0 : n % 2 ^ c = 0
  · rw [if_pos h0]
    have e : n = n / 2 ^ c * 2 ^ c := by have := Nat.div_add_mod n (2 ^ c); rw [Nat.mul_comm] at this; omega
    conv => rhs; rw [e]
    exact (rnd_up _ _ _).symm
  · rw [if_neg h0]
    have hp := Nat.two_pow_pos c
    have hl := Nat.mod_lt n hp
    have hd := Nat.div_add_mod n (2 ^ c)
    obtain ⟨q, hq⟩ : ∃ q, n / 2 ^ c = q := ⟨_, rfl⟩
    obtain ⟨r, hr⟩ : ∃ r, n % 2 ^ c = r := ⟨_, rfl⟩
    rw [hr] at h0 hl
    rw [hq]
    clear hd
    have a1 : n / 2 ^ (t + 2 + c) = q / 2 ^ (t + 2) := by rw [Nat.add_comm (t + 2), Nat.pow_add, ← Nat.div_div_eq_div_mul, hq]
    have a2 : n % 2 ^ (t + 2 + c) = q % 2 ^ (t + 2) * 2 ^ c + r := by
      rw [Nat.add_comm (t + 2), Nat.pow_add, Nat.mod_mul, hq, hr, Nat.add_comm, Nat.mul_comm]
    have a3 : (2 : Nat) ^ (t + 2) = 2 * (2 * 2 ^ t) := by rw [Nat.pow_succ, Nat.pow_succ]; omega
    have a4 : (q / 2 * 2 + 1) / 2 ^ (t + 2) = q / 2 ^ (t + 2) := by
      rw [a3, ← Nat.div_div_eq_div_mul, ← Nat.div_div_eq_div_mul q]
      congr 1
      omega
    have a5 : (q / 2 * 2 + 1) % 2 ^ (t + 2) = q % 2 ^ (t + 2) / 2 * 2 + 1 := by
      rw [a3, Nat.mod_mul, Nat.mod_mul (x := q)]
      have : (q / 2 * 2 + 1) / 2 = q / 2 := by omega
      rw [this]
      generalize q / 2 % (2 * 2 ^ t) = X
      omega
    unfold rnd
    rw [a1, a2, a4, a5, Nat.pow_add 2 (t + 2) c]
    have hm := Nat.mod_lt q (Nat.two_pow_pos (t + 2))
    have hT := Nat.two_pow_pos t
    clear a1 a2 a4 a5 hq hr
    generalize q / 2 ^ (t + 2) = Y at *
    generalize q % 2 ^ (t + 2) = x at *
    rw [a3] at hm ⊢
    clear a3
    generalize 2 ^ t = T at *
    generalize 2 ^ c = P at *
    have key : (2 * (2 * T) * P < 2 * (x * P + r)) ↔ 2 * (2 * T) < 2 * (x / 2 * 2 + 1) := by
      have m1 : 2 * T ≤ x → 2 * T * P ≤ x * P := fun h => Nat.mul_le_mul_right _ h
      have m2 : x + 1 ≤ 2 * T → (x + 1) * P ≤ 2 * T * P := fun h => Nat.mul_le_mul_right _ h
      rw [Nat.add_mul, Nat.one_mul] at m2
      rw [show 2 * (2 * T) * P = 2 * (2 * T * P) by rw [Nat.mul_assoc]]
      constructor
      · intro h
        refine Nat.lt_of_not_le fun h' => ?_
        have := m2 (by omega)
        omega
      · intro h
        have := m1 (by omega)
        omega
    have key2 : ¬ (2 * (2 * T) * P = 2 * (x * P + r)) := by
      have m1 : 2 * T ≤ x → 2 * T * P ≤ x * P := fun h => Nat.mul_le_mul_right _ h
      have m2 : x + 1 ≤ 2 * T → (x + 1) * P ≤ 2 * T * P := fun h => Nat.mul_le_mul_right _ h
      rw [Nat.add_mul, Nat.one_mul] at m2
      rw [show 2 * (2 * T) * P = 2 * (2 * T * P) by rw [Nat.mul_assoc]]
      intro h
      rcases Nat.lt_or_ge x (2 * T) with c | c
      · have := m2 c; omega
      · have := m1 c; omega
    have key3 : ¬ (2 * (2 * T) = 2 * (x / 2 * 2 + 1)) := by omega
    simp only [key, key2, key3, false_and, or_false]
theorem mant_len {n : Nat} (h : n ≠ 0) : lenN (mantF n) + cutF n = lenN n := by
  have h1 := lenN_le h
  have h2 := lenN_lt n
  have hl : 1 ≤ lenN n := by unfold lenN; rw [if_neg h]; omega
  have hcd : cutF n = lenN n - 63 := rfl
  generalize hL : lenN n = l at *
  by_cases c : l ≤ 63
  · have e : cutF n = 0 := by omega
    have em : mantF n = n := by unfold mantF; rw [e, Nat.pow_zero, Nat.mod_one, if_pos rfl, Nat.div_one]
    rw [em, e, hL]
    omega
  · have q1 : 4611686018427387904 ≤ n / 2 ^ cutF n := by
      refine (Nat.le_div_iff_mul_le (Nat.two_pow_pos _)).2 ?_
      rw [show (4611686018427387904 : Nat) = 2 ^ 62 from rfl, ← Nat.pow_add, show 62 + cutF n = l - 1 by omega]
      exact h1
    have q2 := cut_lt n
    have q3 : 2 ^ 62 ≤ mantF n ∧ mantF n < 2 ^ (62 + 1) := by
      rw [show (2 : Nat) ^ 62 = 4611686018427387904 from rfl, show (2 : Nat) ^ (62 + 1) = 9223372036854775808 from rfl]
      unfold mantF
      split <;> omega
    rw [lenN_is q3.1 q3.2]
    omega
set_option maxHeartbeats 400000 in
/-- The two roundings are one. -/
theorem rd_near (n : Nat) : rdB (n * 2 ^ 52) = nearB 52 11 1023 (mantF n) ((cutF n : Int) - 2148) := by
  by_cases h0 : n = 0
  · subst h0
    rw [mant_zero]
    unfold rdB nearB
    rw [Nat.zero_mul, if_pos rfl, if_pos rfl]
  have hm := mant_lt n
  have hlen : lenN (n * 2 ^ 52) = lenN n + 52 := by
    have h1 := lenN_le h0
    have h2 := lenN_lt n
    have hl : 1 ≤ lenN n := by unfold lenN; rw [if_neg h0]; omega
    have := lenN_is (n := n * 2 ^ 52) (l := lenN n - 1 + 52) (by rw [Nat.pow_add]; exact Nat.mul_le_mul_right _ h1) (by rw [show lenN n - 1 + 52 + 1 = lenN n + 52 by omega, Nat.pow_add]; exact Nat.mul_lt_mul_of_pos_right h2 (Nat.two_pow_pos _))
    omega
  have hN0 : ¬ n * 2 ^ 52 = 0 := fun h => by rcases Nat.mul_eq_zero.1 h with h | h; exact h0 h; exact absurd h (by decide)
  have hlow : lowR (n * 2 ^ 52) = max (lenN n - 53) 1074 + 52 := by unfold lowR; rw [hlen]; omega
  obtain ⟨s, hs⟩ : ∃ s, max (lenN n - 53) 1074 = s := ⟨_, rfl⟩
  rw [hs] at hlow
  have hml := mant_len h0
  have hbl := bitLen_is (mantF n) (by omega)
  have hmp := mant_pos h0
  have hcd : cutF n = lenN n - 63 := rfl
  unfold rdB nearB
  rw [if_neg hN0, hlow, rnd_up, if_neg (by omega), hbl]
  have hin : inU (mantF n) (max ((cutF n : Int) - 2148 + (lenN (mantF n) : Nat) - 1 - ((52 : Nat) : Int)) (1 - 1023 - ((52 : Nat) : Int)) - ((cutF n : Int) - 2148)) = rnd n s := by
    have e1 : max ((cutF n : Int) - 2148 + (lenN (mantF n) : Nat) - 1 - ((52 : Nat) : Int)) (1 - 1023 - ((52 : Nat) : Int)) - ((cutF n : Int) - 2148) = ((s - cutF n : Nat) : Int) := by omega
    rw [e1]
    unfold inU
    rw [if_neg (by omega), Int.toNat_natCast]
    have := rnd_sticky n (cutF n) (s - cutF n) (by omega)
    rw [show s - cutF n + cutF n = s by omega] at this
    exact this
  rw [hin]
  have hX1 : rnd n s ≤ 9007199254740992 := by
    have h1 := rnd_le n s
    have h2 : n / 2 ^ s < 9007199254740992 := top_small (lenN_lt n) (by omega)
    omega
  have hX2 : 1074 < s → 4503599627370496 ≤ rnd n s := fun h => by
    have h1 : 4503599627370496 ≤ n / 2 ^ s := by
      refine (Nat.le_div_iff_mul_le (Nat.two_pow_pos _)).2 ?_
      rw [show (4503599627370496 : Nat) = 2 ^ 52 from rfl, ← Nat.pow_add]
      exact Nat.le_trans (Nat.pow_le_pow_right (by decide) (by omega)) (lenN_le h0)
    unfold rnd
    split <;> omega
  have eT : (max ((cutF n : Int) - 2148 + (lenN (mantF n) : Nat) - 1 - ((52 : Nat) : Int)) (1 - 1023 - ((52 : Nat) : Int)) - (1 - 1023 - ((52 : Nat) : Int))).toNat = s - 1074 := by omega
  rw [eT, show (2 : Nat) ^ 52 = 4503599627370496 from rfl, show (2 : Nat) ^ 11 = 2048 from rfl]
  have c0 : (1023 < (cutF n : Int) - 2148 + (lenN (mantF n) : Nat) - 1) ↔ 3120 ≤ s := by omega
  simp only [c0]
  clear hin eT c0 hlow hlen hN0
  generalize rnd n s = X at *
  unfold scB
  by_cases c1 : 9007199254740992 ≤ X
  · rw [if_pos c1]
    by_cases c2 : 3119 ≤ s
    · rw [if_pos (by omega)]
      split <;> omega
    · rw [if_neg (by omega), if_neg (by omega)]
      omega
  · rw [if_neg c1]
    by_cases c2 : X < 4503599627370496
    · rw [if_pos c2, if_neg (by omega)]
      omega
    · rw [if_neg c2]
      by_cases c3 : 3120 ≤ s
      · rw [if_pos (by omega), if_pos c3]
      · rw [if_neg (by omega), if_neg c3]
        omega
end Go.Proofs.Ytdhfkdopcphjlab
