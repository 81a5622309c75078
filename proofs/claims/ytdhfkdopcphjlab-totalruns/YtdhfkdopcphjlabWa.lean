/-
  The loops of the document's Rounded, by the numbers that stand in them.
-/
import Derived.Test.YtdhfkdopcphjlabRq
namespace Go.Proofs.Ytdhfkdopcphjlab
open Go.RowKit
def hfN (n : Nat) : Nat → Bool
  | 0 => false
  | j + 1 => n / 2 ^ j % 2 == 1
def skN (n : Nat) : Nat → Bool
  | 0 => false
  | j + 1 => skN n j || hfN n j
theorem u64_wrap' (n : Int) : IntKind.u64.wrap n = n % 18446744073709551616 := by simp [IntKind.wrap, IntKind.bits, IntKind.signed]
theorem wp_of_then {K : Act → World → Prop} {Q : Exit → Act → World → Prop} {a : Act} {w : World} (h : K a w) : Exit.then K Q .normal a w := h
theorem bitE (a : Nat) (h : a < 18446744073709551616) : (bits .and .u64 (a : Int) 1 == 1) = (a % 2 == 1) := by
  rw [bit0 a h]
  rcases two_cases (Nat.mod_lt a (by omega : 2 > 0)) with h | h <;> rw [h] <;> rfl
theorem low_split (n j : Nat) : n % 2 ^ (j + 1) = n / 2 ^ j % 2 * 2 ^ j + n % 2 ^ j := by
  rw [Nat.pow_succ, Nat.mod_mul, Nat.mul_comm (2 ^ j), Nat.add_comm]
theorem lost (n : Nat) : ∀ j, (hfN n j = true ∨ skN n j = true) ↔ n % 2 ^ j ≠ 0
  | 0 => by simp [hfN, skN, Nat.mod_one]
  | j + 1 => by
    have ih := lost n j
    have hp := Nat.two_pow_pos j
    have e1 : skN n (j + 1) = (skN n j || hfN n j) := rfl
    have e2 : hfN n (j + 1) = (n / 2 ^ j % 2 == 1) := rfl
    rw [low_split, e1, e2]
    have hs : ((skN n j || hfN n j) = true) ↔ n % 2 ^ j ≠ 0 := by
      rw [← ih, Bool.or_eq_true]; exact Or.comm
    rw [hs]
    rcases two_cases (Nat.mod_lt (n / 2 ^ j) (by omega : 2 > 0)) with h | h <;> rw [h] <;> simp <;> omega
/-- Half, and something behind it. -/
theorem round_is (n j : Nat) : rnd n (j + 1) = n / 2 ^ (j + 1) + (if (hfN n (j + 1) && (skN n (j + 1) || n / 2 ^ (j + 1) % 2 == 1)) = true then 1 else 0) := by
  have hp := Nat.two_pow_pos j
  have hps : 2 ^ (j + 1) = 2 * 2 ^ j := by rw [Nat.pow_succ]; omega
  have hl := Nat.mod_lt n hp
  have hs : (skN n (j + 1) = true) ↔ n % 2 ^ j ≠ 0 := by
    have e1 : skN n (j + 1) = (skN n j || hfN n j) := rfl
    rw [e1, ← lost n j, Bool.or_eq_true]; exact Or.comm
  have e2 : hfN n (j + 1) = (n / 2 ^ j % 2 == 1) := rfl
  have hsp := low_split n j
  unfold rnd
  rw [hsp, e2]
  generalize n / 2 ^ (j + 1) = q
  rcases two_cases (Nat.mod_lt (n / 2 ^ j) (by omega : 2 > 0)) with h | h
  · rw [h]
    have c : ¬ (2 ^ (j + 1) < 2 * (0 * 2 ^ j + n % 2 ^ j) ∨ 2 ^ (j + 1) = 2 * (0 * 2 ^ j + n % 2 ^ j) ∧ q % 2 = 1) := by omega
    rw [if_neg c]
    simp
  · rw [h]
    by_cases z : n % 2 ^ j = 0
    · have hsf : skN n (j + 1) = false := by
        cases hh : skN n (j + 1)
        · rfl
        · exact absurd z (hs.1 hh)
      rw [hsf, z]
      rcases two_cases (Nat.mod_lt q (by omega : 2 > 0)) with g | g
      · rw [if_neg (by omega)]
        simp [g]
      · rw [if_pos (by omega)]
        simp [g]
    · have hst : skN n (j + 1) = true := hs.2 z
      rw [hst, if_pos (by omega)]
      simp
theorem shape {p k : Nat} {bi : Int} (L : Lay p k bi) (n : Nat) (e : Int) (h0 : ¬ n = 0) (hn : n < 18446744073709551616) (he1 : -10000 ≤ e) (he2 : e ≤ 10000) :
    ∃ J t : Nat, (J : Int) ≤ 20000 ∧ (t : Int) ≤ 20000 ∧ (∀ j, j < J → (2 ^ (p + 1) ≤ n / 2 ^ j) ∨ (e + j < 1 - bi - p ∧ (0 < n / 2 ^ j ∨ hfN n j = true ∨ skN n j = true))) ∧ n / 2 ^ J < 2 ^ (p + 1) ∧ ¬ e + J < 1 - bi - p ∧
      (∀ i, i < t → (0 < n / 2 ^ J * 2 ^ i ∧ n / 2 ^ J * 2 ^ i < 2 ^ p ∧ 1 - bi - p < e + J - i ∧ hfN n J = false ∧ skN n J = false)) ∧
      e + J - t = max (e + (Lib.bitLen n : Nat) - 1 - (p : Int)) (1 - bi - p) ∧ (n / 2 ^ J * 2 ^ t < 2 ^ p → e + J - t ≤ 1 - bi - p) ∧ n / 2 ^ J * 2 ^ t < 2 ^ (p + 1) ∧
      inU n (e + J - t - e) = n / 2 ^ J * 2 ^ t + (if (hfN n J && (skN n J || n / 2 ^ J * 2 ^ t % 2 == 1)) = true then 1 else 0) := by
  have hbi := L.bi0
  have hp1 := L.p1
  have hp52 := L.p52
  obtain ⟨l, l1, l2⟩ : ∃ l, 2 ^ l ≤ n ∧ n < 2 ^ (l + 1) := ⟨n.log2, Nat.log2_self_le h0, Nat.lt_log2_self⟩
  have hlen := len_at l1 l2 hn
  rw [hlen]
  have hl64 : l < 64 := (Nat.pow_lt_pow_iff_right (by omega : 1 < 2)).1 (Nat.lt_of_le_of_lt l1 hn)
  by_cases c : (l : Int) - p ≤ 0 ∧ (1 - bi - p) - e ≤ 0
  · obtain ⟨c1, c2⟩ := c
    obtain ⟨t, ht⟩ : ∃ t : Nat, min ((p : Int) - l) (e - (1 - bi - p)) = t := ⟨_, (Int.toNat_of_nonneg (by omega)).symm⟩
    have hpw : n * 2 ^ t < 2 ^ (p + 1) := by
      have h1 : n * 2 ^ t < 2 ^ (l + 1) * 2 ^ t := Nat.mul_lt_mul_of_pos_right l2 (Nat.two_pow_pos _)
      rw [← Nat.pow_add] at h1
      exact Nat.lt_of_lt_of_le h1 (Nat.pow_le_pow_right (by omega) (by omega))
    refine ⟨0, t, by omega, by omega, fun j hj => by omega, ?_, by omega, fun i hi => ?_, by omega, fun h => ?_, ?_, ?_⟩
    · simp only [Nat.pow_zero, Nat.div_one]
      exact Nat.lt_of_lt_of_le l2 (Nat.pow_le_pow_right (by omega) (by omega))
    · simp only [Nat.pow_zero, Nat.div_one]
      refine ⟨Nat.mul_pos (by omega) (Nat.two_pow_pos _), ?_, by omega, rfl, rfl⟩
      have h1 : n * 2 ^ i < 2 ^ (l + 1) * 2 ^ i := Nat.mul_lt_mul_of_pos_right l2 (Nat.two_pow_pos _)
      rw [← Nat.pow_add] at h1
      exact Nat.lt_of_lt_of_le h1 (Nat.pow_le_pow_right (by omega) (by omega))
    · simp only [Nat.pow_zero, Nat.div_one] at h
      refine Classical.byContradiction fun hne => ?_
      have ht2 : (t : Int) = p - l := by omega
      have h1 : 2 ^ l * 2 ^ t ≤ n * 2 ^ t := Nat.mul_le_mul_right _ l1
      rw [← Nat.pow_add, show l + t = p by omega] at h1
      omega
    · simp only [Nat.pow_zero, Nat.div_one]
      exact hpw
    · simp only [Nat.pow_zero, Nat.div_one]
      have hz : hfN n 0 = false := rfl
      rw [hz]
      unfold inU
      rw [if_pos (by omega)]
      have e1 : (-(e + ((0 : Nat) : Int) - t - e)).toNat = t := by omega
      rw [e1]
      simp
  · obtain ⟨J, hJ⟩ : ∃ J : Nat, max ((l : Int) - p) ((1 - bi - p) - e) = J := ⟨_, (Int.toNat_of_nonneg (by omega)).symm⟩
    have hJ1 : 1 ≤ J := by omega
    have hN : n / 2 ^ J < 2 ^ (p + 1) := Nat.div_lt_of_lt_mul (by
      rw [← Nat.pow_add]
      exact Nat.lt_of_lt_of_le l2 (Nat.pow_le_pow_right (by omega) (by omega)))
    refine ⟨J, 0, by omega, by omega, fun j hj => ?_, hN, by omega, fun i hi => by omega, by omega, fun h => ?_, ?_, ?_⟩
    · by_cases c2 : (j : Int) < l - p
      · left
        have h1 : 2 ^ (p + 1) * 2 ^ j ≤ n := by
          rw [← Nat.pow_add]
          exact Nat.le_trans (Nat.pow_le_pow_right (by omega) (by omega)) l1
        exact (Nat.le_div_iff_mul_le (Nat.two_pow_pos _)).2 h1
      · right
        refine ⟨by omega, ?_⟩
        by_cases c3 : 0 < n / 2 ^ j
        · exact .inl c3
        · right
          rw [lost n j]
          have h1 : n < 2 ^ j := by
            refine Classical.byContradiction fun h => c3 ?_
            exact Nat.div_pos (by omega) (Nat.two_pow_pos _)
          rw [Nat.mod_eq_of_lt h1]
          exact h0
    · rw [Nat.pow_zero, Nat.mul_one] at h
      refine Classical.byContradiction fun hne => ?_
      have hJ2 : (J : Int) = l - p := by omega
      have h1 : 2 ^ p ≤ n / 2 ^ J := (Nat.le_div_iff_mul_le (Nat.two_pow_pos _)).2 (by
        rw [← Nat.pow_add, show p + J = l by omega]; exact l1)
      omega
    · rw [Nat.pow_zero, Nat.mul_one]
      exact hN
    · rw [Nat.pow_zero, Nat.mul_one]
      obtain ⟨m, rfl⟩ : ∃ m, J = m + 1 := ⟨J - 1, by omega⟩
      have e1 : (e + ((m + 1 : Nat) : Int) - ((0 : Nat) : Int) - e).toNat = m + 1 := by omega
      unfold inU
      rw [if_neg (by omega), e1, round_is]
end Go.Proofs.Ytdhfkdopcphjlab
