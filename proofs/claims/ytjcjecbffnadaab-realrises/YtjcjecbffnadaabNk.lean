/-
  Narrow rises: of two floats the greater one is never narrowed to less.
-/
import Derived.Test.YtjcjecbffnadaabMn
import Derived.Test.YtjcjecbffnadaabLawW
namespace Go.Proofs.Ytjcjecbffnadaab
open Go.RowKit
/-- The bits without the sign. -/
def mag (p k : Nat) (bi : Int) (x : Pt) : Nat := if x.kind = 3 then (2 ^ k - 1) * 2 ^ p else nearB p k bi x.mant x.exp
theorem mag_le {p k : Nat} {bi : Int} (L : Lay p k bi) (b : Nat) : mag p k bi (pt 52 11 1023 b) ≤ (2 ^ k - 1) * 2 ^ p := by
  unfold mag
  split
  · exact Nat.le_refl _
  · exact nearB_le L _ (pt_small lay64 b).1
theorem kind_inf {b : Nat} (hb : b < 18446744073709551616) (h4 : ¬ (pt 52 11 1023 b).kind = 4) : (pt 52 11 1023 b).kind = 3 ↔ b % 9223372036854775808 = 9218868437227405312 := by
  have hk := (kind64 b hb).1
  cases hn : nan64 b
  · rw [hn] at hk
    simp only [Bool.false_eq_true, if_false] at hk
    rw [hk]
    constructor
    · intro h
      by_cases c : b % 9223372036854775808 = 9218868437227405312
      · exact c
      · rw [if_neg c] at h
        split at h
        · exact absurd h (by decide)
        · split at h
          · exact absurd h (by decide)
          · exact absurd h (by decide)
    · intro h; rw [if_pos h]
  · rw [hn, if_pos rfl] at hk
    exact absurd hk h4
theorem num_le {b : Nat} (hb : b < 18446744073709551616) (h4 : ¬ (pt 52 11 1023 b).kind = 4) : b % 9223372036854775808 ≤ 9218868437227405312 := by
  have hk := (kind64 b hb).1
  cases hn : nan64 b
  · rw [nan64_is hb] at hn
    have := of_decide_eq_false hn
    omega
  · rw [hn, if_pos rfl] at hk
    exact absurd hk h4
theorem mag_rise {p k : Nat} {bi : Int} (L : Lay p k bi) {a b : Nat} (ha : a < 18446744073709551616) (hb : b < 18446744073709551616) (na : ¬ (pt 52 11 1023 a).kind = 4) (nb : ¬ (pt 52 11 1023 b).kind = 4) (h : a % 9223372036854775808 ≤ b % 9223372036854775808) : mag p k bi (pt 52 11 1023 a) ≤ mag p k bi (pt 52 11 1023 b) := by
  by_cases c : (pt 52 11 1023 b).kind = 3
  · have := mag_le L a
    have e : mag p k bi (pt 52 11 1023 b) = (2 ^ k - 1) * 2 ^ p := by unfold mag; rw [if_pos c]
    omega
  have hbl := num_le hb nb
  have hbi := kind_inf hb nb
  have ca : ¬ (pt 52 11 1023 a).kind = 3 := fun q => by
    have := (kind_inf ha na).1 q
    exact c (hbi.2 (by omega))
  unfold mag
  rw [if_neg c, if_neg ca]
  have sa := pt_size ha ca na
  have sb := pt_size hb c nb
  clear hbi hbl
  generalize pt 52 11 1023 a = x at *
  generalize pt 52 11 1023 b = y at *
  rcases sa with ⟨-, a1, a2, a3⟩ | ⟨-, a1, a2, a3, a4⟩ | ⟨-, E, a1, a2, a3, a4, a5, a6⟩
  · rw [a2]
    unfold nearB
    rw [if_pos rfl]
    exact Nat.zero_le _
  · rcases sb with ⟨-, b1, b2, b3⟩ | ⟨-, b1, b2, b3, b4⟩ | ⟨-, E', b1, b2, b3, b4, b5, b6⟩
    · omega
    · exact near_rise L (by omega) (by omega) (.inl ⟨by omega, by omega⟩)
    · by_cases e : E' = 1
      · exact near_rise L (by omega) (by omega) (.inl ⟨by omega, by omega⟩)
      · exact near_rise L (by omega) (by omega) (.inr ⟨by omega, by omega⟩)
  · rcases sb with ⟨-, b1, b2, b3⟩ | ⟨-, b1, b2, b3, b4⟩ | ⟨-, E', b1, b2, b3, b4, b5, b6⟩
    · omega
    · omega
    · by_cases e : E = E'
      · exact near_rise L (by omega) (by omega) (.inl ⟨by omega, by omega⟩)
      · exact near_rise L (by omega) (by omega) (.inr ⟨by omega, by omega⟩)
theorem plc32 {v : Nat} (ng : Bool) (h : v ≤ 2139095040) : isN FloatKind.f32.format ((if ng = true then 2147483648 else 0) + v) = false ∧ plc FloatKind.f32.format ((if ng = true then 2147483648 else 0) + v) = if ng = true then -(v : Int) else v := by
  have e1 : FloatKind.f32.format.signWeight = 2147483648 := by decide
  have e2 : FloatKind.f32.format.infRung = 2139095040 := by decide
  unfold isN plc sgn
  rw [e1, e2]
  cases ng
  · have h1 : (0 + v) % 2147483648 = v := by omega
    have h2 : (0 + v) / 2147483648 % 2 = 0 := by omega
    simp only [Bool.false_eq_true, if_false]
    rw [h1, h2]
    exact ⟨decide_eq_false (by omega), rfl⟩
  · have h1 : (2147483648 + v) % 2147483648 = v := by omega
    have h2 : (2147483648 + v) / 2147483648 % 2 = 1 := by omega
    simp only [if_true]
    rw [h1, h2]
    exact ⟨decide_eq_false (by omega), rfl⟩
/-- Narrow rises. -/
theorem narrow_rise {a b : Nat} (ha : a < 18446744073709551616) (hb : b < 18446744073709551616) (na : ¬ (pt 52 11 1023 a).kind = 4) (nb : ¬ (pt 52 11 1023 b).kind = 4) (h : plc64 a ≤ plc64 b) : (FloatKind.f32.format.order (rndB 23 8 127 (pt 52 11 1023 a)) (rndB 23 8 127 (pt 52 11 1023 b)) == some .gt) = false := by
  have ra : rndB 23 8 127 (pt 52 11 1023 a) = (if (pt 52 11 1023 a).neg = true then 2147483648 else 0) + mag 23 8 127 (pt 52 11 1023 a) := by unfold rndB mag; rw [if_neg na]
  have rb : rndB 23 8 127 (pt 52 11 1023 b) = (if (pt 52 11 1023 b).neg = true then 2147483648 else 0) + mag 23 8 127 (pt 52 11 1023 b) := by unfold rndB mag; rw [if_neg nb]
  obtain ⟨ia, pa⟩ := plc32 (pt 52 11 1023 a).neg (mag_le lay32 a)
  obtain ⟨ib, pb⟩ := plc32 (pt 52 11 1023 b).neg (mag_le lay32 b)
  have m1 := fun q => mag_rise lay32 ha hb na nb q
  have m2 := fun q => mag_rise lay32 hb ha nb na q
  rw [ra, rb, order_num _ (by decide) ia ib, gt_is, pa, pb, neg_is ha, neg_is hb]
  rw [plc_abs ha, plc_abs hb] at h
  refine decide_eq_false ?_
  by_cases ca : 9223372036854775808 ≤ a
  · rw [if_pos ca] at h
    rw [decide_eq_true ca, if_pos rfl]
    by_cases cb : 9223372036854775808 ≤ b
    · rw [if_pos cb] at h
      rw [decide_eq_true cb, if_pos rfl]
      have := m2 (by omega)
      omega
    · rw [decide_eq_false cb, if_neg (show ¬ (false = true) by decide)]
      omega
  · rw [if_neg ca] at h
    rw [decide_eq_false ca, if_neg (show ¬ (false = true) by decide)]
    by_cases cb : 9223372036854775808 ≤ b
    · rw [if_pos cb] at h
      rw [decide_eq_true cb, if_pos rfl]
      have := m1 (by omega)
      have := m2 (by omega)
      have za : a % 9223372036854775808 = 0 := by omega
      have hz : mag 23 8 127 (pt 52 11 1023 a) = 0 := by
        have ca3 : ¬ (pt 52 11 1023 a).kind = 3 := fun q => by
          have := (kind_inf ha na).1 q
          omega
        unfold mag
        rw [if_neg ca3]
        rcases pt_size ha ca3 na with ⟨-, a1, a2, a3⟩ | ⟨-, a1, a2, a3, a4⟩ | ⟨-, E, a1, a2, a3, a4, a5, a6⟩
        · rw [a2]; unfold nearB; rw [if_pos rfl]
        · omega
        · omega
      omega
    · rw [if_neg cb] at h
      rw [decide_eq_false cb, if_neg (show ¬ (false = true) by decide)]
      have := m1 (by omega)
      omega
end Go.Proofs.Ytjcjecbffnadaab
