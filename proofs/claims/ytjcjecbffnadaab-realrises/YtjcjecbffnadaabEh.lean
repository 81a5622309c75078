/-
  How far a float is from the nearest whole number: not more than a half. Condition: the float's bits fit.
-/
import Derived.Test.YtjcjecbffnadaabNi
import Derived.Test.YtjcjecbffnadaabLawW
namespace Go.Proofs.Ytjcjecbffnadaab
open Go.RowKit
theorem log_mul {m t : Nat} (h : ¬ m = 0) : (m * 2 ^ t).log2 = m.log2 + t := by
  have hp := Nat.two_pow_pos t
  have h0 : ¬ m * 2 ^ t = 0 := fun q => by rcases Nat.mul_eq_zero.1 q with q | q <;> omega
  refine (Nat.log2_eq_iff h0).2 ⟨?_, ?_⟩
  · rw [Nat.pow_add]; exact Nat.mul_le_mul_right _ (Nat.log2_self_le h)
  · rw [show m.log2 + t + 1 = m.log2 + 1 + t by omega, Nat.pow_add]; exact Nat.mul_lt_mul_of_pos_right Nat.lt_log2_self hp
theorem cut_in (neg : Bool) (m : Nat) (e U : Int) : Ieee.Toward.even.cut neg (m <<< (e - U).toNat) (U - e).toNat = inU m (U - e) := by
  rw [cut_is, Nat.shiftLeft_eq]
  unfold inU
  by_cases c : U - e ≤ 0
  · rw [if_pos c, show (U - e).toNat = 0 by omega, rnd_none, show (-(U - e)).toNat = (e - U).toNat by omega]
  · rw [if_neg c, show (e - U).toNat = 0 by omega, Nat.pow_zero, Nat.mul_one]
theorem nearest_scale (f : Ieee.Format) (neg : Bool) (m t : Nat) (e : Int) : f.nearest neg (m * 2 ^ t) (e - t) = f.nearest neg m e := by
  have hp := Nat.two_pow_pos t
  unfold Ieee.Format.nearest
  by_cases z : m = 0
  · rw [z, Nat.zero_mul, if_pos rfl, if_pos rfl]
  have h0 : ¬ m * 2 ^ t = 0 := fun q => by rcases Nat.mul_eq_zero.1 q with q | q <;> omega
  rw [if_neg z, if_neg h0]
  dsimp only
  rw [log_mul z, show e - (t : Int) + ((m.log2 + t : Nat) : Int) - f.fractionBits = e + m.log2 - f.fractionBits by omega, cut_in, cut_in]
  rw [← inU_scale m t]
  congr 4
  omega
theorem half_le {D j : Nat} {X : Int} (hX : X = -((j + 1 : Nat) : Int)) (hD : D ≤ 2 ^ j) (hb : D < 9223372036854775808) : nearB 52 11 1023 D X ≤ 4602678819172646912 := by
  have hv : nearB 52 11 1023 1 (-1) = 4602678819172646912 := by decide
  by_cases z : D = 0
  · rw [z]; unfold nearB; rw [if_pos rfl]; exact Nat.zero_le _
  obtain ⟨q, h1, h2⟩ := log_of z
  have hq : q < 63 := (Nat.pow_lt_pow_iff_right (by omega : 1 < 2)).1 (Nat.lt_of_le_of_lt h1 hb)
  have hqj : q < j + 1 := (Nat.pow_lt_pow_iff_right (by omega : 1 < 2)).1 (Nat.lt_of_le_of_lt h1 (Nat.lt_of_le_of_lt hD (Nat.pow_lt_pow_right (by omega) (by omega))))
  by_cases c : q < j
  · have := near_under lay64 (e := X) (e' := -1) (m' := 1) (q' := 0) h1 h2 (by decide) (by decide) hq (by decide) (by omega)
    omega
  · have hj : q = j := by omega
    subst hj
    have : D = 2 ^ q := by omega
    rw [this, near_pow 52 11 1023 q X (by omega), show X + (q : Int) = -1 by omega, hv]
    exact Nat.le_refl _
/-- The nearest whole number of units is not more than half a unit off. -/
theorem dist (M j : Nat) : ((M : Int) - ((rnd M (j + 1) * 2 ^ (j + 1) : Nat) : Int)).natAbs ≤ 2 ^ j := by
  have hp := Nat.two_pow_pos j
  have hps : 2 ^ (j + 1) = 2 * 2 ^ j := by rw [Nat.pow_succ]; omega
  have hd := Nat.div_add_mod M (2 ^ (j + 1))
  have hm := Nat.mod_lt M (Nat.two_pow_pos (j + 1))
  unfold rnd
  rw [Nat.mul_comm] at hd
  split
  · rename_i h
    rw [Nat.succ_mul]
    generalize M / 2 ^ (j + 1) * 2 ^ (j + 1) = A at *
    omega
  · rename_i h
    generalize M / 2 ^ (j + 1) * 2 ^ (j + 1) = A at *
    omega
theorem signed_is (s : Bool) (m u : Nat) : Ieee.signed s m u = if s = true then -((m * 2 ^ u : Nat) : Int) else ((m * 2 ^ u : Nat) : Int) := by
  unfold Ieee.signed
  rw [Nat.shiftLeft_eq]
end Go.Proofs.Ytjcjecbffnadaab
