/-
  What the reckoning with floats rounds to is the nearest float, as nearB has it. Condition: the number is below 2^64.
-/
import Derived.Test.YtjcjecbffnadaabMn
import Ieee.Arith
namespace Go.Proofs.Ytjcjecbffnadaab
open Go.RowKit
theorem cut_is (neg : Bool) (n drop : Nat) : Ieee.Toward.even.cut neg n drop = rnd n drop := by
  unfold Ieee.Toward.cut
  dsimp only
  rw [Nat.shiftLeft_eq, Nat.one_mul]
  have hcase : ∀ g : Nat, n / g + (decide (g < 2 * (n % g)) || (g == 2 * (n % g) && n / g % 2 == 1)).toNat = if g < 2 * (n % g) ∨ (g = 2 * (n % g) ∧ n / g % 2 = 1) then n / g + 1 else n / g := fun g => by
    by_cases c1 : g < 2 * (n % g)
    · simp [c1]
    · by_cases c2 : g = 2 * (n % g) ∧ n / g % 2 = 1
      · rw [if_pos (.inr c2), decide_eq_false c1, beq_iff_eq.2 c2.1, beq_iff_eq.2 c2.2]; rfl
      · rw [if_neg (fun h => h.elim c1 c2), decide_eq_false c1]
        have : (g == 2 * (n % g) && n / g % 2 == 1) = false := by
          rw [Bool.and_eq_false_iff]
          by_cases c3 : g = 2 * (n % g)
          · right; exact beq_eq_false_iff_ne.2 fun h => c2 ⟨c3, h⟩
          · left; exact beq_eq_false_iff_ne.2 c3
        rw [this]; rfl
  rw [hcase]
  unfold rnd
  by_cases c : drop ≤ n.log2 + 2
  · rw [Nat.min_eq_left c]
  · rw [Nat.min_eq_right (by omega)]
    have hn : n < 2 ^ (n.log2 + 1) := Nat.lt_log2_self
    have e1 : 2 ^ (n.log2 + 2) = 2 * 2 ^ (n.log2 + 1) := by rw [Nat.pow_succ]; omega
    have e2 : 2 ^ (n.log2 + 2) ≤ 2 ^ drop := Nat.pow_le_pow_right (by omega) (by omega)
    have m1 : n % 2 ^ (n.log2 + 2) = n := Nat.mod_eq_of_lt (by omega)
    have m2 : n % 2 ^ drop = n := Nat.mod_eq_of_lt (by omega)
    have d1 : n / 2 ^ (n.log2 + 2) = 0 := Nat.div_eq_of_lt (by omega)
    have d2 : n / 2 ^ drop = 0 := Nat.div_eq_of_lt (by omega)
    rw [m1, m2, d1, d2, if_neg (by omega), if_neg (by omega)]
theorem rnd_none (n : Nat) : rnd n 0 = n := by
  unfold rnd
  rw [Nat.pow_zero, Nat.mod_one, Nat.div_one, if_neg (by omega)]
/-- The model's rounding. -/
theorem nearest_is {p k : Nat} {bi : Int} (L : Lay p k bi) (f : Ieee.Format) (hp : f.fractionBits = p) (hk : f.exponentBits = k) (neg : Bool) (m : Nat) (e : Int) (hm : m < 18446744073709551616) : f.nearest neg m e = f.word neg (nearB p k bi m e) := by
  unfold Ieee.Format.nearest
  by_cases z : m = 0
  · rw [if_pos z, z]
    unfold nearB
    rw [if_pos rfl]
  rw [if_neg z]
  have hlog : Lib.bitLen m = m.log2 + 1 := len_log m z hm
  have hlow : f.leastPlace = 1 - bi - p := by
    unfold Ieee.Format.leastPlace
    rw [hp, hk, L.bi]
    omega
  have hbin : f.binade = 2 ^ p := by unfold Ieee.Format.binade; rw [hp]
  have hinf : f.infRung = (2 ^ k - 1) * 2 ^ p := by unfold Ieee.Format.infRung; rw [hbin, hk]
  dsimp only
  rw [hlow, hbin, hinf, hp, cut_is, Nat.shiftLeft_eq]
  congr 1
  obtain ⟨U, hU⟩ : ∃ U, max (e + (m.log2 : Int) - p) (1 - bi - p) = U := ⟨_, rfl⟩
  rw [hU]
  have hin : rnd (m * 2 ^ (e - U).toNat) (U - e).toNat = inU m (U - e) := by
    unfold inU
    by_cases c : U - e ≤ 0
    · rw [if_pos c, show (U - e).toNat = 0 by omega, rnd_none, show (-(U - e)).toNat = (e - U).toNat by omega]
    · rw [if_neg c, show (e - U).toNat = 0 by omega, Nat.pow_zero, Nat.mul_one]
  rw [hin]
  have hle := nearB_le L e hm
  have hUe : max (e + ((m.log2 + 1 : Nat) : Int) - 1 - (p : Int)) (1 - bi - p) = U := by rw [← hU]; congr 1; omega
  by_cases c : bi < e + ((m.log2 + 1 : Nat) : Int) - 1
  · have hn : nearB p k bi m e = (2 ^ k - 1) * 2 ^ p := by
      unfold nearB
      rw [if_neg z, hlog, if_pos c]
    rw [hn]
    have hb := two_bi L
    have hkk := L.kk
    have hpp := Nat.two_pow_pos p
    have hone : 2 ^ p ≤ inU m (U - e) := by
      have h1 := inU_mono (U - e) (Nat.log2_self_le z)
      have h2 := inU_pow m.log2 p
      rw [show U - e = (m.log2 : Int) - p by omega] at h1 ⊢
      omega
    have hD : 2 ^ k - 2 ≤ (U - (1 - bi - p)).toNat := by omega
    have h3 := Nat.mul_le_mul_right (2 ^ p) hD
    have h4 : (2 ^ k - 1) * 2 ^ p = (2 ^ k - 2) * 2 ^ p + 2 ^ p := by
      rw [show 2 ^ k - 1 = 2 ^ k - 2 + 1 by omega, Nat.succ_mul]
    omega
  · have hn : nearB p k bi m e = (U - (1 - bi - p)).toNat * 2 ^ p + inU m (U - e) := by
      unfold nearB
      rw [if_neg z, hlog, if_neg c, hUe]
    rw [hn] at hle ⊢
    omega
theorem near64 (neg : Bool) (m : Nat) (e : Int) (hm : m < 18446744073709551616) : FloatKind.f64.format.nearest neg m e = (if neg = true then 9223372036854775808 else 0) + nearB 52 11 1023 m e := by
  rw [nearest_is lay64 FloatKind.f64.format rfl rfl neg m e hm]
  have e1 : FloatKind.f64.format.signWeight = 9223372036854775808 := by decide
  unfold Ieee.Format.word
  rw [e1]
  cases neg
  · simp
  · simp
end Go.Proofs.Ytjcjecbffnadaab
