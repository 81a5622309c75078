/-
  A float less the nearest whole number: at most a half. Condition: the float's bits fit.
-/
import Derived.Test.YtjcjecbffnadaabEh
namespace Go.Proofs.Ytjcjecbffnadaab
open Go.RowKit
theorem pt_rng (b : Nat) : (pt 52 11 1023 b).mant < 9007199254740992 ∧ -1074 ≤ (pt 52 11 1023 b).exp ∧ (pt 52 11 1023 b).exp ≤ 971 ∧ ((pt 52 11 1023 b).kind = 0 ∨ (pt 52 11 1023 b).kind = 1 ∨ (pt 52 11 1023 b).kind = 2 ∨ (pt 52 11 1023 b).kind = 3 ∨ (pt 52 11 1023 b).kind = 4) ∧ ((pt 52 11 1023 b).kind = 1 ∨ (pt 52 11 1023 b).kind = 2 → 0 < (pt 52 11 1023 b).mant) ∧ ((pt 52 11 1023 b).kind = 0 → (pt 52 11 1023 b).mant = 0) ∧ ((pt 52 11 1023 b).kind = 2 ∨ (pt 52 11 1023 b).exp = 0 ∨ (pt 52 11 1023 b).exp = -1074) ∧ ((pt 52 11 1023 b).kind = 2 → 4503599627370496 ≤ (pt 52 11 1023 b).mant) ∧ ((pt 52 11 1023 b).kind = 0 → (pt 52 11 1023 b).exp = 0) ∧ ((pt 52 11 1023 b).kind = 1 → (pt 52 11 1023 b).exp = -1074) := by
  have q1 : (2 : Nat) ^ 52 = 4503599627370496 := by decide
  have q2 : (2 : Nat) ^ 11 = 2048 := by decide
  have h1 := Nat.mod_lt b (show 4503599627370496 > 0 by decide)
  have h2 := Nat.mod_lt (b / 4503599627370496) (show 2048 > 0 by decide)
  unfold pt
  rw [q1, q2]
  repeat' split
  all_goals (dsimp only; omega)
theorem rnd_low {M j : Nat} (h : M < 2 ^ j) : rnd M (j + 1) = 0 := by
  have hps : 2 ^ (j + 1) = 2 * 2 ^ j := by rw [Nat.pow_succ]; omega
  unfold rnd
  rw [Nat.mod_eq_of_lt (show M < 2 ^ (j + 1) by omega), Nat.div_eq_of_lt (show M < 2 ^ (j + 1) by omega), if_neg (by omega)]
/-- The nearest whole number, as the model reads it. -/
theorem read_even {a : Nat} (h3 : ¬ (pt 52 11 1023 a).kind = 3) (h4 : ¬ (pt 52 11 1023 a).kind = 4) (hX : (pt 52 11 1023 a).exp < 0) {j : Nat} (hj : -(pt 52 11 1023 a).exp = ((j + 1 : Nat) : Int)) :
    evenB a < 18446744073709551616 ∧ ∃ t : Nat, t ≤ 1074 ∧ FloatKind.f64.format.read (evenB a) = .number (pt 52 11 1023 a).neg (rnd (pt 52 11 1023 a).mant (j + 1) * 2 ^ t) (-(t : Int)) := by
  obtain ⟨xm, -⟩ := pt_rng a
  have hE : evenB a = (if (pt 52 11 1023 a).neg = true then 9223372036854775808 else 0) + nearB 52 11 1023 (rnd (pt 52 11 1023 a).mant (j + 1)) 0 := by
    unfold evenB rndB
    rw [if_neg (by omega)]
    dsimp only
    rw [if_neg h4, if_neg h3, hj, Int.toNat_natCast]
  have hrl := rnd_le (pt 52 11 1023 a).mant (j + 1)
  have hdl : (pt 52 11 1023 a).mant / 2 ^ (j + 1) ≤ (pt 52 11 1023 a).mant / 2 := by
    refine Nat.div_le_div_left ?_ (by omega)
    rw [Nat.pow_succ]
    have := Nat.two_pow_pos j
    omega
  have hr52 : rnd (pt 52 11 1023 a).mant (j + 1) ≤ 4503599627370496 := by omega
  generalize (pt 52 11 1023 a).neg = ng at *
  by_cases z : rnd (pt 52 11 1023 a).mant (j + 1) = 0
  · rw [z, nearB_nought, Nat.add_zero] at hE
    rw [z, hE]
    obtain ⟨t0, ht0⟩ : ∃ t0 : Nat, t0 = 1074 := ⟨_, rfl⟩
    refine ⟨by split <;> decide, t0, by omega, ?_⟩
    rw [Nat.zero_mul, ht0]
    cases ng
    · rfl
    · rfl
  · obtain ⟨l, l1, l2⟩ := log_of z
    have hl : l ≤ 52 := by
      refine Classical.byContradiction fun h => ?_
      have : 2 ^ 53 ≤ 2 ^ l := Nat.pow_le_pow_right (by omega) (by omega)
      omega
    have hp := Nat.two_pow_pos (52 - l)
    have a1 : 2 ^ l * 2 ^ (52 - l) = 4503599627370496 := by rw [← Nat.pow_add, show l + (52 - l) = 52 by omega]
    have a2 : 2 ^ (l + 1) * 2 ^ (52 - l) = 9007199254740992 := by rw [← Nat.pow_add, show l + 1 + (52 - l) = 53 by omega]
    have b1 : 4503599627370496 ≤ rnd (pt 52 11 1023 a).mant (j + 1) * 2 ^ (52 - l) := by rw [← a1]; exact Nat.mul_le_mul_right _ l1
    have b2 : rnd (pt 52 11 1023 a).mant (j + 1) * 2 ^ (52 - l) < 9007199254740992 := by rw [← a2]; exact Nat.mul_lt_mul_of_pos_right l2 hp
    have hsc := nearB_scale 52 11 1023 _ (52 - l) 0 z (by omega)
    have hfu := near_full b1 b2 (e := 0 - ((52 - l : Nat) : Int)) (by omega) (by omega)
    have hpf := pt_full ng b1 b2 (e := 0 - ((52 - l : Nat) : Int)) (by omega) (by omega)
    rw [← hsc, hfu] at hE
    rw [← hE] at hpf
    have hlt : evenB a < 18446744073709551616 := by rw [hE]; split <;> omega
    refine ⟨hlt, 52 - l, by omega, ?_⟩
    have hr := read_fin2 hlt (by rw [hpf]; exact (show ¬ (2 : Int) = 3 by decide)) (by rw [hpf]; exact (show ¬ (2 : Int) = 4 by decide))
    rw [hpf] at hr
    rw [hr]
    dsimp only
    rw [if_neg (by decide), show (0 : Int) - ((52 - l : Nat) : Int) = -((52 - l : Nat) : Int) by omega]
theorem sub_even {a : Nat} (ha : a < 18446744073709551616) (h3 : ¬ (pt 52 11 1023 a).kind = 3) (h4 : ¬ (pt 52 11 1023 a).kind = 4) (hX : (pt 52 11 1023 a).exp < 0) :
    ∃ v, FloatKind.f64.format.sub a (evenB a) = some v ∧ v < 18446744073709551616 ∧ v % 9223372036854775808 ≤ 4602678819172646912 := by
  obtain ⟨j, hj⟩ : ∃ j : Nat, -(pt 52 11 1023 a).exp = ((j + 1 : Nat) : Int) := ⟨(-(pt 52 11 1023 a).exp - 1).toNat, by omega⟩
  obtain ⟨-, t, ht, hre⟩ := read_even h3 h4 hX hj
  have hra := read_fin2 ha h3 h4
  obtain ⟨xm, xe1, xe2, xk, xp, xz, xq, xn, xz0, xs0⟩ := pt_rng a
  rw [if_neg (fun q => by have := xz0 q; omega)] at hra
  generalize pt 52 11 1023 a = x at *
  obtain ⟨kd, ng, M, X, qu, LD⟩ := x
  dsimp only at *
  have hdist := dist M j
  obtain ⟨D, hD⟩ : ∃ D, ((M : Int) - ((rnd M (j + 1) * 2 ^ (j + 1) : Nat) : Int)).natAbs = D := ⟨_, rfl⟩
  rw [hD] at hdist
  have hDs : D < 9007199254740992 := by
    by_cases c : M < 2 ^ j
    · rw [rnd_low c, Nat.zero_mul] at hD
      omega
    · omega
  obtain ⟨B, hB⟩ : ∃ B : Nat, min X (-(t : Int)) = -(B : Int) := ⟨(-(min X (-(t : Int)))).toNat, by omega⟩
  have hB1 : j + 1 ≤ B := by omega
  have hB2 : t ≤ B := by omega
  have e1 : (X - -(B : Int)).toNat = B - (j + 1) := by omega
  have e2 : (-(t : Int) - -(B : Int)).toNat = B - t := by omega
  have e3 : rnd M (j + 1) * 2 ^ t * 2 ^ (B - t) = rnd M (j + 1) * 2 ^ (j + 1) * 2 ^ (B - (j + 1)) := by
    rw [Nat.mul_assoc, Nat.mul_assoc, ← Nat.pow_add, ← Nat.pow_add, show t + (B - t) = B by omega, show j + 1 + (B - (j + 1)) = B by omega]
  have hnat : ((if ng = true then -((M * 2 ^ (B - (j + 1)) : Nat) : Int) else ((M * 2 ^ (B - (j + 1)) : Nat) : Int)) + (if (!ng) = true then -((rnd M (j + 1) * 2 ^ (j + 1) * 2 ^ (B - (j + 1)) : Nat) : Int) else ((rnd M (j + 1) * 2 ^ (j + 1) * 2 ^ (B - (j + 1)) : Nat) : Int))).natAbs = D * 2 ^ (B - (j + 1)) := by
    rw [← hD]
    generalize rnd M (j + 1) * 2 ^ (j + 1) = A
    generalize 2 ^ (B - (j + 1)) = P
    cases ng
    · rw [if_neg (by decide), if_pos (by decide), Int.natCast_mul, Int.natCast_mul, ← Int.neg_mul, ← Int.add_mul, Int.natAbs_mul, Int.natAbs_natCast]
      rfl
    · rw [if_pos rfl, if_neg (by decide), Int.natCast_mul, Int.natCast_mul, ← Int.neg_mul, ← Int.add_mul, Int.natAbs_mul, Int.natAbs_natCast]
      congr 1
      omega
  have hsum : ∃ s, ((FloatKind.f64.format.read a).sum (FloatKind.f64.format.read (evenB a)).opposite) = some (.number s (D * 2 ^ (B - (j + 1))) (-(B : Int))) := by
    rw [hra, hre]
    simp only [Ieee.Datum.opposite, Ieee.Datum.sum, hB, e1, e2, signed_is, e3]
    exact Exists.intro _ (congrArg (fun n => some (Ieee.Datum.number _ n (-(B : Int)))) hnat)
  obtain ⟨s, hsum⟩ := hsum
  have hw : FloatKind.f64.format.nearest s (D * 2 ^ (B - (j + 1))) (-(B : Int)) = (if s = true then 9223372036854775808 else 0) + nearB 52 11 1023 D X := by
    have := nearest_scale FloatKind.f64.format s D (B - (j + 1)) X
    rw [show X - ((B - (j + 1) : Nat) : Int) = -(B : Int) by omega] at this
    rw [this]
    exact near64 s D X (by omega)
  have hh := half_le (D := D) (j := j) (X := X) (by omega) hdist (by omega)
  refine ⟨_, by unfold Ieee.Format.sub; rw [hsum]; rfl, ?_, ?_⟩
  · show FloatKind.f64.format.nearest s (D * 2 ^ (B - (j + 1))) (-(B : Int)) < _
    rw [hw]; split <;> omega
  · show FloatKind.f64.format.nearest s (D * 2 ^ (B - (j + 1))) (-(B : Int)) % _ ≤ _
    rw [hw]; split <;> omega
end Go.Proofs.Ytjcjecbffnadaab
