/-
  Whole numbers as floats, and floats as whole numbers. Condition: the float's bits fit.
-/
import Derived.Test.YtjcjecbffnadaabEs
import Derived.Test.YtjcjecbffnadaabNk
namespace Go.Proofs.Ytjcjecbffnadaab
open Go.RowKit
theorem of_int (n : Int) (h : n.natAbs < 18446744073709551616) : floatOfInt .f64 n = (if decide (n < 0) = true then 9223372036854775808 else 0) + nearB 52 11 1023 n.natAbs 0 := near64 (decide (n < 0)) n.natAbs 0 h
theorem whole_back {e : Nat} (he : e < 18446744073709551616) {n : Int} (h : wholeP (pt 52 11 1023 e) = some n) :
    floatOfInt .f64 n < 18446744073709551616 ∧ nan64 (floatOfInt .f64 n) = false ∧ plc64 (floatOfInt .f64 n) = plc64 e := by
  have key : ∀ m : Int, m.natAbs < 18446744073709551616 → nearB 52 11 1023 m.natAbs 0 = e % 9223372036854775808 → e % 9223372036854775808 ≤ 9218868437227405312 → ((m < 0 ↔ 9223372036854775808 ≤ e) ∨ e % 9223372036854775808 = 0) → floatOfInt .f64 m < 18446744073709551616 ∧ nan64 (floatOfInt .f64 m) = false ∧ plc64 (floatOfInt .f64 m) = plc64 e := fun m hm hv hle hs => by
    have hf := of_int m hm
    rw [hv] at hf
    have hlt : floatOfInt .f64 m < 18446744073709551616 := by rw [hf]; split <;> omega
    have hmod : floatOfInt .f64 m % 9223372036854775808 = e % 9223372036854775808 := by rw [hf]; split <;> omega
    refine ⟨hlt, ?_, ?_⟩
    · rw [nan64_is hlt, hmod]
      exact decide_eq_false (by omega)
    · rw [plc_abs hlt, plc_abs he, hmod]
      by_cases c : m < 0
      · rw [decide_eq_true c, if_pos rfl] at hf
        rw [if_pos (by omega)]
        rcases hs with hs | hs
        · rw [if_pos (hs.1 c)]
        · rw [hs]; split <;> rfl
      · rw [decide_eq_false c, if_neg (by decide)] at hf
        rw [if_neg (by omega)]
        rcases hs with hs | hs
        · rw [if_neg (fun q => c (hs.2 q))]
        · rw [hs]; split <;> rfl
  unfold wholeP at h
  by_cases c0 : (pt 52 11 1023 e).kind = 0
  · rw [if_pos c0] at h
    cases h
    have h3 : ¬ (pt 52 11 1023 e).kind = 3 := by omega
    have h4 : ¬ (pt 52 11 1023 e).kind = 4 := by omega
    have hz : e % 9223372036854775808 = 0 := by
      rcases pt_size he h3 h4 with ⟨-, a1, a2, a3⟩ | ⟨q, -⟩ | ⟨q, -⟩ <;> omega
    exact key 0 (by decide) (by rw [hz]; rfl) (by omega) (.inr hz)
  rw [if_neg c0] at h
  by_cases c34 : (pt 52 11 1023 e).kind = 3 ∨ (pt 52 11 1023 e).kind = 4
  · rw [if_pos c34] at h; cases h
  rw [if_neg c34] at h
  have h3 : ¬ (pt 52 11 1023 e).kind = 3 := fun q => c34 (.inl q)
  have h4 : ¬ (pt 52 11 1023 e).kind = 4 := fun q => c34 (.inr q)
  have hid := nearB_id lay64 e h3 h4
  rw [show (2 : Nat) ^ (52 + 11) = 9223372036854775808 from by decide] at hid
  have hle := num_le he h4
  have hng := neg_is he
  obtain ⟨xm, xe1, xe2, xk, xp, xz, xq, xn, xz0, xs0⟩ := pt_rng e
  generalize pt 52 11 1023 e = x at *
  obtain ⟨kd, ng, M, X, qu, LD⟩ := x
  dsimp only at *
  have hMp := xp (by omega)
  by_cases c11 : X = 11 ∧ ng = true ∧ M = 4503599627370496
  · rw [if_pos c11] at h
    cases h
    obtain ⟨rfl, rfl, rfl⟩ := c11
    refine key _ (by decide) ?_ hle (.inl ?_)
    · rw [← hid]; decide
    · have := of_decide_eq_true hng.symm
      exact ⟨fun _ => this, fun _ => by decide⟩
  rw [if_neg c11] at h
  by_cases c10 : 10 < X
  · rw [if_pos c10] at h; cases h
  rw [if_neg c10] at h
  by_cases cd : M % 2 ^ (-X).toNat = 0
  · rw [if_pos cd] at h
    have hA : nearB 52 11 1023 (M / 2 ^ (-X).toNat * 2 ^ X.toNat) 0 = nearB 52 11 1023 M X ∧ M / 2 ^ (-X).toNat * 2 ^ X.toNat < 18446744073709551616 ∧ 0 < M / 2 ^ (-X).toNat * 2 ^ X.toNat := by
      by_cases cx : 0 ≤ X
      · obtain ⟨i, hi⟩ : ∃ i : Nat, X = i := ⟨_, (Int.toNat_of_nonneg cx).symm⟩
        rw [show (-X).toNat = 0 by omega, Nat.pow_zero, Nat.div_one, show X.toNat = i by omega]
        have hpl : 2 ^ i ≤ 2 ^ 10 := Nat.pow_le_pow_right (by omega) (by omega)
        have hpp := Nat.two_pow_pos i
        have hml := Nat.mul_le_mul_left M hpl
        have hsc := nearB_scale 52 11 1023 M i X (by omega) (by omega)
        rw [show X - (i : Int) = 0 by omega] at hsc
        exact ⟨hsc, by omega, Nat.mul_pos hMp hpp⟩
      · obtain ⟨i, hi⟩ : ∃ i : Nat, -X = i := ⟨_, (Int.toNat_of_nonneg (by omega)).symm⟩
        rw [hi, Int.toNat_natCast] at cd
        rw [hi, Int.toNat_natCast, show X.toNat = 0 by omega, Nat.pow_zero, Nat.mul_one]
        have hdm := Nat.div_add_mod M (2 ^ i)
        rw [cd, Nat.add_zero, Nat.mul_comm] at hdm
        have hne : ¬ M / 2 ^ i = 0 := fun q => by rw [q, Nat.zero_mul] at hdm; omega
        have hdl := Nat.div_le_self M (2 ^ i)
        have hsc := nearB_scale 52 11 1023 (M / 2 ^ i) i 0 hne (by rw [hdm]; omega)
        rw [hdm, show (0 : Int) - i = X by omega] at hsc
        exact ⟨hsc.symm, Nat.lt_of_le_of_lt hdl (Nat.lt_trans xm (by decide)), Nat.pos_of_ne_zero hne⟩
    generalize M / 2 ^ (-X).toNat * 2 ^ X.toNat = A at *
    obtain ⟨hA, hA2, hA3⟩ := hA
    cases h
    cases ng
    · have := of_decide_eq_false hng.symm
      exact key _ (by simp only [Bool.false_eq_true, if_false]; omega) (by simp only [Bool.false_eq_true, if_false, Int.natAbs_natCast]; rw [hA]; exact hid) hle (.inl (by simp only [Bool.false_eq_true, if_false]; omega))
    · have := of_decide_eq_true hng.symm
      exact key _ (by simp only [if_true]; omega) (by simp only [if_true, Int.natAbs_neg, Int.natAbs_natCast]; rw [hA]; exact hid) hle (.inl (by simp only [if_true]; omega))
  · rw [if_neg cd] at h; cases h
theorem even_parts {a : Nat} (h3 : ¬ (pt 52 11 1023 a).kind = 3) (h4 : ¬ (pt 52 11 1023 a).kind = 4) (hX : (pt 52 11 1023 a).exp < 0) : ∃ n, wholeP (pt 52 11 1023 (evenB a)) = some n := by
  obtain ⟨j, hj⟩ : ∃ j : Nat, -(pt 52 11 1023 a).exp = ((j + 1 : Nat) : Int) := ⟨(-(pt 52 11 1023 a).exp - 1).toNat, by omega⟩
  obtain ⟨xm, -⟩ := pt_rng a
  have hE : evenB a = (if (pt 52 11 1023 a).neg = true then 9223372036854775808 else 0) + nearB 52 11 1023 (rnd (pt 52 11 1023 a).mant (j + 1)) 0 := by
    unfold evenB rndB
    rw [if_neg (by omega)]
    dsimp only
    rw [if_neg h4, if_neg h3, hj, Int.toNat_natCast]
  have hrl := rnd_le (pt 52 11 1023 a).mant (j + 1)
  have hdl : (pt 52 11 1023 a).mant / 2 ^ (j + 1) ≤ (pt 52 11 1023 a).mant / 2 := by
    refine Nat.div_le_div_left ?_ (by omega)
    rw [Nat.pow_succ]
    have := Nat.two_pow_pos j
    omega
  have hr52 : rnd (pt 52 11 1023 a).mant (j + 1) ≤ 4503599627370496 := by omega
  generalize (pt 52 11 1023 a).neg = ng at *
  by_cases z : rnd (pt 52 11 1023 a).mant (j + 1) = 0
  · rw [z, nearB_nought, Nat.add_zero] at hE
    rw [hE]
    cases ng
    · exact ⟨0, by decide⟩
    · exact ⟨0, by decide⟩
  · obtain ⟨l, l1, l2⟩ := log_of z
    have hl : l ≤ 52 := by
      refine Classical.byContradiction fun h => ?_
      have : 2 ^ 53 ≤ 2 ^ l := Nat.pow_le_pow_right (by omega) (by omega)
      omega
    have hp := Nat.two_pow_pos (52 - l)
    have a1 : 2 ^ l * 2 ^ (52 - l) = 4503599627370496 := by rw [← Nat.pow_add, show l + (52 - l) = 52 by omega]
    have a2 : 2 ^ (l + 1) * 2 ^ (52 - l) = 9007199254740992 := by rw [← Nat.pow_add, show l + 1 + (52 - l) = 53 by omega]
    have b1 : 4503599627370496 ≤ rnd (pt 52 11 1023 a).mant (j + 1) * 2 ^ (52 - l) := by rw [← a1]; exact Nat.mul_le_mul_right _ l1
    have b2 : rnd (pt 52 11 1023 a).mant (j + 1) * 2 ^ (52 - l) < 9007199254740992 := by rw [← a2]; exact Nat.mul_lt_mul_of_pos_right l2 hp
    have hsc := nearB_scale 52 11 1023 _ (52 - l) 0 z (by omega)
    have hfu := near_full b1 b2 (e := 0 - ((52 - l : Nat) : Int)) (by omega) (by omega)
    have hpf := pt_full ng b1 b2 (e := 0 - ((52 - l : Nat) : Int)) (by omega) (by omega)
    rw [← hsc, hfu] at hE
    rw [← hE] at hpf
    rw [hpf]
    unfold wholeP
    dsimp only
    rw [if_neg (by decide), if_neg (by decide), if_neg (by omega), if_neg (by omega), show (-(0 - ((52 - l : Nat) : Int))).toNat = 52 - l by omega, if_pos (Nat.mul_mod_left _ _)]
    exact ⟨_, rfl⟩
theorem whole_none {a : Nat} (ha : a < 18446744073709551616) (h3 : ¬ (pt 52 11 1023 a).kind = 3) (h4 : ¬ (pt 52 11 1023 a).kind = 4) (h : wholeP (pt 52 11 1023 (evenB a)) = none) : 4890909195324358656 ≤ evenB a % 9223372036854775808 := by
  by_cases hX : (pt 52 11 1023 a).exp < 0
  · obtain ⟨n, hn⟩ := even_parts h3 h4 hX
    rw [hn] at h
    cases h
  have hE : evenB a = a := by unfold evenB; rw [if_pos (by omega)]
  rw [hE] at h ⊢
  have hsz := pt_size ha h3 h4
  unfold wholeP at h
  by_cases c0 : (pt 52 11 1023 a).kind = 0
  · rw [if_pos c0] at h; cases h
  rw [if_neg c0, if_neg (fun q => q.elim h3 h4)] at h
  by_cases c11 : (pt 52 11 1023 a).exp = 11 ∧ (pt 52 11 1023 a).neg = true ∧ (pt 52 11 1023 a).mant = 4503599627370496
  · rw [if_pos c11] at h; cases h
  rw [if_neg c11] at h
  by_cases c10 : 10 < (pt 52 11 1023 a).exp
  · rcases hsz with ⟨q, -⟩ | ⟨q, b1, b2, b3, b4⟩ | ⟨q, E, b1, b2, b3, b4, b5, b6⟩
    · exact absurd q c0
    · omega
    · omega
  · rw [if_neg c10, show (-(pt 52 11 1023 a).exp).toNat = 0 by omega, Nat.pow_zero, if_pos (Nat.mod_one _)] at h
    cases h
end Go.Proofs.Ytjcjecbffnadaab
