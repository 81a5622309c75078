/-
  Where nothing is lost: a number that a layout has is rounded to itself, however it is written; a half or a brain, as a float of 64 bits, is that number.
-/
import Derived.Test.YtjcjecbffnadaabRq
namespace Go.Proofs.Ytjcjecbffnadaab
open Go.RowKit
theorem rnd_scale (m s t : Nat) : rnd (m * 2 ^ t) (s + t) = rnd m s := by
  have hp := Nat.two_pow_pos t
  have e1 : m * 2 ^ t / 2 ^ (s + t) = m / 2 ^ s := by rw [Nat.pow_add, Nat.mul_div_mul_right _ _ hp]
  have e2 : m * 2 ^ t % 2 ^ (s + t) = m % 2 ^ s * 2 ^ t := by rw [Nat.pow_add, Nat.mul_mod_mul_right]
  have e3 : 2 ^ (s + t) < 2 * (m % 2 ^ s * 2 ^ t) ↔ 2 ^ s < 2 * (m % 2 ^ s) := by
    rw [Nat.pow_add, ← Nat.mul_assoc]
    exact ⟨fun h => Nat.lt_of_mul_lt_mul_right h, fun h => Nat.mul_lt_mul_of_pos_right h hp⟩
  have e4 : 2 ^ (s + t) = 2 * (m % 2 ^ s * 2 ^ t) ↔ 2 ^ s = 2 * (m % 2 ^ s) := by
    rw [Nat.pow_add, ← Nat.mul_assoc]
    exact ⟨fun h => Nat.eq_of_mul_eq_mul_right hp h, fun h => congrArg (· * 2 ^ t) h⟩
  unfold rnd
  rw [e1, e2]
  simp only [e3, e4]
theorem rnd_exact (m t u : Nat) (h : u ≤ t) : rnd (m * 2 ^ t) u = m * 2 ^ (t - u) := by
  have hp := Nat.two_pow_pos u
  have e : m * 2 ^ t = m * 2 ^ (t - u) * 2 ^ u := by
    rw [Nat.mul_assoc, ← Nat.pow_add, Nat.sub_add_cancel h]
  unfold rnd
  rw [e, Nat.mul_mod_left, Nat.mul_div_cancel _ hp]
  rw [if_neg (by omega)]
theorem inU_scale (m t : Nat) (s : Int) : inU (m * 2 ^ t) (s + t) = inU m s := by
  unfold inU
  by_cases c : s ≤ 0
  · rw [if_pos c]
    by_cases c2 : s + t ≤ 0
    · rw [if_pos c2, Nat.mul_assoc, ← Nat.pow_add]
      congr 2
      omega
    · rw [if_neg c2, rnd_exact m t _ (by omega)]
      congr 2
      omega
  · rw [if_neg c, if_neg (by omega)]
    have e : (s + t).toNat = s.toNat + t := by omega
    rw [e, rnd_scale]
theorem log_of {m : Nat} (h : ¬ m = 0) : ∃ n, 2 ^ n ≤ m ∧ m < 2 ^ (n + 1) := ⟨m.log2, Nat.log2_self_le h, Nat.lt_log2_self⟩
theorem len_mul {m t n : Nat} (h1 : 2 ^ n ≤ m) (h2 : m < 2 ^ (n + 1)) (hb : m * 2 ^ t < 2 ^ 64) : Lib.bitLen (m * 2 ^ t) = n + t + 1 := by
  have hp := Nat.two_pow_pos t
  refine len_at ?_ ?_ hb
  · rw [Nat.pow_add]; exact Nat.mul_le_mul_right _ h1
  · rw [show n + t + 1 = n + 1 + t by omega, Nat.pow_add]; exact Nat.mul_lt_mul_of_pos_right h2 hp
theorem nearB_scale (p k : Nat) (bi : Int) (m t : Nat) (e : Int) (h0 : ¬ m = 0) (hb : m * 2 ^ t < 2 ^ 64) : nearB p k bi (m * 2 ^ t) (e - t) = nearB p k bi m e := by
  have hp := Nat.two_pow_pos t
  obtain ⟨n, h1, h2⟩ := log_of h0
  have hm : m < 2 ^ 64 := Nat.lt_of_le_of_lt (Nat.le_mul_of_pos_right m hp) hb
  have e1 := len_mul h1 h2 hb
  have e2 := len_at h1 h2 hm
  have h3 : ¬ m * 2 ^ t = 0 := fun h => by rcases Nat.mul_eq_zero.1 h with h | h <;> omega
  unfold nearB
  rw [if_neg h0, if_neg h3, e1, e2]
  have e3 : e - (t : Int) + ((n + t + 1 : Nat) : Int) - 1 = e + ((n + 1 : Nat) : Int) - 1 := by omega
  rw [e3]
  by_cases c : bi < e + ((n + 1 : Nat) : Int) - 1
  · rw [if_pos c, if_pos c]
  · rw [if_neg c, if_neg c]
    congr 1
    rw [← inU_scale m t]
    congr 1
    omega
/-- What a layout has is rounded to itself. -/
theorem nearB_id {p k : Nat} {bi : Int} (L : Lay p k bi) (b : Nat) (h3 : ¬ (pt p k bi b).kind = 3) (h4 : ¬ (pt p k bi b).kind = 4) : nearB p k bi (pt p k bi b).mant (pt p k bi b).exp = b % 2 ^ (p + k) := by
  have hpp := L.pp
  have hk := L.kk
  have hb2 := two_bi L
  have hF : b % 2 ^ p < 2 ^ p := Nat.mod_lt _ (by omega)
  have hE : b / 2 ^ p % 2 ^ k < 2 ^ k := Nat.mod_lt _ (by omega)
  have h53 : 2 ^ (p + 1) ≤ 2 ^ 53 := Nat.pow_le_pow_right (by omega) (by have := L.p52; omega)
  have hps : 2 ^ (p + 1) = 2 ^ p * 2 := Nat.pow_succ ..
  rw [parts_sum]
  revert h3 h4
  unfold pt
  by_cases c1 : b / 2 ^ p % 2 ^ k = 2 ^ k - 1
  · rw [if_pos c1]
    split
    · intro h3; exact absurd rfl h3
    · intro _ h4; exact absurd rfl h4
  · rw [if_neg c1]
    by_cases c2 : b / 2 ^ p % 2 ^ k = 0
    · rw [if_pos c2, c2]
      by_cases c3 : b % 2 ^ p = 0
      · rw [if_pos c3, c3]
        intro _ _
        simp [nearB]
      · rw [if_neg c3]
        intro _ _
        dsimp only
        obtain ⟨n, l1, l2⟩ := log_of c3
        have e2 := len_at l1 l2 (by omega)
        have hn : n < p := (Nat.pow_lt_pow_iff_right (by omega : 1 < 2)).1 (Nat.lt_of_le_of_lt l1 hF)
        unfold nearB
        rw [if_neg c3, e2, if_neg (by omega)]
        have e3 : max (1 - bi - (p : Int) + ((n + 1 : Nat) : Int) - 1 - p) (1 - bi - p) = 1 - bi - p := by omega
        rw [e3]
        simp [inU]
    · rw [if_neg c2]
      intro _ _
      dsimp only
      have l1 : 2 ^ p ≤ 2 ^ p + b % 2 ^ p := by omega
      have l2 : 2 ^ p + b % 2 ^ p < 2 ^ (p + 1) := by omega
      have e2 := len_at l1 l2 (by omega)
      unfold nearB
      rw [if_neg (by omega), e2, if_neg (by omega)]
      have e3 : max (((b / 2 ^ p % 2 ^ k : Nat) : Int) - bi - (p : Int) + ((p + 1 : Nat) : Int) - 1 - p) (1 - bi - p) = ((b / 2 ^ p % 2 ^ k : Nat) : Int) - bi - p := by omega
      rw [e3]
      have e4 : (((b / 2 ^ p % 2 ^ k : Nat) : Int) - bi - p - (1 - bi - p)).toNat = b / 2 ^ p % 2 ^ k - 1 := by omega
      rw [e4]
      obtain ⟨n, hn⟩ : ∃ n, b / 2 ^ p % 2 ^ k = n + 1 := ⟨b / 2 ^ p % 2 ^ k - 1, by omega⟩
      rw [hn, Nat.add_sub_cancel, Nat.succ_mul]
      simp [inU]
      omega
theorem pt_exp {p k : Nat} {bi : Int} (L : Lay p k bi) (b : Nat) : -10000 ≤ (pt p k bi b).exp ∧ (pt p k bi b).exp ≤ 10000 := by
  have hbi := L.bi0
  have hk := L.kk
  have hp := L.p52
  have hE : b / 2 ^ p % 2 ^ k < 2 ^ k := Nat.mod_lt _ (by omega)
  unfold pt
  repeat' split
  all_goals (dsimp only; constructor <;> omega)
/-- A number of few bits and a middling exponent is one of 64 bits. -/
theorem wide {m : Nat} {e : Int} (ng : Bool) (h0 : ¬ m = 0) (hm : m < 2 ^ 24) (he1 : -200 ≤ e) (he2 : e ≤ 200) (kd : Int) (hk3 : ¬ kd = 3) (hk4 : ¬ kd = 4) (qu : Bool) (ld : Nat) :
    ∃ t : Nat, m * 2 ^ t < 2 ^ 64 ∧ pt 52 11 1023 (rndB 52 11 1023 ⟨kd, ng, m, e, qu, ld⟩) = ⟨2, ng, m * 2 ^ t, e - t, false, 0⟩ := by
  obtain ⟨n, l1, l2⟩ := log_of h0
  have hn : n < 24 := (Nat.pow_lt_pow_iff_right (by omega : 1 < 2)).1 (Nat.lt_of_le_of_lt l1 hm)
  have a1 : 2 ^ n * 2 ^ (52 - n) = 2 ^ 52 := by rw [← Nat.pow_add]; congr 1; omega
  have a2 : 2 ^ (n + 1) * 2 ^ (52 - n) = 2 ^ 53 := by rw [← Nat.pow_add]; congr 1; omega
  have hp := Nat.two_pow_pos (52 - n)
  have b1 : 2 ^ 52 ≤ m * 2 ^ (52 - n) := by rw [← a1]; exact Nat.mul_le_mul_right _ l1
  have b2 : m * 2 ^ (52 - n) < 2 ^ 53 := by rw [← a2]; exact Nat.mul_lt_mul_of_pos_right l2 hp
  refine ⟨52 - n, by omega, ?_⟩
  have e2 := len_at l1 l2 (by omega : m < 2 ^ 64)
  obtain ⟨E, hE⟩ : ∃ E : Nat, e + n + 1023 = E := ⟨_, (Int.toNat_of_nonneg (by omega)).symm⟩
  have hnb : nearB 52 11 1023 m e = (E - 1) * 2 ^ 52 + m * 2 ^ (52 - n) := by
    unfold nearB
    rw [if_neg h0, e2, if_neg (by omega)]
    have e3 : max (e + ((n + 1 : Nat) : Int) - 1 - ((52 : Nat) : Int)) (1 - 1023 - ((52 : Nat) : Int)) = e + n - 52 := by omega
    rw [e3]
    have e4 : (e + n - 52 - (1 - 1023 - ((52 : Nat) : Int))).toNat = E - 1 := by omega
    have e5 : inU m (e + n - 52 - e) = m * 2 ^ (52 - n) := by
      unfold inU
      rw [if_pos (by omega)]
      congr 2
      omega
    rw [e4, e5]
  generalize m * 2 ^ (52 - n) = Mt at *
  have hr : rndB 52 11 1023 ⟨kd, ng, m, e, qu, ld⟩ = (if ng then 2 ^ (52 + 11) else 0) + ((E - 1) * 2 ^ 52 + Mt) := by
    unfold rndB
    dsimp only
    rw [if_neg hk4, if_neg hk3, hnb]
  have q1 : (2 : Nat) ^ 52 = 4503599627370496 := by decide
  have q2 : (2 : Nat) ^ 11 = 2048 := by decide
  have q3 : (2 : Nat) ^ (52 + 11) = 9223372036854775808 := by decide
  have q4 : (2 : Nat) ^ 53 = 9007199254740992 := by decide
  rw [hr]
  rw [q4] at b2
  unfold pt sg
  rw [q1, q2, q3]
  rw [q1] at b1
  have d1 : ((if ng = true then 9223372036854775808 else 0) + ((E - 1) * 4503599627370496 + Mt)) / 4503599627370496 % 2048 = E := by
    cases ng <;> simp <;> omega
  have d2 : ((if ng = true then 9223372036854775808 else 0) + ((E - 1) * 4503599627370496 + Mt)) % 4503599627370496 = Mt - 4503599627370496 := by
    cases ng <;> simp <;> omega
  have d3 : ((if ng = true then 9223372036854775808 else 0) + ((E - 1) * 4503599627370496 + Mt)) / 9223372036854775808 % 2 = if ng then 1 else 0 := by
    cases ng <;> simp <;> omega
  rw [d1, d2, d3, if_neg (by omega), if_neg (by omega)]
  simp only [Pt.mk.injEq, true_and, and_true]
  refine ⟨by cases ng <;> simp, by omega, by omega⟩
theorem pt_bounds24 {p k : Nat} {bi : Int} (L : Lay p k bi) (hp : p ≤ 23) (b : Nat) : (pt p k bi b).mant < 2 ^ 24 := by
  have hpp := L.pp
  have hp10 : 2 ^ p ≤ 2 ^ 23 := Nat.pow_le_pow_right (by omega) hp
  have hF : b % 2 ^ p < 2 ^ p := Nat.mod_lt _ (by omega)
  unfold pt
  repeat' split
  all_goals (dsimp only; omega)
/-- **A number of a lesser layout, as a float of 64 bits, is it again.** -/
theorem there_back {p k : Nat} {bi : Int} (L : Lay p k bi) (hp : p ≤ 23) (hk : k ≤ 8) (h : Nat) (hh : h < 2 ^ (p + k + 1)) (h4 : ¬ (pt p k bi h).kind = 4) :
    ¬ (pt 52 11 1023 (rndB 52 11 1023 (pt p k bi h))).kind = 4 ∧ rndB p k bi (pt 52 11 1023 (rndB 52 11 1023 (pt p k bi h))) = h := by
  have hs := bits_sum hh
  have hps := parts_sum p k h
  have hneg := neg_pt p k bi h
  have hkk := L.kk
  have hpp := L.pp
  have hb2 := two_bi L
  have hk8 : 2 ^ k ≤ 2 ^ 8 := Nat.pow_le_pow_right (by omega) hk
  have hp10 : 2 ^ p ≤ 2 ^ 23 := Nat.pow_le_pow_right (by omega) hp
  have hbh : h = (if (pt p k bi h).neg then 2 ^ (p + k) else 0) + h % 2 ^ (p + k) := by rw [hneg, hps]; omega
  by_cases h3 : (pt p k bi h).kind = 3
  · -- infinite
    have hr : rndB 52 11 1023 (pt p k bi h) = (if (pt p k bi h).neg then 9223372036854775808 else 0) + 9218868437227405312 := by
      unfold rndB
      rw [if_neg h4, if_pos h3]
    have hq : pt 52 11 1023 ((if (pt p k bi h).neg then 9223372036854775808 else 0) + 9218868437227405312) = ⟨3, (pt p k bi h).neg, 0, 0, false, 0⟩ := by
      cases (pt p k bi h).neg <;> decide +kernel
    rw [hr, hq]
    refine ⟨by show ¬ (3 : Int) = 4; decide, ?_⟩
    have hru := rung_pt L h
    have hrg : rung p k bi (pt p k bi h) = (2 ^ k - 1) * 2 ^ p := by unfold rung; rw [h3]; rfl
    unfold rndB
    dsimp only
    rw [if_neg (by decide), if_pos rfl]
    rw [hrg] at hru
    rw [← hru]
    exact hbh.symm
  · by_cases h0 : (pt p k bi h).mant = 0
    · -- nought
      have hid := nearB_id L h h3 h4
      rw [h0] at hid
      have hz : h % 2 ^ (p + k) = 0 := by rw [← hid]; simp [nearB]
      have hr : rndB 52 11 1023 (pt p k bi h) = (if (pt p k bi h).neg then 9223372036854775808 else 0) := by
        unfold rndB
        rw [if_neg h4, if_neg h3, h0]
        have q3 : (2 : Nat) ^ (52 + 11) = 9223372036854775808 := by decide
        rw [q3]
        simp [nearB]
      have hq : pt 52 11 1023 (if (pt p k bi h).neg then 9223372036854775808 else 0) = ⟨0, (pt p k bi h).neg, 0, 0, false, 0⟩ := by
        cases (pt p k bi h).neg <;> decide +kernel
      rw [hr, hq]
      refine ⟨by show ¬ (0 : Int) = 4; decide, ?_⟩
      unfold rndB
      dsimp only
      rw [if_neg (show ¬ (0 : Int) = 4 by decide), if_neg (show ¬ (0 : Int) = 3 by decide)]
      rw [hz] at hbh
      simp only [nearB, if_true]
      exact hbh.symm
    · have hid := nearB_id L h h3 h4
      have hbd := (pt_bounds24 L hp h)
      have hex : -200 ≤ (pt p k bi h).exp ∧ (pt p k bi h).exp ≤ 200 := by
        have hE : h / 2 ^ p % 2 ^ k < 2 ^ k := Nat.mod_lt _ (by omega)
        unfold pt
        repeat' split
        all_goals (dsimp only; constructor <;> omega)
      generalize hx : pt p k bi h = x at *
      obtain ⟨kd, ng, M, X, qu, LD⟩ := x
      dsimp only at *
      obtain ⟨t, ht, hw⟩ := wide ng h0 hbd hex.1 hex.2 kd h3 h4 qu LD
      rw [hw]
      refine ⟨by show ¬ (2 : Int) = 4; decide, ?_⟩
      unfold rndB
      dsimp only
      rw [if_neg (show ¬ (2 : Int) = 4 by decide), if_neg (show ¬ (2 : Int) = 3 by decide), nearB_scale p k bi M t X h0 ht, hid]
      exact hbh.symm
end Go.Proofs.Ytjcjecbffnadaab
