/-
  Rounding rises: of two numbers the greater one is never rounded to less.
-/
import Derived.Test.YtjcjecbffnadaabEx
namespace Go.Proofs.Ytjcjecbffnadaab
open Go.RowKit
theorem rnd_mono {m m' : Nat} (s : Nat) (h : m ≤ m') : rnd m s ≤ rnd m' s := by
  have hp := Nat.two_pow_pos s
  have d1 := Nat.div_add_mod m (2 ^ s)
  have d2 := Nat.div_add_mod m' (2 ^ s)
  have r1 := Nat.mod_lt m hp
  have r2 := Nat.mod_lt m' hp
  have hq : m / 2 ^ s ≤ m' / 2 ^ s := Nat.div_le_div_right h
  unfold rnd
  by_cases c : m / 2 ^ s = m' / 2 ^ s
  · rw [c] at d1 ⊢
    have : m % 2 ^ s ≤ m' % 2 ^ s := by omega
    generalize m' / 2 ^ s = q at *
    generalize m % 2 ^ s = a at *
    generalize m' % 2 ^ s = b at *
    generalize 2 ^ s = P at *
    split <;> split <;> omega
  · generalize m / 2 ^ s = q at *
    generalize m' / 2 ^ s = q' at *
    split <;> split <;> omega
theorem inU_mono {m m' : Nat} (s : Int) (h : m ≤ m') : inU m s ≤ inU m' s := by
  unfold inU
  split
  · exact Nat.mul_le_mul_right _ h
  · exact rnd_mono _ h
theorem near_same (p k : Nat) (bi : Int) {m m' : Nat} (e : Int) (h0 : ¬ m = 0) (h : m ≤ m') (hl : Lib.bitLen m = Lib.bitLen m') : nearB p k bi m e ≤ nearB p k bi m' e := by
  unfold nearB
  rw [if_neg h0, if_neg (show ¬ m' = 0 by omega), hl]
  split
  · exact Nat.le_refl _
  · exact Nat.add_le_add_left (inU_mono _ h) _
theorem inU_pow (q p : Nat) : inU (2 ^ q) ((q : Int) - p) = 2 ^ p := by
  unfold inU
  split
  · rw [← Nat.pow_add]; congr 1; omega
  · have e1 : ((q : Int) - p).toNat = q - p := by omega
    have e2 : 2 ^ q = 2 ^ p * 2 ^ (q - p) := by rw [← Nat.pow_add]; congr 1; omega
    rw [e1]
    unfold rnd
    rw [e2, Nat.mul_mod_left, Nat.mul_div_cancel _ (Nat.two_pow_pos _), if_neg]
    have := Nat.two_pow_pos (q - p)
    omega
/-- Not above the next power of two. -/
theorem near_next {p k : Nat} {bi : Int} (L : Lay p k bi) {m q : Nat} (e : Int) (h1 : 2 ^ q ≤ m) (h2 : m < 2 ^ (q + 1)) (hq : q < 63) : nearB p k bi m e ≤ nearB p k bi (2 ^ (q + 1)) e := by
  have hm : m < 2 ^ 64 := Nat.lt_of_lt_of_le h2 (Nat.pow_le_pow_right (by omega) (by omega))
  have hp := Nat.two_pow_pos q
  have hp2 := Nat.two_pow_pos (q + 1)
  have h0 : ¬ m = 0 := by omega
  have l1 := len_at h1 h2 hm
  have l2 : Lib.bitLen (2 ^ (q + 1)) = q + 1 + 1 := len_at (Nat.le_refl _) (Nat.pow_lt_pow_right (by omega) (by omega)) (Nat.pow_lt_pow_right (by omega) (by omega))
  have hle := nearB_le L e hm
  by_cases c : bi < e + ((q + 1 + 1 : Nat) : Int) - 1
  · have : nearB p k bi (2 ^ (q + 1)) e = (2 ^ k - 1) * 2 ^ p := by
      unfold nearB
      rw [if_neg (by omega), l2, if_pos c]
    omega
  · have hf := near_facts L (e := e) h0 hm (by rw [l1]; omega)
    rw [l1] at hf
    unfold nearB
    rw [if_neg h0, if_neg (by omega), l1, l2, if_neg (by omega), if_neg c]
    by_cases d : e + ((q + 1 : Nat) : Int) - 1 - p < 1 - bi - p
    · have e1 : max (e + ((q + 1 : Nat) : Int) - 1 - (p : Int)) (1 - bi - p) = 1 - bi - p := by omega
      have e2 : max (e + ((q + 1 + 1 : Nat) : Int) - 1 - (p : Int)) (1 - bi - p) = 1 - bi - p := by omega
      rw [e1, e2]
      exact Nat.add_le_add_left (inU_mono _ (by omega)) _
    · have e1 : max (e + ((q + 1 : Nat) : Int) - 1 - (p : Int)) (1 - bi - p) = e + q - p := by omega
      have e2 : max (e + ((q + 1 + 1 : Nat) : Int) - 1 - (p : Int)) (1 - bi - p) = e + q + 1 - p := by omega
      rw [e1] at hf
      rw [e1, e2, show e + (q : Int) + 1 - p - e = ((q + 1 : Nat) : Int) - p by omega, inU_pow]
      obtain ⟨D, hD⟩ : ∃ D : Nat, e + (q : Int) - p - (1 - bi - p) = D := ⟨_, (Int.toNat_of_nonneg (by omega)).symm⟩
      have hD2 : (e + (q : Int) + 1 - p - (1 - bi - p)).toNat = D + 1 := by omega
      rw [hD2, hD, Int.toNat_natCast, Nat.succ_mul]
      have hps : 2 ^ (p + 1) = 2 * 2 ^ p := by rw [Nat.pow_succ]; omega
      have := hf.1
      omega
theorem near_pow (p k : Nat) (bi : Int) (q : Nat) (e : Int) (hq : q < 64) : nearB p k bi (2 ^ q) e = nearB p k bi 1 (e + q) := by
  have h := nearB_scale p k bi 1 q (e + q) (by omega) (by rw [Nat.one_mul]; exact Nat.pow_lt_pow_right (by omega) hq)
  rw [Nat.one_mul, show e + (q : Int) - q = e by omega] at h
  exact h
theorem near_step {p k : Nat} {bi : Int} (L : Lay p k bi) (e : Int) : nearB p k bi 1 e ≤ nearB p k bi 1 (e + 1) := by
  have h := near_next L (m := 1) (q := 0) e (by decide) (by decide) (by decide)
  rwa [near_pow p k bi 1 e (by decide)] at h
theorem near_steps {p k : Nat} {bi : Int} (L : Lay p k bi) (e : Int) : ∀ n : Nat, nearB p k bi 1 e ≤ nearB p k bi 1 (e + n)
  | 0 => by rw [show e + ((0 : Nat) : Int) = e by omega]; exact Nat.le_refl _
  | n + 1 => by
    have h := near_step L (e + n)
    rw [show e + (n : Int) + 1 = e + ((n + 1 : Nat) : Int) by omega] at h
    exact Nat.le_trans (near_steps L e n) h
/-- A number whose first digit stands lower. -/
theorem near_under {p k : Nat} {bi : Int} (L : Lay p k bi) {m m' q q' : Nat} {e e' : Int} (h1 : 2 ^ q ≤ m) (h2 : m < 2 ^ (q + 1)) (h3 : 2 ^ q' ≤ m') (h4 : m' < 2 ^ (q' + 1)) (hq : q < 63) (hq' : q' < 63) (h : e + q < e' + q') : nearB p k bi m e ≤ nearB p k bi m' e' := by
  have a1 := near_next L e h1 h2 hq
  rw [near_pow p k bi (q + 1) e (by omega)] at a1
  obtain ⟨n, hn⟩ : ∃ n : Nat, e' + q' - (e + ((q + 1 : Nat) : Int)) = n := ⟨_, (Int.toNat_of_nonneg (by omega)).symm⟩
  have a2 := near_steps L (e + ((q + 1 : Nat) : Int)) n
  rw [show e + ((q + 1 : Nat) : Int) + n = e' + q' by omega, ← near_pow p k bi q' e' (by omega)] at a2
  have hp := Nat.two_pow_pos q'
  have hb : m' < 2 ^ 64 := Nat.lt_of_lt_of_le h4 (Nat.pow_le_pow_right (by omega) (by omega))
  have a3 := near_same p k bi e' (m := 2 ^ q') (m' := m') (by omega) h3 (by rw [len_at h3 h4 hb, len_at (Nat.le_refl _) (Nat.pow_lt_pow_right (by omega) (by omega)) (Nat.pow_lt_pow_right (by omega) (by omega))])
  omega
/-- Rounding rises. -/
theorem near_rise {p k : Nat} {bi : Int} (L : Lay p k bi) {m m' : Nat} {e e' : Int} (hm : m < 9007199254740992) (hm' : m' < 9007199254740992) (h : (e = e' ∧ m ≤ m') ∨ (e < e' ∧ 4503599627370496 ≤ m')) : nearB p k bi m e ≤ nearB p k bi m' e' := by
  by_cases z : m = 0
  · rw [z]
    unfold nearB
    rw [if_pos rfl]
    exact Nat.zero_le _
  have z' : ¬ m' = 0 := by omega
  obtain ⟨q, h1, h2⟩ := log_of z
  obtain ⟨q', h3, h4⟩ := log_of z'
  have hq : q < 53 := (Nat.pow_lt_pow_iff_right (by omega : 1 < 2)).1 (Nat.lt_of_le_of_lt h1 hm)
  have hq' : q' < 53 := (Nat.pow_lt_pow_iff_right (by omega : 1 < 2)).1 (Nat.lt_of_le_of_lt h3 hm')
  rcases h with ⟨rfl, h⟩ | ⟨h, h5⟩
  · have hqq : q < q' + 1 := (Nat.pow_lt_pow_iff_right (by omega : 1 < 2)).1 (Nat.lt_of_le_of_lt h1 (Nat.lt_of_le_of_lt h h4))
    by_cases c : q = q'
    · subst c
      exact near_same p k bi e z h (by rw [len_at h1 h2 (by omega), len_at h3 h4 (by omega)])
    · exact near_under L h1 h2 h3 h4 (by omega) (by omega) (by omega)
  · have hq52 : 52 < q' + 1 := (Nat.pow_lt_pow_iff_right (by omega : 1 < 2)).1 (Nat.lt_of_le_of_lt h5 h4)
    exact near_under L h1 h2 h3 h4 (by omega) (by omega) (by omega)
end Go.Proofs.Ytjcjecbffnadaab
