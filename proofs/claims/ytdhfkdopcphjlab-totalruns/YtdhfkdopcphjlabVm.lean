/-
  A row of words of 64 bits as one number: its length, its bits from a place on, and whether anything stands below. Numbers alone: no program in it.
-/
import Derived.Test.YtdhfkdopcphjlabVl
namespace Go.Proofs.Ytdhfkdopcphjlab
theorem val_split (W : Nat → Nat) (i : Nat) : ∀ m, val W (i + m) = val W i + 2 ^ (64 * i) * val (fun j => W (i + j)) m
  | 0 => by simp [val]
  | m + 1 => by
    show val W (i + m) + W (i + m) * 2 ^ (64 * (i + m)) = _ + _ * (val (fun j => W (i + j)) m + W (i + m) * 2 ^ (64 * m))
    rw [val_split W i m, Nat.mul_add 64, Nat.pow_add, Nat.mul_add, Nat.mul_left_comm (2 ^ (64 * i)) (W (i + m))]
    omega
theorem val_top {W : Nat → Nat} {i : Nat} (h : ∀ j, i ≤ j → j < 66 → W j = 0) (hi : i ≤ 66) : val W 66 = val W i := by
  have := val_tail (W := W) (U := fun j => if j < i then W j else 0) 66 hi fun j h1 h2 => by rw [h j h1 h2, if_neg (by omega)]
  have e : val (fun j => if j < i then W j else 0) i = val W i := val_congr i fun j hj => by rw [if_pos hj]
  have f : ∀ n, val (fun j => if j < i then W j else 0) (i + n) = val W i := fun n => by
    induction n with
    | zero => exact e
    | succ n ih =>
      show val (fun j => if j < i then W j else 0) (i + n) + (if i + n < i then W (i + n) else 0) * _ = _
      rw [ih, if_neg (by omega), Nat.zero_mul, Nat.add_zero]
  have g := f (66 - i)
  rw [show i + (66 - i) = 66 by omega] at g
  omega
theorem val_zero {W : Nat → Nat} : ∀ n, val W n = 0 ↔ ∀ j, j < n → W j = 0
  | 0 => by simp [val]
  | n + 1 => by
    have := val_zero (W := W) n
    have hp := Nat.two_pow_pos (64 * n)
    unfold val
    constructor
    · intro h j hj
      have h1 : val W n = 0 := by omega
      have h2 : W n * 2 ^ (64 * n) = 0 := by omega
      rcases Nat.mul_eq_zero.1 h2 with h2 | h2
      · by_cases c : j = n
        · rw [c]; exact h2
        · exact this.1 h1 j (by omega)
      · omega
    · intro h
      rw [this.2 fun j hj => h j (by omega), h n (by omega)]
      simp
/-- How many bits a number has. -/
def lenN (n : Nat) : Nat := if n = 0 then 0 else n.log2 + 1
theorem lenN_is {n l : Nat} (h1 : 2 ^ l ≤ n) (h2 : n < 2 ^ (l + 1)) : lenN n = l + 1 := by
  have hn : n ≠ 0 := by have := Nat.two_pow_pos l; omega
  unfold lenN
  rw [if_neg hn, (Nat.log2_eq_iff hn).2 ⟨h1, h2⟩]
theorem lenN_lt (n : Nat) : n < 2 ^ lenN n := by
  unfold lenN
  split
  · rename_i h; subst h; decide
  · exact Nat.lt_log2_self
theorem lenN_le {n : Nat} (h : n ≠ 0) : 2 ^ (lenN n - 1) ≤ n := by
  unfold lenN
  rw [if_neg h]
  exact Nat.log2_self_le h
theorem lenN_mono {n b : Nat} (h : n < 2 ^ b) : lenN n ≤ b := by
  by_cases c : n = 0
  · subst c; simp [lenN]
  · refine Classical.byContradiction fun q => ?_
    have h1 := lenN_le c
    have h2 : 2 ^ b ≤ 2 ^ (lenN n - 1) := Nat.pow_le_pow_right (by omega) (by omega)
    omega
/-- The length of a row, by its highest word that is not 0. -/
theorem len_words {W : Nat → Nat} {i : Nat} (hi : i < 66) (h : ∀ j, j < 66 → W j < 18446744073709551616) (ht : ∀ j, i < j → j < 66 → W j = 0) (h0 : W i ≠ 0) : lenN (val W 66) = i * 64 + lenN (W i) := by
  rw [val_top (i := i + 1) (fun j h1 h2 => ht j (by omega) h2) (by omega)]
  have h1 := lenN_lt (W i)
  have h2 := lenN_le h0
  have hl : 1 ≤ lenN (W i) := by unfold lenN; rw [if_neg h0]; omega
  obtain ⟨l, hl⟩ : ∃ l, lenN (W i) = l + 1 := ⟨lenN (W i) - 1, by omega⟩
  rw [hl] at h1 h2 ⊢
  rw [Nat.add_sub_cancel] at h2
  have hv := val_lt (W := W) i fun j hj => h j (by omega)
  have hp := Nat.two_pow_pos (64 * i)
  have := lenN_is (n := val W (i + 1)) (l := i * 64 + l) ?_ ?_
  · rw [this]; omega
  · show _ ≤ val W i + W i * 2 ^ (64 * i)
    rw [Nat.mul_comm i, Nat.add_comm (64 * i), Nat.pow_add]
    exact Nat.le_trans (Nat.mul_le_mul_right _ h2) (by omega)
  · show val W i + W i * 2 ^ (64 * i) < _
    rw [Nat.mul_comm i, Nat.add_assoc, Nat.add_comm (64 * i), Nat.pow_add]
    have : (W i + 1) * 2 ^ (64 * i) ≤ 2 ^ (l + 1) * 2 ^ (64 * i) := Nat.mul_le_mul_right _ h1
    rw [Nat.succ_mul] at this
    omega
theorem low_up (x s : Nat) (hs : s ≤ 64) : x * 2 ^ (64 - s) % 18446744073709551616 = x % 2 ^ s * 2 ^ (64 - s) := by
  have e : (18446744073709551616 : Nat) = 2 ^ s * 2 ^ (64 - s) := by rw [← Nat.pow_add, show s + (64 - s) = 64 by omega]
  rw [e, Nat.mul_mod_mul_right]
/-- The bits from a place on. -/
theorem word_at {W : Nat → Nat} {i s : Nat} (hi : i + 1 < 66) (hs : s < 64) (h : ∀ j, j < 66 → W j < 18446744073709551616) :
    val W 66 / 2 ^ (64 * i + s) % 18446744073709551616 = W i / 2 ^ s + W (i + 1) * 2 ^ (64 - s) % 18446744073709551616 := by
  obtain ⟨m, hm⟩ : ∃ m, 66 = i + (m + 2) := ⟨64 - i, by omega⟩
  have hv := val_lt (W := W) i fun j hj => h j (by omega)
  have h1 := h i (by omega)
  rw [Nat.pow_add, ← Nat.div_div_eq_div_mul]
  have e1 : val W 66 / 2 ^ (64 * i) = val (fun j => W (i + j)) (m + 2) := by
    rw [hm, val_split, Nat.add_mul_div_left _ _ (Nat.two_pow_pos _), Nat.div_eq_of_lt hv, Nat.zero_add]
  have e2 : val (fun j => W (i + j)) (m + 2) = W i + 18446744073709551616 * (W (i + 1) + 18446744073709551616 * val (fun j => W (i + (2 + j))) m) := by
    rw [Nat.add_comm m 2, val_split (fun j => W (i + j)) 2 m]
    show 0 + W (i + 0) * 2 ^ (64 * 0) + W (i + 1) * 2 ^ (64 * 1) + _ = _
    rw [Nat.mul_zero, Nat.pow_zero, Nat.add_zero, show (2 : Nat) ^ (64 * 1) = 18446744073709551616 from rfl, show (2 : Nat) ^ (64 * 2) = 18446744073709551616 * 18446744073709551616 from rfl]
    omega
  rw [e1, e2, low_up _ _ (by omega)]
  generalize val (fun j => W (i + (2 + j))) m = r
  have e3 : (18446744073709551616 : Nat) = 2 ^ s * 2 ^ (64 - s) := by rw [← Nat.pow_add, show s + (64 - s) = 64 by omega]
  have hp := Nat.two_pow_pos s
  have hp2 := Nat.two_pow_pos (64 - s)
  have e4 : (W i + 18446744073709551616 * (W (i + 1) + 18446744073709551616 * r)) / 2 ^ s = W i / 2 ^ s + 2 ^ (64 - s) * (W (i + 1) + 18446744073709551616 * r) := by
    rw [show W i + 18446744073709551616 * (W (i + 1) + 18446744073709551616 * r) = W i + 2 ^ s * (2 ^ (64 - s) * (W (i + 1) + 18446744073709551616 * r)) by rw [← Nat.mul_assoc, ← e3], Nat.add_mul_div_left _ _ hp]
  have hq : W i / 2 ^ s < 2 ^ (64 - s) := Nat.div_lt_of_lt_mul (by rw [← e3]; exact h1)
  have hr : W (i + 1) % 2 ^ s < 2 ^ s := Nat.mod_lt _ hp
  have hdm := Nat.div_add_mod (W (i + 1)) (2 ^ s)
  have e5 : 2 ^ (64 - s) * (W (i + 1) + 18446744073709551616 * r) = W (i + 1) % 2 ^ s * 2 ^ (64 - s) + 18446744073709551616 * (W (i + 1) / 2 ^ s + 2 ^ (64 - s) * r) := by
    have e6 : 2 ^ (64 - s) * W (i + 1) = 2 ^ (64 - s) * (2 ^ s * (W (i + 1) / 2 ^ s) + W (i + 1) % 2 ^ s) := by rw [hdm]
    have e7 : 2 ^ (64 - s) * (2 ^ s * (W (i + 1) / 2 ^ s)) = 18446744073709551616 * (W (i + 1) / 2 ^ s) := by rw [← Nat.mul_assoc, Nat.mul_comm (2 ^ (64 - s)), ← e3]
    have e8 : 2 ^ (64 - s) * (18446744073709551616 * r) = 18446744073709551616 * (2 ^ (64 - s) * r) := Nat.mul_left_comm _ _ _
    rw [Nat.mul_add, e6, Nat.mul_add, e7, e8, Nat.mul_comm (2 ^ (64 - s)) (W (i + 1) % 2 ^ s)]
    omega
  rw [e4, e5]
  have hb : W (i + 1) % 2 ^ s * 2 ^ (64 - s) + 2 ^ (64 - s) ≤ 18446744073709551616 := by
    have : (W (i + 1) % 2 ^ s + 1) * 2 ^ (64 - s) ≤ 2 ^ s * 2 ^ (64 - s) := Nat.mul_le_mul_right _ hr
    rw [Nat.succ_mul, ← e3] at this
    omega
  rw [← Nat.add_assoc, Nat.add_mul_mod_self_left, Nat.mod_eq_of_lt (by omega)]
/-- Whether anything stands below a place. -/
theorem any_below {W : Nat → Nat} {i s : Nat} (hi : i < 66) (hs : s < 64) (h : ∀ j, j < 66 → W j < 18446744073709551616) :
    val W 66 % 2 ^ (64 * i + s) = 0 ↔ (∀ j, j < i → W j = 0) ∧ W i * 2 ^ (64 - s) % 18446744073709551616 = 0 := by
  obtain ⟨m, hm⟩ : ∃ m, 66 = i + (m + 1) := ⟨65 - i, by omega⟩
  have hv := val_lt (W := W) i fun j hj => h j (by omega)
  have hp := Nat.two_pow_pos s
  have hp2 := Nat.two_pow_pos (64 - s)
  have hpi := Nat.two_pow_pos (64 * i)
  have e3 : (18446744073709551616 : Nat) = 2 ^ s * 2 ^ (64 - s) := by rw [← Nat.pow_add, show s + (64 - s) = 64 by omega]
  have e1 : val W 66 % 2 ^ (64 * i + s) = val W i + 2 ^ (64 * i) * (W i % 2 ^ s) := by
    rw [hm, val_split, Nat.pow_add, Nat.mod_mul, Nat.add_mul_mod_self_left, Nat.mod_eq_of_lt hv, Nat.add_mul_div_left _ _ hpi, Nat.div_eq_of_lt hv, Nat.zero_add]
    congr 2
    rw [Nat.add_comm m 1, val_split (fun j => W (i + j)) 1 m]
    show (0 + W (i + 0) * 2 ^ (64 * 0) + 2 ^ (64 * 1) * _) % _ = _
    rw [Nat.mul_zero, Nat.pow_zero, Nat.add_zero, show (2 : Nat) ^ (64 * 1) = 2 ^ s * 2 ^ (64 - s) from e3, Nat.zero_add, Nat.mul_one, Nat.mul_assoc, Nat.add_mul_mod_self_left]
  rw [e1, low_up _ _ (by omega), ← val_zero (W := W) i]
  constructor
  · intro h
    have h1 : val W i = 0 := by omega
    have h2 : 2 ^ (64 * i) * (W i % 2 ^ s) = 0 := by omega
    rcases Nat.mul_eq_zero.1 h2 with h2 | h2
    · omega
    · exact ⟨h1, by rw [h2, Nat.zero_mul]⟩
  · rintro ⟨h1, h2⟩
    rcases Nat.mul_eq_zero.1 h2 with h2 | h2
    · rw [h1, h2, Nat.mul_zero]
    · omega
end Go.Proofs.Ytdhfkdopcphjlab
