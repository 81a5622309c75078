/-
  A row of words of 64 bits as one number: what adding, taking away and turning about word by word gives. Numbers alone: no program in it.
-/
import Derived.Below
namespace Go.Proofs.Ytdhfkdopcphjlab
/-- The number that the first n words say. -/
def val (W : Nat → Nat) : Nat → Nat
  | 0 => 0
  | n + 1 => val W n + W n * 2 ^ (64 * n)
theorem pow64 (n : Nat) : 2 ^ (64 * (n + 1)) = 18446744073709551616 * 2 ^ (64 * n) := by
  rw [Nat.mul_succ, Nat.pow_add, Nat.mul_comm]
theorem val_lt {W : Nat → Nat} : ∀ n, (∀ i, i < n → W i < 18446744073709551616) → val W n < 2 ^ (64 * n)
  | 0, _ => by simp [val]
  | n + 1, h => by
    have h1 := val_lt n fun i hi => h i (by omega)
    have h2 := h n (by omega)
    rw [pow64]
    unfold val
    have h3 : (W n + 1) * 2 ^ (64 * n) ≤ 18446744073709551616 * 2 ^ (64 * n) := Nat.mul_le_mul_right _ h2
    rw [Nat.succ_mul] at h3
    omega
theorem val_congr {W U : Nat → Nat} : ∀ n, (∀ i, i < n → W i = U i) → val W n = val U n
  | 0, _ => rfl
  | n + 1, h => by
    unfold val
    rw [val_congr n fun i hi => h i (by omega), h n (by omega)]
/-- Words that agree from k on. -/
theorem val_tail {W U : Nat → Nat} {k : Nat} : ∀ n, k ≤ n → (∀ i, k ≤ i → i < n → W i = U i) → val W n + val U k = val U n + val W k
  | 0, h, _ => by
    have : k = 0 := by omega
    subst this
    rfl
  | n + 1, h, e => by
    by_cases c : k = n + 1
    · subst c; omega
    · have h1 := val_tail n (by omega) fun i hi hn => e i hi (by omega)
      have h2 := e n (by omega) (by omega)
      show val W n + W n * 2 ^ (64 * n) + val U k = val U n + U n * 2 ^ (64 * n) + val W k
      rw [h2]
      omega
/-- One word set. -/
def setW (W : Nat → Nat) (k v : Nat) : Nat → Nat := fun i => if i = k then v else W i
theorem setW_at (W : Nat → Nat) (k v : Nat) : setW W k v k = v := by simp [setW]
theorem setW_else (W : Nat → Nat) (k v i : Nat) (h : ¬ i = k) : setW W k v i = W i := by simp [setW, h]
theorem val_setW (W : Nat → Nat) (k v : Nat) : val (setW W k v) k = val W k := val_congr k fun i hi => setW_else W k v i (by omega)
/-- Words U are W with D added, as far as word k, and c carried on. -/
structure Added (W U : Nat → Nat) (k c D : Nat) : Prop where
  sum : val U k + c * 2 ^ (64 * k) = val W k + D
  carry : c ≤ 1
  low : ∀ i, U i < 18446744073709551616
  tail : ∀ i, k ≤ i → U i = W i
theorem Added.start {W : Nat → Nat} (k : Nat) (h : ∀ i, W i < 18446744073709551616) : Added W W k 0 0 := ⟨by omega, by omega, h, fun _ _ => rfl⟩
theorem Added.step {W U : Nat → Nat} {k c D : Nat} (h : Added W U k c D) (p : Nat) (hp : p < 18446744073709551616) : Added W (setW U k ((U k + p + c) % 18446744073709551616)) (k + 1) ((U k + p + c) / 18446744073709551616) (D + p * 2 ^ (64 * k)) := by
  have hk := h.low k
  have hc := h.carry
  have ht := h.tail k (Nat.le_refl _)
  refine ⟨?_, ?_, fun i => ?_, fun i hi => ?_⟩
  · show val (setW U k ((U k + p + c) % 18446744073709551616)) k + setW U k ((U k + p + c) % 18446744073709551616) k * 2 ^ (64 * k) + _ = _
    rw [val_setW, setW_at, pow64]
    show _ = val W k + W k * 2 ^ (64 * k) + _
    rw [← ht]
    have e : (U k + p + c) % 18446744073709551616 * 2 ^ (64 * k) + (U k + p + c) / 18446744073709551616 * (18446744073709551616 * 2 ^ (64 * k)) = U k * 2 ^ (64 * k) + p * 2 ^ (64 * k) + c * 2 ^ (64 * k) := by
      rw [← Nat.mul_assoc, ← Nat.add_mul, ← Nat.add_mul, ← Nat.add_mul]
      congr 1
      omega
    have := h.sum
    omega
  · omega
  · unfold setW
    split
    · omega
    · exact h.low i
  · rw [setW_else _ _ _ _ (by omega)]
    exact h.tail i (by omega)
theorem Added.ends {W U : Nat → Nat} {k c D : Nat} (h : Added W U k c D) (hk : k ≤ 66) (hc : c = 0 ∨ k = 66) : ((val U 66 : Nat) : Int) % (2 ^ 4224 : Nat) = (((val W 66 : Nat) : Int) + (D : Int)) % (2 ^ 4224 : Nat) := by
  have ht := val_tail (W := U) (U := W) 66 hk fun i hi _ => h.tail i hi
  have hs := h.sum
  rcases hc with rfl | rfl
  · have : val U 66 = val W 66 + D := by omega
    rw [this, Int.natCast_add]
  · have e : (64 * 66 : Nat) = 4224 := rfl
    rw [e] at hs
    have : ((val W 66 : Nat) : Int) + (D : Int) = ((val U 66 : Nat) : Int) + (c : Int) * ((2 ^ 4224 : Nat) : Int) := by
      have := congrArg (fun n : Nat => (n : Int)) hs
      simp only [Int.natCast_add, Int.natCast_mul] at this
      exact this.symm
    rw [this, Int.add_mul_emod_self_right]
/-- Words U are W with D taken away, as far as word k, and c borrowed. -/
structure Taken (W U : Nat → Nat) (k c D : Nat) : Prop where
  sum : val U k + D = val W k + c * 2 ^ (64 * k)
  carry : c ≤ 1
  low : ∀ i, U i < 18446744073709551616
  tail : ∀ i, k ≤ i → U i = W i
theorem Taken.start {W : Nat → Nat} (k : Nat) (h : ∀ i, W i < 18446744073709551616) : Taken W W k 0 0 := ⟨by omega, by omega, h, fun _ _ => rfl⟩
theorem Taken.step {W U : Nat → Nat} {k c D : Nat} (h : Taken W U k c D) (p : Nat) (hp : p < 18446744073709551616) : Taken W (setW U k ((U k + 18446744073709551616 - p - c) % 18446744073709551616)) (k + 1) (if U k < p + c then 1 else 0) (D + p * 2 ^ (64 * k)) := by
  have hk := h.low k
  have hc := h.carry
  have ht := h.tail k (Nat.le_refl _)
  refine ⟨?_, ?_, fun i => ?_, fun i hi => ?_⟩
  · show val (setW U k ((U k + 18446744073709551616 - p - c) % 18446744073709551616)) k + setW U k ((U k + 18446744073709551616 - p - c) % 18446744073709551616) k * 2 ^ (64 * k) + _ = val W k + W k * 2 ^ (64 * k) + _
    rw [val_setW, setW_at, pow64, ← ht]
    have e : (U k + 18446744073709551616 - p - c) % 18446744073709551616 * 2 ^ (64 * k) + p * 2 ^ (64 * k) + c * 2 ^ (64 * k) = U k * 2 ^ (64 * k) + (if U k < p + c then 1 else 0) * (18446744073709551616 * 2 ^ (64 * k)) := by
      rw [← Nat.mul_assoc, ← Nat.add_mul, ← Nat.add_mul, ← Nat.add_mul]
      congr 1
      split <;> omega
    have := h.sum
    omega
  · split <;> omega
  · unfold setW
    split
    · omega
    · exact h.low i
  · rw [setW_else _ _ _ _ (by omega)]
    exact h.tail i (by omega)
theorem Taken.ends {W U : Nat → Nat} {k c D : Nat} (h : Taken W U k c D) (hk : k ≤ 66) (hc : c = 0 ∨ k = 66) : ((val U 66 : Nat) : Int) % (2 ^ 4224 : Nat) = (((val W 66 : Nat) : Int) - (D : Int)) % (2 ^ 4224 : Nat) := by
  have ht := val_tail (W := U) (U := W) 66 hk fun i hi _ => h.tail i hi
  have hs := h.sum
  rcases hc with rfl | rfl
  · have : ((val U 66 : Nat) : Int) = ((val W 66 : Nat) : Int) - (D : Int) := by omega
    rw [this]
  · have e : (64 * 66 : Nat) = 4224 := rfl
    rw [e] at hs
    have : ((val U 66 : Nat) : Int) = ((val W 66 : Nat) : Int) - (D : Int) + (c : Int) * ((2 ^ 4224 : Nat) : Int) := by
      have := congrArg (fun n : Nat => (n : Int)) hs
      simp only [Int.natCast_add, Int.natCast_mul] at this
      omega
    rw [this, Int.add_mul_emod_self_right]
/-- Words U are W turned about, as far as word k, and c carried on. -/
structure Turned (W U : Nat → Nat) (k c : Nat) : Prop where
  sum : val U k + c * 2 ^ (64 * k) + val W k = 2 ^ (64 * k)
  carry : c ≤ 1
  low : ∀ i, U i < 18446744073709551616
  tail : ∀ i, k ≤ i → U i = W i
theorem Turned.start {W : Nat → Nat} (h : ∀ i, W i < 18446744073709551616) : Turned W W 0 1 := ⟨by simp [val], by omega, h, fun _ _ => rfl⟩
theorem Turned.step {W U : Nat → Nat} {k c : Nat} (h : Turned W U k c) : Turned W (setW U k ((18446744073709551615 - W k + c) % 18446744073709551616)) (k + 1) ((18446744073709551615 - W k + c) / 18446744073709551616) := by
  have hk := h.low k
  have hc := h.carry
  have ht := h.tail k (Nat.le_refl _)
  rw [ht] at hk
  refine ⟨?_, ?_, fun i => ?_, fun i hi => ?_⟩
  · show val (setW U k ((18446744073709551615 - W k + c) % 18446744073709551616)) k + setW U k ((18446744073709551615 - W k + c) % 18446744073709551616) k * 2 ^ (64 * k) + _ + (val W k + W k * 2 ^ (64 * k)) = _
    rw [val_setW, setW_at, pow64]
    have e : (18446744073709551615 - W k + c) % 18446744073709551616 * 2 ^ (64 * k) + (18446744073709551615 - W k + c) / 18446744073709551616 * (18446744073709551616 * 2 ^ (64 * k)) + W k * 2 ^ (64 * k) + 1 * 2 ^ (64 * k) = 18446744073709551616 * 2 ^ (64 * k) + c * 2 ^ (64 * k) := by
      rw [← Nat.mul_assoc, ← Nat.add_mul, ← Nat.add_mul, ← Nat.add_mul, ← Nat.add_mul]
      congr 1
      omega
    have := h.sum
    omega
  · omega
  · unfold setW
    split
    · omega
    · exact h.low i
  · rw [setW_else _ _ _ _ (by omega)]
    exact h.tail i (by omega)
/-- A number of two words, moved up: its three pieces. -/
theorem pieces_are (h l s f : Nat) (_ : s < 64) (_ : l < 18446744073709551616) :
    l * 2 ^ s % 18446744073709551616 * 2 ^ (64 * f) + (h * 2 ^ s % 18446744073709551616 + l / 2 ^ (64 - s)) * 2 ^ (64 * (f + 1)) + h / 2 ^ (64 - s) * 2 ^ (64 * (f + 2)) = (h * 18446744073709551616 + l) * 2 ^ (64 * f + s) := by
  have hm : ∀ x : Nat, x * 2 ^ s = x * 2 ^ s % 18446744073709551616 + 18446744073709551616 * (x / 2 ^ (64 - s)) := fun x => by
    have e : (18446744073709551616 : Nat) = 2 ^ s * 2 ^ (64 - s) := by rw [← Nat.pow_add, show s + (64 - s) = 64 by omega]
    have hd : x / 2 ^ (64 - s) = x * 2 ^ s / 18446744073709551616 := by
      rw [e, Nat.mul_comm x (2 ^ s), Nat.mul_div_mul_left _ _ (Nat.two_pow_pos s)]
    rw [hd]
    omega
  have h1 := hm h
  have h2 := hm l
  rw [pow64 f, show f + 2 = f + 1 + 1 from rfl, pow64 (f + 1), pow64 f, Nat.pow_add, Nat.mul_comm (2 ^ (64 * f)) (2 ^ s), ← Nat.mul_assoc (_ + l) _ _, ← Nat.mul_assoc (_ + l / _) _ _, ← Nat.mul_assoc _ 18446744073709551616 _, ← Nat.mul_assoc (_ * 18446744073709551616) 18446744073709551616 _, ← Nat.add_mul, ← Nat.add_mul]
  congr 1
  have e3 : (h * 18446744073709551616 + l) * 2 ^ s = h * 2 ^ s * 18446744073709551616 + l * 2 ^ s := by rw [Nat.add_mul, Nat.mul_right_comm]
  rw [e3]
  generalize h * 2 ^ s = A at *
  generalize l * 2 ^ s = B at *
  omega
end Go.Proofs.Ytdhfkdopcphjlab
