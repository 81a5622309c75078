/-
  The great number's maths: what its digits say, what a carry leaves, what turning about gives.
-/
import Derived.Test.YtdhfkdopcphjlabBg
namespace Go.Proofs.Ytdhfkdopcphjlab
/-- What digits of any size say. -/
def bigV (f : Nat → Int) : Nat → Int
  | 0 => 0
  | n + 1 => bigV f n + f n * ((65536 ^ n : Nat) : Int)
/-- What digits of 16 bits say. -/
def bigN (D : Nat → Nat) : Nat → Nat
  | 0 => 0
  | n + 1 => bigN D n + D n * 65536 ^ n
theorem bigN_lt {D : Nat → Nat} : ∀ n, (∀ j, j < n → D j < 65536) → bigN D n < 65536 ^ n
  | 0, _ => by simp [bigN]
  | n + 1, h => by
    have h1 := bigN_lt n fun j hj => h j (by omega)
    have h2 := h n (by omega)
    show bigN D n + D n * 65536 ^ n < 65536 ^ (n + 1)
    rw [Nat.pow_succ]
    have h3 : D n * 65536 ^ n ≤ 65535 * 65536 ^ n := Nat.mul_le_mul_right _ (by omega)
    generalize 65536 ^ n = P at *
    omega
theorem bigN_congr {D E : Nat → Nat} : ∀ n, (∀ j, j < n → D j = E j) → bigN D n = bigN E n
  | 0, _ => rfl
  | n + 1, h => by
    show bigN D n + D n * 65536 ^ n = bigN E n + E n * 65536 ^ n
    rw [bigN_congr n fun j hj => h j (by omega), h n (by omega)]
theorem bigV_congr {f g : Nat → Int} : ∀ n, (∀ j, j < n → f j = g j) → bigV f n = bigV g n
  | 0, _ => rfl
  | n + 1, h => by
    show bigV f n + f n * _ = bigV g n + g n * _
    rw [bigV_congr n fun j hj => h j (by omega), h n (by omega)]
theorem bigN_zero {D : Nat → Nat} : ∀ n, bigN D n = 0 ↔ ∀ j, j < n → D j = 0
  | 0 => by simp [bigN]
  | n + 1 => by
    show bigN D n + D n * 65536 ^ n = 0 ↔ _
    have hp : 0 < 65536 ^ n := Nat.pos_of_ne_zero (by simp)
    rw [Nat.add_eq_zero_iff, bigN_zero n, Nat.mul_eq_zero]
    constructor
    · rintro ⟨h1, h2⟩ j hj
      by_cases e : j = n
      · subst e
        rcases h2 with h2 | h2
        · exact h2
        · omega
      · exact h1 j (by omega)
    · intro h
      exact ⟨fun j hj => h j (by omega), .inl (h n (by omega))⟩
theorem bigV_upd (f : Nat → Int) (k : Nat) (v : Int) : ∀ n, bigV (upd f k v) n = bigV f n + if k < n then (v - f k) * ((65536 ^ k : Nat) : Int) else 0
  | 0 => by simp [bigV]
  | n + 1 => by
    show bigV (upd f k v) n + upd f k v n * _ = bigV f n + f n * _ + _
    rw [bigV_upd f k v n]
    unfold upd
    by_cases e : n = k
    · subst e
      rw [if_neg (Nat.lt_irrefl _), if_pos rfl, if_pos (Nat.lt_succ_self _), Int.sub_mul]
      omega
    · rw [if_neg e]
      by_cases c : k < n
      · rw [if_pos c, if_pos (by omega)]; omega
      · rw [if_neg c, if_neg (by omega)]; omega
/-- Digits 0 to i - 1 are D's, the others f's. -/
def mix (D : Nat → Nat) (f : Nat → Int) (i : Nat) : Nat → Int := fun j => if j < i then ((D j : Nat) : Int) else f j
def updN (D : Nat → Nat) (k v : Nat) : Nat → Nat := fun j => if j = k then v else D j
theorem mix_at (D : Nat → Nat) (f : Nat → Int) (i : Nat) : mix D f i i = f i := by unfold mix; rw [if_neg (Nat.lt_irrefl _)]
theorem mix_upd (D : Nat → Nat) (f : Nat → Int) (i v : Nat) : upd (mix D f i) i (v : Int) = mix (updN D i v) f (i + 1) := by
  funext j
  unfold upd mix updN
  by_cases e : j = i
  · subst e
    rw [if_pos rfl, if_pos (by omega), if_pos rfl]
  · rw [if_neg e]
    by_cases c : j < i
    · rw [if_pos c, if_pos (by omega), if_neg e]
    · rw [if_neg c, if_neg (by omega)]
theorem bigN_updN (D : Nat → Nat) (i v : Nat) : bigN (updN D i v) (i + 1) = bigN D i + v * 65536 ^ i := by
  show bigN (updN D i v) i + updN D i v i * _ = _
  rw [bigN_congr (E := D) i fun j hj => by unfold updN; rw [if_neg (by omega)]]
  unfold updN
  rw [if_pos rfl]
/-- After i digits of the carrying. -/
structure S1 (f : Nat → Int) (D : Nat → Nat) (i : Nat) (c : Int) : Prop where
  low : ∀ j, j < i → D j < 65536
  sum : bigV f i = (bigN D i : Nat) + c * ((65536 ^ i : Nat) : Int)
  c1 : -1152921504606846976 ≤ c
  c2 : c ≤ 1152921504606846976
theorem S1.start (f : Nat → Int) (D : Nat → Nat) : S1 f D 0 0 := ⟨fun j hj => by omega, by simp [bigV, bigN], by omega, by omega⟩
theorem S1.step {f : Nat → Int} {D : Nat → Nat} {i : Nat} {c : Int} (h : S1 f D i c) (h1 : -1152921504606846976 ≤ f i) (h2 : f i ≤ 1152921504606846976) : S1 f (updN D i ((c + f i) % 65536).toNat) (i + 1) ((c + f i) / 65536) := by
  obtain ⟨l, s, a, b⟩ := h
  have e1 := Int.emod_nonneg (c + f i) (show (65536 : Int) ≠ 0 by decide)
  have e2 := Int.emod_lt_of_pos (c + f i) (show (0 : Int) < 65536 by decide)
  refine ⟨fun j hj => ?_, ?_, by omega, by omega⟩
  · unfold updN
    split
    · omega
    · exact l j (by omega)
  · rw [bigN_updN]
    show bigV f i + f i * _ = _
    rw [s, Int.natCast_add, Int.natCast_mul, Int.toNat_of_nonneg e1, Nat.pow_succ, Int.natCast_mul]
    have e3 := Int.emod_add_mul_ediv (c + f i) 65536
    generalize (c + f i) % 65536 = M at *
    generalize (c + f i) / 65536 = Q at *
    generalize (((65536 : Nat) ^ i : Nat) : Int) = P at *
    rw [Int.add_assoc, ← Int.add_mul, ← e3, Int.add_mul]
    rw [show (((65536 : Nat)) : Int) = 65536 from rfl, show Q * (P * 65536) = 65536 * Q * P by rw [Int.mul_comm P, ← Int.mul_assoc, Int.mul_comm Q]]
    omega
/-- After i digits of the turning about. -/
structure S2 (D U : Nat → Nat) (i o : Nat) : Prop where
  low : ∀ j, j < i → U j < 65536
  sum : bigN U i + bigN D i = o * 65536 ^ i
  o1 : o ≤ 1
theorem S2.start (D U : Nat → Nat) : S2 D U 0 0 := ⟨fun j hj => by omega, by simp [bigN], by omega⟩
theorem S2.step {D U : Nat → Nat} {i o : Nat} (h : S2 D U i o) (hD : D i < 65536) : S2 D (updN U i (if 0 < D i + o then 65536 - D i - o else 0)) (i + 1) (if 0 < D i + o then 1 else 0) := by
  obtain ⟨l, s, a⟩ := h
  refine ⟨fun j hj => ?_, ?_, by split <;> omega⟩
  · unfold updN
    split
    · split <;> omega
    · exact l j (by omega)
  · rw [bigN_updN, Nat.pow_succ]
    show _ + (bigN D i + D i * _) = _
    by_cases c : 0 < D i + o
    · rw [if_pos c, if_pos c]
      have e : (65536 - D i - o) * 65536 ^ i + D i * 65536 ^ i + o * 65536 ^ i = 65536 * 65536 ^ i := by rw [← Nat.add_mul, ← Nat.add_mul]; congr 1; omega
      rw [← s] at e
      generalize 65536 ^ i = P at *
      generalize (65536 - D i - o) * P = X at *
      omega
    · have h1 : D i = 0 := by omega
      have h2 : o = 0 := by omega
      rw [if_neg c, if_neg c, h1]
      rw [h2] at s
      omega
/-- The whole carrying, and what it says of the sign. -/
theorem S1.done {f : Nat → Int} {D : Nat → Nat} {n : Nat} {c : Int} (h : S1 f D n c) (hV : (bigV f n).natAbs < 65536 ^ n) : (c < 0 → bigV f n < 0 ∧ bigN D n + (bigV f n).natAbs = 65536 ^ n) ∧ (0 ≤ c → 0 ≤ bigV f n ∧ bigN D n = (bigV f n).natAbs) := by
  have hl := bigN_lt n h.low
  have hs := h.sum
  have hp : 0 < 65536 ^ n := Nat.pos_of_ne_zero (by simp)
  generalize bigV f n = V at *
  generalize bigN D n = B at *
  generalize 65536 ^ n = P at *
  have k1 : c < -1 → c * (P : Int) ≤ -2 * (P : Int) := fun h => Int.mul_le_mul_of_nonneg_right (by omega) (by omega)
  have k2 : 0 < c → 1 * (P : Int) ≤ c * (P : Int) := fun h => Int.mul_le_mul_of_nonneg_right (by omega) (by omega)
  refine ⟨fun hc => ?_, fun hc => ?_⟩
  · by_cases e : c = -1
    · subst e; omega
    · have := k1 (by omega); omega
  · by_cases e : c = 0
    · subst e; omega
    · have := k2 (by omega); omega
theorem S2.done {D U : Nat → Nat} {n o N : Nat} (h : S2 D U n o) (hN : bigN D n + N = 65536 ^ n) (h0 : bigN D n ≠ 0) : bigN U n = N := by
  have hs := h.sum
  have ho := h.o1
  rcases (show o = 0 ∨ o = 1 by omega) with rfl | rfl
  · omega
  · rw [Nat.one_mul] at hs; omega
end Go.Proofs.Ytdhfkdopcphjlab
