/-
  Plain arithmetic of the tree that says how many places are marked: what a change does to it, what a sum and a descent find. No program is run here.
-/
import Derived.Test.YtahmeejcgddlhabPd
namespace Go.Proofs.Ytahmeejcgddlhab
open Go.RowKit
theorem and_comp (n a : Nat) (h : a < 2 ^ n) : a &&& (2 ^ n - (a + 1)) = 0 := by
  apply Nat.eq_of_testBit_eq
  intro i
  rw [Nat.testBit_and, Nat.testBit_two_pow_sub_succ h]
  cases a.testBit i <;> simp
theorem and_odd (a b : Nat) : (2 * a + 1) &&& (2 * b + 1) = 2 * (a &&& b) + 1 := by
  apply Nat.eq_of_testBit_eq
  intro i
  cases i with
  | zero => simp
  | succ i => rw [Nat.testBit_and, Nat.testBit_succ, Nat.testBit_succ, Nat.testBit_succ, show (2 * a + 1) / 2 = a by omega, show (2 * b + 1) / 2 = b by omega, show (2 * (a &&& b) + 1) / 2 = a &&& b by omega, Nat.testBit_and]
theorem and_even (a b : Nat) : (2 * a) &&& (2 * b) = 2 * (a &&& b) := by
  apply Nat.eq_of_testBit_eq
  intro i
  cases i with
  | zero => simp
  | succ i => rw [Nat.testBit_and, Nat.testBit_succ, Nat.testBit_succ, Nat.testBit_succ, show (2 * a) / 2 = a by omega, show (2 * b) / 2 = b by omega, show (2 * (a &&& b)) / 2 = a &&& b by omega, Nat.testBit_and]
theorem lb_gen : ∀ (n i : Nat), 0 < i → i < 2 ^ n → ∃ k a, i = 2 ^ k * (2 * a + 1) ∧ i &&& (2 ^ n - i) = 2 ^ k
  | 0, i, h, h1 => by simp at h1; omega
  | n + 1, i, h, h1 => by
    rw [Nat.pow_succ] at h1
    by_cases o : i % 2 = 1
    · obtain ⟨a, rfl⟩ : ∃ a, i = 2 * a + 1 := ⟨i / 2, by omega⟩
      refine ⟨0, a, by omega, ?_⟩
      rw [show 2 ^ (n + 1) - (2 * a + 1) = 2 * (2 ^ n - (a + 1)) + 1 by rw [Nat.pow_succ]; omega, and_odd, and_comp n a (by omega)]
    · obtain ⟨j, rfl⟩ : ∃ j, i = 2 * j := ⟨i / 2, by omega⟩
      obtain ⟨k, a, e1, e2⟩ := lb_gen n j (by omega) (by omega)
      refine ⟨k + 1, a, by rw [Nat.pow_succ, Nat.mul_comm (2 ^ k) 2, Nat.mul_assoc, ← e1], ?_⟩
      rw [show 2 ^ (n + 1) - 2 * j = 2 * (2 ^ n - j) by rw [Nat.pow_succ]; omega, and_even, e2, Nat.pow_succ, Nat.mul_comm]
theorem lb_is (i : Nat) (h : 0 < i) (h1 : i < 18446744073709551616) : ∃ k a, i = 2 ^ k * (2 * a + 1) ∧ lb i = 2 ^ k := lb_gen 64 i h h1
theorem lb_of (k a : Nat) (h1 : 2 ^ k * (2 * a + 1) < 18446744073709551616) : lb (2 ^ k * (2 * a + 1)) = 2 ^ k := by
  have hp : 0 < 2 ^ k := Nat.two_pow_pos k
  obtain ⟨k', a', e1, e2⟩ := lb_is (2 ^ k * (2 * a + 1)) (Nat.mul_pos hp (by omega)) h1
  rw [e2]
  congr 1
  rcases Nat.lt_trichotomy k k' with c | c | c
  · obtain ⟨d, rfl⟩ : ∃ d, k' = k + d + 1 := ⟨k' - k - 1, by omega⟩
    rw [show 2 ^ (k + d + 1) = 2 ^ k * (2 * 2 ^ d) by rw [Nat.pow_succ, Nat.pow_add, Nat.mul_assoc, Nat.mul_comm (2 ^ d) 2], Nat.mul_assoc] at e1
    have := Nat.eq_of_mul_eq_mul_left hp e1
    rw [Nat.mul_assoc] at this
    omega
  · exact c.symm
  · obtain ⟨d, rfl⟩ : ∃ d, k = k' + d + 1 := ⟨k - k' - 1, by omega⟩
    rw [show 2 ^ (k' + d + 1) = 2 ^ k' * (2 * 2 ^ d) by rw [Nat.pow_succ, Nat.pow_add, Nat.mul_assoc, Nat.mul_comm (2 ^ d) 2], Nat.mul_assoc] at e1
    have := Nat.eq_of_mul_eq_mul_left (Nat.two_pow_pos k') e1
    rw [Nat.mul_assoc] at this
    omega
/-- What is met behind a place of the tree is met behind the next one, but for the place itself. -/
theorem fen_step (j i : Nat) (hj : 0 < j) (hj1 : j < 4611686018427387904) (hi : i < 4611686018427387904) : (i - lb i < j ∧ j ≤ i ∧ i ≠ j) ↔ (i - lb i < j + lb j ∧ j + lb j ≤ i) := by
  obtain ⟨k, a, e1, e2⟩ := lb_is j hj (by omega)
  have hk : 0 < 2 ^ k := Nat.two_pow_pos k
  have hj' : j + lb j = 2 ^ k * (2 * a + 2) := by rw [e2, e1, show 2 * a + 2 = (2 * a + 1) + 1 by omega, Nat.mul_succ (2 ^ k) (2 * a + 1)]
  rw [hj']
  by_cases hz : i = 0
  · subst hz
    constructor
    · omega
    · rintro ⟨-, h⟩
      have := Nat.mul_pos hk (show 0 < 2 * a + 2 by omega)
      omega
  obtain ⟨e, c, f1, f2⟩ := lb_is i (by omega) (by omega)
  have he : 0 < 2 ^ e := Nat.two_pow_pos e
  have hi' : i - lb i = 2 ^ e * (2 * c) := by rw [f2]; rw [Nat.mul_succ] at f1; omega
  rw [hi']
  by_cases hek : k ≤ e
  · obtain ⟨d, rfl⟩ : ∃ d, e = k + d := ⟨e - k, by omega⟩
    rw [Nat.pow_add] at f1 f2 hi' he ⊢
    rw [Nat.mul_assoc] at f1 ⊢
    have hd : 0 < 2 ^ d := Nat.two_pow_pos d
    have x1 : 2 ^ d * (2 * c) = 2 * (2 ^ d * c) := by rw [← Nat.mul_assoc, Nat.mul_comm _ 2, Nat.mul_assoc]
    have x2 : 2 ^ d * (2 * c + 1) = 2 * (2 ^ d * c) + 2 ^ d := by rw [Nat.mul_succ, x1]
    rw [x1]
    rw [x2] at f1
    generalize 2 ^ d * c = X at *
    generalize 2 ^ d = D at *
    generalize 2 ^ k = T at *
    subst f1 e1
    constructor
    · rintro ⟨h1, h2, h3⟩
      have h1 := Nat.lt_of_mul_lt_mul_left h1
      have h2 := Nat.le_of_mul_le_mul_left h2 hk
      have h3' : 2 * X + D ≠ 2 * a + 1 := fun h => h3 (by rw [h])
      exact ⟨Nat.mul_lt_mul_of_pos_left (by omega) hk, Nat.mul_le_mul_left _ (by omega)⟩
    · rintro ⟨h1, h2⟩
      have h1 := Nat.lt_of_mul_lt_mul_left h1
      have h2 := Nat.le_of_mul_le_mul_left h2 hk
      refine ⟨Nat.mul_lt_mul_of_pos_left (by omega) hk, Nat.mul_le_mul_left _ (by omega), fun h => ?_⟩
      have := Nat.eq_of_mul_eq_mul_left hk h
      omega
  · obtain ⟨d, rfl⟩ : ∃ d, k = e + d + 1 := ⟨k - e - 1, by omega⟩
    have x0 : 2 ^ (e + d + 1) = 2 ^ e * (2 * 2 ^ d) := by rw [Nat.pow_succ, Nat.pow_add, Nat.mul_assoc, Nat.mul_comm (2 ^ d) 2]
    rw [x0] at e1 ⊢
    rw [Nat.mul_assoc] at e1 ⊢
    have x1 : 2 * 2 ^ d * (2 * a + 1) = 2 * (2 ^ d * (2 * a + 1)) := by rw [Nat.mul_assoc]
    have x2 : 2 * 2 ^ d * (2 * a + 2) = 2 * (2 ^ d * (2 * a + 2)) := by rw [Nat.mul_assoc]
    have x3 : 2 ^ d * (2 * a + 1) < 2 ^ d * (2 * a + 2) := Nat.mul_lt_mul_of_pos_left (by omega) (Nat.two_pow_pos d)
    have x4 : 2 ^ d * (2 * a + 2) = 2 ^ d * (2 * a + 1) + 2 ^ d := by rw [show 2 * a + 2 = (2 * a + 1) + 1 by omega, Nat.mul_succ]
    rw [x1] at e1
    rw [x2]
    have y1 : i - j ≠ 0 ∨ i = j ∨ i < j := by omega
    generalize 2 ^ d * (2 * a + 2) = X at *
    generalize 2 ^ d * (2 * a + 1) = Y at *
    generalize 2 ^ d = D at *
    generalize 2 ^ e = T at *
    subst f1 e1
    constructor
    · rintro ⟨h1, h2, -⟩
      have h1 := Nat.lt_of_mul_lt_mul_left h1
      have h2 := Nat.le_of_mul_le_mul_left h2 he
      omega
    · rintro ⟨h1, h2⟩
      have h1 := Nat.lt_of_mul_lt_mul_left h1
      have h2 := Nat.le_of_mul_le_mul_left h2 he
      omega
/-- How many places below one are marked. -/
def cnt (mk : Nat → Bool) : Nat → Nat
  | 0 => 0
  | n + 1 => cnt mk n + (if mk n = true then 1 else 0)
theorem cnt_le (mk : Nat → Bool) : ∀ n, cnt mk n ≤ n
  | 0 => Nat.le_refl _
  | n + 1 => by rw [cnt]; have := cnt_le mk n; split <;> omega
theorem cnt_mono (mk : Nat → Bool) {a b : Nat} (h : a ≤ b) : cnt mk a ≤ cnt mk b := by
  induction b with
  | zero => obtain rfl : a = 0 := by omega
            exact Nat.le_refl _
  | succ b ih =>
    rw [cnt]
    by_cases e : a = b + 1
    · subst e; rw [cnt]; exact Nat.le_refl _
    · have := ih (by omega); omega
theorem cnt_congr {mk mk' : Nat → Bool} : ∀ n, (∀ j, j < n → mk j = mk' j) → cnt mk n = cnt mk' n
  | 0, _ => rfl
  | n + 1, h => by rw [cnt, cnt, cnt_congr n (fun j hj => h j (by omega)), h n (by omega)]
def setB (mk : Nat → Bool) (a : Nat) (v : Bool) : Nat → Bool := fun j => if j = a then v else mk j
theorem cnt_set_low (mk : Nat → Bool) (a : Nat) (v : Bool) (n : Nat) (h : n ≤ a) : cnt (setB mk a v) n = cnt mk n :=
  cnt_congr n (fun j hj => by unfold setB; rw [if_neg (by omega)])
theorem cnt_set_on (mk : Nat → Bool) (a : Nat) (hm : mk a = false) : ∀ n, a < n → cnt (setB mk a true) n = cnt mk n + 1
  | 0, h => by omega
  | n + 1, h => by
    rw [cnt, cnt]
    by_cases e : a = n
    · subst e
      rw [cnt_set_low _ _ _ _ (Nat.le_refl _)]
      simp [setB, hm]
    · rw [cnt_set_on mk a hm n (by omega)]
      simp only [setB, if_neg (show ¬ n = a by omega)]
      omega
theorem cnt_set_off (mk : Nat → Bool) (a : Nat) (hm : mk a = true) : ∀ n, a < n → cnt (setB mk a false) n + 1 = cnt mk n
  | 0, h => by omega
  | n + 1, h => by
    rw [cnt, cnt]
    by_cases e : a = n
    · subst e
      rw [cnt_set_low _ _ _ _ (Nat.le_refl _)]
      simp [setB, hm]
    · have := cnt_set_off mk a hm n (by omega)
      simp only [setB, if_neg (show ¬ n = a by omega)]
      omega
/-- The tree says how many are marked in each stretch. -/
def FT (n : Nat) (f : Nat → Int) (mk : Nat → Bool) : Prop := ∀ i, 1 ≤ i → i < n → f i = (cnt mk i : Int) - (cnt mk (i - lb i) : Int)
theorem FT.bound {n : Nat} {f : Nat → Int} {mk : Nat → Bool} (h : FT n f mk) (i : Nat) (h1 : 1 ≤ i) (h2 : i < n) : 0 ≤ f i ∧ f i ≤ i := by
  rw [h i h1 h2]
  have a := cnt_mono mk (Nat.sub_le i (lb i))
  have b := cnt_le mk i
  omega
theorem chF_at (n : Nat) (v : Int) (hn : n < 4611686018427387904) : ∀ (t i : Nat) (f : Nat → Int) (x : Nat), 0 < i → n ≤ t + i → x < n → chF n v t i f x = f x + (if x - lb x < i ∧ i ≤ x then v else 0)
  | 0, i, f, x, hi, ht, hx => by rw [chF, if_neg (by omega), Int.add_zero]
  | t + 1, i, f, x, hi, ht, hx => by
    rw [chF]
    by_cases c : i < n
    · rw [if_pos c]
      have hl := lb_pos (i := i) hi (by omega)
      rw [chF_at n v hn t (i + lb i) _ x (by omega) (by omega) hx]
      have st := fen_step i x hi (by omega) (by omega)
      by_cases e : x = i
      · subst e
        rw [if_pos rfl, if_neg (fun h => by omega), if_pos ⟨by have := lb_le x; omega, Nat.le_refl _⟩]
        omega
      · rw [if_neg e]
        congr 1
        by_cases q : x - lb x < i ∧ i ≤ x
        · rw [if_pos q, if_pos (st.1 ⟨q.1, q.2, e⟩)]
        · rw [if_neg q, if_neg (fun h => q (by have := st.2 h; exact ⟨this.1, this.2.1⟩))]
    · rw [if_neg c, if_neg (fun h => by omega), Int.add_zero]
theorem FT.on {n : Nat} {f : Nat → Int} {mk : Nat → Bool} (h : FT n f mk) (hn : n < 4611686018427387904) (a : Nat) (hm : mk a = false) : FT n (chF n 1 n (a + 1) f) (setB mk a true) := by
  intro i h1 h2
  rw [chF_at n 1 hn n (a + 1) f i (by omega) (by omega) h2, h i h1 h2]
  by_cases q : a < i
  · rw [cnt_set_on mk a hm i q]
    by_cases q2 : i - lb i < a + 1
    · rw [if_pos ⟨q2, q⟩, cnt_set_low mk a true _ (by omega)]; omega
    · rw [if_neg (fun h => q2 h.1), cnt_set_on mk a hm _ (by omega)]; omega
  · rw [if_neg (fun h => q h.2), cnt_set_low mk a true _ (by omega), cnt_set_low mk a true _ (by omega)]; omega
theorem FT.off {n : Nat} {f : Nat → Int} {mk : Nat → Bool} (h : FT n f mk) (hn : n < 4611686018427387904) (a : Nat) (hm : mk a = true) : FT n (chF n (-1) n (a + 1) f) (setB mk a false) := by
  intro i h1 h2
  rw [chF_at n (-1) hn n (a + 1) f i (by omega) (by omega) h2, h i h1 h2]
  by_cases q : a < i
  · have z := cnt_set_off mk a hm i q
    by_cases q2 : i - lb i < a + 1
    · rw [if_pos ⟨q2, q⟩, cnt_set_low mk a false (i - lb i) (by omega)]; omega
    · have z2 := cnt_set_off mk a hm (i - lb i) (by omega)
      rw [if_neg (fun h => q2 h.1)]; omega
  · rw [if_neg (fun h => q h.2), cnt_set_low mk a false _ (by omega), cnt_set_low mk a false _ (by omega)]; omega
theorem FT.ahead {n : Nat} {f : Nat → Int} {mk : Nat → Bool} (h : FT n f mk) (hn : n < 4611686018427387904) : ∀ (t i : Nat) (a : Int), i ≤ t → i < n → ahF f t i a = a + (cnt mk i : Int)
  | 0, i, a, h1, h2 => by obtain rfl : i = 0 := by omega
                          simp [ahF, cnt]
  | t + 1, i, a, h1, h2 => by
    rw [ahF]
    by_cases c : 0 < i
    · have hl := lb_pos (i := i) c (by omega)
      have hl2 := lb_le i
      rw [if_pos c, FT.ahead h hn t (i - lb i) _ (by omega) (by omega), h i c h2]
      omega
    · obtain rfl : i = 0 := by omega
      simp [cnt]
/-- The descent. -/
def fdF (n : Nat) (f : Nat → Int) : Nat → Nat → Int → Nat
  | 0, x, _ => x
  | k + 1, x, m => if x + 2 ^ k < n ∧ f (x + 2 ^ k) ≤ m then fdF n f k (x + 2 ^ k) (m - f (x + 2 ^ k)) else fdF n f k x m
theorem FT.find {n : Nat} {f : Nat → Int} {mk : Nat → Bool} (h : FT n f mk) (hn : n < 4611686018427387904) (M r : Nat) (hr : r < n) (h1 : cnt mk r ≤ M) (h2 : ∀ x, r < x → x < n → M < cnt mk x) : ∀ (k c : Nat), 2 ^ k * c ≤ r → r < 2 ^ k * c + 2 ^ k → fdF n f k (2 ^ k * c) ((M : Int) - (cnt mk (2 ^ k * c) : Int)) = r
  | 0, c, a1, a2 => by rw [fdF]; simp at a1 a2 ⊢; omega
  | k + 1, c, a1, a2 => by
    have e1 : 2 ^ (k + 1) * c = 2 ^ k * (2 * c) := by rw [Nat.pow_succ, Nat.mul_assoc]
    have e2 : 2 ^ k * (2 * c) + 2 ^ k = 2 ^ k * (2 * c + 1) := by rw [Nat.mul_succ]
    have e4 : 2 ^ (k + 1) = 2 ^ k + 2 ^ k := by rw [Nat.pow_succ]; omega
    rw [e1] at a1 a2 ⊢
    rw [e4] at a2
    rw [fdF]
    by_cases q : 2 ^ k * (2 * c) + 2 ^ k ≤ r
    · have ft := h (2 ^ k * (2 * c) + 2 ^ k) (by have := Nat.two_pow_pos k; omega) (by omega)
      have m1 := cnt_mono mk q
      rw [e2, lb_of k c (by omega), show 2 ^ k * (2 * c + 1) - 2 ^ k = 2 ^ k * (2 * c) by omega] at ft
      rw [e2] at q m1 ⊢
      rw [if_pos ⟨by omega, by rw [ft]; omega⟩]
      have := FT.find h hn M r hr h1 h2 k (2 * c + 1) q (by omega)
      rw [ft, show (M : Int) - (cnt mk (2 ^ k * (2 * c)) : Int) - ((cnt mk (2 ^ k * (2 * c + 1)) : Int) - (cnt mk (2 ^ k * (2 * c)) : Int)) = (M : Int) - (cnt mk (2 ^ k * (2 * c + 1)) : Int) by omega]
      exact this
    · have := FT.find h hn M r hr h1 h2 k (2 * c) a1 (by omega)
      rw [if_neg, this]
      rintro ⟨b1, b2⟩
      have ft := h (2 ^ k * (2 * c) + 2 ^ k) (by have := Nat.two_pow_pos k; omega) (by omega)
      have m1 := h2 (2 ^ k * (2 * c) + 2 ^ k) (by omega) b1
      rw [e2, lb_of k c (by omega), show 2 ^ k * (2 * c + 1) - 2 ^ k = 2 ^ k * (2 * c) by omega] at ft
      rw [e2] at m1 b2
      omega
end Go.Proofs.Ytahmeejcgddlhab
