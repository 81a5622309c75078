/-
  Sets of bytes as predicates, and the four words of 64 bits that say them: what the bitwise operations on words do to the predicates. No condition but that a word fits 64 bits.
-/
import Derived.WalkKit
import Derived.WalkSmall
import Derived.Laws.BitsAllLaws
import Derived.Test.YtoliiccmfmgmlaaDoorHas
namespace Go.Proofs.YtoliiccmfmgmlaaDoor
/-- The words of both; of the one and not of the other; of either. -/
def andS (A B : Nat → Int) : Nat → Int := fun i => bits BinOp.and IntKind.u64 (A i) (B i)
def minusS (A B : Nat → Int) : Nat → Int := fun i => bits BinOp.andNot IntKind.u64 (A i) (B i)
def orS (A B : Nat → Int) : Nat → Int := fun i => bits BinOp.or IntKind.u64 (A i) (B i)
/-- The number whose bits below n are those of p from 64 i on. -/
def wordN (p : Nat → Bool) (i : Nat) : Nat → Nat
  | 0 => 0
  | n + 1 => wordN p i n ||| (if p (64 * i + n) then 2 ^ n else 0)
theorem testBit_wordN (p : Nat → Bool) (i n j : Nat) : (wordN p i n).testBit j = (decide (j < n) && p (64 * i + j)) := by
  induction n with
  | zero => simp [wordN]
  | succ n ih =>
    unfold wordN
    rw [Nat.testBit_or, ih]
    have h0 : (if p (64 * i + n) = true then 2 ^ n else 0 : Nat).testBit j = (p (64 * i + n) && decide (n = j)) := by
      cases hp : p (64 * i + n)
      · simp
      · rw [if_pos rfl, Nat.testBit_two_pow]; simp
    rw [h0]
    by_cases e : n = j
    · subst e
      simp
    · have h1 : (j < n + 1) = (j < n) := by apply propext; omega
      simp [h1, e]
def wn (p : Nat → Bool) (i : Nat) : Nat := wordN p i 64
/-- The words of the set p. -/
def wd (p : Nat → Bool) (i : Nat) : Int := (wn p i : Int)
theorem wn_bit (p : Nat → Bool) (i j : Nat) : (wn p i).testBit j = (decide (j < 64) && p (64 * i + j)) := testBit_wordN p i 64 j
theorem wn_lt (p : Nat → Bool) (i : Nat) : wn p i < 18446744073709551616 := by
  have h : wn p i < 2 ^ 64 := Nat.lt_pow_two_of_testBit _ fun j hj => by rw [wn_bit]; simp; omega
  exact h
theorem wn_eq {p : Nat → Bool} {i x : Nat} (hx : x < 18446744073709551616) (h : ∀ j, j < 64 → x.testBit j = p (64 * i + j)) : x = wn p i := by
  apply Nat.eq_of_testBit_eq
  intro j
  rw [wn_bit]
  by_cases hj : j < 64
  · simp [h j hj, hj]
  · have : x.testBit j = false := Nat.testBit_lt_two_pow (Nat.lt_of_lt_of_le hx (Nat.pow_le_pow_right (n := 2) (i := 64) (j := j) (by omega) (by omega)))
    simp [this, hj]
theorem wn_congr {p q : Nat → Bool} {i : Nat} (h : ∀ j, j < 64 → p (64 * i + j) = q (64 * i + j)) : wn p i = wn q i :=
  wn_eq (wn_lt p i) fun j hj => by rw [wn_bit]; simp [hj, h j hj]
theorem wd_congr {p q : Nat → Bool} (h : ∀ j, j < 256 → p j = q j) (i : Nat) (hi : i < 4) : wd p i = wd q i :=
  congrArg Int.ofNat (wn_congr fun j hj => h _ (by omega))
theorem or_wd (p q : Nat → Bool) (i : Nat) : orS (wd p) (wd q) i = wd (fun j => p j || q j) i := by
  unfold orS wd
  rw [u64_or_nat _ _ (wn_lt p i) (wn_lt q i)]
  congr 1
  refine wn_eq (Nat.or_lt_two_pow (n := 64) (wn_lt p i) (wn_lt q i)) fun j hj => ?_
  rw [Nat.testBit_or, wn_bit, wn_bit]; simp [hj]
theorem and_wd (p q : Nat → Bool) (i : Nat) : andS (wd p) (wd q) i = wd (fun j => p j && q j) i := by
  unfold andS wd
  rw [u64_and_nat _ _ (wn_lt p i) (wn_lt q i)]
  congr 1
  refine wn_eq (Nat.and_lt_two_pow (n := 64) _ (wn_lt q i)) fun j hj => ?_
  rw [Nat.testBit_and, wn_bit, wn_bit]; simp [hj]
theorem minus_wd (p q : Nat → Bool) (i : Nat) : minusS (wd p) (wd q) i = wd (fun j => p j && !q j) i := by
  unfold minusS wd
  rw [u64_andNot_nat _ _ (wn_lt p i) (wn_lt q i)]
  congr 1
  have hc : ∀ j, (18446744073709551615 - wn q i).testBit j = (decide (j < 64) && !(wn q i).testBit j) := by
    intro j
    have := Nat.testBit_two_pow_sub_succ (n := 64) (wn_lt q i) j
    rw [← this]
    congr 1
    have := wn_lt q i
    omega
  refine wn_eq (Nat.and_lt_two_pow (n := 64) _ (by have := wn_lt q i; omega)) fun j hj => ?_
  rw [Nat.testBit_and, hc, wn_bit, wn_bit]; simp [hj]
/-- One byte more. -/
theorem or_bit (p : Nat → Bool) (b : Nat) (i : Nat) (hi : b / 64 = i) : bits BinOp.or IntKind.u64 (wd p i) ((2 ^ (b % 64) : Nat) : Int) = wd (fun j => p j || j == b) i := by
  unfold wd
  have hlt : 2 ^ (b % 64) < 18446744073709551616 := Nat.pow_lt_pow_right (a := 2) (m := b % 64) (n := 64) (by omega) (by omega)
  rw [u64_or_nat _ _ (wn_lt p i) hlt]
  congr 1
  refine wn_eq (Nat.or_lt_two_pow (n := 64) (wn_lt p i) hlt) fun j hj => ?_
  rw [Nat.testBit_or, wn_bit, Nat.testBit_two_pow]
  have e : decide (b % 64 = j) = (64 * i + j == b) := by
    rw [Bool.eq_iff_iff]; simp; omega
  simp [hj, e]
theorem or_bit_other (p : Nat → Bool) (b : Nat) (i : Nat) (hi : ¬ b / 64 = i) : wd (fun j => p j || j == b) i = wd p i := by
  refine congrArg Int.ofNat (wn_congr fun j hj => ?_)
  have : (64 * i + j == b) = false := beq_eq_false_iff_ne.2 (by omega)
  simp [this]
theorem has_wd (p : Nat → Bool) (b : Nat) : hasB (wd p) b = p b := by
  unfold hasB wd
  have h1 : ((wn p (b / 64) : Nat) : Int) / 2 ^ (b % 64) = ((wn p (b / 64) / 2 ^ (b % 64) : Nat) : Int) := by simp
  have hl := wn_lt p (b / 64)
  have hl2 : wn p (b / 64) / 2 ^ (b % 64) < 18446744073709551616 := Nat.lt_of_le_of_lt (Nat.div_le_self _ _) hl
  have h5 := u64_and_nat _ 1 hl2 (by omega)
  rw [Nat.and_one_is_mod, Int.natCast_one] at h5
  rw [h1, h5]
  have h2 := wn_bit p (b / 64) (b % 64)
  rw [Nat.testBit_eq_decide_div_mod_eq] at h2
  have h3 : 64 * (b / 64) + b % 64 = b := by omega
  rw [h3] at h2
  have h4 : decide (b % 64 < 64) = true := by simp; omega
  rw [h4, Bool.true_and] at h2
  rw [← h2]
  rw [Bool.eq_iff_iff]
  simp
  omega
/-- Each word fits 64 bits. -/
def Words (X : Nat → Int) : Prop := ∀ i, 0 ≤ X i ∧ X i ≤ 18446744073709551615
/-- Every four words are those of their set. -/
theorem wd_of {X : Nat → Int} (hX : Words X) (i : Nat) : X i = wd (hasB X) i := by
  obtain ⟨h0, h1⟩ := hX i
  obtain ⟨x, hx⟩ := Int.eq_ofNat_of_zero_le h0
  unfold wd
  rw [hx]
  congr 1
  have hl : x < 18446744073709551616 := by omega
  refine wn_eq hl fun j hj => ?_
  unfold hasB
  have e1 : (64 * i + j) / 64 = i := by omega
  have e2 : (64 * i + j) % 64 = j := by omega
  rw [e1, e2, hx]
  have h3 : ((x : Nat) : Int) / 2 ^ j = ((x / 2 ^ j : Nat) : Int) := by simp
  have hl2 : x / 2 ^ j < 18446744073709551616 := Nat.lt_of_le_of_lt (Nat.div_le_self _ _) hl
  have h5 := u64_and_nat _ 1 hl2 (by omega)
  rw [Nat.and_one_is_mod, Int.natCast_one] at h5
  rw [h3, h5, Nat.testBit_eq_decide_div_mod_eq]
  rw [Bool.eq_iff_iff]
  simp
  omega
end Go.Proofs.YtoliiccmfmgmlaaDoor
