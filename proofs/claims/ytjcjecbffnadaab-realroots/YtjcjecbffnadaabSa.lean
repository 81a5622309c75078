/-
  Roots, digit by digit: the numbers, and the document's rounding where something follows.
-/
import Derived.Test.YtjcjecbffnadaabTr
namespace Go.Proofs.Ytjcjecbffnadaab
open Go.RowKit
/-- A number's root, and what is left. -/
def Rt (A R S : Nat) : Prop := R * R + S = A ∧ S ≤ 2 * R
theorem rt_ex : ∀ A, ∃ R S, Rt A R S
  | 0 => ⟨0, 0, rfl, Nat.le_refl _⟩
  | A + 1 => by
    obtain ⟨R, S, h1, h2⟩ := rt_ex A
    by_cases c : S < 2 * R
    · exact ⟨R, S + 1, by omega, by omega⟩
    · refine ⟨R + 1, 0, ?_, by omega⟩
      have : (R + 1) * (R + 1) = R * R + 2 * R + 1 := by rw [Nat.succ_mul, Nat.mul_succ]; omega
      omega
theorem sq_lt {a b : Nat} (h : a * a < b * b) : a < b := by
  refine Classical.byContradiction fun c => ?_
  have := Nat.mul_le_mul (Nat.le_of_not_lt c) (Nat.le_of_not_lt c)
  omega
theorem rt_up {A R S : Nat} (h : Rt A R S) : A < (R + 1) * (R + 1) := by
  obtain ⟨h1, h2⟩ := h
  have : (R + 1) * (R + 1) = R * R + 2 * R + 1 := by rw [Nat.succ_mul, Nat.mul_succ]; omega
  omega
theorem rt_uni {A R S R' S' : Nat} (h : Rt A R S) (h' : Rt A R' S') : R = R' ∧ S = S' := by
  have u := rt_up h
  have u' := rt_up h'
  obtain ⟨h1, h2⟩ := h
  obtain ⟨h3, h4⟩ := h'
  have a1 : R < R' + 1 := sq_lt (by omega)
  have a2 : R' < R + 1 := sq_lt (by omega)
  have : R = R' := by omega
  subst this
  exact ⟨rfl, by omega⟩
/-- One digit more. -/
theorem rt_step {A R S d : Nat} (h : Rt A R S) (hd : d ≤ 3) : (4 * R + 1 ≤ 4 * S + d → Rt (4 * A + d) (2 * R + 1) (4 * S + d - (4 * R + 1))) ∧ (¬ 4 * R + 1 ≤ 4 * S + d → Rt (4 * A + d) (2 * R) (4 * S + d)) := by
  obtain ⟨h1, h2⟩ := h
  have e1 : (2 * R + 1) * (2 * R + 1) = 4 * (R * R) + 4 * R + 1 := by
    rw [Nat.succ_mul, Nat.mul_succ, Nat.mul_assoc, Nat.mul_left_comm R 2 R]; omega
  have e2 : (2 * R) * (2 * R) = 4 * (R * R) := by
    rw [Nat.mul_assoc, Nat.mul_left_comm R 2 R]; omega
  unfold Rt
  refine ⟨fun c => ⟨?_, by omega⟩, fun c => ⟨?_, by omega⟩⟩
  · rw [e1]; omega
  · rw [e2]; omega
theorem rt_lt {A R S B : Nat} (h : Rt A R S) (hA : A < B * B) : R < B := sq_lt (by have := h.1; omega)
theorem rt_ge {A R S B : Nat} (h : Rt A R S) (hA : B * B ≤ A) : B ≤ R := by
  have := sq_lt (Nat.lt_of_le_of_lt hA (rt_up h))
  omega
/-- A finer root. -/
theorem rt_fine {A T R S R' S' : Nat} (hT : 0 < T) (h : Rt A R S) (h' : Rt (A * (T * T)) R' S') : R' / T = R ∧ ((S' = 0 ∧ R' % T = 0) ↔ S = 0) := by
  have u := rt_up h
  have u' := rt_up h'
  obtain ⟨h1, h2⟩ := h
  obtain ⟨h3, h4⟩ := h'
  have m1 : (R * T) * (R * T) = R * R * (T * T) := by
    rw [Nat.mul_assoc, Nat.mul_left_comm T R T, Nat.mul_assoc]
  have m2 : ((R + 1) * T) * ((R + 1) * T) = (R + 1) * (R + 1) * (T * T) := by
    rw [Nat.mul_assoc, Nat.mul_left_comm T (R + 1) T, Nat.mul_assoc]
  have hTT : 0 < T * T := Nat.mul_pos hT hT
  have a1 : R * T < R' + 1 := by
    refine sq_lt (Nat.lt_of_le_of_lt ?_ u')
    rw [m1]
    exact Nat.mul_le_mul_right _ (by omega)
  have a2 : R' < (R + 1) * T := by
    refine sq_lt (Nat.lt_of_le_of_lt (show R' * R' ≤ A * (T * T) by omega) ?_)
    rw [m2]
    exact Nat.mul_lt_mul_of_pos_right u hTT
  have hq : R' / T = R := by
    have := Nat.div_lt_of_lt_mul (show R' < T * (R + 1) by rw [Nat.mul_comm]; exact a2)
    have := (Nat.le_div_iff_mul_le hT).2 (show R * T ≤ R' by omega)
    omega
  have hdm := Nat.div_add_mod R' T
  rw [hq, Nat.mul_comm] at hdm
  refine ⟨hq, fun ⟨z1, z2⟩ => ?_, fun z => ?_⟩
  · have e : R' = R * T := by omega
    rw [e, m1, z1, Nat.add_zero] at h3
    have := Nat.eq_of_mul_eq_mul_right hTT h3
    omega
  · have e : A = R * R := by omega
    rw [e, ← m1] at h3
    have hle : R * T ≤ R' := by omega
    have := Nat.mul_le_mul hle hle
    have hs : S' = 0 := by omega
    have h5 : R' * R' < (R * T + 1) * (R * T + 1) := by
      have : (R * T + 1) * (R * T + 1) = (R * T) * (R * T) + 2 * (R * T) + 1 := by rw [Nat.succ_mul, Nat.mul_succ]; omega
      omega
    have := sq_lt h5
    exact ⟨hs, by omega⟩
/-- The digits, the last one 1 if more would follow. -/
def stk (R S : Nat) : Nat := if S = 0 then R else R / 2 * 2 + 1
theorem sk_iff (n j : Nat) : (skN n (j + 1) = true) ↔ n % 2 ^ j ≠ 0 := by
  have e1 : skN n (j + 1) = (skN n j || hfN n j) := rfl
  rw [e1, ← lost n j, Bool.or_eq_true]; exact Or.comm
theorem root_up {A c R S R' S' : Nat} (h : Rt A R S) (h' : Rt (A * (2 ^ c * 2 ^ c)) R' S') : upV (hfN (stk R S) 2) (skN (stk R S) 2) (stk R S / 2 ^ 2) = upV (hfN R' (c + 2)) (decide ((0 : Int) < S') || skN R' (c + 2)) (R' / 2 ^ (c + 2)) := by
  obtain ⟨hq, hs⟩ := rt_fine (Nat.two_pow_pos c) h h'
  have q1 : R' / 2 ^ (c + 1) = R / 2 := by rw [Nat.pow_succ, ← Nat.div_div_eq_div_mul, hq]
  have q2 : R' / 2 ^ (c + 2) = R / 4 := by
    rw [show c + 2 = c + 1 + 1 from rfl, Nat.pow_succ, ← Nat.div_div_eq_div_mul, q1, Nat.div_div_eq_div_mul]
  have f1 : stk R S / 2 = R / 2 := by unfold stk; split <;> omega
  have f2 : stk R S / 2 ^ 2 = R / 4 := by rw [show (2 : Nat) ^ 2 = 2 * 2 from rfl, ← Nat.div_div_eq_div_mul, f1, Nat.div_div_eq_div_mul]
  have g1 : hfN (stk R S) 2 = hfN R' (c + 2) := by
    show (stk R S / 2 ^ 1 % 2 == 1) = (R' / 2 ^ (c + 1) % 2 == 1)
    rw [q1, Nat.pow_one, f1]
  have g2 : skN (stk R S) 2 = (decide ((0 : Int) < S') || skN R' (c + 2)) := by
    refine Bool.eq_iff_iff.2 ?_
    rw [Bool.or_eq_true, sk_iff (stk R S) 1, sk_iff R' (c + 1), low_split R' c, hq, Nat.pow_one, decide_eq_true_iff]
    have hp := Nat.two_pow_pos c
    have hst : stk R S % 2 ≠ 0 ↔ (R % 2 = 1 ∨ ¬ S = 0) := by unfold stk; split <;> omega
    rw [hst, ← hs]
    rcases two_cases (Nat.mod_lt R (by omega : 2 > 0)) with e | e <;> rw [e]
    · rw [Nat.zero_mul, Nat.zero_add]
      generalize R' % 2 ^ c = x
      omega
    · rw [Nat.one_mul]
      generalize R' % 2 ^ c = x
      omega
  rw [g1, g2, f2, q2]
theorem near_cut (n J : Nat) (e : Int) (h1 : 2 ^ (52 + J) ≤ n) (h2 : n < 2 ^ (53 + J)) (hn : n < 18446744073709551616) (hJ : 1 ≤ J) (he : -1074 ≤ e + J) : nearB 52 11 1023 n e = carV 52 11 1023 (upV (hfN n J) (skN n J) (n / 2 ^ J)) (e + J) := by
  have hp := Nat.two_pow_pos (52 + J)
  have hlen := len_at (n := 52 + J) h1 (by rw [show 52 + J + 1 = 53 + J by omega]; exact h2) hn
  have hq : n / 2 ^ J < 9007199254740992 := Nat.div_lt_of_lt_mul (by rw [Nat.mul_comm, show (9007199254740992 : Nat) = 2 ^ 53 from rfl, ← Nat.pow_add]; exact h2)
  have hq1 : 4503599627370496 ≤ n / 2 ^ J := (Nat.le_div_iff_mul_le (Nat.two_pow_pos _)).2 (by rw [show (4503599627370496 : Nat) = 2 ^ 52 from rfl, ← Nat.pow_add]; exact h1)
  have hu : upV (hfN n J) (skN n J) (n / 2 ^ J) ≤ n / 2 ^ J + 1 ∧ n / 2 ^ J ≤ upV (hfN n J) (skN n J) (n / 2 ^ J) := by unfold upV; split <;> omega
  refine near_is lay64 (by omega) hn (by rw [hlen]; omega) ?_ (by show _ ≤ 9007199254740992; omega) (fun h => ?_)
  · obtain ⟨m, rfl⟩ : ∃ m, J = m + 1 := ⟨J - 1, by omega⟩
    have e1 : (e + ((m + 1 : Nat) : Int) - e).toNat = m + 1 := by omega
    unfold inU
    rw [if_neg (by omega), e1, round_is]
    rfl
  · replace h : upV (hfN n J) (skN n J) (n / 2 ^ J) < 4503599627370496 := h
    omega
set_option maxHeartbeats 1000000 in
theorem rrounded_st (st ng : Bool) (n J : Nat) (e : Int) (w : World) (h1 : 2 ^ (52 + J) ≤ n) (h2 : n < 2 ^ (53 + J)) (hn : n < 18446744073709551616) (hJ : (J : Int) ≤ 20000) (he : -1074 ≤ e + J) (he1 : -10000 ≤ e) (he2 : e ≤ 10000) :
    Calls Try.prog 15 #[.bool ng, .int .u64 (n : Int), .int .i64 e, .bool st, siz 52 11 1023] w fun r w' => r = .returned (.int .u64 (((if ng = true then 9223372036854775808 else 0) + carV 52 11 1023 (upV (hfN n J) (st || skN n J) (n / 2 ^ J)) (e + J) : Nat) : Int)) ∧ Below w.heap.size w w' := by
  have L := lay64
  have e1 := u64_pow 52 (by omega)
  have e2 := u64_pow (52 + 1) (by omega)
  have hq : n / 2 ^ J < 2 ^ (52 + 1) := Nat.div_lt_of_lt_mul (by rw [Nat.mul_comm, ← Nat.pow_add]; exact h2)
  have hq1 : 2 ^ 52 ≤ n / 2 ^ J := (Nat.le_div_iff_mul_le (Nat.two_pow_pos _)).2 (by rw [← Nat.pow_add]; exact h1)
  refine rG ng st n e (by omega) (by omega) (by omega) (by omega) w fun a w1 B1 r1 ha => ?_
  refine rF ng w.heap.size _ _ _ (by omega) (by omega) (by omega) (by omega) e1 e2 (by omega) (by omega) a w1 r1 n J e st hn he1 he2 hJ (fun j hj => .inl ?_) ⟨hq, by omega⟩ (fun a w2 B2 r2 ha => ?_) ha
  · refine (Nat.le_div_iff_mul_le (Nat.two_pow_pos _)).2 ?_
    rw [← Nat.pow_add]
    exact Nat.le_trans (Nat.pow_le_pow_right (by omega) (by omega)) h1
  refine rE ng w.heap.size _ _ _ (by omega) (by omega) (by omega) (by omega) e1 e2 (by omega) (by omega) a w2 r2 (n / 2 ^ J) 0 (e + J) _ _ (by omega) (by omega) (by omega) (by omega) (fun i hi => by omega) ⟨by rw [Nat.pow_zero, Nat.mul_one]; omega, .inr (.inl (by rw [Nat.pow_zero, Nat.mul_one]; exact hq1))⟩ (fun a ha => ?_) ha
  rw [Nat.pow_zero, Nat.mul_one, show e + (J : Int) - ((0 : Nat) : Int) = e + J by omega] at ha
  exact rD_any L ng w.heap.size a w w2 (B1.trans (B2.mono B1.size)) r2 (e + J) (by omega) (by omega) _ _ _ hq (by omega) ha
end Go.Proofs.Ytjcjecbffnadaab
