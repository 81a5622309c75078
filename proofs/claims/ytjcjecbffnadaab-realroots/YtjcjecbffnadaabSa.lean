/-
  Roots, digit by digit: the numbers, and the document's rounding where something follows.
-/
import Derived.Test.YtjcjecbffnadaabPw
import Derived.Deep.LoopGhost
import Derived.Test.YtjcjecbffnadaabRa1
import Derived.Laws.Bits128
namespace Go.Proofs.Ytjcjecbffnadaab
open Go.RowKit
/-- A number's root, and what is left. -/
def Rt (A R S : Nat) : Prop := R * R + S = A ∧ S ≤ 2 * R
theorem rt_ex : ∀ A, ∃ R S, Rt A R S
  | 0 => ⟨0, 0, rfl, Nat.le_refl _⟩
  | A + 1 => by
    obtain ⟨R, S, h1, h2⟩ := rt_ex A
    by_cases c : S < 2 * R
    · exact ⟨R, S + 1, by omega, by omega⟩
    · refine ⟨R + 1, 0, ?_, by omega⟩
      have : (R + 1) * (R + 1) = R * R + 2 * R + 1 := by rw [Nat.succ_mul, Nat.mul_succ]; omega
      omega
theorem sq_lt {a b : Nat} (h : a * a < b * b) : a < b := by
  refine Classical.byContradiction fun c => ?_
  have := Nat.mul_le_mul (Nat.le_of_not_lt c) (Nat.le_of_not_lt c)
  omega
theorem rt_up {A R S : Nat} (h : Rt A R S) : A < (R + 1) * (R + 1) := by
  obtain ⟨h1, h2⟩ := h
  have : (R + 1) * (R + 1) = R * R + 2 * R + 1 := by rw [Nat.succ_mul, Nat.mul_succ]; omega
  omega
theorem rt_uni {A R S R' S' : Nat} (h : Rt A R S) (h' : Rt A R' S') : R = R' ∧ S = S' := by
  have u := rt_up h
  have u' := rt_up h'
  obtain ⟨h1, h2⟩ := h
  obtain ⟨h3, h4⟩ := h'
  have a1 : R < R' + 1 := sq_lt (by omega)
  have a2 : R' < R + 1 := sq_lt (by omega)
  have : R = R' := by omega
  subst this
  exact ⟨rfl, by omega⟩
/-- One digit more. -/
theorem rt_step {A R S d : Nat} (h : Rt A R S) (hd : d ≤ 3) : (4 * R + 1 ≤ 4 * S + d → Rt (4 * A + d) (2 * R + 1) (4 * S + d - (4 * R + 1))) ∧ (¬ 4 * R + 1 ≤ 4 * S + d → Rt (4 * A + d) (2 * R) (4 * S + d)) := by
  obtain ⟨h1, h2⟩ := h
  have e1 : (2 * R + 1) * (2 * R + 1) = 4 * (R * R) + 4 * R + 1 := by
    rw [Nat.succ_mul, Nat.mul_succ, Nat.mul_assoc, Nat.mul_left_comm R 2 R]; omega
  have e2 : (2 * R) * (2 * R) = 4 * (R * R) := by
    rw [Nat.mul_assoc, Nat.mul_left_comm R 2 R]; omega
  unfold Rt
  refine ⟨fun c => ⟨?_, by omega⟩, fun c => ⟨?_, by omega⟩⟩
  · rw [e1]; omega
  · rw [e2]; omega
theorem rt_lt {A R S B : Nat} (h : Rt A R S) (hA : A < B * B) : R < B := sq_lt (by have := h.1; omega)
theorem rt_ge {A R S B : Nat} (h : Rt A R S) (hA : B * B ≤ A) : B ≤ R := by
  have := sq_lt (Nat.lt_of_le_of_lt hA (rt_up h))
  omega
/-- A finer root. -/
theorem rt_fine {A T R S R' S' : Nat} (hT : 0 < T) (h : Rt A R S) (h' : Rt (A * (T * T)) R' S') : R' / T = R ∧ ((S' = 0 ∧ R' % T = 0) ↔ S = 0) := by
  have u := rt_up h
  have u' := rt_up h'
  obtain ⟨h1, h2⟩ := h
  obtain ⟨h3, h4⟩ := h'
  have m1 : (R * T) * (R * T) = R * R * (T * T) := by
    rw [Nat.mul_assoc, Nat.mul_left_comm T R T, Nat.mul_assoc]
  have m2 : ((R + 1) * T) * ((R + 1) * T) = (R + 1) * (R + 1) * (T * T) := by
    rw [Nat.mul_assoc, Nat.mul_left_comm T (R + 1) T, Nat.mul_assoc]
  have hTT : 0 < T * T := Nat.mul_pos hT hT
  have a1 : R * T < R' + 1 := by
    refine sq_lt (Nat.lt_of_le_of_lt ?_ u')
    rw [m1]
    exact Nat.mul_le_mul_right _ (by omega)
  have a2 : R' < (R + 1) * T := by
    refine sq_lt (Nat.lt_of_le_of_lt (show R' * R' ≤ A * (T * T) by omega) ?_)
    rw [m2]
    exact Nat.mul_lt_mul_of_pos_right u hTT
  have hq : R' / T = R := by
    have := Nat.div_lt_of_lt_mul (show R' < T * (R + 1) by rw [Nat.mul_comm]; exact a2)
    have := (Nat.le_div_iff_mul_le hT).2 (show R * T ≤ R' by omega)
    omega
  have hdm := Nat.div_add_mod R' T
  rw [hq, Nat.mul_comm] at hdm
  refine ⟨hq, fun ⟨z1, z2⟩ => ?_, fun z => ?_⟩
  · have e : R' = R * T := by omega
    rw [e, m1, z1, Nat.add_zero] at h3
    have := Nat.eq_of_mul_eq_mul_right hTT h3
    omega
  · have e : A = R * R := by omega
    rw [e, ← m1] at h3
    have hle : R * T ≤ R' := by omega
    have := Nat.mul_le_mul hle hle
    have hs : S' = 0 := by omega
    have h5 : R' * R' < (R * T + 1) * (R * T + 1) := by
      have : (R * T + 1) * (R * T + 1) = (R * T) * (R * T) + 2 * (R * T) + 1 := by rw [Nat.succ_mul, Nat.mul_succ]; omega
      omega
    have := sq_lt h5
    exact ⟨hs, by omega⟩
/-- The digits, the last one 1 if more would follow. -/
def stk (R S : Nat) : Nat := if S = 0 then R else R / 2 * 2 + 1
theorem sk_iff (n j : Nat) : (skN n (j + 1) = true) ↔ n % 2 ^ j ≠ 0 := by
  have e1 : skN n (j + 1) = (skN n j || hfN n j) := rfl
  rw [e1, ← lost n j, Bool.or_eq_true]; exact Or.comm
theorem root_up {A c R S R' S' : Nat} (h : Rt A R S) (h' : Rt (A * (2 ^ c * 2 ^ c)) R' S') : upV (hfN (stk R S) 2) (skN (stk R S) 2) (stk R S / 2 ^ 2) = upV (hfN R' (c + 2)) (decide ((0 : Int) < S') || skN R' (c + 2)) (R' / 2 ^ (c + 2)) := by
  obtain ⟨hq, hs⟩ := rt_fine (Nat.two_pow_pos c) h h'
  have q1 : R' / 2 ^ (c + 1) = R / 2 := by rw [Nat.pow_succ, ← Nat.div_div_eq_div_mul, hq]
  have q2 : R' / 2 ^ (c + 2) = R / 4 := by
    rw [show c + 2 = c + 1 + 1 from rfl, Nat.pow_succ, ← Nat.div_div_eq_div_mul, q1, Nat.div_div_eq_div_mul]
  have f1 : stk R S / 2 = R / 2 := by unfold stk; split <;> omega
  have f2 : stk R S / 2 ^ 2 = R / 4 := by rw [show (2 : Nat) ^ 2 = 2 * 2 from rfl, ← Nat.div_div_eq_div_mul, f1, Nat.div_div_eq_div_mul]
  have g1 : hfN (stk R S) 2 = hfN R' (c + 2) := by
    show (stk R S / 2 ^ 1 % 2 == 1) = (R' / 2 ^ (c + 1) % 2 == 1)
    rw [q1, Nat.pow_one, f1]
  have g2 : skN (stk R S) 2 = (decide ((0 : Int) < S') || skN R' (c + 2)) := by
    refine Bool.eq_iff_iff.2 ?_
    rw [Bool.or_eq_true, sk_iff (stk R S) 1, sk_iff R' (c + 1), low_split R' c, hq, Nat.pow_one, decide_eq_true_iff]
    have hp := Nat.two_pow_pos c
    have hst : stk R S % 2 ≠ 0 ↔ (R % 2 = 1 ∨ ¬ S = 0) := by unfold stk; split <;> omega
    rw [hst, ← hs]
    rcases two_cases (Nat.mod_lt R (by omega : 2 > 0)) with e | e <;> rw [e]
    · rw [Nat.zero_mul, Nat.zero_add]
      generalize R' % 2 ^ c = x
      omega
    · rw [Nat.one_mul]
      generalize R' % 2 ^ c = x
      omega
  rw [g1, g2, f2, q2]
theorem near_cut (n J : Nat) (e : Int) (h1 : 2 ^ (52 + J) ≤ n) (h2 : n < 2 ^ (53 + J)) (hn : n < 18446744073709551616) (hJ : 1 ≤ J) (he : -1074 ≤ e + J) : nearB 52 11 1023 n e = carV 52 11 1023 (upV (hfN n J) (skN n J) (n / 2 ^ J)) (e + J) := by
  have hp := Nat.two_pow_pos (52 + J)
  have hlen := len_at (n := 52 + J) h1 (by rw [show 52 + J + 1 = 53 + J by omega]; exact h2) hn
  have hq : n / 2 ^ J < 9007199254740992 := Nat.div_lt_of_lt_mul (by rw [Nat.mul_comm, show (9007199254740992 : Nat) = 2 ^ 53 from rfl, ← Nat.pow_add]; exact h2)
  have hq1 : 4503599627370496 ≤ n / 2 ^ J := (Nat.le_div_iff_mul_le (Nat.two_pow_pos _)).2 (by rw [show (4503599627370496 : Nat) = 2 ^ 52 from rfl, ← Nat.pow_add]; exact h1)
  have hu : upV (hfN n J) (skN n J) (n / 2 ^ J) ≤ n / 2 ^ J + 1 ∧ n / 2 ^ J ≤ upV (hfN n J) (skN n J) (n / 2 ^ J) := by unfold upV; split <;> omega
  refine near_is lay64 (by omega) hn (by rw [hlen]; omega) ?_ (by show _ ≤ 9007199254740992; omega) (fun h => ?_)
  · obtain ⟨m, rfl⟩ : ∃ m, J = m + 1 := ⟨J - 1, by omega⟩
    have e1 : (e + ((m + 1 : Nat) : Int) - e).toNat = m + 1 := by omega
    unfold inU
    rw [if_neg (by omega), e1, round_is]
    rfl
  · replace h : upV (hfN n J) (skN n J) (n / 2 ^ J) < 4503599627370496 := h
    omega
set_option maxHeartbeats 1000000 in
theorem rrounded_st (st ng : Bool) (n J : Nat) (e : Int) (w : World) (h1 : 2 ^ (52 + J) ≤ n) (h2 : n < 2 ^ (53 + J)) (hn : n < 18446744073709551616) (hJ : (J : Int) ≤ 20000) (he : -1074 ≤ e + J) (he1 : -10000 ≤ e) (he2 : e ≤ 10000) :
    Calls Try.prog 15 #[.bool ng, .int .u64 (n : Int), .int .i64 e, .bool st, siz 52 11 1023] w fun r w' => r = .returned (.int .u64 (((if ng = true then 9223372036854775808 else 0) + carV 52 11 1023 (upV (hfN n J) (st || skN n J) (n / 2 ^ J)) (e + J) : Nat) : Int)) ∧ Below w.heap.size w w' := by
  have L := lay64
  have e1 := u64_pow 52 (by omega)
  have e2 := u64_pow (52 + 1) (by omega)
  have hq : n / 2 ^ J < 2 ^ (52 + 1) := Nat.div_lt_of_lt_mul (by rw [Nat.mul_comm, ← Nat.pow_add]; exact h2)
  have hq1 : 2 ^ 52 ≤ n / 2 ^ J := (Nat.le_div_iff_mul_le (Nat.two_pow_pos _)).2 (by rw [← Nat.pow_add]; exact h1)
  refine rG ng st n e (by omega) (by omega) (by omega) (by omega) w fun a w1 B1 r1 ha => ?_
  refine rF ng w.heap.size _ _ _ (by omega) (by omega) (by omega) (by omega) e1 e2 (by omega) (by omega) a w1 r1 n J e st hn he1 he2 hJ (fun j hj => .inl ?_) ⟨hq, by omega⟩ (fun a w2 B2 r2 ha => ?_) ha
  · refine (Nat.le_div_iff_mul_le (Nat.two_pow_pos _)).2 ?_
    rw [← Nat.pow_add]
    exact Nat.le_trans (Nat.pow_le_pow_right (by omega) (by omega)) h1
  refine rE ng w.heap.size _ _ _ (by omega) (by omega) (by omega) (by omega) e1 e2 (by omega) (by omega) a w2 r2 (n / 2 ^ J) 0 (e + J) _ _ (by omega) (by omega) (by omega) (by omega) (fun i hi => by omega) ⟨by rw [Nat.pow_zero, Nat.mul_one]; omega, .inr (.inl (by rw [Nat.pow_zero, Nat.mul_one]; exact hq1))⟩ (fun a ha => ?_) ha
  rw [Nat.pow_zero, Nat.mul_one, show e + (J : Int) - ((0 : Nat) : Int) = e + J by omega] at ha
  exact rD_any L ng w.heap.size a w w2 (B1.trans (B2.mono B1.size)) r2 (e + J) (by omega) (by omega) _ _ _ hq (by omega) ha
noncomputable def body61 : Code := Try.f61.body.getD .skip
set_option maxRecDepth 100000 in
set_option maxHeartbeats 2000000 in
theorem rz_a {Q : Ending → World → Prop} (n : Nat) (w : World) (hK : Hid (∀ a, At 34 [(0, .int .u64 (n : Int)), (3, .int .u64 ((0 : Nat) : Int)), (4, .int .u64 ((0 : Nat) : Int))] a → Code.wp Try.prog (sq 2 body61) (bodyPost Try.prog Try.f61 Q) a w)) : Calls Try.prog 61 #[.int .u64 (n : Int)] w Q := by
  go_enter Try.func61, Try.ntmps61
  change Code.wp _ (Code.seq (hd (sq 0 body61)) (Code.seq (hd (sq 1 body61)) (sq 2 body61))) _ _ _
  generalize sq 2 body61 = REST at hK ⊢
  conv => arg 2; arg 1; whnf
  conv => arg 2; arg 2; arg 1; whnf
  go_wp2
  exact hK.out _ ⟨rfl, rfl, rfl, rfl, rfl, trivial⟩
theorem or_low (p a b : Nat) (ha : a % 2 ^ p = 0) (hb : b < 2 ^ p) (h1 : a < 18446744073709551616) (h2 : b < 18446744073709551616) : bits .or .u64 (a : Int) (b : Int) = ((a + b : Nat) : Int) := by
  rw [u64_or_nat _ _ h1 h2, nat_join p _ _ ha hb]
theorem or_one (a : Nat) (h1 : a < 18446744073709551616) : bits .or .u64 (a : Int) 1 = ((a / 2 * 2 + 1 : Nat) : Int) := by
  have := u64_or_nat a 1 h1 (by omega)
  refine this.trans ?_
  congr 1
  rcases two_cases (Nat.mod_lt a (by omega : 2 > 0)) with e | e
  · rw [nat_join 1 a 1 (by rw [Nat.pow_one]; exact e) (by decide)]; omega
  · have h3 : a = (a - 1) ||| 1 := by rw [nat_join 1 (a - 1) 1 (by rw [Nat.pow_one]; omega) (by decide)]; omega
    rw [h3, Nat.or_assoc, Nat.or_self, nat_join 1 (a - 1) 1 (by rw [Nat.pow_one]; omega) (by decide)]; omega
set_option maxRecDepth 100000 in
set_option maxHeartbeats 2000000 in
theorem rz_l {Q : Exit → Act → World → Prop} (n : Nat) (a : Act) (w : World) (hn : n < 18446744073709551616) (hK : Hid (∀ a R S, Rt (n * 70368744177664) R S → At 34 [(3, .int .u64 (R : Int)), (4, .int .u64 (S : Int))] a → Code.wp Try.prog (sq 3 body61) Q a w)) (ha : At 34 [(0, .int .u64 (n : Int)), (3, .int .u64 ((0 : Nat) : Int)), (4, .int .u64 ((0 : Nat) : Int))] a) : Code.wp Try.prog (sq 2 body61) Q a w := by
  obtain ⟨f, rfl, h0, h3, h4, -⟩ := ha.lit
  change Code.wp _ _ _ ⟨#[f 0, f 1, f 2, f 3, f 4, f 5, f 6, f 7, f 8, f 9, f 10, f 11, f 12, f 13, f 14, f 15, f 16, f 17, f 18, f 19, f 20, f 21, f 22, f 23, f 24, f 25, f 26, f 27, f 28, f 29, f 30, f 31, f 32, f 33], []⟩ _
  simp only at h0 h3 h4
  simp only [h0, h3, h4]
  clear h0 h3 h4
  change Code.wp _ (Code.seq (hd (sq 2 body61)) (sq 3 body61)) _ _ _
  generalize sq 3 body61 = REST at hK ⊢
  conv => arg 2; arg 1; whnf
  replace hn := show Hid _ from hn
  go_wp2
  refine wp_loop_ghost_k (fun m a w' => ∃ i R S : Nat, i ≤ 55 ∧ m = 55 - i ∧ Rt (n * 4 ^ i / 18446744073709551616) R S ∧ At 34 [(0, .int .u64 ((n * 4 ^ i % 18446744073709551616 : Nat) : Int)), (3, .int .u64 (R : Int)), (4, .int .u64 (S : Int)), (6, .int .i64 (i : Int))] a ∧ w' = w) 55 ⟨0, 0, 0, Nat.zero_le _, rfl, by rw [Nat.pow_zero, Nat.mul_one, Nat.div_eq_of_lt hn.out]; exact ⟨rfl, Nat.le_refl _⟩, by rw [Nat.pow_zero, Nat.mul_one, Nat.mod_eq_of_lt hn.out]; exact ⟨rfl, rfl, rfl, rfl, rfl, rfl, trivial⟩, rfl⟩ ?_
  rintro m a w' ⟨i, R, S, hi, rfl, hR, ha, rfl⟩ J0 K1 hJ hK1
  by_cases c : i < 55
  · have hb : R < 18014398509481984 := rt_lt hR (Nat.div_lt_of_lt_mul (by
      have h1 : n * 4 ^ i ≤ n * 4 ^ 54 := Nat.mul_le_mul_left _ (Nat.pow_le_pow_right (by omega) (by omega))
      have := hn.out
      omega))
    have hS : S ≤ 2 * R := hR.2
    have hA : n * 4 ^ (i + 1) / 18446744073709551616 = 4 * (n * 4 ^ i / 18446744073709551616) + n * 4 ^ i % 18446744073709551616 / 4611686018427387904 := by
      rw [Nat.pow_succ, ← Nat.mul_assoc]; omega
    have hx : n * 4 ^ (i + 1) % 18446744073709551616 = n * 4 ^ i % 18446744073709551616 * 4 % 18446744073709551616 := by
      rw [Nat.pow_succ, ← Nat.mul_assoc]; omega
    have hxl : n * 4 ^ i % 18446744073709551616 < 18446744073709551616 := Nat.mod_lt _ (by omega)
    generalize n * 4 ^ i % 18446744073709551616 = x at *
    generalize n * 4 ^ i / 18446744073709551616 = A at *
    have hd : x / 4611686018427387904 ≤ 3 := by omega
    obtain ⟨s1, s2⟩ := rt_step hR hd
    have f1 : IntKind.u64.wrap ((S : Int) * 4) = ((4 * S : Nat) : Int) := by rw [u64_wrap]; omega
    have f2 : (x : Int) / 4611686018427387904 = ((x / 4611686018427387904 : Nat) : Int) := by omega
    have f3 := or_low 2 (4 * S) (x / 4611686018427387904) (by omega) (by omega) (by omega) (by omega)
    have f4 : IntKind.u64.wrap ((x : Int) * 4) = ((x * 4 % 18446744073709551616 : Nat) : Int) := by rw [u64_wrap]; omega
    have f5 : IntKind.u64.wrap ((R : Int) * 2) = ((2 * R : Nat) : Int) := by rw [u64_wrap]; omega
    have f6 : IntKind.u64.wrap (((2 * R : Nat) : Int) * 2) = ((4 * R : Nat) : Int) := by rw [u64_wrap]; omega
    have f7 : bits .or .u64 ((4 * R : Nat) : Int) 1 = ((4 * R + 1 : Nat) : Int) := by rw [or_one _ (by omega)]; congr 1; omega
    have f9 : bits .or .u64 ((2 * R : Nat) : Int) 1 = ((2 * R + 1 : Nat) : Int) := by rw [or_one _ (by omega)]; congr 1; omega
    have hi2 : (i : Int) < 55 := by omega
    have hc := show Hid _ from c
    replace hJ := show Hid _ from hJ
    replace hx := show Hid _ from hx
    replace hA := show Hid _ from hA
    by_cases o : 4 * R + 1 ≤ 4 * S + x / 4611686018427387904
    · have hR := show Hid _ from s1 o
      have f8 : IntKind.u64.wrap (((4 * S + x / 4611686018427387904 : Nat) : Int) - ((4 * R + 1 : Nat) : Int)) = ((4 * S + x / 4611686018427387904 - (4 * R + 1) : Nat) : Int) := by rw [u64_wrap]; omega
      have o1 : ((4 * R + 1 : Nat) : Int) ≤ ((4 * S + x / 4611686018427387904 : Nat) : Int) := by omega
      clear s1 s2 o hd hxl hS hb hi c
      generalize x * 4 % 18446744073709551616 = x' at *
      generalize 4 * S + x / 4611686018427387904 - (4 * R + 1) = S6 at *
      generalize 4 * S + x / 4611686018427387904 = S5 at *
      generalize x / 4611686018427387904 = D at *
      generalize 2 * R + 1 = R21 at *
      generalize 4 * R + 1 = R41 at *
      generalize 4 * R = R4 at *
      generalize 2 * R = R2 at *
      generalize 4 * S = S4 at *
      obtain ⟨f, rfl, h0, h3, h4, h6, -⟩ := ha.lit
      change Code.wp _ _ _ ⟨#[f 0, f 1, f 2, f 3, f 4, f 5, f 6, f 7, f 8, f 9, f 10, f 11, f 12, f 13, f 14, f 15, f 16, f 17, f 18, f 19, f 20, f 21, f 22, f 23, f 24, f 25, f 26, f 27, f 28, f 29, f 30, f 31, f 32, f 33], []⟩ _
      simp only at h0 h3 h4 h6
      simp only [h0, h3, h4, h6]
      clear h0 h3 h4 h6
      go_wp2
      exact Handed.intro (55 - (i + 1)) (by have := hc.out; omega) (hJ.out _ _ _ ⟨i + 1, R21, S6, by have := hc.out; omega, rfl, by rw [hA.out]; exact hR.out, by rw [hx.out]; exact ⟨rfl, rfl, rfl, rfl, rfl, rfl, trivial⟩, rfl⟩)
    · have hR := show Hid _ from s2 o
      have o1 : ¬ ((4 * R + 1 : Nat) : Int) ≤ ((4 * S + x / 4611686018427387904 : Nat) : Int) := by omega
      clear s1 s2 o hd hxl hS hb hi c f9
      generalize x * 4 % 18446744073709551616 = x' at *
      generalize 4 * S + x / 4611686018427387904 = S5 at *
      generalize x / 4611686018427387904 = D at *
      generalize 4 * R + 1 = R41 at *
      generalize 4 * R = R4 at *
      generalize 2 * R = R2 at *
      generalize 4 * S = S4 at *
      obtain ⟨f, rfl, h0, h3, h4, h6, -⟩ := ha.lit
      change Code.wp _ _ _ ⟨#[f 0, f 1, f 2, f 3, f 4, f 5, f 6, f 7, f 8, f 9, f 10, f 11, f 12, f 13, f 14, f 15, f 16, f 17, f 18, f 19, f 20, f 21, f 22, f 23, f 24, f 25, f 26, f 27, f 28, f 29, f 30, f 31, f 32, f 33], []⟩ _
      simp only at h0 h3 h4 h6
      simp only [h0, h3, h4, h6]
      clear h0 h3 h4 h6
      go_wp2
      exact Handed.intro (55 - (i + 1)) (by have := hc.out; omega) (hJ.out _ _ _ ⟨i + 1, R2, S5, by have := hc.out; omega, rfl, by rw [hA.out]; exact hR.out, by rw [hx.out]; exact ⟨rfl, rfl, rfl, rfl, rfl, rfl, trivial⟩, rfl⟩)
  · have hil : i = 55 := by omega
    subst hil
    have hR : Hid _ := show Rt (n * 70368744177664) R S by
      rw [show n * 70368744177664 = n * 4 ^ 55 / 18446744073709551616 by omega]; exact hR
    clear c hi hJ hK1 hn
    generalize n * 4 ^ 55 % 18446744073709551616 = x at *
    obtain ⟨f, rfl, h0, h3, h4, h6, -⟩ := ha.lit
    change Code.wp _ _ _ ⟨#[f 0, f 1, f 2, f 3, f 4, f 5, f 6, f 7, f 8, f 9, f 10, f 11, f 12, f 13, f 14, f 15, f 16, f 17, f 18, f 19, f 20, f 21, f 22, f 23, f 24, f 25, f 26, f 27, f 28, f 29, f 30, f 31, f 32, f 33], []⟩ _
    simp only at h0 h3 h4 h6
    simp only [h0, h3, h4, h6]
    clear h0 h3 h4 h6
    go_wp2
    exact hK.out _ R S hR.out ⟨rfl, rfl, rfl, rfl, trivial⟩
set_option maxRecDepth 100000 in
set_option maxHeartbeats 2000000 in
theorem rz_e0 (R S : Nat) (a : Act) (w : World) (h : S = 0) (ha : At 34 [(3, .int .u64 (R : Int)), (4, .int .u64 (S : Int))] a) : Code.wp Try.prog (sq 3 body61) (bodyPost Try.prog Try.f61 fun e w' => e = .returned (.int .u64 (R : Int)) ∧ w' = w) a w := by
  subst h
  obtain ⟨f, rfl, h3, h4, -⟩ := ha.lit
  change Code.wp _ _ _ ⟨#[f 0, f 1, f 2, f 3, f 4, f 5, f 6, f 7, f 8, f 9, f 10, f 11, f 12, f 13, f 14, f 15, f 16, f 17, f 18, f 19, f 20, f 21, f 22, f 23, f 24, f 25, f 26, f 27, f 28, f 29, f 30, f 31, f 32, f 33], []⟩ _
  simp only at h3 h4
  simp only [h3, h4]
  clear h3 h4
  conv => arg 2; whnf
  go_wp2
  go_ret
  exact ⟨rfl, rfl⟩
set_option maxRecDepth 100000 in
set_option maxHeartbeats 2000000 in
theorem rz_e1 (R S V : Nat) (a : Act) (w : World) (h : ((S : Int) == 0) = false) (hV : bits .or .u64 (R : Int) 1 = (V : Int)) (ha : At 34 [(3, .int .u64 (R : Int)), (4, .int .u64 (S : Int))] a) : Code.wp Try.prog (sq 3 body61) (bodyPost Try.prog Try.f61 fun e w' => e = .returned (.int .u64 (V : Int)) ∧ w' = w) a w := by
  obtain ⟨f, rfl, h3, h4, -⟩ := ha.lit
  change Code.wp _ _ _ ⟨#[f 0, f 1, f 2, f 3, f 4, f 5, f 6, f 7, f 8, f 9, f 10, f 11, f 12, f 13, f 14, f 15, f 16, f 17, f 18, f 19, f 20, f 21, f 22, f 23, f 24, f 25, f 26, f 27, f 28, f 29, f 30, f 31, f 32, f 33], []⟩ _
  simp only at h3 h4
  simp only [h3, h4]
  clear h3 h4
  conv => arg 2; whnf
  go_wp2
  go_ret
  exact ⟨rfl, rfl⟩
theorem rootOf_any (n R S : Nat) (w : World) (hn : n < 18446744073709551616) (h : Rt (n * 70368744177664) R S) : Calls Try.prog 61 #[.int .u64 (n : Int)] w fun e w' => e = .returned (.int .u64 (stk R S : Nat)) ∧ w' = w := by
  refine rz_a n w fun a ha => rz_l n a w hn (fun a R' S' h' ha => ?_) ha
  obtain ⟨rfl, rfl⟩ := rt_uni h h'
  have hb : R < 36028797018963968 := rt_lt h (by omega)
  unfold stk
  by_cases c : S = 0
  · rw [if_pos c]; exact rz_e0 R S a w c ha
  · rw [if_neg c]; exact rz_e1 R S _ a w (beq_eq_false_iff_ne.2 (by omega)) (or_one R (by omega)) ha
noncomputable def body31 : Code := Try.f31.body.getD .skip
theorem i64_and1 (n : Int) : bits .and .i64 n 1 = n % 2 := by
  have h1 : (BitVec.ofInt 64 1).toNat = 2 ^ 1 - 1 := by decide
  have key : (BitVec.ofInt 64 n &&& BitVec.ofInt 64 1).toNat = (n % ((2 ^ 64 : Nat) : Int)).toNat % 2 ^ 1 := by
    rw [BitVec.toNat_and, BitVec.toNat_ofInt, h1, Nat.and_two_pow_sub_one_eq_mod]
  show IntKind.i64.wrap ((BitVec.ofInt 64 n &&& BitVec.ofInt 64 1).toNat : Nat) = n % 2
  rw [key, IntKind.wrap_i64]
  omega
set_option maxRecDepth 100000 in
set_option maxHeartbeats 2000000 in
theorem lz_by (M LN : Nat) (z : Int) (w : World) (hz : IntKind.i64.wrap (64 - (LN : Int)) = z) (k58 : ∀ w, Calls Try.prog 58 #[.int .u64 (M : Int)] w fun e w' => e = .returned (.int .i64 (LN : Nat)) ∧ Below w.heap.size w w') : Calls Try.prog 60 #[.int .u64 (M : Int)] w fun e w' => e = .returned (.int .i64 z) ∧ Below w.heap.size w w' := by
  go_enter Try.func60, Try.ntmps60
  go_wp2_with (go_at_call 58; refine (k58 _).mono ?_)
  intro e1 w1 hq
  first | (obtain ⟨rfl, b1⟩ : _ ∧ _ := hq) | (subst hq; intro b1)
  have B1 := show Hid _ from b1
  clear b1
  go_wp2
  go_ret
  exact ⟨rfl, B1.out⟩
set_option maxRecDepth 100000 in
set_option maxHeartbeats 2000000 in
theorem sq_a {Q : Ending → World → Prop} (b : Nat) (kd X : Int) (ng qu : Bool) (M LD : Nat) (w : World) (k46 : ∀ w, Calls Try.prog 46 #[.float .f64 b] w fun e w' => e = .returned (.agg #[.int .i64 kd, .bool ng, .int .u64 (M : Int), .int .i64 X, .bool qu, .int .u64 (LD : Int)]) ∧ Below w.heap.size w w')
    (hK : Hid (∀ a w' g, Below w.heap.size w w' → w'.heap[g]? = some (.cells #[.int .i64 kd, .bool ng, .int .u64 (M : Int), .int .i64 X, .bool qu, .int .u64 (LD : Int)] 66 (0, 0)) → At 52 [(0, .float .f64 b), (3, .pointer (some ⟨g, 0, none⟩))] a → Code.wp Try.prog (sq 2 body31) (bodyPost Try.prog Try.f31 Q) a w')) : Calls Try.prog 31 #[.float .f64 b] w Q := by
  go_enter Try.func31, Try.ntmps31
  change Code.wp _ (Code.seq (hd (sq 0 body31)) (Code.seq (hd (sq 1 body31)) (sq 2 body31))) _ _ _
  generalize sq 2 body31 = REST at hK ⊢
  conv => arg 2; arg 1; whnf
  conv => arg 2; arg 2; arg 1; whnf
  go_wp2_with (go_at_call 46; refine (k46 _).mono ?_)
  intro e1 w1 hq
  first | (obtain ⟨rfl, b1⟩ : _ ∧ _ := hq) | (subst hq; intro b1)
  have B1 : Hid (Below w.heap.size w (w1.alloc (.cells #[.int .i64 kd, .bool ng, .int .u64 (M : Int), .int .i64 X, .bool qu, .int .u64 (LD : Int)] 66))) := b1.alloc b1.size _
  have r1 : Hid ((w1.alloc (.cells #[.int .i64 kd, .bool ng, .int .u64 (M : Int), .int .i64 X, .bool qu, .int .u64 (LD : Int)] 66)).heap[w1.heap.size]? = some (.cells #[.int .i64 kd, .bool ng, .int .u64 (M : Int), .int .i64 X, .bool qu, .int .u64 (LD : Int)] 66 (0, 0))) := heap_alloc_last _ _
  clear b1
  go_wp2
  exact hK.out _ _ _ B1.out r1.out ⟨rfl, rfl, rfl, rfl, trivial⟩
set_option maxRecDepth 100000 in
set_option maxHeartbeats 2000000 in
theorem sq_0 (b : Nat) (kd X : Int) (ng qu : Bool) (M LD : Nat) (g : Nat) (a : Act) (w0 w : World) (B : Hid (Below w0.heap.size w0 w)) (r : Hid (w.heap[g]? = some (.cells #[.int .i64 kd, .bool ng, .int .u64 (M : Int), .int .i64 X, .bool qu, .int .u64 (LD : Int)] 66 (0, 0)))) (h : kd = 0) (ha : At 52 [(0, .float .f64 b), (3, .pointer (some ⟨g, 0, none⟩))] a) : Code.wp Try.prog (sq 2 body31) (bodyPost Try.prog Try.f31 fun e w' => e = .returned (.float .f64 b) ∧ Below w0.heap.size w0 w') a w := by
  subst h
  obtain ⟨m0, m1, m2, m3, m4, m5⟩ := cells6 r.out
  obtain ⟨f, rfl, h0, h3, -⟩ := ha.lit
  change Code.wp _ _ _ ⟨#[f 0, f 1, f 2, f 3, f 4, f 5, f 6, f 7, f 8, f 9, f 10, f 11, f 12, f 13, f 14, f 15, f 16, f 17, f 18, f 19, f 20, f 21, f 22, f 23, f 24, f 25, f 26, f 27, f 28, f 29, f 30, f 31, f 32, f 33, f 34, f 35, f 36, f 37, f 38, f 39, f 40, f 41, f 42, f 43, f 44, f 45, f 46, f 47, f 48, f 49, f 50, f 51], []⟩ _
  simp only at h0 h3
  simp only [h0, h3]
  clear h0 h3
  conv => arg 2; whnf
  go_wp2
  go_ret
  exact ⟨rfl, B.out⟩
set_option maxRecDepth 100000 in
set_option maxHeartbeats 2000000 in
theorem sq_i (b : Nat) (kd X : Int) (ng qu : Bool) (M LD : Nat) (g : Nat) (a : Act) (w0 w : World) (B : Hid (Below w0.heap.size w0 w)) (r : Hid (w.heap[g]? = some (.cells #[.int .i64 kd, .bool ng, .int .u64 (M : Int), .int .i64 X, .bool qu, .int .u64 (LD : Int)] 66 (0, 0)))) (h : kd = 3) (hg : ng = false) (ha : At 52 [(0, .float .f64 b), (3, .pointer (some ⟨g, 0, none⟩))] a) : Code.wp Try.prog (sq 2 body31) (bodyPost Try.prog Try.f31 fun e w' => e = .returned (.float .f64 b) ∧ Below w0.heap.size w0 w') a w := by
  subst h hg
  obtain ⟨m0, m1, m2, m3, m4, m5⟩ := cells6 r.out
  obtain ⟨f, rfl, h0, h3, -⟩ := ha.lit
  change Code.wp _ _ _ ⟨#[f 0, f 1, f 2, f 3, f 4, f 5, f 6, f 7, f 8, f 9, f 10, f 11, f 12, f 13, f 14, f 15, f 16, f 17, f 18, f 19, f 20, f 21, f 22, f 23, f 24, f 25, f 26, f 27, f 28, f 29, f 30, f 31, f 32, f 33, f 34, f 35, f 36, f 37, f 38, f 39, f 40, f 41, f 42, f 43, f 44, f 45, f 46, f 47, f 48, f 49, f 50, f 51], []⟩ _
  simp only at h0 h3
  simp only [h0, h3]
  clear h0 h3
  conv => arg 2; whnf
  go_wp2
  go_ret
  exact ⟨rfl, B.out⟩
set_option maxRecDepth 100000 in
set_option maxHeartbeats 2000000 in
theorem sq_4 (b : Nat) (kd X : Int) (ng qu : Bool) (M LD : Nat) (g : Nat) (a : Act) (w0 w : World) (B : Hid (Below w0.heap.size w0 w)) (r : Hid (w.heap[g]? = some (.cells #[.int .i64 kd, .bool ng, .int .u64 (M : Int), .int .i64 X, .bool qu, .int .u64 (LD : Int)] 66 (0, 0)))) (h : kd = 4) (ha : At 52 [(0, .float .f64 b), (3, .pointer (some ⟨g, 0, none⟩))] a) : Code.wp Try.prog (sq 2 body31) (bodyPost Try.prog Try.f31 fun e w' => e = .returned (.float .f64 9221120237041090560) ∧ Below w0.heap.size w0 w') a w := by
  have k59 := cnone_any
  subst h
  obtain ⟨m0, m1, m2, m3, m4, m5⟩ := cells6 r.out
  obtain ⟨f, rfl, h0, h3, -⟩ := ha.lit
  change Code.wp _ _ _ ⟨#[f 0, f 1, f 2, f 3, f 4, f 5, f 6, f 7, f 8, f 9, f 10, f 11, f 12, f 13, f 14, f 15, f 16, f 17, f 18, f 19, f 20, f 21, f 22, f 23, f 24, f 25, f 26, f 27, f 28, f 29, f 30, f 31, f 32, f 33, f 34, f 35, f 36, f 37, f 38, f 39, f 40, f 41, f 42, f 43, f 44, f 45, f 46, f 47, f 48, f 49, f 50, f 51], []⟩ _
  simp only at h0 h3
  simp only [h0, h3]
  clear h0 h3
  conv => arg 2; whnf
  go_wp2_with (go_at_call 59; refine (k59 _).mono ?_)
  intro e1 w1 hq
  first | (obtain ⟨rfl, b1⟩ : _ ∧ _ := hq) | (subst hq; intro b1)
  clear m0 m1 m2 m3 m4 m5
  have B1 : Hid (Below w0.heap.size w0 w1) := B.out.trans (b1.mono B.out.size)
  clear b1
  go_wp2
  go_ret
  exact ⟨rfl, B1.out⟩
set_option maxRecDepth 100000 in
set_option maxHeartbeats 2000000 in
theorem sq_g (b : Nat) (kd X : Int) (ng qu : Bool) (M LD : Nat) (g : Nat) (a : Act) (w0 w : World) (B : Hid (Below w0.heap.size w0 w)) (r : Hid (w.heap[g]? = some (.cells #[.int .i64 kd, .bool ng, .int .u64 (M : Int), .int .i64 X, .bool qu, .int .u64 (LD : Int)] 66 (0, 0)))) (h0 : (kd == 0) = false) (h : (kd == 4) = false) (hg : ng = true) (ha : At 52 [(0, .float .f64 b), (3, .pointer (some ⟨g, 0, none⟩))] a) : Code.wp Try.prog (sq 2 body31) (bodyPost Try.prog Try.f31 fun e w' => e = .returned (.float .f64 9221120237041090560) ∧ Below w0.heap.size w0 w') a w := by
  have k59 := cnone_any
  subst hg
  obtain ⟨m0, m1, m2, m3, m4, m5⟩ := cells6 r.out
  obtain ⟨f, rfl, h0, h3, -⟩ := ha.lit
  change Code.wp _ _ _ ⟨#[f 0, f 1, f 2, f 3, f 4, f 5, f 6, f 7, f 8, f 9, f 10, f 11, f 12, f 13, f 14, f 15, f 16, f 17, f 18, f 19, f 20, f 21, f 22, f 23, f 24, f 25, f 26, f 27, f 28, f 29, f 30, f 31, f 32, f 33, f 34, f 35, f 36, f 37, f 38, f 39, f 40, f 41, f 42, f 43, f 44, f 45, f 46, f 47, f 48, f 49, f 50, f 51], []⟩ _
  simp only at h0 h3
  simp only [h0, h3]
  clear h0 h3
  conv => arg 2; whnf
  go_wp2_with (go_at_call 59; refine (k59 _).mono ?_)
  intro e1 w1 hq
  first | (obtain ⟨rfl, b1⟩ : _ ∧ _ := hq) | (subst hq; intro b1)
  clear m0 m1 m2 m3 m4 m5
  have B1 : Hid (Below w0.heap.size w0 w1) := B.out.trans (b1.mono B.out.size)
  clear b1
  go_wp2
  go_ret
  exact ⟨rfl, B1.out⟩
set_option maxRecDepth 100000 in
set_option maxHeartbeats 2000000 in
theorem sq_b {Q : Exit → Act → World → Prop} (b : Nat) (kd X : Int) (ng qu : Bool) (M LD : Nat) (g : Nat) (a : Act) (w : World) (r : Hid (w.heap[g]? = some (.cells #[.int .i64 kd, .bool ng, .int .u64 (M : Int), .int .i64 X, .bool qu, .int .u64 (LD : Int)] 66 (0, 0)))) (h0 : (kd == 0) = false) (h4 : (kd == 4) = false) (h3 : (kd == 3) = false) (hg : ng = false) (hK : Hid (∀ a, At 52 [(3, .pointer (some ⟨g, 0, none⟩))] a → Code.wp Try.prog (sq 3 body31) Q a w)) (ha : At 52 [(0, .float .f64 b), (3, .pointer (some ⟨g, 0, none⟩))] a) : Code.wp Try.prog (sq 2 body31) Q a w := by
  subst hg
  obtain ⟨m0, m1, m2, m3, m4, m5⟩ := cells6 r.out
  obtain ⟨f, rfl, h0, h3, -⟩ := ha.lit
  change Code.wp _ _ _ ⟨#[f 0, f 1, f 2, f 3, f 4, f 5, f 6, f 7, f 8, f 9, f 10, f 11, f 12, f 13, f 14, f 15, f 16, f 17, f 18, f 19, f 20, f 21, f 22, f 23, f 24, f 25, f 26, f 27, f 28, f 29, f 30, f 31, f 32, f 33, f 34, f 35, f 36, f 37, f 38, f 39, f 40, f 41, f 42, f 43, f 44, f 45, f 46, f 47, f 48, f 49, f 50, f 51], []⟩ _
  simp only at h0 h3
  simp only [h0, h3]
  clear h0 h3
  change Code.wp _ (Code.seq (hd (sq 2 body31)) (sq 3 body31)) _ _ _
  generalize sq 3 body31 = REST at hK ⊢
  conv => arg 2; arg 1; whnf
  go_wp2
  exact hK.out _ ⟨rfl, rfl, rfl, trivial⟩
set_option maxRecDepth 100000 in
set_option maxHeartbeats 2000000 in
theorem sq_c {Q : Exit → Act → World → Prop} (kd X : Int) (ng qu : Bool) (M LD : Nat) (g sh : Nat) (z y pa : Int) (a : Act) (w : World) (r : Hid (w.heap[g]? = some (.cells #[.int .i64 kd, .bool ng, .int .u64 (M : Int), .int .i64 X, .bool qu, .int .u64 (LD : Int)] 66 (0, 0)))) (k60 : ∀ w, Calls Try.prog 60 #[.int .u64 (M : Int)] w fun e w' => e = .returned (.int .i64 z) ∧ Below w.heap.size w w') (h1 : (IntKind.i64.wrap (X - z) = y)) (h2 : bits .and .i64 y 1 = pa) (h3 : (IntKind.i64.wrap (z - pa) = (sh : Int))) (hK : Hid (∀ a w', Below w.heap.size w w' → At 52 [(3, .pointer (some ⟨g, 0, none⟩)), (4, .int .i64 (sh : Int))] a → Code.wp Try.prog (sq 5 body31) Q a w')) (ha : At 52 [(3, .pointer (some ⟨g, 0, none⟩))] a) : Code.wp Try.prog (sq 3 body31) Q a w := by
  obtain ⟨m0, m1, m2, m3, m4, m5⟩ := cells6 r.out
  obtain ⟨f, rfl, h3, -⟩ := ha.lit
  change Code.wp _ _ _ ⟨#[f 0, f 1, f 2, f 3, f 4, f 5, f 6, f 7, f 8, f 9, f 10, f 11, f 12, f 13, f 14, f 15, f 16, f 17, f 18, f 19, f 20, f 21, f 22, f 23, f 24, f 25, f 26, f 27, f 28, f 29, f 30, f 31, f 32, f 33, f 34, f 35, f 36, f 37, f 38, f 39, f 40, f 41, f 42, f 43, f 44, f 45, f 46, f 47, f 48, f 49, f 50, f 51], []⟩ _
  simp only at h3
  simp only [h3]
  clear h3
  change Code.wp _ (Code.seq (hd (sq 3 body31)) (Code.seq (hd (sq 4 body31)) (sq 5 body31))) _ _ _
  generalize sq 5 body31 = REST at hK ⊢
  conv => arg 2; arg 1; whnf
  conv => arg 2; arg 2; arg 1; whnf
  go_wp2_with (go_at_call 60; refine (k60 _).mono ?_)
  intro e1 w1 hq
  first | (obtain ⟨rfl, b1⟩ : _ ∧ _ := hq) | (subst hq; intro b1)
  have r1 := below_at r.out b1
  have B1 := show Hid _ from b1
  clear m0 m1 m2 m3 m4 m5 b1
  obtain ⟨m0, m1, m2, m3, m4, m5⟩ := cells6 r1
  clear r1
  go_wp2
  exact hK.out _ _ B1.out ⟨rfl, rfl, rfl, rfl, trivial⟩
set_option maxRecDepth 100000 in
set_option maxHeartbeats 2000000 in
theorem sq_d (kd X : Int) (ng qu : Bool) (M LD : Nat) (g sh n rc V : Nat) (y1 y2 y3 y4 : Int) (a : Act) (w0 w : World) (B : Hid (Below w0.heap.size w0 w)) (r : Hid (w.heap[g]? = some (.cells #[.int .i64 kd, .bool ng, .int .u64 (M : Int), .int .i64 X, .bool qu, .int .u64 (LD : Int)] 66 (0, 0)))) (hs : (sh : Int) ≤ 64) (hn : IntKind.u64.wrap ((M : Int) * 2 ^ sh) = (n : Int)) (k61 : ∀ w, Calls Try.prog 61 #[.int .u64 (n : Int)] w fun e w' => e = .returned (.int .u64 (rc : Int)) ∧ Below w.heap.size w w') (h1 : (IntKind.i64.wrap (X - sh) = y1)) (h2 : y1.tdiv 2 = y2) (h2w : (IntKind.i64.wrap (y2) = y2)) (h3 : (IntKind.i64.wrap (y2 + 32) = y3)) (h4 : (IntKind.i64.wrap (y3 - 55) = y4)) (k50 : ∀ w, Calls Try.prog 50 #[.agg #[.int .i64 0, .bool false, .int .u64 (rc : Int), .int .i64 y4, .bool false, .int .u64 0]] w fun e w' => e = .returned (.float .f64 V) ∧ Below w.heap.size w w') (ha : At 52 [(3, .pointer (some ⟨g, 0, none⟩)), (4, .int .i64 (sh : Int))] a) : Code.wp Try.prog (sq 5 body31) (bodyPost Try.prog Try.f31 fun e w' => e = .returned (.float .f64 V) ∧ Below w0.heap.size w0 w') a w := by
  obtain ⟨m0, m1, m2, m3, m4, m5⟩ := cells6 r.out
  obtain ⟨f, rfl, h3, h4, -⟩ := ha.lit
  change Code.wp _ _ _ ⟨#[f 0, f 1, f 2, f 3, f 4, f 5, f 6, f 7, f 8, f 9, f 10, f 11, f 12, f 13, f 14, f 15, f 16, f 17, f 18, f 19, f 20, f 21, f 22, f 23, f 24, f 25, f 26, f 27, f 28, f 29, f 30, f 31, f 32, f 33, f 34, f 35, f 36, f 37, f 38, f 39, f 40, f 41, f 42, f 43, f 44, f 45, f 46, f 47, f 48, f 49, f 50, f 51], []⟩ _
  simp only at h3 h4
  simp only [h3, h4]
  clear h3 h4
  conv => arg 2; whnf
  go_wp2_with (go_at_call 61; refine (k61 _).mono ?_)
  intro e1 w1 hq
  first | (obtain ⟨rfl, b1⟩ : _ ∧ _ := hq) | (subst hq; intro b1)
  have r1 := below_at r.out b1
  clear m0 m1 m2 m3 m4 m5
  have B1 : Hid (Below w0.heap.size w0 w1) := B.out.trans (b1.mono B.out.size)
  clear b1
  obtain ⟨m0, m1, m2, m3, m4, m5⟩ := cells6 r1
  clear r1
  go_wp2_with (go_at_call 50; refine (k50 _).mono ?_)
  intro e2 w2 hq
  first | (obtain ⟨rfl, b2⟩ : _ ∧ _ := hq) | (subst hq; intro b2)
  have B2 : Hid (Below w0.heap.size w0 w2) := B1.out.trans (b2.mono B1.out.size)
  clear b2
  go_wp2
  go_ret
  exact ⟨rfl, B2.out⟩
set_option maxHeartbeats 1000000 in
/-- A positive number's root. -/
theorem csqrt_num (b : Nat) (kd X : Int) (qu : Bool) (M LD : Nat) (w : World) (l pa sh R S : Nat) (H : Int) (k46 : ∀ w, Calls Try.prog 46 #[.float .f64 b] w fun e w' => e = .returned (.agg #[.int .i64 kd, .bool false, .int .u64 (M : Int), .int .i64 X, .bool qu, .int .u64 (LD : Int)]) ∧ Below w.heap.size w w')
    (hk : kd = 1 ∨ kd = 2) (hM0 : ¬ M = 0) (hM : M < 9007199254740992) (hX1 : -1074 ≤ X) (hX2 : X ≤ 971) (hl : l = Lib.bitLen M) (hl2 : l ≤ 53) (hpa : (X - (64 - (l : Int))) % 2 = pa) (hsh : (64 - (l : Int)) - pa = sh) (hH : X - sh = 2 * H) (hn : M * 2 ^ sh < 18446744073709551616) (hR : Rt (M * 2 ^ sh * 70368744177664) R S) (hst : stk R S < 18446744073709551616) :
    Calls Try.prog 31 #[.float .f64 b] w fun e w' => e = .returned (.float .f64 (nearB 52 11 1023 (stk R S) (H - 23))) ∧ Below w.heap.size w w' := by
  refine sq_a b kd X false qu M LD w k46 fun a w1 g B1 r1 ha => ?_
  have n0 : (kd == 0) = false := beq_eq_false_iff_ne.2 (by omega)
  have n3 : (kd == 3) = false := beq_eq_false_iff_ne.2 (by omega)
  have n4 : (kd == 4) = false := beq_eq_false_iff_ne.2 (by omega)
  refine sq_b b kd X false qu M LD g a w1 r1 n0 n4 n3 rfl (fun a ha => ?_) ha
  have k58 := fun w => (len_any M w (by omega)).mono fun e w' h => (show e = _ ∧ Below w.heap.size w w' from ⟨h.1, by rw [h.2]; exact Below.refl _ _⟩)
  rw [← hl] at k58
  have k60 := fun w => lz_by M l (64 - (l : Int)) w (i64_in _ (by omega) (by omega)) k58
  refine sq_c kd X false qu M LD g sh (64 - (l : Int)) (X - (64 - (l : Int))) pa a w1 r1 k60 (i64_in _ (by omega) (by omega)) (by rw [i64_and1]; exact hpa) (by rw [i64_in _ (by omega) (by omega)]; exact hsh) (fun a w2 B2 ha => ?_) ha
  have k61 := fun w => (rootOf_any (M * 2 ^ sh) R S w hn hR).mono fun e w' h => (show e = _ ∧ Below w.heap.size w w' from ⟨h.1, by rw [h.2]; exact Below.refl _ _⟩)
  have k50 := fun w => number_any ⟨0, false, stk R S, H - 23, false, 0⟩ w hst (by show _ ≤ H - 23; omega) (by show H - 23 ≤ _; omega)
  unfold rndB Pt.val at k50
  dsimp only at k50
  rw [if_neg (show ¬ (0 : Int) = 4 by decide), if_neg (show ¬ (0 : Int) = 3 by decide), if_neg (by decide), Nat.zero_add] at k50
  exact sq_d kd X false qu M LD g sh (M * 2 ^ sh) (stk R S) _ (2 * H) H (H + 32) (H - 23) a w w2 (B1.trans (B2.mono B1.size)) (below_at r1 B2) (by omega) (by rw [← u64_small (M * 2 ^ sh) (by omega), Int.natCast_mul, Int.natCast_pow]; rfl) k61 (by rw [i64_in _ (by omega) (by omega)]; exact hH) (by rw [Int.mul_comm]; exact Int.mul_tdiv_cancel _ (by decide)) (i64_in _ (by omega) (by omega)) (i64_in _ (by omega) (by omega)) (by rw [i64_in _ (by omega) (by omega)]; omega) k50 ha
noncomputable def body32 : Code := Try.f32.body.getD .skip
set_option maxRecDepth 100000 in
set_option maxHeartbeats 2000000 in
theorem ds_a {Q : Ending → World → Prop} (b : Nat) (kd X : Int) (ng qu : Bool) (M LD : Nat) (w : World) (k11 : ∀ w, Calls Try.prog 11 #[.int .u64 (b : Int), .agg #[.int .i64 52, .int .i64 2047, .int .i64 1023]] w fun e w' => e = .returned (.agg #[.int .i64 kd, .bool ng, .int .u64 (M : Int), .int .i64 X, .bool qu, .int .u64 (LD : Int)]) ∧ Below w.heap.size w w')
    (hK : Hid (∀ a w' g, Below w.heap.size w w' → w'.heap[g]? = some (.cells #[.int .i64 kd, .bool ng, .int .u64 (M : Int), .int .i64 X, .bool qu, .int .u64 (LD : Int)] 27 (0, 0)) → At 89 [(0, .int .u64 (b : Int)), (3, .pointer (some ⟨g, 0, none⟩))] a → Code.wp Try.prog (sq 2 body32) (bodyPost Try.prog Try.f32 Q) a w')) : Calls Try.prog 32 #[.int .u64 (b : Int)] w Q := by
  have k12 := k16l
  unfold k16L at k12
  go_enter Try.func32, Try.ntmps32
  change Code.wp _ (Code.seq (hd (sq 0 body32)) (Code.seq (hd (sq 1 body32)) (sq 2 body32))) _ _ _
  generalize sq 2 body32 = REST at hK ⊢
  conv => arg 2; arg 1; whnf
  conv => arg 2; arg 2; arg 1; whnf
  go_wp2_with (go_at_call 12; refine (k12 _).mono ?_)
  intro e1 w1 hq
  first | (obtain ⟨rfl, b1⟩ : _ ∧ _ := hq) | (subst hq; intro b1)
  go_wp2_with (go_at_call 11; refine (k11 _).mono ?_)
  intro e2 w2 hq
  first | (obtain ⟨rfl, b2⟩ : _ ∧ _ := hq) | (subst hq; intro b2)
  have B0 : Below w.heap.size w w2 := b1.trans (b2.mono b1.size)
  have B1 : Hid (Below w.heap.size w (w2.alloc (.cells #[.int .i64 kd, .bool ng, .int .u64 (M : Int), .int .i64 X, .bool qu, .int .u64 (LD : Int)] 27))) := B0.alloc B0.size _
  have r1 : Hid ((w2.alloc (.cells #[.int .i64 kd, .bool ng, .int .u64 (M : Int), .int .i64 X, .bool qu, .int .u64 (LD : Int)] 27)).heap[w2.heap.size]? = some (.cells #[.int .i64 kd, .bool ng, .int .u64 (M : Int), .int .i64 X, .bool qu, .int .u64 (LD : Int)] 27 (0, 0))) := heap_alloc_last _ _
  clear b1 b2 B0
  go_wp2
  exact hK.out _ _ _ B1.out r1.out ⟨rfl, rfl, rfl, rfl, trivial⟩
set_option maxRecDepth 100000 in
set_option maxHeartbeats 2000000 in
theorem ds_0 (b : Nat) (kd X : Int) (ng qu : Bool) (M LD : Nat) (g : Nat) (a : Act) (w0 w : World) (B : Hid (Below w0.heap.size w0 w)) (r : Hid (w.heap[g]? = some (.cells #[.int .i64 kd, .bool ng, .int .u64 (M : Int), .int .i64 X, .bool qu, .int .u64 (LD : Int)] 27 (0, 0)))) (h : kd = 0) (ha : At 89 [(0, .int .u64 (b : Int)), (3, .pointer (some ⟨g, 0, none⟩))] a) : Code.wp Try.prog (sq 2 body32) (bodyPost Try.prog Try.f32 fun e w' => e = .returned (.int .u64 ((b : Int))) ∧ Below w0.heap.size w0 w') a w := by
  subst h
  obtain ⟨m0, m1, m2, m3, m4, m5⟩ := cells6 r.out
  obtain ⟨f, rfl, h0, h3, -⟩ := ha.lit
  change Code.wp _ _ _ ⟨#[f 0, f 1, f 2, f 3, f 4, f 5, f 6, f 7, f 8, f 9, f 10, f 11, f 12, f 13, f 14, f 15, f 16, f 17, f 18, f 19, f 20, f 21, f 22, f 23, f 24, f 25, f 26, f 27, f 28, f 29, f 30, f 31, f 32, f 33, f 34, f 35, f 36, f 37, f 38, f 39, f 40, f 41, f 42, f 43, f 44, f 45, f 46, f 47, f 48, f 49, f 50, f 51, f 52, f 53, f 54, f 55, f 56, f 57, f 58, f 59, f 60, f 61, f 62, f 63, f 64, f 65, f 66, f 67, f 68, f 69, f 70, f 71, f 72, f 73, f 74, f 75, f 76, f 77, f 78, f 79, f 80, f 81, f 82, f 83, f 84, f 85, f 86, f 87, f 88], []⟩ _
  simp only at h0 h3
  simp only [h0, h3]
  clear h0 h3
  conv => arg 2; whnf
  go_wp2
  go_ret
  exact ⟨rfl, B.out⟩
set_option maxRecDepth 100000 in
set_option maxHeartbeats 2000000 in
theorem ds_i (b : Nat) (kd X : Int) (ng qu : Bool) (M LD : Nat) (g : Nat) (a : Act) (w0 w : World) (B : Hid (Below w0.heap.size w0 w)) (r : Hid (w.heap[g]? = some (.cells #[.int .i64 kd, .bool ng, .int .u64 (M : Int), .int .i64 X, .bool qu, .int .u64 (LD : Int)] 27 (0, 0)))) (h : kd = 3) (hg : ng = false) (ha : At 89 [(0, .int .u64 (b : Int)), (3, .pointer (some ⟨g, 0, none⟩))] a) : Code.wp Try.prog (sq 2 body32) (bodyPost Try.prog Try.f32 fun e w' => e = .returned (.int .u64 ((b : Int))) ∧ Below w0.heap.size w0 w') a w := by
  subst h hg
  obtain ⟨m0, m1, m2, m3, m4, m5⟩ := cells6 r.out
  obtain ⟨f, rfl, h0, h3, -⟩ := ha.lit
  change Code.wp _ _ _ ⟨#[f 0, f 1, f 2, f 3, f 4, f 5, f 6, f 7, f 8, f 9, f 10, f 11, f 12, f 13, f 14, f 15, f 16, f 17, f 18, f 19, f 20, f 21, f 22, f 23, f 24, f 25, f 26, f 27, f 28, f 29, f 30, f 31, f 32, f 33, f 34, f 35, f 36, f 37, f 38, f 39, f 40, f 41, f 42, f 43, f 44, f 45, f 46, f 47, f 48, f 49, f 50, f 51, f 52, f 53, f 54, f 55, f 56, f 57, f 58, f 59, f 60, f 61, f 62, f 63, f 64, f 65, f 66, f 67, f 68, f 69, f 70, f 71, f 72, f 73, f 74, f 75, f 76, f 77, f 78, f 79, f 80, f 81, f 82, f 83, f 84, f 85, f 86, f 87, f 88], []⟩ _
  simp only at h0 h3
  simp only [h0, h3]
  clear h0 h3
  conv => arg 2; whnf
  go_wp2
  go_ret
  exact ⟨rfl, B.out⟩
theorem k62_any (w : World) : Calls Try.prog 62 #[] w fun e w' => e = .returned (.int .u64 9221120237041090560) ∧ Below w.heap.size w w' := by
  go_enter Try.func62, Try.ntmps62
  go_wp2
  go_ret
  exact ⟨rfl, Below.refl _ _⟩
set_option maxRecDepth 100000 in
set_option maxHeartbeats 2000000 in
theorem ds_4 (b : Nat) (kd X : Int) (ng qu : Bool) (M LD : Nat) (g : Nat) (a : Act) (w0 w : World) (B : Hid (Below w0.heap.size w0 w)) (r : Hid (w.heap[g]? = some (.cells #[.int .i64 kd, .bool ng, .int .u64 (M : Int), .int .i64 X, .bool qu, .int .u64 (LD : Int)] 27 (0, 0)))) (h : kd = 4) (ha : At 89 [(0, .int .u64 (b : Int)), (3, .pointer (some ⟨g, 0, none⟩))] a) : Code.wp Try.prog (sq 2 body32) (bodyPost Try.prog Try.f32 fun e w' => e = .returned (.int .u64 (9221120237041090560)) ∧ Below w0.heap.size w0 w') a w := by
  have k62 := k62_any
  subst h
  obtain ⟨m0, m1, m2, m3, m4, m5⟩ := cells6 r.out
  obtain ⟨f, rfl, h0, h3, -⟩ := ha.lit
  change Code.wp _ _ _ ⟨#[f 0, f 1, f 2, f 3, f 4, f 5, f 6, f 7, f 8, f 9, f 10, f 11, f 12, f 13, f 14, f 15, f 16, f 17, f 18, f 19, f 20, f 21, f 22, f 23, f 24, f 25, f 26, f 27, f 28, f 29, f 30, f 31, f 32, f 33, f 34, f 35, f 36, f 37, f 38, f 39, f 40, f 41, f 42, f 43, f 44, f 45, f 46, f 47, f 48, f 49, f 50, f 51, f 52, f 53, f 54, f 55, f 56, f 57, f 58, f 59, f 60, f 61, f 62, f 63, f 64, f 65, f 66, f 67, f 68, f 69, f 70, f 71, f 72, f 73, f 74, f 75, f 76, f 77, f 78, f 79, f 80, f 81, f 82, f 83, f 84, f 85, f 86, f 87, f 88], []⟩ _
  simp only at h0 h3
  simp only [h0, h3]
  clear h0 h3
  conv => arg 2; whnf
  go_wp2_with (go_at_call 62; refine (k62 _).mono ?_)
  intro e1 w1 hq
  first | (obtain ⟨rfl, b1⟩ : _ ∧ _ := hq) | (subst hq; intro b1)
  clear m0 m1 m2 m3 m4 m5
  have B1 : Hid (Below w0.heap.size w0 w1) := B.out.trans (b1.mono B.out.size)
  clear b1
  go_wp2
  go_ret
  exact ⟨rfl, B1.out⟩
set_option maxRecDepth 100000 in
set_option maxHeartbeats 2000000 in
theorem ds_g (b : Nat) (kd X : Int) (ng qu : Bool) (M LD : Nat) (g : Nat) (a : Act) (w0 w : World) (B : Hid (Below w0.heap.size w0 w)) (r : Hid (w.heap[g]? = some (.cells #[.int .i64 kd, .bool ng, .int .u64 (M : Int), .int .i64 X, .bool qu, .int .u64 (LD : Int)] 27 (0, 0)))) (h0 : (kd == 0) = false) (h3 : (kd == 3) = false) (h : (kd == 4) = false) (hg : ng = true) (ha : At 89 [(0, .int .u64 (b : Int)), (3, .pointer (some ⟨g, 0, none⟩))] a) : Code.wp Try.prog (sq 2 body32) (bodyPost Try.prog Try.f32 fun e w' => e = .returned (.int .u64 (9221120237041090560)) ∧ Below w0.heap.size w0 w') a w := by
  have k62 := k62_any
  subst hg
  obtain ⟨m0, m1, m2, m3, m4, m5⟩ := cells6 r.out
  obtain ⟨f, rfl, h0, h3, -⟩ := ha.lit
  change Code.wp _ _ _ ⟨#[f 0, f 1, f 2, f 3, f 4, f 5, f 6, f 7, f 8, f 9, f 10, f 11, f 12, f 13, f 14, f 15, f 16, f 17, f 18, f 19, f 20, f 21, f 22, f 23, f 24, f 25, f 26, f 27, f 28, f 29, f 30, f 31, f 32, f 33, f 34, f 35, f 36, f 37, f 38, f 39, f 40, f 41, f 42, f 43, f 44, f 45, f 46, f 47, f 48, f 49, f 50, f 51, f 52, f 53, f 54, f 55, f 56, f 57, f 58, f 59, f 60, f 61, f 62, f 63, f 64, f 65, f 66, f 67, f 68, f 69, f 70, f 71, f 72, f 73, f 74, f 75, f 76, f 77, f 78, f 79, f 80, f 81, f 82, f 83, f 84, f 85, f 86, f 87, f 88], []⟩ _
  simp only at h0 h3
  simp only [h0, h3]
  clear h0 h3
  conv => arg 2; whnf
  go_wp2_with (go_at_call 62; refine (k62 _).mono ?_)
  intro e1 w1 hq
  first | (obtain ⟨rfl, b1⟩ : _ ∧ _ := hq) | (subst hq; intro b1)
  clear m0 m1 m2 m3 m4 m5
  have B1 : Hid (Below w0.heap.size w0 w1) := B.out.trans (b1.mono B.out.size)
  clear b1
  go_wp2
  go_ret
  exact ⟨rfl, B1.out⟩
set_option maxRecDepth 100000 in
set_option maxHeartbeats 2000000 in
theorem ds_h (b : Nat) (kd X : Int) (ng qu : Bool) (M LD : Nat) (g : Nat) (a : Act) (w0 w : World) (B : Hid (Below w0.heap.size w0 w)) (r : Hid (w.heap[g]? = some (.cells #[.int .i64 kd, .bool ng, .int .u64 (M : Int), .int .i64 X, .bool qu, .int .u64 (LD : Int)] 27 (0, 0)))) (h : kd = 3) (hg : ng = true) (ha : At 89 [(0, .int .u64 (b : Int)), (3, .pointer (some ⟨g, 0, none⟩))] a) : Code.wp Try.prog (sq 2 body32) (bodyPost Try.prog Try.f32 fun e w' => e = .returned (.int .u64 (9221120237041090560)) ∧ Below w0.heap.size w0 w') a w := by
  have k62 := k62_any
  subst h hg
  obtain ⟨m0, m1, m2, m3, m4, m5⟩ := cells6 r.out
  obtain ⟨f, rfl, h0, h3, -⟩ := ha.lit
  change Code.wp _ _ _ ⟨#[f 0, f 1, f 2, f 3, f 4, f 5, f 6, f 7, f 8, f 9, f 10, f 11, f 12, f 13, f 14, f 15, f 16, f 17, f 18, f 19, f 20, f 21, f 22, f 23, f 24, f 25, f 26, f 27, f 28, f 29, f 30, f 31, f 32, f 33, f 34, f 35, f 36, f 37, f 38, f 39, f 40, f 41, f 42, f 43, f 44, f 45, f 46, f 47, f 48, f 49, f 50, f 51, f 52, f 53, f 54, f 55, f 56, f 57, f 58, f 59, f 60, f 61, f 62, f 63, f 64, f 65, f 66, f 67, f 68, f 69, f 70, f 71, f 72, f 73, f 74, f 75, f 76, f 77, f 78, f 79, f 80, f 81, f 82, f 83, f 84, f 85, f 86, f 87, f 88], []⟩ _
  simp only at h0 h3
  simp only [h0, h3]
  clear h0 h3
  conv => arg 2; whnf
  go_wp2_with (go_at_call 62; refine (k62 _).mono ?_)
  intro e1 w1 hq
  first | (obtain ⟨rfl, b1⟩ : _ ∧ _ := hq) | (subst hq; intro b1)
  clear m0 m1 m2 m3 m4 m5
  have B1 : Hid (Below w0.heap.size w0 w1) := B.out.trans (b1.mono B.out.size)
  clear b1
  go_wp2
  go_ret
  exact ⟨rfl, B1.out⟩
set_option maxRecDepth 100000 in
set_option maxHeartbeats 2000000 in
theorem ds_b {Q : Exit → Act → World → Prop} (b : Nat) (kd X : Int) (ng qu : Bool) (M LD : Nat) (g : Nat) (a : Act) (w : World) (r : Hid (w.heap[g]? = some (.cells #[.int .i64 kd, .bool ng, .int .u64 (M : Int), .int .i64 X, .bool qu, .int .u64 (LD : Int)] 27 (0, 0)))) (h0 : (kd == 0) = false) (h4 : (kd == 4) = false) (h3 : (kd == 3) = false) (hg : ng = false) (hK : Hid (∀ a w', Below w.heap.size w w' → At 89 [(4, .int .u64 (M : Int)), (5, .int .i64 X)] a → Code.wp Try.prog (sq 5 body32) Q a w')) (ha : At 89 [(0, .int .u64 (b : Int)), (3, .pointer (some ⟨g, 0, none⟩))] a) : Code.wp Try.prog (sq 2 body32) Q a w := by
  subst hg
  have hr := r
  obtain ⟨m0, m1, m2, m3, m4, m5⟩ := cells6 r.out
  obtain ⟨f, rfl, h0, h3, -⟩ := ha.lit
  change Code.wp _ _ _ ⟨#[f 0, f 1, f 2, f 3, f 4, f 5, f 6, f 7, f 8, f 9, f 10, f 11, f 12, f 13, f 14, f 15, f 16, f 17, f 18, f 19, f 20, f 21, f 22, f 23, f 24, f 25, f 26, f 27, f 28, f 29, f 30, f 31, f 32, f 33, f 34, f 35, f 36, f 37, f 38, f 39, f 40, f 41, f 42, f 43, f 44, f 45, f 46, f 47, f 48, f 49, f 50, f 51, f 52, f 53, f 54, f 55, f 56, f 57, f 58, f 59, f 60, f 61, f 62, f 63, f 64, f 65, f 66, f 67, f 68, f 69, f 70, f 71, f 72, f 73, f 74, f 75, f 76, f 77, f 78, f 79, f 80, f 81, f 82, f 83, f 84, f 85, f 86, f 87, f 88], []⟩ _
  simp only at h0 h3
  simp only [h0, h3]
  clear h0 h3
  change Code.wp _ (Code.seq (hd (sq 2 body32)) (Code.seq (hd (sq 3 body32)) (Code.seq (hd (sq 4 body32)) (sq 5 body32)))) _ _ _
  generalize sq 5 body32 = REST at hK ⊢
  conv => arg 2; arg 1; whnf
  conv => arg 2; arg 2; arg 1; whnf
  conv => arg 2; arg 2; arg 2; arg 1; whnf
  go_wp2
  refine wp_region_vals (a1 := ?a1r6n1) (grown _) [.pointer (some ⟨g, 2, none⟩), .int .u64 (M : Int), .pointer (some ⟨g, 3, none⟩), .int .i64 X, .int .u64 (M : Int), .int .i64 X] 89 rfl (by kernel_rfl) (by kernel_rfl) (grown_start _) ⟨?o0r6n1, ?o1r6n1, ?o2r6n1, ?o3r6n1, ?o4r6n1, ?o5r6n1, trivial⟩ ?har6n1 ?hdoner6n1
  case har6n1 => simp [putAll, Act.put]; exact rfl
  case o0r6n1 => exact ValOp.pure (grown_steady _ 0) [(3, .pointer (some ⟨g, 0, none⟩))] rfl (fun _ _ h2 => ⟨(h2 3 (by kernel_rfl)).trans rfl, trivial⟩) (by kernel_rfl) (fun _ _ _ _ _ => by kernel_rfl)
  case o1r6n1 => exact ValOp.pure (grown_steady _ 1) [(35, .pointer (some ⟨g, 2, none⟩))] rfl (fun _ h1 _ => ⟨h1 0 35 (by kernel_rfl), trivial⟩) (by kernel_rfl) (fun _ _ _ hg _ => run_read rfl rfl (run_cell (below_at hr.out hg) rfl (Try.isAgg22 _)))
  case o2r6n1 => exact ValOp.pure (grown_steady _ 2) [(3, .pointer (some ⟨g, 0, none⟩))] rfl (fun _ _ h2 => ⟨(h2 3 (by kernel_rfl)).trans rfl, trivial⟩) (by kernel_rfl) (fun _ _ _ _ _ => by kernel_rfl)
  case o3r6n1 => exact ValOp.pure (grown_steady _ 3) [(37, .pointer (some ⟨g, 3, none⟩))] rfl (fun _ h1 _ => ⟨h1 2 37 (by kernel_rfl), trivial⟩) (by kernel_rfl) (fun _ _ _ hg _ => run_read rfl rfl (run_cell (below_at hr.out hg) rfl (Try.isAgg3 _)))
  case o4r6n1 => exact ValOp.pure (grown_steady _ 4) [(36, .int .u64 (M : Int))] rfl (fun _ h1 _ => ⟨h1 1 36 (by kernel_rfl), trivial⟩) (by kernel_rfl) (fun _ _ _ _ _ => by kernel_rfl)
  case o5r6n1 => exact ValOp.pure (grown_steady _ 5) [(38, .int .i64 X)] rfl (fun _ h1 _ => ⟨h1 3 38 (by kernel_rfl), trivial⟩) (by kernel_rfl) (fun _ _ _ _ _ => by kernel_rfl)
  intro w1 s1 _ bb
  have B1 : Hid _ := show Below _ _ w1 from bb
  clear bb m0 m1 m2 m3 m4 m5
  go_wp2
  exact hK.out _ _ B1.out ⟨rfl, rfl, rfl, rfl, trivial⟩
set_option maxRecDepth 100000 in
set_option maxHeartbeats 2000000 in
theorem ds_l {Q : Exit → Act → World → Prop} (M l : Nat) (X : Int) (a : Act) (w : World) (h1 : 9007199254740992 ≤ M * 2 ^ l) (h2 : M * 2 ^ l < 18014398509481984) (hl : (l : Int) ≤ 64) (hX : -20000 ≤ X ∧ X ≤ 20000) (hK : Hid (∀ a, At 89 [(4, .int .u64 ((M * 2 ^ l : Nat) : Int)), (5, .int .i64 (X - l))] a → Code.wp Try.prog (sq 6 body32) Q a w)) (ha : At 89 [(4, .int .u64 (M : Int)), (5, .int .i64 X)] a) : Code.wp Try.prog (sq 5 body32) Q a w := by
  obtain ⟨f, rfl, h4, h5, -⟩ := ha.lit
  change Code.wp _ _ _ ⟨#[f 0, f 1, f 2, f 3, f 4, f 5, f 6, f 7, f 8, f 9, f 10, f 11, f 12, f 13, f 14, f 15, f 16, f 17, f 18, f 19, f 20, f 21, f 22, f 23, f 24, f 25, f 26, f 27, f 28, f 29, f 30, f 31, f 32, f 33, f 34, f 35, f 36, f 37, f 38, f 39, f 40, f 41, f 42, f 43, f 44, f 45, f 46, f 47, f 48, f 49, f 50, f 51, f 52, f 53, f 54, f 55, f 56, f 57, f 58, f 59, f 60, f 61, f 62, f 63, f 64, f 65, f 66, f 67, f 68, f 69, f 70, f 71, f 72, f 73, f 74, f 75, f 76, f 77, f 78, f 79, f 80, f 81, f 82, f 83, f 84, f 85, f 86, f 87, f 88], []⟩ _
  simp only at h4 h5
  simp only [h4, h5]
  clear h4 h5
  change Code.wp _ (Code.seq (hd (sq 5 body32)) (sq 6 body32)) _ _ _
  generalize sq 6 body32 = REST at hK ⊢
  conv => arg 2; arg 1; whnf
  obtain ⟨hXa, hXb⟩ := hX
  have hh := show Hid _ from And.intro h1 h2
  clear h1 h2
  go_wp2
  refine wp_loop_ghost_k (fun m a w' => ∃ i : Nat, i ≤ l ∧ m = l - i ∧ At 89 [(4, .int .u64 ((M * 2 ^ i : Nat) : Int)), (5, .int .i64 (X - i))] a ∧ w' = w) l ⟨0, Nat.zero_le _, rfl, by rw [Nat.pow_zero, Nat.mul_one, show X - ((0 : Nat) : Int) = X by omega]; exact ⟨rfl, rfl, rfl, rfl, trivial⟩, rfl⟩ ?_
  obtain ⟨h1, h2⟩ := hh.out
  rintro m a w' ⟨i, hi, rfl, ha, rfl⟩ J0 K1 hJ hK1
  by_cases c : i < l
  · have hnew : M * 2 ^ (i + 1) = M * 2 ^ i * 2 := by rw [Nat.pow_succ, Nat.mul_assoc]
    have hle : M * 2 ^ (i + 1) ≤ M * 2 ^ l := Nat.mul_le_mul_left _ (Nat.pow_le_pow_right (by omega) (by omega))
    have hlt : ((M * 2 ^ i : Nat) : Int) < 9007199254740992 := by omega
    have hdb : IntKind.u64.wrap (((M * 2 ^ i : Nat) : Int) * 2) = ((M * 2 ^ (i + 1) : Nat) : Int) := by rw [u64_wrap]; omega
    generalize ha' : M * 2 ^ (i + 1) = a' at *
    generalize M * 2 ^ i = b0 at *
    have ha' := show Hid _ from ha'
    have hyb : -50000 ≤ X - (i : Int) ∧ X - (i : Int) ≤ 50000 := by omega
    obtain ⟨hy1, hy2⟩ := hyb
    generalize hy : X - (i : Int) = y at *
    have hy := show Hid _ from hy
    have hc := show Hid _ from c
    have hJ := show Hid _ from hJ
    clear hnew hi c h1 h2 hh hle hK hXa hXb hl
    obtain ⟨f, rfl, h4, h5, -⟩ := ha.lit
    change Code.wp _ _ _ ⟨#[f 0, f 1, f 2, f 3, f 4, f 5, f 6, f 7, f 8, f 9, f 10, f 11, f 12, f 13, f 14, f 15, f 16, f 17, f 18, f 19, f 20, f 21, f 22, f 23, f 24, f 25, f 26, f 27, f 28, f 29, f 30, f 31, f 32, f 33, f 34, f 35, f 36, f 37, f 38, f 39, f 40, f 41, f 42, f 43, f 44, f 45, f 46, f 47, f 48, f 49, f 50, f 51, f 52, f 53, f 54, f 55, f 56, f 57, f 58, f 59, f 60, f 61, f 62, f 63, f 64, f 65, f 66, f 67, f 68, f 69, f 70, f 71, f 72, f 73, f 74, f 75, f 76, f 77, f 78, f 79, f 80, f 81, f 82, f 83, f 84, f 85, f 86, f 87, f 88], []⟩ _
    simp only at h4 h5
    simp only [h4, h5]
    clear h4 h5
    go_wp2
    exact Handed.intro (l - (i + 1)) (by have := hc.out; omega) (hJ.out _ _ _ ⟨i + 1, hc.out, rfl, by rw [ha'.out, show X - ((i + 1 : Nat) : Int) = y - 1 by have := hy.out; omega]; exact ⟨rfl, rfl, rfl, rfl, trivial⟩, rfl⟩)
  · have hil : i = l := by omega
    subst hil
    have hge : ¬ ((M * 2 ^ i : Nat) : Int) < 9007199254740992 := by omega
    clear c hi hJ hK1 h1 h2 hh hXa hXb hl
    generalize M * 2 ^ i = b0 at *
    generalize X - (i : Int) = y at *
    obtain ⟨f, rfl, h4, h5, -⟩ := ha.lit
    change Code.wp _ _ _ ⟨#[f 0, f 1, f 2, f 3, f 4, f 5, f 6, f 7, f 8, f 9, f 10, f 11, f 12, f 13, f 14, f 15, f 16, f 17, f 18, f 19, f 20, f 21, f 22, f 23, f 24, f 25, f 26, f 27, f 28, f 29, f 30, f 31, f 32, f 33, f 34, f 35, f 36, f 37, f 38, f 39, f 40, f 41, f 42, f 43, f 44, f 45, f 46, f 47, f 48, f 49, f 50, f 51, f 52, f 53, f 54, f 55, f 56, f 57, f 58, f 59, f 60, f 61, f 62, f 63, f 64, f 65, f 66, f 67, f 68, f 69, f 70, f 71, f 72, f 73, f 74, f 75, f 76, f 77, f 78, f 79, f 80, f 81, f 82, f 83, f 84, f 85, f 86, f 87, f 88], []⟩ _
    simp only at h4 h5
    simp only [h4, h5]
    clear h4 h5
    go_wp2
    exact hK.out _ ⟨rfl, rfl, rfl, rfl, trivial⟩
set_option maxRecDepth 100000 in
set_option maxHeartbeats 2000000 in
theorem ds_p0 {Q : Exit → Act → World → Prop} (m : Nat) (y : Int) (a : Act) (w : World) (h : y.tmod 2 = 0) (hK : Hid (∀ a, At 89 [(4, .int .u64 (m : Int)), (5, .int .i64 y), (6, .int .u64 ((0 : Nat) : Int)), (7, .int .u64 ((0 : Nat) : Int))] a → Code.wp Try.prog (sq 8 body32) Q a w)) (ha : At 89 [(4, .int .u64 (m : Int)), (5, .int .i64 y)] a) : Code.wp Try.prog (sq 6 body32) Q a w := by
  obtain ⟨f, rfl, h4, h5, -⟩ := ha.lit
  change Code.wp _ _ _ ⟨#[f 0, f 1, f 2, f 3, f 4, f 5, f 6, f 7, f 8, f 9, f 10, f 11, f 12, f 13, f 14, f 15, f 16, f 17, f 18, f 19, f 20, f 21, f 22, f 23, f 24, f 25, f 26, f 27, f 28, f 29, f 30, f 31, f 32, f 33, f 34, f 35, f 36, f 37, f 38, f 39, f 40, f 41, f 42, f 43, f 44, f 45, f 46, f 47, f 48, f 49, f 50, f 51, f 52, f 53, f 54, f 55, f 56, f 57, f 58, f 59, f 60, f 61, f 62, f 63, f 64, f 65, f 66, f 67, f 68, f 69, f 70, f 71, f 72, f 73, f 74, f 75, f 76, f 77, f 78, f 79, f 80, f 81, f 82, f 83, f 84, f 85, f 86, f 87, f 88], []⟩ _
  simp only at h4 h5
  simp only [h4, h5]
  clear h4 h5
  change Code.wp _ (Code.seq (hd (sq 6 body32)) (Code.seq (hd (sq 7 body32)) (sq 8 body32))) _ _ _
  generalize sq 8 body32 = REST at hK ⊢
  conv => arg 2; arg 1; whnf
  conv => arg 2; arg 2; arg 1; whnf
  go_wp2
  exact hK.out _ ⟨rfl, rfl, rfl, rfl, rfl, rfl, trivial⟩
set_option maxRecDepth 100000 in
set_option maxHeartbeats 2000000 in
theorem ds_p1 {Q : Exit → Act → World → Prop} (m m2 : Nat) (y y2 t : Int) (a : Act) (w : World) (h : y.tmod 2 = t) (ht : IntKind.i64.wrap t = t) (h' : (t == 0) = false) (hm : IntKind.u64.wrap ((m : Int) * 2) = (m2 : Int)) (hy : IntKind.i64.wrap (y - 1) = y2) (hK : Hid (∀ a, At 89 [(4, .int .u64 (m2 : Int)), (5, .int .i64 y2), (6, .int .u64 ((0 : Nat) : Int)), (7, .int .u64 ((0 : Nat) : Int))] a → Code.wp Try.prog (sq 8 body32) Q a w)) (ha : At 89 [(4, .int .u64 (m : Int)), (5, .int .i64 y)] a) : Code.wp Try.prog (sq 6 body32) Q a w := by
  obtain ⟨f, rfl, h4, h5, -⟩ := ha.lit
  change Code.wp _ _ _ ⟨#[f 0, f 1, f 2, f 3, f 4, f 5, f 6, f 7, f 8, f 9, f 10, f 11, f 12, f 13, f 14, f 15, f 16, f 17, f 18, f 19, f 20, f 21, f 22, f 23, f 24, f 25, f 26, f 27, f 28, f 29, f 30, f 31, f 32, f 33, f 34, f 35, f 36, f 37, f 38, f 39, f 40, f 41, f 42, f 43, f 44, f 45, f 46, f 47, f 48, f 49, f 50, f 51, f 52, f 53, f 54, f 55, f 56, f 57, f 58, f 59, f 60, f 61, f 62, f 63, f 64, f 65, f 66, f 67, f 68, f 69, f 70, f 71, f 72, f 73, f 74, f 75, f 76, f 77, f 78, f 79, f 80, f 81, f 82, f 83, f 84, f 85, f 86, f 87, f 88], []⟩ _
  simp only at h4 h5
  simp only [h4, h5]
  clear h4 h5
  change Code.wp _ (Code.seq (hd (sq 6 body32)) (Code.seq (hd (sq 7 body32)) (sq 8 body32))) _ _ _
  generalize sq 8 body32 = REST at hK ⊢
  conv => arg 2; arg 1; whnf
  conv => arg 2; arg 2; arg 1; whnf
  go_wp2
  exact hK.out _ ⟨rfl, rfl, rfl, rfl, rfl, rfl, trivial⟩
set_option maxRecDepth 100000 in
set_option maxHeartbeats 2000000 in
theorem ds_m {Q : Exit → Act → World → Prop} (m : Nat) (y : Int) (a : Act) (w : World) (hm : m < 36028797018963968) (hK : Hid (∀ a R S, Rt (m * 18446744073709551616) R S → At 89 [(5, .int .i64 y), (6, .int .u64 (R : Int)), (7, .int .u64 (S : Int))] a → Code.wp Try.prog (sq 9 body32) Q a w)) (ha : At 89 [(4, .int .u64 (m : Int)), (5, .int .i64 y), (6, .int .u64 ((0 : Nat) : Int)), (7, .int .u64 ((0 : Nat) : Int))] a) : Code.wp Try.prog (sq 8 body32) Q a w := by
  obtain ⟨f, rfl, h4, h5, h6, h7, -⟩ := ha.lit
  change Code.wp _ _ _ ⟨#[f 0, f 1, f 2, f 3, f 4, f 5, f 6, f 7, f 8, f 9, f 10, f 11, f 12, f 13, f 14, f 15, f 16, f 17, f 18, f 19, f 20, f 21, f 22, f 23, f 24, f 25, f 26, f 27, f 28, f 29, f 30, f 31, f 32, f 33, f 34, f 35, f 36, f 37, f 38, f 39, f 40, f 41, f 42, f 43, f 44, f 45, f 46, f 47, f 48, f 49, f 50, f 51, f 52, f 53, f 54, f 55, f 56, f 57, f 58, f 59, f 60, f 61, f 62, f 63, f 64, f 65, f 66, f 67, f 68, f 69, f 70, f 71, f 72, f 73, f 74, f 75, f 76, f 77, f 78, f 79, f 80, f 81, f 82, f 83, f 84, f 85, f 86, f 87, f 88], []⟩ _
  simp only at h4 h5 h6 h7
  simp only [h4, h5, h6, h7]
  clear h4 h5 h6 h7
  change Code.wp _ (Code.seq (hd (sq 8 body32)) (sq 9 body32)) _ _ _
  generalize sq 9 body32 = REST at hK ⊢
  conv => arg 2; arg 1; whnf
  replace hm := show Hid _ from hm
  go_wp2
  refine wp_loop_ghost_k (fun m1 a w' => ∃ i R S : Nat, i ≤ 63 ∧ m1 = 63 - i ∧ Rt (m * 4 ^ i / 4611686018427387904) R S ∧ At 89 [(4, .int .u64 (m : Int)), (5, .int .i64 y), (6, .int .u64 (R : Int)), (7, .int .u64 (S : Int)), (8, .int .i64 (60 - 2 * (i : Int)))] a ∧ w' = w) 63 ⟨0, 0, 0, Nat.zero_le _, rfl, by rw [Nat.pow_zero, Nat.mul_one, Nat.div_eq_of_lt (Nat.lt_trans hm.out (by decide))]; exact ⟨rfl, Nat.le_refl _⟩, ⟨rfl, rfl, rfl, rfl, rfl, rfl, rfl, trivial⟩, rfl⟩ ?_
  rintro m1 a w' ⟨i, R, S, hi, rfl, hR, ha, rfl⟩ J0 K1 hJ hK1
  have hml := hm.out
  by_cases c : i < 63
  · have hb : R < 576460752303423488 := rt_lt hR (Nat.div_lt_of_lt_mul (by
      have h1 : m * 4 ^ i ≤ m * 4 ^ 62 := Nat.mul_le_mul_left _ (Nat.pow_le_pow_right (by omega) (by omega))
      omega))
    have hS : S ≤ 2 * R := hR.2
    obtain ⟨at1, hat⟩ : ∃ at1 : Int, 60 - 2 * (i : Int) = at1 := ⟨_, rfl⟩
    by_cases p : i ≤ 30
    · obtain ⟨D, hD⟩ : ∃ D, m / 2 ^ (60 - 2 * i) % 4 = D := ⟨_, rfl⟩
      have hA : m * 4 ^ (i + 1) / 4611686018427387904 = 4 * (m * 4 ^ i / 4611686018427387904) + D := by
        have e1 : m * 4 ^ (i + 1) / 4611686018427387904 = m / 2 ^ (60 - 2 * i) := by
          rw [show (4611686018427387904 : Nat) = 2 ^ (60 - 2 * i) * 4 ^ (i + 1) by rw [show (4 : Nat) = 2 ^ 2 from rfl, ← Nat.pow_mul, ← Nat.pow_add, show 60 - 2 * i + 2 * (i + 1) = 62 by omega]]
          exact Nat.mul_div_mul_right _ _ (Nat.pow_pos (by omega))
        have e2 : m * 4 ^ i / 4611686018427387904 = m / 2 ^ (60 - 2 * i) / 4 := by
          rw [Nat.div_div_eq_div_mul, show (4611686018427387904 : Nat) = 2 ^ (60 - 2 * i) * 4 * 4 ^ i by rw [Nat.mul_assoc, show 4 * 4 ^ i = 2 ^ (2 * (i + 1)) by rw [Nat.mul_comm, ← Nat.pow_succ, Nat.pow_mul], ← Nat.pow_add, show 60 - 2 * i + 2 * (i + 1) = 62 by omega]]
          exact Nat.mul_div_mul_right _ _ (Nat.pow_pos (by omega))
        rw [e1, e2, ← hD]
        omega
      obtain ⟨k, hk⟩ : ∃ k, 60 - 2 * i = k := ⟨_, rfl⟩
      rw [hk] at hD
      have hat2 : at1 = (k : Int) := by omega
      subst hat2
      have hkb : (k : Int) ≤ 60 := by omega
      have hq : m / 2 ^ k ≤ m := Nat.div_le_self _ _
      have g1 : (m : Int) / 2 ^ k = ((m / 2 ^ k : Nat) : Int) := by rw [Int.natCast_ediv, Int.natCast_pow]; rfl
      have g2 : bits .and .u64 ((m / 2 ^ k : Nat) : Int) 3 = (D : Int) := by
        have := bits_and_u64_nat (m / 2 ^ k) 3 (by omega) (by omega)
        refine this.trans ?_
        rw [← hD, show (3 : Nat) = 2 ^ 2 - 1 from rfl, Nat.and_two_pow_sub_one_eq_mod]
      have hd : D ≤ 3 := by omega
      rw [hat] at ha
      generalize m / 2 ^ k = mk at *
      clear hq hD hk p
      replace hat := show Hid _ from hat
      generalize m * 4 ^ i / 4611686018427387904 = A at *
      obtain ⟨s1, s2⟩ := rt_step hR hd
      have f1 : IntKind.u64.wrap ((S : Int) * 4) = ((4 * S : Nat) : Int) := by rw [u64_wrap]; omega
      have f3 : IntKind.u64.wrap (((4 * S : Nat) : Int) + (D : Int)) = ((4 * S + D : Nat) : Int) := by rw [u64_wrap]; omega
      have f5 : IntKind.u64.wrap ((R : Int) * 2) = ((2 * R : Nat) : Int) := by rw [u64_wrap]; omega
      have f6 : IntKind.u64.wrap (2 * ((2 * R : Nat) : Int)) = ((4 * R : Nat) : Int) := by rw [u64_wrap]; omega
      have f7 : IntKind.u64.wrap (((4 * R : Nat) : Int) + 1) = ((4 * R + 1 : Nat) : Int) := by rw [u64_wrap]; omega
      have hc := show Hid _ from c
      replace hJ := show Hid _ from hJ
      replace hA := show Hid _ from hA
      by_cases o : 4 * R + 1 ≤ 4 * S + D
      · have hR := show Hid (Rt (4 * A + D) (2 * R + 1) (4 * S + D - (4 * R + 1))) from s1 o
        have o1 : ((4 * R + 1 : Nat) : Int) ≤ ((4 * S + D : Nat) : Int) := by omega
        have f8 : IntKind.u64.wrap (((4 * S + D : Nat) : Int) - ((4 * R + 1 : Nat) : Int)) = ((4 * S + D - (4 * R + 1) : Nat) : Int) := by rw [u64_wrap]; omega
        have f9 : IntKind.u64.wrap (((2 * R : Nat) : Int) + 1) = ((2 * R + 1 : Nat) : Int) := by rw [u64_wrap]; omega
        clear s1 s2 o hd hS hb hi c
        generalize 4 * S + D - (4 * R + 1) = S6 at *
        generalize 4 * S + D = S5 at *
        generalize 2 * R + 1 = R21 at *
        generalize 4 * R + 1 = R41 at *
        generalize 4 * R = R4 at *
        generalize 2 * R = R2 at *
        generalize 4 * S = S4 at *
        obtain ⟨f, rfl, h4, h5, h6, h7, h8, -⟩ := ha.lit
        change Code.wp _ _ _ ⟨#[f 0, f 1, f 2, f 3, f 4, f 5, f 6, f 7, f 8, f 9, f 10, f 11, f 12, f 13, f 14, f 15, f 16, f 17, f 18, f 19, f 20, f 21, f 22, f 23, f 24, f 25, f 26, f 27, f 28, f 29, f 30, f 31, f 32, f 33, f 34, f 35, f 36, f 37, f 38, f 39, f 40, f 41, f 42, f 43, f 44, f 45, f 46, f 47, f 48, f 49, f 50, f 51, f 52, f 53, f 54, f 55, f 56, f 57, f 58, f 59, f 60, f 61, f 62, f 63, f 64, f 65, f 66, f 67, f 68, f 69, f 70, f 71, f 72, f 73, f 74, f 75, f 76, f 77, f 78, f 79, f 80, f 81, f 82, f 83, f 84, f 85, f 86, f 87, f 88], []⟩ _
        simp only at h4 h5 h6 h7 h8
        simp only [h4, h5, h6, h7, h8]
        clear h4 h5 h6 h7 h8
        go_wp2
        exact Handed.intro (63 - (i + 1)) (by have := hc.out; omega) (hJ.out _ _ _ ⟨i + 1, R21, S6, by have := hc.out; omega, rfl, by rw [hA.out]; exact hR.out, by rw [show (60 : Int) - 2 * ((i + 1 : Nat) : Int) = (k : Int) - 2 by have := hat.out; omega]; exact ⟨rfl, rfl, rfl, rfl, rfl, rfl, rfl, trivial⟩, rfl⟩)
      · have hR := show Hid (Rt (4 * A + D) (2 * R) (4 * S + D)) from s2 o
        have o1 : ¬ ((4 * R + 1 : Nat) : Int) ≤ ((4 * S + D : Nat) : Int) := by omega
        clear s1 s2 o hd hS hb hi c
        generalize 4 * S + D = S5 at *
        generalize 4 * R + 1 = R41 at *
        generalize 4 * R = R4 at *
        generalize 2 * R = R2 at *
        generalize 4 * S = S4 at *
        obtain ⟨f, rfl, h4, h5, h6, h7, h8, -⟩ := ha.lit
        change Code.wp _ _ _ ⟨#[f 0, f 1, f 2, f 3, f 4, f 5, f 6, f 7, f 8, f 9, f 10, f 11, f 12, f 13, f 14, f 15, f 16, f 17, f 18, f 19, f 20, f 21, f 22, f 23, f 24, f 25, f 26, f 27, f 28, f 29, f 30, f 31, f 32, f 33, f 34, f 35, f 36, f 37, f 38, f 39, f 40, f 41, f 42, f 43, f 44, f 45, f 46, f 47, f 48, f 49, f 50, f 51, f 52, f 53, f 54, f 55, f 56, f 57, f 58, f 59, f 60, f 61, f 62, f 63, f 64, f 65, f 66, f 67, f 68, f 69, f 70, f 71, f 72, f 73, f 74, f 75, f 76, f 77, f 78, f 79, f 80, f 81, f 82, f 83, f 84, f 85, f 86, f 87, f 88], []⟩ _
        simp only at h4 h5 h6 h7 h8
        simp only [h4, h5, h6, h7, h8]
        clear h4 h5 h6 h7 h8
        go_wp2
        exact Handed.intro (63 - (i + 1)) (by have := hc.out; omega) (hJ.out _ _ _ ⟨i + 1, R2, S5, by have := hc.out; omega, rfl, by rw [hA.out]; exact hR.out, by rw [show (60 : Int) - 2 * ((i + 1 : Nat) : Int) = (k : Int) - 2 by have := hat.out; omega]; exact ⟨rfl, rfl, rfl, rfl, rfl, rfl, rfl, trivial⟩, rfl⟩)
    · have hA : m * 4 ^ (i + 1) / 4611686018427387904 = 4 * (m * 4 ^ i / 4611686018427387904) + 0 := by
        obtain ⟨j, rfl⟩ : ∃ j, i = j + 31 := ⟨i - 31, by omega⟩
        have e1 : m * 4 ^ (j + 31) = m * 4 ^ j * 4611686018427387904 := by rw [Nat.pow_add, ← Nat.mul_assoc]
        rw [Nat.pow_succ, ← Nat.mul_assoc, e1]
        omega
      have hd : 0 ≤ 3 := by omega
      have n1 : ¬ 0 ≤ at1 := by omega
      have n2 : -64 ≤ at1 := by omega
      rw [hat] at ha
      replace hat := show Hid _ from hat
      generalize m * 4 ^ i / 4611686018427387904 = A at *
      clear p
      obtain ⟨s1, s2⟩ := rt_step hR hd
      have f1 : IntKind.u64.wrap ((S : Int) * 4) = ((4 * S : Nat) : Int) := by rw [u64_wrap]; omega
      have f3 : IntKind.u64.wrap (((4 * S : Nat) : Int)) = ((4 * S : Nat) : Int) := by rw [u64_wrap]; omega
      have f5 : IntKind.u64.wrap ((R : Int) * 2) = ((2 * R : Nat) : Int) := by rw [u64_wrap]; omega
      have f6 : IntKind.u64.wrap (2 * ((2 * R : Nat) : Int)) = ((4 * R : Nat) : Int) := by rw [u64_wrap]; omega
      have f7 : IntKind.u64.wrap (((4 * R : Nat) : Int) + 1) = ((4 * R + 1 : Nat) : Int) := by rw [u64_wrap]; omega
      have hc := show Hid _ from c
      replace hJ := show Hid _ from hJ
      replace hA := show Hid _ from hA
      by_cases o : 4 * R + 1 ≤ 4 * S
      · have hR := show Hid (Rt (4 * A + 0) (2 * R + 1) (4 * S - (4 * R + 1))) from s1 o
        have o1 : ((4 * R + 1 : Nat) : Int) ≤ ((4 * S : Nat) : Int) := by omega
        have f8 : IntKind.u64.wrap (((4 * S : Nat) : Int) - ((4 * R + 1 : Nat) : Int)) = ((4 * S - (4 * R + 1) : Nat) : Int) := by rw [u64_wrap]; omega
        have f9 : IntKind.u64.wrap (((2 * R : Nat) : Int) + 1) = ((2 * R + 1 : Nat) : Int) := by rw [u64_wrap]; omega
        clear s1 s2 o hd hS hb hi c
        generalize 4 * S - (4 * R + 1) = S6 at *
        generalize 4 * S = S4 at *
        generalize 2 * R + 1 = R21 at *
        generalize 4 * R + 1 = R41 at *
        generalize 4 * R = R4 at *
        generalize 2 * R = R2 at *
        obtain ⟨f, rfl, h4, h5, h6, h7, h8, -⟩ := ha.lit
        change Code.wp _ _ _ ⟨#[f 0, f 1, f 2, f 3, f 4, f 5, f 6, f 7, f 8, f 9, f 10, f 11, f 12, f 13, f 14, f 15, f 16, f 17, f 18, f 19, f 20, f 21, f 22, f 23, f 24, f 25, f 26, f 27, f 28, f 29, f 30, f 31, f 32, f 33, f 34, f 35, f 36, f 37, f 38, f 39, f 40, f 41, f 42, f 43, f 44, f 45, f 46, f 47, f 48, f 49, f 50, f 51, f 52, f 53, f 54, f 55, f 56, f 57, f 58, f 59, f 60, f 61, f 62, f 63, f 64, f 65, f 66, f 67, f 68, f 69, f 70, f 71, f 72, f 73, f 74, f 75, f 76, f 77, f 78, f 79, f 80, f 81, f 82, f 83, f 84, f 85, f 86, f 87, f 88], []⟩ _
        simp only at h4 h5 h6 h7 h8
        simp only [h4, h5, h6, h7, h8]
        clear h4 h5 h6 h7 h8
        go_wp2
        exact Handed.intro (63 - (i + 1)) (by have := hc.out; omega) (hJ.out _ _ _ ⟨i + 1, R21, S6, by have := hc.out; omega, rfl, by rw [hA.out]; exact hR.out, by rw [show (60 : Int) - 2 * ((i + 1 : Nat) : Int) = at1 - 2 by have := hat.out; omega]; exact ⟨rfl, rfl, rfl, rfl, rfl, rfl, rfl, trivial⟩, rfl⟩)
      · have hR := show Hid (Rt (4 * A + 0) (2 * R) (4 * S)) from s2 o
        have o1 : ¬ ((4 * R + 1 : Nat) : Int) ≤ ((4 * S : Nat) : Int) := by omega
        clear s1 s2 o hd hS hb hi c
        generalize 4 * S = S4 at *
        generalize 4 * R + 1 = R41 at *
        generalize 4 * R = R4 at *
        generalize 2 * R = R2 at *
        obtain ⟨f, rfl, h4, h5, h6, h7, h8, -⟩ := ha.lit
        change Code.wp _ _ _ ⟨#[f 0, f 1, f 2, f 3, f 4, f 5, f 6, f 7, f 8, f 9, f 10, f 11, f 12, f 13, f 14, f 15, f 16, f 17, f 18, f 19, f 20, f 21, f 22, f 23, f 24, f 25, f 26, f 27, f 28, f 29, f 30, f 31, f 32, f 33, f 34, f 35, f 36, f 37, f 38, f 39, f 40, f 41, f 42, f 43, f 44, f 45, f 46, f 47, f 48, f 49, f 50, f 51, f 52, f 53, f 54, f 55, f 56, f 57, f 58, f 59, f 60, f 61, f 62, f 63, f 64, f 65, f 66, f 67, f 68, f 69, f 70, f 71, f 72, f 73, f 74, f 75, f 76, f 77, f 78, f 79, f 80, f 81, f 82, f 83, f 84, f 85, f 86, f 87, f 88], []⟩ _
        simp only at h4 h5 h6 h7 h8
        simp only [h4, h5, h6, h7, h8]
        clear h4 h5 h6 h7 h8
        go_wp2
        exact Handed.intro (63 - (i + 1)) (by have := hc.out; omega) (hJ.out _ _ _ ⟨i + 1, R2, S4, by have := hc.out; omega, rfl, by rw [hA.out]; exact hR.out, by rw [show (60 : Int) - 2 * ((i + 1 : Nat) : Int) = at1 - 2 by have := hat.out; omega]; exact ⟨rfl, rfl, rfl, rfl, rfl, rfl, rfl, trivial⟩, rfl⟩)
  · have hil : i = 63 := by omega
    subst hil
    have hR : Hid _ := show Rt (m * 18446744073709551616) R S by
      rw [show m * 18446744073709551616 = m * 4 ^ 63 / 4611686018427387904 by omega]; exact hR
    clear c hi hJ hK1 hm hml
    obtain ⟨f, rfl, h4, h5, h6, h7, h8, -⟩ := ha.lit
    change Code.wp _ _ _ ⟨#[f 0, f 1, f 2, f 3, f 4, f 5, f 6, f 7, f 8, f 9, f 10, f 11, f 12, f 13, f 14, f 15, f 16, f 17, f 18, f 19, f 20, f 21, f 22, f 23, f 24, f 25, f 26, f 27, f 28, f 29, f 30, f 31, f 32, f 33, f 34, f 35, f 36, f 37, f 38, f 39, f 40, f 41, f 42, f 43, f 44, f 45, f 46, f 47, f 48, f 49, f 50, f 51, f 52, f 53, f 54, f 55, f 56, f 57, f 58, f 59, f 60, f 61, f 62, f 63, f 64, f 65, f 66, f 67, f 68, f 69, f 70, f 71, f 72, f 73, f 74, f 75, f 76, f 77, f 78, f 79, f 80, f 81, f 82, f 83, f 84, f 85, f 86, f 87, f 88], []⟩ _
    simp only at h4 h5 h6 h7 h8
    simp only [h4, h5, h6, h7, h8]
    clear h4 h5 h6 h7 h8
    go_wp2
    exact hK.out _ R S hR.out ⟨rfl, rfl, rfl, rfl, rfl, trivial⟩
set_option maxRecDepth 100000 in
set_option maxHeartbeats 2000000 in
theorem ds_e0 (R S V : Nat) (y y2 y3 : Int) (a : Act) (w0 w : World) (B : Hid (Below w0.heap.size w0 w)) (h2 : y.tdiv 2 = y2) (h2w : IntKind.i64.wrap y2 = y2) (h3 : IntKind.i64.wrap (y2 - 32) = y3) (h : S = 0) (k15 : ∀ w, Calls Try.prog 15 #[.bool false, .int .u64 (R : Int), .int .i64 y3, .bool false, .agg #[.int .i64 52, .int .i64 2047, .int .i64 1023]] w fun e w' => e = .returned (.int .u64 (V : Int)) ∧ Below w.heap.size w w') (ha : At 89 [(5, .int .i64 y), (6, .int .u64 (R : Int)), (7, .int .u64 (S : Int))] a) : Code.wp Try.prog (sq 9 body32) (bodyPost Try.prog Try.f32 fun e w' => e = .returned (.int .u64 ((V : Int))) ∧ Below w0.heap.size w0 w') a w := by
  have k12 := k16l
  unfold k16L at k12
  subst h
  obtain ⟨f, rfl, h5, h6, h7, -⟩ := ha.lit
  change Code.wp _ _ _ ⟨#[f 0, f 1, f 2, f 3, f 4, f 5, f 6, f 7, f 8, f 9, f 10, f 11, f 12, f 13, f 14, f 15, f 16, f 17, f 18, f 19, f 20, f 21, f 22, f 23, f 24, f 25, f 26, f 27, f 28, f 29, f 30, f 31, f 32, f 33, f 34, f 35, f 36, f 37, f 38, f 39, f 40, f 41, f 42, f 43, f 44, f 45, f 46, f 47, f 48, f 49, f 50, f 51, f 52, f 53, f 54, f 55, f 56, f 57, f 58, f 59, f 60, f 61, f 62, f 63, f 64, f 65, f 66, f 67, f 68, f 69, f 70, f 71, f 72, f 73, f 74, f 75, f 76, f 77, f 78, f 79, f 80, f 81, f 82, f 83, f 84, f 85, f 86, f 87, f 88], []⟩ _
  simp only at h5 h6 h7
  simp only [h5, h6, h7]
  clear h5 h6 h7
  conv => arg 2; whnf
  refine wp_seq ?_
  refine wp_region_vals (a1 := ?a1r25n2) (grown _) [.int .u64 (R : Int), .int .i64 y, .int .i64 y2, .int .i64 y3, .int .u64 ((0 : Nat) : Int), .bool false, .agg #[.int .i64 52, .int .i64 2047, .int .i64 1023], .int .u64 (V : Int), .int .u64 (V : Int)] 89 rfl (by kernel_rfl) (by kernel_rfl) (grown_start _) ⟨?o0r25n2, ?o1r25n2, ?o2r25n2, ?o3r25n2, ?o4r25n2, ?o5r25n2, ?o6r25n2, ?o7r25n2, ?o8r25n2, trivial⟩ ?har25n2 ?hdoner25n2
  case har25n2 => simp [putAll, Act.put]; exact rfl
  case o0r25n2 => exact ValOp.pure (grown_steady _ 0) [(6, .int .u64 (R : Int))] rfl (fun _ _ h2 => ⟨(h2 6 (by kernel_rfl)).trans rfl, trivial⟩) (by kernel_rfl) (fun _ _ _ _ _ => by kernel_rfl)
  case o1r25n2 => exact ValOp.pure (grown_steady _ 1) [(5, .int .i64 y)] rfl (fun _ _ h2 => ⟨(h2 5 (by kernel_rfl)).trans rfl, trivial⟩) (by kernel_rfl) (fun _ _ _ _ _ => by kernel_rfl)
  case o2r25n2 => exact ValOp.pure (grown_steady _ 2) [(82, .int .i64 y)] rfl (fun _ h1 _ => ⟨h1 1 82 (by kernel_rfl), trivial⟩) (by kernel_rfl) (fun _ _ _ _ _ => run_bin (a := .int .i64 y) (b := .int .i64 2) rfl rfl rfl (by kernel_rfl) (by simp [go_sem, h2, h2w]))
  case o3r25n2 => exact ValOp.pure (grown_steady _ 3) [(83, .int .i64 y2)] rfl (fun _ h1 _ => ⟨h1 2 83 (by kernel_rfl), trivial⟩) (by kernel_rfl) (fun _ _ _ _ _ => run_bin (a := .int .i64 y2) (b := .int .i64 32) rfl rfl rfl (by kernel_rfl) (by simp [go_sem, h3]))
  case o4r25n2 => exact ValOp.pure (grown_steady _ 4) [(7, .int .u64 ((0 : Nat) : Int))] rfl (fun _ _ h2 => ⟨(h2 7 (by kernel_rfl)).trans rfl, trivial⟩) (by kernel_rfl) (fun _ _ _ _ _ => by kernel_rfl)
  case o5r25n2 => exact ValOp.pure (grown_steady _ 5) [(85, .int .u64 ((0 : Nat) : Int))] rfl (fun _ h1 _ => ⟨h1 4 85 (by kernel_rfl), trivial⟩) (by kernel_rfl) (fun _ _ _ _ _ => run_bin (a := .int .u64 ((0 : Nat) : Int)) (b := .int .u64 0) rfl rfl rfl (by kernel_rfl) (by simp [go_sem]))
  case o6r25n2 => exact ValOp.call (grown_steady _ 6) [] rfl (fun _ _ _ => trivial) (by kernel_rfl) 12 #[] (fun _ => by kernel_rfl) (fun _ w _ => k12 w)
  case o7r25n2 => exact ValOp.call (grown_steady _ 7) [(81, .int .u64 (R : Int)), (84, .int .i64 y3), (86, .bool false), (87, .agg #[.int .i64 52, .int .i64 2047, .int .i64 1023])] rfl (fun _ h1 _ => ⟨h1 0 81 (by kernel_rfl), h1 3 84 (by kernel_rfl), h1 5 86 (by kernel_rfl), h1 6 87 (by kernel_rfl), trivial⟩) (by kernel_rfl) 15 #[.bool false, .int .u64 (R : Int), .int .i64 y3, .bool false, .agg #[.int .i64 52, .int .i64 2047, .int .i64 1023]] (fun _ => by kernel_rfl) (fun _ w _ => k15 w)
  case o8r25n2 => exact ValOp.pure (grown_steady _ 8) [(88, .int .u64 (V : Int))] rfl (fun _ h1 _ => ⟨h1 7 88 (by kernel_rfl), trivial⟩) (by kernel_rfl) (fun _ _ _ _ _ => by kernel_rfl)
  intro w1 s1 _ bb
  have B1 : Hid (Below w0.heap.size w0 w1) := B.out.trans ((show Below _ _ w1 from bb).mono B.out.size)
  clear bb
  refine wp_of_then ?_
  go_wp2
  go_ret
  exact ⟨rfl, B1.out⟩
set_option maxRecDepth 100000 in
set_option maxHeartbeats 2000000 in
theorem ds_e1 (R S V : Nat) (y y2 y3 : Int) (a : Act) (w0 w : World) (B : Hid (Below w0.heap.size w0 w)) (h2 : y.tdiv 2 = y2) (h2w : IntKind.i64.wrap y2 = y2) (h3 : IntKind.i64.wrap (y2 - 32) = y3) (h : (0 : Int) < (S : Int)) (k15 : ∀ w, Calls Try.prog 15 #[.bool false, .int .u64 (R : Int), .int .i64 y3, .bool true, .agg #[.int .i64 52, .int .i64 2047, .int .i64 1023]] w fun e w' => e = .returned (.int .u64 (V : Int)) ∧ Below w.heap.size w w') (ha : At 89 [(5, .int .i64 y), (6, .int .u64 (R : Int)), (7, .int .u64 (S : Int))] a) : Code.wp Try.prog (sq 9 body32) (bodyPost Try.prog Try.f32 fun e w' => e = .returned (.int .u64 ((V : Int))) ∧ Below w0.heap.size w0 w') a w := by
  have k12 := k16l
  unfold k16L at k12
  obtain ⟨f, rfl, h5, h6, h7, -⟩ := ha.lit
  change Code.wp _ _ _ ⟨#[f 0, f 1, f 2, f 3, f 4, f 5, f 6, f 7, f 8, f 9, f 10, f 11, f 12, f 13, f 14, f 15, f 16, f 17, f 18, f 19, f 20, f 21, f 22, f 23, f 24, f 25, f 26, f 27, f 28, f 29, f 30, f 31, f 32, f 33, f 34, f 35, f 36, f 37, f 38, f 39, f 40, f 41, f 42, f 43, f 44, f 45, f 46, f 47, f 48, f 49, f 50, f 51, f 52, f 53, f 54, f 55, f 56, f 57, f 58, f 59, f 60, f 61, f 62, f 63, f 64, f 65, f 66, f 67, f 68, f 69, f 70, f 71, f 72, f 73, f 74, f 75, f 76, f 77, f 78, f 79, f 80, f 81, f 82, f 83, f 84, f 85, f 86, f 87, f 88], []⟩ _
  simp only at h5 h6 h7
  simp only [h5, h6, h7]
  clear h5 h6 h7
  conv => arg 2; whnf
  refine wp_seq ?_
  refine wp_region_vals (a1 := ?a1r25n3) (grown _) [.int .u64 (R : Int), .int .i64 y, .int .i64 y2, .int .i64 y3, .int .u64 (S : Int), .bool true, .agg #[.int .i64 52, .int .i64 2047, .int .i64 1023], .int .u64 (V : Int), .int .u64 (V : Int)] 89 rfl (by kernel_rfl) (by kernel_rfl) (grown_start _) ⟨?o0r25n3, ?o1r25n3, ?o2r25n3, ?o3r25n3, ?o4r25n3, ?o5r25n3, ?o6r25n3, ?o7r25n3, ?o8r25n3, trivial⟩ ?har25n3 ?hdoner25n3
  case har25n3 => simp [putAll, Act.put]; exact rfl
  case o0r25n3 => exact ValOp.pure (grown_steady _ 0) [(6, .int .u64 (R : Int))] rfl (fun _ _ h2 => ⟨(h2 6 (by kernel_rfl)).trans rfl, trivial⟩) (by kernel_rfl) (fun _ _ _ _ _ => by kernel_rfl)
  case o1r25n3 => exact ValOp.pure (grown_steady _ 1) [(5, .int .i64 y)] rfl (fun _ _ h2 => ⟨(h2 5 (by kernel_rfl)).trans rfl, trivial⟩) (by kernel_rfl) (fun _ _ _ _ _ => by kernel_rfl)
  case o2r25n3 => exact ValOp.pure (grown_steady _ 2) [(82, .int .i64 y)] rfl (fun _ h1 _ => ⟨h1 1 82 (by kernel_rfl), trivial⟩) (by kernel_rfl) (fun _ _ _ _ _ => run_bin (a := .int .i64 y) (b := .int .i64 2) rfl rfl rfl (by kernel_rfl) (by simp [go_sem, h2, h2w]))
  case o3r25n3 => exact ValOp.pure (grown_steady _ 3) [(83, .int .i64 y2)] rfl (fun _ h1 _ => ⟨h1 2 83 (by kernel_rfl), trivial⟩) (by kernel_rfl) (fun _ _ _ _ _ => run_bin (a := .int .i64 y2) (b := .int .i64 32) rfl rfl rfl (by kernel_rfl) (by simp [go_sem, h3]))
  case o4r25n3 => exact ValOp.pure (grown_steady _ 4) [(7, .int .u64 (S : Int))] rfl (fun _ _ h2 => ⟨(h2 7 (by kernel_rfl)).trans rfl, trivial⟩) (by kernel_rfl) (fun _ _ _ _ _ => by kernel_rfl)
  case o5r25n3 => exact ValOp.pure (grown_steady _ 5) [(85, .int .u64 (S : Int))] rfl (fun _ h1 _ => ⟨h1 4 85 (by kernel_rfl), trivial⟩) (by kernel_rfl) (fun _ _ _ _ _ => run_bin (a := .int .u64 (S : Int)) (b := .int .u64 0) rfl rfl rfl (by kernel_rfl) (by simp [go_sem, Int.natCast_pos.1 h]))
  case o6r25n3 => exact ValOp.call (grown_steady _ 6) [] rfl (fun _ _ _ => trivial) (by kernel_rfl) 12 #[] (fun _ => by kernel_rfl) (fun _ w _ => k12 w)
  case o7r25n3 => exact ValOp.call (grown_steady _ 7) [(81, .int .u64 (R : Int)), (84, .int .i64 y3), (86, .bool true), (87, .agg #[.int .i64 52, .int .i64 2047, .int .i64 1023])] rfl (fun _ h1 _ => ⟨h1 0 81 (by kernel_rfl), h1 3 84 (by kernel_rfl), h1 5 86 (by kernel_rfl), h1 6 87 (by kernel_rfl), trivial⟩) (by kernel_rfl) 15 #[.bool false, .int .u64 (R : Int), .int .i64 y3, .bool true, .agg #[.int .i64 52, .int .i64 2047, .int .i64 1023]] (fun _ => by kernel_rfl) (fun _ w _ => k15 w)
  case o8r25n3 => exact ValOp.pure (grown_steady _ 8) [(88, .int .u64 (V : Int))] rfl (fun _ h1 _ => ⟨h1 7 88 (by kernel_rfl), trivial⟩) (by kernel_rfl) (fun _ _ _ _ _ => by kernel_rfl)
  intro w1 s1 _ bb
  have B1 : Hid (Below w0.heap.size w0 w1) := B.out.trans ((show Below _ _ w1 from bb).mono B.out.size)
  clear bb
  refine wp_of_then ?_
  go_wp2
  go_ret
  exact ⟨rfl, B1.out⟩
set_option maxHeartbeats 1000000 in
/-- A positive number's root. -/
theorem dsqrt_num (b : Nat) (kd X : Int) (qu : Bool) (M LD : Nat) (w : World) (t pa m J R S : Nat) (H : Int) (k11 : ∀ w, Calls Try.prog 11 #[.int .u64 (b : Int), .agg #[.int .i64 52, .int .i64 2047, .int .i64 1023]] w fun e w' => e = .returned (.agg #[.int .i64 kd, .bool false, .int .u64 (M : Int), .int .i64 X, .bool qu, .int .u64 (LD : Int)]) ∧ Below w.heap.size w w')
    (hk : kd = 1 ∨ kd = 2) (hX1 : -1074 ≤ X) (hX2 : X ≤ 971) (ht : t ≤ 53) (h1 : 9007199254740992 ≤ M * 2 ^ t) (h2 : M * 2 ^ t < 18014398509481984) (hpa : (X - (t : Int)) % 2 = pa) (hm : m = M * 2 ^ t * 2 ^ pa) (hH : X - t - pa = 2 * H) (hR : Rt (m * 18446744073709551616) R S) (hr1 : 2 ^ (52 + J) ≤ R) (hr2 : R < 2 ^ (53 + J)) (hr3 : R < 18446744073709551616) (hJ : J ≤ 64) (he : -1074 ≤ H - 32 + J) :
    Calls Try.prog 32 #[.int .u64 (b : Int)] w fun e w' => e = .returned (.int .u64 ((carV 52 11 1023 (upV (hfN R J) (decide ((0 : Int) < (S : Int)) || skN R J) (R / 2 ^ J)) (H - 32 + J) : Nat) : Int)) ∧ Below w.heap.size w w' := by
  refine ds_a b kd X false qu M LD w k11 fun a w1 g B1 r1 ha => ?_
  have n0 : (kd == 0) = false := beq_eq_false_iff_ne.2 (by omega)
  have n3 : (kd == 3) = false := beq_eq_false_iff_ne.2 (by omega)
  have n4 : (kd == 4) = false := beq_eq_false_iff_ne.2 (by omega)
  refine ds_b b kd X false qu M LD g a w1 r1 n0 n4 n3 rfl (fun a w2 B2 ha => ?_) ha
  have B12 := B1.trans (B2.mono B1.size)
  refine ds_l M t X a w2 h1 h2 (by omega) (by omega) (fun a ha => ?_) ha
  have k15 := fun w => rrounded_st (decide ((0 : Int) < (S : Int))) false R J (H - 32) w hr1 hr2 hr3 (by omega) he (by omega) (by omega)
  rw [if_neg (by decide), Nat.zero_add] at k15
  have fin : ∀ a, At 89 [(4, .int .u64 (m : Int)), (5, .int .i64 (2 * H)), (6, .int .u64 ((0 : Nat) : Int)), (7, .int .u64 ((0 : Nat) : Int))] a → Code.wp Try.prog (sq 8 body32) (bodyPost Try.prog Try.f32 fun e w' => e = .returned (.int .u64 ((carV 52 11 1023 (upV (hfN R J) (decide ((0 : Int) < (S : Int)) || skN R J) (R / 2 ^ J)) (H - 32 + J) : Nat) : Int)) ∧ Below w.heap.size w w') a w2 := fun a ha => by
    have hpl : 2 ^ pa ≤ 2 := by
      have : pa ≤ 1 := by omega
      exact Nat.pow_le_pow_right (n := 2) (i := pa) (j := 1) (by omega) this
    have hml : m < 36028797018963968 := by
      rw [hm]
      have := Nat.mul_le_mul_left (M * 2 ^ t) hpl
      omega
    refine ds_m m (2 * H) a w2 hml (fun a R' S' h' ha => ?_) ha
    obtain ⟨rfl, rfl⟩ := rt_uni hR h'
    by_cases z : S = 0
    · rw [decide_eq_false (show ¬ (0 : Int) < (S : Int) by omega)] at k15 ⊢
      exact ds_e0 R S _ (2 * H) H (H - 32) a w w2 B12 (by rw [Int.mul_comm]; exact Int.mul_tdiv_cancel _ (by decide)) (i64_in _ (by omega) (by omega)) (i64_in _ (by omega) (by omega)) z k15 ha
    · rw [decide_eq_true (show (0 : Int) < (S : Int) by omega)] at k15 ⊢
      exact ds_e1 R S _ (2 * H) H (H - 32) a w w2 B12 (by rw [Int.mul_comm]; exact Int.mul_tdiv_cancel _ (by decide)) (i64_in _ (by omega) (by omega)) (i64_in _ (by omega) (by omega)) (by omega) k15 ha
  by_cases c : pa = 0
  · subst c
    rw [Nat.pow_zero, Nat.mul_one] at hm
    subst hm
    have hy : X - (t : Int) = 2 * H := by omega
    rw [hy] at ha
    exact ds_p0 _ _ a w2 (by rw [Int.mul_comm]; exact Int.mul_tmod_left _ _) fin ha
  · have c1 : pa = 1 := by omega
    subst c1
    rw [Nat.pow_one] at hm
    refine ds_p1 (M * 2 ^ t) m (X - t) (2 * H) _ a w2 rfl (i64_in _ ?_ ?_) (beq_eq_false_iff_ne.2 ?_) (by rw [u64_wrap]; omega) (by rw [i64_in _ (by omega) (by omega)]; omega) fin ha
    · have := Int.lt_tmod_of_pos (X - (t : Int)) (show (0 : Int) < 2 by decide); omega
    · have := Int.tmod_lt_of_pos (X - (t : Int)) (show (0 : Int) < 2 by decide); omega
    · intro h
      have := Int.emod_eq_zero_of_dvd (Int.dvd_of_tmod_eq_zero h)
      omega
end Go.Proofs.Ytjcjecbffnadaab
