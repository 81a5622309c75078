/-
  What the statement of Remainder and Sign asks: it is true. Condition: the floats' bits fit.
-/
import Derived.Test.YtjcjecbffnadaabRd1
namespace Go.Proofs.Ytjcjecbffnadaab
open Go.RowKit
set_option maxRecDepth 100000 in
set_option maxHeartbeats 2000000 in
theorem law_rests_by (a0 b0 R A B V : Nat) (w : World) (hA : bits .andNot .u64 (a0 : Int) 9223372036854775808 = (A : Int)) (hB : bits .and .u64 (b0 : Int) 9223372036854775808 = (B : Int)) (hV : bits .or .u64 (A : Int) (B : Int) = (V : Int))
    (k33 : ∀ w, Calls Try.prog 33 #[.float .f64 a0, .float .f64 b0] w fun e w' => e = .returned (.float .f64 R) ∧ Below w.heap.size w w') (k34 : ∀ w, Calls Try.prog 34 #[.int .u64 (a0 : Int), .int .u64 (b0 : Int)] w fun e w' => e = .returned (.int .u64 (R : Int)) ∧ Below w.heap.size w w') (k14 : ∀ w, Calls Try.prog 14 #[.float .f64 R, .int .u64 (R : Int)] w fun e w' => e = .returned (.bool true) ∧ Below w.heap.size w w')
    (k35 : ∀ w, Calls Try.prog 35 #[.float .f64 a0, .float .f64 b0] w fun e w' => e = .returned (.float .f64 V) ∧ Below w.heap.size w w') (k14b : ∀ w, Calls Try.prog 14 #[.float .f64 V, .int .u64 (V : Int)] w fun e w' => e = .returned (.bool true) ∧ Below w.heap.size w w') :
    Calls Try.prog 7 #[.int .u64 (a0 : Int), .int .u64 (b0 : Int)] w fun e w' => e = .returned (.bool true) ∧ Below w.heap.size w w' := by
  have k9 := awake_any
  have x10 := ext10
  go_enter Try.func7, Try.ntmps7
  go_wp2_with (go_at_call 9; refine (k9 _).mono ?_)
  intro e1 w1 hq
  first | (obtain ⟨rfl, b1⟩ : _ ∧ _ := hq) | (subst hq; intro b1)
  go_wp2_with (go_at_call 33; refine (k33 _).mono ?_)
  intro e2 w2 hq
  first | (obtain ⟨rfl, b2⟩ : _ ∧ _ := hq) | (subst hq; intro b2)
  go_wp2_with (go_at_call 34; refine (k34 _).mono ?_)
  intro e3 w3 hq
  first | (obtain ⟨rfl, b3⟩ : _ ∧ _ := hq) | (subst hq; intro b3)
  go_wp2_with (go_at_call 14; refine (k14 _).mono ?_)
  intro e4 w4 hq
  first | (obtain ⟨rfl, b4⟩ : _ ∧ _ := hq) | (subst hq; intro b4)
  go_wp2_with (go_at_call 35; refine (k35 _).mono ?_)
  intro e5 w5 hq
  first | (obtain ⟨rfl, b5⟩ : _ ∧ _ := hq) | (subst hq; intro b5)
  go_wp2_with (go_at_call 14; refine (k14b _).mono ?_)
  intro e6 w6 hq
  first | (obtain ⟨rfl, b6⟩ : _ ∧ _ := hq) | (subst hq; intro b6)
  have B3 := (b1.trans (b2.mono b1.size)).trans (b3.mono (Nat.le_trans b1.size b2.size))
  have B5 := (B3.trans (b4.mono B3.size)).trans (b5.mono (Nat.le_trans B3.size b4.size))
  have B1 : Hid (Below w.heap.size w w6) := B5.trans (b6.mono B5.size)
  clear b1 b2 b3 b4 b5 b6 B3 B5
  go_wp2
  go_ret
  exact ⟨by simp, B1.out⟩
theorem nearB_lt (n : Nat) (e : Int) (hn : n < 18446744073709551616) : nearB 52 11 1023 n e ≤ 9218868437227405312 := nearB_le lay64 e hn
theorem remB_lt (a0 b0 : Nat) (ha0 : a0 < 18446744073709551616) : remB (pt 52 11 1023 a0) (pt 52 11 1023 b0) a0 < 18446744073709551616 := by
  obtain ⟨xm, xe1, xe2, xk, xp, xz, xq, xn, xz0, xs0⟩ := pt_range a0
  obtain ⟨ym, ye1, ye2, yk, yp, yz, yq, yn, yz0, ys0⟩ := pt_range b0
  unfold remB
  by_cases c : (pt 52 11 1023 a0).kind = 3 ∨ (pt 52 11 1023 a0).kind = 4 ∨ (pt 52 11 1023 b0).kind = 4 ∨ (pt 52 11 1023 b0).kind = 0
  · rw [if_pos c]; decide
  rw [if_neg c]
  by_cases c3 : (pt 52 11 1023 b0).kind = 3
  · rw [if_pos c3]; exact ha0
  rw [if_neg c3]
  have hDp : 0 < (pt 52 11 1023 b0).mant * 2 ^ (min (max ((pt 52 11 1023 b0).exp - (pt 52 11 1023 a0).exp) 0) 2).toNat := Nat.mul_pos (yp (by omega)) (Nat.two_pow_pos _)
  have hD2 : (pt 52 11 1023 b0).mant * 2 ^ (min (max ((pt 52 11 1023 b0).exp - (pt 52 11 1023 a0).exp) 0) 2).toNat ≤ 36028797018963968 := by
    have : 2 ^ (min (max ((pt 52 11 1023 b0).exp - (pt 52 11 1023 a0).exp) 0) 2).toNat ≤ 2 ^ 2 := Nat.pow_le_pow_right (by omega) (by omega)
    have := Nat.mul_le_mul (Nat.le_of_lt ym) this
    omega
  generalize (pt 52 11 1023 b0).mant * 2 ^ (min (max ((pt 52 11 1023 b0).exp - (pt 52 11 1023 a0).exp) 0) 2).toNat = D at *
  have hr := Nat.mod_lt ((pt 52 11 1023 a0).mant * 2 ^ ((pt 52 11 1023 a0).exp - (pt 52 11 1023 b0).exp).toNat) hDp
  generalize (pt 52 11 1023 a0).mant * 2 ^ ((pt 52 11 1023 a0).exp - (pt 52 11 1023 b0).exp).toNat % D = r at *
  unfold remV
  split
  · have := nearB_lt (D - r) (min (pt 52 11 1023 a0).exp (pt 52 11 1023 b0).exp) (by omega)
    split <;> omega
  · have := nearB_lt r (min (pt 52 11 1023 a0).exp (pt 52 11 1023 b0).exp) (by omega)
    split <;> omega
theorem law_rests (a0 b0 : Nat) (w : World) (ha0 : a0 < 18446744073709551616) (hb0 : b0 < 18446744073709551616) : Calls Try.prog 7 #[.int .u64 (a0 : Int), .int .u64 (b0 : Int)] w fun e w' => e = .returned (.bool true) ∧ Below w.heap.size w w' := by
  have hA : bits .andNot .u64 (a0 : Int) 9223372036854775808 = ((a0 % 9223372036854775808 : Nat) : Int) := by
    have h := u64_andNot_nat a0 9223372036854775808 ha0 (by decide)
    have h2 := andNot_bit a0 63 (by decide) (by omega)
    rw [show (2 : Nat) ^ 63 = 9223372036854775808 from by decide] at h2
    rw [h2] at h
    exact h
  have hB : bits .and .u64 (b0 : Int) 9223372036854775808 = ((if b0 < 9223372036854775808 then 0 else 9223372036854775808 : Nat) : Int) := by
    rw [and_top b0 hb0]; split <;> rfl
  have hm := Nat.mod_lt a0 (show 9223372036854775808 > 0 by decide)
  have hV : bits .or .u64 ((a0 % 9223372036854775808 : Nat) : Int) ((if b0 < 9223372036854775808 then 0 else 9223372036854775808 : Nat) : Int) = ((a0 % 9223372036854775808 + (if b0 < 9223372036854775808 then 0 else 9223372036854775808) : Nat) : Int) := by
    split
    · rw [u64_or_nat _ _ (by omega) (by decide), Nat.or_zero, Nat.add_zero]
    · rw [u64_or_nat _ _ (by omega) (by decide)]
      congr 1
      exact or_high (n := 63) hm
  have hlt : a0 % 9223372036854775808 + (if b0 < 9223372036854775808 then 0 else 9223372036854775808) < 18446744073709551616 := by split <;> omega
  exact law_rests_by a0 b0 _ _ _ _ w hA hB hV (fun w => crem_any a0 b0 w ha0 hb0) (fun w => rrem_any a0 b0 w ha0 hb0) (fun w => is_same _ (remB_lt a0 b0 ha0) w) (fun w => sign_c a0 b0 _ _ _ w hA hB hV) (fun w => is_same _ hlt w)
end Go.Proofs.Ytjcjecbffnadaab
