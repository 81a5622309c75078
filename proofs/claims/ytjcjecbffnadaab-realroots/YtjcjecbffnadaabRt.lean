/-
  The contract of rootOf. Condition: the number fits.
-/
import Derived.Test.YtjcjecbffnadaabSa
import Derived.Deep.LoopGhost
namespace Go.Proofs.Ytjcjecbffnadaab
open Go.RowKit
noncomputable def body61 : Code := Try.f61.body.getD .skip
set_option maxRecDepth 100000 in
set_option maxHeartbeats 2000000 in
theorem rz_a {Q : Ending → World → Prop} (n : Nat) (w : World) (hK : Hid (∀ a, At 34 [(0, .int .u64 (n : Int)), (3, .int .u64 ((0 : Nat) : Int)), (4, .int .u64 ((0 : Nat) : Int))] a → Code.wp Try.prog (sq 2 body61) (bodyPost Try.prog Try.f61 Q) a w)) : Calls Try.prog 61 #[.int .u64 (n : Int)] w Q := by
  go_enter Try.func61, Try.ntmps61
  change Code.wp _ (Code.seq (hd (sq 0 body61)) (Code.seq (hd (sq 1 body61)) (sq 2 body61))) _ _ _
  generalize sq 2 body61 = REST at hK ⊢
  conv => arg 2; arg 1; whnf
  conv => arg 2; arg 2; arg 1; whnf
  go_wp2
  exact hK.out _ ⟨rfl, rfl, rfl, rfl, rfl, trivial⟩
theorem or_low (p a b : Nat) (ha : a % 2 ^ p = 0) (hb : b < 2 ^ p) (h1 : a < 18446744073709551616) (h2 : b < 18446744073709551616) : bits .or .u64 (a : Int) (b : Int) = ((a + b : Nat) : Int) := by
  rw [u64_or_nat _ _ h1 h2, nat_join p _ _ ha hb]
theorem or_one (a : Nat) (h1 : a < 18446744073709551616) : bits .or .u64 (a : Int) 1 = ((a / 2 * 2 + 1 : Nat) : Int) := by
  have := u64_or_nat a 1 h1 (by omega)
  refine this.trans ?_
  congr 1
  rcases two_cases (Nat.mod_lt a (by omega : 2 > 0)) with e | e
  · rw [nat_join 1 a 1 (by rw [Nat.pow_one]; exact e) (by decide)]; omega
  · have h3 : a = (a - 1) ||| 1 := by rw [nat_join 1 (a - 1) 1 (by rw [Nat.pow_one]; omega) (by decide)]; omega
    rw [h3, Nat.or_assoc, Nat.or_self, nat_join 1 (a - 1) 1 (by rw [Nat.pow_one]; omega) (by decide)]; omega
set_option maxRecDepth 100000 in
set_option maxHeartbeats 2000000 in
theorem rz_l {Q : Exit → Act → World → Prop} (n : Nat) (a : Act) (w : World) (hn : n < 18446744073709551616) (hK : Hid (∀ a R S, Rt (n * 70368744177664) R S → At 34 [(3, .int .u64 (R : Int)), (4, .int .u64 (S : Int))] a → Code.wp Try.prog (sq 3 body61) Q a w)) (ha : At 34 [(0, .int .u64 (n : Int)), (3, .int .u64 ((0 : Nat) : Int)), (4, .int .u64 ((0 : Nat) : Int))] a) : Code.wp Try.prog (sq 2 body61) Q a w := by
  obtain ⟨f, rfl, h0, h3, h4, -⟩ := ha.lit
  change Code.wp _ _ _ ⟨#[f 0, f 1, f 2, f 3, f 4, f 5, f 6, f 7, f 8, f 9, f 10, f 11, f 12, f 13, f 14, f 15, f 16, f 17, f 18, f 19, f 20, f 21, f 22, f 23, f 24, f 25, f 26, f 27, f 28, f 29, f 30, f 31, f 32, f 33], []⟩ _
  simp only at h0 h3 h4
  simp only [h0, h3, h4]
  clear h0 h3 h4
  change Code.wp _ (Code.seq (hd (sq 2 body61)) (sq 3 body61)) _ _ _
  generalize sq 3 body61 = REST at hK ⊢
  conv => arg 2; arg 1; whnf
  replace hn := show Hid _ from hn
  go_wp2
  refine wp_loop_ghost_k (fun m a w' => ∃ i R S : Nat, i ≤ 55 ∧ m = 55 - i ∧ Rt (n * 4 ^ i / 18446744073709551616) R S ∧ At 34 [(0, .int .u64 ((n * 4 ^ i % 18446744073709551616 : Nat) : Int)), (3, .int .u64 (R : Int)), (4, .int .u64 (S : Int)), (6, .int .i64 (i : Int))] a ∧ w' = w) 55 ⟨0, 0, 0, Nat.zero_le _, rfl, by rw [Nat.pow_zero, Nat.mul_one, Nat.div_eq_of_lt hn.out]; exact ⟨rfl, Nat.le_refl _⟩, by rw [Nat.pow_zero, Nat.mul_one, Nat.mod_eq_of_lt hn.out]; exact ⟨rfl, rfl, rfl, rfl, rfl, rfl, trivial⟩, rfl⟩ ?_
  rintro m a w' ⟨i, R, S, hi, rfl, hR, ha, rfl⟩ J0 K1 hJ hK1
  by_cases c : i < 55
  · have hb : R < 18014398509481984 := rt_lt hR (Nat.div_lt_of_lt_mul (by
      have h1 : n * 4 ^ i ≤ n * 4 ^ 54 := Nat.mul_le_mul_left _ (Nat.pow_le_pow_right (by omega) (by omega))
      have := hn.out
      omega))
    have hS : S ≤ 2 * R := hR.2
    have hA : n * 4 ^ (i + 1) / 18446744073709551616 = 4 * (n * 4 ^ i / 18446744073709551616) + n * 4 ^ i % 18446744073709551616 / 4611686018427387904 := by
      rw [Nat.pow_succ, ← Nat.mul_assoc]; omega
    have hx : n * 4 ^ (i + 1) % 18446744073709551616 = n * 4 ^ i % 18446744073709551616 * 4 % 18446744073709551616 := by
      rw [Nat.pow_succ, ← Nat.mul_assoc]; omega
    have hxl : n * 4 ^ i % 18446744073709551616 < 18446744073709551616 := Nat.mod_lt _ (by omega)
    generalize n * 4 ^ i % 18446744073709551616 = x at *
    generalize n * 4 ^ i / 18446744073709551616 = A at *
    have hd : x / 4611686018427387904 ≤ 3 := by omega
    obtain ⟨s1, s2⟩ := rt_step hR hd
    have f1 : IntKind.u64.wrap ((S : Int) * 4) = ((4 * S : Nat) : Int) := by rw [u64_wrap]; omega
    have f2 : (x : Int) / 4611686018427387904 = ((x / 4611686018427387904 : Nat) : Int) := by omega
    have f3 := or_low 2 (4 * S) (x / 4611686018427387904) (by omega) (by omega) (by omega) (by omega)
    have f4 : IntKind.u64.wrap ((x : Int) * 4) = ((x * 4 % 18446744073709551616 : Nat) : Int) := by rw [u64_wrap]; omega
    have f5 : IntKind.u64.wrap ((R : Int) * 2) = ((2 * R : Nat) : Int) := by rw [u64_wrap]; omega
    have f6 : IntKind.u64.wrap (((2 * R : Nat) : Int) * 2) = ((4 * R : Nat) : Int) := by rw [u64_wrap]; omega
    have f7 : bits .or .u64 ((4 * R : Nat) : Int) 1 = ((4 * R + 1 : Nat) : Int) := by rw [or_one _ (by omega)]; congr 1; omega
    have f9 : bits .or .u64 ((2 * R : Nat) : Int) 1 = ((2 * R + 1 : Nat) : Int) := by rw [or_one _ (by omega)]; congr 1; omega
    have hi2 : (i : Int) < 55 := by omega
    have hc := show Hid _ from c
    replace hJ := show Hid _ from hJ
    replace hx := show Hid _ from hx
    replace hA := show Hid _ from hA
    by_cases o : 4 * R + 1 ≤ 4 * S + x / 4611686018427387904
    · have hR := show Hid _ from s1 o
      have f8 : IntKind.u64.wrap (((4 * S + x / 4611686018427387904 : Nat) : Int) - ((4 * R + 1 : Nat) : Int)) = ((4 * S + x / 4611686018427387904 - (4 * R + 1) : Nat) : Int) := by rw [u64_wrap]; omega
      have o1 : ((4 * R + 1 : Nat) : Int) ≤ ((4 * S + x / 4611686018427387904 : Nat) : Int) := by omega
      clear s1 s2 o hd hxl hS hb hi c
      generalize x * 4 % 18446744073709551616 = x' at *
      generalize 4 * S + x / 4611686018427387904 - (4 * R + 1) = S6 at *
      generalize 4 * S + x / 4611686018427387904 = S5 at *
      generalize x / 4611686018427387904 = D at *
      generalize 2 * R + 1 = R21 at *
      generalize 4 * R + 1 = R41 at *
      generalize 4 * R = R4 at *
      generalize 2 * R = R2 at *
      generalize 4 * S = S4 at *
      obtain ⟨f, rfl, h0, h3, h4, h6, -⟩ := ha.lit
      change Code.wp _ _ _ ⟨#[f 0, f 1, f 2, f 3, f 4, f 5, f 6, f 7, f 8, f 9, f 10, f 11, f 12, f 13, f 14, f 15, f 16, f 17, f 18, f 19, f 20, f 21, f 22, f 23, f 24, f 25, f 26, f 27, f 28, f 29, f 30, f 31, f 32, f 33], []⟩ _
      simp only at h0 h3 h4 h6
      simp only [h0, h3, h4, h6]
      clear h0 h3 h4 h6
      go_wp2
      exact Handed.intro (55 - (i + 1)) (by have := hc.out; omega) (hJ.out _ _ _ ⟨i + 1, R21, S6, by have := hc.out; omega, rfl, by rw [hA.out]; exact hR.out, by rw [hx.out]; exact ⟨rfl, rfl, rfl, rfl, rfl, rfl, trivial⟩, rfl⟩)
    · have hR := show Hid _ from s2 o
      have o1 : ¬ ((4 * R + 1 : Nat) : Int) ≤ ((4 * S + x / 4611686018427387904 : Nat) : Int) := by omega
      clear s1 s2 o hd hxl hS hb hi c f9
      generalize x * 4 % 18446744073709551616 = x' at *
      generalize 4 * S + x / 4611686018427387904 = S5 at *
      generalize x / 4611686018427387904 = D at *
      generalize 4 * R + 1 = R41 at *
      generalize 4 * R = R4 at *
      generalize 2 * R = R2 at *
      generalize 4 * S = S4 at *
      obtain ⟨f, rfl, h0, h3, h4, h6, -⟩ := ha.lit
      change Code.wp _ _ _ ⟨#[f 0, f 1, f 2, f 3, f 4, f 5, f 6, f 7, f 8, f 9, f 10, f 11, f 12, f 13, f 14, f 15, f 16, f 17, f 18, f 19, f 20, f 21, f 22, f 23, f 24, f 25, f 26, f 27, f 28, f 29, f 30, f 31, f 32, f 33], []⟩ _
      simp only at h0 h3 h4 h6
      simp only [h0, h3, h4, h6]
      clear h0 h3 h4 h6
      go_wp2
      exact Handed.intro (55 - (i + 1)) (by have := hc.out; omega) (hJ.out _ _ _ ⟨i + 1, R2, S5, by have := hc.out; omega, rfl, by rw [hA.out]; exact hR.out, by rw [hx.out]; exact ⟨rfl, rfl, rfl, rfl, rfl, rfl, trivial⟩, rfl⟩)
  · have hil : i = 55 := by omega
    subst hil
    have hR : Hid _ := show Rt (n * 70368744177664) R S by
      rw [show n * 70368744177664 = n * 4 ^ 55 / 18446744073709551616 by omega]; exact hR
    clear c hi hJ hK1 hn
    generalize n * 4 ^ 55 % 18446744073709551616 = x at *
    obtain ⟨f, rfl, h0, h3, h4, h6, -⟩ := ha.lit
    change Code.wp _ _ _ ⟨#[f 0, f 1, f 2, f 3, f 4, f 5, f 6, f 7, f 8, f 9, f 10, f 11, f 12, f 13, f 14, f 15, f 16, f 17, f 18, f 19, f 20, f 21, f 22, f 23, f 24, f 25, f 26, f 27, f 28, f 29, f 30, f 31, f 32, f 33], []⟩ _
    simp only at h0 h3 h4 h6
    simp only [h0, h3, h4, h6]
    clear h0 h3 h4 h6
    go_wp2
    exact hK.out _ R S hR.out ⟨rfl, rfl, rfl, rfl, trivial⟩
set_option maxRecDepth 100000 in
set_option maxHeartbeats 2000000 in
theorem rz_e0 (R S : Nat) (a : Act) (w : World) (h : S = 0) (ha : At 34 [(3, .int .u64 (R : Int)), (4, .int .u64 (S : Int))] a) : Code.wp Try.prog (sq 3 body61) (bodyPost Try.prog Try.f61 fun e w' => e = .returned (.int .u64 (R : Int)) ∧ w' = w) a w := by
  subst h
  obtain ⟨f, rfl, h3, h4, -⟩ := ha.lit
  change Code.wp _ _ _ ⟨#[f 0, f 1, f 2, f 3, f 4, f 5, f 6, f 7, f 8, f 9, f 10, f 11, f 12, f 13, f 14, f 15, f 16, f 17, f 18, f 19, f 20, f 21, f 22, f 23, f 24, f 25, f 26, f 27, f 28, f 29, f 30, f 31, f 32, f 33], []⟩ _
  simp only at h3 h4
  simp only [h3, h4]
  clear h3 h4
  conv => arg 2; whnf
  go_wp2
  go_ret
  exact ⟨rfl, rfl⟩
set_option maxRecDepth 100000 in
set_option maxHeartbeats 2000000 in
theorem rz_e1 (R S V : Nat) (a : Act) (w : World) (h : ((S : Int) == 0) = false) (hV : bits .or .u64 (R : Int) 1 = (V : Int)) (ha : At 34 [(3, .int .u64 (R : Int)), (4, .int .u64 (S : Int))] a) : Code.wp Try.prog (sq 3 body61) (bodyPost Try.prog Try.f61 fun e w' => e = .returned (.int .u64 (V : Int)) ∧ w' = w) a w := by
  obtain ⟨f, rfl, h3, h4, -⟩ := ha.lit
  change Code.wp _ _ _ ⟨#[f 0, f 1, f 2, f 3, f 4, f 5, f 6, f 7, f 8, f 9, f 10, f 11, f 12, f 13, f 14, f 15, f 16, f 17, f 18, f 19, f 20, f 21, f 22, f 23, f 24, f 25, f 26, f 27, f 28, f 29, f 30, f 31, f 32, f 33], []⟩ _
  simp only at h3 h4
  simp only [h3, h4]
  clear h3 h4
  conv => arg 2; whnf
  go_wp2
  go_ret
  exact ⟨rfl, rfl⟩
theorem rootOf_any (n R S : Nat) (w : World) (hn : n < 18446744073709551616) (h : Rt (n * 70368744177664) R S) : Calls Try.prog 61 #[.int .u64 (n : Int)] w fun e w' => e = .returned (.int .u64 (stk R S : Nat)) ∧ w' = w := by
  refine rz_a n w fun a ha => rz_l n a w hn (fun a R' S' h' ha => ?_) ha
  obtain ⟨rfl, rfl⟩ := rt_uni h h'
  have hb : R < 36028797018963968 := rt_lt h (by omega)
  unfold stk
  by_cases c : S = 0
  · rw [if_pos c]; exact rz_e0 R S a w c ha
  · rw [if_neg c]; exact rz_e1 R S _ a w (beq_eq_false_iff_ne.2 (by omega)) (or_one R (by omega)) ha
end Go.Proofs.Ytjcjecbffnadaab
