/-
  The contracts of the code's remainder: restOf, nearestRest, isFinite, none. Conditions: the divisor is not 0 and not too great.
-/
import Derived.Test.YtjcjecbffnadaabLawT
import Derived.Deep.LoopGhost
import Derived.BigRegion
namespace Go.Proofs.Ytjcjecbffnadaab
open Go.RowKit
theorem rem_step (A D : Nat) (hD : 0 < D) : A * 2 % D = (if D ≤ A % D * 2 then A % D * 2 - D else A % D * 2) ∧ (A * 2 / D % 2 == 1) = decide (D ≤ A % D * 2) := by
  have hr := Nat.mod_lt A hD
  have e := Nat.div_add_mod A D
  generalize A % D = r at *
  generalize A / D = q at *
  have e2 : A * 2 = r * 2 + D * (q * 2) := by rw [← e, Nat.add_mul, ← Nat.mul_assoc]; omega
  rw [e2, Nat.add_mul_mod_self_left, Nat.add_mul_div_left _ _ hD]
  by_cases c : D ≤ r * 2
  · rw [if_pos c, Nat.mod_eq_sub_mod c, Nat.mod_eq_of_lt (by omega)]
    have hd : r * 2 / D = 1 := by
      rw [Nat.div_eq_sub_div hD c, Nat.div_eq_of_lt (by omega)]
    refine ⟨rfl, ?_⟩
    rw [hd, decide_eq_true c, beq_iff_eq]
    omega
  · rw [if_neg c, Nat.mod_eq_of_lt (by omega), Nat.div_eq_of_lt (by omega)]
    refine ⟨rfl, ?_⟩
    rw [decide_eq_false c, beq_eq_false_iff_ne]
    omega
noncomputable def body76 : Code := Try.f76.body.getD .skip
set_option maxRecDepth 100000 in
set_option maxHeartbeats 2000000 in
theorem ro_a {Q : Ending → World → Prop} (M s D : Nat) (w : World) (hD : 0 < D) (hD2 : D < 18446744073709551616) (hM : M < 18446744073709551616)
    (hK : Hid (∀ a w', Below w.heap.size w w' → At 33 [(1, .int .i64 (s : Int)), (2, .int .u64 (D : Int)), (8, .int .u64 ((M % D : Nat) : Int)), (9, .bool (M / D % 2 == 1))] a → Code.wp Try.prog (sq 2 body76) (bodyPost Try.prog Try.f76 Q) a w')) :
    Calls Try.prog 76 #[.int .u64 (M : Int), .int .i64 (s : Int), .int .u64 (D : Int)] w Q := by
  have h0 : ((D : Int) == 0) = false := beq_eq_false_iff_ne.2 (by omega)
  have h0n : ¬ (D : Int) = 0 := by omega
  have hm1 : (M : Int).tmod (D : Int) = ((M % D : Nat) : Int) := by rw [Int.tmod_eq_emod_of_nonneg (Int.natCast_nonneg _), Int.natCast_emod]
  have hd1 : (M : Int).tdiv (D : Int) = ((M / D : Nat) : Int) := by rw [Int.tdiv_eq_ediv_of_nonneg (Int.natCast_nonneg _), Int.natCast_ediv]
  have hq := Nat.div_le_self M D
  have hr := Nat.mod_lt M hD
  have hm2 := u64_small (M % D) (by omega)
  have hd2 := u64_small (M / D) (by omega)
  have hd3 : ((M / D : Nat) : Int).tmod 2 = ((M / D % 2 : Nat) : Int) := by
    rw [Int.tmod_eq_emod_of_nonneg (Int.natCast_nonneg _), Int.natCast_emod]; rfl
  have hd4 : (((M / D % 2 : Nat) : Int) == 1) = (M / D % 2 == 1) := by
    rcases two_cases (Nat.mod_lt (M / D) (by omega : 2 > 0)) with h | h <;> rw [h] <;> rfl
  have hd5 := u64_small (M / D % 2) (by omega)
  generalize (M / D % 2 == 1) = o at *
  generalize M / D % 2 = e2 at *
  generalize M / D = e1 at *
  generalize M % D = e0 at *
  clear hD hD2 hM hq hr
  go_enter Try.func76, Try.ntmps76
  change Code.wp _ (Code.seq (hd (sq 0 body76)) (Code.seq (hd (sq 1 body76)) (sq 2 body76))) _ _ _
  generalize sq 2 body76 = REST at hK ⊢
  conv => arg 2; arg 1; whnf
  conv => arg 2; arg 2; arg 1; whnf
  go_wp2
  go_region
  go_wp2
  exact hK.out _ _ (Below.refl _ _).drew ⟨rfl, rfl, rfl, rfl, rfl, rfl, trivial⟩
set_option maxRecDepth 100000 in
set_option maxHeartbeats 2000000 in
theorem ro_b {Q : Exit → Act → World → Prop} (M s D : Nat) (a : Act) (w : World) (hD : 0 < D) (hD2 : D ≤ 4611686018427387904) (hs : (s : Int) ≤ 20000)
    (hK : Hid (∀ a, At 33 [(8, .int .u64 ((M * 2 ^ s % D : Nat) : Int)), (9, .bool (M * 2 ^ s / D % 2 == 1))] a → Code.wp Try.prog (sq 3 body76) Q a w)) (ha : At 33 [(1, .int .i64 (s : Int)), (2, .int .u64 (D : Int)), (8, .int .u64 ((M % D : Nat) : Int)), (9, .bool (M / D % 2 == 1))] a) : Code.wp Try.prog (sq 2 body76) Q a w := by
  obtain ⟨f, rfl, h1, h2, h8, h9, -⟩ := ha.lit
  change Code.wp _ _ _ ⟨#[f 0, f 1, f 2, f 3, f 4, f 5, f 6, f 7, f 8, f 9, f 10, f 11, f 12, f 13, f 14, f 15, f 16, f 17, f 18, f 19, f 20, f 21, f 22, f 23, f 24, f 25, f 26, f 27, f 28, f 29, f 30, f 31, f 32], []⟩ _
  simp only at h1 h2 h8 h9
  simp only [h1, h2, h8, h9]
  clear h1 h2 h8 h9
  change Code.wp _ (Code.seq (hd (sq 2 body76)) (sq 3 body76)) _ _ _
  generalize sq 3 body76 = REST at hK ⊢
  conv => arg 2; arg 1; whnf
  go_wp2
  refine wp_loop_ghost_k (fun m a w' => ∃ i : Nat, i ≤ s ∧ m = s - i ∧ At 33 [(2, .int .u64 (D : Int)), (8, .int .u64 ((M * 2 ^ i % D : Nat) : Int)), (9, .bool (M * 2 ^ i / D % 2 == 1)), (18, .int .i64 (s : Int)), (19, .int .i64 (i : Int))] a ∧ w' = w) s ⟨0, Nat.zero_le _, rfl, by rw [Nat.pow_zero, Nat.mul_one]; exact ⟨rfl, rfl, rfl, rfl, rfl, rfl, rfl, trivial⟩, rfl⟩ ?_
  rintro m a w' ⟨i, hi, rfl, ha, rfl⟩ J0 K1 hJ hK1
  by_cases c : i < s
  · obtain ⟨st1, st2⟩ := rem_step (M * 2 ^ i) D hD
    have hr := Nat.mod_lt (M * 2 ^ i) hD
    have hnew : M * 2 ^ (i + 1) = M * 2 ^ i * 2 := by rw [Nat.pow_succ, Nat.mul_assoc]
    rw [← hnew] at st1 st2
    have hil : (i : Int) < (s : Int) := by omega
    have hib : (i : Int) ≤ 20000 := by omega
    have hmul : IntKind.u64.wrap (((M * 2 ^ i % D : Nat) : Int) * 2) = ((M * 2 ^ i % D * 2 : Nat) : Int) := by
      have := u64_small (M * 2 ^ i % D * 2) (by omega)
      rw [Int.natCast_mul] at this
      rw [Int.natCast_mul]
      exact this
    generalize M * 2 ^ i % D = r at *
    generalize (M * 2 ^ i / D % 2 == 1) = o at *
    have hc := show Hid _ from c
    have hJ := show Hid _ from hJ
    by_cases cd : D ≤ r * 2
    · rw [if_pos cd] at st1
      rw [decide_eq_true cd] at st2
      have hst2 := show Hid _ from st2
      obtain ⟨r', hr'⟩ : ∃ r' : Nat, r * 2 - D = r' := ⟨_, rfl⟩
      rw [hr'] at st1
      have hst1 := show Hid _ from st1
      have cd' : (D : Int) ≤ ((r * 2 : Nat) : Int) := by omega
      have hsub : IntKind.u64.wrap (((r * 2 : Nat) : Int) - (D : Int)) = (r' : Int) := by
        rw [u64_wrap']; omega
      generalize r * 2 = r2 at *
      clear hi c hs hr hK hnew cd st1 st2 hD hD2 hr'
      obtain ⟨f, rfl, h2, h8, h9, h18, h19, -⟩ := ha.lit
      change Code.wp _ _ _ ⟨#[f 0, f 1, f 2, f 3, f 4, f 5, f 6, f 7, f 8, f 9, f 10, f 11, f 12, f 13, f 14, f 15, f 16, f 17, f 18, f 19, f 20, f 21, f 22, f 23, f 24, f 25, f 26, f 27, f 28, f 29, f 30, f 31, f 32], []⟩ _
      simp only at h2 h8 h9 h18 h19
      simp only [h2, h8, h9, h18, h19]
      clear h2 h8 h9 h18 h19
      go_wp2
      exact Handed.intro (s - (i + 1)) (by have := hc.out; omega) (hJ.out _ _ _ ⟨i + 1, hc.out, rfl, by rw [hst1.out, hst2.out, show ((i + 1 : Nat) : Int) = (i : Int) + 1 by omega]; exact ⟨rfl, rfl, rfl, rfl, rfl, rfl, rfl, trivial⟩, rfl⟩)
    · rw [if_neg cd] at st1
      rw [decide_eq_false cd] at st2
      have hst2 := show Hid _ from st2
      have hst1 := show Hid _ from st1
      have cd' : ¬ (D : Int) ≤ ((r * 2 : Nat) : Int) := by omega
      clear st1 st2
      generalize hr2 : r * 2 = r2 at *
      have hr2 := show Hid _ from hr2
      clear hi c hs hr hK hnew cd hD hD2
      obtain ⟨f, rfl, h2, h8, h9, h18, h19, -⟩ := ha.lit
      change Code.wp _ _ _ ⟨#[f 0, f 1, f 2, f 3, f 4, f 5, f 6, f 7, f 8, f 9, f 10, f 11, f 12, f 13, f 14, f 15, f 16, f 17, f 18, f 19, f 20, f 21, f 22, f 23, f 24, f 25, f 26, f 27, f 28, f 29, f 30, f 31, f 32], []⟩ _
      simp only at h2 h8 h9 h18 h19
      simp only [h2, h8, h9, h18, h19]
      clear h2 h8 h9 h18 h19
      go_wp2
      exact Handed.intro (s - (i + 1)) (by have := hc.out; omega) (hJ.out _ _ _ ⟨i + 1, hc.out, rfl, by rw [hst1.out, hst2.out, show ((i + 1 : Nat) : Int) = (i : Int) + 1 by omega]; exact ⟨rfl, rfl, rfl, rfl, rfl, rfl, rfl, trivial⟩, rfl⟩)
  · have his : i = s := by omega
    subst his
    clear c hi hJ hK1 hs hD hD2
    generalize M * 2 ^ i % D = r at *
    generalize (M * 2 ^ i / D % 2 == 1) = o at *
    obtain ⟨f, rfl, h2, h8, h9, h18, h19, -⟩ := ha.lit
    change Code.wp _ _ _ ⟨#[f 0, f 1, f 2, f 3, f 4, f 5, f 6, f 7, f 8, f 9, f 10, f 11, f 12, f 13, f 14, f 15, f 16, f 17, f 18, f 19, f 20, f 21, f 22, f 23, f 24, f 25, f 26, f 27, f 28, f 29, f 30, f 31, f 32], []⟩ _
    simp only at h2 h8 h9 h18 h19
    simp only [h2, h8, h9, h18, h19]
    clear h2 h8 h9 h18 h19
    go_wp2
    exact hK.out _ ⟨rfl, rfl, rfl, rfl, trivial⟩
set_option maxRecDepth 100000 in
set_option maxHeartbeats 2000000 in
theorem ro_c (r : Nat) (o : Bool) (a : Act) (w0 w : World) (B : Hid (Below w0.heap.size w0 w)) (ha : At 33 [(8, .int .u64 (r : Int)), (9, .bool o)] a) :
    Code.wp Try.prog (sq 3 body76) (bodyPost Try.prog Try.f76 fun e w' => e = .returned (.tuple #[.int .u64 (r : Int), .bool o]) ∧ Below w0.heap.size w0 w') a w := by
  obtain ⟨f, rfl, h8, h9, -⟩ := ha.lit
  change Code.wp _ _ _ ⟨#[f 0, f 1, f 2, f 3, f 4, f 5, f 6, f 7, f 8, f 9, f 10, f 11, f 12, f 13, f 14, f 15, f 16, f 17, f 18, f 19, f 20, f 21, f 22, f 23, f 24, f 25, f 26, f 27, f 28, f 29, f 30, f 31, f 32], []⟩ _
  simp only at h8 h9
  simp only [h8, h9]
  clear h8 h9
  conv => arg 2; whnf
  go_wp2
  go_ret2
  exact ⟨rfl, B.out⟩
theorem restOf_any (M s D : Nat) (w : World) (hD : 0 < D) (hD2 : D ≤ 4611686018427387904) (hM : M < 18446744073709551616) (hs : (s : Int) ≤ 20000) : Calls Try.prog 76 #[.int .u64 (M : Int), .int .i64 (s : Int), .int .u64 (D : Int)] w fun e w' => e = .returned (.tuple #[.int .u64 ((M * 2 ^ s % D : Nat) : Int), .bool (M * 2 ^ s / D % 2 == 1)]) ∧ Below w.heap.size w w' :=
  ro_a M s D w hD (by omega) hM fun a w1 B1 ha => ro_b M s D a w1 hD hD2 hs (fun a ha => ro_c _ _ a w w1 B1 ha) ha
set_option maxRecDepth 100000 in
set_option maxHeartbeats 2000000 in
theorem finite_any (kx Xx : Int) (nx qx : Bool) (Mx Lx : Nat) (w : World) : Calls Try.prog 57 #[.agg #[.int .i64 kx, .bool nx, .int .u64 (Mx : Int), .int .i64 Xx, .bool qx, .int .u64 (Lx : Int)]] w fun e w' => e = .returned (.bool (decide (¬ kx = 3) && decide (¬ kx = 4))) ∧ Below w.heap.size w w' := by
  by_cases h3 : kx = 3
  · subst h3
    go_enter Try.func57, Try.ntmps57
    go_wp2
    go_ret
    exact ⟨rfl, (Below.refl _ _).alloc (Nat.le_refl _) _⟩
  · by_cases h4 : kx = 4
    · subst h4
      go_enter Try.func57, Try.ntmps57
      go_wp2
      go_ret
      exact ⟨rfl, (Below.refl _ _).alloc (Nat.le_refl _) _⟩
    · have e : (decide (¬ kx = 3) && decide (¬ kx = 4)) = true := by simp [h3, h4]
      rw [e]
      go_enter Try.func57, Try.ntmps57
      go_wp2
      go_ret
      exact ⟨by simp [h3, h4], (Below.refl _ _).alloc (Nat.le_refl _) _⟩
set_option maxRecDepth 100000 in
set_option maxHeartbeats 2000000 in
theorem cnone_any (w : World) : Calls Try.prog 59 #[] w fun e w' => e = .returned (.float .f64 9221120237041090560) ∧ Below w.heap.size w w' := by
  have k50 : ∀ w, Calls Try.prog 50 #[.agg #[.int .i64 4, .bool false, .int .u64 0, .int .i64 0, .bool false, .int .u64 0]] w fun e w' => e = .returned (.float .f64 9221120237041090560) ∧ Below w.heap.size w w' := fun w => number_any ⟨4, false, 0, 0, false, 0⟩ w (by decide) (by decide) (by decide)
  have bl : ∀ w, (Instr.build 66 #[(0, .int .i64 4)]).run Try.prog w = .ok (.agg #[.int .i64 4, .bool false, .int .u64 0, .int .i64 0, .bool false, .int .u64 0]) w := fun _ => by kernel_rfl
  go_enter Try.func59, Try.ntmps59
  go_wp2_with (go_at_call 50; refine (k50 _).mono ?_)
  intro e1 w1 hq
  first | (obtain ⟨rfl, b1⟩ : _ ∧ _ := hq) | (subst hq; intro b1)
  have B1 : Hid (Below w.heap.size w w1) := b1
  clear b1
  go_wp2
  go_ret
  exact ⟨rfl, B1.out⟩
end Go.Proofs.Ytjcjecbffnadaab
