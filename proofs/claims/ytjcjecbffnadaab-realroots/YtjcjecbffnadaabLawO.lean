/-
  What the statement of the roots asks: it is true. Condition: the float's bits fit.
-/
import Derived.Test.YtjcjecbffnadaabSa
namespace Go.Proofs.Ytjcjecbffnadaab
open Go.RowKit
theorem nearB_top (n : Nat) (e : Int) (hn : n < 18446744073709551616) : nearB 52 11 1023 n e ≤ 9218868437227405312 := nearB_le lay64 e hn
theorem pow_split {a b c : Nat} (h : a + b = c) : 2 ^ a * 2 ^ b = 2 ^ c := by rw [← Nat.pow_add, h]
set_option maxHeartbeats 1000000 in
theorem roots_num (b : Nat) (kd X : Int) (qu : Bool) (M LD : Nat) (k46 : ∀ w, Calls Try.prog 46 #[.float .f64 b] w fun e w' => e = .returned (.agg #[.int .i64 kd, .bool false, .int .u64 (M : Int), .int .i64 X, .bool qu, .int .u64 (LD : Int)]) ∧ Below w.heap.size w w')
    (k11 : ∀ w, Calls Try.prog 11 #[.int .u64 (b : Int), .agg #[.int .i64 52, .int .i64 2047, .int .i64 1023]] w fun e w' => e = .returned (.agg #[.int .i64 kd, .bool false, .int .u64 (M : Int), .int .i64 X, .bool qu, .int .u64 (LD : Int)]) ∧ Below w.heap.size w w')
    (hk : kd = 1 ∨ kd = 2) (hM0 : 0 < M) (hM : M < 9007199254740992) (hX1 : -1074 ≤ X) (hX2 : X ≤ 971) :
    ∃ V, V < 18446744073709551616 ∧ (∀ w, Calls Try.prog 31 #[.float .f64 b] w fun e w' => e = .returned (.float .f64 V) ∧ Below w.heap.size w w') ∧ (∀ w, Calls Try.prog 32 #[.int .u64 (b : Int)] w fun e w' => e = .returned (.int .u64 (V : Int)) ∧ Below w.heap.size w w') := by
  obtain ⟨q, l1, l2⟩ := log_of (m := M) (by omega)
  have hq : q < 53 := (Nat.pow_lt_pow_iff_right (by omega : 1 < 2)).1 (Nat.lt_of_le_of_lt l1 hM)
  have hlen := len_at l1 l2 (by omega)
  obtain ⟨pa, hpa⟩ : ∃ pa : Nat, (X - (64 - ((q + 1 : Nat) : Int))) % 2 = pa := ⟨_, (Int.toNat_of_nonneg (Int.emod_nonneg _ (by decide))).symm⟩
  have hp1 : pa ≤ 1 := by omega
  obtain ⟨sh, hsh⟩ : ∃ sh : Nat, (64 - ((q + 1 : Nat) : Int)) - pa = sh := ⟨_, (Int.toNat_of_nonneg (by omega)).symm⟩
  obtain ⟨t, ht⟩ : ∃ t : Nat, 53 - q = t := ⟨_, rfl⟩
  obtain ⟨H, hH⟩ : ∃ H : Int, X - sh = 2 * H := ⟨(X - sh) / 2, by omega⟩
  have hn1 : 2 ^ (63 - pa) ≤ M * 2 ^ sh := by
    have := Nat.mul_le_mul_right (2 ^ sh) l1
    rwa [pow_split (show q + sh = 63 - pa by omega)] at this
  have hn2 : M * 2 ^ sh < 2 ^ (64 - pa) := by
    have := Nat.mul_lt_mul_of_pos_right l2 (Nat.two_pow_pos sh)
    rwa [pow_split (show q + 1 + sh = 64 - pa by omega)] at this
  have hn3 : 2 ^ 62 ≤ M * 2 ^ sh := Nat.le_trans (Nat.pow_le_pow_right (by omega) (by omega)) hn1
  have hn4 : M * 2 ^ sh < 2 ^ 64 := Nat.lt_of_lt_of_le hn2 (Nat.pow_le_pow_right (by omega) (by omega))
  have ht1 : 2 ^ 53 ≤ M * 2 ^ t := by
    have := Nat.mul_le_mul_right (2 ^ t) l1
    rwa [pow_split (show q + t = 53 by omega)] at this
  have ht2 : M * 2 ^ t < 2 ^ 54 := by
    have := Nat.mul_lt_mul_of_pos_right l2 (Nat.two_pow_pos t)
    rwa [pow_split (show q + 1 + t = 54 by omega)] at this
  obtain ⟨R, S, hR⟩ := rt_ex (M * 2 ^ sh * 70368744177664)
  obtain ⟨R', S', hR'⟩ := rt_ex (M * 2 ^ t * 2 ^ pa * 18446744073709551616)
  have hmul : M * 2 ^ t * 2 ^ pa * 18446744073709551616 = M * 2 ^ sh * 70368744177664 * (2 ^ (4 + pa) * 2 ^ (4 + pa)) := by
    rw [show (18446744073709551616 : Nat) = 2 ^ 64 from rfl, show (70368744177664 : Nat) = 2 ^ 46 from rfl, Nat.mul_assoc, Nat.mul_assoc, Nat.mul_assoc, Nat.mul_assoc, pow_split rfl, pow_split rfl, pow_split rfl, pow_split rfl, pow_split rfl]
    congr 2
    omega
  have hRa : 18014398509481984 ≤ R := rt_ge hR (by omega)
  have hRb : R < 36028797018963968 := rt_lt hR (by omega)
  have hsa : 18014398509481984 ≤ stk R S := by unfold stk; split <;> omega
  have hsb : stk R S < 36028797018963968 := by unfold stk; split <;> omega
  have hR2 := hR'
  rw [hmul] at hR2
  have hfine := (rt_fine (Nat.two_pow_pos _) hR hR2).1
  have hup := root_up hR hR2
  have hdm := Nat.div_add_mod R' (2 ^ (4 + pa))
  have hml := Nat.mod_lt R' (Nat.two_pow_pos (4 + pa))
  rw [hfine] at hdm
  have e1 : 2 ^ (52 + (4 + pa + 2)) = 2 ^ (4 + pa) * 18014398509481984 := (pow_split (a := 4 + pa) (b := 54) (by omega)).symm
  have e2 : 2 ^ (53 + (4 + pa + 2)) = 2 ^ (4 + pa) * 36028797018963968 := (pow_split (a := 4 + pa) (b := 55) (by omega)).symm
  have r1 : 2 ^ (52 + (4 + pa + 2)) ≤ R' := by
    rw [e1]
    have := Nat.mul_le_mul_left (2 ^ (4 + pa)) hRa
    omega
  have r2 : R' < 2 ^ (53 + (4 + pa + 2)) := by
    rw [e2]
    have := Nat.mul_le_mul_left (2 ^ (4 + pa)) (Nat.succ_le_of_lt hRb)
    rw [Nat.succ_eq_add_one, Nat.mul_add, Nat.mul_one] at this
    omega
  have r3 : R' < 2 ^ 64 := Nat.lt_of_lt_of_le r2 (Nat.pow_le_pow_right (by omega) (by omega))
  have hcut := near_cut (stk R S) 2 (H - 23) (show 18014398509481984 ≤ _ from hsa) (show _ < 36028797018963968 from hsb) (by omega) (by omega) (by omega)
  have hlt := nearB_top (stk R S) (H - 23) (by omega)
  refine ⟨nearB 52 11 1023 (stk R S) (H - 23), by omega, fun w => ?_, fun w => ?_⟩
  · exact csqrt_num b kd X qu M LD w (q + 1) pa sh R S H k46 hk (by omega) hM hX1 hX2 hlen.symm (by omega) hpa hsh hH hn4 hR (by omega)
  · have key := dsqrt_num b kd X qu M LD w t pa _ (4 + pa + 2) R' S' (H + 5 - pa) k11 hk hX1 hX2 (by omega) ht1 ht2 (by omega) rfl (by omega) hR' r1 r2 r3 (by omega) (by omega)
    rw [← hup] at key
    rw [hcut, show H - 23 + ((2 : Nat) : Int) = H + 5 - pa - 32 + ((4 + pa + 2 : Nat) : Int) by omega]
    exact key
set_option maxHeartbeats 1000000 in
theorem roots_any (b : Nat) (hb : b < 18446744073709551616) :
    ∃ V, V < 18446744073709551616 ∧ (∀ w, Calls Try.prog 31 #[.float .f64 b] w fun e w' => e = .returned (.float .f64 V) ∧ Below w.heap.size w w') ∧ (∀ w, Calls Try.prog 32 #[.int .u64 (b : Int)] w fun e w' => e = .returned (.int .u64 (V : Int)) ∧ Below w.heap.size w w') := by
  have k46 := fun w => Parts_any b w hb
  have k11 := fun w => rparts_any lay64 b w hb
  obtain ⟨xm, xe1, xe2, xk, xp, xz, xq, xn, xz0, xs0⟩ := pt_range b
  generalize pt 52 11 1023 b = x at *
  obtain ⟨kd, ng, M, X, qu, LD⟩ := x
  unfold Pt.val at k46 k11
  dsimp only at *
  by_cases c0 : kd = 0
  · exact ⟨b, hb, fun w => sq_a b kd X ng qu M LD w k46 fun a w1 g B1 r1 ha => sq_0 b kd X ng qu M LD g a w w1 B1 r1 c0 ha, fun w => ds_a b kd X ng qu M LD w k11 fun a w1 g B1 r1 ha => ds_0 b kd X ng qu M LD g a w w1 B1 r1 c0 ha⟩
  by_cases c4 : kd = 4
  · exact ⟨9221120237041090560, by decide, fun w => sq_a b kd X ng qu M LD w k46 fun a w1 g B1 r1 ha => sq_4 b kd X ng qu M LD g a w w1 B1 r1 c4 ha, fun w => ds_a b kd X ng qu M LD w k11 fun a w1 g B1 r1 ha => ds_4 b kd X ng qu M LD g a w w1 B1 r1 c4 ha⟩
  have n0 : (kd == 0) = false := beq_eq_false_iff_ne.2 c0
  have n4 : (kd == 4) = false := beq_eq_false_iff_ne.2 c4
  by_cases cg : ng = true
  · refine ⟨9221120237041090560, by decide, fun w => sq_a b kd X ng qu M LD w k46 fun a w1 g B1 r1 ha => sq_g b kd X ng qu M LD g a w w1 B1 r1 n0 n4 cg ha, fun w => ds_a b kd X ng qu M LD w k11 fun a w1 g B1 r1 ha => ?_⟩
    by_cases c3 : kd = 3
    · exact ds_h b kd X ng qu M LD g a w w1 B1 r1 c3 cg ha
    · exact ds_g b kd X ng qu M LD g a w w1 B1 r1 n0 (beq_eq_false_iff_ne.2 c3) n4 cg ha
  have cg : ng = false := by simpa using cg
  by_cases c3 : kd = 3
  · exact ⟨b, hb, fun w => sq_a b kd X ng qu M LD w k46 fun a w1 g B1 r1 ha => sq_i b kd X ng qu M LD g a w w1 B1 r1 c3 cg ha, fun w => ds_a b kd X ng qu M LD w k11 fun a w1 g B1 r1 ha => ds_i b kd X ng qu M LD g a w w1 B1 r1 c3 cg ha⟩
  subst cg
  exact roots_num b kd X qu M LD k46 k11 (by omega) (xp (by omega)) xm xe1 xe2
set_option maxRecDepth 100000 in
set_option maxHeartbeats 2000000 in
theorem law_roots_by (b V W E : Nat) (pw : Int) (ok : Bool) (w : World) (k27 : ∀ w, Calls Try.prog 27 #[.float .f64 b] w fun e w' => e = .returned (.tuple #[.float .f64 W, .float .f64 E]) ∧ Below w.heap.size w w') (k28 : ∀ w, Calls Try.prog 28 #[.int .u64 (b : Int)] w fun e w' => e = .returned (.tuple #[.int .u64 (W : Int), .int .u64 (E : Int)]) ∧ Below w.heap.size w w') (k29 : ∀ w, Calls Try.prog 29 #[.float .f64 b] w fun e w' => e = .returned (.tuple #[.int .i64 pw, .bool ok]) ∧ Below w.heap.size w w') (k30 : ∀ w, Calls Try.prog 30 #[.int .u64 (b : Int)] w fun e w' => e = .returned (.tuple #[.int .i64 pw, .bool ok]) ∧ Below w.heap.size w w') (k31 : ∀ w, Calls Try.prog 31 #[.float .f64 b] w fun e w' => e = .returned (.float .f64 V) ∧ Below w.heap.size w w') (k32 : ∀ w, Calls Try.prog 32 #[.int .u64 (b : Int)] w fun e w' => e = .returned (.int .u64 (V : Int)) ∧ Below w.heap.size w w') (k14 : ∀ w, Calls Try.prog 14 #[.float .f64 V, .int .u64 (V : Int)] w fun e w' => e = .returned (.bool true) ∧ Below w.heap.size w w') (k14w : ∀ w, Calls Try.prog 14 #[.float .f64 W, .int .u64 (W : Int)] w fun e w' => e = .returned (.bool true) ∧ Below w.heap.size w w') (k14r : ∀ w, Calls Try.prog 14 #[.float .f64 E, .int .u64 (E : Int)] w fun e w' => e = .returned (.bool true) ∧ Below w.heap.size w w') : Calls Try.prog 6 #[.int .u64 (b : Int)] w fun e w' => e = .returned (.bool true) ∧ Below w.heap.size w w' := by
  have k9 := awake_any
  have x10 := ext10
  go_enter Try.func6, Try.ntmps6
  go_wp2_with (go_at_call 9; refine (k9 _).mono ?_)
  intro e1 w1 hq
  first | (obtain ⟨rfl, b1⟩ : _ ∧ _ := hq) | (subst hq; intro b1)
  go_wp2_with (go_at_call 27; refine (k27 _).mono ?_)
  intro e2 w2 hq
  first | (obtain ⟨rfl, b2⟩ : _ ∧ _ := hq) | (subst hq; intro b2)
  go_wp2_with (go_at_call 28; refine (k28 _).mono ?_)
  intro e3 w3 hq
  first | (obtain ⟨rfl, b3⟩ : _ ∧ _ := hq) | (subst hq; intro b3)
  go_wp2_with (go_at_call 29; refine (k29 _).mono ?_)
  intro e4 w4 hq
  first | (obtain ⟨rfl, b4⟩ : _ ∧ _ := hq) | (subst hq; intro b4)
  go_wp2_with (go_at_call 30; refine (k30 _).mono ?_)
  intro e5 w5 hq
  first | (obtain ⟨rfl, b5⟩ : _ ∧ _ := hq) | (subst hq; intro b5)
  go_wp2_with (go_at_call 31; refine (k31 _).mono ?_)
  intro e6 w6 hq
  first | (obtain ⟨rfl, b6⟩ : _ ∧ _ := hq) | (subst hq; intro b6)
  go_wp2_with (go_at_call 32; refine (k32 _).mono ?_)
  intro e7 w7 hq
  first | (obtain ⟨rfl, b7⟩ : _ ∧ _ := hq) | (subst hq; intro b7)
  go_wp2_with (go_at_call 14; refine (k14 _).mono ?_)
  intro e8 w8 hq
  first | (obtain ⟨rfl, b8⟩ : _ ∧ _ := hq) | (subst hq; intro b8)
  go_wp2_with (go_at_call 14; refine (k14w _).mono ?_)
  intro e9 w9 hq
  first | (obtain ⟨rfl, b9⟩ : _ ∧ _ := hq) | (subst hq; intro b9)
  go_wp2_with (go_at_call 14; refine (k14r _).mono ?_)
  intro e10 w10 hq
  first | (obtain ⟨rfl, b10⟩ : _ ∧ _ := hq) | (subst hq; intro b10)
  have B2 := b1.trans (b2.mono b1.size)
  have B3 := B2.trans (b3.mono B2.size)
  have B4 := B3.trans (b4.mono B3.size)
  have B5 := B4.trans (b5.mono B4.size)
  have B6 := B5.trans (b6.mono B5.size)
  have B7 := B6.trans (b7.mono B6.size)
  have B8 := B7.trans (b8.mono B7.size)
  have B9 := B8.trans (b9.mono B8.size)
  have B10 := B9.trans (b10.mono B9.size)
  have B : Hid (Below w.heap.size w w10) := B10
  clear b1 b2 b3 b4 b5 b6 b7 b8 b9 b10 B2 B3 B4 B5 B6 B7 B8 B9 B10
  go_wp2
  go_ret
  exact ⟨by simp, B.out⟩
theorem modW_lt (b : Nat) (hb : b < 18446744073709551616) : modW (pt 52 11 1023 b) b < 18446744073709551616 := by
  obtain ⟨xm, -⟩ := pt_range b
  unfold modW
  split
  · exact hb
  · have := nearB_top ((pt 52 11 1023 b).mant / 2 ^ (-(pt 52 11 1023 b).exp).toNat) 0 (by have := Nat.div_le_self (pt 52 11 1023 b).mant (2 ^ (-(pt 52 11 1023 b).exp).toNat); omega)
    split <;> omega
theorem modR_lt (b : Nat) (hb : b < 18446744073709551616) : modR (pt 52 11 1023 b) b < 18446744073709551616 := by
  obtain ⟨xm, -⟩ := pt_range b
  unfold modR
  split
  · exact hb
  · have := nearB_top ((pt 52 11 1023 b).mant % 2 ^ (-(pt 52 11 1023 b).exp).toNat) (pt 52 11 1023 b).exp (by have := Nat.mod_le (pt 52 11 1023 b).mant (2 ^ (-(pt 52 11 1023 b).exp).toNat); omega)
    split <;> split <;> omega
theorem law_roots (b : Nat) (w : World) (hb : b < 18446744073709551616) : Calls Try.prog 6 #[.int .u64 (b : Int)] w fun e w' => e = .returned (.bool true) ∧ Below w.heap.size w w' := by
  obtain ⟨V, hV, k31, k32⟩ := roots_any b hb
  have k29 := fun w => power_any b w hb
  have k30 := fun w => rpower_any b w hb
  obtain ⟨pw, ok, hp⟩ : ∃ pw ok, powV (pt 52 11 1023 b) = .tuple #[.int .i64 pw, .bool ok] := by
    unfold powV
    split
    · exact ⟨_, _, rfl⟩
    · exact ⟨_, _, rfl⟩
  rw [hp] at k29 k30
  exact law_roots_by b V _ _ pw ok w (fun w => modf_any b w hb) (fun w => trunc_any b w hb) k29 k30 k31 k32 (fun w => is_same _ hV w) (fun w => is_same _ (modW_lt b hb) w) (fun w => is_same _ (modR_lt b hb) w)
end Go.Proofs.Ytjcjecbffnadaab
