/-
  The contracts of Narrow, Widen and Near, and of the statement's own near and is32. Conditions: the numbers fit their types.
-/
import Derived.Test.YtjcjecbffnadaabTd
import Derived.Test.YtjcjecbffnadaabEx
import Derived.Test.YtjcjecbffnadaabOq
import Derived.Test.YtjcjecbffnadaabSs
import Derived.Test.YtjcjecbffnadaabPs
namespace Go.Proofs.Ytjcjecbffnadaab
open Go.RowKit
set_option maxRecDepth 100000 in
set_option maxHeartbeats 2000000 in
theorem narrow_any (b : Nat) (w : World) (hb : b < 18446744073709551616) : Calls Try.prog 24 #[.float .f64 b] w fun e w' => e = .returned (.float .f32 (rndB 23 8 127 (pt 52 11 1023 b))) ∧ Below w.heap.size w w' := by
  have k1 : ∀ w, Calls Try.prog 55 #[] w fun e w' => e = .returned (.agg #[.int .i64 23, .int .u64 255, .int .i64 127]) ∧ Below w.heap.size w w' := single_any
  have k2 := fun w => Parts_any b w hb
  have k3 : ∀ w, Calls Try.prog 56 #[.agg #[.int .i64 23, .int .u64 255, .int .i64 127], (pt 52 11 1023 b).val] w fun e w' => e = .returned (.int .u64 (rndB 23 8 127 (pt 52 11 1023 b) : Nat)) ∧ Below w.heap.size w w' := fun w => rounded_any lay32 _ w (pt_small lay64 b).1 (pt_exp lay64 b).1 (pt_exp lay64 b).2
  have hr : rndB 23 8 127 (pt 52 11 1023 b) < 4294967296 := rndB_lt lay32 _ (pt_small lay64 b).1
  have x11 := ext11
  generalize rndB 23 8 127 (pt 52 11 1023 b) = r at *
  generalize pt 52 11 1023 b = x at *
  obtain ⟨kd, ng, M, X, qu, LD⟩ := x
  unfold Pt.val at k2 k3
  dsimp only at k2 k3
  have hw : IntKind.u32.wrap (r : Int) = r := by
    simp [IntKind.wrap, IntKind.bits, IntKind.signed]; omega
  clear hr
  go_enter Try.func24, Try.ntmps24
  go_wp2_with (go_at_call 55; refine (k1 _).mono ?_)
  intro e1 w1 hq
  first | (obtain ⟨rfl, b1⟩ : _ ∧ _ := hq) | (subst hq; intro b1)
  have B1 : Hid (Below w.heap.size w w1) := b1
  clear b1
  go_wp2_with (go_at_call 46; refine (k2 _).mono ?_)
  intro e2 w2 hq
  first | (obtain ⟨rfl, b2⟩ : _ ∧ _ := hq) | (subst hq; intro b2)
  have B2 : Hid (Below w.heap.size w w2) := B1.out.trans (b2.mono B1.out.size)
  clear b2 B1
  go_wp2_with (go_at_call 56; refine (k3 _).mono ?_)
  intro e3 w3 hq
  first | (obtain ⟨rfl, b3⟩ : _ ∧ _ := hq) | (subst hq; intro b3)
  have B3 : Hid (Below w.heap.size w w3) := B2.out.trans (b3.mono B2.out.size)
  clear b3 B2
  go_wp2
  go_ret
  exact ⟨by simp, B3.out⟩
theorem u64_of (m : Int) (h1 : -9223372036854775808 ≤ m) (h2 : m ≤ 9223372036854775807) : IntKind.u64.wrap m = if m < 0 then m + 18446744073709551616 else m := by
  rw [u64_wrap']; split <;> omega
set_option maxHeartbeats 1000000 in
theorem reach_any (x : Int) (w : World) : Calls Try.prog 49 #[.int .i64 x] w fun e w' => e = .returned (.int .i64 (min (max x (-4096)) 4096)) ∧ w' = w := by
  go_enter Try.func49, Try.ntmps49
  go_wp2
  go_ret
  exact ⟨rfl, rfl⟩
def nan32 (b : Nat) : Bool := isN FloatKind.f32.format b
theorem nan_order32 (b : Nat) : (FloatKind.f32.format.order b b != some .eq) = nan32 b := by
  unfold nan32
  cases h : isN FloatKind.f32.format b
  · rw [order_num _ (by decide) h h, cmp_self]; rfl
  · rw [order_nan_left _ (by decide) h]; rfl
theorem nan32_is (b : Nat) : nan32 b = decide (2139095040 < b % 2147483648) := by
  have e : FloatKind.f32.format.signWeight = 2147483648 := by decide
  have e2 : FloatKind.f32.format.infRung = 2139095040 := by decide
  unfold nan32 isN
  rw [e, e2]
theorem kind32 (b : Nat) : (pt 23 8 127 b).kind = 4 ↔ nan32 b = true := by
  have e1 : (2 : Nat) ^ 23 = 8388608 := by decide
  have e2 : (2 : Nat) ^ 8 = 256 := by decide
  rw [nan32_is, decide_eq_true_iff]
  unfold pt
  rw [e1, e2]
  by_cases c1 : b / 8388608 % 256 = 256 - 1
  · rw [if_pos c1]
    by_cases c2 : b % 8388608 = 0
    · rw [if_pos c2]
      simp
      omega
    · rw [if_neg c2]
      simp
      omega
  · rw [if_neg c1]
    by_cases c3 : b / 8388608 % 256 = 0
    · rw [if_pos c3]
      by_cases c2 : b % 8388608 = 0
      · rw [if_pos c2]; simp; omega
      · rw [if_neg c2]; simp; omega
    · rw [if_neg c3]; simp; omega
theorem near_reach (n : Nat) (x : Int) (h0 : ¬ n = 0) (hn : n < 18446744073709551616) : nearB 52 11 1023 n (min (max x (-4096)) 4096) = nearB 52 11 1023 n (min (max x (-3000)) 3000) := by
  obtain ⟨l1, l2, l3⟩ := len_of h0 hn
  by_cases c1 : 3000 ≤ x
  · unfold nearB
    rw [if_neg h0, if_neg h0, if_pos (by omega), if_pos (by omega)]
  by_cases c2 : x ≤ -3000
  · have far : ∀ y : Int, y ≤ -3000 → nearB 52 11 1023 n y = 0 := fun y hy => by
      unfold nearB
      rw [if_neg h0, if_neg (by omega)]
      have e3 : max (y + (Lib.bitLen n : Nat) - 1 - ((52 : Nat) : Int)) (1 - 1023 - ((52 : Nat) : Int)) = -1074 := by omega
      rw [e3]
      have e4 : (-1074 - (1 - 1023 - ((52 : Nat) : Int))).toNat = 0 := by decide
      rw [e4]
      obtain ⟨s, hs⟩ : ∃ s : Nat, -1074 - y = s := ⟨_, (Int.toNat_of_nonneg (by omega)).symm⟩
      have h66 : n * 2 < 2 ^ s := by
        have : 2 ^ 66 ≤ 2 ^ s := Nat.pow_le_pow_right (by omega) (by omega)
        omega
      unfold inU
      rw [hs, if_neg (by omega), Int.toNat_natCast]
      unfold rnd
      rw [Nat.mod_eq_of_lt (by omega), Nat.div_eq_of_lt (by omega), if_neg (by omega)]
    rw [far _ (by omega), far _ (by omega)]
  · have : min (max x (-4096)) 4096 = min (max x (-3000)) 3000 := by omega
    rw [this]
end Go.Proofs.Ytjcjecbffnadaab
