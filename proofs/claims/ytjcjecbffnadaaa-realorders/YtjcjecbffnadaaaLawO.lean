/-
  What the statement of orders asks, walked. Condition: the bits fit 64 bits.
-/
import Derived.Test.YtjcjecbffnadaaaKs
import Derived.Test.YtjcjecbffnadaaaOq
namespace Go.Proofs.Ytjcjecbffnadaaa
open Go.RowKit
set_option maxHeartbeats 4000000 in
theorem orders_lt (a b : Nat) (x y : Int) (xa xb ee : Bool) (w : World) (c1 : x < y)
    (k30a : ∀ w, Calls Try.prog 30 #[.int .u64 (a : Int)] w fun e w' => e = .returned (.int .i64 x) ∧ w' = w) (k30b : ∀ w, Calls Try.prog 30 #[.int .u64 (b : Int)] w fun e w' => e = .returned (.int .i64 y) ∧ w' = w)
    (kab : ∀ w, Calls Try.prog 31 #[.float .f64 a, .float .f64 b] w fun e w' => e = .returned (.int .i64 (-1)) ∧ Below w.heap.size w w') (kba : ∀ w, Calls Try.prog 31 #[.float .f64 b, .float .f64 a] w fun e w' => e = .returned (.int .i64 1) ∧ Below w.heap.size w w')
    (ks : ∀ w, Calls Try.prog 32 #[.float .f64 a, .float .f64 b] w fun e w' => e = .returned (.bool (ee || (xa && xb))) ∧ w' = w) (na : (FloatKind.f64.format.order a a != some .eq) = xa) (nb : (FloatKind.f64.format.order b b != some .eq) = xb) (he : ((a : Int) == (b : Int)) = ee) :
    Calls Try.prog 6 #[.int .u64 (a : Int), .int .u64 (b : Int)] w fun e w' => e = .returned (.bool true) ∧ Below w.heap.size w w' := by
  have k9 := awake_any
  have x10 := ext10
  cases ee <;> cases xa <;> cases xb <;> simp only [Bool.true_or, Bool.false_or, Bool.and_true, Bool.and_false, Bool.and_self] at ks
  all_goals
    go_enter Try.func6, Try.ntmps6
    go_wp2_with (go_at_call 9; refine (k9 _).mono ?_)
    rintro e w1 ⟨rfl, b1⟩
    have B1 : Hid (Below w.heap.size w w1) := b1
    clear b1
    go_wp2_with (go_at_call 30; refine (k30a _).mono ?_)
    rintro e w2 ⟨rfl, rfl⟩
    go_wp2_with (go_at_call 30; refine (k30b _).mono ?_)
    rintro e w3 ⟨rfl, rfl⟩
    go_wp2_with (go_at_call 30; refine (k30a _).mono ?_)
    rintro e w4 ⟨rfl, rfl⟩
    go_wp2_with (go_at_call 30; refine (k30b _).mono ?_)
    rintro e w5 ⟨rfl, rfl⟩
    go_wp2_with (go_at_call 31; refine (kab _).mono ?_)
    rintro e w6 ⟨rfl, b6⟩
    have B6 := B1.out.trans (b6.mono B1.out.size)
    have B6 := Hid.mk B6
    clear b6 B1
    go_wp2_with (go_at_call 31; refine (kba _).mono ?_)
    rintro e w7 ⟨rfl, b7⟩
    have B7 := B6.out.trans (b7.mono B6.out.size)
    have B7 := Hid.mk B7
    clear b7 B6
    go_wp2_with (go_at_call 32; refine (ks _).mono ?_)
    rintro e w8 ⟨rfl, rfl⟩
    go_wp2
    go_ret
    exact ⟨rfl, B7.out⟩
set_option maxHeartbeats 4000000 in
theorem orders_gt (a b : Nat) (x y : Int) (xa xb ee : Bool) (w : World) (c1 : y < x)
    (k30a : ∀ w, Calls Try.prog 30 #[.int .u64 (a : Int)] w fun e w' => e = .returned (.int .i64 x) ∧ w' = w) (k30b : ∀ w, Calls Try.prog 30 #[.int .u64 (b : Int)] w fun e w' => e = .returned (.int .i64 y) ∧ w' = w)
    (kab : ∀ w, Calls Try.prog 31 #[.float .f64 a, .float .f64 b] w fun e w' => e = .returned (.int .i64 1) ∧ Below w.heap.size w w') (kba : ∀ w, Calls Try.prog 31 #[.float .f64 b, .float .f64 a] w fun e w' => e = .returned (.int .i64 (-1)) ∧ Below w.heap.size w w')
    (ks : ∀ w, Calls Try.prog 32 #[.float .f64 a, .float .f64 b] w fun e w' => e = .returned (.bool (ee || (xa && xb))) ∧ w' = w) (na : (FloatKind.f64.format.order a a != some .eq) = xa) (nb : (FloatKind.f64.format.order b b != some .eq) = xb) (he : ((a : Int) == (b : Int)) = ee) :
    Calls Try.prog 6 #[.int .u64 (a : Int), .int .u64 (b : Int)] w fun e w' => e = .returned (.bool true) ∧ Below w.heap.size w w' := by
  have k9 := awake_any
  have x10 := ext10
  cases ee <;> cases xa <;> cases xb <;> simp only [Bool.true_or, Bool.false_or, Bool.and_true, Bool.and_false, Bool.and_self] at ks
  all_goals
    go_enter Try.func6, Try.ntmps6
    go_wp2_with (go_at_call 9; refine (k9 _).mono ?_)
    rintro e w1 ⟨rfl, b1⟩
    have B1 : Hid (Below w.heap.size w w1) := b1
    clear b1
    go_wp2_with (go_at_call 30; refine (k30a _).mono ?_)
    rintro e w2 ⟨rfl, rfl⟩
    go_wp2_with (go_at_call 30; refine (k30b _).mono ?_)
    rintro e w3 ⟨rfl, rfl⟩
    go_wp2_with (go_at_call 30; refine (k30a _).mono ?_)
    rintro e w4 ⟨rfl, rfl⟩
    go_wp2_with (go_at_call 30; refine (k30b _).mono ?_)
    rintro e w5 ⟨rfl, rfl⟩
    go_wp2_with (go_at_call 31; refine (kab _).mono ?_)
    rintro e w6 ⟨rfl, b6⟩
    have B6 := B1.out.trans (b6.mono B1.out.size)
    have B6 := Hid.mk B6
    clear b6 B1
    go_wp2_with (go_at_call 31; refine (kba _).mono ?_)
    rintro e w7 ⟨rfl, b7⟩
    have B7 := B6.out.trans (b7.mono B6.out.size)
    have B7 := Hid.mk B7
    clear b7 B6
    go_wp2_with (go_at_call 32; refine (ks _).mono ?_)
    rintro e w8 ⟨rfl, rfl⟩
    go_wp2
    go_ret
    exact ⟨rfl, B7.out⟩
set_option maxHeartbeats 4000000 in
theorem orders_eq (a b : Nat) (x y : Int) (xa xb ee : Bool) (w : World) (c1 : x = y)
    (k30a : ∀ w, Calls Try.prog 30 #[.int .u64 (a : Int)] w fun e w' => e = .returned (.int .i64 x) ∧ w' = w) (k30b : ∀ w, Calls Try.prog 30 #[.int .u64 (b : Int)] w fun e w' => e = .returned (.int .i64 y) ∧ w' = w)
    (kab : ∀ w, Calls Try.prog 31 #[.float .f64 a, .float .f64 b] w fun e w' => e = .returned (.int .i64 0) ∧ Below w.heap.size w w') (kba : ∀ w, Calls Try.prog 31 #[.float .f64 b, .float .f64 a] w fun e w' => e = .returned (.int .i64 0) ∧ Below w.heap.size w w')
    (ks : ∀ w, Calls Try.prog 32 #[.float .f64 a, .float .f64 b] w fun e w' => e = .returned (.bool (ee || (xa && xb))) ∧ w' = w) (na : (FloatKind.f64.format.order a a != some .eq) = xa) (nb : (FloatKind.f64.format.order b b != some .eq) = xb) (he : ((a : Int) == (b : Int)) = ee) :
    Calls Try.prog 6 #[.int .u64 (a : Int), .int .u64 (b : Int)] w fun e w' => e = .returned (.bool true) ∧ Below w.heap.size w w' := by
  subst c1
  have k9 := awake_any
  have x10 := ext10
  cases ee <;> cases xa <;> cases xb <;> simp only [Bool.true_or, Bool.false_or, Bool.and_true, Bool.and_false, Bool.and_self] at ks
  all_goals
    go_enter Try.func6, Try.ntmps6
    go_wp2_with (go_at_call 9; refine (k9 _).mono ?_)
    rintro e w1 ⟨rfl, b1⟩
    have B1 : Hid (Below w.heap.size w w1) := b1
    clear b1
    go_wp2_with (go_at_call 30; refine (k30a _).mono ?_)
    rintro e w2 ⟨rfl, rfl⟩
    go_wp2_with (go_at_call 30; refine (k30b _).mono ?_)
    rintro e w3 ⟨rfl, rfl⟩
    go_wp2_with (go_at_call 30; refine (k30a _).mono ?_)
    rintro e w4 ⟨rfl, rfl⟩
    go_wp2_with (go_at_call 30; refine (k30b _).mono ?_)
    rintro e w5 ⟨rfl, rfl⟩
    go_wp2_with (go_at_call 31; refine (kab _).mono ?_)
    rintro e w6 ⟨rfl, b6⟩
    have B6 := B1.out.trans (b6.mono B1.out.size)
    have B6 := Hid.mk B6
    clear b6 B1
    go_wp2_with (go_at_call 31; refine (kba _).mono ?_)
    rintro e w7 ⟨rfl, b7⟩
    have B7 := B6.out.trans (b7.mono B6.out.size)
    have B7 := Hid.mk B7
    clear b7 B6
    go_wp2_with (go_at_call 32; refine (ks _).mono ?_)
    rintro e w8 ⟨rfl, rfl⟩
    go_wp2
    go_ret
    exact ⟨rfl, B7.out⟩
theorem law_orders (a b : Nat) (w : World) (ha : a < 18446744073709551616) (hb : b < 18446744073709551616) : Calls Try.prog 6 #[.int .u64 (a : Int), .int .u64 (b : Int)] w fun e w' => e = .returned (.bool true) ∧ Below w.heap.size w w' := by
  have k30a := fun w => key_any a w ha
  have k30b := fun w => key_any b w hb
  have kab := fun w => order_any a b w ha hb
  have kba := fun w => order_any b a w hb ha
  have ks := fun w => same_any a b w
  have he : ((a : Int) == (b : Int)) = decide (a = b) := by
    rw [Bool.eq_iff_iff]; simp; omega
  by_cases c1 : key64 a < key64 b
  · have e1 : sgnc (key64 a) (key64 b) = -1 := by unfold sgnc; rw [if_pos c1]
    have e2 : sgnc (key64 b) (key64 a) = 1 := by unfold sgnc; rw [if_neg (by omega), if_pos c1]
    rw [e1] at kab
    rw [e2] at kba
    exact orders_lt a b _ _ _ _ _ w c1 k30a k30b kab kba ks (nan_order a) (nan_order b) he
  · by_cases c2 : key64 b < key64 a
    · have e1 : sgnc (key64 a) (key64 b) = 1 := by unfold sgnc; rw [if_neg c1, if_pos c2]
      have e2 : sgnc (key64 b) (key64 a) = -1 := by unfold sgnc; rw [if_pos c2]
      rw [e1] at kab
      rw [e2] at kba
      exact orders_gt a b _ _ _ _ _ w c2 k30a k30b kab kba ks (nan_order a) (nan_order b) he
    · have e1 : sgnc (key64 a) (key64 b) = 0 := by unfold sgnc; rw [if_neg c1, if_neg c2]
      have e2 : sgnc (key64 b) (key64 a) = 0 := by unfold sgnc; rw [if_neg c2, if_neg c1]
      rw [e1] at kab
      rw [e2] at kba
      exact orders_eq a b _ _ _ _ _ w (by omega) k30a k30b kab kba ks (nan_order a) (nan_order b) he
end Go.Proofs.Ytjcjecbffnadaaa
