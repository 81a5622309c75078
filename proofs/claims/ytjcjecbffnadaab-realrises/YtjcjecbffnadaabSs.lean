/-
  The contracts of Down, Steps and place, of the document's Up, and of the statements' comparison of a float with bits. Condition: the bits fit 64 bits.
-/
import Derived.Test.YtjcjecbffnadaabKs
import Derived.Test.YtjcjecbffnadaabRp
namespace Go.Proofs.Ytjcjecbffnadaab
open Go.RowKit
/-- The bits with the sign turned. -/
def flipB (v : Nat) : Nat := if v < 9223372036854775808 then v + 9223372036854775808 else v - 9223372036854775808
theorem xor_low {v : Nat} (h : v < 9223372036854775808) : v ^^^ 9223372036854775808 = v + 9223372036854775808 := by
  have h0 : v + 9223372036854775808 = v ||| 2 ^ 63 := (or_high (n := 63) (by omega)).symm
  have e : (9223372036854775808 : Nat) = 2 ^ 63 := by decide
  rw [h0]
  apply Nat.eq_of_testBit_eq
  intro j
  rw [Nat.testBit_xor, Nat.testBit_or, e, Nat.testBit_two_pow]
  by_cases hj : 63 = j
  · subst hj
    have : v.testBit 63 = false := Nat.testBit_lt_two_pow (by omega)
    simp [this]
  · simp [hj]
theorem flip_is (v : Nat) (h : v < 18446744073709551616) : bits .xor .u64 (v : Int) 9223372036854775808 = (flipB v : Nat) := by
  have h1 := u64_xor_nat v 9223372036854775808 h (by decide)
  refine h1.trans (congrArg Int.ofNat ?_)
  unfold flipB
  split
  · rename_i hl; exact xor_low hl
  · obtain ⟨u, hu⟩ : ∃ u, v = u + 9223372036854775808 := ⟨v - 9223372036854775808, by omega⟩
    have hl : u < 9223372036854775808 := by omega
    rw [hu, ← xor_low hl, Nat.xor_assoc, Nat.xor_self, Nat.xor_zero, xor_low hl]
    omega
theorem flip_lt {v : Nat} (h : v < 18446744073709551616) : flipB v < 18446744073709551616 := by unfold flipB; split <;> omega
theorem up_lt {v : Nat} (h : v < 18446744073709551616) : upB v < 18446744073709551616 := by
  unfold upB
  have hn := nan64_is h
  split
  · exact h
  · split
    · exact h
    · split
      · decide
      · split
        · omega
        · omega
set_option maxHeartbeats 1000000 in
theorem turned_any (b : Nat) (w : World) (hb : b < 18446744073709551616) : Calls Try.prog 53 #[.float .f64 b] w fun e w' => e = .returned (.float .f64 (flipB b)) ∧ Below w.heap.size w w' := by
  have x20 := ext20
  have x10 := ext10
  have k41 := k41l
  have k56 := k56l
  unfold k41L at k41
  unfold k56L at k56
  have hf := flip_is b hb
  generalize flipB b = f at *
  go_enter Try.func53, Try.ntmps53
  go_wp2_with (go_at_call 64; refine (k41 _).mono ?_)
  rintro e w1 ⟨rfl, b1⟩
  go_wp2_with (go_at_call 65; refine (k56 _).mono ?_)
  rintro e w2 ⟨rfl, b2⟩
  have B2 : Hid (Below w.heap.size w w2) := b1.trans (b2.mono b1.size)
  clear b1 b2
  go_wp2
  go_ret
  exact ⟨rfl, B2.out⟩
set_option maxHeartbeats 1000000 in
theorem down_any (b : Nat) (w : World) (hb : b < 18446744073709551616) : Calls Try.prog 23 #[.float .f64 b] w fun e w' => e = .returned (.float .f64 (flipB (upB (flipB b)))) ∧ Below w.heap.size w w' := by
  have k1 := fun w => turned_any b w hb
  have k2 := fun w => up_any (flipB b) w (flip_lt hb)
  have k3 := fun w => turned_any (upB (flipB b)) w (up_lt (flip_lt hb))
  generalize flipB (upB (flipB b)) = z at *
  generalize upB (flipB b) = y at *
  generalize flipB b = x at *
  go_enter Try.func23, Try.ntmps23
  go_wp2_with (go_at_call 53; refine (k1 _).mono ?_)
  rintro e w1 ⟨rfl, b1⟩
  go_wp2_with (go_at_call 21; refine (k2 _).mono ?_)
  rintro e w2 ⟨rfl, rfl⟩
  go_wp2_with (go_at_call 53; refine (k3 _).mono ?_)
  rintro e w3 ⟨rfl, b3⟩
  have B3 : Hid (Below w.heap.size w w3) := b1.trans (b3.mono b1.size)
  clear b1 b3
  go_wp2
  go_ret
  exact ⟨rfl, B3.out⟩
theorem andNot_top (b : Nat) (h1 : ¬ b < 9223372036854775808) (hb : b < 18446744073709551616) : bits .andNot .u64 (b : Int) 9223372036854775808 = (b : Int) - 9223372036854775808 := by
  have h := u64_andNot_nat b 9223372036854775808 hb (by decide)
  have h2 := andNot_bit b 63 (by decide) (by omega)
  rw [show (2 : Nat) ^ 63 = 9223372036854775808 from by decide] at h2
  rw [h2] at h
  refine h.trans ?_
  omega
/-- The kind and the sign of the bits of a float of 64 bits. -/
theorem kind64 (b : Nat) (hb : b < 18446744073709551616) : (pt 52 11 1023 b).kind = (if nan64 b then 4 else if b % 9223372036854775808 = 9218868437227405312 then 3 else if b % 9223372036854775808 = 0 then 0 else if b % 9223372036854775808 < 4503599627370496 then 1 else 2) ∧ (pt 52 11 1023 b).neg = decide (9223372036854775808 ≤ b) := by
  have e1 : (2 : Nat) ^ 52 = 4503599627370496 := by decide
  have e2 : (2 : Nat) ^ 11 = 2048 := by decide
  have e3 : (2 : Nat) ^ (52 + 11) = 9223372036854775808 := by decide
  have hn := nan64_is hb
  constructor
  · unfold pt
    rw [e1, e2]
    by_cases c1 : b / 4503599627370496 % 2048 = 2048 - 1
    · rw [if_pos c1]
      by_cases c2 : b % 4503599627370496 = 0
      · have hn' : nan64 b = false := by rw [hn]; exact decide_eq_false (by omega)
        rw [if_pos c2, hn', if_neg (by simp), if_pos (by omega)]
      · have hn' : nan64 b = true := by rw [hn]; exact decide_eq_true (by omega)
        rw [if_neg c2, hn', if_pos rfl]
    · have hn' : nan64 b = false := by rw [hn]; exact decide_eq_false (by omega)
      have c4 : ¬ b % 9223372036854775808 = 9218868437227405312 := by omega
      rw [if_neg c1, hn', if_neg (by simp : ¬ (false = true)), if_neg c4]
      by_cases c3 : b / 4503599627370496 % 2048 = 0
      · rw [if_pos c3]
        by_cases c2 : b % 4503599627370496 = 0
        · rw [if_pos c2, if_pos (by omega)]
        · rw [if_neg c2, if_neg (by omega), if_pos (by omega)]
      · rw [if_neg c3, if_neg (by omega), if_neg (by omega)]
  · rw [neg_pt, sg, e3]
    congr 1
    apply propext
    omega
def k16L : Prop := ∀ w, Calls Try.prog 12 #[] w fun e w' => e = .returned (.agg #[.int .i64 52, .int .i64 2047, .int .i64 1023]) ∧ Below w.heap.size w w'
theorem k16l : k16L := size64_any
theorem k15l (b : Nat) (hb : b < 18446744073709551616) (w : World) : Calls Try.prog 11 #[.int .u64 (b : Int), .agg #[.int .i64 52, .int .i64 2047, .int .i64 1023]] w fun e w' => e = .returned (pt 52 11 1023 b).val ∧ Below w.heap.size w w' := rparts_any lay64 b w hb
theorem ne4 (p q r : Prop) [Decidable p] [Decidable q] [Decidable r] : ¬ (if p then (3 : Int) else if q then 0 else if r then 1 else 2) = 4 := by
  by_cases hp : p <;> by_cases hq : q <;> by_cases hr : r <;> simp [hp, hq, hr]
set_option maxHeartbeats 1000000 in
theorem is_by (v b : Nat) (kd X : Int) (ng qu nv : Bool) (M LD : Nat) (w : World) (hv : (FloatKind.f64.format.order v v != some .eq) = nv)
    (k15 : ∀ w, Calls Try.prog 11 #[.int .u64 (b : Int), .agg #[.int .i64 52, .int .i64 2047, .int .i64 1023]] w fun e w' => e = .returned (.agg #[.int .i64 kd, .bool ng, .int .u64 (M : Int), .int .i64 X, .bool qu, .int .u64 (LD : Int)]) ∧ Below w.heap.size w w') :
    Calls Try.prog 14 #[.float .f64 v, .int .u64 (b : Int)] w fun e w' => e = .returned (.bool (if kd = 4 then nv else decide (v = b))) ∧ Below w.heap.size w w' := by
  have k16 := k16l
  unfold k16L at k16
  have x20 := ext20
  have he : ((v : Int) == (b : Int)) = decide (v = b) := by
    rw [Bool.eq_iff_iff]; simp; omega
  have fl : ∀ w, (Instr.field 27 (.agg #[.int .i64 kd, .bool ng, .int .u64 (M : Int), .int .i64 X, .bool qu, .int .u64 (LD : Int)]) 0).run Try.prog w = .ok (.int .i64 kd) w := fun _ => by kernel_rfl
  by_cases h : kd = 4
  · subst h
    rw [if_pos rfl]
    go_enter Try.func14, Try.ntmps14
    go_wp2_with (go_at_call 12; refine (k16 _).mono ?_)
    rintro e w1 ⟨rfl, b1⟩
    go_wp2_with (go_at_call 11; refine (k15 _).mono ?_)
    rintro e w2 ⟨rfl, b2⟩
    have B2 : Hid (Below w.heap.size w w2) := b1.trans (b2.mono b1.size)
    clear b1 b2
    go_wp2
    go_ret
    exact ⟨rfl, B2.out⟩
  · rw [if_neg h]
    go_enter Try.func14, Try.ntmps14
    go_wp2_with (go_at_call 12; refine (k16 _).mono ?_)
    rintro e w1 ⟨rfl, b1⟩
    go_wp2_with (go_at_call 11; refine (k15 _).mono ?_)
    rintro e w2 ⟨rfl, b2⟩
    have B2 : Hid (Below w.heap.size w w2) := b1.trans (b2.mono b1.size)
    clear b1 b2
    go_wp2
    go_ret
    exact ⟨rfl, B2.out⟩
theorem is_same (v : Nat) (hv : v < 18446744073709551616) (w : World) : Calls Try.prog 14 #[.float .f64 v, .int .u64 (v : Int)] w fun e w' => e = .returned (.bool true) ∧ Below w.heap.size w w' := by
  have key := is_by v v _ _ _ _ _ _ _ w (nan_order v) (k15l v hv)
  have e : (if (pt 52 11 1023 v).kind = 4 then nan64 v else decide (v = v)) = true := by
    obtain ⟨hk, _⟩ := kind64 v hv
    cases hn : nan64 v
    · rw [hn] at hk
      simp only [Bool.false_eq_true, if_false] at hk
      rw [if_neg (by rw [hk]; exact ne4 _ _ _)]
      simp
    · simp
  rw [e] at key
  exact key
theorem plc_in (b : Nat) (hb : b < 18446744073709551616) : -9223372036854775808 < plc64 b ∧ plc64 b < 9223372036854775808 := by
  unfold plc64; split <;> omega
end Go.Proofs.Ytjcjecbffnadaab
