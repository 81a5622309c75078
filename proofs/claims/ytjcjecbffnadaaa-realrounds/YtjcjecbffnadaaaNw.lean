/-
  The contracts of Narrow, Widen and Near, and of the statement's own near and is32. Conditions: the numbers fit their types.
-/
import Derived.Test.YtjcjecbffnadaaaTd
import Derived.Test.YtjcjecbffnadaaaEx
import Derived.Test.YtjcjecbffnadaaaOq
import Derived.Test.YtjcjecbffnadaaaSs
import Derived.Test.YtjcjecbffnadaaaPs
namespace Go.Proofs.Ytjcjecbffnadaaa
open Go.RowKit
set_option maxRecDepth 100000 in
set_option maxHeartbeats 2000000 in
theorem narrow_any (b : Nat) (w : World) (hb : b < 18446744073709551616) : Calls Try.prog 36 #[.float .f64 b] w fun e w' => e = .returned (.float .f32 (rndB 23 8 127 (pt 52 11 1023 b))) ∧ Below w.heap.size w w' := by
  have k1 : ∀ w, Calls Try.prog 43 #[] w fun e w' => e = .returned (.agg #[.int .i64 23, .int .u64 255, .int .i64 127]) ∧ Below w.heap.size w w' := single_any
  have k2 := fun w => Parts_any b w hb
  have k3 : ∀ w, Calls Try.prog 52 #[.agg #[.int .i64 23, .int .u64 255, .int .i64 127], (pt 52 11 1023 b).val] w fun e w' => e = .returned (.int .u64 (rndB 23 8 127 (pt 52 11 1023 b) : Nat)) ∧ Below w.heap.size w w' := fun w => rounded_any lay32 _ w (pt_small lay64 b).1 (pt_exp lay64 b).1 (pt_exp lay64 b).2
  have hr : rndB 23 8 127 (pt 52 11 1023 b) < 4294967296 := rndB_lt lay32 _ (pt_small lay64 b).1
  have x11 := ext11
  generalize rndB 23 8 127 (pt 52 11 1023 b) = r at *
  generalize pt 52 11 1023 b = x at *
  obtain ⟨kd, ng, M, X, qu, LD⟩ := x
  unfold Pt.val at k2 k3
  dsimp only at k2 k3
  have hw : IntKind.u32.wrap (r : Int) = r := by
    simp [IntKind.wrap, IntKind.bits, IntKind.signed]; omega
  clear hr
  go_enter Try.func36, Try.ntmps36
  go_wp2_with (go_at_call 43; refine (k1 _).mono ?_)
  intro e1 w1 hq
  first | (obtain ⟨rfl, b1⟩ : _ ∧ _ := hq) | (subst hq; intro b1)
  have B1 : Hid (Below w.heap.size w w1) := b1
  clear b1
  go_wp2_with (go_at_call 12; refine (k2 _).mono ?_)
  intro e2 w2 hq
  first | (obtain ⟨rfl, b2⟩ : _ ∧ _ := hq) | (subst hq; intro b2)
  have B2 : Hid (Below w.heap.size w w2) := B1.out.trans (b2.mono B1.out.size)
  clear b2 B1
  go_wp2_with (go_at_call 52; refine (k3 _).mono ?_)
  intro e3 w3 hq
  first | (obtain ⟨rfl, b3⟩ : _ ∧ _ := hq) | (subst hq; intro b3)
  have B3 : Hid (Below w.heap.size w w3) := B2.out.trans (b3.mono B2.out.size)
  clear b3 B2
  go_wp2
  go_ret
  exact ⟨by simp, B3.out⟩
set_option maxRecDepth 100000 in
set_option maxHeartbeats 2000000 in
theorem widen_any (c : Nat) (w : World) (hc : c < 4294967296) : Calls Try.prog 39 #[.float .f32 c] w fun e w' => e = .returned (.float .f64 (rndB 52 11 1023 (pt 23 8 127 c))) ∧ Below w.heap.size w w' := by
  have k2 := fun w => Parts32_any c w hc
  have k3 := fun w => number_any (pt 23 8 127 c) w (pt_small lay32 c).1 (pt_exp lay32 c).1 (pt_exp lay32 c).2
  generalize rndB 52 11 1023 (pt 23 8 127 c) = r at *
  generalize pt 23 8 127 c = x at *
  obtain ⟨kd, ng, M, X, qu, LD⟩ := x
  unfold Pt.val at k2 k3
  dsimp only at k2 k3
  go_enter Try.func39, Try.ntmps39
  go_wp2_with (go_at_call 13; refine (k2 _).mono ?_)
  intro e1 w1 hq
  first | (obtain ⟨rfl, b1⟩ : _ ∧ _ := hq) | (subst hq; intro b1)
  have B1 : Hid (Below w.heap.size w w1) := b1
  clear b1
  go_wp2_with (go_at_call 53; refine (k3 _).mono ?_)
  intro e2 w2 hq
  first | (obtain ⟨rfl, b2⟩ : _ ∧ _ := hq) | (subst hq; intro b2)
  have B2 : Hid (Below w.heap.size w w2) := B1.out.trans (b2.mono B1.out.size)
  clear b2 B1
  go_wp2
  go_ret
  exact ⟨rfl, B2.out⟩
theorem u64_of (m : Int) (h1 : -9223372036854775808 ≤ m) (h2 : m ≤ 9223372036854775807) : IntKind.u64.wrap m = if m < 0 then m + 18446744073709551616 else m := by
  rw [u64_wrap']; split <;> omega
set_option maxHeartbeats 1000000 in
theorem sizeOf_any (m : Int) (w : World) (h1 : -9223372036854775808 ≤ m) (h2 : m ≤ 9223372036854775807) : Calls Try.prog 63 #[.int .i64 m] w fun e w' => e = .returned (.int .u64 (m.natAbs : Int)) ∧ w' = w := by
  have hw := u64_of m h1 h2
  by_cases c : m < 0
  · rw [if_pos c] at hw
    have hn : IntKind.u64.wrap (-(m + 18446744073709551616)) = (m.natAbs : Int) := by rw [u64_wrap']; omega
    generalize (m.natAbs : Int) = r at *
    clear h1 h2
    go_enter Try.func63, Try.ntmps63
    go_wp2
    go_ret
    exact ⟨rfl, rfl⟩
  · rw [if_neg c] at hw
    have hn : (m.natAbs : Int) = m := by omega
    rw [hn]
    clear h1 h2 hn
    go_enter Try.func63, Try.ntmps63
    go_wp2
    go_ret
    exact ⟨rfl, rfl⟩
set_option maxHeartbeats 1000000 in
theorem reach_any (x : Int) (w : World) : Calls Try.prog 64 #[.int .i64 x] w fun e w' => e = .returned (.int .i64 (min (max x (-4096)) 4096)) ∧ w' = w := by
  go_enter Try.func64, Try.ntmps64
  go_wp2
  go_ret
  exact ⟨rfl, rfl⟩
set_option maxRecDepth 100000 in
set_option maxHeartbeats 2000000 in
theorem near_any (m x : Int) (w : World) (h1 : -9223372036854775808 ≤ m) (h2 : m ≤ 9223372036854775807) : Calls Try.prog 54 #[.int .i64 m, .int .i64 x] w fun e w' => e = .returned (.float .f64 ((if m < 0 then 2 ^ 63 else 0) + nearB 52 11 1023 m.natAbs (min (max x (-4096)) 4096))) ∧ Below w.heap.size w w' := by
  have k1 := fun w => sizeOf_any m w h1 h2
  have k2 := fun w => reach_any x w
  have k3 := fun w => number_any ⟨0, decide (m < 0), m.natAbs, min (max x (-4096)) 4096, false, 0⟩ w (by show m.natAbs < _; omega) (by show -10000 ≤ min (max x (-4096)) 4096; omega) (by show min (max x (-4096)) 4096 ≤ 10000; omega)
  have hr : rndB 52 11 1023 ⟨0, decide (m < 0), m.natAbs, min (max x (-4096)) 4096, false, 0⟩ = (if m < 0 then 2 ^ 63 else 0) + nearB 52 11 1023 m.natAbs (min (max x (-4096)) 4096) := by
    unfold rndB
    simp
  rw [hr] at k3
  generalize ((if m < 0 then 2 ^ 63 else 0) + nearB 52 11 1023 m.natAbs (min (max x (-4096)) 4096) : Nat) = r at *
  unfold Pt.val at k3
  dsimp only at k3
  generalize min (max x (-4096)) 4096 = X at *
  generalize m.natAbs = M at *
  generalize hs : decide (m < 0) = ng at *
  have bl : ∀ w, (Instr.build 30 #[(1, .bool ng), (2, .int .u64 (M : Int)), (3, .int .i64 X)]).run Try.prog w = .ok (.agg #[.int .i64 0, .bool ng, .int .u64 (M : Int), .int .i64 X, .bool false, .int .u64 0]) w := fun _ => by kernel_rfl
  clear h1 h2 hr
  go_enter Try.func54, Try.ntmps54
  go_wp2_with (first | (go_at_call 63; refine (k1 _).mono ?_; rintro e w' ⟨rfl, rfl⟩) | (go_at_call 64; refine (k2 _).mono ?_; rintro e w' ⟨rfl, rfl⟩) | (go_at_call 53; refine (k3 _).mono ?_))
  intro e1 w1 hq
  first | (obtain ⟨rfl, b1⟩ : _ ∧ _ := hq) | (subst hq; intro b1)
  have B1 : Hid (Below _ _ w1) := b1
  clear b1
  go_wp2
  go_ret
  exact ⟨rfl, B1.out⟩
def nan32 (b : Nat) : Bool := isN FloatKind.f32.format b
theorem nan_order32 (b : Nat) : (FloatKind.f32.format.order b b != some .eq) = nan32 b := by
  unfold nan32
  cases h : isN FloatKind.f32.format b
  · rw [order_num _ (by decide) h h, cmp_self]; rfl
  · rw [order_nan_left _ (by decide) h]; rfl
theorem nan32_is (b : Nat) : nan32 b = decide (2139095040 < b % 2147483648) := by
  have e : FloatKind.f32.format.signWeight = 2147483648 := by decide
  have e2 : FloatKind.f32.format.infRung = 2139095040 := by decide
  unfold nan32 isN
  rw [e, e2]
theorem kind32 (b : Nat) : (pt 23 8 127 b).kind = 4 ↔ nan32 b = true := by
  have e1 : (2 : Nat) ^ 23 = 8388608 := by decide
  have e2 : (2 : Nat) ^ 8 = 256 := by decide
  rw [nan32_is, decide_eq_true_iff]
  unfold pt
  rw [e1, e2]
  by_cases c1 : b / 8388608 % 256 = 256 - 1
  · rw [if_pos c1]
    by_cases c2 : b % 8388608 = 0
    · rw [if_pos c2]
      simp
      omega
    · rw [if_neg c2]
      simp
      omega
  · rw [if_neg c1]
    by_cases c3 : b / 8388608 % 256 = 0
    · rw [if_pos c3]
      by_cases c2 : b % 8388608 = 0
      · rw [if_pos c2]; simp; omega
      · rw [if_neg c2]; simp; omega
    · rw [if_neg c3]; simp; omega
def k17L : Prop := ∀ w, Calls Try.prog 17 #[] w fun e w' => e = .returned (.agg #[.int .i64 23, .int .i64 255, .int .i64 127]) ∧ Below w.heap.size w w'
theorem k17l : k17L := size32_any
set_option maxHeartbeats 1000000 in
theorem is32_by (v b : Nat) (kd X : Int) (ng qu nv : Bool) (M LD : Nat) (w : World) (hv9 : v < 4294967296) (hv : (FloatKind.f32.format.order v v != some .eq) = nv)
    (k15 : ∀ w, Calls Try.prog 15 #[.int .u64 (b : Int), .agg #[.int .i64 23, .int .i64 255, .int .i64 127]] w fun e w' => e = .returned (.agg #[.int .i64 kd, .bool ng, .int .u64 (M : Int), .int .i64 X, .bool qu, .int .u64 (LD : Int)]) ∧ Below w.heap.size w w') :
    Calls Try.prog 38 #[.float .f32 v, .int .u64 (b : Int)] w fun e w' => e = .returned (.bool (if kd = 4 then nv else decide (v = b))) ∧ Below w.heap.size w w' := by
  have k17 := k17l
  unfold k17L at k17
  have x21 := ext21
  have hcv : IntKind.u64.wrap (v : Int) = v := u64_small v (by omega)
  clear hv9
  have he : ((v : Int) == (b : Int)) = decide (v = b) := by
    rw [Bool.eq_iff_iff]; simp; omega
  have fl : ∀ w, (Instr.field 34 (.agg #[.int .i64 kd, .bool ng, .int .u64 (M : Int), .int .i64 X, .bool qu, .int .u64 (LD : Int)]) 0).run Try.prog w = .ok (.int .i64 kd) w := fun _ => by kernel_rfl
  by_cases h : kd = 4
  · subst h
    rw [if_pos rfl]
    go_enter Try.func38, Try.ntmps38
    go_wp2_with (go_at_call 17; refine (k17 _).mono ?_)
    rintro e w1 ⟨rfl, b1⟩
    go_wp2_with (go_at_call 15; refine (k15 _).mono ?_)
    rintro e w2 ⟨rfl, b2⟩
    have B2 : Hid (Below w.heap.size w w2) := b1.trans (b2.mono b1.size)
    clear b1 b2
    go_wp2
    go_ret
    exact ⟨rfl, B2.out⟩
  · rw [if_neg h]
    go_enter Try.func38, Try.ntmps38
    go_wp2_with (go_at_call 17; refine (k17 _).mono ?_)
    rintro e w1 ⟨rfl, b1⟩
    go_wp2_with (go_at_call 15; refine (k15 _).mono ?_)
    rintro e w2 ⟨rfl, b2⟩
    have B2 : Hid (Below w.heap.size w w2) := b1.trans (b2.mono b1.size)
    clear b1 b2
    go_wp2
    go_ret
    exact ⟨rfl, B2.out⟩
theorem is32_same (v : Nat) (hv : v < 4294967296) (w : World) : Calls Try.prog 38 #[.float .f32 v, .int .u64 (v : Int)] w fun e w' => e = .returned (.bool true) ∧ Below w.heap.size w w' := by
  have key := is32_by v v _ _ _ _ _ _ _ w hv (nan_order32 v) (fun w => rparts_any lay32 v w (by omega))
  have e : (if (pt 23 8 127 v).kind = 4 then nan32 v else decide (v = v)) = true := by
    by_cases h : (pt 23 8 127 v).kind = 4
    · rw [if_pos h]; exact (kind32 v).1 h
    · rw [if_neg h]; simp
  rw [e] at key
  exact key
theorem near_reach (n : Nat) (x : Int) (h0 : ¬ n = 0) (hn : n < 18446744073709551616) : nearB 52 11 1023 n (min (max x (-4096)) 4096) = nearB 52 11 1023 n (min (max x (-3000)) 3000) := by
  obtain ⟨l1, l2, l3⟩ := len_of h0 hn
  by_cases c1 : 3000 ≤ x
  · unfold nearB
    rw [if_neg h0, if_neg h0, if_pos (by omega), if_pos (by omega)]
  by_cases c2 : x ≤ -3000
  · have far : ∀ y : Int, y ≤ -3000 → nearB 52 11 1023 n y = 0 := fun y hy => by
      unfold nearB
      rw [if_neg h0, if_neg (by omega)]
      have e3 : max (y + (Lib.bitLen n : Nat) - 1 - ((52 : Nat) : Int)) (1 - 1023 - ((52 : Nat) : Int)) = -1074 := by omega
      rw [e3]
      have e4 : (-1074 - (1 - 1023 - ((52 : Nat) : Int))).toNat = 0 := by decide
      rw [e4]
      obtain ⟨s, hs⟩ : ∃ s : Nat, -1074 - y = s := ⟨_, (Int.toNat_of_nonneg (by omega)).symm⟩
      have h66 : n * 2 < 2 ^ s := by
        have : 2 ^ 66 ≤ 2 ^ s := Nat.pow_le_pow_right (by omega) (by omega)
        omega
      unfold inU
      rw [hs, if_neg (by omega), Int.toNat_natCast]
      unfold rnd
      rw [Nat.mod_eq_of_lt (by omega), Nat.div_eq_of_lt (by omega), if_neg (by omega)]
    rw [far _ (by omega), far _ (by omega)]
  · have : min (max x (-4096)) 4096 = min (max x (-3000)) 3000 := by omega
    rw [this]
set_option maxRecDepth 100000 in
set_option maxHeartbeats 2000000 in
theorem lnear_zero (x : Int) (w : World) : Calls Try.prog 40 #[.int .i64 0, .int .i64 x] w fun e w' => e = .returned (.bool true) ∧ Below w.heap.size w w' := by
  have k1 : ∀ w, Calls Try.prog 54 #[.int .i64 0, .int .i64 x] w fun e w' => e = .returned (.float .f64 0) ∧ Below w.heap.size w w' := fun w => by
    have h := near_any 0 x w (by omega) (by omega)
    simpa [nearB] using h
  have x20 := ext20
  go_enter Try.func40, Try.ntmps40
  go_wp2_with (go_at_call 54; refine (k1 _).mono ?_)
  intro e1 w1 hq
  first | (obtain ⟨rfl, b1⟩ : _ ∧ _ := hq) | (subst hq; intro b1)
  have B1 : Hid (Below w.heap.size w w1) := b1
  clear b1
  go_wp2
  go_ret
  exact ⟨rfl, B1.out⟩
set_option maxRecDepth 100000 in
set_option maxHeartbeats 2000000 in
theorem lnear_neg (m x : Int) (w : World) (hm : (m == 0) = false) (A V : Nat) (A0 X : Int) (c : m < 0) (hA0 : IntKind.u64.wrap m = A0) (hA : IntKind.u64.wrap (-A0) = (A : Int)) (hX : min (max x (-3000)) 3000 = X)
    (k1 : ∀ w, Calls Try.prog 54 #[.int .i64 m, .int .i64 x] w fun e w' => e = .returned (.float .f64 V) ∧ Below w.heap.size w w')
    (k2 : ∀ w, Calls Try.prog 37 #[.bool true, .int .u64 (A : Int), .int .i64 X, .bool false, .agg #[.int .i64 52, .int .i64 2047, .int .i64 1023]] w fun e w' => e = .returned (.int .u64 (V : Int)) ∧ Below w.heap.size w w')
    (k3 : ∀ w, Calls Try.prog 24 #[.float .f64 V, .int .u64 (V : Int)] w fun e w' => e = .returned (.bool true) ∧ Below w.heap.size w w') : Calls Try.prog 40 #[.int .i64 m, .int .i64 x] w fun e w' => e = .returned (.bool true) ∧ Below w.heap.size w w' := by
  have k16 := k16l
  unfold k16L at k16
  go_enter Try.func40, Try.ntmps40
  go_wp2_with (go_at_call 54; refine (k1 _).mono ?_)
  intro e1 w1 hq
  first | (obtain ⟨rfl, b1⟩ : _ ∧ _ := hq) | (subst hq; intro b1)
  have B1 : Hid (Below w.heap.size w w1) := b1
  clear b1
  go_wp2_with (go_at_call 16; refine (k16 _).mono ?_)
  intro e2 w2 hq
  first | (obtain ⟨rfl, b2⟩ : _ ∧ _ := hq) | (subst hq; intro b2)
  have B2 : Hid (Below w.heap.size w w2) := B1.out.trans (b2.mono B1.out.size)
  clear b2 B1
  go_wp2_with (go_at_call 37; refine (k2 _).mono ?_)
  intro e3 w3 hq
  first | (obtain ⟨rfl, b3⟩ : _ ∧ _ := hq) | (subst hq; intro b3)
  have B3 : Hid (Below w.heap.size w w3) := B2.out.trans (b3.mono B2.out.size)
  clear b3 B2
  go_wp2_with (go_at_call 24; refine (k3 _).mono ?_)
  intro e4 w4 hq
  first | (obtain ⟨rfl, b4⟩ : _ ∧ _ := hq) | (subst hq; intro b4)
  have B4 : Hid (Below w.heap.size w w4) := B3.out.trans (b4.mono B3.out.size)
  clear b4 B3
  go_wp2
  go_ret
  exact ⟨rfl, B4.out⟩
set_option maxRecDepth 100000 in
set_option maxHeartbeats 2000000 in
theorem lnear_pos (m x : Int) (w : World) (hm : (m == 0) = false) (V : Nat) (X : Int) (c : decide (m < 0) = false) (hA : IntKind.u64.wrap m = m) (hX : min (max x (-3000)) 3000 = X)
    (k1 : ∀ w, Calls Try.prog 54 #[.int .i64 m, .int .i64 x] w fun e w' => e = .returned (.float .f64 V) ∧ Below w.heap.size w w')
    (k2 : ∀ w, Calls Try.prog 37 #[.bool false, .int .u64 m, .int .i64 X, .bool false, .agg #[.int .i64 52, .int .i64 2047, .int .i64 1023]] w fun e w' => e = .returned (.int .u64 (V : Int)) ∧ Below w.heap.size w w')
    (k3 : ∀ w, Calls Try.prog 24 #[.float .f64 V, .int .u64 (V : Int)] w fun e w' => e = .returned (.bool true) ∧ Below w.heap.size w w') : Calls Try.prog 40 #[.int .i64 m, .int .i64 x] w fun e w' => e = .returned (.bool true) ∧ Below w.heap.size w w' := by
  have k16 := k16l
  unfold k16L at k16
  go_enter Try.func40, Try.ntmps40
  go_wp2_with (go_at_call 54; refine (k1 _).mono ?_)
  intro e1 w1 hq
  first | (obtain ⟨rfl, b1⟩ : _ ∧ _ := hq) | (subst hq; intro b1)
  have B1 : Hid (Below w.heap.size w w1) := b1
  clear b1
  go_wp2_with (go_at_call 16; refine (k16 _).mono ?_)
  intro e2 w2 hq
  first | (obtain ⟨rfl, b2⟩ : _ ∧ _ := hq) | (subst hq; intro b2)
  have B2 : Hid (Below w.heap.size w w2) := B1.out.trans (b2.mono B1.out.size)
  clear b2 B1
  go_wp2_with (go_at_call 37; refine (k2 _).mono ?_)
  intro e3 w3 hq
  first | (obtain ⟨rfl, b3⟩ : _ ∧ _ := hq) | (subst hq; intro b3)
  have B3 : Hid (Below w.heap.size w w3) := B2.out.trans (b3.mono B2.out.size)
  clear b3 B2
  go_wp2_with (go_at_call 24; refine (k3 _).mono ?_)
  intro e4 w4 hq
  first | (obtain ⟨rfl, b4⟩ : _ ∧ _ := hq) | (subst hq; intro b4)
  have B4 : Hid (Below w.heap.size w w4) := B3.out.trans (b4.mono B3.out.size)
  clear b4 B3
  go_wp2
  go_ret
  exact ⟨rfl, B4.out⟩
theorem lnear_any (m x : Int) (w : World) (h1 : -9223372036854775808 ≤ m) (h2 : m ≤ 9223372036854775807) : Calls Try.prog 40 #[.int .i64 m, .int .i64 x] w fun e w' => e = .returned (.bool true) ∧ Below w.heap.size w w' := by
  by_cases h0 : m = 0
  · subst h0; exact lnear_zero x w
  have hn : m.natAbs < 18446744073709551616 := by omega
  have k1 := fun w => near_any m x w h1 h2
  have hv := near_reach m.natAbs x (by omega) hn
  rw [hv] at k1
  have k2 := fun w => rrounded_any lay64 (decide (m < 0)) m.natAbs (min (max x (-3000)) 3000) w (by omega) hn (by omega) (by omega)
  have he : (if decide (m < 0) = true then 2 ^ (52 + 11) else 0) + nearB 52 11 1023 m.natAbs (min (max x (-3000)) 3000) = (if m < 0 then 2 ^ 63 else 0) + nearB 52 11 1023 m.natAbs (min (max x (-3000)) 3000) := by simp
  rw [he] at k2
  have hlt : (if m < 0 then 2 ^ 63 else 0) + nearB 52 11 1023 m.natAbs (min (max x (-3000)) 3000) < 18446744073709551616 := by
    have := nearB_le lay64 (min (max x (-3000)) 3000) hn
    have e1 : (2 ^ 11 - 1) * 2 ^ 52 < 9223372036854775808 := by decide
    split <;> omega
  have hm0 : (m == 0) = false := beq_eq_false_iff_ne.2 h0
  have k3 := fun w => is_same _ hlt w
  have hw := u64_of m h1 h2
  by_cases c : m < 0
  · rw [if_pos c] at hw
    have hd : decide (m < 0) = true := by simpa using c
    rw [hd] at k2
    exact lnear_neg m x w hm0 m.natAbs _ _ _ c hw (by rw [u64_wrap']; omega) rfl k1 k2 k3
  · rw [if_neg c] at hw
    have hd : decide (m < 0) = false := by simpa using c
    rw [hd] at k2
    have hab : (m.natAbs : Int) = m := by omega
    rw [hab] at k2
    exact lnear_pos m x w hm0 _ _ hd hw rfl k1 k2 k3
end Go.Proofs.Ytjcjecbffnadaaa
