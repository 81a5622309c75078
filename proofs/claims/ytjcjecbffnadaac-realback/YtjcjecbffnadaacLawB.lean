/-
  What the statement of halves and brains asks, walked. Condition: the bits are 16.
-/
import Derived.Test.YtjcjecbffnadaacHf
namespace Go.Proofs.Ytjcjecbffnadaac
open Go.RowKit
theorem kind_nan (b : Nat) (hb : b < 18446744073709551616) : ((pt 52 11 1023 b).kind = 4) ↔ nan64 b = true := by
  have e1 : (2 : Nat) ^ 52 = 4503599627370496 := by decide
  have e2 : (2 : Nat) ^ 11 = 2048 := by decide
  rw [nan64_is hb, decide_eq_true_iff]
  unfold pt
  rw [e1, e2]
  by_cases c1 : b / 4503599627370496 % 2048 = 2048 - 1
  · rw [if_pos c1]
    by_cases c2 : b % 4503599627370496 = 0
    · rw [if_pos c2]
      constructor
      · intro h; exact absurd h (show ¬ (3 : Int) = 4 by decide)
      · intro h; omega
    · rw [if_neg c2]
      exact ⟨fun _ => by omega, fun _ => rfl⟩
  · rw [if_neg c1]
    constructor
    · intro h
      revert h
      split
      · split
        · intro h; exact absurd h (show ¬ (0 : Int) = 4 by decide)
        · intro h; exact absurd h (show ¬ (1 : Int) = 4 by decide)
      · intro h; exact absurd h (show ¬ (2 : Int) = 4 by decide)
    · intro h; omega
theorem none_kind {p k : Nat} {bi : Int} (h : Nat) : (pt p k bi h).kind = 4 ↔ (h / 2 ^ p % 2 ^ k = 2 ^ k - 1 ∧ ¬ h % 2 ^ p = 0) := by
  unfold pt
  by_cases c1 : h / 2 ^ p % 2 ^ k = 2 ^ k - 1
  · rw [if_pos c1]
    by_cases c2 : h % 2 ^ p = 0
    · rw [if_pos c2]
      exact ⟨fun h => absurd h (show ¬ (3 : Int) = 4 by decide), fun h => absurd c2 h.2⟩
    · rw [if_neg c2]
      exact ⟨fun _ => ⟨c1, c2⟩, fun _ => rfl⟩
  · rw [if_neg c1]
    constructor
    · intro h
      revert h
      split
      · split
        · intro h; exact absurd h (show ¬ (0 : Int) = 4 by decide)
        · intro h; exact absurd h (show ¬ (1 : Int) = 4 by decide)
      · intro h; exact absurd h (show ¬ (2 : Int) = 4 by decide)
    · intro h; exact absurd h.1 c1
theorem none_none {p k : Nat} {bi : Int} (h : Nat) (h4 : (pt p k bi h).kind = 4) : nan64 (rndB 52 11 1023 (pt p k bi h)) = true := by
  have : rndB 52 11 1023 (pt p k bi h) = 9221120237041090560 := by
    unfold rndB
    rw [if_pos h4]
  rw [this]
  decide +kernel
set_option maxHeartbeats 4000000 in
theorem back_by (h x y : Nat) (xn yn q1 q2 r1 r2 : Bool) (w : World) (hh : (h : Int) < 65536) (k13 : ∀ w, Calls Try.prog 13 #[.int .u16 (h : Int)] w fun e w' => e = .returned (.float .f64 x) ∧ Below w.heap.size w w') (k14 : ∀ w, Calls Try.prog 14 #[.int .u16 (h : Int)] w fun e w' => e = .returned (.float .f64 y) ∧ Below w.heap.size w w')
    (nx : (FloatKind.f64.format.order x x != some .eq) = xn) (ny : (FloatKind.f64.format.order y y != some .eq) = yn) (hq1 : ((h : Int) / 1024 % 32 == 31) = q1) (hr1 : decide ((0 : Int) < (h : Int) % 1024) = r1) (hq2 : ((h : Int) / 128 % 256 == 255) = q2) (hr2 : decide ((0 : Int) < (h : Int) % 128) = r2) (e1 : xn = (q1 && r1)) (e2 : yn = (q2 && r2))
    (k15 : xn = false → ∀ w, Calls Try.prog 15 #[.float .f64 x] w fun e w' => e = .returned (.int .u16 (h : Int)) ∧ Below w.heap.size w w') (k16 : yn = false → ∀ w, Calls Try.prog 16 #[.float .f64 y] w fun e w' => e = .returned (.int .u16 (h : Int)) ∧ Below w.heap.size w w') :
    Calls Try.prog 4 #[.int .u16 (h : Int)] w fun e w' => e = .returned (.bool true) ∧ Below w.heap.size w w' := by
  have k9 := awake_any
  cases q1 <;> cases r1 <;> cases q2 <;> cases r2 <;> simp only [Bool.and_true, Bool.and_false, Bool.and_self] at e1 e2 <;> subst e1 <;> subst e2 <;> simp only [forall_const, Bool.true_eq_false, false_imp_iff] at k15 k16
  all_goals
    go_enter Try.func4, Try.ntmps4
    go_wp2_with (go_at_call 5; refine (k9 _).mono ?_)
    intro e w1 hq
    first | (obtain ⟨rfl, b1⟩ : _ ∧ _ := hq) | (subst hq; intro b1)
    have B1 : Hid (Below w.heap.size w w1) := b1
    clear b1
    go_wp2_with (go_at_call 13; refine (k13 _).mono ?_)
    intro e w2 hq
    first | (obtain ⟨rfl, b2⟩ : _ ∧ _ := hq) | (subst hq; intro b2)
    have B2 : Hid (Below w.heap.size w w2) := B1.out.trans (b2.mono B1.out.size)
    clear b2 B1
    go_wp2_with (go_at_call 14; refine (k14 _).mono ?_)
    intro e w3 hq
    first | (obtain ⟨rfl, b3⟩ : _ ∧ _ := hq) | (subst hq; intro b3)
    have B3 : Hid (Below w.heap.size w w3) := B2.out.trans (b3.mono B2.out.size)
    clear b3 B2
    go_wp2_with (first | (go_at_call 15; refine (k15 _).mono ?_) | (go_at_call 16; refine (k16 _).mono ?_))
    first
    | (go_ret; exact ⟨rfl, B3.out⟩)
    | (intro e w4 hq
       first | (obtain ⟨rfl, b4⟩ : _ = Ending.returned _ ∧ _ := hq) | (subst hq; intro b4)
       have B4 : Hid (Below w.heap.size w w4) := B3.out.trans (b4.mono B3.out.size)
       clear b4 B3
       go_wp2_with (go_at_call 16; refine (k16 _).mono ?_)
       first
       | (go_ret; exact ⟨rfl, B4.out⟩)
       | (intro e w5 hq
          first | (obtain ⟨rfl, b5⟩ : _ = Ending.returned _ ∧ _ := hq) | (subst hq; intro b5)
          have B5 : Hid (Below w.heap.size w w5) := B4.out.trans (b5.mono B4.out.size)
          clear b5 B4
          go_wp2
          go_ret
          exact ⟨rfl, B5.out⟩))
theorem law_back (h : Nat) (w : World) (hh : h < 65536) : Calls Try.prog 4 #[.int .u16 (h : Int)] w fun e w' => e = .returned (.bool true) ∧ Below w.heap.size w w' := by
  have x64 : rndB 52 11 1023 (pt 10 5 15 h) < 18446744073709551616 := Nat.lt_of_lt_of_le (rndB_lt lay64 _ (pt_small lay16 h).1) (by decide)
  have y64 : rndB 52 11 1023 (pt 7 8 127 h) < 18446744073709551616 := Nat.lt_of_lt_of_le (rndB_lt lay64 _ (pt_small layBr h).1) (by decide)
  have tb1 := there_back lay16 (by decide) (by decide) h hh
  have tb2 := there_back layBr (by decide) (by decide) h hh
  have n1 := none_kind (p := 10) (k := 5) (bi := 15) h
  have n2 := none_kind (p := 7) (k := 8) (bi := 127) h
  have p1 : (2 : Nat) ^ 10 = 1024 := by decide
  have p2 : (2 : Nat) ^ 5 = 32 := by decide
  have p3 : (2 : Nat) ^ 7 = 128 := by decide
  have p4 : (2 : Nat) ^ 8 = 256 := by decide
  rw [p1, p2] at n1
  rw [p3, p4] at n2
  refine back_by h _ _ _ _ _ _ _ _ w (by omega) (fun w => from_half h w hh) (fun w => from_brain h w hh) (nan_order _) (nan_order _) rfl rfl rfl rfl ?_ ?_ (fun hn w => ?_) (fun hn w => ?_)
  · by_cases c : (pt 10 5 15 h).kind = 4
    · have c2 := n1.1 c
      rw [none_none h c, beq_iff_eq.2 (by omega : (h : Int) / 1024 % 32 = 31), decide_eq_true (by omega : (0 : Int) < (h : Int) % 1024)]
      rfl
    · have hk : nan64 (rndB 52 11 1023 (pt 10 5 15 h)) = false := by
        have := (tb1 c).1
        rw [kind_nan _ x64] at this
        simpa using this
      rw [hk]
      by_cases c3 : h / 1024 % 32 = 32 - 1
      · have c4 : h % 1024 = 0 := Classical.byContradiction fun hne => c (n1.2 ⟨c3, hne⟩)
        rw [decide_eq_false (by omega : ¬ (0 : Int) < (h : Int) % 1024), Bool.and_false]
      · rw [beq_eq_false_iff_ne.2 (by omega : ¬ (h : Int) / 1024 % 32 = 31), Bool.false_and]
  · by_cases c : (pt 7 8 127 h).kind = 4
    · have c2 := n2.1 c
      rw [none_none h c, beq_iff_eq.2 (by omega : (h : Int) / 128 % 256 = 255), decide_eq_true (by omega : (0 : Int) < (h : Int) % 128)]
      rfl
    · have hk : nan64 (rndB 52 11 1023 (pt 7 8 127 h)) = false := by
        have := (tb2 c).1
        rw [kind_nan _ y64] at this
        simpa using this
      rw [hk]
      by_cases c3 : h / 128 % 256 = 256 - 1
      · have c4 : h % 128 = 0 := Classical.byContradiction fun hne => c (n2.2 ⟨c3, hne⟩)
        rw [decide_eq_false (by omega : ¬ (0 : Int) < (h : Int) % 128), Bool.and_false]
      · rw [beq_eq_false_iff_ne.2 (by omega : ¬ (h : Int) / 128 % 256 = 255), Bool.false_and]
  · have c : ¬ (pt 10 5 15 h).kind = 4 := fun c => by rw [none_none h c] at hn; cases hn
    have key := to_half _ w x64
    rw [(tb1 c).2] at key
    exact key
  · have c : ¬ (pt 7 8 127 h).kind = 4 := fun c => by rw [none_none h c] at hn; cases hn
    have key := to_brain _ w y64
    rw [(tb2 c).2] at key
    exact key
end Go.Proofs.Ytjcjecbffnadaac
