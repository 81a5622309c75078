/-
  The contract of awake. No conditions.
-/
import Derived.Test.YtookbgmolggohaaBu
namespace Go.Proofs.Ytookbgmolggohaa
open Go.RowKit
def one : List Rw := [(65, 90, 1)]
theorem lk_one (p : Int) : lk one p = if 65 ≤ p ∧ p ≤ 90 then 1 else 0 := by
  show (if inR (65, 90, 1) p = true then (1 : Int) else 0) = _
  by_cases h : 65 ≤ p ∧ p ≤ 90
  · rw [if_pos h, if_pos (inR_iff.2 h)]
  · rw [if_neg h, if_neg (fun hh => h (inR_iff.1 hh))]
theorem blk_one (i : Nat) : blk (lk one) (i + 1) = zerosF := by
  funext j
  unfold blk zerosF
  split
  · rw [lk_one, if_neg (by omega)]
  · rfl
theorem blk_one0 : blk (lk one) 0 ≠ zerosF := by
  intro h
  have := congrFun h 65
  unfold blk zerosF at this
  rw [if_pos (by decide), lk_one, if_pos (by decide)] at this
  cases this
theorem unl_one : ∀ n, unl (lk one) (n + 2) = [blk (lk one) 0, zerosF]
  | 0 => by
    have e1 : unl (lk one) 1 = [blk (lk one) 0] := by rw [unl_succ]; simp [unl]
    rw [unl_succ, blk_one, e1, if_neg (by simp; exact fun h => blk_one0 h.symm)]
    rfl
  | n + 1 => by
    rw [unl_succ, blk_one, unl_one n]
    simp
theorem chk_one : (chk one).2 = 0 := by decide
theorem fit_one : fit3 one := fun s hs => by
  obtain rfl : s = (65, 90, 1) := by simpa [one] using hs
  decide
theorem lk_range {L : List Rw} (h : okF 0 L) : ∀ p, 0 ≤ lk L p ∧ lk L p ≤ 65535 := over_range nought_range h
set_option maxRecDepth 100000 in
set_option maxHeartbeats 1000000 in
theorem awake_any (w : World) : Calls Try.prog 10 #[] w fun e w' => e = .returned (.bool true) ∧ Below w.heap.size w w' := by
  have hW : Below w.heap.size w (w.alloc (.cells #[.int .i32 65, .int .i32 90, .int .i64 1] 62)) := (Below.refl _ _).alloc (Nat.le_refl _) _
  have hR : Rd3 .i32 (w.alloc (.cells #[.int .i32 65, .int .i32 90, .int .i64 1] 62)) (.slice (some ⟨w.heap.size, 0, none⟩) 1 1) one := by
    refine ⟨_, 1, rfl, Nat.le_refl _, fun _ => ⟨w.heap.size, 0, rfl, fun j hj => ?_⟩⟩
    have : j < 1 := hj
    obtain rfl : j = 0 := by omega
    exact box3 w _ _ _ 62
  have K1 : Hid (Calls Try.prog 27 #[.slice (some ⟨w.heap.size, 0, none⟩) 1 1] (w.alloc (.cells #[.int .i32 65, .int .i32 90, .int .i64 1] 62)) fun e w' => ∃ T, e = .returned (.tuple #[.pointer (some ⟨T, 0, none⟩), .int .i64 0, .int .i64 0]) ∧ TabAt w' T (lk one) ∧ Below (w.alloc (.cells #[.int .i32 65, .int .i32 90, .int .i64 1] 62)).heap.size (w.alloc (.cells #[.int .i32 65, .int .i32 90, .int .i64 1] 62)) w') := build_good one _ _ hR fit_one chk_one
  have hrg := lk_range (chk_ok chk_one).2.1
  have K2 : Hid (∀ w1 T, TabAt w1 T (lk one) → Calls Try.prog 13 #[.pointer (some ⟨T, 0, none⟩), .int .i32 65] w1 fun e w' => e = .returned (.int .i64 1) ∧ Below w1.heap.size w1 w') := fun w1 T h => by
    have := look_in 65 w1 T (lk one) h (by decide) (by decide) (hrg 65)
    rwa [lk_one, if_pos (by decide)] at this
  have K3 : Hid (∀ w1 T, TabAt w1 T (lk one) → Calls Try.prog 13 #[.pointer (some ⟨T, 0, none⟩), .int .i32 64] w1 fun e w' => e = .returned (.int .i64 0) ∧ Below w1.heap.size w1 w') := fun w1 T h => by
    have := look_in 64 w1 T (lk one) h (by decide) (by decide) (hrg 64)
    rwa [lk_one, if_neg (by decide)] at this
  have K4 : Hid (∀ w1 T, TabAt w1 T (lk one) → Calls Try.prog 24 #[.pointer (some ⟨T, 0, none⟩)] w1 fun e w' => e = .returned (.int .i64 2) ∧ Below w1.heap.size w1 w') := fun w1 T h => by
    have := blocks_any w1 _ (lk one) (.inr ⟨T, rfl, h⟩)
    rw [unl_one 8702] at this
    exact this
  have HW : Hid (Below w.heap.size w (w.alloc (.cells #[.int .i32 65, .int .i32 90, .int .i64 1] 62))) := hW
  clear hW hR hrg
  go_enter Try.func10, Try.ntmps10
  go_wp2_with (go_at_call 27; refine K1.out.mono ?_)
  first | rintro e w1 T rfl t1 b1 | rintro e w1 ⟨T, rfl, t1, b1⟩
  have B1 : Hid (Below w.heap.size w w1) := HW.out.trans (b1.mono (by simp))
  replace t1 : Hid (TabAt w1 T (lk one)) := t1
  clear b1 K1 HW
  go_wp2_with (go_at_call 13; refine (K2.out _ _ t1.out).mono ?_)
  intro e w2 hq
  first | (obtain ⟨rfl, b2⟩ : _ ∧ _ := hq) | (subst hq; intro b2)
  have B2 : Hid (Below w.heap.size w w2) := B1.out.trans (b2.mono B1.out.size)
  have t2 : Hid (TabAt w2 T (lk one)) := t1.out.below b2
  clear b2 B1 t1 K2
  go_wp2_with (go_at_call 13; refine (K3.out _ _ t2.out).mono ?_)
  intro e w3 hq
  first | (obtain ⟨rfl, b3⟩ : _ ∧ _ := hq) | (subst hq; intro b3)
  have B3 : Hid (Below w.heap.size w w3) := B2.out.trans (b3.mono B2.out.size)
  have t3 : Hid (TabAt w3 T (lk one)) := t2.out.below b3
  clear b3 B2 t2 K3
  go_wp2_with (go_at_call 24; refine (K4.out _ _ t3.out).mono ?_)
  intro e w4 hq
  first | (obtain ⟨rfl, b4⟩ : _ ∧ _ := hq) | (subst hq; intro b4)
  have B4 : Hid (Below w.heap.size w w4) := B3.out.trans (b4.mono B3.out.size)
  clear b4 B3 t3 K4
  go_wp2
  go_ret
  exact ⟨rfl, B4.out⟩
end Go.Proofs.Ytookbgmolggohaa
