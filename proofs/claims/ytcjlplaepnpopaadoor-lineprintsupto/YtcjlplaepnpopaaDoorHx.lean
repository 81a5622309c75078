/-
  The contracts of the functions that read digits: a byte's worth, the first wrong one, the sum, the number of two digits to the base 16, and the coded byte at the front of a text. Condition: the text is no longer than one that comes in can be.
-/
import Derived.Test.YtcjlplaepnpopaaDoorProg
import Derived.Test.YtcjlplaepnpopaaDoorSp
import Derived.KernelRfl
import Derived.WalkKit
import Derived.RegionTactic
import Derived.Below
import Derived.Tactics
namespace Go.Proofs.YtcjlplaepnpopaaDoor
open Go.RowKit
theorem ret_int {k : IntKind} {a b : Int} (h : a = b) : Ending.returned (.int k a) = .returned (.int k b) := by rw [h]
theorem ranges (b : Nat) : (b < 48 ∨ (58 ≤ b ∧ b ≤ 64) ∨ (91 ≤ b ∧ b ≤ 96) ∨ 123 ≤ b) ∨ (48 ≤ b ∧ b ≤ 57) ∨ (65 ≤ b ∧ b ≤ 90) ∨ (97 ≤ b ∧ b ≤ 122) := by omega
theorem isDigit_any (b : Nat) (w : World) : Calls Tryd.prog 61 #[.int .u8 b] w fun e w' => e = .returned (.bool (decide (48 ≤ b ∧ b ≤ 57))) ∧ w' = w := by
  by_cases h1 : (48 : Int) ≤ (b : Int) <;> by_cases h2 : (b : Int) ≤ 57
  all_goals
    go_enter Tryd.func61, Tryd.ntmps61
    go_wp2
    go_ret
    refine ⟨?_, rfl⟩
    congr 2
    first | (symm; simp; omega) | simp
theorem isUpper_any (b : Nat) (w : World) : Calls Tryd.prog 62 #[.int .u8 b] w fun e w' => e = .returned (.bool (decide (65 ≤ b ∧ b ≤ 90))) ∧ w' = w := by
  by_cases h1 : (65 : Int) ≤ (b : Int) <;> by_cases h2 : (b : Int) ≤ 90
  all_goals
    go_enter Tryd.func62, Tryd.ntmps62
    go_wp2
    go_ret
    refine ⟨?_, rfl⟩
    congr 2
    first | (symm; simp; omega) | simp
theorem isLower_any (b : Nat) (w : World) : Calls Tryd.prog 60 #[.int .u8 b] w fun e w' => e = .returned (.bool (decide (97 ≤ b ∧ b ≤ 122))) ∧ w' = w := by
  by_cases h1 : (97 : Int) ≤ (b : Int) <;> by_cases h2 : (b : Int) ≤ 122
  all_goals
    go_enter Tryd.func60, Tryd.ntmps60
    go_wp2
    go_ret
    refine ⟨?_, rfl⟩
    congr 2
    first | (symm; simp; omega) | simp
set_option maxHeartbeats 1600000 in
theorem worth_any (b : Nat) (w : World) (hb : b < 256) : Calls Tryd.prog 48 #[.int .u8 b] w fun e w' => e = .returned (.int .i64 (hx b)) ∧ w' = w := by
  have k0 := isDigit_any b w
  have k1 := isUpper_any b w
  have k2 := isLower_any b w
  rcases ranges b with h | h | h | h
  · have e0 : decide (48 ≤ b ∧ b ≤ 57) = false := decide_eq_false (by omega)
    have e1 : decide (65 ≤ b ∧ b ≤ 90) = false := decide_eq_false (by omega)
    have e2 : decide (97 ≤ b ∧ b ≤ 122) = false := decide_eq_false (by omega)
    have E : hx b = 36 := by unfold hx; rw [if_neg (by omega), if_neg (by omega), if_neg (by omega)]
    rw [e0] at k0; rw [e1] at k1; rw [e2] at k2; rw [E]
    clear e0 e1 e2 E h
    go_enter Tryd.func48, Tryd.ntmps48
    go_wp2_with (first | (go_at_call 61; refine k0.mono ?_; rintro e w' ⟨rfl, rfl⟩) | (go_at_call 62; refine k1.mono ?_; rintro e w' ⟨rfl, rfl⟩) | (go_at_call 60; refine k2.mono ?_; rintro e w' ⟨rfl, rfl⟩))
    go_ret
    exact ⟨rfl, rfl⟩
  · have e0 : decide (48 ≤ b ∧ b ≤ 57) = true := decide_eq_true (by omega)
    have E : ((hx b : Nat) : Int) = b - 48 := by unfold hx; rw [if_pos (by omega)]; omega
    rw [e0] at k0; rw [E]
    clear e0 E k1 k2
    go_enter Tryd.func48, Tryd.ntmps48
    go_wp2_with (first | (go_at_call 61; refine k0.mono ?_; rintro e w' ⟨rfl, rfl⟩))
    go_ret
    exact ⟨rfl, rfl⟩
  · have e0 : decide (48 ≤ b ∧ b ≤ 57) = false := decide_eq_false (by omega)
    have e1 : decide (65 ≤ b ∧ b ≤ 90) = true := decide_eq_true (by omega)
    have E : ((hx b : Nat) : Int) = b - 65 + 10 := by unfold hx; rw [if_neg (by omega), if_pos (by omega)]; omega
    rw [e0] at k0; rw [e1] at k1; rw [E]
    clear e0 e1 E k2
    go_enter Tryd.func48, Tryd.ntmps48
    go_wp2_with (first | (go_at_call 61; refine k0.mono ?_; rintro e w' ⟨rfl, rfl⟩) | (go_at_call 62; refine k1.mono ?_; rintro e w' ⟨rfl, rfl⟩))
    go_ret
    exact ⟨rfl, rfl⟩
  · have e0 : decide (48 ≤ b ∧ b ≤ 57) = false := decide_eq_false (by omega)
    have e1 : decide (65 ≤ b ∧ b ≤ 90) = false := decide_eq_false (by omega)
    have e2 : decide (97 ≤ b ∧ b ≤ 122) = true := decide_eq_true (by omega)
    have E : ((hx b : Nat) : Int) = b - 97 + 10 := by unfold hx; rw [if_neg (by omega), if_neg (by omega), if_pos (by omega)]; omega
    rw [e0] at k0; rw [e1] at k1; rw [e2] at k2; rw [E]
    clear e0 e1 e2 E
    go_enter Tryd.func48, Tryd.ntmps48
    go_wp2_with (first | (go_at_call 61; refine k0.mono ?_; rintro e w' ⟨rfl, rfl⟩) | (go_at_call 62; refine k1.mono ?_; rintro e w' ⟨rfl, rfl⟩) | (go_at_call 60; refine k2.mono ?_; rintro e w' ⟨rfl, rfl⟩))
    go_ret
    exact ⟨rfl, rfl⟩
end Go.Proofs.YtcjlplaepnpopaaDoor
