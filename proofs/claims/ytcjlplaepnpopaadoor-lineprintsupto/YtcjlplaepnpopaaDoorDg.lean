/-
  The contracts of the two functions that read a digit to any base, and of the test of a base. Condition: the byte is one.
-/
import Derived.Test.YtcjlplaepnpopaaDoorHx
import Derived.LoopN
namespace Go.Proofs.YtcjlplaepnpopaaDoor
open Go.RowKit
theorem isBase_any (B : Int) (w : World) : Calls Tryd.prog 35 #[.int .i64 B] w fun e w' => e = .returned (.bool (decide (2 ≤ B ∧ B ≤ 36))) ∧ w' = w := by
  by_cases h1 : (2 : Int) ≤ B <;> by_cases h2 : B ≤ 36
  all_goals
    go_enter Tryd.func35, Tryd.ntmps35
    go_wp2
    go_ret
    refine ⟨?_, rfl⟩
    congr 2
    first | (symm; simp; omega) | simp
def lowC (k : Nat) : Nat := if k < 10 then 48 + k else 87 + k
def uppC (k : Nat) : Nat := if k < 10 then 48 + k else 55 + k
theorem hx_low (k : Nat) (h : k < 36) : hx (lowC k) = k := by
  unfold lowC hx; repeat' split
  all_goals omega
theorem hx_upp (k : Nat) (h : k < 36) : hx (uppC k) = k := by
  unfold uppC hx; repeat' split
  all_goals omega
theorem hx_is (b k : Nat) (h : k < 36) (e : hx b = k) : b = lowC k ∨ b = uppC k := by
  unfold lowC uppC
  unfold hx at e
  by_cases c : k < 10
  · rw [if_pos c, if_pos c]
    split at e
    · omega
    · split at e
      · omega
      · split at e <;> omega
  · rw [if_neg c, if_neg c]
    split at e
    · omega
    · split at e
      · omega
      · split at e <;> omega
theorem all36 (k : Nat) (h : k < 36) : k = 0 ∨ k = 1 ∨ k = 2 ∨ k = 3 ∨ k = 4 ∨ k = 5 ∨ k = 6 ∨ k = 7 ∨ k = 8 ∨ k = 9 ∨ k = 10 ∨ k = 11 ∨ k = 12 ∨ k = 13 ∨ k = 14 ∨ k = 15 ∨ k = 16 ∨ k = 17 ∨ k = 18 ∨ k = 19 ∨ k = 20 ∨ k = 21 ∨ k = 22 ∨ k = 23 ∨ k = 24 ∨ k = 25 ∨ k = 26 ∨ k = 27 ∨ k = 28 ∨ k = 29 ∨ k = 30 ∨ k = 31 ∨ k = 32 ∨ k = 33 ∨ k = 34 ∨ k = 35 := by omega
theorem low_at (k : Nat) (h : k < 36) (h' : k < (⟨#[48, 49, 50, 51, 52, 53, 54, 55, 56, 57, 97, 98, 99, 100, 101, 102, 103, 104, 105, 106, 107, 108, 109, 110, 111, 112, 113, 114, 115, 116, 117, 118, 119, 120, 121, 122]⟩ : ByteArray).size) : ((⟨#[48, 49, 50, 51, 52, 53, 54, 55, 56, 57, 97, 98, 99, 100, 101, 102, 103, 104, 105, 106, 107, 108, 109, 110, 111, 112, 113, 114, 115, 116, 117, 118, 119, 120, 121, 122]⟩ : ByteArray)[k]'h').toNat = lowC k := by
  rcases all36 k h with rfl | rfl | rfl | rfl | rfl | rfl | rfl | rfl | rfl | rfl | rfl | rfl | rfl | rfl | rfl | rfl | rfl | rfl | rfl | rfl | rfl | rfl | rfl | rfl | rfl | rfl | rfl | rfl | rfl | rfl | rfl | rfl | rfl | rfl | rfl | rfl <;> rfl
theorem upp_at (k : Nat) (h : k < 36) (h' : k < (⟨#[48, 49, 50, 51, 52, 53, 54, 55, 56, 57, 65, 66, 67, 68, 69, 70, 71, 72, 73, 74, 75, 76, 77, 78, 79, 80, 81, 82, 83, 84, 85, 86, 87, 88, 89, 90]⟩ : ByteArray).size) : ((⟨#[48, 49, 50, 51, 52, 53, 54, 55, 56, 57, 65, 66, 67, 68, 69, 70, 71, 72, 73, 74, 75, 76, 77, 78, 79, 80, 81, 82, 83, 84, 85, 86, 87, 88, 89, 90]⟩ : ByteArray)[k]'h').toNat = uppC k := by
  rcases all36 k h with rfl | rfl | rfl | rfl | rfl | rfl | rfl | rfl | rfl | rfl | rfl | rfl | rfl | rfl | rfl | rfl | rfl | rfl | rfl | rfl | rfl | rfl | rfl | rfl | rfl | rfl | rfl | rfl | rfl | rfl | rfl | rfl | rfl | rfl | rfl | rfl <;> rfl
/-- What a byte says to a base; -1: nothing. -/
def digA (b : Nat) (B : Int) : Int := if 2 ≤ B ∧ B ≤ 36 ∧ (hx b : Int) < B then (hx b : Int) else -1
end Go.Proofs.YtcjlplaepnpopaaDoor
