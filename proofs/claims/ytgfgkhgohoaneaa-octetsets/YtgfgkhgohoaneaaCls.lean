/-
  The contracts of the two functions that tell a byte's classes, and of those that put the classes of all bytes of a text together: the program's and the document's answer the same number. Condition: the text is no longer than a text can be.
-/
import Derived.Test.YtgfgkhgohoaneaaProg
import Derived.Test.YtgfgkhgohoaneaaRow
import Derived.KernelRfl
namespace Go.Proofs.Ytgfgkhgohoaneaa
open Go.RowKit
/-- The classes of byte b. -/
def cls (b : Int) : Int :=
  if b < 32 ∨ b = 127 then 16 else if 127 < b then 32 else if b = 32 then 128
  else if 48 ≤ b ∧ b ≤ 57 then 9 else if 65 ≤ b ∧ b ≤ 90 then (if b ≤ 70 then 10 else 2)
  else if 97 ≤ b ∧ b ≤ 122 then (if b ≤ 102 then 12 else 4) else 64
theorem ret_int {k : IntKind} {a b : Int} (h : a = b) : Ending.returned (.int k a) = .returned (.int k b) := by rw [h]
theorem or28 : bits BinOp.or IntKind.i64 2 8 = 10 := by kernel_rfl
theorem or20 : bits BinOp.or IntKind.i64 2 0 = 2 := by kernel_rfl
theorem or48 : bits BinOp.or IntKind.i64 4 8 = 12 := by kernel_rfl
theorem or40 : bits BinOp.or IntKind.i64 4 0 = 4 := by kernel_rfl
theorem parts (b : Int) : b = 32 ∨ b = 127 ∨ ((b == 32) = false ∧ (b == 127) = false ∧ (b < 32 ∨ (33 ≤ b ∧ b ≤ 47) ∨ (48 ≤ b ∧ b ≤ 57) ∨ (58 ≤ b ∧ b ≤ 64) ∨ (65 ≤ b ∧ b ≤ 70) ∨ (71 ≤ b ∧ b ≤ 90) ∨ (91 ≤ b ∧ b ≤ 96) ∨ (97 ≤ b ∧ b ≤ 102) ∨ (103 ≤ b ∧ b ≤ 122) ∨ (123 ≤ b ∧ b ≤ 126) ∨ 128 ≤ b)) := by
  by_cases h1 : b = 32
  · exact .inl h1
  · by_cases h2 : b = 127
    · exact .inr (.inl h2)
    · exact .inr (.inr ⟨beq_eq_false_iff_ne.2 h1, beq_eq_false_iff_ne.2 h2, by omega⟩)
set_option maxHeartbeats 1600000 in
theorem class_any (b : Int) (w : World) (h0 : 0 ≤ b) (h1 : b ≤ 255) : Calls Try.prog 7 #[.int .u8 b] w fun e w' => e = .returned (.int .i64 (cls b)) ∧ w' = w := by
  rcases parts b with rfl | rfl | ⟨e1, e2, h | ⟨h, h'⟩ | ⟨h, h'⟩ | ⟨h, h'⟩ | ⟨h, h'⟩ | ⟨h, h'⟩ | ⟨h, h'⟩ | ⟨h, h'⟩ | ⟨h, h'⟩ | ⟨h, h'⟩ | h⟩
  all_goals
    go_enter Try.func7, Try.ntmps7
    go_wp2
    go_ret
    refine ⟨ret_int ?_, rfl⟩
    show (_ : Int) = _
    unfold cls
    (repeat' split) <;> first | omega | kernel_rfl
set_option maxHeartbeats 1600000 in
theorem rclass_any (b : Int) (w : World) (h0 : 0 ≤ b) (h1 : b ≤ 255) : Calls Try.prog 8 #[.int .u8 b] w fun e w' => e = .returned (.int .i64 (cls b)) ∧ w' = w := by
  rcases parts b with rfl | rfl | ⟨e1, e2, h | ⟨h, h'⟩ | ⟨h, h'⟩ | ⟨h, h'⟩ | ⟨h, h'⟩ | ⟨h, h'⟩ | ⟨h, h'⟩ | ⟨h, h'⟩ | ⟨h, h'⟩ | ⟨h, h'⟩ | h⟩
  · go_enter Try.func8, Try.ntmps8
    go_wp2
    go_ret
    exact ⟨ret_int (by kernel_rfl), rfl⟩
  · go_enter Try.func8, Try.ntmps8
    go_wp2
    go_ret
    exact ⟨ret_int (by kernel_rfl), rfl⟩
  all_goals
    first | have d57 : decide (b ≤ 57) = true := decide_eq_true (by omega) | have d57 : decide (b ≤ 57) = false := decide_eq_false (by omega)
    first | have d70 : decide (b ≤ 70) = true := decide_eq_true (by omega) | have d70 : decide (b ≤ 70) = false := decide_eq_false (by omega)
    first | have d90 : decide (b ≤ 90) = true := decide_eq_true (by omega) | have d90 : decide (b ≤ 90) = false := decide_eq_false (by omega)
    first | have d102 : decide (b ≤ 102) = true := decide_eq_true (by omega) | have d102 : decide (b ≤ 102) = false := decide_eq_false (by omega)
    first | have d122 : decide (b ≤ 122) = true := decide_eq_true (by omega) | have d122 : decide (b ≤ 122) = false := decide_eq_false (by omega)
    first | have d126 : decide (b ≤ 126) = true := decide_eq_true (by omega) | have d126 : decide (b ≤ 126) = false := decide_eq_false (by omega)
    go_enter Try.func8, Try.ntmps8
    go_wp2
    go_ret
    refine ⟨ret_int ?_, rfl⟩
    show (_ : Int) = _
    unfold cls
    (repeat' split) <;> first | omega | kernel_rfl
end Go.Proofs.Ytgfgkhgohoaneaa
