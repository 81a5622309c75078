/-
  The contracts of isLow, isHigh, joined and of UnitDecoder's End. No condition.
-/
import Derived.Test.YtabofadjnbpjkabDoorZf
namespace Go.Proofs.YtabofadjnbpjkabDoor.U
open Go.RowKit Go.Lib
theorem isLow_any (u : Int) (q : Bool) (hq : decide (56320 ≤ u ∧ u < 57344) = q) (w : World) : Calls Tryd.prog 53 #[.int .u16 u] w fun e w' => e = .returned (.bool q) ∧ w' = w := by
  by_cases h1 : 56320 ≤ u
  · have d1 : decide (56320 ≤ u) = true := by simp [h1]
    have e : q = decide (u < 57344) := by rw [← hq]; simp [h1]
    rw [e]
    clear hq e
    go_enter Tryd.func53, Tryd.ntmps53
    go_wp2
    all_goals
      go_ret
      exact ⟨by first | rfl | (simp; omega), rfl⟩
  · have d1 : decide (56320 ≤ u) = false := by simp; omega
    have e : q = false := by rw [← hq]; simp; omega
    rw [e]
    clear hq e
    go_enter Tryd.func53, Tryd.ntmps53
    go_wp2
    go_ret
    exact ⟨rfl, rfl⟩
theorem isHigh_any (u : Int) (q : Bool) (hq : decide (55296 ≤ u ∧ u < 56320) = q) (w : World) : Calls Tryd.prog 55 #[.int .u16 u] w fun e w' => e = .returned (.bool q) ∧ w' = w := by
  by_cases h1 : 55296 ≤ u
  · have d1 : decide (55296 ≤ u) = true := by simp [h1]
    have e : q = decide (u < 56320) := by rw [← hq]; simp [h1]
    rw [e]
    clear hq e
    go_enter Tryd.func55, Tryd.ntmps55
    go_wp2
    all_goals
      go_ret
      exact ⟨by first | rfl | (simp; omega), rfl⟩
  · have d1 : decide (55296 ≤ u) = false := by simp; omega
    have e : q = false := by rw [← hq]; simp; omega
    rw [e]
    clear hq e
    go_enter Tryd.func55, Tryd.ntmps55
    go_wp2
    go_ret
    exact ⟨rfl, rfl⟩
theorem joined_any (h u : Int) (w : World) (h1 : 55296 ≤ h) (h2 : h < 56320) (u1 : 56320 ≤ u) (u2 : u ≤ 57343) : Calls Tryd.prog 54 #[.int .u16 h, .int .u16 u] w fun e w' => e = .returned (.int .i32 (65536 + 1024 * (h - 55296) + u - 56320)) ∧ w' = w := by
  go_enter Tryd.func54, Tryd.ntmps54
  go_wp2
  go_ret
  exact ⟨ret_int (by omega), rfl⟩
theorem end_zero (B : Nat) (w : World) (hc : w.cell? ⟨B, 0, none⟩ = some (.int .u16 0)) : Calls Tryd.prog 41 #[.pointer (some ⟨B, 0, none⟩)] w fun e w' => e = .returned (.slice none 0 0) ∧ w' = w := by
  go_enter Tryd.func41, Tryd.ntmps41
  go_wp2
  go_ret
  exact ⟨rfl, rfl⟩
theorem end_held (B : Nat) (h : Int) (w : World) (hh : 55296 ≤ h) (hc : w.cell? ⟨B, 0, none⟩ = some (.int .u16 h)) (hf : w.frozen? ⟨B, 0, none⟩ = false) : Calls Tryd.prog 41 #[.pointer (some ⟨B, 0, none⟩)] w fun e w' => e = .returned (.slice (some ⟨w.heap.size, 0, none⟩) 1 1) ∧ w' = (w.setCell ⟨B, 0, none⟩ (.int .u16 0)).alloc (.cells #[.int .i32 65533] 21) := by
  have hne : (h == 0) = false := beq_false_of_ne (by omega)
  go_enter Tryd.func41, Tryd.ntmps41
  go_wp2
  go_ret
  exact ⟨by simp, rfl⟩
end Go.Proofs.YtabofadjnbpjkabDoor.U
