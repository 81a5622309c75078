/-
  The contract of the document's digit to the base 16. Condition: the byte is one.
-/
import Derived.Test.YtoliiccmfmgmlaaDoorHx
import Derived.LoopN
namespace Go.Proofs.YtoliiccmfmgmlaaDoor
open Go.RowKit
/-- What a byte says to the base 16; -1: nothing. -/
def dig (b : Nat) : Int := if hx b < 16 then (hx b : Int) else -1
def lowC (k : Nat) : Nat := if k < 10 then 48 + k else 87 + k
def uppC (k : Nat) : Nat := if k < 10 then 48 + k else 55 + k
theorem hx_low (k : Nat) (h : k < 16) : hx (lowC k) = k := by
  unfold lowC hx; repeat' split
  all_goals omega
theorem hx_upp (k : Nat) (h : k < 16) : hx (uppC k) = k := by
  unfold uppC hx; repeat' split
  all_goals omega
theorem hx_is (b k : Nat) (h : k < 16) (e : hx b = k) : b = lowC k ∨ b = uppC k := by
  unfold lowC uppC
  unfold hx at e
  by_cases c : k < 10
  · rw [if_pos c, if_pos c]
    split at e
    · omega
    · split at e
      · omega
      · split at e <;> omega
  · rw [if_neg c, if_neg c]
    split at e
    · omega
    · split at e
      · omega
      · split at e <;> omega
theorem sixteen (k : Nat) (h : k < 16) : k = 0 ∨ k = 1 ∨ k = 2 ∨ k = 3 ∨ k = 4 ∨ k = 5 ∨ k = 6 ∨ k = 7 ∨ k = 8 ∨ k = 9 ∨ k = 10 ∨ k = 11 ∨ k = 12 ∨ k = 13 ∨ k = 14 ∨ k = 15 := by omega
theorem low_at (k : Nat) (h : k < 16) (h' : k < (⟨#[48, 49, 50, 51, 52, 53, 54, 55, 56, 57, 97, 98, 99, 100, 101, 102, 103, 104, 105, 106, 107, 108, 109, 110, 111, 112, 113, 114, 115, 116, 117, 118, 119, 120, 121, 122]⟩ : ByteArray).size) : ((⟨#[48, 49, 50, 51, 52, 53, 54, 55, 56, 57, 97, 98, 99, 100, 101, 102, 103, 104, 105, 106, 107, 108, 109, 110, 111, 112, 113, 114, 115, 116, 117, 118, 119, 120, 121, 122]⟩ : ByteArray)[k]'h').toNat = lowC k := by
  rcases sixteen k h with rfl | rfl | rfl | rfl | rfl | rfl | rfl | rfl | rfl | rfl | rfl | rfl | rfl | rfl | rfl | rfl <;> rfl
theorem upp_at (k : Nat) (h : k < 16) (h' : k < (⟨#[48, 49, 50, 51, 52, 53, 54, 55, 56, 57, 65, 66, 67, 68, 69, 70, 71, 72, 73, 74, 75, 76, 77, 78, 79, 80, 81, 82, 83, 84, 85, 86, 87, 88, 89, 90]⟩ : ByteArray).size) : ((⟨#[48, 49, 50, 51, 52, 53, 54, 55, 56, 57, 65, 66, 67, 68, 69, 70, 71, 72, 73, 74, 75, 76, 77, 78, 79, 80, 81, 82, 83, 84, 85, 86, 87, 88, 89, 90]⟩ : ByteArray)[k]'h').toNat = uppC k := by
  rcases sixteen k h with rfl | rfl | rfl | rfl | rfl | rfl | rfl | rfl | rfl | rfl | rfl | rfl | rfl | rfl | rfl | rfl <;> rfl
set_option maxRecDepth 100000 in
set_option maxHeartbeats 4000000 in
theorem rdigit_any (b : Nat) (w : World) (_ : b < 256) : Calls Tryd.prog 53 #[.int .u8 b, .int .i64 16] w fun e w' => e = .returned (.int .i64 (dig b)) ∧ w' = w := by
  go_enter Tryd.func53, Tryd.ntmps53
  go_wp2
  go_loopw [5] (fun i wr => wr = w ∧ ∃ k : Nat, i = .int .i64 k ∧ k ≤ 16 ∧ k ≤ hx b) (fun i _ => 16 - (intOf i).toNat)
  case atStart => exact ⟨rfl, 0, rfl, by omega, by omega⟩
  case round =>
    obtain ⟨rfl, k, rfl, hk, hh⟩ := hrel
    by_cases hlt : k < 16
    · have hlti : (k : Int) < 16 := by omega
      have hl36 : (k : Int) < 36 := by omega
      have q1 := low_at k hlt
      have q2 := upp_at k hlt
      have hL := fun e : lowC k = b => (hx_low k hlt).symm.trans (congrArg hx e)
      have hU := fun e : uppC k = b => (hx_upp k hlt).symm.trans (congrArg hx e)
      have hI := hx_is b k hlt
      obtain ⟨L, eL⟩ : ∃ L, lowC k = L := ⟨_, rfl⟩
      obtain ⟨U, eU⟩ : ∃ U, uppC k = U := ⟨_, rfl⟩
      rw [eL] at q1 hL hI
      rw [eU] at q2 hU hI
      by_cases he : hx b = k
      · have HD : Hid (dig b = k) := by unfold Hid dig; rw [if_pos (by omega), he]
        by_cases h1 : b = L
        · have e1 : ((L : Int) == (b : Int)) = true := by simp; omega
          clear hL hU hI eL eU he hh h1
          go_wp2
          go_ret
          exact ⟨ret_int HD.out.symm, rfl⟩
        · have h2 : b = U := (hI he).resolve_left h1
          have e1 : ((L : Int) == (b : Int)) = false := beq_false_of_ne (by omega)
          have e2 : ((U : Int) == (b : Int)) = true := by simp; omega
          clear hL hU hI eL eU he hh h1 h2
          go_wp2
          go_ret
          exact ⟨ret_int HD.out.symm, rfl⟩
      · have e1 : ((L : Int) == (b : Int)) = false := beq_false_of_ne (fun h => he (hL (by omega)).symm)
        have e2 : ((U : Int) == (b : Int)) = false := beq_false_of_ne (fun h => he (hU (by omega)).symm)
        have hh2 : k + 1 ≤ hx b := by omega
        clear hL hU hI eL eU he hh
        go_wp2
        exact ⟨⟨trivial, k + 1, by go_num, by omega, hh2⟩, by simp [intOf]; omega⟩
    · have e : k = 16 := by omega
      subst e
      have HD : Hid (dig b = -1) := by unfold Hid dig; rw [if_neg (by omega)]
      go_wp2
      go_ret
      exact ⟨ret_int HD.out.symm, rfl⟩
end Go.Proofs.YtoliiccmfmgmlaaDoor
