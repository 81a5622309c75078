/-
  The contracts of the two functions that read a digit to any base, and of the test of a base. Condition: the byte is one.
-/
import Derived.Test.YtgfgkhgohoaneaaDoorHx
import Derived.LoopN
namespace Go.Proofs.YtgfgkhgohoaneaaDoor
open Go.RowKit
theorem isBase_any (B : Int) (w : World) : Calls Tryd.prog 15 #[.int .i64 B] w fun e w' => e = .returned (.bool (decide (2 ≤ B ∧ B ≤ 36))) ∧ w' = w := by
  by_cases h1 : (2 : Int) ≤ B <;> by_cases h2 : B ≤ 36
  all_goals
    go_enter Tryd.func15, Tryd.ntmps15
    go_wp2
    go_ret
    refine ⟨?_, rfl⟩
    congr 2
    first | (symm; simp; omega) | simp
def lowC (k : Nat) : Nat := if k < 10 then 48 + k else 87 + k
def uppC (k : Nat) : Nat := if k < 10 then 48 + k else 55 + k
theorem hx_low (k : Nat) (h : k < 36) : hx (lowC k) = k := by
  unfold lowC hx; repeat' split
  all_goals omega
theorem hx_upp (k : Nat) (h : k < 36) : hx (uppC k) = k := by
  unfold uppC hx; repeat' split
  all_goals omega
theorem hx_is (b k : Nat) (h : k < 36) (e : hx b = k) : b = lowC k ∨ b = uppC k := by
  unfold lowC uppC
  unfold hx at e
  by_cases c : k < 10
  · rw [if_pos c, if_pos c]
    split at e
    · omega
    · split at e
      · omega
      · split at e <;> omega
  · rw [if_neg c, if_neg c]
    split at e
    · omega
    · split at e
      · omega
      · split at e <;> omega
theorem all36 (k : Nat) (h : k < 36) : k = 0 ∨ k = 1 ∨ k = 2 ∨ k = 3 ∨ k = 4 ∨ k = 5 ∨ k = 6 ∨ k = 7 ∨ k = 8 ∨ k = 9 ∨ k = 10 ∨ k = 11 ∨ k = 12 ∨ k = 13 ∨ k = 14 ∨ k = 15 ∨ k = 16 ∨ k = 17 ∨ k = 18 ∨ k = 19 ∨ k = 20 ∨ k = 21 ∨ k = 22 ∨ k = 23 ∨ k = 24 ∨ k = 25 ∨ k = 26 ∨ k = 27 ∨ k = 28 ∨ k = 29 ∨ k = 30 ∨ k = 31 ∨ k = 32 ∨ k = 33 ∨ k = 34 ∨ k = 35 := by omega
theorem low_at (k : Nat) (h : k < 36) (h' : k < (⟨#[48, 49, 50, 51, 52, 53, 54, 55, 56, 57, 97, 98, 99, 100, 101, 102, 103, 104, 105, 106, 107, 108, 109, 110, 111, 112, 113, 114, 115, 116, 117, 118, 119, 120, 121, 122]⟩ : ByteArray).size) : ((⟨#[48, 49, 50, 51, 52, 53, 54, 55, 56, 57, 97, 98, 99, 100, 101, 102, 103, 104, 105, 106, 107, 108, 109, 110, 111, 112, 113, 114, 115, 116, 117, 118, 119, 120, 121, 122]⟩ : ByteArray)[k]'h').toNat = lowC k := by
  rcases all36 k h with rfl | rfl | rfl | rfl | rfl | rfl | rfl | rfl | rfl | rfl | rfl | rfl | rfl | rfl | rfl | rfl | rfl | rfl | rfl | rfl | rfl | rfl | rfl | rfl | rfl | rfl | rfl | rfl | rfl | rfl | rfl | rfl | rfl | rfl | rfl | rfl <;> rfl
theorem upp_at (k : Nat) (h : k < 36) (h' : k < (⟨#[48, 49, 50, 51, 52, 53, 54, 55, 56, 57, 65, 66, 67, 68, 69, 70, 71, 72, 73, 74, 75, 76, 77, 78, 79, 80, 81, 82, 83, 84, 85, 86, 87, 88, 89, 90]⟩ : ByteArray).size) : ((⟨#[48, 49, 50, 51, 52, 53, 54, 55, 56, 57, 65, 66, 67, 68, 69, 70, 71, 72, 73, 74, 75, 76, 77, 78, 79, 80, 81, 82, 83, 84, 85, 86, 87, 88, 89, 90]⟩ : ByteArray)[k]'h').toNat = uppC k := by
  rcases all36 k h with rfl | rfl | rfl | rfl | rfl | rfl | rfl | rfl | rfl | rfl | rfl | rfl | rfl | rfl | rfl | rfl | rfl | rfl | rfl | rfl | rfl | rfl | rfl | rfl | rfl | rfl | rfl | rfl | rfl | rfl | rfl | rfl | rfl | rfl | rfl | rfl <;> rfl
/-- What a byte says to a base; -1: nothing. -/
def digA (b : Nat) (B : Int) : Int := if 2 ≤ B ∧ B ≤ 36 ∧ (hx b : Int) < B then (hx b : Int) else -1
set_option maxHeartbeats 1000000 in
theorem digit_any (b : Nat) (B : Int) (w : World) (hb : b < 256) : Calls Tryd.prog 10 #[.int .u8 b, .int .i64 B] w fun e w' => e = .returned (.int .i64 (digA b B)) ∧ w' = w := by
  have k0 := isBase_any B w
  have k1 := worth_any b w hb
  by_cases h : 2 ≤ B ∧ B ≤ 36
  · have e0 : decide (2 ≤ B ∧ B ≤ 36) = true := decide_eq_true h
    rw [e0] at k0
    by_cases h2 : (hx b : Int) < B
    · have HD : Hid (digA b B = hx b) := by unfold Hid digA; rw [if_pos ⟨h.1, h.2, h2⟩]
      clear e0
      go_enter Tryd.func10, Tryd.ntmps10
      go_wp2_with (first | (go_at_call 15; refine k0.mono ?_; rintro e w' ⟨rfl, rfl⟩) | (go_at_call 20; refine k1.mono ?_; rintro e w' ⟨rfl, rfl⟩))
      go_ret
      exact ⟨ret_int HD.out.symm, rfl⟩
    · have HD : Hid (digA b B = -1) := by unfold Hid digA; rw [if_neg (fun q => h2 q.2.2)]
      clear e0
      go_enter Tryd.func10, Tryd.ntmps10
      go_wp2_with (first | (go_at_call 15; refine k0.mono ?_; rintro e w' ⟨rfl, rfl⟩) | (go_at_call 20; refine k1.mono ?_; rintro e w' ⟨rfl, rfl⟩))
      go_ret
      exact ⟨ret_int HD.out.symm, rfl⟩
  · have e0 : decide (2 ≤ B ∧ B ≤ 36) = false := decide_eq_false h
    rw [e0] at k0
    have HD : Hid (digA b B = -1) := by unfold Hid digA; rw [if_neg (fun q => h ⟨q.1, q.2.1⟩)]
    clear e0
    go_enter Tryd.func10, Tryd.ntmps10
    go_wp2_with (first | (go_at_call 15; refine k0.mono ?_; rintro e w' ⟨rfl, rfl⟩))
    go_ret
    exact ⟨ret_int HD.out.symm, rfl⟩
set_option maxRecDepth 100000 in
set_option maxHeartbeats 4000000 in
theorem rdigit_any (b : Nat) (B : Int) (w : World) (_ : b < 256) : Calls Tryd.prog 11 #[.int .u8 b, .int .i64 B] w fun e w' => e = .returned (.int .i64 (digA b B)) ∧ w' = w := by
  by_cases hB : 2 ≤ B ∧ B ≤ 36
  · obtain ⟨n, rfl⟩ : ∃ n : Nat, B = (n : Int) := ⟨B.toNat, by omega⟩
    obtain ⟨hB1, hB2⟩ := hB
    have g1 : decide ((n : Int) < 2) = false := decide_eq_false (by omega)
    have g2 : decide ((36 : Int) < (n : Int)) = false := decide_eq_false (by omega)
    go_enter Tryd.func11, Tryd.ntmps11
    go_wp2
    go_loopw [5] (fun i wr => wr = w ∧ ∃ k : Nat, i = .int .i64 k ∧ k ≤ n ∧ k ≤ hx b) (fun i _ => n - (intOf i).toNat)
    case atStart => exact ⟨rfl, 0, rfl, by omega, by omega⟩
    case round =>
      obtain ⟨rfl, k, rfl, hk, hh⟩ := hrel
      by_cases hlt : k < n
      · have hlti : (k : Int) < (n : Int) := by omega
        have hl36 : (k : Int) < 36 := by omega
        have q1 := low_at k (by omega)
        have q2 := upp_at k (by omega)
        have hL := fun e : lowC k = b => (hx_low k (by omega)).symm.trans (congrArg hx e)
        have hU := fun e : uppC k = b => (hx_upp k (by omega)).symm.trans (congrArg hx e)
        have hI := hx_is b k (by omega)
        obtain ⟨L, eL⟩ : ∃ L, lowC k = L := ⟨_, rfl⟩
        obtain ⟨U, eU⟩ : ∃ U, uppC k = U := ⟨_, rfl⟩
        rw [eL] at q1 hL hI
        rw [eU] at q2 hU hI
        by_cases he : hx b = k
        · have HD : Hid (digA b n = k) := by unfold Hid digA; rw [if_pos ⟨by omega, by omega, by omega⟩, he]
          by_cases h1 : b = L
          · have e1 : ((L : Int) == (b : Int)) = true := by simp; omega
            clear hL hU hI eL eU he hh h1
            go_wp2
            go_ret
            exact ⟨ret_int HD.out.symm, rfl⟩
          · have h2 : b = U := (hI he).resolve_left h1
            have e1 : ((L : Int) == (b : Int)) = false := beq_false_of_ne (by omega)
            have e2 : ((U : Int) == (b : Int)) = true := by simp; omega
            clear hL hU hI eL eU he hh h1 h2
            go_wp2
            go_ret
            exact ⟨ret_int HD.out.symm, rfl⟩
        · have e1 : ((L : Int) == (b : Int)) = false := beq_false_of_ne (fun h => he (hL (by omega)).symm)
          have e2 : ((U : Int) == (b : Int)) = false := beq_false_of_ne (fun h => he (hU (by omega)).symm)
          have hn : k + 1 ≤ hx b := by omega
          clear hL hU hI eL eU he hh
          go_wp2
          exact ⟨⟨by first | rfl | trivial, k + 1, by go_num, by omega, hn⟩, by simp [intOf]; omega⟩
      · have HD : Hid (digA b n = -1) := by unfold Hid digA; rw [if_neg (by omega)]
        go_wp2
        go_ret
        exact ⟨ret_int HD.out.symm, rfl⟩
  · have HD : Hid (digA b B = -1) := by unfold Hid digA; rw [if_neg (fun q => hB ⟨q.1, q.2.1⟩)]
    by_cases h1 : B < 2
    · have g1 : decide (B < 2) = true := decide_eq_true h1
      clear hB
      go_enter Tryd.func11, Tryd.ntmps11
      go_wp2
      go_ret
      exact ⟨ret_int HD.out.symm, rfl⟩
    · have g1 : decide (B < 2) = false := decide_eq_false h1
      have g2 : decide (36 < B) = true := decide_eq_true (by omega)
      clear hB h1
      go_enter Tryd.func11, Tryd.ntmps11
      go_wp2
      go_ret
      exact ⟨ret_int HD.out.symm, rfl⟩
end Go.Proofs.YtgfgkhgohoaneaaDoor
