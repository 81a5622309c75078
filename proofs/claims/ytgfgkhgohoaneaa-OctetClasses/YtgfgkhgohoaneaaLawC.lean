/-
  The walk of the law OctetClasses: it returns true and turns nothing that was there. Condition: the two texts take no more bytes than a text that comes in can.
-/
import Derived.Test.YtgfgkhgohoaneaaOf
import Derived.WalkSmall
import Derived.BigQuiet
import Derived.Deep.QuietTactic
namespace Go.Proofs.Ytgfgkhgohoaneaa
open Go.RowKit
/-- A text with great letters. -/
def upper (s : ByteArray) : ByteArray := strOfNums ((List.range s.size).map fun j => upp (byteAt s j))
theorem low_is (s : ByteArray) (w : World) (hs : s.size ≤ 140737488351232) : Calls Try.prog 12 #[.string s] w fun e w' => e = .returned (.string (lower s)) ∧ Below w.heap.size w w' := low_any s w hs
theorem rlow_is (s : ByteArray) (w : World) (hs : s.size ≤ 140737488351232) : Calls Try.prog 13 #[.string s] w fun e w' => e = .returned (.string (lower s)) ∧ Below w.heap.size w w' := rlow_any s w hs
theorem upp_is (s : ByteArray) (w : World) (hs : s.size ≤ 140737488351232) : Calls Try.prog 14 #[.string s] w fun e w' => e = .returned (.string (upper s)) ∧ Below w.heap.size w w' := upp_any s w hs
theorem rupp_is (s : ByteArray) (w : World) (hs : s.size ≤ 140737488351232) : Calls Try.prog 15 #[.string s] w fun e w' => e = .returned (.string (upper s)) ∧ Below w.heap.size w w' := rupp_any s w hs
set_option maxHeartbeats 800000 in
theorem lawC (s t : ByteArray) (w : World) (hs : s.size ≤ 140737488351232) (ht : t.size ≤ 140737488351232) : Calls Try.prog 3 #[.string s, .string t] w fun e w' => e = .returned (.bool true) ∧ Below w.heap.size w w' := by
  go_enter Try.func3, Try.ntmps3
  go_wp2_with fail
  go_loopw [5] (fun i wr => ∃ k : Nat, k ≤ s.size ∧ i = .int .i64 k ∧ Below w.heap.size w wr) (fun i _ => s.size - (intOf i).toNat)
  case atStart => exact ⟨0, by omega, rfl, Below.refl _ _⟩
  case round =>
    obtain ⟨k, hk, rfl, hbr⟩ := hrel
    by_cases hlt : k < s.size
    · have hb1 : (s[k].toNat : Int) ≤ 255 := by have := UInt8.toNat_lt s[k]; omega
      go_wp2_with fail
      go_quiet ((first | (go_at_call 7; exact Calls.quiet_of_same (class_any _ _ (by omega) (by omega))) | (go_at_call 8; exact Calls.quiet_of_same (rclass_any _ _ (by omega) (by omega)))))
      go_wp2

      exact ⟨⟨k + 1, by omega, by go_num, below_drewN hbr nq⟩, by simp [intOf]; omega⟩
    · go_wp2_with (first | (go_at_call 9; refine (awake_any _).mono ?_; rintro e w' ⟨rfl, rfl⟩) | (go_at_call 10; refine (of_any s _ hs).mono ?_; rintro e w' ⟨rfl, rfl⟩) | (go_at_call 11; refine (rof_any s _ hs).mono ?_; rintro e w' ⟨rfl, rfl⟩))
      refine (low_is s _ hs).mono ?_
      rintro e w1 ⟨rfl, hb1⟩
      have hB1 := hbr.trans (hb1.mono hbr.size)
      go_wp2_with fail
      refine (rlow_is s _ hs).mono ?_
      rintro e w2 ⟨rfl, hb2⟩
      have hB2 := hB1.trans (hb2.mono hB1.size)
      go_wp2_with fail
      refine (upp_is s _ hs).mono ?_
      rintro e w3 ⟨rfl, hb3⟩
      have hB3 := hB2.trans (hb3.mono hB2.size)
      go_wp2_with fail
      refine (rupp_is s _ hs).mono ?_
      rintro e w4 ⟨rfl, hb4⟩
      have hB4 := hB3.trans (hb4.mono hB3.size)
      go_wp2_with fail
      refine (fold_any s t _ hs ht).mono ?_
      rintro e w5 ⟨rfl, hb5⟩
      have hB5 := hB4.trans (hb5.mono hB4.size)
      go_wp2_with fail
      refine (rlow_is s _ hs).mono ?_
      rintro e w6 ⟨rfl, hb6⟩
      have hB6 := hB5.trans (hb6.mono hB5.size)
      go_wp2_with fail
      refine (rlow_is t _ ht).mono ?_
      rintro e w7 ⟨rfl, hb7⟩
      have hB7 := hB6.trans (hb7.mono hB6.size)
      go_wp2
      go_ret
      exact ⟨rfl, hB7⟩
end Go.Proofs.Ytgfgkhgohoaneaa
