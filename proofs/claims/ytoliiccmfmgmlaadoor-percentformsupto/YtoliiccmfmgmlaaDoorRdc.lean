/-
  The contract of the document's Decode: what the parts of a text say, how many coded bytes there are, and where the stray signs stand. Condition: the list of places takes no more bytes than one can.
-/
import Derived.Test.YtoliiccmfmgmlaaDoorNum
import Derived.Test.YtoliiccmfmgmlaaDoorRdg
import Derived.OwnWalk
import Derived.BigQuiet
import Derived.Deep.RegionWith
import Derived.Deep.QuietTactic
import Derived.Laws.BytesArg
import Derived.RangeFuncBox
import Derived.Lib.Builder
namespace Go.Proofs.YtoliiccmfmgmlaaDoor
open Go.RowKit
theorem dig_lt (b : Nat) : dig b < 16 := by unfold dig; split <;> omega
theorem dig_no (b : Nat) (h : ¬ hx b < 16) : dig b = -1 := if_neg h
theorem dig_yes (b : Nat) (h : hx b < 16) : dig b = hx b := if_pos h
set_option maxRecDepth 100000 in
set_option maxHeartbeats 1000000 in
theorem rcoded_any (s : ByteArray) (k : Nat) (w : World) (hs : s.size ≤ 140737488351232) (hk : k < s.size) : Calls Tryd.prog 33 #[.string s, .int .i64 k] w fun e w' => e = .returned (.bool (cd s k)) ∧ w' = w := by
  have hki : (k : Int) < (s.size : Int) := by omega
  have q0 : (s[k]'hk).toNat = byt s k := byt_eq s k hk
  have hcd := cd_iff s k
  by_cases h2 : (k : Int) + 2 < (s.size : Int)
  · have d2 : decide ((k : Int) + 2 < (s.size : Int)) = true := by simpa using h2
    have h1 : (k : Int) + 1 < (s.size : Int) := by omega
    have q1 : (s[k + 1]'(by omega)).toNat = byt s (k + 1) := byt_eq s (k + 1) (by omega)
    have q2 : (s[k + 2]'(by omega)).toNat = byt s (k + 2) := byt_eq s (k + 2) (by omega)
    have k1 := byt_lt s (k + 1)
    have k2 := byt_lt s (k + 2)
    obtain ⟨B0, e0⟩ : ∃ B, byt s k = B := ⟨_, rfl⟩
    obtain ⟨B1, e1⟩ : ∃ B, byt s (k + 1) = B := ⟨_, rfl⟩
    obtain ⟨B2, e2⟩ : ∃ B, byt s (k + 2) = B := ⟨_, rfl⟩
    rw [e0] at q0 hcd; rw [e1] at q1 k1 hcd; rw [e2] at q2 k2 hcd
    by_cases c0 : B0 = 37
    · have c0' : ((B0 : Int) == 37) = true := by simp; omega
      by_cases c1 : hx B1 < 16
      · obtain ⟨X1, hX1⟩ : ∃ X, hx B1 = X := ⟨_, rfl⟩
        have g1 : dig B1 = (X1 : Int) := by rw [dig_yes B1 c1, hX1]
        have d3 : decide ((0 : Int) ≤ (X1 : Int)) = true := by simp
        by_cases c2 : hx B2 < 16
        · obtain ⟨X2, hX2⟩ : ∃ X, hx B2 = X := ⟨_, rfl⟩
          have g2 : dig B2 = (X2 : Int) := by rw [dig_yes B2 c2, hX2]
          have d4 : decide ((0 : Int) ≤ (X2 : Int)) = true := by simp
          have hc : cd s k = true := hcd.2 ⟨by omega, c0, c1, c2⟩
          rw [hc]
          clear hcd c0 c1 c2 e0 e1 e2 hX1 hX2 hc
          go_enter Tryd.func33, Tryd.ntmps33
          go_wp2_with (go_at_call 53; refine (rdigit_any _ _ (by assumption)).mono ?_; rintro e w' ⟨rfl, rfl⟩)
          go_ret
          exact ⟨rfl, rfl⟩
        · have g2 := dig_no B2 c2
          have hc : cd s k = false := by
            have : ¬ cd s k = true := by rw [hcd]; omega
            simpa using this
          rw [hc]
          clear hcd c0 c1 c2 e0 e1 e2 hX1 hc
          go_enter Tryd.func33, Tryd.ntmps33
          go_wp2_with (go_at_call 53; refine (rdigit_any _ _ (by assumption)).mono ?_; rintro e w' ⟨rfl, rfl⟩)
          go_ret
          exact ⟨rfl, rfl⟩
      · have g1 := dig_no B1 c1
        have hc : cd s k = false := by
          have : ¬ cd s k = true := by rw [hcd]; omega
          simpa using this
        rw [hc]
        clear hcd c0 c1 e0 e1 e2 hc
        go_enter Tryd.func33, Tryd.ntmps33
        go_wp2_with (go_at_call 53; refine (rdigit_any _ _ (by assumption)).mono ?_; rintro e w' ⟨rfl, rfl⟩)
        go_ret
        exact ⟨rfl, rfl⟩
    · have c0' : ((B0 : Int) == 37) = false := beq_false_of_ne (by omega)
      have hc : cd s k = false := by
        have : ¬ cd s k = true := by rw [hcd]; omega
        simpa using this
      rw [hc]
      clear hcd c0 e0 e1 e2 hc k1 k2
      go_enter Tryd.func33, Tryd.ntmps33
      go_wp2
      go_ret
      exact ⟨rfl, rfl⟩
  · have d2 : decide ((k : Int) + 2 < (s.size : Int)) = false := by simpa using h2
    have hc : cd s k = false := by
      have : ¬ cd s k = true := by rw [hcd]; omega
      simpa using this
    rw [hc]
    clear hcd hc
    go_enter Tryd.func33, Tryd.ntmps33
    go_wp2
    go_ret
    exact ⟨rfl, rfl⟩
set_option maxRecDepth 100000 in
set_option maxHeartbeats 1000000 in
theorem rsays_any (s : ByteArray) (k : Nat) (w : World) (hs : s.size ≤ 140737488351232) (hc : cd s k = true) : Calls Tryd.prog 34 #[.string s, .int .i64 k] w fun e w' => e = .returned (.int .u8 (sy s k)) ∧ Below w.heap.size w w' := by
  have hcd := (cd_iff s k).1 hc
  have h2 : (k : Int) + 2 < (s.size : Int) := by omega
  have h1 : (k : Int) + 1 < (s.size : Int) := by omega
  have q1 : (s[k + 1]'(by omega)).toNat = byt s (k + 1) := byt_eq s (k + 1) (by omega)
  have q2 : (s[k + 2]'(by omega)).toNat = byt s (k + 2) := byt_eq s (k + 2) (by omega)
  have k1 := byt_lt s (k + 1)
  have k2 := byt_lt s (k + 2)
  have hsy : sy s k = 16 * hx (byt s (k + 1)) + hx (byt s (k + 2)) := if_pos hc
  obtain ⟨B1, e1⟩ : ∃ B, byt s (k + 1) = B := ⟨_, rfl⟩
  obtain ⟨B2, e2⟩ : ∃ B, byt s (k + 2) = B := ⟨_, rfl⟩
  rw [e1] at q1 k1 hcd hsy; rw [e2] at q2 k2 hcd hsy
  have g1 := dig_yes B1 (by omega)
  have g2 := dig_yes B2 (by omega)
  obtain ⟨X1, hX1⟩ : ∃ X, hx B1 = X := ⟨_, rfl⟩
  obtain ⟨X2, hX2⟩ : ∃ X, hx B2 = X := ⟨_, rfl⟩
  rw [hX1] at g1 hcd hsy; rw [hX2] at g2 hcd hsy
  have l1 : (X1 : Int) < 16 := by omega
  have l2 : (X2 : Int) < 16 := by omega
  rw [hsy]
  clear hcd e1 e2 hX1 hX2 hc hsy
  have z1 : (0 : Int) ≤ (k : Int) + 1 := by omega
  have z2 : (0 : Int) ≤ (k : Int) + 2 := by omega
  have y1 : IntKind.i64.wrap ((k : Int) + 1) = (k : Int) + 1 := IntWalk.i64_in _ (by omega)
  have y2 : IntKind.i64.wrap ((k : Int) + 2) = (k : Int) + 2 := IntWalk.i64_in _ (by omega)
  have y3 : IntKind.i64.wrap (16 * (X1 : Int)) = 16 * (X1 : Int) := IntWalk.i64_in _ (by omega)
  have y4 : IntKind.i64.wrap (16 * (X1 : Int) + (X2 : Int)) = 16 * (X1 : Int) + (X2 : Int) := IntWalk.i64_in _ (by omega)
  have y5 : IntKind.u8.wrap (16 * (X1 : Int) + (X2 : Int)) = 16 * (X1 : Int) + (X2 : Int) := IntWalk.u8_in _ (by omega)
  have t1 : ((k : Int) + 1).toNat = k + 1 := by omega
  have t2 : ((k : Int) + 2).toNat = k + 2 := by omega
  go_enter Tryd.func34, Tryd.ntmps34
  go_wp2
  go_region_with (go_at_call 53; refine (rdigit_any _ _ (by assumption)).mono ?_; rintro e w' ⟨rfl, rfl⟩)
  all_goals (go_wp2; go_ret; exact ⟨by go_num, (Below.refl _ _).drew⟩)
end Go.Proofs.YtoliiccmfmgmlaaDoor
