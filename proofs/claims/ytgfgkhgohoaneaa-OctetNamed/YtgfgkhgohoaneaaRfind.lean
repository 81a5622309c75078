/-
  The contract of the document's Find over a row of 256 bits: the same first place. Condition: the text is no longer than a text can be.
-/
import Derived.Test.YtgfgkhgohoaneaaRef
namespace Go.Proofs.Ytgfgkhgohoaneaa
open Go.RowKit
set_option maxRecDepth 100000 in
set_option maxHeartbeats 400000 in
theorem rfind_is (s : ByteArray) (f : Nat → Int) (p : Nat → Bool) (fr : Int) (w : World) (hs : s.size ≤ maxLen) (hp : ∀ b, b < 256 → (f b == 1) = p b) : Calls Try.prog 29 #[.string s, .agg (rowOf .u8 256 f), .int .i64 fr] w fun e w' => e = .returned (.int .i64 (firstOf (fun j => p (byteAt s j)) s.size fr)) ∧ Below w.heap.size w w' := by
  unfold maxLen at hs
  have HP := hp
  have HPd : Hid (∀ b, b < 256 → (f b == 1) = p b) := hp
  clear hp HP
  go_enter Try.func29, Try.ntmps29
  go_wp2_with fail
  go_loop [7] (fun i => ∃ k : Nat, k ≤ s.size ∧ i = .int .i64 k ∧ (∀ j : Nat, j < k → fr ≤ j → p (byteAt s j) = false)) (fun i => s.size - (intOf i).toNat)
  case atStart => exact ⟨0, by omega, rfl, fun j h1 h2 => by omega⟩
  case round =>
    obtain ⟨k, hk, rfl, hno⟩ := hrel
    by_cases hlt : k < s.size
    · have HB : Hid (byteAt s k = s[k].toNat) := byteAt_eq s k hlt
      have hbd : (s[k].toNat : Int) < 256 := by have := UInt8.toNat_lt s[k]; omega
      have hget := rowOf_get .u8 256 f s[k].toNat (UInt8.toNat_lt _)
      by_cases hfr : fr ≤ k
      · cases hq : f s[k].toNat == 1
        · go_wp2
          refine ⟨⟨k + 1, by omega, by go_num, fun j h1 h2 => ?_⟩, by simp [intOf]; omega⟩
          by_cases e : j = k
          · rw [e, HB.out, ← HPd.out _ (UInt8.toNat_lt _)]; exact hq
          · exact hno j (by omega) h2
        · go_wp2
          go_ret
          refine ⟨congrArg (fun r => Ending.returned (.int .i64 r)) (IsFirst.is (.inr ⟨k, rfl, hlt, hfr, ?_, hno⟩)), (Below.refl _ _).alloc (by simp) _⟩
          show p (byteAt s k) = true
          rw [HB.out, ← HPd.out _ (UInt8.toNat_lt _)]; exact hq
      · go_wp2
        refine ⟨⟨k + 1, by omega, by go_num, fun j h1 h2 => ?_⟩, by simp [intOf]; omega⟩
        exact hno j (by omega) h2
    · go_wp2
      go_ret
      exact ⟨congrArg (fun r => Ending.returned (.int .i64 r)) (IsFirst.is (.inl ⟨rfl, fun j h1 h2 => hno j (by omega) h2⟩)), (Below.refl _ _).alloc (by simp) _⟩
end Go.Proofs.Ytgfgkhgohoaneaa
