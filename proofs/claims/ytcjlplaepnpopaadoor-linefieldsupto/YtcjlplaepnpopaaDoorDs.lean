/-
  A code point and the byte 32.
-/
import Derived.Test.YtcjlplaepnpopaaDoorWt
import Derived.Lib.DecodeN
import Derived.Shelf.Unicode.DecodeSlow
namespace Go.Proofs.YtcjlplaepnpopaaDoor
open Go.RowKit
theorem dec_space (n b0 b1 b2 b3 : Nat) (hn : 1 ≤ n) : ((Lib.decodeN n b0 b1 b2 b3).1 = 32 ↔ b0 = 32) ∧ (b0 = 32 → (Lib.decodeN n b0 b1 b2 b3).2 = 1) ∧ 1 ≤ (Lib.decodeN n b0 b1 b2 b3).2 ∧ (Lib.decodeN n b0 b1 b2 b3).2 ≤ n ∧ (Lib.decodeN n b0 b1 b2 b3).2 ≤ 4 ∧ (1 < (Lib.decodeN n b0 b1 b2 b3).2 → b1 ≠ 32) ∧ (2 < (Lib.decodeN n b0 b1 b2 b3).2 → b2 ≠ 32) ∧ (3 < (Lib.decodeN n b0 b1 b2 b3).2 → b3 ≠ 32) := by
  unfold Lib.decodeN
  repeat' split
  all_goals refine ⟨?_, ?_, ?_, ?_, ?_, ?_, ?_, ?_⟩
  all_goals (try intros)
  all_goals (try dsimp only at *)
  all_goals omega
/-- What is told of the code point at place k. -/
theorem dec_at (s : ByteArray) (k : Nat) (h : k < s.size) : ∃ r z : Nat, Lib.decodeGo (s.extract k s.size) = (r, z) ∧ 1 ≤ z ∧ k + z ≤ s.size ∧ (r = 32 ↔ byt s k = 32) ∧ (r = 32 → z = 1) ∧ (r ≠ 32 → ∀ j, k ≤ j → j < k + z → byt s j ≠ 32) := by
  have hz : (s.extract k s.size).size = s.size - k := by rw [ByteArray.size_extract]; omega
  have e : Lib.decodeGo (s.extract k s.size) = Lib.decodeN (s.size - k) (byt s k) (byt s (k + 1)) (byt s (k + 2)) (byt s (k + 3)) := by
    unfold Lib.decodeGo
    rw [if_neg (by omega), Lib.decode_at]
    show Lib.decodeN ((s.extract k s.size).size - 0) (byt (s.extract k s.size) 0) (byt (s.extract k s.size) 1) (byt (s.extract k s.size) 2) (byt (s.extract k s.size) 3) = _
    rw [hz, byt_tail, byt_tail, byt_tail, byt_tail]
    rfl
  obtain ⟨h1, h2, h3, h4, h5, h6, h7, h8⟩ := dec_space (s.size - k) (byt s k) (byt s (k + 1)) (byt s (k + 2)) (byt s (k + 3)) (by omega)
  rw [← e] at h1 h2 h3 h4 h5 h6 h7 h8
  obtain ⟨⟨r, z⟩, hr⟩ : ∃ r, Lib.decodeGo (s.extract k s.size) = r := ⟨_, rfl⟩
  rw [hr] at h1 h2 h3 h4 h5 h6 h7 h8
  refine ⟨r, z, hr, h3, by simp only at h4; omega, h1, fun q => h2 (h1.1 q), fun q j hj1 hj2 => ?_⟩
  have : j = k ∨ j = k + 1 ∨ j = k + 2 ∨ j = k + 3 := by simp only at h5; omega
  rcases this with rfl | rfl | rfl | rfl
  · exact fun w => q (h1.2 w)
  · exact h6 (by simp only; omega)
  · exact h7 (by simp only; omega)
  · exact h8 (by simp only; omega)
end Go.Proofs.YtcjlplaepnpopaaDoor
