/-
  How the words of a text come, place by place.
-/
import Derived.Test.YtcjlplaepnpopaaDoorWs
namespace Go.Proofs.YtcjlplaepnpopaaDoor
open Go.RowKit
theorem cutA_skip (s : ByteArray) (c k : Nat) : ∀ z, (∀ j, k ≤ j → j < k + z → byt s j ≠ c) → cutA s c (k + z) = cutA s c k
  | 0, _ => rfl
  | z + 1, h => by
    rw [show k + (z + 1) = (k + z) + 1 by omega, cutA, if_neg (h (k + z) (by omega) (by omega))]
    exact cutA_skip s c k z fun j h1 h2 => h j h1 (by omega)
/-- The words that have been told by place k; where the one that is under way begins. -/
def emL (s : ByteArray) (k : Nat) : List ByteArray := (cutA s 32 k).1.filter fun x => x.size != 0
def emS (s : ByteArray) (k : Nat) : Int := if (cutA s 32 k).2 < k then ((cutA s 32 k).2 : Int) else -1
theorem em_zero (s : ByteArray) : emL s 0 = [] ∧ emS s 0 = -1 := ⟨rfl, rfl⟩
theorem one_word {s : ByteArray} {A k : Nat} (hk : k ≤ s.size) : ([s.extract A k].filter fun x => x.size != 0) = if A < k then [s.extract A k] else [] := by
  have e : (s.extract A k).size = k - A := by rw [ByteArray.size_extract]; omega
  by_cases c : A < k
  · have h : ((s.extract A k).size != 0) = true := by rw [e]; simpa using (by omega : ¬ k - A = 0)
    rw [if_pos c]
    exact List.filter_cons_of_pos (p := fun x : ByteArray => x.size != 0) h
  · have h : ((s.extract A k).size != 0) = false := by rw [e]; simpa using (by omega : k - A = 0)
    rw [if_neg c]
    exact List.filter_cons_of_neg (p := fun x : ByteArray => x.size != 0) (by rw [h]; simp)
theorem em_hit {s : ByteArray} {k : Nat} (hk : k < s.size) (h : byt s k = 32) : emL s (k + 1) = emL s k ++ (if 0 ≤ emS s k then [s.extract (cutA s 32 k).2 k] else []) ∧ emS s (k + 1) = -1 := by
  have e : cutA s 32 (k + 1) = ((cutA s 32 k).1 ++ [s.extract (cutA s 32 k).2 k], k + 1) := by rw [cutA, if_pos h]
  constructor
  · unfold emL
    rw [e, List.filter_append, one_word (by omega)]
    unfold emS
    by_cases c : (cutA s 32 k).2 < k
    · rw [if_pos c, if_pos c, if_pos (by omega)]
    · rw [if_neg c, if_neg c, if_neg (by omega)]
  · unfold emS
    rw [e, if_neg (by simp)]
theorem em_miss {s : ByteArray} {k z : Nat} (hz : 0 < z) (h : ∀ j, k ≤ j → j < k + z → byt s j ≠ 32) : emL s (k + z) = emL s k ∧ emS s (k + z) = if emS s k < 0 then (k : Int) else emS s k := by
  have e := cutA_skip s 32 k z h
  have hle := (cutA_le s 32 k).2
  constructor
  · unfold emL; rw [e]
  · unfold emS
    rw [e, if_pos (by omega)]
    by_cases c : (cutA s 32 k).2 < k
    · rw [if_pos c, if_neg (by omega)]
    · rw [if_neg c, if_pos (by decide)]
      omega
theorem em_end (s : ByteArray) : wrdL s = emL s s.size ++ (if 0 ≤ emS s s.size then [s.extract (cutA s 32 s.size).2 s.size] else []) := by
  unfold wrdL cutL emL emS
  rw [List.filter_append, one_word (Nat.le_refl _)]
  by_cases c : (cutA s 32 s.size).2 < s.size
  · rw [if_pos c, if_pos c, if_pos (by omega)]
  · rw [if_neg c, if_neg c, if_neg (by omega)]
end Go.Proofs.YtcjlplaepnpopaaDoor
