/-
  What UTF-16 units say, and the contract of the document's FromUnits. Condition: the list takes no more bytes than there are.
-/
import Derived.Test.YtabofadjnbpjkabDoorZl
namespace Go.Proofs.YtabofadjnbpjkabDoor.U
open Go.RowKit Go.Lib
/-- What units say. -/
def fu : List Int → List Int
  | [] => []
  | [u] => if u < 55296 ∨ 57343 < u then [u] else [65533]
  | u :: v :: l => if u < 55296 ∨ 57343 < u then u :: fu (v :: l) else if u < 56320 ∧ 56320 ≤ v ∧ v ≤ 57343 then (65536 + 1024 * (u - 55296) + v - 56320) :: fu l else 65533 :: fu (v :: l)
theorem fu_plain (u : Int) (l : List Int) (h : u < 55296 ∨ 57343 < u) : fu (u :: l) = u :: fu l := by
  cases l with
  | nil => simp [fu, h]
  | cons v l => rw [fu, if_pos h]
theorem fu_low (u : Int) (l : List Int) (h1 : 56320 ≤ u) (h2 : u ≤ 57343) : fu (u :: l) = 65533 :: fu l := by
  cases l with
  | nil =>
    show (if u < 55296 ∨ 57343 < u then [u] else [65533]) = _
    rw [if_neg (by omega)]
    rfl
  | cons v l => rw [fu, if_neg (by omega), if_neg (by omega)]
theorem fu_pair (u v : Int) (l : List Int) (h1 : 55296 ≤ u) (h2 : u < 56320) (h3 : 56320 ≤ v) (h4 : v ≤ 57343) : fu (u :: v :: l) = (65536 + 1024 * (u - 55296) + v - 56320) :: fu l := by
  rw [fu, if_neg (by omega), if_pos ⟨h2, h3, h4⟩]
theorem fu_lone (u v : Int) (l : List Int) (h1 : 55296 ≤ u) (h2 : u < 56320) (h : v < 56320 ∨ 57343 < v) : fu (u :: v :: l) = 65533 :: fu (v :: l) := by
  rw [fu, if_neg (by omega), if_neg (by omega)]
theorem fu_end (u : Int) (h1 : 55296 ≤ u) (h2 : u < 56320) : fu [u] = [65533] := by
  rw [fu, if_neg (by omega)]
theorem fu_len : ∀ l : List Int, (fu l).length ≤ l.length
  | [] => by simp [fu]
  | [u] => by rw [fu]; split <;> simp
  | u :: v :: l => by
    have h1 := fu_len (v :: l)
    have h2 := fu_len l
    rw [fu]
    simp only [List.length_cons] at h1 ⊢
    split
    · simp only [List.length_cons]; omega
    · split
      · simp only [List.length_cons]; omega
      · simp only [List.length_cons]; omega
theorem drop_at (us : List Int) (k : Nat) (h : k < us.length) : us.drop k = us.getD k 0 :: us.drop (k + 1) := by
  rw [List.drop_eq_getElem_cons h]
  simp [List.getD, List.getElem?_eq_getElem h]
/-- What a round of the document's FromUnits keeps. -/
def FuIn (us : List Int) (w : World) (k : Nat) (x : Value) (wr : World) : Prop :=
  ∃ pre : List Int, pre.length ≤ k ∧ fu us = pre ++ fu (us.drop k) ∧ wr.ownsRow w.heap.size 21 1 x pre.length (pre.map fun z => Value.int .i32 z) ∧ Below w.heap.size w wr
end Go.Proofs.YtabofadjnbpjkabDoor.U
