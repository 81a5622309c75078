/-
  The contracts of Clean and Cut. Conditions: those of Decode.
-/
import Derived.Test.YtabofadjnbpjkabDoorCt
import Derived.Test.YtabofadjnbpjkabDoorEnc
namespace Go.Proofs.YtabofadjnbpjkabDoor
open Go.RowKit Go.Lib Go.Shelf
attribute [local go_sem] Oper.semAt_some
/-- Where a row of pieces ends. -/
def endFrom (s : ByteArray) (k0 : Nat) (p : List Nat) : Nat := match p.getLast? with | some k => k + pSt s k | none => k0
theorem end_next (s : ByteArray) : ∀ (p : List Nat) (k0 : Nat) (rest : List Nat), k0 ≤ s.size → posAt s k0 = p ++ rest → rest = posAt s (endFrom s k0 p) ∧ endFrom s k0 p ≤ s.size
  | [], k0, rest, hk, h => by
    rw [List.nil_append] at h
    exact ⟨h.symm, hk⟩
  | a :: p, k0, rest, hk, h => by
    have hlt : k0 < s.size := by
      by_cases hlt : k0 < s.size
      · exact hlt
      · rw [posAt_nil s k0 hlt] at h; simp at h
    rw [posAt_cons s k0 hlt, List.cons_append] at h
    obtain ⟨rfl, h'⟩ := List.cons.inj h
    have hp := pSt_le s k0 hlt
    have ih := end_next s p (k0 + pSt s k0) rest (by omega) h'
    have e : endFrom s k0 (k0 :: p) = endFrom s (k0 + pSt s k0) p := by
      unfold endFrom
      cases p with
      | nil => rfl
      | cons b p => rw [List.getLast?_cons_cons]; cases hq : (b :: p).getLast? with
        | none => simp at hq
        | some x => rfl
    rw [e]
    exact ih
/-- Whether a piece ends within so many bytes. -/
def okP (s : ByteArray) (most : Int) (k : Nat) : Bool := decide ((k : Int) + (pSt s k : Int) ≤ most)
/-- Where Cut cuts. -/
def cutE (s : ByteArray) (most : Int) : Nat := endFrom s 0 ((poss s).takeWhile (okP s most))
theorem take_all {α : Type} (q : α → Bool) : ∀ (p rest : List α), (∀ x ∈ p, q x = true) → (∀ x l, rest = x :: l → q x = false) → (p ++ rest).takeWhile q = p
  | [], [], _, _ => rfl
  | [], x :: l, _, h => by simp [h x l rfl]
  | a :: p, rest, h1, h2 => by
    rw [List.cons_append, List.takeWhile_cons, h1 a (by simp), if_pos rfl, take_all q p rest (fun x hx => h1 x (by simp [hx])) h2]
/-- The numbers that a text says. -/
def nums (s : ByteArray) : List Int := (poss s).map fun k => (pRu s k : Int)
theorem runes_nums (s : ByteArray) : runesC s (poss s) = (nums s).map fun z => Value.int .i32 z := by
  unfold runesC nums
  rw [List.map_map]
  rfl
theorem nums_valid (s : ByteArray) : ∀ r ∈ nums s, Lib.validRune r = true := by
  intro r hr
  obtain ⟨k, _, rfl⟩ := List.mem_map.1 hr
  exact valid_ru s k
end Go.Proofs.YtabofadjnbpjkabDoor
