/-
  The contract of Wrong: where the first wrong piece of a text begins. Conditions: the text takes no more bytes than one that comes in can; the library's two tables hold what their text lays.
-/
import Derived.Test.YtabofadjnbpjkabDoorPcs
namespace Go.Proofs.YtabofadjnbpjkabDoor
open Go.RowKit Go.Lib Go.Shelf
attribute [local go_sem] Oper.semAt_some
/-- Where the first wrong piece of a row begins. -/
def wrongOf (s : ByteArray) : List Nat → Int
  | [] => -1
  | k :: l => if pWr s k then k else wrongOf s l
theorem wrongOf_none (s : ByteArray) : ∀ (l : List Nat), (∀ k ∈ l, pWr s k = false) → wrongOf s l = -1
  | [], _ => rfl
  | k :: l, h => by
    have h1 := h k (by simp)
    simp only [wrongOf, h1]
    exact wrongOf_none s l fun j hj => h j (by simp [hj])
theorem wrongOf_some (s : ByteArray) (q : List Nat) (k : Nat) (hk : pWr s k = true) : ∀ (l : List Nat), (∀ j ∈ l, pWr s j = false) → wrongOf s (l ++ k :: q) = k
  | [], _ => by simp [wrongOf, hk]
  | j :: l, h => by
    have h1 := h j (by simp)
    simp only [List.cons_append, wrongOf, h1]
    exact wrongOf_some s q k hk l fun i hi => h i (by simp [hi])
theorem KpB.same (n₀ Bn B L : Nat) (W : World) : KpB n₀ Bn B L W W := fun hr => ⟨Below.refl _ _, rfl, hr, .inl rfl, fun _ _ _ _ _ _ _ => rfl⟩
end Go.Proofs.YtabofadjnbpjkabDoor
