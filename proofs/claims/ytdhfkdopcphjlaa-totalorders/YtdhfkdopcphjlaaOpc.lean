/-
  A list of floats that came in is no longer than its room.
-/
import Derived.Test.YtdhfkdopcphjlaaOpf
namespace Go.Proofs.Ytdhfkdopcphjlaa
open Go.ChangeShapes Go.WideShapes Go.ChangeAt Go.RowKit
set_option maxRecDepth 100000 in
theorem cap_f64s {H : Type} {enc : TypeId × Value → H} {W : World} {v : Value} {d : DataW H} {p : List MemPlace} (h : DataW.Trod enc Try.prog W 0 (fun _ => true) true 22 v d p) : ∀ q n c, v = .slice q n c → n ≤ c := fun q n c e => by
  subst e
  obtain ⟨fuel, hf⟩ := h
  rcases Go.Deep.open_slice1 Try.underlying22 cells25 hf with ⟨hcs, _⟩ | ⟨_, len', cap', _, _, _, _, _, hcs, _, hl, _⟩
  · simp [Value.cells] at hcs
    omega
  · simp [Value.cells] at hcs
    omega
end Go.Proofs.Ytdhfkdopcphjlaa
