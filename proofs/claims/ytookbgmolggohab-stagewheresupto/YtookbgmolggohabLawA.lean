/-
  The law StageAll: a table says what its rows do, of each code point of a plane. Conditions: the rows' numbers fit; the list takes no more bytes than there are.
-/
import Derived.Test.YtookbgmolggohabWk
namespace Go.Proofs.Ytookbgmolggohab
open Go.RowKit
theorem run_l3b {w : World} {g o : Nat} {x : Int} (h : w.cell? ⟨g, o, none⟩ = some (.int .i64 x)) : (loadVar 3 ⟨g, o, none⟩).run Try.prog w = .ok (.int .i64 x) w := run_l3 h
theorem runA_len : ∀ (L X : List Rw) (nx : Int), (runA X nx L).1.length ≤ X.length + 2 * L.length
  | [], X, nx => by simp [runA]
  | x :: L, X, nx => by
    unfold runA
    have h1 := runA_len L (addR (if nx < x.1 then addR X (nx, x.1 - 1, 0) else X) x) (x.2.1 + 1)
    have h2 := addR_len (if nx < x.1 then addR X (nx, x.1 - 1, 0) else X) x
    have h3 : (if nx < x.1 then addR X (nx, x.1 - 1, 0) else X).length ≤ X.length + 1 := by
      split
      · exact addR_len _ _
      · omega
    simp only [List.length_cons]
    omega
theorem runsL_len (L : List Rw) : (runsL L).length ≤ 2 * L.length + 1 := by
  have h1 := runA_len L [] 0
  unfold runsL
  split
  · have := addR_len (runA [] 0 L).1 ((runA [] 0 L).2, 1114111, 0)
    simp at h1
    omega
  · simp at h1
    omega
end Go.Proofs.Ytookbgmolggohab
