/-
  How the arguments come in: the two numbers and the yes or no of a struct; an octet's range.
-/
import Derived.Test.YtahmeejcgddlhaaRows
import Derived.WalkKit
import Derived.ProofKit
import Derived.OpenShut
namespace Go.Proofs.Ytahmeejcgddlhaa
open Go.ChangeShapes Go.WideShapes Go.ChangeAt Go.RowKit
theorem cells38 : Try.prog.cellsOf 38 = 3 := by kernel_rfl
theorem types38 : Try.prog.cellTypes Try.prog.depth 38 = some [3, 3, 4] := by kernel_rfl
theorem wf_u8 (n : Int) (h : (Lit.int .u8 n).wf = true) : 0 ≤ n ∧ n < 256 := by
  have e1 : IntKind.u8.min = 0 := by decide
  have e2 : IntKind.u8.max = 255 := by decide
  simp [Lit.wf, e1, e2] at h
  omega
set_option maxRecDepth 100000 in
theorem cell_int {W : World} {r : Reach} {base : Nat} {v : Value} (h : Cell.okWide Try.prog W r base 3 v) : ∃ n : Int, v = .int .i64 n := by
  unfold Cell.okWide at h
  rw [Try.underlying3] at h
  unfold Cell.ok at h
  rw [Try.underlying3] at h
  cases v <;> simp at h
  rename_i k n
  obtain ⟨rfl, _⟩ := h
  exact ⟨n, rfl⟩
set_option maxRecDepth 100000 in
theorem cell_yes {W : World} {r : Reach} {base : Nat} {v : Value} (h : Cell.okWide Try.prog W r base 4 v) : ∃ b : Bool, v = .bool b := by
  unfold Cell.okWide at h
  rw [Try.underlying4] at h
  unfold Cell.ok at h
  rw [Try.underlying4] at h
  cases v <;> simp at h
  rename_i b
  exact ⟨b, rfl⟩
set_option maxRecDepth 100000 in
theorem open_count {W : World} {r : Reach} {base : Nat} {v : Value} (hv : Value.okWide Try.prog W r base 38 v) : ∃ (m n : Int) (b : Bool), v = .agg #[.int .i64 m, .int .i64 n, .bool b] := by
  obtain ⟨cs, rfl, hsz, ts, hts, _, hc⟩ : ∃ cs, v = .agg cs ∧ cs.size = Try.prog.cellsOf 38 ∧ Row.okWide Try.prog W r base 38 cs := by
    simpa [Value.okWide, Try.underlying38] using hv
  rw [cells38] at hsz
  rw [types38] at hts
  cases hts
  have at_ : ∀ i (h : i < 3), ∃ u, [3, 3, 4][i % 3]? = some u ∧ Cell.okWide Try.prog W r base u (cs[i]'(by omega)) := by
    intro i hi
    have hi' : cs[i]? = some (cs[i]'(by omega)) := by simp [hsz, hi]
    exact hc i _ hi'
  obtain ⟨u0, e0, h0⟩ := at_ 0 (by omega)
  obtain ⟨u1, e1, h1⟩ := at_ 1 (by omega)
  obtain ⟨u2, e2, h2⟩ := at_ 2 (by omega)
  simp at e0 e1 e2
  subst e0 e1 e2
  obtain ⟨a, ha⟩ := cell_int h0
  obtain ⟨b, hb⟩ := cell_int h1
  obtain ⟨c, hc'⟩ := cell_yes h2
  refine ⟨a, b, c, ?_⟩
  congr 1
  rw [← ha, ← hb, ← hc']
  apply Array.ext
  · simp [hsz]
  · intro i h1 h2
    match i, h1 with
    | 0, _ => rfl
    | 1, _ => rfl
    | 2, _ => rfl
    | i + 3, h => omega
end Go.Proofs.Ytahmeejcgddlhaa
