/-
  How the arguments come in: three runes in a struct; a rune's range.
-/
import Derived.Test.YtdjdbabhcdfecaaRows
import Derived.WalkKit
import Derived.ProofKit
import Derived.OpenShut
namespace Go.Proofs.Ytdjdbabhcdfecaa
open Go.ChangeShapes Go.WideShapes Go.ChangeAt Go.RowKit
theorem cells23 : Try.prog.cellsOf 23 = 3 := by kernel_rfl
theorem types23 : Try.prog.cellTypes Try.prog.depth 23 = some [21, 21, 21] := by kernel_rfl
theorem wf_i32 (n : Int) (h : (Lit.int .i32 n).wf = true) : -2147483648 ≤ n ∧ n ≤ 2147483647 := by
  have e1 : IntKind.i32.min = -2147483648 := by decide
  have e2 : IntKind.i32.max = 2147483647 := by decide
  simp [Lit.wf, e1, e2] at h
  omega
set_option maxRecDepth 100000 in
theorem cell_i32 {W : World} {r : Reach} {base : Nat} {v : Value} (h : Cell.okWide Try.prog W r base 21 v) : ∃ n : Int, v = .int .i32 n ∧ -2147483648 ≤ n ∧ n ≤ 2147483647 := by
  unfold Cell.okWide at h
  rw [Try.underlying21] at h
  unfold Cell.ok at h
  rw [Try.underlying21] at h
  cases v <;> simp at h
  rename_i k n
  obtain ⟨rfl, h⟩ := h
  refine ⟨n, rfl, ?_⟩
  have e1 : IntKind.i32.min = -2147483648 := by decide
  have e2 : IntKind.i32.max = 2147483647 := by decide
  unfold IntKind.has at h
  rw [e1, e2] at h
  exact h
set_option maxRecDepth 100000 in
theorem open_jamo {W : World} {r : Reach} {base : Nat} {v : Value} (hv : Value.okWide Try.prog W r base 23 v) : ∃ a b c : Int, v = .agg #[.int .i32 a, .int .i32 b, .int .i32 c] ∧ (-2147483648 ≤ a ∧ a ≤ 2147483647) ∧ (-2147483648 ≤ b ∧ b ≤ 2147483647) ∧ (-2147483648 ≤ c ∧ c ≤ 2147483647) := by
  obtain ⟨cs, rfl, hsz, ts, hts, _, hc⟩ : ∃ cs, v = .agg cs ∧ cs.size = Try.prog.cellsOf 23 ∧ Row.okWide Try.prog W r base 23 cs := by
    simpa [Value.okWide, Try.underlying23] using hv
  rw [cells23] at hsz
  rw [types23] at hts
  cases hts
  have at_ : ∀ i (h : i < 3), ∃ u, [21, 21, 21][i % 3]? = some u ∧ Cell.okWide Try.prog W r base u (cs[i]'(by omega)) := by
    intro i hi
    have hi' : cs[i]? = some (cs[i]'(by omega)) := by simp [hsz, hi]
    exact hc i _ hi'
  obtain ⟨u0, e0, h0⟩ := at_ 0 (by omega)
  obtain ⟨u1, e1, h1⟩ := at_ 1 (by omega)
  obtain ⟨u2, e2, h2⟩ := at_ 2 (by omega)
  simp at e0 e1 e2
  subst e0 e1 e2
  obtain ⟨a, ha, ra⟩ := cell_i32 h0
  obtain ⟨b, hb, rb⟩ := cell_i32 h1
  obtain ⟨c, hc', rc⟩ := cell_i32 h2
  refine ⟨a, b, c, ?_, ra, rb, rc⟩
  congr 1
  rw [← ha, ← hb, ← hc']
  apply Array.ext
  · simp [hsz]
  · intro i h1 h2
    match i, h1 with
    | 0, _ => rfl
    | 1, _ => rfl
    | 2, _ => rfl
    | i + 3, h => omega
end Go.Proofs.Ytdjdbabhcdfecaa
