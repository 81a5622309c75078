/-
  The law StageSwaps, in one. Conditions: the numbers fit; the list takes no more bytes than there are. And an argument of four numbers that came in.
-/
import Derived.Test.YtookbgmolggohabNg
import Derived.Test.YtookbgmolggohabNh
import Derived.WalkKit
import Derived.ProofKit
import Derived.OpenShut
import Derived.ChangeOld
import Derived.Laws.IdiomArrays
namespace Go.Proofs.Ytookbgmolggohab
open Go.ChangeShapes Go.WideShapes Go.ChangeAt Go.RowKit
theorem law_swaps (L : List Rw) (v : Value) (N M A E : Int) (w : World) (hr : Rd3 .i32 w v L) (hf : fit3 L) (hl : L.length ≤ 8796093022208) : Calls Try.prog 6 #[v, .agg #[.int .i64 N, .int .i64 M, .int .i32 A, .int .i32 E]] w fun e w' => e = .returned (.bool true) ∧ Below w.heap.size w w' := by
  by_cases h : (chk L).2 = 0 <;> by_cases hn : (0 ≤ N ∧ N ≤ 65535) ∧ (0 ≤ M ∧ M ≤ 65535) <;> by_cases hq : 0 ≤ A ∧ A ≤ E ∧ E ≤ 1114111
  · exact swaps_gnr L v N M A E w hr hf hl h hn.1 hn.2 hq.1 hq.2.1 hq.2.2
  · exact swaps_gnx L v N M A E w hr hf hl h hn.1 hn.2 hq
  · exact swaps_gxr L v N M A E w hr hf hl h hn hq.1 hq.2.1 hq.2.2
  · exact swaps_gxx L v N M A E w hr hf hl h hn hq
  · exact swaps_bnr L v N M A E w hr hf hl h hn.1 hn.2 hq.1 hq.2.1 hq.2.2
  · exact swaps_bnx L v N M A E w hr hf hl h hn.1 hn.2 hq
  · exact swaps_bxr L v N M A E w hr hf hl h hn hq.1 hq.2.1 hq.2.2
  · exact swaps_bxx L v N M A E w hr hf hl h hn hq
theorem cells64 : Try.prog.cellsOf 64 = 4 := by kernel_rfl
theorem types64 : Try.prog.cellTypes Try.prog.depth 64 = some [3, 3, 21, 21] := by kernel_rfl
set_option maxRecDepth 100000 in
theorem cell_int {W : World} {r : Reach} {base : Nat} {v : Value} {t : TypeId} {k : IntKind} (ht : Try.prog.underlying t = some (.int k)) (h : Cell.okWide Try.prog W r base t v) : ∃ n : Int, v = .int k n := by
  unfold Cell.okWide at h
  rw [ht] at h
  unfold Cell.ok at h
  rw [ht] at h
  cases v <;> simp at h
  rename_i k n
  obtain ⟨rfl, h⟩ := h
  exact ⟨n, rfl⟩
set_option maxRecDepth 100000 in
theorem open_ask {W : World} {r : Reach} {base : Nat} {v : Value} (hv : Value.okWide Try.prog W r base 64 v) : ∃ a b c d : Int, v = .agg #[.int .i64 a, .int .i64 b, .int .i32 c, .int .i32 d] := by
  obtain ⟨cs, rfl, hsz, ts, hts, _, hc⟩ : ∃ cs, v = .agg cs ∧ cs.size = Try.prog.cellsOf 64 ∧ Row.okWide Try.prog W r base 64 cs := by
    simpa [Value.okWide, Try.underlying64] using hv
  rw [cells64] at hsz
  rw [types64] at hts
  cases hts
  have at_ : ∀ i (h : i < 4), ∃ u, [3, 3, 21, 21][i % 4]? = some u ∧ Cell.okWide Try.prog W r base u (cs[i]'(by omega)) := by
    intro i hi
    have hi' : cs[i]? = some (cs[i]'(by omega)) := by simp [hsz, hi]
    exact hc i _ hi'
  obtain ⟨u0, e0, h0⟩ := at_ 0 (by omega)
  obtain ⟨u1, e1, h1⟩ := at_ 1 (by omega)
  obtain ⟨u2, e2, h2⟩ := at_ 2 (by omega)
  obtain ⟨u3, e3, h3⟩ := at_ 3 (by omega)
  simp at e0 e1 e2 e3
  subst e0 e1 e2 e3
  obtain ⟨a, ha⟩ := cell_int Try.underlying3 h0
  obtain ⟨b, hb⟩ := cell_int Try.underlying3 h1
  obtain ⟨c, hc'⟩ := cell_int Try.underlying21 h2
  obtain ⟨d, hd⟩ := cell_int Try.underlying21 h3
  refine ⟨a, b, c, d, ?_⟩
  congr 1
  rw [← ha, ← hb, ← hc', ← hd]
  apply Array.ext
  · simp [hsz]
  · intro i h1 h2
    match i, h1 with
    | 0, _ => rfl
    | 1, _ => rfl
    | 2, _ => rfl
    | 3, _ => rfl
    | i + 4, h => omega
end Go.Proofs.Ytookbgmolggohab
