/-
  How what is handed in comes in; what bulk says.
-/
import Derived.Test.YtahmeejcgddlhabRows
import Derived.Test.YtahmeejcgddlhabPg
import Derived.Test.YtahmeejcgddlhabPa
import Derived.WalkKit
import Derived.ProofKit
import Derived.OpenShut
namespace Go.Proofs.Ytahmeejcgddlhab
open Go.ChangeShapes Go.WideShapes Go.ChangeAt Go.RowKit
theorem cells21 : Try.prog.cellsOf 21 = 1 := by kernel_rfl
/-- A list of runes that came in, as its numbers. -/
theorem open_runes {H : Type} {enc : TypeId × Value → H} {W : World} {base : Nat} {v : Value} {d : DataW H} {p : List MemPlace} (hval : Value.okWide Try.prog W .any base 24 v) (h : DataW.Trod enc Try.prog W 0 (fun _ => true) true 24 v d p) :
    ∃ zs, Rds .i32 W v zs ∧ ((d = .nil ∧ zs = []) ∨ ∃ more, d = .slice (lits .i32 zs) (lits .i32 more)) := by
  obtain ⟨a0, len, cap, rfl⟩ := okWide_slice Try.underlying24 hval
  obtain ⟨fuel, hf⟩ := h
  rcases open_ints Try.underlying24 Try.underlying21 cells21 hf with ⟨hcs, hx⟩ | ⟨a, len', cap', zs, hcs, _, hl, hm, hz, hx, hcell, hwz⟩
  · simp [Value.cells] at hcs
    obtain ⟨rfl, rfl, rfl⟩ := hcs
    simp only [Prod.mk.injEq] at hx
    exact ⟨[], ⟨none, 0, rfl, fun h => by simp at h⟩, .inl ⟨hx.1, rfl⟩⟩
  · simp [Value.cells] at hcs
    obtain ⟨rfl, rfl, rfl⟩ := hcs
    simp only [Prod.mk.injEq] at hx
    simp only [if_true] at hz
    have hlen : (zs.take len).length = len := by rw [List.length_take]; omega
    refine ⟨zs.take len, ⟨_, cap, by rw [hlen], fun hp => ?_⟩, .inr ⟨zs.drop len, hx.1⟩⟩
    refine ints_at (a := a) (fun j hj => ?_) hp |>.elim fun b h => h.elim fun off h => ⟨b, off, by rw [h.1], h.2⟩
    rw [hlen] at hj
    rw [hcell j (by omega)]
    simp [List.getD, List.getElem?_take_of_lt hj]
theorem bulk_pos {H : Type} (d : DataW H) : 1 ≤ Rows.uptoBulk d := by
  unfold Rows.uptoBulk
  split <;> omega
theorem bulk_all {H : Type} : ∀ l : List (DataW H), l.length ≤ Rows.uptoBulkAll l
  | [] => by simp
  | d :: l => by
    have h1 := bulk_pos d
    have h2 := bulk_all l
    simp only [Rows.uptoBulkAll, List.length_cons]
    omega
theorem bulk_runes {H : Type} {d : DataW H} {zs : List Int} (h : (d = .nil ∧ zs = []) ∨ ∃ more, d = .slice (lits .i32 zs) (lits .i32 more)) : zs.length ≤ Rows.uptoBulk d := by
  rcases h with ⟨rfl, rfl⟩ | ⟨more, rfl⟩
  · simp
  · have := bulk_all (lits (H := H) .i32 zs)
    simp only [Rows.uptoBulk]
    simp only [lits, List.length_map] at this ⊢
    omega
theorem bulk_text {H : Type} (s : ByteArray) : Rows.uptoBulk (DataW.lit (H := H) (.string s.data.toList)) = s.size + 1 := by
  have e : s.data.toList.length = s.size := by rw [Array.length_toList]; rfl
  simp only [Rows.uptoBulk, e]
theorem cells23 : Try.prog.cellsOf 23 = 8 := by kernel_rfl
theorem types23 : Try.prog.cellTypes Try.prog.depth 23 = some [3, 3, 3, 3, 3, 3, 3, 5] := by kernel_rfl
set_option maxRecDepth 100000 in
theorem cell_int {W : World} {r : Reach} {base : Nat} {v : Value} (h : Cell.okWide Try.prog W r base 3 v) : ∃ n : Int, v = .int .i64 n := by
  unfold Cell.okWide at h
  rw [Try.underlying3] at h
  unfold Cell.ok at h
  rw [Try.underlying3] at h
  cases v <;> simp at h
  rename_i k n
  obtain ⟨rfl, _⟩ := h
  exact ⟨n, rfl⟩
set_option maxRecDepth 100000 in
theorem cell_u8 {W : World} {r : Reach} {base : Nat} {v : Value} (h : Cell.okWide Try.prog W r base 5 v) : ∃ n : Int, v = .int .u8 n ∧ 0 ≤ n ∧ n < 256 := by
  unfold Cell.okWide at h
  rw [Try.underlying5] at h
  unfold Cell.ok at h
  rw [Try.underlying5] at h
  cases v <;> simp at h
  rename_i k n
  obtain ⟨rfl, h1, h2⟩ := h
  have e1 : IntKind.u8.min = 0 := by decide
  have e2 : IntKind.u8.max = 255 := by decide
  rw [e1] at h1
  rw [e2] at h2
  exact ⟨n, rfl, h1, by omega⟩
set_option maxRecDepth 100000 in
theorem open_boot {W : World} {r : Reach} {base : Nat} {v : Value} (hv : Value.okWide Try.prog W r base 23 v) : ∃ p : Bt, 0 ≤ p.btw ∧ p.btw < 256 ∧ v = .agg (bv p) := by
  obtain ⟨cs, rfl, hsz, ts, hts, _, hc⟩ : ∃ cs, v = .agg cs ∧ cs.size = Try.prog.cellsOf 23 ∧ Row.okWide Try.prog W r base 23 cs := by
    simpa [Value.okWide, Try.underlying23] using hv
  rw [cells23] at hsz
  rw [types23] at hts
  cases hts
  have at_ : ∀ i (h : i < 8), ∃ u, [3, 3, 3, 3, 3, 3, 3, 5][i % 8]? = some u ∧ Cell.okWide Try.prog W r base u (cs[i]'(by omega)) := by
    intro i hi
    have hi' : cs[i]? = some (cs[i]'(by omega)) := by simp [hsz, hi]
    exact hc i _ hi'
  obtain ⟨u0, e0, h0⟩ := at_ 0 (by omega)
  obtain ⟨u1, e1, h1⟩ := at_ 1 (by omega)
  obtain ⟨u2, e2, h2⟩ := at_ 2 (by omega)
  obtain ⟨u3, e3, h3⟩ := at_ 3 (by omega)
  obtain ⟨u4, e4, h4⟩ := at_ 4 (by omega)
  obtain ⟨u5, e5, h5⟩ := at_ 5 (by omega)
  obtain ⟨u6, e6, h6⟩ := at_ 6 (by omega)
  obtain ⟨u7, e7, h7⟩ := at_ 7 (by omega)
  simp at e0 e1 e2 e3 e4 e5 e6 e7
  subst e0 e1 e2 e3 e4 e5 e6 e7
  obtain ⟨n0, k0⟩ := cell_int h0
  obtain ⟨n1, k1⟩ := cell_int h1
  obtain ⟨n2, k2⟩ := cell_int h2
  obtain ⟨n3, k3⟩ := cell_int h3
  obtain ⟨n4, k4⟩ := cell_int h4
  obtain ⟨n5, k5⟩ := cell_int h5
  obtain ⟨n6, k6⟩ := cell_int h6
  obtain ⟨n7, k7, l7, m7⟩ := cell_u8 h7
  refine ⟨⟨n0, n1, n2, n3, n4, n5, n6, n7⟩, l7, m7, ?_⟩
  congr 1
  unfold bv
  simp only
  rw [← k0, ← k1, ← k2, ← k3, ← k4, ← k5, ← k6, ← k7]
  apply Array.ext
  · simp [hsz]
  · intro i h1 h2
    match i, h1 with
    | 0, _ => rfl
    | 1, _ => rfl
    | 2, _ => rfl
    | 3, _ => rfl
    | 4, _ => rfl
    | 5, _ => rfl
    | 6, _ => rfl
    | 7, _ => rfl
    | i + 8, h => omega
end Go.Proofs.Ytahmeejcgddlhab
