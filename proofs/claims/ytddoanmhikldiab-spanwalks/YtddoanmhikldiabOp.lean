/-
  A list of spans that came in: it reads as numbers that fit.
-/
import Derived.Test.YtddoanmhikldiabRd
import Derived.Deep.SlicePairs
import Derived.WalkKit
import Derived.ProofKit
import Derived.OpenShut
import Derived.ShutString
import Derived.ChangeOld
import Derived.Below
import Derived.SizedLaws
import Derived.Laws.IdiomArrays
namespace Go.Proofs.Ytddoanmhikldiab
open Go.ChangeShapes Go.WideShapes Go.ChangeAt Go.RowKit
theorem trod_i32 {H : Type} {enc : TypeId × Value → H} {P : Program} {w : World} {base : Nat} {spare : Nat → Bool} {held : Bool} {e : TypeId} {n : Nat} {v : Value} {x : DataW H × List MemPlace} (he : P.underlying e = some (.int .i32)) (h : DataW.trod enc P w base spare held n e [v] = some x) : ∃ b, v = .int .i32 b ∧ -2147483648 ≤ b ∧ b ≤ 2147483647 := by
  cases n with
  | zero => simp [DataW.trod] at h
  | succ n =>
    simp only [DataW.trod, he] at h
    cases v <;> simp at h
    obtain ⟨⟨rfl, h2⟩, -⟩ := h
    refine ⟨_, rfl, ?_⟩
    simp [Lit.wf, IntKind.min, IntKind.max, IntKind.signed, IntKind.bits] at h2
    exact h2
theorem cells57 : Try.prog.cellsOf 41 = 2 := by kernel_rfl
theorem cells21 : Try.prog.cellsOf 21 = 1 := by kernel_rfl
theorem bytes57 : Try.prog.bytesOf 41 = 8 := by kernel_rfl
set_option maxRecDepth 100000 in
theorem open_spans {H : Type} {enc : TypeId × Value → H} {W : World} {base : Nat} {v : Value} {d : DataW H} {p : List MemPlace} (hval : Value.okWide Try.prog W .any base 22 v) (h : DataW.Trod enc Try.prog W 0 (fun _ => true) true 22 v d p) :
    ∃ L : List Sn, fitS L ∧ RdS W v L ∧ ((d = .nil ∧ L = []) ∨ ∃ xs ys, xs.length = L.length ∧ d = .slice xs ys) := by
  obtain ⟨a0, len, cap, rfl⟩ := okWide_slice Try.underlying22 hval
  obtain ⟨fuel, hf⟩ := h
  rcases Go.Deep.open_slice_pairs Try.underlying22 Try.underlying41 cells57 rfl rfl cells21 cells21 hf with ⟨hcs, hx⟩ | ⟨a, len', cap', m, n, V0, V1, D0, D1, P0, P1, hcs, _, hl, hm, hz, hx, hcell⟩
  · simp [Value.cells] at hcs
    obtain ⟨rfl, rfl, rfl⟩ := hcs
    simp only [Prod.mk.injEq] at hx
    exact ⟨[], (fun s hs => by cases hs), ⟨none, 0, rfl, Nat.le_refl _, fun h => by simp at h⟩, .inl ⟨hx.1, rfl⟩⟩
  · simp [Value.cells] at hcs
    obtain ⟨rfl, rfl, rfl⟩ := hcs
    simp only [Prod.mk.injEq] at hx
    simp only [if_true] at hz
    let B0 : Nat → Int := fun i => intOf (V0 i)
    let B1 : Nat → Int := fun i => intOf (V1 i)
    have hB0 : ∀ i, i < len → V0 i = .int .i32 (B0 i) ∧ -2147483648 ≤ B0 i ∧ B0 i ≤ 2147483647 := fun i hi => by
      obtain ⟨b, e1, e2⟩ := trod_i32 Try.underlying21 (hcell i (by omega)).2.2.1
      have : B0 i = b := by show intOf (V0 i) = b; rw [e1]; rfl
      rw [this]
      exact ⟨e1, e2⟩
    have hB1 : ∀ i, i < len → V1 i = .int .i32 (B1 i) ∧ -2147483648 ≤ B1 i ∧ B1 i ≤ 2147483647 := fun i hi => by
      obtain ⟨b, e1, e2⟩ := trod_i32 Try.underlying21 (hcell i (by omega)).2.2.2
      have : B1 i = b := by show intOf (V1 i) = b; rw [e1]; rfl
      rw [this]
      exact ⟨e1, e2⟩
    refine ⟨(List.range len).map fun i => (B0 i, B1 i), fun s hs => ?_, ⟨some a, cap, by simp, by simpa using hl, fun hp => ?_⟩, .inr ⟨_, _, by simp, hx.1⟩⟩
    · obtain ⟨i, hi, rfl⟩ := List.mem_map.1 hs
      have h1 := (hB0 i (List.mem_range.1 hi)).2
      have h2 := (hB1 i (List.mem_range.1 hi)).2
      exact ⟨h1.1, h1.2, h2.1, h2.2⟩
    · rw [List.length_map, List.length_range] at hp
      obtain ⟨g, off, spot⟩ := a
      have hspot : spot = none := by simpa [Addr.add] using World.cell?_spot (hcell 0 (by omega)).1
      subst hspot
      refine ⟨g, off, rfl, fun j hj => ?_⟩
      rw [List.length_map, List.length_range] at hj
      have h1 := (hcell j (by omega)).1
      have h2 := (hcell j (by omega)).2.1
      rw [Go.WideShapes.add_plain] at h1 h2
      have e : ((List.range len).map fun i => (B0 i, B1 i)).getD j (0, 0) = (B0 j, B1 j) := by simp [List.getD, hj]
      rw [e]
      exact ⟨by rw [h1, (hB0 j hj).1], by rw [Nat.add_assoc, h2, (hB1 j hj).1]⟩
end Go.Proofs.Ytddoanmhikldiab
