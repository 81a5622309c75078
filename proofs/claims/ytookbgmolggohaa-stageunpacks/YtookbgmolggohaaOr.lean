/-
  A list of code points that came in: it reads as numbers that fit. No conditions.
-/
import Derived.Test.YtookbgmolggohaaOp
import Derived.Test.YtookbgmolggohaaSt
namespace Go.Proofs.Ytookbgmolggohaa
open Go.ChangeShapes Go.WideShapes Go.ChangeAt Go.RowKit
theorem bytes21 : Try.prog.bytesOf 21 = 4 := by kernel_rfl
set_option maxRecDepth 100000 in
theorem open_runes {H : Type} {enc : TypeId × Value → H} {W : World} {base : Nat} {v : Value} {d : DataW H} {p : List MemPlace} (hval : Value.okWide Try.prog W .any base 23 v) (h : DataW.Trod enc Try.prog W 0 (fun _ => true) true 23 v d p) :
    ∃ A : List Int, fit1 A ∧ Rd1 W v A ∧ ((d = .nil ∧ A = []) ∨ ∃ xs ys, xs.length = A.length ∧ d = .slice xs ys) := by
  obtain ⟨a0, len, cap, rfl⟩ := okWide_slice Try.underlying23 hval
  obtain ⟨fuel, hf⟩ := h
  rcases Go.Deep.open_slice Try.underlying23 hf with ⟨hcs, hx⟩ | ⟨a, len', cap', m, n, D, Pl, hcs, hb, hl, hm, hmm, hx, hcell⟩
  · simp [Value.cells] at hcs
    obtain ⟨rfl, rfl, rfl⟩ := hcs
    simp only [Prod.mk.injEq] at hx
    exact ⟨[], (fun s hs => by cases hs), ⟨none, 0, rfl, Nat.le_refl _, fun h => by simp at h⟩, .inl ⟨hx.1, rfl⟩⟩
  · simp [Value.cells] at hcs
    obtain ⟨rfl, rfl, rfl⟩ := hcs
    simp only [Prod.mk.injEq] at hx
    simp only [if_true] at hmm
    have each : ∀ i, i < m → ∃ q : Int, W.cell? (a.add i) = some (.int .i32 q) ∧ -2147483648 ≤ q ∧ q ≤ 2147483647 := by
      intro i hi
      obtain ⟨cs', h1, h2⟩ := hcell i hi
      rw [cells21] at h1
      obtain ⟨_, hlen, hcc⟩ := World.cells?_some h1
      match cs', hlen with
      | [v0], _ =>
        have e0 := hcc 0 (by omega)
        rw [Go.Deep.add_add] at e0
        obtain ⟨b0, rfl, w0⟩ := trod_kind Try.underlying21 h2
        simp [Lit.wf, IntKind.min, IntKind.max, IntKind.signed, IntKind.bits] at w0
        exact ⟨b0, by simpa using e0, w0.1, w0.2⟩
    obtain ⟨q, hq⟩ := Go.Deep.choose_lt each
    refine ⟨(List.range len).map q, fun s hs => ?_, ⟨some a, cap, by simp, by simpa using hl, fun hp => ?_⟩, .inr ⟨_, _, by simp, hx.1⟩⟩
    · obtain ⟨i, hi, rfl⟩ := List.mem_map.1 hs
      exact (hq i (by have := List.mem_range.1 hi; omega)).2
    · rw [List.length_map, List.length_range] at hp
      obtain ⟨g, off, spot⟩ := a
      have hspot : spot = none := by simpa [Addr.add] using World.cell?_spot (hq 0 (by omega)).1
      subst hspot
      refine ⟨g, off, rfl, fun j hj => ?_⟩
      rw [List.length_map, List.length_range] at hj
      obtain ⟨h1, -⟩ := hq j (by omega)
      rw [Go.WideShapes.add_plain] at h1
      have e : ((List.range len).map q).getD j 0 = q j := by simp [List.getD, hj]
      rw [e]
      exact h1
end Go.Proofs.Ytookbgmolggohaa
