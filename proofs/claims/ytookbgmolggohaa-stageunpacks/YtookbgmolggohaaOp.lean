/-
  A list of rows that came in: it reads as numbers that fit.
-/
import Derived.Test.YtookbgmolggohaaMe
import Derived.Deep.SlicePairs
import Derived.WalkKit
import Derived.ProofKit
import Derived.OpenShut
import Derived.ShutString
import Derived.ChangeOld
import Derived.Below
import Derived.SizedLaws
import Derived.Laws.IdiomArrays
namespace Go.Proofs.Ytookbgmolggohaa
open Go.ChangeShapes Go.WideShapes Go.ChangeAt Go.RowKit
theorem trod_kind {H : Type} {enc : TypeId × Value → H} {P : Program} {w : World} {base : Nat} {spare : Nat → Bool} {held : Bool} {e : TypeId} {n : Nat} {v : Value} {k : IntKind} {x : DataW H × List MemPlace} (he : P.underlying e = some (.int k)) (h : DataW.trod enc P w base spare held n e [v] = some x) : ∃ b, v = .int k b ∧ (Lit.int k b).wf = true := by
  cases n with
  | zero => simp [DataW.trod] at h
  | succ n =>
    simp only [DataW.trod, he] at h
    cases v <;> simp at h
    obtain ⟨⟨rfl, h2⟩, -⟩ := h
    exact ⟨_, rfl, h2⟩
theorem cells62 : Try.prog.cellsOf 62 = 3 := by kernel_rfl
theorem cells21 : Try.prog.cellsOf 21 = 1 := by kernel_rfl
theorem cells3 : Try.prog.cellsOf 3 = 1 := by kernel_rfl
theorem bytes62 : Try.prog.bytesOf 62 = 16 := by kernel_rfl
set_option maxRecDepth 100000 in
theorem open_rows {H : Type} {enc : TypeId × Value → H} {W : World} {base : Nat} {v : Value} {d : DataW H} {p : List MemPlace} (hval : Value.okWide Try.prog W .any base 22 v) (h : DataW.Trod enc Try.prog W 0 (fun _ => true) true 22 v d p) :
    ∃ L : List Rw, fit3 L ∧ Rd3 .i32 W v L ∧ ((d = .nil ∧ L = []) ∨ ∃ xs ys, xs.length = L.length ∧ d = .slice xs ys) := by
  obtain ⟨a0, len, cap, rfl⟩ := okWide_slice Try.underlying22 hval
  obtain ⟨fuel, hf⟩ := h
  rcases Go.Deep.open_slice Try.underlying22 hf with ⟨hcs, hx⟩ | ⟨a, len', cap', m, n, D, Pl, hcs, hb, hl, hm, hmm, hx, hcell⟩
  · simp [Value.cells] at hcs
    obtain ⟨rfl, rfl, rfl⟩ := hcs
    simp only [Prod.mk.injEq] at hx
    exact ⟨[], (fun s hs => by cases hs), ⟨none, 0, rfl, Nat.le_refl _, fun h => by simp at h⟩, .inl ⟨hx.1, rfl⟩⟩
  · simp [Value.cells] at hcs
    obtain ⟨rfl, rfl, rfl⟩ := hcs
    simp only [Prod.mk.injEq] at hx
    simp only [if_true] at hmm
    have each : ∀ i, i < m → ∃ q : Rw, W.cell? (a.add (i * 3)) = some (.int .i32 q.1) ∧ W.cell? (a.add (i * 3 + 1)) = some (.int .i32 q.2.1) ∧ W.cell? (a.add (i * 3 + 2)) = some (.int .i64 q.2.2) ∧
        -2147483648 ≤ q.1 ∧ q.1 ≤ 2147483647 ∧ -2147483648 ≤ q.2.1 ∧ q.2.1 ≤ 2147483647 ∧ -9223372036854775808 ≤ q.2.2 ∧ q.2.2 ≤ 9223372036854775807 := by
      intro i hi
      obtain ⟨cs', h1, h2⟩ := hcell i hi
      rw [cells62] at h1
      obtain ⟨_, hlen, hcc⟩ := World.cells?_some h1
      obtain ⟨xs, k, hk, hxy, _, hxl, hff⟩ := DataW.trod_struct Try.underlying62 h2
      match xs, hxl, cs', hlen with
      | [y0, y1, y2], _, [v0, v1, v2], _ =>
        have g0 := hff 0 _ rfl
        have g1 := hff 1 _ rfl
        have g2 := hff 2 _ rfl
        simp [cells21, cells3] at g0 g1 g2
        have e0 := hcc 0 (by omega)
        have e1 := hcc 1 (by omega)
        have e2 := hcc 2 (by omega)
        rw [Go.Deep.add_add] at e0 e1 e2
        obtain ⟨b0, rfl, w0⟩ := trod_kind Try.underlying21 g0
        obtain ⟨b1, rfl, w1⟩ := trod_kind Try.underlying21 g1
        obtain ⟨b2, rfl, w2⟩ := trod_kind Try.underlying3 g2
        simp [Lit.wf, IntKind.min, IntKind.max, IntKind.signed, IntKind.bits] at w0 w1 w2
        exact ⟨(b0, b1, b2), by simpa using e0, by simpa using e1, by simpa using e2, w0.1, w0.2, w1.1, w1.2, w2.1, w2.2⟩
    obtain ⟨q, hq⟩ := Go.Deep.choose_lt each
    refine ⟨(List.range len).map q, fun s hs => ?_, ⟨some a, cap, by simp, by simpa using hl, fun hp => ?_⟩, .inr ⟨_, _, by simp, hx.1⟩⟩
    · obtain ⟨i, hi, rfl⟩ := List.mem_map.1 hs
      exact (hq i (by have := List.mem_range.1 hi; omega)).2.2.2
    · rw [List.length_map, List.length_range] at hp
      obtain ⟨g, off, spot⟩ := a
      have hspot : spot = none := by simpa [Addr.add] using World.cell?_spot (hq 0 (by omega)).1
      subst hspot
      refine ⟨g, off, rfl, fun j hj => ?_⟩
      rw [List.length_map, List.length_range] at hj
      obtain ⟨h1, h2, h3, -⟩ := hq j (by omega)
      rw [Go.WideShapes.add_plain] at h1 h2 h3
      have e : ((List.range len).map q).getD j (0, 0, 0) = q j := by simp [List.getD, hj]
      rw [e]
      exact ⟨h1, by rw [Nat.add_assoc]; exact h2, by rw [Nat.add_assoc]; exact h3⟩
end Go.Proofs.Ytookbgmolggohaa
