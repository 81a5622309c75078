/-
  A change that came in: its lists read as numbers, its text and its number fit. No conditions.
-/
import Derived.Test.YtookbgmolggohaaOr
import Derived.Test.YtookbgmolggohaaUi
import Derived.ChangeSlices
import Derived.SizedLaws
namespace Go.Proofs.Ytookbgmolggohaa
open Go.ChangeShapes Go.WideShapes Go.ChangeAt Go.RowKit
theorem cells57 : Try.prog.cellsOf 57 = 4 := by kernel_rfl
theorem cells54 : Try.prog.cellsOf 54 = 1 := by kernel_rfl
theorem cells55 : Try.prog.cellsOf 55 = 1 := by kernel_rfl
theorem cells9 : Try.prog.cellsOf 9 = 1 := by kernel_rfl
theorem cells5 : Try.prog.cellsOf 5 = 1 := by kernel_rfl
theorem rdz_of {H : Type} {enc : TypeId × Value → H} {W : World} {t e : TypeId} {k : IntKind} {fuel : Nat} {v : Value} {x : DataW H × List MemPlace} (ht : Try.prog.underlying t = some (.slice e)) (he : Try.prog.underlying e = some (.int k)) (hc : Try.prog.cellsOf e = 1)
    (h : DataW.trod enc Try.prog W 0 (fun _ => true) true fuel t [v] = some x) : ∃ n, RdZ k W v n := by
  rcases open_ints ht he hc h with ⟨hcs, -⟩ | ⟨a, len, cap, zs, hcs, hb, hl, hm, hz, hx, hcell, -⟩
  · simp at hcs
    subst hcs
    exact ⟨0, none, 0, rfl, Nat.zero_le _, fun h => by omega⟩
  · simp at hcs
    subst hcs
    simp only [if_true] at hz
    refine ⟨len, some a, cap, rfl, by omega, fun hp => ?_⟩
    obtain ⟨g, off, spot⟩ := a
    have hspot : spot = none := by simpa [Addr.add] using World.cell?_spot (hcell 0 (by omega))
    subst hspot
    refine ⟨g, off, rfl, fun j hj => ⟨zs.getD j 0, ?_⟩⟩
    have h1 := hcell j (by omega)
    rw [Go.WideShapes.add_plain] at h1
    exact h1
set_option maxRecDepth 100000 in
theorem open_change {H : Type} {enc : TypeId × Value → H} {W : World} {base : Nat} {v : Value} {d : DataW H} {p : List MemPlace} (hval : Value.okWide Try.prog W .any base 57 v) (h : DataW.Trod enc Try.prog W 0 (fun _ => true) true 57 v d p) :
    ∃ vA vT nA nT Bh cut d0 d1 d3, v = .agg #[vA, vT, .string Bh, .int .i64 cut] ∧ RdZ .i64 W vA nA ∧ RdZ .u8 W vT nT ∧ -9223372036854775808 ≤ cut ∧ cut ≤ 9223372036854775807 ∧ d = .agg [d0, d1, .lit (.string Bh.data.toList), d3] := by
  obtain ⟨cs, rfl, hsz, -⟩ : ∃ cs, v = .agg cs ∧ cs.size = Try.prog.cellsOf 57 ∧ Row.okWide Try.prog W .any base 57 cs := by
    simpa [Value.okWide, Try.underlying57] using hval
  rw [cells57] at hsz
  obtain ⟨fuel, hf⟩ := h
  obtain ⟨xs, k, hk, hxy, _, hxl, hff⟩ := DataW.trod_struct Try.underlying57 hf
  obtain ⟨cs⟩ := cs
  match xs, hxl, cs, hsz with
  | [y0, y1, y2, y3], _, [v0, v1, v2, v3], _ =>
    have g0 := hff 0 _ rfl
    have g1 := hff 1 _ rfl
    have g2 := hff 2 _ rfl
    have g3 := hff 3 _ rfl
    simp [cells54, cells55, cells9, cells3, Value.cells] at g0 g1 g2 g3
    obtain ⟨nA, hA⟩ := rdz_of Try.underlying54 Try.underlying3 cells3 g0
    obtain ⟨nT, hT⟩ := rdz_of Try.underlying55 under5 cells5 g1
    obtain ⟨s, hs, hx2, hsl⟩ := DataW.trod_string Try.underlying9 g2
    obtain ⟨c, rfl, w3⟩ := trod_kind Try.underlying3 g3
    simp [Lit.wf, IntKind.min, IntKind.max, IntKind.signed, IntKind.bits] at w3
    simp at hs
    subst hs
    subst hx2
    simp only [Prod.mk.injEq] at hxy
    exact ⟨v0, v1, nA, nT, s, c, y0.1, y1.1, y3.1, rfl, hA, hT, w3.1, w3.2, by rw [hxy.1]; rfl⟩
theorem behind_small {H : Type} {ts : List TypeId} {ds : List (DataW H)} {j : Nat} {Bh : ByteArray} {d0 d1 d3 : DataW H} (h : (DataW.weightsEach Try.prog ts ds).all (· ≤ reachBytes) = true) (ht : ts[j]? = some 57) (hd : ds[j]? = some (.agg [d0, d1, .lit (.string Bh.data.toList), d3])) : Bh.size ≤ 140737488351232 := by
  have q : Bh.data.toList.length ∈ DataW.weightsEach Try.prog ts ds := by
    refine DataW.weights_mem_each ht hd _ ?_
    unfold DataW.weights
    rw [Try.underlying57]
    refine DataW.weights_mem_each (j := 2) (t := 9) (d := .lit (.string Bh.data.toList)) rfl rfl _ ?_
    simp [DataW.weights]
  have h1 : Bh.data.toList.length ≤ reachBytes := of_decide_eq_true (List.all_eq_true.1 h _ q)
  have h2 : Bh.size = Bh.data.toList.length := by simp only [ByteArray.size, Array.length_toList]
  have h3 : reachBytes = 140737488351232 := by decide
  omega
end Go.Proofs.Ytookbgmolggohaa
