/-
  A list of floats that came in: it reads as bits that fit.
-/
import Derived.Test.YtdhfkdopcphjlabEx2
import Derived.Deep.Slices
import Derived.Laws.Cover2
import Derived.WalkKit
import Derived.ProofKit
import Derived.OpenShut
import Derived.ShutString
import Derived.ChangeOld
import Derived.Below
import Derived.SizedLaws
import Derived.Laws.IdiomArrays
namespace Go.Proofs.Ytdhfkdopcphjlab
open Go.ChangeShapes Go.WideShapes Go.ChangeAt Go.RowKit
theorem trod_flt {H : Type} {enc : TypeId × Value → H} {P : Program} {w : World} {base : Nat} {spare : Nat → Bool} {held : Bool} {e : TypeId} {k : FloatKind} {n : Nat} {v : Value} {x : DataW H × List MemPlace} (he : P.underlying e = some (.float k)) (h : DataW.trod enc P w base spare held n e [v] = some x) : ∃ b, v = .float k b ∧ (Lit.float k b).wf = true := by
  cases n with
  | zero => simp [DataW.trod] at h
  | succ n =>
    simp only [DataW.trod, he] at h
    cases v <;> simp at h
    obtain ⟨⟨rfl, h2⟩, -⟩ := h
    exact ⟨_, rfl, h2⟩
theorem wf_f64 {b : Nat} (h : (Lit.float .f64 b).wf = true) : b < 18446744073709551616 := by simpa [Lit.wf] using h
theorem cells25 : Try.prog.cellsOf 22 = 1 := by kernel_rfl
theorem bytes25 : Try.prog.bytesOf 22 = 8 := by kernel_rfl
set_option maxRecDepth 100000 in
theorem open_f64s {H : Type} {enc : TypeId × Value → H} {W : World} {base : Nat} {v : Value} {d : DataW H} {p : List MemPlace} (hval : Value.okWide Try.prog W .any base 24 v) (h : DataW.Trod enc Try.prog W 0 (fun _ => true) true 24 v d p) :
    ∃ bs : List Nat, (∀ b ∈ bs, b < 18446744073709551616) ∧ Rd W v (flt bs) ∧ ((d = .nil ∧ bs = []) ∨ ∃ xs ys, xs.length = bs.length ∧ d = .slice xs ys) := by
  obtain ⟨a0, len, cap, rfl⟩ := okWide_slice Try.underlying24 hval
  obtain ⟨fuel, hf⟩ := h
  rcases Go.Deep.open_slice1 Try.underlying24 cells25 hf with ⟨hcs, hx⟩ | ⟨a, len', cap', m, n, V, D, Pl, hcs, _, hl, hm, hz, hx, hcell⟩
  · simp [Value.cells] at hcs
    obtain ⟨rfl, rfl, rfl⟩ := hcs
    simp only [Prod.mk.injEq] at hx
    exact ⟨[], by simp, ⟨none, 0, rfl, fun h => by simp [flt] at h⟩, .inl ⟨hx.1, rfl⟩⟩
  · simp [Value.cells] at hcs
    obtain ⟨rfl, rfl, rfl⟩ := hcs
    simp only [Prod.mk.injEq] at hx
    simp only [if_true] at hz
    have hbit : ∀ i, i < len → ∃ b, V i = .float .f64 b ∧ b < 18446744073709551616 := fun i hi => by
      obtain ⟨b, e1, e2⟩ := trod_flt Try.underlying22 (hcell i (by omega)).2
      exact ⟨b, e1, wf_f64 e2⟩
    let B : Nat → Nat := fun i => match V i with | .float _ b => b | _ => 0
    have hB : ∀ i, i < len → V i = .float .f64 (B i) ∧ B i < 18446744073709551616 := fun i hi => by
      obtain ⟨b, e1, e2⟩ := hbit i hi
      have : B i = b := by show (match V i with | .float _ b => b | _ => 0) = b; rw [e1]
      rw [this]
      exact ⟨e1, e2⟩
    refine ⟨(List.range len).map B, fun b hb => ?_, ⟨some a, cap, by rw [flt_len]; simp, fun hp => ?_⟩, .inr ⟨_, _, by simp, hx.1⟩⟩
    · obtain ⟨i, hi, rfl⟩ := List.mem_map.1 hb
      exact (hB i (List.mem_range.1 hi)).2
    · rw [flt_len, List.length_map, List.length_range] at hp
      obtain ⟨g, off, spot⟩ := a
      have hspot : spot = none := by simpa [Addr.add] using World.cell?_spot (hcell 0 (by omega)).1
      subst hspot
      refine ⟨g, off, rfl, fun j hj => ?_⟩
      rw [flt_len] at hj
      rw [flt_get _ j hj]
      rw [List.length_map, List.length_range] at hj
      have h1 := (hcell j (by omega)).1
      rw [Go.WideShapes.add_plain] at h1
      rw [h1, (hB j hj).1]
      simp [List.getD, hj]
theorem cap_f64s {H : Type} {enc : TypeId × Value → H} {W : World} {v : Value} {d : DataW H} {p : List MemPlace} (h : DataW.Trod enc Try.prog W 0 (fun _ => true) true 24 v d p) : ∀ q n c, v = .slice q n c → n ≤ c ∧ (q = none → c = 0) := fun q n c e => by
  subst e
  obtain ⟨fuel, hf⟩ := h
  rcases Go.Deep.open_slice1 Try.underlying24 cells25 hf with ⟨hcs, _⟩ | ⟨a, len', cap', _, _, _, _, _, hcs, _, hl, _⟩
  · simp [Value.cells] at hcs
    omega
  · simp [Value.cells] at hcs
    obtain ⟨rfl, rfl, rfl⟩ := hcs
    exact ⟨by omega, fun h => by cases h⟩
end Go.Proofs.Ytdhfkdopcphjlab
