/-
  What the statement of walks holds while it walks: its boxes and the two lists; all lie below N.
-/
import Derived.Test.YtddoanmhikldiabIu
namespace Go.Proofs.Ytddoanmhikldiab
open Go.RowKit Go.Shelf
def KeepN (N : Nat) (W W' : World) : Prop := ∀ k cs t fr, k < N → W.heap[k]? = some (.cells cs t fr) → W'.heap[k]? = some (.cells cs t fr)
theorem KeepN.of_below {N : Nat} {W W' : World} (h : Below W.heap.size W W') : KeepN N W W' := fun _ _ _ _ _ hk => below_at hk h
theorem KeepN.of_set {N : Nat} {W : World} {B : Nat} (h : N ≤ B) (v : Value) : KeepN N W (W.setCell ⟨B, 0, none⟩ v) := fun k _ _ _ hk hc => (heap_setCell_other W ⟨B, 0, none⟩ k v (by simp; omega)).trans hc
theorem KeepN.of_grown {N : Nat} {W W' : World} {row : Option Nat} (hg : W.grownBy W' row) (hr : ∀ r, row = some r → ∃ o : Obj, W.heap[r]? = some o ∧ o.isCells = false) : KeepN N W W' := fun k cs t fr _ hc =>
  (hg.block k (Array.getElem?_eq_some_iff.1 hc).1 (fun e => by obtain ⟨o, h1, h2⟩ := hr k e.symm; rw [hc] at h1; cases h1; cases h2)).trans hc
theorem KeepN.trans {N : Nat} {A B C : World} (h : KeepN N A B) (k : KeepN N B C) : KeepN N A C := fun i cs t fr hi hc => k i cs t fr hi (h i cs t fr hi hc)
theorem cells_at {W : World} {g o : Nat} {v : Value} (h : W.cell? ⟨g, o, none⟩ = some v) : ∃ cs t fr, W.heap[g]? = some (.cells cs t fr) := by
  obtain ⟨ob, h1, h2⟩ := cells_of_cell h
  cases ob <;> first | exact ⟨_, _, _, h1⟩ | cases h2
theorem KeepN.cell {N : Nat} {W W' : World} (h : KeepN N W W') {g o : Nat} {v : Value} (hg : g < N) (hc : W.cell? ⟨g, o, none⟩ = some v) : W'.cell? ⟨g, o, none⟩ = some v := by
  obtain ⟨cs, t, fr, h1⟩ := cells_at hc
  rw [World.cell?_of_block (a := ⟨g, o, none⟩) ((h g cs t fr hg h1).trans h1.symm)]
  exact hc
theorem KeepN.rd {N : Nat} {W W' : World} (h : KeepN N W W') {v : Value} {L : List Sn} (hN : ∀ k, v.ownBlock = some k → k < N) (hr : RdS W v L) : RdS W' v L := by
  obtain ⟨a, c, rfl, h1, h2⟩ := hr
  refine ⟨a, c, rfl, h1, fun h3 => ?_⟩
  obtain ⟨g, off, rfl, h4⟩ := h2 h3
  exact ⟨g, off, rfl, fun j hj => ⟨h.cell (hN g rfl) (h4 j hj).1, h.cell (hN g rfl) (h4 j hj).2⟩⟩
structure St (N : Nat) (S : List Sn) (left : Int) (vM vA : Value) (B3 B4 B5 B6 g : Nat) (W : World) : Prop where
  l3 : B3 < N
  l4 : B4 < N
  l5 : B5 < N
  l6 : B6 < N
  lg : g < N
  lM : ∀ k, vM.ownBlock = some k → k < N
  lA : ∀ k, vA.ownBlock = some k → k < N
  b3 : Boxed W B3 3 (.int .i64 left)
  b4 : ∃ x, Boxed W B4 4 (.bool x)
  b5 : Boxed W B5 23 vM
  b6 : Boxed W B6 28 (.func (.func 20) #[] #[.pointer (some ⟨g, 0, none⟩)])
  rM : RdS W vM S
  cg : W.cell? ⟨g, 0, none⟩ = some vA
  rA : RdS W vA S
theorem St.keep {N : Nat} {S : List Sn} {left : Int} {vM vA : Value} {B3 B4 B5 B6 g : Nat} {W W' : World} (h : St N S left vM vA B3 B4 B5 B6 g W) (hk : KeepN N W W') : St N S left vM vA B3 B4 B5 B6 g W' where
  l3 := h.l3
  l4 := h.l4
  l5 := h.l5
  l6 := h.l6
  lg := h.lg
  lM := h.lM
  lA := h.lA
  b3 := hk _ _ _ _ h.l3 h.b3
  b4 := by obtain ⟨x, hx⟩ := h.b4; exact ⟨x, hk _ _ _ _ h.l4 hx⟩
  b5 := hk _ _ _ _ h.l5 h.b5
  b6 := hk _ _ _ _ h.l6 h.b6
  rM := hk.rd h.lM h.rM
  cg := hk.cell h.lg h.cg
  rA := hk.rd h.lA h.rA
theorem st_own {β : Type} (N : Nat) (S : List Sn) (left : Int) (vM vA : Value) (B3 B4 B5 B6 g : Nat) : Own (fun (_ : β) W => St N S left vM vA B3 B4 B5 B6 g W) := fun _ _ _ _ hs hg hr => hs.keep (KeepN.of_grown hg hr)
theorem keeps_below {W W' : World} (h : Below W.heap.size W W') : KeepsOthers W W' := KeepsOthers.of_grownBy (grown_of h) (fun _ _ e => by cases e)
theorem KC.set {own : Nat → Prop} (W : World) (B : Nat) (v : Value) (h : own B) : KC own W (W.setCell ⟨B, 0, none⟩ v) :=
  ⟨by simp, fun p hp u hu => by
    rw [World.cell?_of_block (a := p) (heap_setCell_other W ⟨B, 0, none⟩ p.block v (fun e => hp (by have e : p.block = B := e; rw [e]; exact h)))]
    exact hu⟩
theorem kc_put {own : Nat → Prop} (W : World) (l : Nat) (o o' : Obj) (h : W.heap[l]? = some o) (hc : o.isCells = false) : KC own W (W.putObj l o') :=
  ⟨(grownBy_putObj' W l o').size, fun p _ u hu => cell_kept hu (grownBy_putObj' W l o') (fun r e => by cases e; exact ⟨o, h, hc⟩)⟩
noncomputable def body3 : Code := Try.f3.body.getD .skip
end Go.Proofs.Ytddoanmhikldiab
