/-
  Integers of one kind in a block: they lie there and may be written; a store turns one of them; what does not turn the block keeps them. No condition.
-/
import Derived.WalkKit
import Derived.Below
namespace Go.Proofs.YtcjlplaepnpopaaDoor
open Go.RowKit
/-- Block b holds the integers f 0 .. f (n - 1) of kind kd, and they may be written. -/
def Cel (kd : IntKind) (wr : World) (b n : Nat) (f : Nat → Int) : Prop := ∀ j, j < n → wr.cell? ⟨b, j, none⟩ = some (.int kd (f j)) ∧ wr.frozen? ⟨b, j, none⟩ = false
variable {kd : IntKind} {wr : World} {b n : Nat} {f : Nat → Int}
theorem Cel.set (h : Cel kd wr b n f) (k : Nat) (v : Int) : Cel kd (wr.setCell ⟨b, k, none⟩ (.int kd v)) b n (fun j => if j = k then v else f j) := by
  intro j hj
  obtain ⟨hc, hf⟩ := h j hj
  refine ⟨?_, by rw [World.frozen?_setCell]; exact hf⟩
  by_cases e : j = k
  · subst e
    rw [World.cell?_setCell_same wr _ _ hc]
    simp
  · rw [World.cell?_setCell_other wr _ _ _ (fun q => e (congrArg Addr.off q).symm), hc]
    simp [e]
theorem Cel.congr {g : Nat → Int} (h : Cel kd wr b n f) (hfg : ∀ j, j < n → f j = g j) : Cel kd wr b n g := by
  intro j hj
  rw [← hfg j hj]
  exact h j hj
theorem Cel.below {B : Nat} {w1 : World} (h : Cel kd wr b n f) (hb : Below B wr w1) (hB : b < B) : Cel kd w1 b n f := by
  intro j hj
  rw [hb.cell hB, hb.frozen hB]
  exact h j hj
theorem Cel.drew (h : Cel kd wr b n f) : Cel kd wr.drew b n f := h
theorem Cel.lt (h : Cel kd wr b n f) (hn : 0 < n) : b < wr.heap.size := by
  have h0 := (h 0 hn).1
  by_cases hlt : b < wr.heap.size
  · exact hlt
  · have hn : wr.heap[b]? = none := by simp; omega
    simp [World.cell?, hn] at h0
theorem Cel.alloc (h : Cel kd wr b n f) (hn : 0 < n) (o : Obj) : Cel kd (wr.alloc o) b n f :=
  h.below ((Below.refl wr.heap.size wr).alloc (Nat.le_refl _) o) (h.lt hn)
/-- A store into another block. -/
theorem Cel.far (h : Cel kd wr b n f) (a : Addr) (ha : a.block ≠ b) (u : Value) : Cel kd (wr.setCell a u) b n f := by
  intro j hj
  obtain ⟨hc, hf⟩ := h j hj
  refine ⟨?_, by rw [World.frozen?_setCell]; exact hf⟩
  rw [World.cell?_setCell_other wr _ _ _ (fun q => ha (congrArg Addr.block q)), hc]
/-- A block that was just made. -/
theorem Cel.new (w : World) (c : Array Value) (t : TypeId) (hc : ∀ j, j < n → c[j]? = some (.int kd (f j))) : Cel kd (w.alloc (.cells c t)) w.heap.size n f := by
  intro j hj
  refine ⟨?_, ?_⟩
  · rw [World.cell?_alloc_at _ _ _ _ rfl]
    exact hc j hj
  · exact World.frozen?_alloc_at _ _ _ _ rfl
end Go.Proofs.YtcjlplaepnpopaaDoor
