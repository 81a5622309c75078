/-
  The contract of Pieces: the pieces of a text, in a list of the call's own. Conditions: the text's pieces take no more bytes than a list can; the library's two tables hold what their text lays.
-/
import Derived.Test.YtabofadjnbpjkacDoorDec
namespace Go.Proofs.YtabofadjnbpjkacDoor
open Go.RowKit Go.Lib Go.Shelf
attribute [local go_sem] Oper.semAt_some
theorem info34 : (Tryd.prog.info? 52).map (fun i => (i.zero, i.size, i.bytes)) = some (some (.agg #[.int .i64 0, .int .i64 0, .int .i32 0, .bool false]), 4, 24) := by kernel_rfl
/-- The pieces, as cells. -/
def pcsC (s : ByteArray) (l : List Nat) : List Value := l.flatMap fun k => (pcs s k).toList
theorem pcsC_snoc (s : ByteArray) (l : List Nat) (k : Nat) : pcsC s (l ++ [k]) = pcsC s l ++ (pcs s k).toList := by simp [pcsC]
theorem cells_new (w : World) (xs : Array Value) (t : TypeId) : ∀ j u, xs.toList[j]? = some u → (w.alloc (.cells xs t)).cell? ((⟨w.heap.size, 0, none⟩ : Addr).add j) = some u := by
  intro j u hj
  have h := World.alloc_heap_new w (.cells xs t)
  simp only [Array.getElem?_toList] at hj
  obtain ⟨W, hW⟩ : ∃ W, w.alloc (.cells xs t) = W := ⟨_, rfl⟩
  rw [hW] at h ⊢
  cases j with
  | zero => simp [World.cell?, Addr.add, h, hj]
  | succ j => simp [World.cell?, Addr.add, h, hj]
end Go.Proofs.YtabofadjnbpjkacDoor
