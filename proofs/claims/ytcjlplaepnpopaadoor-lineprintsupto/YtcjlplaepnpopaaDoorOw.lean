/-
  Rows of the call's own.
-/
import Derived.Test.YtcjlplaepnpopaaDoorProg
import Derived.KernelRfl
import Derived.WalkKit
import Derived.OwnWalk
import Derived.Laws.AppendOwn
import Derived.WalkSmall
namespace Go.Proofs.YtcjlplaepnpopaaDoor
open Go.RowKit
/-- A slice of the call's own that holds these numbers. -/
def Rw (kd : IntKind) (e b : Nat) (w : World) (v : Value) (zs : List Int) : Prop := w.ownsRow b e 1 v zs.length (zs.map fun z => Value.int kd z)
/-- A slice that reads as these numbers. -/
def Rds (kd : IntKind) (w : World) (v : Value) (zs : List Int) : Prop :=
  ∃ a c, v = .slice a zs.length c ∧ (0 < zs.length → ∃ g off, a = some ⟨g, off, none⟩ ∧ ∀ j, j < zs.length → w.cell? ⟨g, off + j, none⟩ = some (.int kd (zs.getD j 0)))
theorem Rds.below {kd : IntKind} {w w' : World} {v : Value} {zs : List Int} (h : Rds kd w v zs) (hb : Below w.heap.size w w') : Rds kd w' v zs := by
  obtain ⟨a, c, rfl, hc⟩ := h
  refine ⟨a, c, rfl, fun hp => ?_⟩
  obtain ⟨g, off, rfl, hd⟩ := hc hp
  refine ⟨g, off, rfl, fun j hj => ?_⟩
  have := World.block_lt_of_cell? w _ (hd j hj)
  exact (hb.cell (p := ⟨g, off + j, none⟩) (by simpa using this)).trans (hd j hj)
theorem owns_slice {W : World} {b e size n : Nat} {v : Value} {xs : List Value} (h : W.ownsRow b e size v n xs) : ∃ a c, v = .slice a n c ∧ (0 < n → ∃ g, a = some ⟨g, 0, none⟩) := by
  obtain ⟨_, ⟨rfl, h0⟩ | ⟨g, cap, cur, rfl, _⟩⟩ := h
  · exact ⟨none, 0, by rw [h0], fun h => by omega⟩
  · exact ⟨_, _, rfl, fun _ => ⟨g, rfl⟩⟩
theorem owns_cell {W : World} {b e size n : Nat} {v : Value} {xs : List Value} (h : W.ownsRow b e size v n xs) {g cap : Nat} (hv : v = .slice (some ⟨g, 0, none⟩) n cap) (i : Nat) (u : Value) (hi : xs[i]? = some u) : W.cell? ⟨g, i, none⟩ = some u := by
  obtain ⟨h1, ⟨h2, _⟩ | ⟨g', cap', cur, rfl, h3, h4, h5, h6, h7, h8⟩⟩ := h
  · rw [h2] at hv; cases hv
  · cases hv
    have hl : i < n * size := by rw [← h1]; exact (List.getElem?_eq_some_iff.1 hi).1
    rw [← h8, List.getElem?_take_of_lt hl, Array.getElem?_toList] at hi
    simp [World.cell?, h4, hi]
theorem owns_below {W W' : World} {b e size n : Nat} {v : Value} {xs : List Value} (h : W.ownsRow b e size v n xs) (hb : Below W.heap.size W W') : W'.ownsRow b e size v n xs := by
  obtain ⟨h1, h2 | ⟨g, cap, cur, rfl, h3, h4, h5⟩⟩ := h
  · exact ⟨h1, .inl h2⟩
  · exact ⟨h1, .inr ⟨g, cap, cur, rfl, h3, (hb.block g (Array.getElem?_eq_some_iff.1 h4).1).trans h4, h5⟩⟩
theorem Rw.below {kd : IntKind} {e b : Nat} {w w' : World} {v : Value} {zs : List Int} (h : Rw kd e b w v zs) (hb : Below w.heap.size w w') : Rw kd e b w' v zs := owns_below h hb
theorem Rw.base {kd : IntKind} {e b b' : Nat} {w : World} {v : Value} {zs : List Int} (h : Rw kd e b w v zs) (hb : b' ≤ b) : Rw kd e b' w v zs := by
  obtain ⟨h1, h2 | ⟨g, cap, cur, rfl, h3, h4⟩⟩ := h
  · exact ⟨h1, .inl h2⟩
  · exact ⟨h1, .inr ⟨g, cap, cur, rfl, Nat.le_trans hb h3, h4⟩⟩
theorem Rw.rds {kd : IntKind} {w : World} {b e : Nat} {v : Value} {zs : List Int} (h : Rw kd e b w v zs) : Rds kd w v zs := by
  obtain ⟨a, c, rfl, hn⟩ := owns_slice h
  refine ⟨a, c, rfl, fun hp => ?_⟩
  obtain ⟨g, rfl⟩ := hn hp
  refine ⟨g, 0, rfl, fun j hj => ?_⟩
  rw [Nat.zero_add]
  exact owns_cell h rfl j _ (by simp [List.getD, List.getElem?_eq_getElem hj])
theorem Rw.nil (kd : IntKind) (e b : Nat) (w : World) : Rw kd e b w (.slice none 0 0) [] := World.ownsRow_nil _ _ _ _
theorem heap_new (w : World) (o : Obj) : (w.alloc o).heap[w.heap.size]? = some o := by
  show (w.heap.push o)[w.heap.size]? = some o
  simp
theorem cells_new (w : World) (xs : Array Value) (t : TypeId) : ∀ j u, xs.toList[j]? = some u → (w.alloc (.cells xs t)).cell? ((⟨w.heap.size, 0, none⟩ : Addr).add j) = some u := by
  intro j u hj
  have h := heap_new w (.cells xs t)
  simp only [Array.getElem?_toList] at hj
  obtain ⟨W, hW⟩ : ∃ W, w.alloc (.cells xs t) = W := ⟨_, rfl⟩
  rw [hW] at h ⊢
  cases j with
  | zero => simp [World.cell?, Addr.add, h, hj]
  | succ j => simp [World.cell?, Addr.add, h, hj]
/-- Below what an append leaves. -/
theorem grown_below {b : Nat} {W W2 : World} {v : Value} {e n size : Nat} {xs : List Value} {o : Obj} (hb : b ≤ W.heap.size) (ho : W.ownsRow b e size v n xs) (hg : (W.alloc o).grownBy W2 v.ownBlock) : Below b W W2 := by
  refine ((Below.refl b W).alloc hb o).grown hg (by simp; omega) (fun j hj => (ho.lt j hj).1)
theorem grown_alloc {W W2 : World} {o : Obj} {r : Option Nat} (hg : (W.alloc o).grownBy W2 r) : W.grownBy W2 r :=
  ⟨hg.os, hg.tape, hg.output, by have := hg.size; simp at this; omega, fun k hk hr => by
    rw [hg.block k (by simp; omega) hr]; exact ((Below.refl W.heap.size W).alloc (Nat.le_refl _) o).block k hk⟩
theorem info_parts {t : TypeId} {z : Value} {sz bt : Nat} (h : (Tryd.prog.info? t).map (fun i => (i.zero, i.size, i.bytes)) = some (some z, sz, bt)) : ∃ i, Tryd.prog.info? t = some i ∧ i.zero = some z ∧ i.size = sz ∧ i.bytes = bt := by
  cases hi : Tryd.prog.info? t with
  | none => rw [hi] at h; cases h
  | some i =>
    rw [hi] at h
    simp only [Option.map_some, Option.some.injEq, Prod.mk.injEq] at h
    exact ⟨i, rfl, h.1, h.2.1, h.2.2⟩
theorem info9 : (Tryd.prog.info? 9).map (fun i => (i.zero, i.size, i.bytes)) = some (some (.string ⟨#[]⟩), 1, 16) := by kernel_rfl
/-- A row of texts of the call's own. -/
def RwS (b : Nat) (w : World) (v : Value) (L : List ByteArray) : Prop := w.ownsRow b 9 1 v L.length (L.map Value.string)
theorem RwS.below {b : Nat} {w w' : World} {v : Value} {L : List ByteArray} (h : RwS b w v L) (hb : Below w.heap.size w w') : RwS b w' v L := owns_below h hb
/-- An append of one text to a row of the call's own. -/
theorem wpList_appS {ops : Array Oper} {rest : List Oper} {o : Oper} {a : Act} {Q : Exit → Act → World → Prop} {W : World} (hgd : o.guard = none) (s x : Operand) (t : TypeId)
    (ho : o.op = .call { callee := .builtin .append, args := #[s, x], argTypes := #[t, t] })
    (b : Nat) (ht : Tryd.prog.underlying t = some (.slice 9))
    (v : Value) (L : List ByteArray) (z : ByteArray) (hs : a.eval s = v) (hown : RwS b W v L) (hx : a.eval x = .slice (some ⟨W.heap.size, 0, none⟩) 1 1) (hlen : L.length < 8000000000000) (hb : b ≤ W.heap.size)
    (h : ∀ v' w', Hid (RwS b w' v' (L ++ [z])) → Hid (W.grownBy w' v.ownBlock) → Hid (Below b W w') → wpList Tryd.prog ops Q rest (a.put o.dst v') w') :
    wpList Tryd.prog ops Q (o :: rest) a (W.alloc (.cells #[.string z] 9)) := by
  obtain ⟨i0, hi, hz0, hz1, hz2⟩ := info_parts info9
  refine wpList_append_own _ hgd _ _ t ho b 9 i0 (.string ⟨#[]⟩) 1 16 ht hi hz0 hz1 hz2 rfl (by decide) v L.length _ hs (hown.alloc _) ⟨W.heap.size, 0, none⟩ 1 1 [.string z] hx rfl (cells_new W #[.string z] 9) (by simp [Value.oneCell']) (by unfold maxLen; omega) (by omega) (by simp; omega) ?_
  intro v' w' h1 h2 _
  refine h v' w' ?_ (grown_alloc h2) (grown_below hb hown h2)
  unfold Hid RwS
  rw [List.map_append, List.length_append]
  exact h1
end Go.Proofs.YtcjlplaepnpopaaDoor
