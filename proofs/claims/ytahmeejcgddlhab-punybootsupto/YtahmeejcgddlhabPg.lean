/-
  Slices of the call's own and slices that read as numbers; an append of one number; a text of bytes.
-/
import Derived.Test.YtahmeejcgddlhabPf
import Derived.Test.YtahmeejcgddlhabPh
import Derived.OwnWalk
import Derived.Laws.AppendOwn
import Derived.Laws.BytesArg
namespace Go.Proofs.Ytahmeejcgddlhab
open Go.RowKit
/-- A slice of the call's own that holds these numbers. -/
def Rw (kd : IntKind) (e b : Nat) (w : World) (v : Value) (zs : List Int) : Prop := w.ownsRow b e 1 v zs.length (zs.map fun z => Value.int kd z)
/-- A slice that reads as these numbers. -/
def Rds (kd : IntKind) (w : World) (v : Value) (zs : List Int) : Prop :=
  ∃ a c, v = .slice a zs.length c ∧ (0 < zs.length → ∃ g off, a = some ⟨g, off, none⟩ ∧ ∀ j, j < zs.length → w.cell? ⟨g, off + j, none⟩ = some (.int kd (zs.getD j 0)))
theorem Rds.below {kd : IntKind} {w w' : World} {v : Value} {zs : List Int} (h : Rds kd w v zs) (hb : Below w.heap.size w w') : Rds kd w' v zs := by
  obtain ⟨a, c, rfl, hc⟩ := h
  refine ⟨a, c, rfl, fun hp => ?_⟩
  obtain ⟨g, off, rfl, hd⟩ := hc hp
  refine ⟨g, off, rfl, fun j hj => ?_⟩
  have := World.block_lt_of_cell? w _ (hd j hj)
  exact (hb.cell (p := ⟨g, off + j, none⟩) (by simpa using this)).trans (hd j hj)
theorem owns_slice {W : World} {b e size n : Nat} {v : Value} {xs : List Value} (h : W.ownsRow b e size v n xs) : ∃ a c, v = .slice a n c ∧ (0 < n → ∃ g, a = some ⟨g, 0, none⟩) := by
  obtain ⟨_, ⟨rfl, h0⟩ | ⟨g, cap, cur, rfl, _⟩⟩ := h
  · exact ⟨none, 0, by rw [h0], fun h => by omega⟩
  · exact ⟨_, _, rfl, fun _ => ⟨g, rfl⟩⟩
theorem owns_cell {W : World} {b e size n : Nat} {v : Value} {xs : List Value} (h : W.ownsRow b e size v n xs) {g cap : Nat} (hv : v = .slice (some ⟨g, 0, none⟩) n cap) (i : Nat) (u : Value) (hi : xs[i]? = some u) : W.cell? ⟨g, i, none⟩ = some u := by
  obtain ⟨h1, ⟨h2, _⟩ | ⟨g', cap', cur, rfl, h3, h4, h5, h6, h7, h8⟩⟩ := h
  · rw [h2] at hv; cases hv
  · cases hv
    have hl : i < n * size := by rw [← h1]; exact (List.getElem?_eq_some_iff.1 hi).1
    rw [← h8, List.getElem?_take_of_lt hl, Array.getElem?_toList] at hi
    simp [World.cell?, h4, hi]
theorem owns_below {W W' : World} {b e size n : Nat} {v : Value} {xs : List Value} (h : W.ownsRow b e size v n xs) (hb : Below W.heap.size W W') : W'.ownsRow b e size v n xs := by
  obtain ⟨h1, h2 | ⟨g, cap, cur, rfl, h3, h4, h5⟩⟩ := h
  · exact ⟨h1, .inl h2⟩
  · exact ⟨h1, .inr ⟨g, cap, cur, rfl, h3, (hb.block g (Array.getElem?_eq_some_iff.1 h4).1).trans h4, h5⟩⟩
theorem Rw.below {kd : IntKind} {e b : Nat} {w w' : World} {v : Value} {zs : List Int} (h : Rw kd e b w v zs) (hb : Below w.heap.size w w') : Rw kd e b w' v zs := owns_below h hb
theorem Rw.base {kd : IntKind} {e b b' : Nat} {w : World} {v : Value} {zs : List Int} (h : Rw kd e b w v zs) (hb : b' ≤ b) : Rw kd e b' w v zs := by
  obtain ⟨h1, h2 | ⟨g, cap, cur, rfl, h3, h4⟩⟩ := h
  · exact ⟨h1, .inl h2⟩
  · exact ⟨h1, .inr ⟨g, cap, cur, rfl, Nat.le_trans hb h3, h4⟩⟩
theorem Rw.rds {kd : IntKind} {w : World} {b e : Nat} {v : Value} {zs : List Int} (h : Rw kd e b w v zs) : Rds kd w v zs := by
  obtain ⟨a, c, rfl, hn⟩ := owns_slice h
  refine ⟨a, c, rfl, fun hp => ?_⟩
  obtain ⟨g, rfl⟩ := hn hp
  refine ⟨g, 0, rfl, fun j hj => ?_⟩
  rw [Nat.zero_add]
  exact owns_cell h rfl j _ (by simp [List.getD, List.getElem?_eq_getElem hj])
theorem Rw.nil (kd : IntKind) (e b : Nat) (w : World) : Rw kd e b w (.slice none 0 0) [] := World.ownsRow_nil _ _ _ _
theorem heap_new (w : World) (o : Obj) : (w.alloc o).heap[w.heap.size]? = some o := by
  show (w.heap.push o)[w.heap.size]? = some o
  simp
theorem cells_new (w : World) (xs : Array Value) (t : TypeId) : ∀ j u, xs.toList[j]? = some u → (w.alloc (.cells xs t)).cell? ((⟨w.heap.size, 0, none⟩ : Addr).add j) = some u := by
  intro j u hj
  have h := heap_new w (.cells xs t)
  simp only [Array.getElem?_toList] at hj
  obtain ⟨W, hW⟩ : ∃ W, w.alloc (.cells xs t) = W := ⟨_, rfl⟩
  rw [hW] at h ⊢
  cases j with
  | zero => simp [World.cell?, Addr.add, h, hj]
  | succ j => simp [World.cell?, Addr.add, h, hj]
/-- Below what an append leaves. -/
theorem grown_below {b : Nat} {W W2 : World} {v : Value} {e n size : Nat} {xs : List Value} {o : Obj} (hb : b ≤ W.heap.size) (ho : W.ownsRow b e size v n xs) (hg : (W.alloc o).grownBy W2 v.ownBlock) : Below b W W2 := by
  refine ((Below.refl b W).alloc hb o).grown hg (by simp; omega) (fun j hj => (ho.lt j hj).1)
theorem grown_alloc {W W2 : World} {o : Obj} {r : Option Nat} (hg : (W.alloc o).grownBy W2 r) : W.grownBy W2 r :=
  ⟨hg.os, hg.tape, hg.output, by have := hg.size; simp at this; omega, fun k hk hr => by
    rw [hg.block k (by simp; omega) hr]; exact ((Below.refl W.heap.size W).alloc (Nat.le_refl _) o).block k hk⟩
/-- An append of one number to a row of the call's own. -/
theorem wpList_app1 {ops : Array Oper} {rest : List Oper} {o : Oper} {a : Act} {Q : Exit → Act → World → Prop} {W : World} (hgd : o.guard = none) (s x : Operand) (t : TypeId)
    (ho : o.op = .call { callee := .builtin .append, args := #[s, x], argTypes := #[t, t] })
    (b : Nat) (e : TypeId) (kd : IntKind) (nb : Nat) (ht : Try.prog.underlying t = some (.slice e)) (hi : (Try.prog.info? e).map (fun i => (i.zero, i.size, i.bytes)) = some (some (.int kd 0), 1, nb)) (hnb : nb ≤ 8)
    (v : Value) (zs : List Int) (z : Int) (hs : a.eval s = v) (hown : Rw kd e b W v zs) (hx : a.eval x = .slice (some ⟨W.heap.size, 0, none⟩) 1 1) (hlen : zs.length < 1000000000) (hb : b ≤ W.heap.size)
    (h : ∀ v' w', Hid (Rw kd e b w' v' (zs ++ [z])) → Hid (W.grownBy w' v.ownBlock) → Hid (Below b W w') → wpList Try.prog ops Q rest (a.put o.dst v') w') :
    wpList Try.prog ops Q (o :: rest) a (W.alloc (.cells #[.int kd z] e)) := by
  obtain ⟨i0, hi, hz0, hz1, hz2⟩ := info_parts hi
  refine wpList_append_own _ hgd _ _ t ho b e i0 (.int kd 0) 1 nb ht hi hz0 hz1 hz2 rfl (by decide) v zs.length _ hs (hown.alloc _) ⟨W.heap.size, 0, none⟩ 1 1 [.int kd z] hx rfl (cells_new W #[.int kd z] e) (by simp [Value.oneCell']) (by unfold maxLen; omega) (Nat.le_trans (Nat.mul_le_mul (show zs.length + 1 ≤ 1000000000 by omega) hnb) (by decide)) (by simp; omega) ?_
  intro v' w' h1 h2 _
  refine h v' w' ?_ (grown_alloc h2) (grown_below hb hown h2)
  unfold Hid Rw
  rw [List.map_append, List.length_append]
  exact h1
/-- A row of another kind stays behind an append. -/
theorem Rw.apart {kd kd2 : IntKind} {e e2 b b2 : Nat} {W W2 : World} {v v2 : Value} {zs zs2 : List Int} (h2 : Rw kd2 e2 b2 W v2 zs2) (h : Rw kd e b W v zs) (hne : e2 ≠ e) (hg : W.grownBy W2 v.ownBlock) : Rw kd2 e2 b2 W2 v2 zs2 := by
  obtain ⟨h1, h3 | ⟨g, cap, cur, rfl, h3, h4, h5⟩⟩ := h2
  · exact ⟨h1, .inl h3⟩
  · refine ⟨h1, .inr ⟨g, cap, cur, rfl, h3, ?_, h5⟩⟩
    rw [hg.block g (Array.getElem?_eq_some_iff.1 h4).1 ?_]
    · exact h4
    · obtain ⟨k1, ⟨rfl, _⟩ | ⟨g', cap', cur', rfl, k3, k4, k5⟩⟩ := h
      · simp [Value.ownBlock]
      · intro q
        simp [Value.ownBlock] at q
        subst q
        rw [h4] at k4
        simp at k4
        exact hne k4.2
/-- The text of a row of bytes. -/
theorem string_own {wr : World} {base : Nat} {v : Value} {zs : List Int} (h : Rw .u8 5 base wr v zs) :
    (convert 48 9 v).run Try.prog wr = .ok (.string (strOfNums zs)) wr := by
  obtain ⟨hl, h | ⟨g, cap, cur, rfl, hb, hg, hn, hc, hz, ht⟩⟩ := h
  · obtain ⟨rfl, hz⟩ := h
    have : zs = [] := List.eq_nil_of_length_eq_zero hz
    subst this
    exact run_convert_bytes_nil wr 48 5 Try.underlying48 Try.underlying5 0 0 9 Try.underlying9
  · refine run_convert_bytes_arg wr 48 5 Try.underlying48 Try.underlying5 g 0 zs.length cap zs rfl (fun i hi => ?_) 9 Try.underlying9
    have e1 : cur.toList[i]? = (zs.map fun z => Value.int .u8 z)[i]? := by
      rw [← ht, List.getElem?_take_of_lt (by omega)]
    have e2 : wr.cell? ⟨g, i, none⟩ = cur[i]? := by simp [World.cell?, hg]
    rw [Nat.zero_add, e2, ← Array.getElem?_toList, e1]
    simp [List.getD, List.getElem?_eq_getElem hi]
end Go.Proofs.Ytahmeejcgddlhab
