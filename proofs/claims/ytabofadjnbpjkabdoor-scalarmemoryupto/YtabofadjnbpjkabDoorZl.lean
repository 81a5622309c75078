/-
  The walk of the law ScalarEncodes: it returns true and turns nothing that was there. Conditions: the list takes no more bytes than one that comes in can; the library's two tables hold what their text lays.
-/
import Derived.Test.YtabofadjnbpjkabDoorZu
import Derived.Laws.AppendOwnNone
import Derived.OpenShut
namespace Go.Proofs.YtabofadjnbpjkabDoor.U
open Go.RowKit Go.Lib
/-- A slice that came in and reads as these numbers. -/
def RdsA (kd : IntKind) (w : World) (v : Value) (zs : List Int) : Prop :=
  (v = .slice none 0 0 ∧ zs = []) ∨ ∃ ad c, v = .slice (some ad) zs.length c ∧ ∀ j, j < zs.length → w.cell? (ad.add j) = some (.int kd (zs.getD j 0))
theorem RdsA.rds {kd : IntKind} {w : World} {v : Value} {zs : List Int} (h : RdsA kd w v zs) : Rds kd w v zs := by
  obtain ⟨rfl, rfl⟩ | ⟨ad, c, rfl, h⟩ := h
  · exact rds_nil _ _ _ _
  · refine ⟨_, c, rfl, fun hp => ?_⟩
    obtain ⟨b, off, rfl, hc⟩ := ints_at h hp
    exact ⟨b, off, rfl, hc⟩
theorem RdsA.below {kd : IntKind} {w w' : World} {v : Value} {zs : List Int} (h : RdsA kd w v zs) (hb : Below w.heap.size w w') : RdsA kd w' v zs := by
  obtain ⟨rfl, rfl⟩ | ⟨ad, c, rfl, h⟩ := h
  · exact .inl ⟨rfl, rfl⟩
  · refine .inr ⟨ad, c, rfl, fun j hj => ?_⟩
    have := World.block_lt_of_cell? w _ (h j hj)
    exact (hb.cell this).trans (h j hj)
/-- 'append' of a list that came in onto an empty one of the call's own. -/
theorem wpList_append_rds {w : World} {ops : Array Oper} {rest : List Oper} {o : Oper} {a : Act} {Q : Exit → Act → World → Prop} (hgd : o.guard = none) (s x : Operand) (t e : TypeId) (kd : IntKind) (bytes : Nat)
    (ho : o.op = .call { callee := .builtin .append, args := #[s, x], argTypes := #[t, t] }) (base : Nat) (i : TypeInfo) (ht : Tryd.prog.underlying t = some (.slice e)) (hi : Tryd.prog.info? e = some i) (hz : i.zero = some (.int kd 0)) (h1 : i.size = 1) (h2 : i.bytes = bytes)
    (v0 v : Value) (zs : List Int) (hs : a.eval s = v0) (hown : w.ownsRow base e 1 v0 0 []) (hx : a.eval x = v) (hr : RdsA kd w v zs) (hl : zs.length ≤ 140737488355328) (hlb : zs.length * bytes ≤ 140737488355328) (hb : base ≤ w.heap.size)
    (K : ∀ v' w', w'.ownsRow base e 1 v' zs.length (zs.map fun z => Value.int kd z) → Below base w w' → wpList Tryd.prog ops Q rest (a.put o.dst v') w') : wpList Tryd.prog ops Q (o :: rest) a w := by
  obtain ⟨rfl, rfl⟩ | ⟨ad, c, rfl, h⟩ := hr
  · exact wpList_append_own_none hgd s x t ho base e i 1 ht hi v0 0 [] hs hown hx (K _ _ hown (Below.refl _ _))
  · refine wpList_append_own _ hgd s x t ho base e i (.int kd 0) 1 bytes ht hi hz h1 h2 rfl (by decide) v0 0 [] hs hown ad zs.length c (zs.map fun z => Value.int kd z) hx (by simp) (fun j u hj => ?_) (by simp [Value.oneCell']) (by unfold maxLen; omega) (by rw [Nat.zero_add]; exact hlb) hb (fun v' w' ho' hg' _ => K v' w' ?_ ?_)
    · have hj' : j < zs.length := by have := (List.getElem?_eq_some_iff.1 hj).1; simpa using this
      rw [h j hj']
      rw [← hj]
      simp [List.getD, List.getElem?_eq_getElem hj']
    · rw [Nat.zero_add] at ho'
      exact ho'
    · exact (Below.refl base w).grown hg' hb (fun j hj => (hown.lt j hj).1)
theorem own_empty (w : World) (e : TypeId) : (w.alloc (.cells #[] e)).ownsRow w.heap.size e 1 (.slice (some ⟨w.heap.size, 0, none⟩) 0 0) 0 [] := ⟨rfl, .inr ⟨_, _, _, rfl, Nat.le_refl _, World.alloc_heap_new _ _, by simp, by decide, rfl, rfl⟩⟩
end Go.Proofs.YtabofadjnbpjkabDoor.U
