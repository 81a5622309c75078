/-
  The contract of the document's insert: a number put into a list that rises. Conditions: the list is not empty and not too long.
-/
import Derived.Test.YtddoanmhikldiabGv
import Derived.Test.YtddoanmhikldiabRu
import Derived.Test.YtddoanmhikldiabTn
namespace Go.Proofs.Ytddoanmhikldiab
open Go.RowKit
/-- Numbers, as cells. -/
def celI (l : List Int) : List Value := l.map fun x => .int .i32 x
theorem celI_len (l : List Int) : (celI l).length = l.length := by simp [celI]
theorem celI_app (a b : List Int) : celI (a ++ b) = celI a ++ celI b := by simp [celI]
theorem celI_one (l : List Int) : ∀ u ∈ celI l, u.oneCell' = true := fun u hu => by
  obtain ⟨b, _, rfl⟩ := List.mem_map.1 hu
  rfl
theorem info21 : (Try.prog.info? 21).map (fun i => (i.zero, i.size, i.bytes)) = some (some (.int .i32 0), 1, 4) := by kernel_rfl
/-- A slice that reads as these numbers. -/
def RdI (w : World) (v : Value) (l : List Int) : Prop :=
  ∃ g off c, v = .slice (some ⟨g, off, none⟩) l.length c ∧ l.length ≤ c ∧ ∀ j, j < l.length → w.cell? ⟨g, off + j, none⟩ = some (.int .i32 (l.getD j 0))
theorem RdI.below {w w' : World} {v : Value} {l : List Int} (h : RdI w v l) (hb : Below w.heap.size w w') : RdI w' v l := by
  obtain ⟨g, off, c, rfl, hl, hd⟩ := h
  refine ⟨g, off, c, rfl, hl, fun j hj => ?_⟩
  have g1 := World.block_lt_of_cell? w _ (hd j hj)
  exact (hb.cell (p := ⟨g, off + j, none⟩) (by simpa using g1)).trans (hd j hj)
theorem mark_ne (s : Nat → Bool) (i j : Nat) (h : ¬ j = i) : mark s i j = s j := by simp [mark, h]
theorem mark_eq (s : Nat → Bool) (i : Nat) : mark s i i = true := by simp [mark]
/-- What the region's operations give. -/
def VI (l : List Int) (p : Int) (g off n c at0 B : Nat) (ad : Addr) : (Nat → Bool) → Nat → Value → World → Prop := fun s j v w => match j with
  | 0 => s 4 = true ∨ (∃ g0, v = .slice (some ⟨g0, 0, none⟩) 0 0 ∧ B ≤ g0 ∧ w.heap[g0]? = some (.cells #[] 21 (0, 0)))
  | 4 => s 7 = true ∨ w.ownsRow B 21 1 v at0 (celI (l.take at0))
  | 6 => s 7 = true ∨ (∃ g1, v = .slice (some ⟨g1, 0, none⟩) 1 1 ∧ w.heap[g1]? = some (.cells #[.int .i32 p] 21 (0, 0)))
  | 7 => s 11 = true ∨ w.ownsRow B 21 1 v (at0 + 1) (celI (l.take at0 ++ [p]))
  | 11 => w.ownsRow B 21 1 v (n + 1) (celI (l.take at0 ++ [p] ++ l.drop at0))
  | 12 => w.ownsRow B 21 1 v (n + 1) (celI (l.take at0 ++ [p] ++ l.drop at0))
  | 1 => v = .slice (some ⟨g, off, none⟩) n c
  | 2 => v = .int .i64 (at0 : Nat)
  | 3 => v = .slice (some ⟨g, off, none⟩) at0 c
  | 5 => v = .int .i32 p
  | 8 => v = .slice (some ⟨g, off, none⟩) n c
  | 9 => v = .int .i64 (at0 : Nat)
  | 10 => v = .slice (some ad) (n - at0) (c - at0)
  | _ => True
theorem vi_below {l : List Int} {p : Int} {g off n c at0 B : Nat} {ad : Addr} {s s' : Nat → Bool} {w w' : World} (h4 : s 4 = true → s' 4 = true) (h7 : s 7 = true → s' 7 = true) (h11 : s 11 = true → s' 11 = true) (hb : Below w.heap.size w w') (j : Nat) (v : Value) (h : VI l p g off n c at0 B ad s j v w) : VI l p g off n c at0 B ad s' j v w' := by
  have key : ∀ {k : Nat} {o : Obj}, w.heap[k]? = some o → w'.heap[k]? = some o := fun h => (hb.block _ (Array.getElem?_eq_some_iff.1 h).1).trans h
  unfold VI at h ⊢
  match j with
  | 0 => exact h.elim (fun q => .inl (h4 q)) fun ⟨g0, e1, e2, e3⟩ => .inr ⟨g0, e1, e2, key e3⟩
  | 1 => exact h
  | 2 => exact h
  | 3 => exact h
  | 4 => exact h.elim (fun q => .inl (h7 q)) fun q => .inr (owns_below q hb)
  | 5 => exact h
  | 6 => exact h.elim (fun q => .inl (h7 q)) fun ⟨g0, e1, e3⟩ => .inr ⟨g0, e1, key e3⟩
  | 7 => exact h.elim (fun q => .inl (h11 q)) fun q => .inr (owns_below q hb)
  | 8 => exact h
  | 9 => exact h
  | 10 => exact h
  | 11 => exact owns_below h hb
  | 12 => exact owns_below h hb
  | _ + 13 => trivial
theorem vi_calm (l : List Int) (p : Int) (g off n c at0 B : Nat) (ad : Addr) (w0 : World) (i : Nat) (h4 : (4 == i) = false) (h7 : (7 == i) = false) (h11 : (11 == i) = false) : Calm (grown w0) (VI l p g off n c at0 B ad) i :=
  ⟨fun s w w' hs h hb => grown_steady w0 i s w w' hs h hb, fun s j u w w' _ _ h hb => vi_below (fun q => by rw [mark_ne s i 4 (by simpa using h4)]; exact q) (fun q => by rw [mark_ne s i 7 (by simpa using h7)]; exact q) (fun q => by rw [mark_ne s i 11 (by simpa using h11)]; exact q) hb j u h⟩
theorem run_slc {w : World} {l : List (Nat × Value)} {o : Oper} {x : Operand} {lo hi mx : Option Operand} {t : TypeId} (ho : o.op = .slice t x lo hi mx) {v : Value} (hr : (Instr.sliceAt t (rho l x) (lo.map (rho l)) (hi.map (rho l)) (mx.map (rho l))).run Try.prog w = .ok v w) : (execOp (rho l) o).run Try.prog w = .ok (.value v) w := by
  unfold execOp
  simp only [ho, Sem.run_bind, Sem.run_pure, Result.andThen_ok, hr]
theorem eval_slot {a : Act} {t : Tmp} {v : Value} (h : a.tmps[t]? = some v) : a.eval (.tmp t) = v := by
  show a.tmps.getD t undef = v
  rw [Array.getD_eq_getD_getElem?, h]; rfl
theorem get_take (l : List Int) (k j : Nat) (u : Value) (h : (celI (l.take k))[j]? = some u) : j < k ∧ j < l.length ∧ u = .int .i32 (l.getD j 0) := by
  have hj : j < (celI (l.take k)).length := (List.getElem?_eq_some_iff.1 h).1
  rw [celI_len, List.length_take] at hj
  refine ⟨by omega, by omega, ?_⟩
  simp [celI, show j < k by omega, show j < l.length by omega, List.getD] at h ⊢
  exact h.symm
theorem get_drop (l : List Int) (k j : Nat) (u : Value) (h : (celI (l.drop k))[j]? = some u) : k + j < l.length ∧ u = .int .i32 (l.getD (k + j) 0) := by
  have hj : j < (celI (l.drop k)).length := (List.getElem?_eq_some_iff.1 h).1
  rw [celI_len, List.length_drop] at hj
  refine ⟨by omega, ?_⟩
  simp [celI, List.getElem?_drop, show k + j < l.length by omega, List.getD] at h ⊢
  exact h.symm
end Go.Proofs.Ytddoanmhikldiab
