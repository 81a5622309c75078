/-
  Rows of integers of one kind as one array of values, whatever their number: their size, their cells, a store into them; a whole row out of and into the block that was made last.
-/
import Derived.WalkKit
import Derived.Below
import Derived.Deep.WholeRow
namespace Go.Proofs.YtcjlplaepnpopaaDoor
/-- The row of n integers of kind k, f i at place i. -/
def rowOf (k : IntKind) (n : Nat) (f : Nat → Int) : Array Value := Array.ofFn (n := n) fun i => .int k (f i)
theorem rowOf_size (k : IntKind) (n : Nat) (f : Nat → Int) : (rowOf k n f).size = n := by simp [rowOf]
theorem rowOf_get (k : IntKind) (n : Nat) (f : Nat → Int) (i : Nat) (h : i < n) : (rowOf k n f)[i]? = some (.int k (f i)) := by
  simp [rowOf, h]
theorem rowOf_set (k : IntKind) (n : Nat) (f : Nat → Int) (i : Nat) (v : Int) : (rowOf k n f).setIfInBounds i (.int k v) = rowOf k n (fun j => if j = i then v else f j) := by
  apply Array.ext_getElem?
  intro j
  simp only [rowOf, Array.getElem?_setIfInBounds, Array.getElem?_ofFn, Array.size_ofFn]
  by_cases e : i = j
  · subst e
    simp
  · have e' : ¬ j = i := fun h => e h.symm
    simp [e, e']
theorem rowOf_one (k : IntKind) (n : Nat) (f : Nat → Int) : (rowOf k n f).all (·.oneCell') = true := by
  rw [Array.all_eq_true]
  intro i h
  simp [rowOf, Value.oneCell']
theorem rowOf_congr (k : IntKind) (n : Nat) (f g : Nat → Int) (h : ∀ i, i < n → f i = g i) : rowOf k n f = rowOf k n g := by
  apply Array.ext
  · simp [rowOf]
  · intro j h1 h2
    have : j < n := by simpa [rowOf] using h1
    simp [rowOf, h j this]
variable {P : Program}
/-- Block m holds a row of n cells. -/
def isRow (W : World) (m n : Nat) : Prop := ∃ cs t, W.heap[m]? = some (.cells cs t (0, 0)) ∧ cs.size = n
/-- The cells of block m. -/
def rowIn (W : World) (m : Nat) : Array Value := match W.heap[m]? with | some (.cells c _ _) => c | _ => #[]
theorem isRow_at (v : World) (c : Array Value) (t : TypeId) (m n : Nat) (hm : m = v.heap.size) : isRow (v.alloc (.cells c t)) m n = (c.size = n) := by
  subst hm
  apply propext
  constructor
  · rintro ⟨cs, t', h, hs⟩
    rw [heap_alloc_last] at h
    simp only [Option.some.injEq, Obj.cells.injEq] at h
    rw [h.1]; exact hs
  · intro h
    exact ⟨c, t, heap_alloc_last v _, h⟩
theorem isRow_past (v : World) (o : Obj) (m n : Nat) (hm : m < v.heap.size) : isRow (v.alloc o) m n = isRow v m n := by
  unfold isRow
  rw [Go.RowKit.Below.heap_alloc v o m hm]
theorem rowIn_at (v : World) (c : Array Value) (t : TypeId) (m : Nat) (hm : m = v.heap.size) : rowIn (v.alloc (.cells c t)) m = c := by
  subst hm
  unfold rowIn
  rw [heap_alloc_last]
theorem rowIn_past (v : World) (o : Obj) (m : Nat) (hm : m < v.heap.size) : rowIn (v.alloc o) m = rowIn v m := by
  unfold rowIn
  rw [Go.RowKit.Below.heap_alloc v o m hm]
theorem isRow_drew (v : World) (m n : Nat) : isRow v.drew m n = isRow v m n := rfl
theorem rowIn_drew (v : World) (m : Nat) : rowIn v.drew m = rowIn v m := rfl
theorem setRow_at (v : World) (c c' : Array Value) (t : TypeId) (m : Nat) (hm : m = v.heap.size) : (v.alloc (.cells c t)).setRow m c' = v.alloc (.cells c' t) := by
  subst hm
  exact World.setRow_alloc_new v c c' t
theorem setRow_past (v : World) (o : Obj) (c' : Array Value) (m : Nat) (hm : m < v.heap.size) : (v.alloc o).setRow m c' = (v.setRow m c').alloc o := by
  simp only [World.setRow, World.alloc]
  congr 1
  apply Array.ext_getElem?
  intro i
  rw [Array.getElem?_modify]
  by_cases h : i = v.heap.size
  · subst h
    have h' : ¬ m = v.heap.size := by omega
    rw [if_neg h', Array.getElem?_push, Array.getElem?_push, if_pos rfl, Array.size_modify, if_pos rfl]
  · rw [Array.getElem?_push, Array.getElem?_push, if_neg h, Array.size_modify, if_neg h, Array.getElem?_modify]
theorem setRow_drew (v : World) (m : Nat) (c : Array Value) : v.drew.setRow m c = (v.setRow m c).drew := rfl
theorem ld_at (W : World) (m n : Nat) (h : isRow W m n) : (loadCellsFrom ⟨m, 0, none⟩ 0 n #[]).run P W = .ok (rowIn W m) W := by
  obtain ⟨cs, t, hg, hn⟩ := h
  subst hn
  have := run_loadCells_list (P := P) W ⟨m, 0, none⟩ cs.toList (fun j v hv => by
    have hadd : (⟨m, 0, none⟩ : Addr).add j = ⟨m, j, none⟩ := by unfold Addr.add; split <;> simp_all
    rw [hadd, cell_of_row _ _ j cs t (0, 0) hg]
    simpa using hv)
  have hr : rowIn W m = cs := by unfold rowIn; rw [hg]
  rw [hr]
  simpa [loadCells] using this
theorem st_at (W : World) (m n : Nat) (k : IntKind) (g : Nat → Int) (h : isRow W m n) :
    (storeCells ⟨m, 0, none⟩ (rowOf k n g).toList 0).run P W = .ok () (W.setRow m (rowOf k n g)) := by
  obtain ⟨cs, t', hg, hn⟩ := h
  have hz : (rowOf k n g).size = n := rowOf_size k n g
  have := run_storeCells_from (P := P) m t' (rowOf k n g).toList 0 cs W hg (by simp; omega) (fun v hv => (Array.all_eq_true_iff_forall_mem.1 (rowOf_one k n g)) v (by simpa using hv))
  simpa using this
theorem wpList_ld {ops : Array Oper} {rest : List Oper} {o : Oper} {a : Act} {w : World} {Q : Exit → Act → World → Prop} (hgd : o.guard = none) (ty : TypeId) (x : Operand) (ho : o.op = .load ty x)
    (m : Nat) (hx : a.eval x = .pointer (some ⟨m, 0, none⟩)) (n : Nat) {d : TypeDesc} (hu : P.underlying ty = some d) (hd : (match d with | .struct _ | .array _ _ => true | _ => false) = true)
    (hi : (P.info? ty).map (·.size) = some n) (cs : Array Value) (hr : isRow w m n) (hc : rowIn w m = cs)
    (h : wpList P ops Q rest (a.put o.dst (.agg cs)) w) : wpList P ops Q (o :: rest) a w := by
  obtain ⟨cs', t, hg, hn⟩ := hr
  have hr : rowIn w m = cs' := by unfold rowIn; rw [hg]
  rw [hr] at hc
  subst hc
  exact wpList_load_row hgd ty x ho m hx t cs' (0, 0) d hg hu hd (by rw [hn]; exact hi) h
theorem results_ld {fn : Func} {p : Tmp} {ty : TypeId} (h : fn.results = #[.cell p ty]) (tmps : Array Value) (w : World) (m n : Nat) {d : TypeDesc} (hp : tmps.getD p undef = .pointer (some ⟨m, 0, none⟩))
    (hu : P.underlying ty = some d) (hd : (match d with | .struct _ | .array _ _ => true | _ => false) = true) (hi : (P.info? ty).map (·.size) = some n) (cs : Array Value) (hr : isRow w m n) (hc : rowIn w m = cs) :
    (results fn tmps).run P w = .ok (.agg cs) w := by
  obtain ⟨cs', t, hg, hn⟩ := hr
  have hr : rowIn w m = cs' := by unfold rowIn; rw [hg]
  rw [hr] at hc
  subst hc
  exact results_cell_row h tmps w m t cs' (0, 0) d hp hg hu hd (by rw [hn]; exact hi)
end Go.Proofs.YtcjlplaepnpopaaDoor
