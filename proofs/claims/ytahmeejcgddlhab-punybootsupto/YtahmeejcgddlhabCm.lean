/-
  A region whose operations give one known value each, in whatever order they come: behind it the slots hold these values. What is said of memory may hang on which operations have come up.
-/
import Derived.Test.YtahmeejcgddlhabTn
import Derived.WalkKit
import Derived.Deep.WholeRow
namespace Go.Proofs.Ytahmeejcgddlhab
open Go.RowKit
variable {P : Program} {ops : Array Oper} {Q : Exit → Act → World → Prop} {G : (Nat → Bool) → World → Prop}
/-- All results, put in their slots. -/
def putAll (a : Act) : List Oper → List Value → Act
  | [], _ => a
  | o :: l, vs => putAll (a.put o.dst (vs.headD undef)) l vs.tail
theorem put_size (a : Act) (d : Option Tmp) (v : Value) : (a.put d v).tmps.size = a.tmps.size := by cases d <;> simp [Act.put]
theorem put_defers (a : Act) (d : Option Tmp) (v : Value) : (a.put d v).defers = a.defers := by cases d <;> simp [Act.put]
theorem putAll_size : ∀ (l : List Oper) (vs : List Value) (a : Act), (putAll a l vs).tmps.size = a.tmps.size
  | [], _, _ => rfl
  | o :: l, vs, a => by unfold putAll; rw [putAll_size l, put_size]
theorem putAll_defers : ∀ (l : List Oper) (vs : List Value) (a : Act), (putAll a l vs).defers = a.defers
  | [], _, _ => rfl
  | o :: l, vs, a => by unfold putAll; rw [putAll_defers l, put_defers]
theorem put_else {a : Act} {d : Option Tmp} {t : Tmp} {v : Value} (h : d ≠ some t) : (a.put d v).tmps[t]? = a.tmps[t]? := by
  cases d with
  | none => rfl
  | some d => exact put_other (fun e => h (by rw [e]))
theorem putAll_kept {t : Tmp} : ∀ (l : List Oper) (vs : List Value) (a : Act), (∀ (j : Nat) o, l[j]? = some o → o.dst ≠ some t) → (putAll a l vs).tmps[t]? = a.tmps[t]?
  | [], _, _, _ => rfl
  | o :: l, vs, a, h => by
    unfold putAll
    rw [putAll_kept l _ _ fun j o' e => h (j + 1) o' (by simpa using e), put_else (h 0 o rfl)]
theorem putAll_got {t : Tmp} : ∀ (l : List Oper) (vs : List Value) (a : Act) (j : Nat) (o : Oper), l[j]? = some o → o.dst = some t → (∀ (j' : Nat) o', j' ≠ j → l[j']? = some o' → o'.dst ≠ some t) → t < a.tmps.size → (putAll a l vs).tmps[t]? = some (vs.getD j undef)
  | [], _, _, j, o, h, _, _, _ => by simp at h
  | x :: l, vs, a, 0, o, h, hd, hn, hs => by
    simp at h; subst h
    unfold putAll
    rw [putAll_kept l _ _ fun j o' e => hn (j + 1) o' (by omega) (by simpa using e), hd]
    have : (a.put (some t) (vs.headD undef)).tmps[t]? = some (vs.headD undef) := by simp [Act.put, hs]
    rw [this]
    cases vs <;> rfl
  | x :: l, vs, a, j + 1, o, h, hd, hn, hs => by
    unfold putAll
    rw [putAll_got l vs.tail _ j o (by simpa using h) hd (fun j' o' hne e => hn (j' + 1) o' (by omega) (by simpa using e)) (by rw [put_size]; exact hs)]
    cases vs <;> simp
/-- Whether an operation is wanted, by the values. -/
def wantsV (ops : Array Oper) (vs : List Value) (o : Oper) (b : Bool) : Prop :=
  match o.guard with
  | none => b = true
  | some (g, want) => ∃ t c, (ops[g]?).bind (·.dst) = some t ∧ vs.getD g undef = .bool c ∧ asks4 ops o g t = true ∧ (c == want) = b
/-- One operation: it gives its value. -/
def ValOp (P : Program) (ops : Array Oper) (Q : Exit → Act → World → Prop) (G : (Nat → Bool) → World → Prop) (vs : List Value) (a0 : Act) (i : Nat) (o : Oper) : Prop :=
  (∃ b, wantsV ops vs o b ∧ (b = false → vs.getD i undef = undef ∧ ∀ s w, s i = false → G s w → G (mark s i) w) ∧ (b = true →
    ∀ (a : Act) (w : World) (s : Nat → Bool), s i = false → G s w → (∀ j, (needs o).contains j = true → s j = true) →
      (∀ j t, asks4 ops o j t = true → a.tmps[t]? = some (vs.getD j undef)) → (∀ t, keptAt ops i t = true → a.tmps[t]? = a0.tmps[t]?) →
      ∀ K : Act → World → Prop, Shut (∀ w', G (mark s i) w' → K (a.put o.dst (vs.getD i undef)) w') → Oper.wp P o a w K Q))
def ValAll (P : Program) (ops : Array Oper) (Q : Exit → Act → World → Prop) (G : (Nat → Bool) → World → Prop) (vs : List Value) (a0 : Act) : Nat → List Oper → Prop
  | _, [] => True
  | i, o :: l => ValOp P ops Q G vs a0 i o ∧ ValAll P ops Q G vs a0 (i + 1) l
theorem ValAll.flow {vs : List Value} {a0 : Act} : ∀ (l : List Oper) (i : Nat), ValAll P ops Q G vs a0 i l → FlowAll4 P ops Q G (fun _ j v _ => v = vs.getD j undef) a0 i l
  | [], _, _ => trivial
  | o :: l, i, h => by
    refine ⟨?_, ValAll.flow l (i + 1) h.2⟩
    obtain ⟨b, hw, h0, h1⟩ := h.1
    intro a w s c K hK
    have hslot : ∀ j t, asks4 ops o j t = true → a.tmps[t]? = some (vs.getD j undef) := fun j t ht => by
      obtain ⟨v, e, hv⟩ := c.slot j t ht
      rw [e, hv]
    have hwant : Region.wanted o (yielded ops a.tmps) = b := by
      unfold wantsV at hw
      cases hg : o.guard with
      | none => rw [hg] at hw; rw [hw]; exact wanted_none hg
      | some gw =>
        obtain ⟨g, want⟩ := gw
        rw [hg] at hw
        obtain ⟨t, c', h2, h3, h4, h5⟩ := hw
        rw [wanted_some hg h2 (by rw [hslot g t h4, h3]), h5]
    rw [hwant]
    cases b with
    | false =>
      obtain ⟨h2, h3⟩ := h0 rfl
      rw [if_neg (by simp)]
      exact hK undef w (h3 s w c.new c.ground) h2.symm fun j u _ hu => hu
    | true =>
      rw [if_pos rfl]
      exact h1 rfl a w s c.new c.ground c.before hslot c.kept K fun w' hg => hK _ w' hg rfl fun j u _ hu => hu
theorem act_ext {a b : Act} (h1 : a.tmps = b.tmps) (h2 : a.defers = b.defers) : a = b := by
  cases a; cases b; cases h1; cases h2; rfl
/-- **The region, by its values.** -/
theorem wp_region_vals {id : Nat} {draw : Bool} {a0 a1 : Act} {w0 : World} (G : (Nat → Bool) → World → Prop) (vs : List Value) (n : Nat) (hsz : a0.tmps.size = n) (hm : P.follows .mixedOrders = true) (hform : flowForm ops n = true)
    (h0 : ∀ w1, Below w0.heap.size w0 w1 → w1.heap.size = w0.heap.size → ∀ s, (∀ j, s j = false) → G s w1)
    (hop : ValAll P ops Q G vs a0 0 ops.toList) (ha : putAll a0 ops.toList vs = a1)
    (hdone : ∀ w s, (∀ j, j < ops.size → s j = true) → G s w → Q .normal a1 w) :
    (Code.region id ops draw).wp P Q a0 w0 := by
  subst ha
  refine wp_region_turn (V := fun _ j v _ => v = vs.getD j undef) G n hsz hm hform h0 hop.flow fun a w s hs hg hz hd hk hgot => ?_
  have hf : ∀ (i : Nat) (o : Oper), ops[i]? = some o → (∀ t, o.dst = some t → t < n) ∧ (∀ (j : Nat) (o' : Oper), ops[j]? = some o' → i ≠ j → ∀ t, o.dst = some t → o'.dst ≠ some t) := by
    intro i o ho
    have hi : i < ops.size := (Array.getElem?_eq_some_iff.1 ho).1
    simp only [flowForm, List.all_eq_true, List.mem_range] at hform
    have h1 := hform i hi
    simp only [ho, Bool.and_eq_true, List.all_eq_true, List.mem_range] at h1
    refine ⟨fun t ht => ?_, fun j o' ho' hne t ht => ?_⟩
    · have h2 := h1.1.2
      rw [ht] at h2
      simpa using h2
    · have h3 := h1.2 j (Array.getElem?_eq_some_iff.1 ho').1
      rw [ho'] at h3
      simp only [Bool.or_eq_true, beq_iff_eq, bne_iff_ne] at h3
      rcases h3 with (h3 | h3) | h3
      · exact absurd h3 hne
      · rw [ht] at h3; cases h3
      · intro e; rw [ht, e] at h3; exact h3 rfl
  have e : a = putAll a0 ops.toList vs := by
    refine act_ext ?_ (by rw [putAll_defers, hd])
    apply Array.ext_getElem?
    intro t
    by_cases hx : ∃ (j : Nat) (o : Oper), ops[j]? = some o ∧ o.dst = some t
    · obtain ⟨j, o, ho, ht⟩ := hx
      obtain ⟨v, hv, e⟩ := hgot j o t ho ht
      rw [hv, e, putAll_got ops.toList vs a0 j o (by simpa using ho) ht (fun j' o' hne e' hd' => (hf j o ho).2 j' o' (by simpa using e') (Ne.symm hne) t ht hd') (by rw [hsz]; exact (hf j o ho).1 t ht)]
    · have hno : ∀ (j : Nat) o, ops[j]? = some o → o.dst ≠ some t := fun j o ho ht => hx ⟨j, o, ho, ht⟩
      rw [putAll_kept ops.toList vs a0 fun j o e' => hno j o (by simpa using e')]
      refine hk t ?_
      unfold keptAll
      rw [Array.all_eq_true]
      intro i hi
      have := hno i ops[i] (by simp [hi])
      simpa using this
  rw [e]
  exact hdone w s hs hg
/-- What is said of memory stays where memory is only made. -/
def Steady (G : (Nat → Bool) → World → Prop) (i : Nat) : Prop := ∀ s w w', s i = false → G s w → Below w.heap.size w w' → G (mark s i) w'
/-- An operation that gives its value and leaves memory alone. -/
theorem ValOp.pure {vs : List Value} {a0 : Act} {i : Nat} {o : Oper} (hG : Steady G i) (l : List (Nat × Value)) (hw : wantsV ops vs o true)
    (hl : ∀ a : Act, (∀ j t, asks4 ops o j t = true → a.tmps[t]? = some (vs.getD j undef)) → (∀ t, keptAt ops i t = true → a.tmps[t]? = a0.tmps[t]?) → AllIn a l) (hc : covers o l = true)
    (hr : ∀ s w, s i = false → G s w → (∀ j, (needs o).contains j = true → s j = true) → (execOp (rho l) o).run P w = .ok (.value (vs.getD i undef)) w) : ValOp P ops Q G vs a0 i o :=
  ⟨true, hw, fun h => (by cases h), fun _ a w s hs hg hn h1 h2 _ hK => wp_gen l (hl a h1 h2) hc (hr s w hs hg hn) (hK.out w (hG s w w hs hg (Below.refl _ _)))⟩
theorem ValOp.no {vs : List Value} {a0 : Act} {i : Nat} {o : Oper} (hG : Steady G i) (hw : wantsV ops vs o false) (hv : vs.getD i undef = undef) : ValOp P ops Q G vs a0 i o :=
  ⟨false, hw, fun _ => ⟨hv, fun s w hs hg => hG s w w hs hg (Below.refl _ _)⟩, fun h => (by cases h)⟩
theorem ValOp.call {vs : List Value} {a0 : Act} {i : Nat} {o : Oper} (hG : Steady G i) (l : List (Nat × Value)) (hw : wantsV ops vs o true)
    (hl : ∀ a : Act, (∀ j t, asks4 ops o j t = true → a.tmps[t]? = some (vs.getD j undef)) → (∀ t, keptAt ops i t = true → a.tmps[t]? = a0.tmps[t]?) → AllIn a l) (hc : covers o l = true) (f : FuncId) (as : Array Value)
    (hr : ∀ w, (execOp (rho l) o).run P w = .ok (.enter f as) w)
    (h : ∀ s w, G s w → Calls P f as w fun e w' => e = .returned (vs.getD i undef) ∧ Below w.heap.size w w') : ValOp P ops Q G vs a0 i o :=
  ⟨true, hw, fun h => (by cases h), fun _ a w s hs hg _ h1 h2 K hK => by
    refine wp_gen_call l (hl a h1 h2) hc hr ?_
    refine (h s w hg).mono ?_
    rintro e w' ⟨rfl, hb⟩
    exact ⟨_, rfl, hK.out w' (hG s w w' hs hg hb)⟩⟩
/-- Memory that is only made. -/
def grown (w0 : World) : (Nat → Bool) → World → Prop := fun _ w => Below w0.heap.size w0 w
theorem grown_steady (w0 : World) (i : Nat) : Steady (grown w0) i := fun _ _ _ _ h hb => h.trans (hb.mono h.size)
theorem grown_start (w0 : World) : ∀ w1, Below w0.heap.size w0 w1 → w1.heap.size = w0.heap.size → ∀ s : Nat → Bool, (∀ j, s j = false) → grown w0 s w1 := fun _ h _ _ _ => h
/-- One cell, read. -/
theorem run_read {w : World} {l : List (Nat × Value)} {o : Oper} {ty : TypeId} {x : Operand} (ho : o.op = .load ty x) {g i : Nat} (hx : rho l x = .pointer (some ⟨g, i, none⟩)) {v : Value} (hr : (loadVar ty ⟨g, i, none⟩).run P w = .ok v w) : (execOp (rho l) o).run P w = .ok (.value v) w := by
  unfold execOp
  simp only [ho, hx, Instr.loadAt, Instr.sureAddr, Sem.run_bind, Sem.run_pure, Result.andThen_ok, hr]
theorem run_cell {w : World} {g i : Nat} {cs : Array Value} {tt ty : TypeId} {v : Value} (hg : w.heap[g]? = some (.cells cs tt (0, 0))) (hv : cs[i]? = some v) (ha : (isAgg ty).run P w = .ok false w) : (loadVar ty ⟨g, i, none⟩).run P w = .ok v w := by
  have hc : w.cell? ⟨g, i, none⟩ = some v := by rw [cell_of_row w g i cs tt _ hg]; exact hv
  simp [loadVar, ha, hc, go_sem]
theorem run_bin {w : World} {l : List (Nat × Value)} {o : Oper} {op : BinOp} {t t' : TypeId} {x y : Operand} (ho : o.op = .binOp op t x y t') {a b v : Value} (hx : rho l x = a) (hy : rho l y = b) (he : (eqGuard op t x y a b).run P w = .ok () w) (hr : (binOp op t a b).run P w = .ok v w) : (execOp (rho l) o).run P w = .ok (.value v) w := by
  subst hx
  subst hy
  unfold execOp
  simp only [ho, Sem.run_bind, Sem.run_pure, Result.andThen_ok, he, hr]
theorem set_at {w : World} {g i : Nat} {cs : Array Value} {tt : TypeId} (v : Value) (hg : w.heap[g]? = some (.cells cs tt (0, 0))) : (w.setCell ⟨g, i, none⟩ v).heap[g]? = some (.cells (cs.setIfInBounds i v) tt (0, 0)) := by
  simp [World.setCell, Array.getElem?_modify, hg]
theorem run_store_int {w : World} {g i : Nat} {cs : Array Value} {tt ty : TypeId} {k : IntKind} {n : Int} (hg : w.heap[g]? = some (.cells cs tt (0, 0))) (hi : i < cs.size) (hs : (sizeOf ty).run P w = .ok 1 w) : (storeVar ty ⟨g, i, none⟩ (.int k n)).run P w = .ok () (w.setCell ⟨g, i, none⟩ (.int k n)) := by
  have hc : w.cell? ⟨g, i, none⟩ = some cs[i] := by rw [cell_of_row w g i cs tt _ hg]; simp [hi]
  simp [storeVar, hs, storeCells, hc, go_sem]
  simp [World.frozen?, hg]
theorem run_store_bool {w : World} {g i : Nat} {cs : Array Value} {tt ty : TypeId} {b : Bool} (hg : w.heap[g]? = some (.cells cs tt (0, 0))) (hi : i < cs.size) (hs : (sizeOf ty).run P w = .ok 1 w) : (storeVar ty ⟨g, i, none⟩ (.bool b)).run P w = .ok () (w.setCell ⟨g, i, none⟩ (.bool b)) := by
  have hc : w.cell? ⟨g, i, none⟩ = some cs[i] := by rw [cell_of_row w g i cs tt _ hg]; simp [hi]
  simp [storeVar, hs, storeCells, hc, go_sem]
  simp [World.frozen?, hg]
/-- A store of one cell. -/
theorem ValOp.store {vs : List Value} {a0 : Act} {i : Nat} {o : Oper} (l : List (Nat × Value)) (hw : wantsV ops vs o true) (hd : o.dst = none)
    (hl : ∀ a : Act, (∀ j t, asks4 ops o j t = true → a.tmps[t]? = some (vs.getD j undef)) → (∀ t, keptAt ops i t = true → a.tmps[t]? = a0.tmps[t]?) → AllIn a l) (hc : covers o l = true) {ty : TypeId} {x y : Operand} (ho : o.op = .store ty x y) {g off : Nat} {v : Value}
    (hx : rho l x = .pointer (some ⟨g, off, none⟩)) (hy : rho l y = v) (hv : vs.getD i undef = undef)
    (hr : ∀ s w, s i = false → G s w → (storeVar ty ⟨g, off, none⟩ v).run P w = .ok () (w.setCell ⟨g, off, none⟩ v))
    (hG : ∀ s w, s i = false → G s w → G (mark s i) (w.setCell ⟨g, off, none⟩ v)) : ValOp P ops Q G vs a0 i o :=
  ⟨true, hw, fun h => (by cases h), fun _ a w s hs hg _ h1 h2 K hK => by
    have hk := hK.out _ (hG s w hs hg)
    rw [hv] at hk
    unfold Oper.wp
    rw [exec_rho l (hl a h1 h2) hc]
    unfold execOp
    simp only [ho, hx, hy, Instr.storeAt, Instr.sureAddr, Sem.run_bind, Sem.run_pure, Result.andThen_ok, hr s w hs hg, Oper.upon]
    rw [hd] at hk ⊢
    exact hk⟩
/-- One block is written, the others below it stay. -/
structure Wrote (g : Nat) (tt : TypeId) (w0 : World) (cs : (Nat → Bool) → Array Value) (s : Nat → Bool) (w : World) : Prop where
  below : Below g w0 w
  at_ : w.heap[g]? = some (.cells (cs s) tt (0, 0))
theorem Wrote.steady {g : Nat} {tt : TypeId} {w0 : World} {cs : (Nat → Bool) → Array Value} (i : Nat) (h : ∀ s, cs (mark s i) = cs s) : Steady (Wrote g tt w0 cs) i := fun s w w' _ hw hb => by
  have hlt : g < w.heap.size := (Array.getElem?_eq_some_iff.1 hw.at_).1
  exact ⟨hw.below.trans (hb.mono (by omega)), by rw [h s]; exact below_at hw.at_ hb⟩
theorem Wrote.low {g q : Nat} {tt : TypeId} {w0 w : World} {cs : (Nat → Bool) → Array Value} {s : Nat → Bool} (h : Wrote g tt w0 cs s w) {o : Obj} (hf : w0.heap[q]? = some o) (hlt : q < g) : w.heap[q]? = some o := (h.below.block q hlt).trans hf
theorem Wrote.set {g off : Nat} {tt : TypeId} {w0 w : World} {cs : (Nat → Bool) → Array Value} {s : Nat → Bool} {i : Nat} {v : Value} (h : Wrote g tt w0 cs s w) (hv : (cs s).setIfInBounds off v = cs (mark s i)) : Wrote g tt w0 cs (mark s i) (w.setCell ⟨g, off, none⟩ v) :=
  ⟨h.below.setCell (p := ⟨g, off, none⟩) (Nat.le_refl _) _, by rw [← hv]; exact set_at v h.at_⟩
theorem Wrote.start {g : Nat} {tt : TypeId} {w0 : World} {cs : (Nat → Bool) → Array Value} (h0 : ∀ s, (∀ j, s j = false) → w0.heap[g]? = some (.cells (cs s) tt (0, 0))) : ∀ w1, Below w0.heap.size w0 w1 → w1.heap.size = w0.heap.size → ∀ s : Nat → Bool, (∀ j, s j = false) → Wrote g tt w0 cs s w1 := fun _w1 hb _ s hs =>
  ⟨hb.mono (Nat.le_of_lt (Array.getElem?_eq_some_iff.1 (h0 s hs)).1), below_at (h0 s hs) hb⟩
end Go.Proofs.Ytahmeejcgddlhab
