/-
  A region, taken operation by operation, in whatever order it runs, where what is said of memory and of the slots may hang on which operations have come up: if each operation, whenever what it waits for has come up, keeps what is said, then behind the region all of it holds.
-/
import Derived.Test.YtcjlplaepnpopaaDoorFlow
namespace Go.Proofs.YtcjlplaepnpopaaDoor
open Go.RowKit
variable {P : Program} {ops : Array Oper} {Q : Exit → Act → World → Prop} {G : (Nat → Bool) → World → Prop} {V : (Nat → Bool) → Nat → Value → World → Prop}
/-- One more has come up. -/
def mark (s : Nat → Bool) (i : Nat) : Nat → Bool := fun j => if j = i then true else s j
/-- Which have come up. -/
def up (listed : Array Bool) : Nat → Bool := fun i => listed.getD i false
theorem up_set {listed : Array Bool} {i : Nat} (h : i < listed.size) : up (listed.setIfInBounds i true) = mark (up listed) i := by
  funext j
  unfold up mark
  by_cases e : j = i
  · subst e; simp [h]
  · rw [if_neg e, getD_set_ne false (Ne.symm e)]
/-- Where an operation stands when it comes up. -/
structure Ctx4 (ops : Array Oper) (G : (Nat → Bool) → World → Prop) (V : (Nat → Bool) → Nat → Value → World → Prop) (a0 : Act) (s : Nat → Bool) (i : Nat) (o : Oper) (a : Act) (w : World) : Prop where
  new : s i = false
  before : ∀ j, (needs o).contains j = true → s j = true
  down : ∀ j oj, ops[j]? = some oj → s j = true → ∀ k, (needs oj).contains k = true → s k = true
  ground : G s w
  tsz : a.tmps.size = a0.tmps.size
  defers : a.defers = a0.defers
  kept : ∀ t, keptAt ops i t = true → a.tmps[t]? = a0.tmps[t]?
  need : ∀ j oj t, (needs o).contains j = true → ops[j]? = some oj → oj.dst = some t → ∃ v, a.tmps[t]? = some v ∧ V s j v w
/-- One operation. -/
def FlowOp4 (P : Program) (ops : Array Oper) (Q : Exit → Act → World → Prop) (G : (Nat → Bool) → World → Prop) (V : (Nat → Bool) → Nat → Value → World → Prop) (a0 : Act) (i : Nat) (o : Oper) : Prop :=
  ∀ (a : Act) (w : World) (s : Nat → Bool), Ctx4 ops G V a0 s i o a w →
    ∀ K : Act → World → Prop,
      (∀ v w', G (mark s i) w' → V (mark s i) i v w' → (∀ j u, s j = true → V s j u w → V (mark s i) j u w') → K (a.put o.dst v) w') →
      if Region.wanted o (yielded ops a.tmps) = true then Oper.wp P o a w K Q else K (a.put o.dst undef) w
def FlowAll4 (P : Program) (ops : Array Oper) (Q : Exit → Act → World → Prop) (G : (Nat → Bool) → World → Prop) (V : (Nat → Bool) → Nat → Value → World → Prop) (a0 : Act) : Nat → List Oper → Prop
  | _, [] => True
  | i, o :: l => FlowOp4 P ops Q G V a0 i o ∧ FlowAll4 P ops Q G V a0 (i + 1) l
theorem FlowAll4.at {a0 : Act} : ∀ (l : List Oper) (k : Nat), FlowAll4 P ops Q G V a0 k l → ∀ i o, l[i]? = some o → FlowOp4 P ops Q G V a0 (k + i) o
  | [], _, _, i, o, h => by simp at h
  | x :: l, k, h, 0, o, e => by
    simp at e; subst e; exact h.1
  | x :: l, k, h, i + 1, o, e => by
    have := FlowAll4.at l (k + 1) h.2 i o (by simpa using e)
    rw [show k + (i + 1) = k + 1 + i by omega]
    exact this
structure FlowInv4 (ops : Array Oper) (G : (Nat → Bool) → World → Prop) (V : (Nat → Bool) → Nat → Value → World → Prop) (a0 : Act) (listed : Array Bool) (a : Act) (w : World) : Prop where
  size : listed.size = ops.size
  tsz : a.tmps.size = a0.tmps.size
  defers : a.defers = a0.defers
  ground : G (up listed) w
  down : ∀ j o, ops[j]? = some o → listed.getD j false = true → ∀ i, (needs o).contains i = true → listed.getD i false = true
  kept : ∀ t, (∀ j o, ops[j]? = some o → listed.getD j false = true → o.dst ≠ some t) → a.tmps[t]? = a0.tmps[t]?
  got : ∀ j o t, ops[j]? = some o → listed.getD j false = true → o.dst = some t → ∃ v, a.tmps[t]? = some v ∧ V (up listed) j v w
theorem wpAny_flow4 {a0 : Act} (hform : flowForm ops a0.tmps.size = true)
    (hop : ∀ i o, ops[i]? = some o → FlowOp4 P ops Q G V a0 i o)
    (hdone : ∀ a w s, (∀ j, j < ops.size → s j = true) → G s w → a.tmps.size = a0.tmps.size → a.defers = a0.defers → (∀ t, keptAll ops t = true → a.tmps[t]? = a0.tmps[t]?) → (∀ j o t, ops[j]? = some o → o.dst = some t → ∃ v, a.tmps[t]? = some v ∧ V s j v w) → Q .normal a w) :
    ∀ (fuel : Nat) (listed : Array Bool) (a : Act) (w : World), left ops listed ≤ fuel → FlowInv4 ops G V a0 listed a w → wpAny P .any ops Q fuel listed a w := by
  have hf : ∀ i o, ops[i]? = some o → (∀ j, (needs o).contains j = true → j < i) ∧ (∀ t, o.dst = some t → t < a0.tmps.size) ∧ (∀ j o', ops[j]? = some o' → i ≠ j → ∀ t, o.dst = some t → o'.dst ≠ some t) := by
    intro i o ho
    have hi : i < ops.size := (Array.getElem?_eq_some_iff.1 ho).1
    simp only [flowForm, List.all_eq_true, List.mem_range] at hform
    have h1 := hform i hi
    simp only [ho, Bool.and_eq_true, List.all_eq_true, decide_eq_true_eq] at h1
    obtain ⟨⟨h2, h3⟩, h4⟩ := h1
    refine ⟨fun j hj => h2 j (by simpa using hj), fun t ht => ?_, fun j o' ho' hne t ht => ?_⟩
    · rw [ht] at h3; simpa using h3
    · have h5 := h4 j (by have := (Array.getElem?_eq_some_iff.1 ho').1; simpa using this)
      simp only [ho', Bool.or_eq_true, beq_iff_eq, bne_iff_ne] at h5
      rcases h5 with (h5 | h5) | h5
      · exact absurd h5 hne
      · rw [ht] at h5; cases h5
      · rw [ht] at h5; exact fun e => h5 e.symm
  have done : ∀ listed a w, Region.ready .any ops listed = [] → FlowInv4 ops G V a0 listed a w → Q .normal a w := by
    intro listed a w hr I
    have hall : ∀ j, j < ops.size → listed.getD j false = true := by
      intro j
      induction j using Nat.strongRecOn with
      | ind j ih =>
        intro hj
        cases hl : listed.getD j false
        · exfalso
          have hj' : ops[j]? = some ops[j] := by simp [hj]
          have : j ∈ Region.ready .any ops listed := by
            rw [mem_ready]
            refine ⟨by rw [getD_flip (by rw [I.size]; exact hj) true false]; exact hl, ops[j], hj', fun e he hb => ?_⟩
            have hn := needs_mem.2 ⟨e, he, hb, rfl⟩
            have hlt := (hf j _ hj').1 _ hn
            exact ih e.on hlt (by omega)
          rw [hr] at this
          cases this
        · rfl
    exact hdone a w (up listed) hall I.ground I.tsz I.defers (fun t ht => I.kept t fun j o ho _ => by
      simp only [keptAll, Array.all_eq_true_iff_forall_mem] at ht
      simpa using ht o (Array.mem_of_getElem? ho)) (fun j o t ho ht => I.got j o t ho (hall j (Array.getElem?_eq_some_iff.1 ho).1) ht)
  intro fuel
  induction fuel with
  | zero =>
    intro listed a w hl I
    have hr : Region.ready .any ops listed = [] := by
      unfold left at hl
      have h0 := List.eq_nil_of_length_eq_zero (Nat.le_zero.1 hl)
      unfold Region.ready
      rw [List.filter_eq_nil_iff] at h0 ⊢
      intro i hi
      have h1 := h0 i hi
      cases hg : listed.getD i true
      · rw [hg] at h1; simp at h1
      · simp
    exact ⟨hr, done _ _ _ hr I⟩
  | succ fuel ih =>
    intro listed a w hl I
    refine ⟨fun hr => done _ _ _ hr I, fun i hi => ?_⟩
    obtain ⟨hun, o, ho, hall⟩ := mem_ready.1 hi
    have hisz : i < ops.size := (Array.getElem?_eq_some_iff.1 ho).1
    have hlsz : i < listed.size := by rw [I.size]; exact hisz
    have hun' : listed.getD i false = false := by rw [getD_flip hlsz false true]; exact hun
    have hneed : ∀ j, (needs o).contains j = true → listed.getD j false = true := fun j hj => by
      obtain ⟨e, he, hb, rfl⟩ := needs_mem.1 hj
      exact hall e he hb
    have hleft : left ops (listed.setIfInBounds i true) ≤ fuel := by
      have := filter_lt (fun k => !listed.getD k true) (fun k => !(listed.setIfInBounds i true).getD k true) (fun x hx => by
        by_cases e : i = x
        · subst e
          simp [hlsz] at hx
        · rw [getD_set_ne true e] at hx; exact hx) i (by simp only [hun, Bool.not_false]) (by simp [hlsz]) (List.range ops.size) (by simpa using hisz)
      unfold left at hl ⊢
      omega
    have hset : ∀ j, (listed.setIfInBounds i true).getD j false = true → j ≠ i → listed.getD j false = true := fun j hj hne => by
      rw [getD_set_ne false (Ne.symm hne)] at hj; exact hj
    have hdown : ∀ j o', ops[j]? = some o' → (listed.setIfInBounds i true).getD j false = true → ∀ k, (needs o').contains k = true → (listed.setIfInBounds i true).getD k false = true := by
      intro j o' ho' hj k hk
      by_cases e : j = i
      · subst e
        rw [ho] at ho'; cases ho'
        exact getD_set_true (hneed k hk)
      · exact getD_set_true (I.down j o' ho' (hset j hj e) k hk)
    refine wpOp_step ho fun K' hK' => ?_
    refine hop i o ho a w (up listed) ⟨hun', hneed, I.down, I.ground, I.tsz, I.defers, fun t ht => I.kept t fun j o' ho' hj hd => ?_, fun j oj t hj hoj ht => I.got j oj t hoj (hneed j hj) ht⟩ K' ?_
    · simp only [keptAt, List.all_eq_true, List.mem_range] at ht
      have h1 := ht j (Array.getElem?_eq_some_iff.1 ho').1
      simp only [ho', Bool.or_eq_true, bne_iff_ne, beq_iff_eq] at h1
      rcases h1 with (h1 | h1) | h1
      · exact h1 hd
      · have := I.down j o' ho' hj i h1
        rw [hun'] at this; cases this
      · rw [h1, hun'] at hj; cases hj
    · intro v w' hg hVi hVj
      refine hK' _ _ (ih _ _ _ hleft ?_)
      have hup := up_set hlsz
      refine ⟨by simpa using I.size, ?_, ?_, by rw [hup]; exact hg, hdown, ?_, ?_⟩
      · cases o.dst <;> simp [Act.put, I.tsz]
      · cases o.dst <;> simp [Act.put, I.defers]
      · intro t ht
        have h1 : o.dst ≠ some t := ht i o ho (by simp [hlsz])
        have h2 : a.tmps[t]? = a0.tmps[t]? := I.kept t fun j o' ho' hj => ht j o' ho' (getD_set_true hj)
        rw [← h2]
        cases hd : o.dst with
        | none => rfl
        | some d => exact put_other (fun e => h1 (by rw [hd, e]))
      · intro j oj t hoj hj ht
        rw [hup]
        by_cases e : j = i
        · subst e
          rw [ho] at hoj; cases hoj
          have hdl : t < a.tmps.size := by rw [I.tsz]; exact (hf j o ho).2.1 t ht
          exact ⟨v, by simp [ht, Act.put, hdl], hVi⟩
        · have hjl := hset j hj e
          obtain ⟨u, h1, h2⟩ := I.got j oj t hoj hjl ht
          refine ⟨u, ?_, hVj j u hjl h2⟩
          rw [← h1]
          cases hd : o.dst with
          | none => rfl
          | some d => exact put_other (fun q => (hf j oj hoj).2.2 i o ho e t ht (by rw [hd, q]))
/-- **The region**: all operations, then what follows. -/
theorem wp_region_turn {id : Nat} {draw : Bool} {a0 : Act} {w0 : World} (G : (Nat → Bool) → World → Prop) (V : (Nat → Bool) → Nat → Value → World → Prop) (n : Nat) (hsz : a0.tmps.size = n) (hm : P.follows .mixedOrders = true) (hform : flowForm ops n = true)
    (h0 : ∀ w1, Below w0.heap.size w0 w1 → w1.heap.size = w0.heap.size → ∀ s, (∀ j, s j = false) → G s w1)
    (hop : FlowAll4 P ops Q G V a0 0 ops.toList)
    (hdone : ∀ a w s, (∀ j, j < ops.size → s j = true) → G s w → a.tmps.size = n → a.defers = a0.defers → (∀ t, keptAll ops t = true → a.tmps[t]? = a0.tmps[t]?) → (∀ j o t, ops[j]? = some o → o.dst = some t → ∃ v, a.tmps[t]? = some v ∧ V s j v w) → Q .normal a w) :
    (Code.region id ops draw).wp P Q a0 w0 := by
  subst hsz
  have hall : ∀ w1, Below w0.heap.size w0 w1 → w1.heap.size = w0.heap.size → wpAny P .any ops Q ops.size (Array.replicate ops.size false) a0 w1 := by
    intro w1 hb1 hs1
    refine wpAny_flow4 hform (fun i o ho => ?_) hdone _ _ _ _ ?_ ?_
    · have := hop.at _ _ i o (by simpa using ho)
      rwa [Nat.zero_add] at this
    · unfold left
      exact Nat.le_trans (List.length_filter_le _ _) (by simp)
    · have hno : ∀ j, (Array.replicate ops.size false).getD j false = false := by
        intro j
        by_cases h : j < ops.size <;> simp [h]
      have hno' : ∀ j, (Array.replicate ops.size false).getD j false = true → False := fun j hj => by rw [hno j] at hj; cases hj
      exact ⟨by simp, rfl, rfl, h0 w1 hb1 hs1 _ hno, fun j _ _ hj => (hno' j hj).elim, fun t _ => rfl, fun j _ _ _ hj => (hno' j hj).elim⟩
  cases draw
  · refine wp_region ?_
    have := wpOps_of_any (P := P) (Q := Q) (ops := ops) (fun i o ho j hj => ?_) ops.size 0 (Array.replicate ops.size false) a0 w0 (by omega) (by simp) (fun j hj => by simp [hj]) (hall w0 (Below.refl _ _) rfl)
    · rw [List.range_eq_range']; exact this
    · simp only [flowForm, List.all_eq_true, List.mem_range] at hform
      have h1 := hform i (Array.getElem?_eq_some_iff.1 ho).1
      simp only [ho, Bool.and_eq_true, List.all_eq_true, decide_eq_true_eq] at h1
      exact h1.1.1 j (by simpa using hj)
  · exact wp_region_any hm (hall _ (Below.refl _ w0).drew rfl)
/-! What a step may ask. -/
def asks4 (ops : Array Oper) (o : Oper) (j : Nat) (t : Tmp) : Bool := (needs o).contains j && (match ops[j]? with | some oj => oj.dst == some t | none => false)
theorem Ctx4.slot {a0 : Act} {s : Nat → Bool} {i : Nat} {o : Oper} {a : Act} {w : World} (c : Ctx4 ops G V a0 s i o a w) (j : Nat) (t : Tmp) (h : asks4 ops o j t = true) : ∃ v, a.tmps[t]? = some v ∧ V s j v w := by
  unfold asks4 at h
  simp only [Bool.and_eq_true] at h
  obtain ⟨h1, h2⟩ := h
  cases ho : ops[j]? with
  | none => rw [ho] at h2; cases h2
  | some oj =>
    rw [ho] at h2
    exact c.need j oj t h1 ho (by simpa using h2)
theorem Ctx4.keep {a0 : Act} {s : Nat → Bool} {i : Nat} {o : Oper} {a : Act} {w : World} (c : Ctx4 ops G V a0 s i o a w) (t : Tmp) (v : Value) (h : keptAt ops i t = true) (e : a0.tmps[t]? = some v) : a.tmps[t]? = some v := (c.kept t h).trans e
/-- Operation i waits for k, by itself or by what it waits for. -/
theorem Ctx4.has {a0 : Act} {s : Nat → Bool} {i : Nat} {o : Oper} {a : Act} {w : World} (c : Ctx4 ops G V a0 s i o a w) (j : Nat) (h : (needs o).contains j = true) : s j = true := c.before j h
/-- What is said stays when memory is made. -/
def Calm (G : (Nat → Bool) → World → Prop) (V : (Nat → Bool) → Nat → Value → World → Prop) (i : Nat) : Prop :=
  (∀ s w w', s i = false → G s w → Below w.heap.size w w' → G (mark s i) w') ∧ ∀ s j u w w', s j = true → s i = false → V s j u w → Below w.heap.size w w' → V (mark s i) j u w'
/-- An operation that is wanted, and turns nothing that was there. -/
theorem FlowOp4.plain {a0 : Act} {i : Nat} {o : Oper} (hc : Calm G V i)
    (h : ∀ (a : Act) (w : World) (s : Nat → Bool), Ctx4 ops G V a0 s i o a w → Region.wanted o (yielded ops a.tmps) = true ∧ ∀ K : Act → World → Prop, Shut (∀ v w', V (mark s i) i v w' → Below w.heap.size w w' → K (a.put o.dst v) w') → Oper.wp P o a w K Q) :
    FlowOp4 P ops Q G V a0 i o := by
  intro a w s c K hK
  obtain ⟨h1, h2⟩ := h a w s c
  rw [if_pos h1]
  exact h2 K fun v w' hv hb => hK v w' (hc.1 s w w' c.new c.ground hb) hv fun j u hj hu => hc.2 s j u w w' hj c.new hu hb
/-- An operation that is not wanted. -/
theorem FlowOp4.unwanted {a0 : Act} {i : Nat} {o : Oper} (hc : Calm G V i)
    (h : ∀ (a : Act) (w : World) (s : Nat → Bool), Ctx4 ops G V a0 s i o a w → Region.wanted o (yielded ops a.tmps) = false ∧ V (mark s i) i undef w) : FlowOp4 P ops Q G V a0 i o := by
  intro a w s c K hK
  obtain ⟨h1, h2⟩ := h a w s c
  rw [if_neg (by rw [h1]; simp)]
  exact hK undef w (hc.1 s w w c.new c.ground (Below.refl _ _)) h2 fun j u hj hu => hc.2 s j u w w hj c.new hu (Below.refl _ _)
/-- An operation that turns something. -/
theorem FlowOp4.turn {a0 : Act} {i : Nat} {o : Oper}
    (h : ∀ (a : Act) (w : World) (s : Nat → Bool), Ctx4 ops G V a0 s i o a w → Region.wanted o (yielded ops a.tmps) = true ∧ ∀ K : Act → World → Prop, Shut (∀ v w', G (mark s i) w' → V (mark s i) i v w' → (∀ j u, s j = true → V s j u w → V (mark s i) j u w') → K (a.put o.dst v) w') → Oper.wp P o a w K Q) :
    FlowOp4 P ops Q G V a0 i o := by
  intro a w s c K hK
  obtain ⟨h1, h2⟩ := h a w s c
  rw [if_pos h1]
  exact h2 K hK
/-- The slot of operation j behind the region. -/
theorem got_slot4 {a : Act} {w : World} {s : Nat → Bool} (h : ∀ j o t, ops[j]? = some o → o.dst = some t → ∃ v, a.tmps[t]? = some v ∧ V s j v w) (j : Nat) (t : Tmp) (hs : (match ops[j]? with | some oj => oj.dst == some t | none => false) = true) : ∃ v, a.tmps[t]? = some v ∧ V s j v w := by
  cases ho : ops[j]? with
  | none => rw [ho] at hs; cases hs
  | some oj =>
    rw [ho] at hs
    exact h j oj t ho (by simpa using hs)
end Go.Proofs.YtcjlplaepnpopaaDoor
