/-
  A region, taken operation by operation, in whatever order it runs: if each operation, whenever what it waits for has come up, leaves in its slot what is said of it, and turns nothing that was there (but for a store into a variable that the region makes), then behind the region all that is said holds.
-/
import Derived.Orders
import Derived.RegionTactic
import Derived.Below
import Derived.Deep.MidRow
import Derived.Tactics
namespace Go.Proofs.YtcjlplaepnpopaaDoor
open Go.RowKit
variable {P : Program} {ops : Array Oper} {Q : Exit → Act → World → Prop} {V : Nat → Value → World → Prop}
/-- What an operation waits for. -/
def needs (o : Oper) : List Nat := (o.after.toList.filter fun e => Region.binds .any e).map (·.on)
/-- Whoever writes slot t waits for operation i, or is it. -/
def keptAt (ops : Array Oper) (i : Nat) (t : Tmp) : Bool :=
  (List.range ops.size).all fun j => match ops[j]? with
    | some o => o.dst != some t || (needs o).contains i || j == i
    | none => true
/-- Nobody writes slot t. -/
def keptAll (ops : Array Oper) (t : Tmp) : Bool := ops.all fun o => o.dst != some t
/-- The region's form: operations wait for earlier ones alone, each writes a slot of its own, within n. -/
def flowForm (ops : Array Oper) (n : Nat) : Bool :=
  (List.range ops.size).all fun i => match ops[i]? with
    | some o => (needs o).all (· < i) && (match o.dst with | some t => decide (t < n) | none => true) &&
        (List.range ops.size).all fun j => match ops[j]? with
          | some o' => i == j || o.dst == none || o.dst != o'.dst
          | none => true
    | none => true
theorem filter_lt (p q : Nat → Bool) (hpq : ∀ x, q x = true → p x = true) (i : Nat) (hp : p i = true) (hq : q i = false) :
    ∀ l : List Nat, i ∈ l → (l.filter q).length < (l.filter p).length := by
  have le : ∀ l : List Nat, (l.filter q).length ≤ (l.filter p).length := by
    intro l
    induction l with
    | nil => simp
    | cons x l ih =>
      by_cases h : q x = true
      · simp [h, hpq x h]; exact ih
      · by_cases h' : p x = true <;> simp [h, h'] <;> omega
  intro l
  induction l with
  | nil => simp
  | cons x l ih =>
    intro hm
    by_cases e : x = i
    · subst e
      simp only [List.filter_cons, hp, hq, if_true, Bool.false_eq_true, if_false, List.length_cons]
      have := le l
      omega
    · have hm' : i ∈ l := by
        rcases List.mem_cons.1 hm with h | h
        · exact absurd h.symm e
        · exact h
      have := ih hm'
      by_cases h : q x = true
      · simp only [List.filter_cons, h, hpq x h, if_true, List.length_cons]; omega
      · by_cases h' : p x = true
        · simp only [List.filter_cons, h, h', if_true, Bool.false_eq_true, if_false, List.length_cons]; omega
        · simp only [List.filter_cons, h, h', Bool.false_eq_true, if_false]; exact this
/-- How many have not come up. -/
def left (ops : Array Oper) (listed : Array Bool) : Nat := ((List.range ops.size).filter fun i => !listed.getD i true).length
theorem needs_mem {o : Oper} {i : Nat} : (needs o).contains i = true ↔ ∃ e ∈ o.after, Region.binds .any e = true ∧ e.on = i := by
  simp only [needs, List.contains_eq_mem, List.mem_map, List.mem_filter, Array.mem_toList_iff, decide_eq_true_eq]
  constructor
  · rintro ⟨e, ⟨h1, h2⟩, h3⟩; exact ⟨e, h1, h2, h3⟩
  · rintro ⟨e, h1, h2, h3⟩; exact ⟨e, ⟨h1, h2⟩, h3⟩
theorem getD_flip {listed : Array Bool} {j : Nat} (h : j < listed.size) (d d' : Bool) : listed.getD j d = listed.getD j d' := by
  simp [h]
theorem put_other {a : Act} {t d : Tmp} {v : Value} (h : d ≠ t) : (a.put (some d) v).tmps[t]? = a.tmps[t]? := by
  simp [Act.put, Array.getElem?_setIfInBounds_ne h]
/-! Regions that also make variables and store into them, once each. -/
/-- The slot that tells of an operation: of a store the slot of its target. -/
def slotOf (o : Oper) : Option Tmp := match o.op with | .store _ (.tmp t) _ => some t | _ => o.dst
def isStore (o : Oper) : Bool := match o.op with | .store _ _ _ => true | _ => false
def isAlloc (o : Oper) : Bool := match o.op with | .alloc _ => true | _ => false
/-- The block that a value points to. -/
def blockOf : Value → List Nat
  | .pointer (some p) => [p.block]
  | .slice (some p) _ _ => [p.block]
  | _ => []
/-- Operation k made the variable into which o stores. -/
def makes (ops : Array Oper) (o : Oper) (k : Nat) : Bool := match ops[k]? with | some ok => isAlloc ok && ok.dst == slotOf o && (needs o).contains k | none => false
/-- The region's form: as above; each operation has a slot; a store's target was made by one alloc of the region, and no other store has that target. -/
def storeForm (ops : Array Oper) : Bool :=
  ops.all (fun o => (slotOf o).isSome && (!isStore o || (o.dst == none && (List.range ops.size).any (makes ops o))) && (isStore o || slotOf o == o.dst)) &&
  (List.range ops.size).all fun i => (List.range ops.size).all fun j => match ops[i]?, ops[j]? with
    | some o, some o' => i == j || !isStore o || !isStore o' || slotOf o != slotOf o'
    | _, _ => true
def Got2 (V : Nat → Value → World → Prop) (a : Act) (w : World) (j : Nat) (o : Oper) : Prop := ∃ t v, slotOf o = some t ∧ a.tmps[t]? = some v ∧ V j v w
/-- Of what was there nothing but the blocks of L has turned. -/
structure ButIn (L : List Nat) (w w' : World) : Prop where
  os : w'.os = w.os
  tape : w'.tape = w.tape
  output : w'.output = w.output
  size : w'.heap.size = w.heap.size
  block : ∀ b, b ∉ L → w'.heap[b]? = w.heap[b]?
/-- Where an operation stands when it comes up. -/
structure Ctx (ops : Array Oper) (V : Nat → Value → World → Prop) (a0 : Act) (w0 : World) (i : Nat) (o : Oper) (a : Act) (w : World) : Prop where
  below : Below w0.heap.size w0 w
  tsz : a.tmps.size = a0.tmps.size
  defers : a.defers = a0.defers
  kept : ∀ t, keptAt ops i t = true → a.tmps[t]? = a0.tmps[t]?
  need : ∀ j oj, (needs o).contains j = true → ops[j]? = some oj → Got2 V a w j oj
/-- A hypothesis that no tactic looks into. -/
def Shut (p : Prop) : Prop := p
theorem Shut.out {p : Prop} (h : Shut p) : p := h
/-- One operation. -/
def FlowOp2 (P : Program) (ops : Array Oper) (Q : Exit → Act → World → Prop) (V : Nat → Value → World → Prop) (a0 : Act) (w0 : World) (i : Nat) (o : Oper) : Prop :=
  ∀ (a : Act) (w : World), Ctx ops V a0 w0 i o a w →
    ∀ K : Act → World → Prop,
      (if isStore o = true then ∀ t v w', slotOf o = some t → a.tmps[t]? = some v → V i v w' → (∀ k, makes ops o k = true → V k v w') → ButIn (blockOf v) w w' → K (a.put none undef) w'
       else ∀ v w', V i v w' → Below w.heap.size w w' → (∀ b ∈ blockOf v, b < w'.heap.size ∧ (w.heap.size ≤ b ∨ (b < w0.heap.size ∧ isAlloc o = false))) → K (a.put o.dst v) w') →
      if Region.wanted o (yielded ops a.tmps) = true then Oper.wp P o a w K Q else K (a.put o.dst undef) w
def FlowAll2 (P : Program) (ops : Array Oper) (Q : Exit → Act → World → Prop) (V : Nat → Value → World → Prop) (a0 : Act) (w0 : World) : Nat → List Oper → Prop
  | _, [] => True
  | i, o :: l => FlowOp2 P ops Q V a0 w0 i o ∧ FlowAll2 P ops Q V a0 w0 (i + 1) l
theorem FlowAll2.at {a0 : Act} {w0 : World} : ∀ (l : List Oper) (k : Nat), FlowAll2 P ops Q V a0 w0 k l → ∀ i o, l[i]? = some o → FlowOp2 P ops Q V a0 w0 (k + i) o
  | [], _, _, i, o, h => by simp at h
  | x :: l, k, h, 0, o, e => by
    simp at e; subst e; exact h.1
  | x :: l, k, h, i + 1, o, e => by
    have := FlowAll2.at l (k + 1) h.2 i o (by simpa using e)
    rw [show k + (i + 1) = k + 1 + i by omega]
    exact this
structure FlowInv2 (ops : Array Oper) (V : Nat → Value → World → Prop) (a0 : Act) (w0 : World) (listed : Array Bool) (a : Act) (w : World) : Prop where
  size : listed.size = ops.size
  tsz : a.tmps.size = a0.tmps.size
  defers : a.defers = a0.defers
  below : Below w0.heap.size w0 w
  down : ∀ j o, ops[j]? = some o → listed.getD j false = true → ∀ i, (needs o).contains i = true → listed.getD i false = true
  kept : ∀ t, (∀ j o, ops[j]? = some o → listed.getD j false = true → o.dst ≠ some t) → a.tmps[t]? = a0.tmps[t]?
  got : ∀ j o, ops[j]? = some o → listed.getD j false = true → Got2 V a w j o
  there : ∀ j o t v, ops[j]? = some o → listed.getD j false = true → slotOf o = some t → a.tmps[t]? = some v → ∀ b ∈ blockOf v, b < w.heap.size ∧ (isAlloc o = true → w0.heap.size ≤ b)
  apart : ∀ k ok j oj t v t' v', ops[k]? = some ok → ops[j]? = some oj → listed.getD k false = true → listed.getD j false = true → isAlloc ok = true → slotOf ok = some t → slotOf oj = some t' → t ≠ t' → a.tmps[t]? = some v → a.tmps[t']? = some v' → ∀ b ∈ blockOf v, b ∉ blockOf v'
theorem wpAny_flow2 {a0 : Act} {w0 : World} (hform : flowForm ops a0.tmps.size = true) (hst : storeForm ops = true)
    (hG : ∀ i v w w', V i v w → Below w.heap.size w w' → V i v w') (hS : ops.any isStore = true → ∀ i v w w' L, V i v w → (∀ b ∈ blockOf v, b ∉ L) → (∀ b ∈ L, w0.heap.size ≤ b) → ButIn L w w' → V i v w')
    (hop : ∀ i o, ops[i]? = some o → FlowOp2 P ops Q V a0 w0 i o)
    (hdone : ∀ a w, Below w0.heap.size w0 w → a.tmps.size = a0.tmps.size → a.defers = a0.defers → (∀ t, keptAll ops t = true → a.tmps[t]? = a0.tmps[t]?) → (∀ j o, ops[j]? = some o → Got2 V a w j o) → Q .normal a w) :
    ∀ (fuel : Nat) (listed : Array Bool) (a : Act) (w : World), left ops listed ≤ fuel → FlowInv2 ops V a0 w0 listed a w → wpAny P .any ops Q fuel listed a w := by
  have hf : ∀ i o, ops[i]? = some o → (∀ j, (needs o).contains j = true → j < i) ∧ (∀ t, o.dst = some t → t < a0.tmps.size) ∧ (∀ j o', ops[j]? = some o' → i ≠ j → ∀ t, o.dst = some t → o'.dst ≠ some t) := by
    intro i o ho
    have hi : i < ops.size := (Array.getElem?_eq_some_iff.1 ho).1
    simp only [flowForm, List.all_eq_true, List.mem_range] at hform
    have h1 := hform i hi
    simp only [ho, Bool.and_eq_true, List.all_eq_true, decide_eq_true_eq] at h1
    obtain ⟨⟨h2, h3⟩, h4⟩ := h1
    refine ⟨fun j hj => h2 j (by simpa using hj), fun t ht => ?_, fun j o' ho' hne t ht => ?_⟩
    · rw [ht] at h3; simpa using h3
    · have h5 := h4 j (by have := (Array.getElem?_eq_some_iff.1 ho').1; simpa using this)
      simp only [ho', Bool.or_eq_true, beq_iff_eq, bne_iff_ne] at h5
      rcases h5 with (h5 | h5) | h5
      · exact absurd h5 hne
      · rw [ht] at h5; cases h5
      · rw [ht] at h5; exact fun e => h5 e.symm
  simp only [storeForm, Bool.and_eq_true, Array.all_eq_true_iff_forall_mem, List.all_eq_true, List.mem_range] at hst
  obtain ⟨hs1, hs2⟩ := hst
  have hmk : ∀ o, o ∈ ops → isStore o = true → o.dst = none ∧ ∃ k, makes ops o k = true := by
    intro o ho hs
    have := (hs1 o ho).1.2
    simp only [hs, Bool.not_true, Bool.false_or, Bool.and_eq_true, beq_iff_eq, List.any_eq_true, List.mem_range] at this
    exact ⟨this.1, this.2.imp fun k h => h.2⟩
  have hsd : ∀ o, o ∈ ops → isStore o = false → slotOf o = o.dst := by
    intro o ho hs
    have := (hs1 o ho).2
    simpa [hs] using this
  have hone : ∀ (i j : Nat) (o o' : Oper), ops[i]? = some o → ops[j]? = some o' → isStore o = true → isStore o' = true → slotOf o = slotOf o' → i = j := by
    intro i j o o' ho ho' h1 h2 h3
    have := hs2 i (Array.getElem?_eq_some_iff.1 ho).1 j (Array.getElem?_eq_some_iff.1 ho').1
    simp only [ho, ho', h1, h2, h3, Bool.not_true, Bool.or_false, beq_iff_eq, bne_self_eq_false] at this
    exact this
  have hslot : ∀ o, o ∈ ops → ∃ t, slotOf o = some t := fun o ho => Option.isSome_iff_exists.1 ((hs1 o ho).1.1)
  have done : ∀ listed a w, Region.ready .any ops listed = [] → FlowInv2 ops V a0 w0 listed a w → Q .normal a w := by
    intro listed a w hr I
    have hall : ∀ j, j < ops.size → listed.getD j false = true := by
      intro j
      induction j using Nat.strongRecOn with
      | ind j ih =>
        intro hj
        cases hl : listed.getD j false
        · exfalso
          have hj' : ops[j]? = some ops[j] := by simp [hj]
          have : j ∈ Region.ready .any ops listed := by
            rw [mem_ready]
            refine ⟨by rw [getD_flip (by rw [I.size]; exact hj) true false]; exact hl, ops[j], hj', fun e he hb => ?_⟩
            have hn := needs_mem.2 ⟨e, he, hb, rfl⟩
            have hlt := (hf j _ hj').1 _ hn
            exact ih e.on hlt (by omega)
          rw [hr] at this
          cases this
        · rfl
    exact hdone a w I.below I.tsz I.defers (fun t ht => I.kept t fun j o ho _ => by
      simp only [keptAll, Array.all_eq_true_iff_forall_mem] at ht
      simpa using ht o (Array.mem_of_getElem? ho)) (fun j o ho => I.got j o ho (hall j (Array.getElem?_eq_some_iff.1 ho).1))
  intro fuel
  induction fuel with
  | zero =>
    intro listed a w hl I
    have hr : Region.ready .any ops listed = [] := by
      unfold left at hl
      have h0 := List.eq_nil_of_length_eq_zero (Nat.le_zero.1 hl)
      unfold Region.ready
      rw [List.filter_eq_nil_iff] at h0 ⊢
      intro i hi
      have h1 := h0 i hi
      cases hg : listed.getD i true
      · rw [hg] at h1; simp at h1
      · simp
    exact ⟨hr, done _ _ _ hr I⟩
  | succ fuel ih =>
    intro listed a w hl I
    refine ⟨fun hr => done _ _ _ hr I, fun i hi => ?_⟩
    obtain ⟨hun, o, ho, hall⟩ := mem_ready.1 hi
    have hisz : i < ops.size := (Array.getElem?_eq_some_iff.1 ho).1
    have hom : o ∈ ops := Array.mem_of_getElem? ho
    have hlsz : i < listed.size := by rw [I.size]; exact hisz
    have hun' : listed.getD i false = false := by rw [getD_flip hlsz false true]; exact hun
    have hneed : ∀ j, (needs o).contains j = true → listed.getD j false = true := fun j hj => by
      obtain ⟨e, he, hb, rfl⟩ := needs_mem.1 hj
      exact hall e he hb
    have hleft : left ops (listed.setIfInBounds i true) ≤ fuel := by
      have := filter_lt (fun k => !listed.getD k true) (fun k => !(listed.setIfInBounds i true).getD k true) (fun x hx => by
        by_cases e : i = x
        · subst e
          simp [hlsz] at hx
        · rw [getD_set_ne true e] at hx; exact hx) i (by simp only [hun, Bool.not_false]) (by simp [hlsz]) (List.range ops.size) (by simpa using hisz)
      unfold left at hl ⊢
      omega
    have hset : ∀ j, (listed.setIfInBounds i true).getD j false = true → j ≠ i → listed.getD j false = true := fun j hj hne => by
      rw [getD_set_ne false (Ne.symm hne)] at hj; exact hj
    have hdown : ∀ j o', ops[j]? = some o' → (listed.setIfInBounds i true).getD j false = true → ∀ k, (needs o').contains k = true → (listed.setIfInBounds i true).getD k false = true := by
      intro j o' ho' hj k hk
      by_cases e : j = i
      · subst e
        rw [ho] at ho'; cases ho'
        exact getD_set_true (hneed k hk)
      · exact getD_set_true (I.down j o' ho' (hset j hj e) k hk)
    refine wpOp_step ho fun K' hK' => ?_
    refine hop i o ho a w ⟨I.below, I.tsz, I.defers, fun t ht => I.kept t fun j o' ho' hj hd => ?_, fun j oj hj hoj => I.got j oj hoj (hneed j hj)⟩ K' ?_
    · simp only [keptAt, List.all_eq_true, List.mem_range] at ht
      have h1 := ht j (Array.getElem?_eq_some_iff.1 ho').1
      simp only [ho', Bool.or_eq_true, bne_iff_ne, beq_iff_eq] at h1
      rcases h1 with (h1 | h1) | h1
      · exact h1 hd
      · have := I.down j o' ho' hj i h1
        rw [hun'] at this; cases this
      · rw [h1, hun'] at hj; cases hj
    · split
      · -- a store
        rename_i hs
        obtain ⟨hdn, k, hk⟩ := hmk o hom hs
        intro t v w' hst0 htv hVi hVk hbut
        obtain ⟨ok, hok, hak, hkd, hkn⟩ : ∃ ok, ops[k]? = some ok ∧ isAlloc ok = true ∧ ok.dst = slotOf o ∧ (needs o).contains k = true := by
          unfold makes at hk
          cases h : ops[k]? with
          | none => rw [h] at hk; cases hk
          | some ok =>
            rw [h] at hk
            simp only [Bool.and_eq_true, beq_iff_eq] at hk
            exact ⟨ok, rfl, hk.1.1, hk.1.2, hk.2⟩
        have hks : isStore ok = false := by
          unfold isAlloc at hak; unfold isStore
          cases h : ok.op <;> rw [h] at hak <;> simp at hak ⊢
        have hkslot : slotOf ok = some t := by rw [hsd ok (Array.mem_of_getElem? hok) hks, hkd, hst0]
        have hkl := hneed k hkn
        have hge := I.there k ok t v hok hkl hkslot htv
        have hbel : Below w0.heap.size w w' := ⟨hbut.os, hbut.tape, hbut.output, by rw [hbut.size]; exact Nat.le_refl _, fun b hb => hbut.block b fun hm => by have := (hge b hm).2 hak; omega⟩
        have hput : a.put none undef = a := rfl
        refine hK' _ _ (ih _ _ _ hleft ?_)
        rw [hput]
        refine ⟨by simpa using I.size, I.tsz, I.defers, I.below.trans hbel, hdown, ?_, ?_, ?_, ?_⟩
        · intro t' ht'
          exact I.kept t' fun j o' ho' hj => ht' j o' ho' (getD_set_true hj)
        · intro j oj hoj hj
          by_cases e : j = i
          · subst e
            rw [ho] at hoj; cases hoj
            exact ⟨t, v, hst0, htv, hVi⟩
          · have hjl := hset j hj e
            obtain ⟨t', v', h1, h2, h3⟩ := I.got j oj hoj hjl
            refine ⟨t', v', h1, h2, ?_⟩
            by_cases et : t = t'
            · subst et
              rw [htv] at h2; cases h2
              by_cases ejk : j = k
              · subst ejk; exact hVk j hk
              · exfalso
                by_cases hjs : isStore oj = true
                · exact e (hone j i oj o hoj ho hjs hs (by rw [h1, hst0]))
                · have hjs' : isStore oj = false := by simpa using hjs
                  have hjd : oj.dst = some t := by rw [← hsd oj (Array.mem_of_getElem? hoj) hjs']; exact h1
                  have hkd' : ok.dst = some t := by rw [hkd, hst0]
                  exact (hf j oj hoj).2.2 k ok hok ejk t hjd hkd'
            · exact hS (Array.any_eq_true'.2 ⟨o, hom, hs⟩) _ _ _ _ _ h3 (fun b hb hm => I.apart k ok j oj t v t' v' hok hoj hkl hjl hak hkslot h1 et htv h2 b hm hb) (fun b hb => (hge b hb).2 hak) hbut
        · intro j oj t' v' hoj hj h1 h2 b hb
          rw [hbut.size]
          by_cases e : j = i
          · subst e
            rw [ho] at hoj; cases hoj
            rw [hst0] at h1; cases h1
            rw [htv] at h2; cases h2
            exact ⟨(hge b hb).1, fun _ => (hge b hb).2 hak⟩
          · exact I.there j oj t' v' hoj (hset j hj e) h1 h2 b hb
        · intro k1 ok1 j oj t1 v1 t' v' hok1 hoj hk1 hj ha1 hs1' h1 hne h2 h3 b hb
          by_cases ek : k1 = i
          · subst ek
            rw [ho] at hok1; cases hok1
            exfalso
            unfold isAlloc at ha1; unfold isStore at hs
            cases h : o.op <;> rw [h] at ha1 hs <;> simp at ha1 hs
          · by_cases e : j = i
            · subst e
              rw [ho] at hoj; cases hoj
              rw [hst0] at h1; cases h1
              exact I.apart k1 ok1 k ok t1 v1 t v' hok1 hok (hset k1 hk1 ek) hkl ha1 hs1' hkslot hne h2 h3 b hb
            · exact I.apart k1 ok1 j oj t1 v1 t' v' hok1 hoj (hset k1 hk1 ek) (hset j hj e) ha1 hs1' h1 hne h2 h3 b hb
      · -- no store
        rename_i hs
        have hs' : isStore o = false := by simpa using hs
        have hsl := hsd o hom hs'
        obtain ⟨d, hd0⟩ := hslot o hom
        have hd : o.dst = some d := by rw [← hsl]; exact hd0
        have hdl : d < a.tmps.size := by rw [I.tsz]; exact (hf i o ho).2.1 d hd
        intro v w' hVi hb hfr
        have hbel : Below w0.heap.size w w' := hb.mono I.below.size
        refine hK' _ _ (ih _ _ _ hleft ?_)
        have hsame : (a.put o.dst v).tmps[d]? = some v := by simp [hd, Act.put, hdl]
        have hoth : ∀ j oj t', ops[j]? = some oj → listed.getD j false = true → slotOf oj = some t' → t' ≠ d := by
          intro j oj t' hoj hj h1 e
          subst e
          have hji : j ≠ i := fun e => by rw [e, hun'] at hj; cases hj
          by_cases hjs : isStore oj = true
          · obtain ⟨_, k, hk⟩ := hmk oj (Array.mem_of_getElem? hoj) hjs
            unfold makes at hk
            cases h : ops[k]? with
            | none => rw [h] at hk; cases hk
            | some ok =>
              rw [h] at hk
              simp only [Bool.and_eq_true, beq_iff_eq] at hk
              have hkl := I.down j oj hoj hj k hk.2
              have hki : k ≠ i := fun e => by rw [e, hun'] at hkl; cases hkl
              exact (hf k ok h).2.2 i o ho hki t' (by rw [hk.1.2, h1]) hd
          · have hjd : oj.dst = some t' := by rw [← hsd oj (Array.mem_of_getElem? hoj) (by simpa using hjs)]; exact h1
            exact (hf j oj hoj).2.2 i o ho hji t' hjd hd
        have hkeep : ∀ t', t' ≠ d → (a.put o.dst v).tmps[t']? = a.tmps[t']? := fun t' h => by rw [hd]; exact put_other (Ne.symm h)
        refine ⟨by simpa using I.size, ?_, ?_, I.below.trans hbel, hdown, ?_, ?_, ?_, ?_⟩
        · simp [hd, Act.put, I.tsz]
        · simp [hd, Act.put, I.defers]
        · intro t ht
          have h1 : o.dst ≠ some t := ht i o ho (by simp [hlsz])
          have h2 : a.tmps[t]? = a0.tmps[t]? := I.kept t fun j o' ho' hj => ht j o' ho' (getD_set_true hj)
          rw [← h2]
          exact hkeep t fun e => h1 (by rw [hd, e])
        · intro j oj hoj hj
          by_cases e : j = i
          · subst e
            rw [ho] at hoj; cases hoj
            exact ⟨d, v, hd0, hsame, hVi⟩
          · have hjl := hset j hj e
            obtain ⟨t', v', h1, h2, h3⟩ := I.got j oj hoj hjl
            refine ⟨t', v', h1, by rw [hkeep t' (hoth j oj t' hoj hjl h1)]; exact h2, hG _ _ _ _ h3 hb⟩
        · intro j oj t' v' hoj hj h1 h2 b hbm
          by_cases e : j = i
          · subst e
            rw [ho] at hoj; cases hoj
            rw [hd0] at h1; cases h1
            rw [hsame] at h2; cases h2
            refine ⟨(hfr b hbm).1, fun ha => ?_⟩
            rcases (hfr b hbm).2 with h | ⟨_, h⟩
            · exact Nat.le_trans I.below.size h
            · rw [ha] at h; cases h
          · have hjl := hset j hj e
            rw [hkeep t' (hoth j oj t' hoj hjl h1)] at h2
            have := I.there j oj t' v' hoj hjl h1 h2 b hbm
            exact ⟨Nat.lt_of_lt_of_le this.1 hb.size, this.2⟩
        · intro k1 ok1 j oj t1 v1 t' v' hok1 hoj hk1 hj ha1 hs1' h1 hne h2 h3 b hbm hbm'
          by_cases ek : k1 = i
          · subst ek
            rw [ho] at hok1; cases hok1
            rw [hd0] at hs1'; cases hs1'
            rw [hsame] at h2; cases h2
            by_cases e : j = k1
            · subst e
              rw [ho] at hoj; cases hoj
              rw [hd0] at h1; cases h1
              exact hne rfl
            · have hjl := hset j hj e
              rw [hkeep t' (Ne.symm hne)] at h3
              have := (I.there j oj t' v' hoj hjl h1 h3 b hbm').1
              rcases (hfr b hbm).2 with h | ⟨_, h⟩
              · omega
              · rw [ha1] at h; cases h
          · have hk1l := hset k1 hk1 ek
            have hk1d := hoth k1 ok1 t1 hok1 hk1l hs1'
            rw [hkeep t1 hk1d] at h2
            have hb1 := I.there k1 ok1 t1 v1 hok1 hk1l hs1' h2 b hbm
            by_cases e : j = i
            · subst e
              rw [ho] at hoj; cases hoj
              rw [hd0] at h1; cases h1
              rw [hsame] at h3; cases h3
              rcases (hfr b hbm').2 with h | ⟨h, _⟩
              · omega
              · have := hb1.2 ha1; omega
            · have hjl := hset j hj e
              rw [hkeep t' (hoth j oj t' hoj hjl h1)] at h3
              exact I.apart k1 ok1 j oj t1 v1 t' v' hok1 hoj hk1l hjl ha1 hs1' h1 hne h2 h3 b hbm hbm'
theorem wpOps_of_any {Q : Exit → Act → World → Prop} (hneeds : ∀ i o, ops[i]? = some o → ∀ j, (needs o).contains j = true → j < i) : ∀ (m k : Nat) (listed : Array Bool) (a : Act) (w : World), k + m = ops.size → listed.size = ops.size → (∀ j, j < ops.size → listed.getD j false = decide (j < k)) →
    wpAny P .any ops Q m listed a w → wpOps P ops Q (List.range' k m) a w
  | 0, k, listed, a, w, _, _, _, h => h.2
  | m + 1, k, listed, a, w, hk, hz, hl, h => by
    rw [List.range'_succ, wpOps_cons]
    have hks : k < ops.size := by omega
    have hr : k ∈ Region.ready .any ops listed := by
      rw [mem_ready]
      refine ⟨by rw [getD_flip (by rw [hz]; exact hks) true false, hl k hks]; simp, ops[k], by simp [hks], fun e he hb => ?_⟩
      have hn := hneeds k ops[k] (by simp [hks]) e.on (needs_mem.2 ⟨e, he, hb, rfl⟩)
      rw [hl _ (by omega)]; simpa using hn
    refine wpOp_mono (fun a' w' h' => wpOps_of_any hneeds m (k + 1) _ a' w' (by omega) (by simpa using hz) (fun j hj => ?_) h') (h.2 k hr)
    by_cases e : k = j
    · subst e
      have : k < listed.size := by rw [hz]; exact hks
      simp [this]
    · rw [getD_set_ne false e, hl j hj]
      by_cases h1 : j < k
      · simp [h1, Nat.lt_succ_of_lt h1]
      · have : ¬ j < k + 1 := by omega
        simp [h1, this]
/-- **The region**: all operations, then what follows. -/
theorem wp_region_flow {id : Nat} {draw : Bool} {a0 : Act} {w0 : World} (V : Nat → Value → World → Prop) (n : Nat) (hsz : a0.tmps.size = n) (hm : P.follows .mixedOrders = true) (hform : flowForm ops n = true) (hst : storeForm ops = true)
    (hG : ∀ i v w w', V i v w → Below w.heap.size w w' → V i v w') (hS : ops.any isStore = true → ∀ i v w w' L, V i v w → (∀ b ∈ blockOf v, b ∉ L) → (∀ b ∈ L, w0.heap.size ≤ b) → ButIn L w w' → V i v w')
    (hop : FlowAll2 P ops Q V a0 w0 0 ops.toList)
    (hdone : ∀ a w, Below w0.heap.size w0 w → a.tmps.size = n → a.defers = a0.defers → (∀ t, keptAll ops t = true → a.tmps[t]? = a0.tmps[t]?) → (∀ j o, ops[j]? = some o → Got2 V a w j o) → Q .normal a w) :
    (Code.region id ops draw).wp P Q a0 w0 := by
  subst hsz
  have hall : ∀ w1, Below w0.heap.size w0 w1 → w1.heap.size = w0.heap.size → wpAny P .any ops Q ops.size (Array.replicate ops.size false) a0 w1 := by
    intro w1 hb1 hs1
    refine wpAny_flow2 hform hst hG hS (fun i o ho => ?_) hdone _ _ _ _ ?_ ?_
    · have := hop.at _ _ i o (by simpa using ho)
      rwa [Nat.zero_add] at this
    · unfold left
      exact Nat.le_trans (List.length_filter_le _ _) (by simp)
    · have hno : ∀ j, (Array.replicate ops.size false).getD j false = true → False := by
        intro j hj
        by_cases h : j < ops.size <;> simp [h] at hj
      exact ⟨by simp, rfl, rfl, hb1, fun j _ _ hj => (hno j hj).elim, fun t _ => rfl, fun j _ _ hj => (hno j hj).elim, fun j _ _ _ _ hj => (hno j hj).elim, fun k _ _ _ _ _ _ _ _ _ hk => (hno k hk).elim⟩
  cases draw
  · refine wp_region ?_
    have := wpOps_of_any (P := P) (Q := Q) (ops := ops) (fun i o ho j hj => ?_) ops.size 0 (Array.replicate ops.size false) a0 w0 (by omega) (by simp) (fun j hj => by simp [hj]) (hall w0 (Below.refl _ _) rfl)
    · rw [List.range_eq_range']; exact this
    · simp only [flowForm, List.all_eq_true, List.mem_range] at hform
      have h1 := hform i (Array.getElem?_eq_some_iff.1 ho).1
      simp only [ho, Bool.and_eq_true, List.all_eq_true, decide_eq_true_eq] at h1
      exact h1.1.1 j (by simpa using hj)
  · exact wp_region_any hm (hall _ (Below.refl _ w0).drew rfl)
/-! What a step may ask. -/
/-- Operation o waits for j, whose slot is t. -/
def asks (ops : Array Oper) (o : Oper) (j : Nat) (t : Tmp) : Bool := (needs o).contains j && (match ops[j]? with | some oj => slotOf oj == some t | none => false)
theorem Ctx.slot {a0 : Act} {w0 : World} {i : Nat} {o : Oper} {a : Act} {w : World} (c : Ctx ops V a0 w0 i o a w) (j : Nat) (t : Tmp) (h : asks ops o j t = true) : ∃ v, a.tmps[t]? = some v ∧ V j v w := by
  unfold asks at h
  simp only [Bool.and_eq_true] at h
  obtain ⟨h1, h2⟩ := h
  cases ho : ops[j]? with
  | none => rw [ho] at h2; cases h2
  | some oj =>
    rw [ho] at h2
    obtain ⟨t', v, e, hv, hp⟩ := c.need j oj h1 ho
    simp only [e, beq_iff_eq, Option.some.injEq] at h2
    subst h2
    exact ⟨v, hv, hp⟩
theorem Ctx.keep {a0 : Act} {w0 : World} {i : Nat} {o : Oper} {a : Act} {w : World} (c : Ctx ops V a0 w0 i o a w) (t : Tmp) (v : Value) (h : keptAt ops i t = true) (e : a0.tmps[t]? = some v) : a.tmps[t]? = some v := (c.kept t h).trans e
/-- An operation that is wanted and no store. -/
theorem FlowOp2.plain {a0 : Act} {w0 : World} {i : Nat} {o : Oper} (hs : isStore o = false)
    (h : ∀ (a : Act) (w : World), Ctx ops V a0 w0 i o a w → Region.wanted o (yielded ops a.tmps) = true ∧ ∀ K : Act → World → Prop, Shut (∀ v w', V i v w' → Below w.heap.size w w' → (∀ b ∈ blockOf v, b < w'.heap.size ∧ (w.heap.size ≤ b ∨ (b < w0.heap.size ∧ isAlloc o = false))) → K (a.put o.dst v) w') → Oper.wp P o a w K Q) :
    FlowOp2 P ops Q V a0 w0 i o := by
  intro a w c K hK
  rw [hs] at hK
  simp only [Bool.false_eq_true, if_false] at hK
  obtain ⟨h1, h2⟩ := h a w c
  rw [if_pos h1]
  exact h2 K hK
/-- An operation that is not wanted. -/
theorem FlowOp2.unwanted {a0 : Act} {w0 : World} {i : Nat} {o : Oper} (hs : isStore o = false)
    (h : ∀ (a : Act) (w : World), Ctx ops V a0 w0 i o a w → Region.wanted o (yielded ops a.tmps) = false ∧ V i undef w) : FlowOp2 P ops Q V a0 w0 i o := by
  intro a w c K hK
  rw [hs] at hK
  simp only [Bool.false_eq_true, if_false] at hK
  obtain ⟨h1, h2⟩ := h a w c
  rw [if_neg (by rw [h1]; simp)]
  exact hK undef w h2 (Below.refl _ _) (fun b hb => by cases hb)
/-- A store of a whole variable that the region made. -/
theorem FlowOp2.store {a0 : Act} {w0 : World} {i : Nat} {o : Oper} (hgd : o.guard = none) (hd : o.dst = none) (ty : TypeId) (t : Tmp) (y : Operand) (ho : o.op = .store ty (.tmp t) y) (k0 : Nat) (hk0 : ((List.range ops.size).all fun k => !makes ops o k || k == k0) = true)
    (h : ∀ (a : Act) (w : World), Ctx ops V a0 w0 i o a w → ∃ g cs0 cs tt, a.tmps[t]? = some (.pointer (some ⟨g, 0, none⟩)) ∧ w.heap[g]? = some (.cells cs0 tt (0, 0)) ∧ cs0.size = cs.size ∧ a.eval y = .agg cs ∧ (P.info? ty).map (·.size) = some cs.size ∧ cs.all (·.oneCell') = true ∧
      ∀ w', w'.heap[g]? = some (.cells cs tt (0, 0)) → V i (.pointer (some ⟨g, 0, none⟩)) w' ∧ V k0 (.pointer (some ⟨g, 0, none⟩)) w') :
    FlowOp2 P ops Q V a0 w0 i o := by
  intro a w c K hK
  have hs : isStore o = true := by simp [isStore, ho]
  rw [if_pos hs] at hK
  rw [if_pos (by simp [Region.wanted, hgd])]
  obtain ⟨g, cs0, cs, tt, ht, hg, hsz, hy, hi, h1, hv⟩ := h a w c
  have he : a.eval (.tmp t) = .pointer (some ⟨g, 0, none⟩) := by simp [Act.eval, ht]
  have hrun : (storeVar ty ⟨g, 0, none⟩ (.agg cs)).run P w = .ok () (w.setRow g cs) := run_storeVar_row w g tt ty cs0 cs hg hi hsz h1
  unfold Oper.wp execOp
  simp only [ho, he, hy, Instr.storeAt, Instr.sureAddr, Sem.run_bind, Sem.run_pure, Result.andThen_ok, hrun, Oper.upon]
  have hgl : g < w.heap.size := (Array.getElem?_eq_some_iff.1 hg).1
  have hnew : (w.setRow g cs).heap[g]? = some (.cells cs tt (0, 0)) := by
    simp only [World.setRow, Array.getElem?_modify, if_true, hg, Option.map_some]
  obtain ⟨hvi, hvk⟩ := hv _ hnew
  rw [hd]
  exact hK t _ _ (by simp [slotOf, ho]) ht hvi (fun k hk => by
    have hks : k < ops.size := by
      unfold makes at hk
      cases h : ops[k]? with
      | none => rw [h] at hk; cases hk
      | some ok => exact (Array.getElem?_eq_some_iff.1 h).1
    simp only [List.all_eq_true, List.mem_range] at hk0
    have := hk0 k hks
    simp only [hk, Bool.not_true, Bool.false_or, beq_iff_eq] at this
    rw [this]; exact hvk) ⟨rfl, rfl, rfl, by simp [World.setRow], fun b hb => by
    simp only [World.setRow, Array.getElem?_modify]
    rw [if_neg (fun e => hb (by simp [blockOf, e]))]⟩
theorem ev_tmp {a : Act} {t : Tmp} {v : Value} (h : a.tmps[t]? = some v) : a.eval (.tmp t) = v := by simp [Act.eval, h]
theorem wp_moved {o : Oper} {a : Act} {w : World} {K : Act → World → Prop} (x : Operand) (ho : o.op = .move x) (v : Value) (hx : a.eval x = v) (h : K (a.put o.dst v) w) : o.wp P a w K Q := by
  unfold Oper.wp execOp
  simp only [ho, hx]
  exact h
theorem wp_assigned {o : Oper} {a : Act} {w : World} {K : Act → World → Prop} (x : Operand) (ho : o.op = .assign x) (v : Value) (hx : a.eval x = v) (h : K (a.put o.dst v) w) : o.wp P a w K Q := by
  unfold Oper.wp execOp
  simp only [ho, hx]
  exact h
theorem wp_picked {o : Oper} {a : Act} {w : World} {K : Act → World → Prop} (c x y : Operand) (ho : o.op = .pick c x y) (b : Bool) (hc : a.eval c = .bool b) (v : Value) (hv : (if b then a.eval x else a.eval y) = v) (h : K (a.put o.dst v) w) : o.wp P a w K Q := by
  subst hv
  unfold Oper.wp execOp
  simp only [ho, hc]
  cases b <;> exact h
/-- A whole variable out of its block. -/
theorem wp_loaded {o : Oper} {a : Act} {w : World} {K : Act → World → Prop} (ty : TypeId) (x : Operand) (ho : o.op = .load ty x) (g : Nat) (hx : a.eval x = .pointer (some ⟨g, 0, none⟩)) (cs : Array Value) (tt : TypeId) (fz : Nat × Nat) (d : TypeDesc) (hg : w.heap[g]? = some (.cells cs tt fz))
    (hu : P.underlying ty = some d) (hd : (match d with | .struct _ | .array _ _ => true | _ => false) = true) (hi : (P.info? ty).map (·.size) = some cs.size) (h : K (a.put o.dst (.agg cs)) w) : o.wp P a w K Q := by
  have hrun := run_loadVar_row (P := P) w g tt ty cs fz d hg hu hd hi
  unfold Oper.wp execOp
  simp only [ho, hx, Instr.loadAt, Instr.sureAddr, Sem.run_bind, Sem.run_pure, Result.andThen_ok, hrun]
  exact h
/-- A call of a function by its number. -/
theorem wp_called {o : Oper} {a : Act} {w : World} {K : Act → World → Prop} (f : FuncId) (args : Array Operand) (tys : Array TypeId) (ho : o.op = .call { callee := .value (.func f), args := args, argTypes := tys }) (hent : ∀ (args : Array Value) (w : World), (callFunc f args).run P w = .ok (.enter f args) w)
    (vs : Array Value) (has : args.map a.eval = vs) (h : Calls P f vs w fun e w' => ∃ v, e = .returned v ∧ K (a.put o.dst v) w') : o.wp P a w K Q := by
  subst has
  have hr : (execOp a.eval o).run P w = .ok (.enter f (args.map a.eval)) w := by
    unfold execOp
    simp only [ho, resolve, Act.eval, Deferred.ofValue, Sem.run_bind, Sem.run_pure, Result.andThen_ok, invoke, Array.append_empty, Array.empty_append]
    exact hent _ _
  unfold Oper.wp
  rw [hr]
  refine Calls.mono h fun e w' he => ?_
  obtain ⟨v, rfl, hk⟩ := he
  exact hk
theorem enters_at {f : FuncId} {fn : Func} {c : Code} (hf : P.funcs[f]? = some fn) (hname : (fn.name == "runtime.NumGoroutine") = false) (hb : fn.body = some c) (args : Array Value) (w : World) : (callFunc f args).run P w = .ok (.enter f args) w := by
  have h1 : fn.name ≠ "runtime.NumGoroutine" := by simpa using hname
  simp [callFunc, hf, h1, hb, mark]
/-- An operation that gives a value. -/
theorem wp_given {o : Oper} {a : Act} {w w' : World} {K : Act → World → Prop} (s : Sem Value) (v : Value) (he : execOp a.eval o = (do pure (.value (← s)))) (hr : s.run P w = .ok v w') (h : K (a.put o.dst v) w') : o.wp P a w K Q := by
  unfold Oper.wp
  rw [he]
  simp only [Sem.run_bind, hr, Result.andThen_ok, Sem.run_pure]
  exact h
/-! An operation run from the values of its operands. -/
def rho (l : List (Nat × Value)) : Operand → Value
  | .tmp t => (l.lookup t).getD undef
  | .const v => v
  | .global g => .pointer (some ⟨g, 0, none⟩)
  | .func f => .func (.func f) #[] #[]
def AllIn (a : Act) : List (Nat × Value) → Prop
  | [] => True
  | p :: l => a.tmps[p.1]? = some p.2 ∧ AllIn a l
theorem AllIn.at {a : Act} : ∀ (l : List (Nat × Value)), AllIn a l → ∀ t v, l.lookup t = some v → a.tmps[t]? = some v
  | [], _, t, v, h => by simp at h
  | (t', v') :: l, h, t, v, e => by
    rw [List.lookup_cons] at e
    by_cases ht : (t == t') = true
    · simp only [ht] at e
      cases e
      have : t = t' := by simpa using ht
      subst this
      exact h.1
    · simp only [ht] at e
      exact AllIn.at l h.2 t v e
def covers (o : Oper) (l : List (Nat × Value)) : Bool := (match o.op with | .select _ _ => false | _ => true) && o.op.operands.all fun x => match x with | .tmp t => (l.map (·.1)).contains t | _ => true
theorem lookup_of_mem {t : Nat} : ∀ (l : List (Nat × Value)), t ∈ l.map (·.1) → ∃ v, l.lookup t = some v
  | [], h => by simp at h
  | (t', v') :: l, h => by
    rw [List.lookup_cons]
    by_cases e : (t == t') = true
    · simp [e]
    · simp only [e]
      have : t ∈ l.map (·.1) := by
        simp only [List.map_cons, List.mem_cons] at h
        rcases h with h | h
        · exact absurd (by simpa using h) e
        · exact h
      exact lookup_of_mem l this
theorem exec_rho {a : Act} {o : Oper} (l : List (Nat × Value)) (hl : AllIn a l) (hc : covers o l = true) : execOp a.eval o = execOp (rho l) o := by
  unfold covers at hc
  simp only [Bool.and_eq_true, Array.all_eq_true_iff_forall_mem] at hc
  refine execOp_congr o (fun cs b h => by rw [h] at hc; simp at hc) fun x hx => ?_
  have := hc.2 x hx
  cases x with
  | tmp t =>
    obtain ⟨v, hv⟩ := lookup_of_mem l (by simpa using this)
    have ha := AllIn.at l hl t v hv
    simp [Act.eval, rho, hv, ha]
  | _ => rfl
theorem wp_gen {o : Oper} {a : Act} {w w' : World} {K : Act → World → Prop} {v : Value} (l : List (Nat × Value)) (hl : AllIn a l) (hc : covers o l = true) (hr : (execOp (rho l) o).run P w = .ok (.value v) w') (h : K (a.put o.dst v) w') : o.wp P a w K Q := by
  unfold Oper.wp
  rw [exec_rho l hl hc, hr]
  exact h
theorem wp_gen_call {o : Oper} {a : Act} {w : World} {K : Act → World → Prop} {f : FuncId} {vs : Array Value} (l : List (Nat × Value)) (hl : AllIn a l) (hc : covers o l = true) (hr : ∀ w, (execOp (rho l) o).run P w = .ok (.enter f vs) w) (h : Calls P f vs w fun e w' => ∃ v, e = .returned v ∧ K (a.put o.dst v) w') : o.wp P a w K Q := by
  unfold Oper.wp
  rw [exec_rho l hl hc, hr]
  refine Calls.mono h fun e w' he => ?_
  obtain ⟨v, rfl, hk⟩ := he
  exact hk
/-! What is said of a slot, as a list of predicates. -/
def nthP (l : List (Value → World → Prop)) (i : Nat) (v : Value) (w : World) : Prop := (l.getD i (fun _ _ => True)) v w
def isV (t : Value) : Value → World → Prop := fun v _ => v = t
def isAnyV : Value → World → Prop := fun _ _ => True
def isPtr (cs : Array Value) (tt : TypeId) : Value → World → Prop := fun v w => ∃ g, v = .pointer (some ⟨g, 0, none⟩) ∧ w.heap[g]? = some (.cells cs tt (0, 0))
def isVar (n : Nat) (tt : TypeId) : Value → World → Prop := fun v w => ∃ g cs, v = .pointer (some ⟨g, 0, none⟩) ∧ w.heap[g]? = some (.cells cs tt (0, 0)) ∧ cs.size = n
/-- A slice of n elements at the front of a block that is known whole. -/
def isSl (cs : Array Value) (tt : TypeId) (n : Nat) : Value → World → Prop := fun v w => ∃ g c, v = .slice (some ⟨g, 0, none⟩) n c ∧ w.heap[g]? = some (.cells cs tt (0, 0))
/-- It stays when memory is made. -/
def Stays (p : Value → World → Prop) : Prop := ∀ v w w', p v w → Below w.heap.size w w' → p v w'
/-- It stays when a store goes elsewhere. -/
def StaysBut (p : Value → World → Prop) : Prop := ∀ v w w' L, p v w → (∀ b ∈ blockOf v, b ∉ L) → ButIn L w w' → p v w'
theorem below_at {w w' : World} {g : Nat} {o : Obj} (h : w.heap[g]? = some o) (hb : Below w.heap.size w w') : w'.heap[g]? = some o := (hb.block g (Array.getElem?_eq_some_iff.1 h).1).trans h
theorem but_at {w w' : World} {g : Nat} {o : Obj} {L : List Nat} (h : w.heap[g]? = some o) (hn : g ∉ L) (hb : ButIn L w w') : w'.heap[g]? = some o := (hb.block g hn).trans h
theorem Stays.isV {t : Value} : Stays (isV t) := fun _ _ _ h _ => h
theorem Stays.isAnyV : Stays isAnyV := fun _ _ _ _ _ => trivial
theorem Stays.isPtr {cs : Array Value} {tt : TypeId} : Stays (isPtr cs tt) := fun _ _ _ ⟨g, e, h⟩ hb => ⟨g, e, below_at h hb⟩
theorem Stays.isVar {n : Nat} {tt : TypeId} : Stays (isVar n tt) := fun _ _ _ ⟨g, cs, e, h, hs⟩ hb => ⟨g, cs, e, below_at h hb, hs⟩
theorem Stays.isSl {cs : Array Value} {tt : TypeId} {n : Nat} : Stays (isSl cs tt n) := fun _ _ _ ⟨g, c, e, h⟩ hb => ⟨g, c, e, below_at h hb⟩
theorem StaysBut.isV {t : Value} : StaysBut (isV t) := fun _ _ _ _ h _ _ => h
theorem StaysBut.isAnyV : StaysBut isAnyV := fun _ _ _ _ _ _ _ => trivial
theorem StaysBut.isPtr {cs : Array Value} {tt : TypeId} : StaysBut (isPtr cs tt) := fun _ _ _ _ ⟨g, e, h⟩ hd hb => ⟨g, e, but_at h (by subst e; exact hd g (by simp [blockOf])) hb⟩
theorem StaysBut.isVar {n : Nat} {tt : TypeId} : StaysBut (isVar n tt) := fun _ _ _ _ ⟨g, cs, e, h, hs⟩ hd hb => ⟨g, cs, e, but_at h (by subst e; exact hd g (by simp [blockOf])) hb, hs⟩
theorem StaysBut.isSl {cs : Array Value} {tt : TypeId} {n : Nat} : StaysBut (isSl cs tt n) := fun _ _ _ _ ⟨g, c, e, h⟩ hd hb => ⟨g, c, e, but_at h (by subst e; exact hd g (by simp [blockOf])) hb⟩
def AllP (q : (Value → World → Prop) → Prop) : List (Value → World → Prop) → Prop
  | [] => True
  | p :: l => q p ∧ AllP q l
theorem AllP.at {q : (Value → World → Prop) → Prop} (h0 : q (fun _ _ => True)) : ∀ (l : List (Value → World → Prop)), AllP q l → ∀ i, q (l.getD i (fun _ _ => True))
  | [], _, i => by simpa using h0
  | p :: l, h, 0 => h.1
  | p :: l, h, i + 1 => by simpa using AllP.at h0 l h.2 i
theorem nthP_stays {l : List (Value → World → Prop)} (h : AllP Stays l) (i : Nat) (v : Value) (w w' : World) (hp : nthP l i v w) (hb : Below w.heap.size w w') : nthP l i v w' := AllP.at (q := Stays) Stays.isAnyV l h i v w w' hp hb
theorem nthP_but {l : List (Value → World → Prop)} (h : AllP StaysBut l) (i : Nat) (v : Value) (w w' : World) (L : List Nat) (hp : nthP l i v w) (hd : ∀ b ∈ blockOf v, b ∉ L) (hb : ButIn L w w') : nthP l i v w' := AllP.at (q := StaysBut) StaysBut.isAnyV l h i v w w' L hp hd hb
theorem no_block {v : Value} {w w' : World} {n : Nat} {q : Bool} (h : blockOf v = []) : ∀ b ∈ blockOf v, b < w'.heap.size ∧ (w.heap.size ≤ b ∨ (b < n ∧ q = false)) := by rw [h]; intro b hb; cases hb
/-- The slot of operation j behind the region. -/
theorem got_slot {a : Act} {w : World} (h : ∀ j o, ops[j]? = some o → Got2 V a w j o) (j : Nat) (t : Tmp) (hs : (match ops[j]? with | some oj => slotOf oj == some t | none => false) = true) : ∃ v, a.tmps[t]? = some v ∧ V j v w := by
  cases ho : ops[j]? with
  | none => rw [ho] at hs; cases hs
  | some oj =>
    rw [ho] at hs
    obtain ⟨t', v, e, hv, hp⟩ := h j oj ho
    simp only [e, beq_iff_eq, Option.some.injEq] at hs
    subst hs
    exact ⟨v, hv, hp⟩
theorem wanted_none {o : Oper} {y : Nat → Option Bool} (h : o.guard = none) : Region.wanted o y = true := by simp [Region.wanted, h]
theorem wanted_some {o : Oper} {a : Act} {g : Nat} {want b : Bool} {t : Tmp} (h : o.guard = some (g, want)) (hs : (ops[g]?).bind (·.dst) = some t) (hv : a.tmps[t]? = some (.bool b)) : Region.wanted o (yielded ops a.tmps) = (b == want) := by
  simp only [Region.wanted, h, yielded, hs, Option.bind_some, hv]
  cases b <;> cases want <;> rfl
theorem wanted_yes {o : Oper} {a : Act} {g : Nat} {want : Bool} {t : Tmp} (h : o.guard = some (g, want)) (hs : (ops[g]?).bind (·.dst) = some t) (hv : a.tmps[t]? = some (.bool want)) : Region.wanted o (yielded ops a.tmps) = true := by
  rw [wanted_some h hs hv]; simp
theorem wanted_no {o : Oper} {a : Act} {g : Nat} {want b : Bool} {t : Tmp} (h : o.guard = some (g, want)) (hs : (ops[g]?).bind (·.dst) = some t) (hv : a.tmps[t]? = some (.bool b)) (hn : (b == want) = false) : Region.wanted o (yielded ops a.tmps) = false := by
  rw [wanted_some h hs hv]; exact hn
theorem wp_abs {c : Code} {a : Act} {w : World} (n : Nat) (hz : a.tmps.size = n) (h : ∀ a0 : Act, a0.tmps.size = n → a0.defers = a.defers → (∀ t : Nat, a0.tmps[t]? = a.tmps[t]?) → c.wp P Q a0 w) : c.wp P Q a w := h a hz rfl (fun _ => rfl)
theorem noStore {X : Prop} (h : ops.any isStore = false) : ops.any isStore = true → X := fun h' => by rw [h] at h'; cases h'
end Go.Proofs.YtcjlplaepnpopaaDoor
