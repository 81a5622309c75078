/-
  A region whose operations give one known value each, but one, of whose value something is known: in whatever order they come, behind it the slots hold these values. Memory is only made.
-/
import Derived.Test.YtookbgmolggohabCm
namespace Go.Proofs.Ytookbgmolggohab
open Go.RowKit
variable {P : Program} {ops : Array Oper} {Q : Exit → Act → World → Prop}
/-- What is known of an operation's value. -/
def oneV (J : Nat) (R : World → Value → Prop) (vs : List Value) : (Nat → Bool) → Nat → Value → World → Prop := fun _ j v w => (j ≠ J → v = vs.getD j undef) ∧ (j = J → R w v)
/-- Its guard is another one. -/
def gNe (o : Oper) (J : Nat) : Bool := match o.guard with | some g => g.1 != J | none => true
/-- One operation. -/
def OneOp (P : Program) (ops : Array Oper) (Q : Exit → Act → World → Prop) (J : Nat) (R : World → Value → Prop) (vs : List Value) (w0 : World) (a0 : Act) (i : Nat) (o : Oper) : Prop :=
  (∃ b, wantsV ops vs o b ∧ gNe o J = true ∧ (b = false → i ≠ J ∧ vs.getD i undef = undef) ∧ (b = true →
    ∀ (a : Act) (w : World), Below w0.heap.size w0 w →
      (∀ j t, j ≠ J → asks4 ops o j t = true → a.tmps[t]? = some (vs.getD j undef)) → (∀ t, asks4 ops o J t = true → ∃ u, a.tmps[t]? = some u ∧ R w u) → (∀ t, keptAt ops i t = true → a.tmps[t]? = a0.tmps[t]?) →
      ∀ K : Act → World → Prop, Shut (∀ v w', Below w.heap.size w w' → oneV J R vs (fun _ => true) i v w' → K (a.put o.dst v) w') → Oper.wp P o a w K Q))
def OneAll (P : Program) (ops : Array Oper) (Q : Exit → Act → World → Prop) (J : Nat) (R : World → Value → Prop) (vs : List Value) (w0 : World) (a0 : Act) : Nat → List Oper → Prop
  | _, [] => True
  | i, o :: l => OneOp P ops Q J R vs w0 a0 i o ∧ OneAll P ops Q J R vs w0 a0 (i + 1) l
theorem OneAll.flow {J : Nat} {R : World → Value → Prop} (hR : ∀ w w' v, Below w.heap.size w w' → R w v → R w' v) {vs : List Value} {w0 : World} {a0 : Act} : ∀ (l : List Oper) (i : Nat), OneAll P ops Q J R vs w0 a0 i l → FlowAll4 P ops Q (grown w0) (oneV J R vs) a0 i l
  | [], _, _ => trivial
  | o :: l, i, h => by
    refine ⟨?_, OneAll.flow hR l (i + 1) h.2⟩
    obtain ⟨b, hw, hgJ, h0, h1⟩ := h.1
    intro a w s c K hK
    have hslot : ∀ j t, j ≠ J → asks4 ops o j t = true → a.tmps[t]? = some (vs.getD j undef) := fun j t hj ht => by
      obtain ⟨v, e, hv⟩ := c.slot j t ht
      rw [e, hv.1 hj]
    have hslotJ : ∀ t, asks4 ops o J t = true → ∃ u, a.tmps[t]? = some u ∧ R w u := fun t ht => by
      obtain ⟨v, e, hv⟩ := c.slot J t ht
      exact ⟨v, e, hv.2 rfl⟩
    have hwant : Region.wanted o (yielded ops a.tmps) = b := by
      unfold wantsV at hw
      cases hg : o.guard with
      | none => rw [hg] at hw; rw [hw]; exact wanted_none hg
      | some gw =>
        obtain ⟨g, want⟩ := gw
        rw [hg] at hw
        have hgj : g ≠ J := by
          unfold gNe at hgJ
          rw [hg] at hgJ
          simpa using hgJ
        rcases hw with ⟨t, c', h2, h3, h4, h5⟩ | ⟨rfl, t, h2, h3, h4⟩
        · rw [wanted_some hg h2 (by rw [hslot g t hgj h4, h3]), h5]
        · exact wanted_undef hg h2 (by rw [hslot g t hgj h4, h3])
    rw [hwant]
    have hst : ∀ w', Below w.heap.size w w' → ∀ j u, s j = true → oneV J R vs s j u w → oneV J R vs (mark s i) j u w' := fun w' hb j u _ hu => ⟨hu.1, fun e => hR _ _ _ hb (hu.2 e)⟩
    have hG : ∀ w', Below w.heap.size w w' → grown w0 (mark s i) w' := fun w' hb => Below.trans c.ground (hb.mono (Below.size c.ground))
    cases b with
    | false =>
      obtain ⟨h2, h3⟩ := h0 rfl
      rw [if_neg (by simp)]
      exact hK undef w (hG w (Below.refl _ _)) ⟨fun _ => h3.symm, fun e => absurd e h2⟩ (hst w (Below.refl _ _))
    | true =>
      rw [if_pos rfl]
      exact h1 rfl a w c.ground hslot hslotJ c.kept K fun v w' hb hv => hK v w' (hG w' hb) hv (hst w' hb)
/-- **The region.** -/
theorem wp_region_one {id : Nat} {draw : Bool} {a0 : Act} {w0 : World} (J : Nat) (R : World → Value → Prop) (hR : ∀ w w' v, Below w.heap.size w w' → R w v → R w' v) (vs : List Value) (a1 : Value → Act) (n : Nat) (hsz : a0.tmps.size = n) (hm : P.follows .mixedOrders = true) (hform : flowForm ops n = true)
    (hop : OneAll P ops Q J R vs w0 a0 0 ops.toList) (hJ : (match ops[J]? with | some o => o.dst.isSome | none => false) = true) (hJv : J < vs.length) (ha : ∀ u, putAll a0 ops.toList (vs.set J u) = a1 u)
    (hdone : ∀ u w, Below w0.heap.size w0 w → R w u → Q .normal (a1 u) w) :
    (Code.region id ops draw).wp P Q a0 w0 := by
  refine wp_region_turn (V := oneV J R vs) (grown w0) n hsz hm hform (grown_start w0) (hop.flow hR) fun a w s hs hg hz hd hk hgot => ?_
  have hf : ∀ (i : Nat) (o : Oper), ops[i]? = some o → (∀ t, o.dst = some t → t < n) ∧ (∀ (j : Nat) (o' : Oper), ops[j]? = some o' → i ≠ j → ∀ t, o.dst = some t → o'.dst ≠ some t) := by
    intro i o ho
    have hi : i < ops.size := (Array.getElem?_eq_some_iff.1 ho).1
    simp only [flowForm, List.all_eq_true, List.mem_range] at hform
    have h1 := hform i hi
    simp only [ho, Bool.and_eq_true, List.all_eq_true, List.mem_range] at h1
    refine ⟨fun t ht => ?_, fun j o' ho' hne t ht => ?_⟩
    · have h2 := h1.1.2
      rw [ht] at h2
      simpa using h2
    · have h3 := h1.2 j (Array.getElem?_eq_some_iff.1 ho').1
      rw [ho'] at h3
      simp only [Bool.or_eq_true, beq_iff_eq, bne_iff_ne] at h3
      rcases h3 with (h3 | h3) | h3
      · exact absurd h3 hne
      · rw [ht] at h3; cases h3
      · intro e; rw [ht, e] at h3; exact h3 rfl
  cases hoJ : ops[J]? with
  | none => rw [hoJ] at hJ; cases hJ
  | some oJ =>
  rw [hoJ] at hJ
  obtain ⟨tJ, htJ⟩ := Option.isSome_iff_exists.1 hJ
  obtain ⟨u, hu, hVu⟩ := hgot J oJ tJ hoJ htJ
  have e : a = a1 u := by
    rw [← ha u]
    refine act_ext ?_ (by rw [putAll_defers, hd])
    apply Array.ext_getElem?
    intro t
    by_cases hx : ∃ (j : Nat) (o : Oper), ops[j]? = some o ∧ o.dst = some t
    · obtain ⟨j, o, ho, ht⟩ := hx
      obtain ⟨v, hv, e⟩ := hgot j o t ho ht
      rw [putAll_got ops.toList _ a0 j o (by simpa using ho) ht (fun j' o' hne e' hd' => (hf j o ho).2 j' o' (by simpa using e') (Ne.symm hne) t ht hd') (by rw [hsz]; exact (hf j o ho).1 t ht)]
      by_cases c : j = J
      · subst c
        rw [hoJ] at ho
        cases ho
        rw [htJ] at ht
        cases ht
        rw [hu]
        simp [List.getD, hJv]
      · rw [hv, e.1 c]
        simp [List.getD, List.getElem?_set_ne (Ne.symm c)]
    · have hno : ∀ (j : Nat) o, ops[j]? = some o → o.dst ≠ some t := fun j o ho ht => hx ⟨j, o, ho, ht⟩
      rw [putAll_kept ops.toList _ a0 fun j o e' => hno j o (by simpa using e')]
      refine hk t ?_
      unfold keptAll
      rw [Array.all_eq_true]
      intro i hi
      have := hno i ops[i] (by simp [hi])
      simpa using this
  rw [e]
  exact hdone u w hg (hVu.2 rfl)
theorem run_cell1 {w : World} {g i : Nat} {ty : TypeId} {v : Value} (hc : w.cell? ⟨g, i, none⟩ = some v) (ha : (isAgg ty).run P w = .ok false w) : (loadVar ty ⟨g, i, none⟩).run P w = .ok v w := by
  simp [loadVar, ha, hc, go_sem]
variable {J : Nat} {R : World → Value → Prop} {vs : List Value} {w0 : World} {a0 : Act} {i : Nat} {o : Oper}
/-- An operation that gives its value and leaves memory alone. -/
theorem OneOp.pure (hi : i ≠ J) (hgJ : gNe o J = true) (l : List (Nat × Value)) (hw : wantsV ops vs o true)
    (hl : ∀ a : Act, (∀ j t, j ≠ J → asks4 ops o j t = true → a.tmps[t]? = some (vs.getD j undef)) → (∀ t, keptAt ops i t = true → a.tmps[t]? = a0.tmps[t]?) → AllIn a l) (hc : covers o l = true)
    (hr : ∀ w, Below w0.heap.size w0 w → (execOp (rho l) o).run P w = .ok (.value (vs.getD i undef)) w) : OneOp P ops Q J R vs w0 a0 i o :=
  ⟨true, hw, hgJ, fun h => (by cases h), fun _ a w hb h1 _ h2 _ hK => wp_gen l (hl a h1 h2) hc (hr w hb) (hK.out _ w (Below.refl _ _) ⟨fun _ => rfl, fun e => absurd e hi⟩)⟩
theorem OneOp.no (hi : i ≠ J) (hgJ : gNe o J = true) (hw : wantsV ops vs o false) (hv : vs.getD i undef = undef) : OneOp P ops Q J R vs w0 a0 i o :=
  ⟨false, hw, hgJ, fun _ => ⟨hi, hv⟩, fun h => (by cases h)⟩
theorem OneOp.call (hi : i ≠ J) (hgJ : gNe o J = true) (l : List (Nat × Value)) (hw : wantsV ops vs o true)
    (hl : ∀ a : Act, (∀ j t, j ≠ J → asks4 ops o j t = true → a.tmps[t]? = some (vs.getD j undef)) → (∀ t, keptAt ops i t = true → a.tmps[t]? = a0.tmps[t]?) → AllIn a l) (hc : covers o l = true) (f : FuncId) (as : Array Value)
    (hr : ∀ w, (execOp (rho l) o).run P w = .ok (.enter f as) w)
    (h : ∀ w, Below w0.heap.size w0 w → Calls P f as w fun e w' => e = .returned (vs.getD i undef) ∧ Below w.heap.size w w') : OneOp P ops Q J R vs w0 a0 i o :=
  ⟨true, hw, hgJ, fun h => (by cases h), fun _ a w hg h1 _ h2 K hK => by
    refine wp_gen_call l (hl a h1 h2) hc hr ?_
    refine (h w hg).mono ?_
    rintro e w' ⟨rfl, hb⟩
    exact ⟨_, rfl, hK.out _ w' hb ⟨fun _ => rfl, fun e => absurd e hi⟩⟩⟩
/-- The call whose value is not told. -/
theorem OneOp.callJ (hi : i = J) (hgJ : gNe o J = true) (l : List (Nat × Value)) (hw : wantsV ops vs o true)
    (hl : ∀ a : Act, (∀ j t, j ≠ J → asks4 ops o j t = true → a.tmps[t]? = some (vs.getD j undef)) → (∀ t, keptAt ops i t = true → a.tmps[t]? = a0.tmps[t]?) → AllIn a l) (hc : covers o l = true) (f : FuncId) (as : Array Value)
    (hr : ∀ w, (execOp (rho l) o).run P w = .ok (.enter f as) w)
    (h : ∀ w, Below w0.heap.size w0 w → Calls P f as w fun e w' => ∃ u, e = .returned u ∧ R w' u ∧ Below w.heap.size w w') : OneOp P ops Q J R vs w0 a0 i o :=
  ⟨true, hw, hgJ, fun h => (by cases h), fun _ a w hg h1 _ h2 K hK => by
    refine wp_gen_call l (hl a h1 h2) hc hr ?_
    refine (h w hg).mono ?_
    rintro e w' ⟨u, rfl, hu, hb⟩
    exact ⟨_, rfl, hK.out _ w' hb ⟨fun e => absurd hi e, fun _ => hu⟩⟩⟩
/-- A call that is handed it. -/
theorem OneOp.callU (hi : i ≠ J) (hgJ : gNe o J = true) (tJ : Nat) (hJ : asks4 ops o J tJ = true) (l : Value → List (Nat × Value)) (hw : wantsV ops vs o true)
    (hl : ∀ (a : Act) u, a.tmps[tJ]? = some u → (∀ j t, j ≠ J → asks4 ops o j t = true → a.tmps[t]? = some (vs.getD j undef)) → (∀ t, keptAt ops i t = true → a.tmps[t]? = a0.tmps[t]?) → AllIn a (l u)) (hc : ∀ u, covers o (l u) = true) (f : FuncId) (as : Value → Array Value)
    (hr : ∀ u w, (execOp (rho (l u)) o).run P w = .ok (.enter f (as u)) w)
    (h : ∀ u w, Below w0.heap.size w0 w → R w u → Calls P f (as u) w fun e w' => e = .returned (vs.getD i undef) ∧ Below w.heap.size w w') : OneOp P ops Q J R vs w0 a0 i o :=
  ⟨true, hw, hgJ, fun h => (by cases h), fun _ a w hg h1 hj h2 K hK => by
    obtain ⟨u, hu, hRu⟩ := hj tJ hJ
    refine wp_gen_call (l u) (hl a u hu h1 h2) (hc u) (hr u) ?_
    refine (h u w hg hRu).mono ?_
    rintro e w' ⟨rfl, hb⟩
    exact ⟨_, rfl, hK.out _ w' hb ⟨fun _ => rfl, fun e => absurd e hi⟩⟩⟩
end Go.Proofs.Ytookbgmolggohab
