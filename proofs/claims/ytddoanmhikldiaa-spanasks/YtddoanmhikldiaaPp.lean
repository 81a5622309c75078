/-
  What the document's Put makes is the set of what it says, stretch by stretch. No conditions on memory.
-/
import Derived.Test.YtddoanmhikldiaaPa
namespace Go.Proofs.Ytddoanmhikldiaa
def bnd (E : List Int) (k : Nat) : Int := if k < E.length then E.getD k 0 else 1114112
theorem rise_lt {E : List Int} (h : E.Pairwise (· < ·)) {i j : Nat} (hij : i < j) (hj : j < E.length) : E.getD i 0 < E.getD j 0 := by
  have := List.pairwise_iff_getElem.1 h i j (by omega) hj hij
  simpa [List.getD, List.getElem?_eq_getElem hj, List.getElem?_eq_getElem (show i < E.length by omega)] using this
theorem getD_mem {E : List Int} {i : Nat} (h : i < E.length) : E.getD i 0 ∈ E := by simp [List.getD, List.getElem?_eq_getElem h]
theorem mem_at {E : List Int} {x : Int} (h : x ∈ E) : ∃ i, i < E.length ∧ E.getD i 0 = x := by
  obtain ⟨i, hi, rfl⟩ := List.getElem_of_mem h
  exact ⟨i, hi, by simp [List.getD, List.getElem?_eq_getElem hi]⟩
theorem toE_bnd (E : List Int) (k : Nat) : toE E k + 1 = bnd E (k + 1) := by
  unfold toE bnd
  split <;> omega
theorem e_le_to {E : List Int} (h : E.Pairwise (· < ·)) (hb : ∀ x ∈ E, 0 ≤ x ∧ x ≤ 1114111) {k : Nat} (hk : k < E.length) : 0 ≤ E.getD k 0 ∧ E.getD k 0 ≤ toE E k ∧ toE E k ≤ 1114111 := by
  have h1 := hb _ (getD_mem hk)
  unfold toE
  split
  · rename_i c
    have h2 := hb _ (getD_mem c)
    have h3 := rise_lt h (show k < k + 1 by omega) c
    omega
  · omega
theorem glue_set {o : List Sn} {s : Sn} (ho : isS 0 o = true) (hs : mayB s = true) (hn : nxt 0 o ≤ s.1 + 1) : isS 0 (glue o s) = true ∧ (∀ p, hasB (glue o s) p = (hasB o p || inB s p)) ∧ nxt 0 (glue o s) = s.2 + 2 ∧ (glue o s).length ≤ o.length + 1 := by
  have hs' := may_iff.1 hs
  rcases snoc_or o with rfl | ⟨y, t, rfl⟩
  · exact ⟨isS_cons.2 ⟨hs, by omega, rfl⟩, fun p => by show hasB [s] p = _; rw [has_one, has_nil, Bool.false_or], rfl, by simp [glue]⟩
  · rw [glue_snoc]
    have ho' := isS_snoc.1 ho
    have ht := may_iff.1 ho'.2.1
    rw [nxt_snoc] at hn
    split
    · rename_i c
      refine ⟨isS_snoc.2 ⟨ho'.1, may_iff.2 ⟨ht.1, ?_, hs'.2.2⟩, ho'.2.2⟩, fun p => ?_, nxt_snoc _ _ _, by simp⟩
      · show t.1 ≤ s.2; omega
      · rw [has_app, has_app, has_one, has_one, Bool.or_assoc]
        congr 1
        refine bool_eq (fun h => ?_) (fun h => ?_)
        · have := in_iff.1 h
          simp only at this
          rw [Bool.or_eq_true, in_iff, in_iff]; omega
        · rw [Bool.or_eq_true, in_iff, in_iff] at h
          rw [in_iff]; simp only; omega
    · rename_i c
      refine ⟨isS_snoc.2 ⟨ho, hs, ?_⟩, fun p => by rw [has_app _ [s], has_one], nxt_snoc _ _ _, by simp⟩
      rw [nxt_snoc]; omega
theorem put_set {E : List Int} {f : Int → Bool} (h : E.Pairwise (· < ·)) (hb : ∀ x ∈ E, 0 ≤ x ∧ x ≤ 1114111) (h0 : bnd E 0 = 0) (hf : ∀ i, i < E.length → ∀ p, E.getD i 0 ≤ p → p ≤ toE E i → f p = f (E.getD i 0)) :
    ∀ k, k ≤ E.length → isS 0 (putK E f k) = true ∧ (∀ p, hasB (putK E f k) p = (decide (0 ≤ p) && decide (p < bnd E k) && f p)) ∧ nxt 0 (putK E f k) ≤ bnd E k + 1 ∧ (putK E f k).length ≤ k ∧ 0 ≤ bnd E k := by
  intro k
  induction k with
  | zero =>
    intro _
    refine ⟨rfl, fun p => ?_, ?_, Nat.le_refl _, by omega⟩
    · rw [h0]
      show false = _
      by_cases c : 0 ≤ p
      · rw [decide_eq_false (show ¬ p < 0 by omega)]; simp
      · rw [decide_eq_false c]; simp
    · show 0 ≤ _; omega
  | succ k ih =>
    intro hk
    obtain ⟨i1, i2, i3, i4, i5⟩ := ih (by omega)
    obtain ⟨e1, e2, e3⟩ := e_le_to h hb (show k < E.length by omega)
    have hbk : bnd E k = E.getD k 0 := by unfold bnd; rw [if_pos (by omega)]
    have hbn := toE_bnd E k
    have hc := hf k (by omega)
    rw [hbk] at i2 i3
    have hE : putK E f (k + 1) = if f (E.getD k 0) then glue (putK E f k) (E.getD k 0, toE E k) else putK E f k := rfl
    rw [hE, ← hbn]
    clear hE hbn
    generalize E.getD k 0 = e at *
    generalize toE E k = to at *
    by_cases c : f e = true
    · rw [if_pos c]
      obtain ⟨g1, g2, g3, g4⟩ := glue_set (s := (e, to)) i1 (may_iff.2 ⟨e1, e2, e3⟩) i3
      refine ⟨g1, fun p => ?_, by rw [g3]; simp only; omega, by omega, by omega⟩
      rw [g2, i2]
      by_cases c1 : e ≤ p ∧ p ≤ to
      · rw [hc p c1.1 c1.2, c, show inB (e, to) p = true from in_iff.2 c1, decide_eq_true (show 0 ≤ p by omega), decide_eq_true (show p < to + 1 by omega)]; simp
      · rw [show inB (e, to) p = false from by rw [Bool.eq_false_iff]; intro h; exact c1 (in_iff.1 h), Bool.or_false]
        by_cases c2 : p < e
        · rw [decide_eq_true c2, decide_eq_true (show p < to + 1 by omega)]
        · rw [decide_eq_false c2, decide_eq_false (show ¬ p < to + 1 by omega)]
    · rw [if_neg c]
      refine ⟨i1, fun p => ?_, by omega, by omega, by omega⟩
      rw [i2]
      by_cases c1 : e ≤ p ∧ p ≤ to
      · rw [hc p c1.1 c1.2, Bool.eq_false_iff.2 c]; simp
      · by_cases c2 : p < e
        · rw [decide_eq_true c2, decide_eq_true (show p < to + 1 by omega)]
        · rw [decide_eq_false c2, decide_eq_false (show ¬ p < to + 1 by omega)]
theorem has_const {E : List Int} {A : List Sn} (h : E.Pairwise (· < ·)) (hm : ∀ s ∈ A, s.1 ∈ E ∧ (s.2 < 1114111 → s.2 + 1 ∈ E)) {i : Nat} (hi : i < E.length) {p : Int} (h1 : E.getD i 0 ≤ p) (h2 : p ≤ toE E i) (h3 : p ≤ 1114111) : hasB A p = hasB A (E.getD i 0) := by
  have key : ∀ x ∈ E, x ≤ p → x ≤ E.getD i 0 := by
    intro x hx hxp
    obtain ⟨j, hj, rfl⟩ := mem_at hx
    rcases Nat.lt_trichotomy j i with c | c | c
    · exact Int.le_of_lt (rise_lt h c hi)
    · rw [c]; exact Int.le_refl _
    · exfalso
      unfold toE at h2
      rw [if_pos (by omega)] at h2
      rcases Nat.lt_or_ge (i + 1) j with d | d
      · have := rise_lt h d hj; omega
      · have : j = i + 1 := by omega
        subst this
        omega
  unfold hasB
  rw [Bool.eq_iff_iff, List.any_eq_true, List.any_eq_true]
  constructor
  · rintro ⟨s, hs, q⟩
    refine ⟨s, hs, ?_⟩
    rw [in_iff] at q ⊢
    have := key s.1 (hm s hs).1 q.1
    omega
  · rintro ⟨s, hs, q⟩
    refine ⟨s, hs, ?_⟩
    rw [in_iff] at q ⊢
    refine ⟨by omega, ?_⟩
    by_cases c : s.2 < p
    · have := key (s.2 + 1) ((hm s hs).2 (by omega)) (by omega)
      omega
    · omega
/-- The places of two lists, and what is put together of them. -/
theorem put_all (A B : List Sn) (way : Nat) (ha : ∀ s ∈ A, mayB s = true) (hb : ∀ s ∈ B, mayB s = true) :
    ∀ k, k ≤ (edF (edF [0] A) B).length → isS 0 (putK (edF (edF [0] A) B) (fun p => opB way (hasB A p) (hasB B p)) k) = true ∧ (∀ p, hasB (putK (edF (edF [0] A) B) (fun p => opB way (hasB A p) (hasB B p)) k) p = (decide (0 ≤ p) && decide (p < bnd (edF (edF [0] A) B) k) && opB way (hasB A p) (hasB B p))) ∧ (putK (edF (edF [0] A) B) (fun p => opB way (hasB A p) (hasB B p)) k).length ≤ k := by
  have hmem : ∀ x, x ∈ edF (edF [0] A) B ↔ (x = 0 ∨ ∃ s ∈ A, x = s.1 ∨ (s.2 < 1114111 ∧ x = s.2 + 1)) ∨ ∃ s ∈ B, x = s.1 ∨ (s.2 < 1114111 ∧ x = s.2 + 1) := by
    intro x; rw [edF_mem, edF_mem]; simp
  have hr : (edF (edF [0] A) B).Pairwise (· < ·) := edF_rise _ _ (edF_rise _ _ (by simp))
  have hbd : ∀ x ∈ edF (edF [0] A) B, 0 ≤ x ∧ x ≤ 1114111 := by
    intro x hx
    rcases (hmem x).1 hx with (rfl | ⟨s, hs, q⟩) | ⟨s, hs, q⟩
    · omega
    · have := may_iff.1 (ha s hs); omega
    · have := may_iff.1 (hb s hs); omega
  have hmA : ∀ s ∈ A, s.1 ∈ edF (edF [0] A) B ∧ (s.2 < 1114111 → s.2 + 1 ∈ edF (edF [0] A) B) := fun s hs => ⟨(hmem _).2 (.inl (.inr ⟨s, hs, .inl rfl⟩)), fun h => (hmem _).2 (.inl (.inr ⟨s, hs, .inr ⟨h, rfl⟩⟩))⟩
  have hmB : ∀ s ∈ B, s.1 ∈ edF (edF [0] A) B ∧ (s.2 < 1114111 → s.2 + 1 ∈ edF (edF [0] A) B) := fun s hs => ⟨(hmem _).2 (.inr ⟨s, hs, .inl rfl⟩), fun h => (hmem _).2 (.inr ⟨s, hs, .inr ⟨h, rfl⟩⟩)⟩
  have h0m : (0 : Int) ∈ edF (edF [0] A) B := (hmem 0).2 (.inl (.inl rfl))
  generalize edF (edF [0] A) B = E at *
  have h0 : bnd E 0 = 0 := by
    obtain ⟨j, hj, e⟩ := mem_at h0m
    unfold bnd
    rw [if_pos (by omega)]
    rcases Nat.eq_zero_or_pos j with c | c
    · rw [c] at e; exact e
    · have h1 := rise_lt hr c hj
      have h2 := (hbd _ (getD_mem (show 0 < E.length by omega))).1
      omega
  have hp := put_set (f := fun p => opB way (hasB A p) (hasB B p)) hr hbd h0 (fun i hi p h1 h2 => by
    have h3 := (e_le_to hr hbd hi).2.2
    show opB way (hasB A p) (hasB B p) = opB way (hasB A (E.getD i 0)) (hasB B (E.getD i 0))
    rw [has_const hr hmA hi h1 h2 (by omega), has_const hr hmB hi h1 h2 (by omega)])
  intro k hk
  obtain ⟨a, b, _, d, _⟩ := hp k hk
  exact ⟨a, b, d⟩
theorem bnd_end (E : List Int) : bnd E E.length = 1114112 := by unfold bnd; rw [if_neg (by omega)]
end Go.Proofs.Ytddoanmhikldiaa
