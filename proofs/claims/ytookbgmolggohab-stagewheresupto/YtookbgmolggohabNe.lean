/-
  What rows say once they are the fewest, or one number stands in the place of another one; stretches from one code point to another one. No conditions.
-/
import Derived.Test.YtookbgmolggohabNb
import Derived.Test.YtookbgmolggohabNd
namespace Go.Proofs.Ytookbgmolggohab
theorem okF_filter (q : Rw → Bool) : ∀ {X : List Rw} {m : Int}, okF m X → okF m (X.filter q)
  | [], m, h => trivial
  | r :: X, m, h => by
    obtain ⟨h1, h2, h3, h4, h5, h6⟩ := h
    have ih := okF_filter q h6
    rw [List.filter_cons]
    split
    · exact ⟨h1, h2, h3, h4, h5, ih⟩
    · exact okF_mono ih (by omega)
theorem over_cons (F : Int → Int) (r : Rw) (X : List Rw) (p : Int) : over F (r :: X) p = if inR r p = true then r.2.2 else over F X p := rfl
theorem Rn.lst_says {F : Int → Int} (p : Int) : ∀ {X : List Rw} {m e : Int}, Rn F m X e → over nought (lst X) p = if m ≤ p ∧ p < e then F p else 0
  | [], m, e, h => by
    have h : m = e := h
    rw [if_neg (by omega)]
    rfl
  | r :: X, m, e, h => by
    obtain ⟨h1, h2, h3, h4, -⟩ := h.tail
    have ih := Rn.lst_says p h4
    have he := (Rn.mem h4).1
    have hl : lst (r :: X) = if r.2.2 != 0 then r :: lst X else lst X := List.filter_cons ..
    by_cases c : r.1 ≤ p ∧ p ≤ r.2.1
    · have hp := h3 p c.1 c.2
      rw [if_pos (by omega), hp, hl]
      by_cases hz : r.2.2 = 0
      · rw [if_neg (by simp [hz]), ih, if_neg (by omega), hz]
      · rw [if_pos (by simp [hz]), over_cons, if_pos (inR_iff.2 c)]
    · have hrest : over nought (lst (r :: X)) p = over nought (lst X) p := by
        rw [hl]
        split
        · rw [over_cons, if_neg (fun h => c (inR_iff.1 h))]
        · rfl
      rw [hrest, ih]
      by_cases c2 : r.2.1 + 1 ≤ p ∧ p < e
      · rw [if_pos c2, if_pos (by omega)]
      · rw [if_neg c2, if_neg (by omega)]
theorem Rn.swp_says {F : Int → Int} (f t p : Int) : ∀ {X : List Rw} {m e : Int}, Rn F m X e → over nought (swp f t X) p = if m ≤ p ∧ p < e then sw1 f t (F p) else 0
  | [], m, e, h => by
    have h : m = e := h
    rw [if_neg (by omega)]
    rfl
  | r :: X, m, e, h => by
    obtain ⟨h1, h2, h3, h4, -⟩ := h.tail
    have ih := Rn.swp_says f t p h4
    have he := (Rn.mem h4).1
    show (if inR r p = true then (if r.2.2 = f then t else r.2.2) else over nought (swp f t X) p) = _
    by_cases c : r.1 ≤ p ∧ p ≤ r.2.1
    · rw [if_pos (inR_iff.2 c), if_pos (show m ≤ p ∧ p < e by omega), h3 p c.1 c.2]
      rfl
    · rw [if_neg (fun h => c (inR_iff.1 h)), ih]
      by_cases c2 : r.2.1 + 1 ≤ p ∧ p < e
      · rw [if_pos c2, if_pos (by omega)]
      · rw [if_neg c2, if_neg (by omega)]
theorem swap_says {L : List Rw} (f t : Int) (ht : 0 ≤ t ∧ t ≤ 65535) (hok : okF 0 L) : okF 0 (lst (runsL (swp f t (runsL L)))) ∧ lk (lst (runsL (swp f t (runsL L)))) = swF f t (lk L) := by
  have h1 := swp_ok (f := f) ht hok
  have h2 := runs_rn h1
  refine ⟨okF_filter _ (Rn.ok (lk_range h1) h2 (by decide)), ?_⟩
  funext p
  have h3 := Rn.lst_says p h2
  have h4 := Rn.swp_says f t p (runs_rn hok)
  show over nought (lst (runsL (swp f t (runsL L)))) p = _
  rw [h3]
  unfold swF
  by_cases c : 0 ≤ p ∧ p ≤ 1114111
  · rw [if_pos (by omega), if_pos c]
    show over nought (swp f t (runsL L)) p = _
    rw [h4, if_pos (by omega)]
  · rw [if_neg (by omega), if_neg c]
/-- A row from A to E, if there is anything of it. -/
def clA (A : Int) (r : Rw) : Int := if r.1 < A then A else r.1
def clE (E : Int) (r : Rw) : Int := if E < r.2.1 then E else r.2.1
def clp (A E : Int) : List Rw → List Rw
  | [] => []
  | r :: X => if clA A r ≤ clE E r then (clA A r, clE E r, r.2.2) :: clp A E X else clp A E X
theorem Rn.cons {F : Int → Int} {r : Rw} {X : List Rw} {m e : Int} (h1 : r.1 = m) (h2 : r.1 ≤ r.2.1) (h3 : ∀ p, r.1 ≤ p → p ≤ r.2.1 → F p = r.2.2) (h4 : Rn F (r.2.1 + 1) X e) (h5 : ∀ s T, X = s :: T → s.2.2 ≠ r.2.2) : Rn F m (r :: X) e := by
  cases X with
  | nil => exact ⟨h1, h2, h3, h4⟩
  | cons s T => exact ⟨h1, h2, h3, h5 s T rfl, h4⟩
theorem Rn.clip {F : Int → Int} {A E : Int} (hAE : A ≤ E) : ∀ {X : List Rw} {m e : Int}, Rn F m X e → E + 1 ≤ e → (m ≤ E → Rn F (if m < A then A else m) (clp A E X) (E + 1)) ∧ (E < m → clp A E X = [])
  | [], m, e, h, he => by
    have h : m = e := h
    exact ⟨fun h2 => by omega, fun _ => rfl⟩
  | r :: X, m, e, h, he => by
    obtain ⟨h1, h2, h3, h4, h5⟩ := h.tail
    obtain ⟨i1, i2⟩ := Rn.clip hAE h4 he
    constructor
    · intro hm
      by_cases c1 : r.2.1 < A
      · have hno : ¬ clA A r ≤ clE E r := by
          unfold clA clE
          rw [if_pos (by omega), if_neg (by omega)]
          omega
        rw [clp, if_neg hno]
        have := i1 (by omega)
        by_cases c2 : r.2.1 + 1 < A
        · rw [if_pos c2] at this
          rwa [if_pos (by omega)]
        · rw [if_neg c2] at this
          rw [if_pos (by omega), show A = r.2.1 + 1 by omega]
          rwa [show A = r.2.1 + 1 by omega] at this
      · have hA : clA A r = (if m < A then A else m) := by unfold clA; rw [h1]
        have hA1 : r.1 ≤ clA A r ∧ clA A r ≤ r.2.1 ∧ clA A r ≤ E := by
          unfold clA
          split <;> omega
        have hE1 : clE E r ≤ r.2.1 ∧ clA A r ≤ clE E r := by
          unfold clE
          split <;> omega
        rw [clp, if_pos hE1.2]
        by_cases c2 : E ≤ r.2.1
        · rw [i2 (by omega)]
          have hE : clE E r = E := by
            unfold clE
            split <;> omega
          exact ⟨hA, hE1.2, fun p p1 p2 => h3 p (by simp only at p1; omega) (by simp only at p2; omega), by simp only; omega⟩
        · have hE : clE E r = r.2.1 := by
            unfold clE
            rw [if_neg (by omega)]
          have h6 := i1 (by omega)
          rw [if_neg (by omega)] at h6
          refine Rn.cons hA hE1.2 (fun p p1 p2 => h3 p (by simp only at p1; omega) (by simp only at p2; omega)) ?_ ?_
          · simp only
            rwa [hE]
          · intro s T hs
            simp only
            cases X with
            | nil => simp [clp] at hs
            | cons x X' =>
              obtain ⟨g1, g2, -, -, -⟩ := h4.tail
              have hx : clA A x ≤ clE E x := by
                unfold clA clE
                split <;> split <;> omega
              rw [clp, if_pos hx] at hs
              cases hs
              exact h5 x X' rfl
    · intro hm
      have hno : ¬ clA A r ≤ clE E r := by
        unfold clA clE
        rw [if_neg (by omega), if_pos (by omega)]
        omega
      rw [clp, if_neg hno]
      exact i2 (by omega)
theorem clp_take {A E : Int} : ∀ {R : List Rw} {k : Nat}, k < R.length → clp A E (R.take (k + 1)) = clp A E (R.take k) ++ (if clA A (R.getD k (0, 0, 0)) ≤ clE E (R.getD k (0, 0, 0)) then [(clA A (R.getD k (0, 0, 0)), clE E (R.getD k (0, 0, 0)), (R.getD k (0, 0, 0)).2.2)] else [])
  | [], k, h => by simp at h
  | r :: R, 0, _ => by
    simp only [List.take_succ_cons, List.take_zero, clp, List.getD, List.getElem?_cons_zero, Option.getD_some, List.nil_append]
    rfl
  | r :: R, k + 1, h => by
    have ih := clp_take (A := A) (E := E) (R := R) (k := k) (by simpa using h)
    rw [List.take_succ_cons, List.take_succ_cons, clp, clp, ih]
    simp only [List.getD, List.getElem?_cons_succ]
    split
    · rw [List.cons_append]; rfl
    · rfl
theorem clp_len (A E : Int) : ∀ X : List Rw, (clp A E X).length ≤ X.length
  | [] => Nat.le_refl _
  | r :: X => by
    have := clp_len A E X
    unfold clp
    split <;> simp <;> omega
end Go.Proofs.Ytookbgmolggohab
