/-
  The document's Runs: all code points in stretches of one number. Conditions: the rows may be; the list is no longer than 4000000.
-/
import Derived.Test.YtookbgmolggohaaRu
namespace Go.Proofs.Ytookbgmolggohaa
open Go.RowKit
/-- Stretches that lie one behind the other from m to ahead of e, each of which says what F says, no two neighbours the same. -/
def Rn (F : Int → Int) : Int → List Rw → Int → Prop
  | m, [], e => m = e
  | m, [r], e => r.1 = m ∧ r.1 ≤ r.2.1 ∧ (∀ p, r.1 ≤ p → p ≤ r.2.1 → F p = r.2.2) ∧ r.2.1 + 1 = e
  | m, r :: s :: X, e => r.1 = m ∧ r.1 ≤ r.2.1 ∧ (∀ p, r.1 ≤ p → p ≤ r.2.1 → F p = r.2.2) ∧ s.2.2 ≠ r.2.2 ∧ Rn F (r.2.1 + 1) (s :: X) e
theorem Rn.add {F : Int → Int} : ∀ {X : List Rw} {m e : Int} {x : Rw}, Rn F m X e → x.1 = e → x.1 ≤ x.2.1 → (∀ p, x.1 ≤ p → p ≤ x.2.1 → F p = x.2.2) → Rn F m (addR X x) (x.2.1 + 1)
  | [], m, e, x, h, h1, h2, h3 => ⟨by rw [h1]; exact h.symm, h2, h3, rfl⟩
  | [y], m, e, x, h, h1, h2, h3 => by
    obtain ⟨a1, a2, a3, a4⟩ := h
    unfold addR
    by_cases c : y.2.2 = x.2.2
    · rw [if_pos c]
      refine ⟨a1, by simp only; omega, fun p p1 p2 => ?_, rfl⟩
      simp only at p1 p2 ⊢
      by_cases hp : p ≤ y.2.1
      · exact a3 p p1 hp
      · rw [h3 p (by omega) p2, c]
    · rw [if_neg c]
      exact ⟨a1, a2, a3, fun h => c h.symm, by omega, h2, h3, rfl⟩
  | y :: z :: X, m, e, x, h, h1, h2, h3 => by
    obtain ⟨a1, a2, a3, a4, a5⟩ := h
    have ih := Rn.add a5 h1 h2 h3
    show Rn F m (y :: addR (z :: X) x) (x.2.1 + 1)
    have hne : ∃ s T, addR (z :: X) x = s :: T ∧ s.2.2 = z.2.2 := by
      cases X with
      | nil =>
        unfold addR
        by_cases c : z.2.2 = x.2.2
        · rw [if_pos c]; exact ⟨_, _, rfl, rfl⟩
        · rw [if_neg c]; exact ⟨_, _, rfl, rfl⟩
      | cons u X => exact ⟨z, _, rfl, rfl⟩
    obtain ⟨s, T, e1, e2⟩ := hne
    rw [e1] at ih ⊢
    exact ⟨a1, a2, a3, by rw [e2]; exact a4, ih⟩
theorem Rn.mem {F : Int → Int} : ∀ {X : List Rw} {m e : Int}, Rn F m X e → m ≤ e ∧ ∀ r ∈ X, m ≤ r.1 ∧ r.1 ≤ r.2.1 ∧ r.2.1 < e ∧ ∀ p, r.1 ≤ p → p ≤ r.2.1 → F p = r.2.2
  | [], m, e, h => ⟨by rw [show m = e from h]; exact Int.le_refl _, fun r hr => by cases hr⟩
  | [y], m, e, h => by
    obtain ⟨a1, a2, a3, a4⟩ := h
    refine ⟨by omega, fun r hr => ?_⟩
    obtain rfl : r = y := by simpa using hr
    exact ⟨by omega, a2, by omega, a3⟩
  | y :: z :: X, m, e, h => by
    obtain ⟨a1, a2, a3, a4, a5⟩ := h
    obtain ⟨b1, b2⟩ := Rn.mem a5
    refine ⟨by omega, fun r hr => ?_⟩
    rcases List.mem_cons.1 hr with rfl | hr
    · exact ⟨by omega, a2, by omega, a3⟩
    · have := b2 r hr
      exact ⟨by omega, this.2⟩
/-- Such a list is told by what it says. -/
theorem Rn.uniq {F : Int → Int} : ∀ {X Y : List Rw} {m e : Int}, Rn F m X e → Rn F m Y e → X = Y := by
  intro X
  induction X with
  | nil =>
    intro Y m e hX hY
    cases Y with
    | nil => rfl
    | cons y Y =>
      have h1 := (Rn.mem hY).2 y (by simp)
      have h2 : m = e := hX
      omega
  | cons x X ih =>
    intro Y m e hX hY
    cases Y with
    | nil =>
      have h1 := (Rn.mem hX).2 x (by simp)
      have h2 : m = e := hY
      omega
    | cons y Y =>
      -- the parts of both
      have pX : x.1 = m ∧ x.1 ≤ x.2.1 ∧ (∀ p, x.1 ≤ p → p ≤ x.2.1 → F p = x.2.2) ∧ Rn F (x.2.1 + 1) X e ∧ (X = [] ∨ ∃ s T, X = s :: T ∧ s.2.2 ≠ x.2.2) := by
        cases X with
        | nil => exact ⟨hX.1, hX.2.1, hX.2.2.1, hX.2.2.2, .inl rfl⟩
        | cons s T => exact ⟨hX.1, hX.2.1, hX.2.2.1, hX.2.2.2.2, .inr ⟨s, T, rfl, hX.2.2.2.1⟩⟩
      have pY : y.1 = m ∧ y.1 ≤ y.2.1 ∧ (∀ p, y.1 ≤ p → p ≤ y.2.1 → F p = y.2.2) ∧ Rn F (y.2.1 + 1) Y e ∧ (Y = [] ∨ ∃ s T, Y = s :: T ∧ s.2.2 ≠ y.2.2) := by
        cases Y with
        | nil => exact ⟨hY.1, hY.2.1, hY.2.2.1, hY.2.2.2, .inl rfl⟩
        | cons s T => exact ⟨hY.1, hY.2.1, hY.2.2.1, hY.2.2.2.2, .inr ⟨s, T, rfl, hY.2.2.2.1⟩⟩
      obtain ⟨x1, x2, x3, x4, x5⟩ := pX
      obtain ⟨y1, y2, y3, y4, y5⟩ := pY
      have en : x.2.2 = y.2.2 := by rw [← x3 m (by omega) (by omega), ← y3 m (by omega) (by omega)]
      have et : x.2.1 = y.2.1 := by
        rcases Int.lt_trichotomy x.2.1 y.2.1 with hlt | he | hgt
        · rcases x5 with rfl | ⟨s, T, rfl, hs⟩
          · have h1 := (Rn.mem y4).1
            have h2 : x.2.1 + 1 = e := x4
            omega
          · have h1 := (Rn.mem x4).2 s (by simp)
            have h2 : s.1 = x.2.1 + 1 := by
              cases T with
              | nil => exact x4.1
              | cons u T => exact x4.1
            have h3 := h1.2.2.2 s.1 (by omega) (by omega)
            have h4 := y3 s.1 (by omega) (by omega)
            rw [h3] at h4
            exact absurd (h4.trans en.symm) hs
        · exact he
        · rcases y5 with rfl | ⟨s, T, rfl, hs⟩
          · have h1 := (Rn.mem x4).1
            have h2 : y.2.1 + 1 = e := y4
            omega
          · have h1 := (Rn.mem y4).2 s (by simp)
            have h2 : s.1 = y.2.1 + 1 := by
              cases T with
              | nil => exact y4.1
              | cons u T => exact y4.1
            have h3 := h1.2.2.2 s.1 (by omega) (by omega)
            have h4 := x3 s.1 (by omega) (by omega)
            rw [h3] at h4
            exact absurd (h4.trans en) hs
      have exy : x = y := Prod.ext (by rw [x1, y1]) (Prod.ext et en)
      subst exy
      rw [ih x4 y4]
def runA (out : List Rw) (nx : Int) : List Rw → List Rw × Int
  | [] => (out, nx)
  | x :: L => runA (addR (if nx < x.1 then addR out (nx, x.1 - 1, 0) else out) x) (x.2.1 + 1) L
def runsL (L : List Rw) : List Rw := if (runA [] 0 L).2 ≤ 1114111 then addR (runA [] 0 L).1 ((runA [] 0 L).2, 1114111, 0) else (runA [] 0 L).1
theorem lk_before {L : List Rw} {l p : Int} (h : okF l L) (hp : p < l) : lk L p = 0 := by
  refine over_none (F := nought) fun r hr => ?_
  have := okF_mem h r hr
  rw [Bool.eq_false_iff]
  intro hin
  have := inR_iff.1 hin
  omega
theorem runA_rn {F : Int → Int} : ∀ (L out : List Rw) (nx : Int), Rn F 0 out nx → okF nx L → nx ≤ 1114112 → (∀ p, nx ≤ p → F p = lk L p) → Rn F 0 (runA out nx L).1 (runA out nx L).2 ∧ (runA out nx L).2 ≤ 1114112 ∧ ∀ p, (runA out nx L).2 ≤ p → F p = 0
  | [], out, nx, h, _, h2, h3 => ⟨h, h2, fun p hp => by rw [h3 p hp]; rfl⟩
  | x :: L, out, nx, h, hok, h2, h3 => by
    obtain ⟨o1, o2, o3, o4, o5, o6⟩ := hok
    have hx : ∀ p, x.1 ≤ p → p ≤ x.2.1 → F p = x.2.2 := fun p p1 p2 => by
      rw [h3 p (by omega)]
      show (if inR x p = true then _ else _) = _
      rw [if_pos (inR_iff.2 ⟨p1, p2⟩)]
    have hgap : ∀ p, nx ≤ p → p < x.1 → F p = 0 := fun p p1 p2 => by
      rw [h3 p p1]
      show (if inR x p = true then _ else over nought L p) = _
      rw [if_neg (fun hh => by have := inR_iff.1 hh; omega)]
      exact lk_before o6 (by omega)
    unfold runA
    refine runA_rn L _ _ ?_ o6 (by omega) fun p hp => ?_
    · by_cases c : nx < x.1
      · rw [if_pos c]
        have h4 := h.add (x := (nx, x.1 - 1, 0)) rfl (by simp only; omega) (fun p p1 p2 => hgap p p1 (by simp only at p2; omega))
        simp only at h4
        rw [show x.1 - 1 + 1 = x.1 by omega] at h4
        exact h4.add rfl o2 hx
      · rw [if_neg c]
        have : nx = x.1 := by omega
        rw [this] at h
        exact h.add rfl o2 hx
    · rw [h3 p (by omega)]
      show (if inR x p = true then _ else over nought L p) = _
      rw [if_neg (fun hh => by have := inR_iff.1 hh; omega)]
      rfl
theorem runs_rn {L : List Rw} (h : okF 0 L) : Rn (lk L) 0 (runsL L) 1114112 := by
  obtain ⟨h1, h2, h3⟩ := runA_rn (F := lk L) L [] 0 rfl h (by omega) (fun _ _ => rfl)
  unfold runsL
  by_cases c : (runA [] 0 L).2 ≤ 1114111
  · rw [if_pos c]
    exact h1.add (x := ((runA [] 0 L).2, 1114111, 0)) rfl c (fun p p1 _ => h3 p p1)
  · rw [if_neg c]
    have : (runA [] 0 L).2 = 1114112 := by omega
    rw [← this]; exact h1
theorem addR_len (X : List Rw) (x : Rw) : (addR X x).length ≤ X.length + 1 := by
  rcases snoc_or X with rfl | ⟨Y, s, rfl⟩
  · simp [addR]
  · rw [addR_snoc]
    split <;> simp
theorem runA_step {L X : List Rw} {k : Nat} (nx : Int) (hk : k < L.length) : runA X nx (L.drop k) = runA (addR (if nx < (L.getD k (0, 0, 0)).1 then addR X (nx, (L.getD k (0, 0, 0)).1 - 1, 0) else X) (L.getD k (0, 0, 0))) ((L.getD k (0, 0, 0)).2.1 + 1) (L.drop (k + 1)) := by
  rw [List.drop_eq_getElem_cons hk]
  have e1 : L.getD k (0, 0, 0) = L[k] := by simp [List.getD, hk]
  rw [e1]
  rfl
end Go.Proofs.Ytookbgmolggohaa
