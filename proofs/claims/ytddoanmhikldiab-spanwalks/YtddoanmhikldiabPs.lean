/-
  Sets of code points: which span reaches a code point, the i-th code point, its place, the next one. No conditions on memory.
-/
import Derived.Test.YtddoanmhikldiabMk
namespace Go.Proofs.Ytddoanmhikldiab
def rch (L : List Sn) (p : Int) : Nat := (L.takeWhile fun s => decide (s.2 < p)).length
theorem rch_nil (p : Int) : rch [] p = 0 := rfl
theorem rch_cons (s : Sn) (L : List Sn) (p : Int) : rch (s :: L) p = if s.2 < p then rch L p + 1 else 0 := by
  unfold rch
  rw [List.takeWhile_cons]
  by_cases c : s.2 < p
  · simp [c]
  · simp [c]
theorem rch_le (L : List Sn) (p : Int) : rch L p ≤ L.length := by
  induction L with
  | nil => exact Nat.le_refl _
  | cons s L ih => rw [rch_cons]; split <;> simp <;> omega
theorem rch_uniq : ∀ (L : List Sn) (p : Int) (i : Nat), i ≤ L.length → (∀ k, k < i → (L.getD k (0, 0)).2 < p) → (i < L.length → ¬ (L.getD i (0, 0)).2 < p) → i = rch L p := by
  intro L
  induction L with
  | nil => intro p i hi _ _; simp at hi; rw [hi]; rfl
  | cons s L ih =>
    intro p i hi h1 h2
    rw [rch_cons]
    cases i with
    | zero =>
      have := h2 (by simp)
      simp at this
      rw [if_neg (by omega)]
    | succ i =>
      have := h1 0 (by omega)
      simp at this
      rw [if_pos this, ← ih p i (by simpa using hi) (fun k hk => by have := h1 (k + 1) (by omega); simpa using this) (fun hk => by have := h2 (by simp; omega); simpa using this)]
theorem rch_at : ∀ (L : List Sn) (p : Int), rch L p < L.length → p ≤ (L.getD (rch L p) (0, 0)).2 := by
  intro L
  induction L with
  | nil => intro p h; simp [rch_nil] at h
  | cons s L ih =>
    intro p h
    rw [rch_cons] at h ⊢
    by_cases c : s.2 < p
    · rw [if_pos c] at h ⊢
      have := ih p (by simpa using h)
      simpa using this
    · rw [if_neg c]; simp; omega
theorem to_rise : ∀ {L : List Sn} {m : Int}, isS m L = true → ∀ j k, j ≤ k → k < L.length → (L.getD j (0, 0)).2 ≤ (L.getD k (0, 0)).2 := by
  intro L
  induction L with
  | nil => intro m _ j k _ hk; simp at hk
  | cons s L ih =>
    intro m h j k hjk hk
    have h' := isS_cons.1 h
    cases j with
    | zero =>
      cases k with
      | zero => exact Int.le_refl _
      | succ k =>
        have hk' : k < L.length := by simpa using hk
        have hm := isS_mem h'.2.2 (L.getD k (0, 0)) (get_mem L k hk')
        have h1 := may_iff.1 hm.1
        simp only [List.getD_cons_zero, List.getD_cons_succ]
        omega
    | succ j =>
      cases k with
      | zero => omega
      | succ k =>
        have := ih h'.2.2 j k (by omega) (by simpa using hk)
        simpa using this
theorem has_rch : ∀ {L : List Sn} {m : Int}, isS m L = true → ∀ p, hasB L p = (decide (rch L p < L.length) && decide ((L.getD (rch L p) (0, 0)).1 ≤ p)) := by
  intro L
  induction L with
  | nil => intro m _ p; rfl
  | cons s L ih =>
    intro m h p
    have h' := isS_cons.1 h
    have hs := may_iff.1 h'.1
    rw [has_cons, rch_cons]
    by_cases c : s.2 < p
    · rw [if_pos c, show inB s p = false from by rw [Bool.eq_false_iff]; intro h; have := in_iff.1 h; omega, Bool.false_or, ih h'.2.2 p]
      simp
    · rw [if_neg c, has_low h'.2.2 (p := p) (by omega), Bool.or_false]
      simp [inB]
      intro _; omega
def atL : List Sn → Int → Int
  | [], _ => -1
  | s :: L, i => if i < szI s then s.1 + i else atL L (i - szI s)
def plL (L : List Sn) (p : Int) : Int := cntL (L.take (rch L p)) + (p - (L.getD (rch L p) (0, 0)).1)
theorem at_spec : ∀ {L : List Sn} {m : Int}, isS m L = true → ∀ i : Int, 0 ≤ i → (cntL L ≤ i ∧ atL L i = -1) ∨ (i < cntL L ∧ hasB L (atL L i) = true ∧ plL L (atL L i) = i) := by
  intro L
  induction L with
  | nil => intro m _ i hi; left; exact ⟨by rw [cnt_nil]; exact hi, rfl⟩
  | cons s L ih =>
    intro m h i hi
    have h' := isS_cons.1 h
    have hs := may_iff.1 h'.1
    have hc := cnt_bound h'.2.2
    rw [cnt_cons]
    unfold atL
    by_cases c : i < szI s
    · rw [if_pos c]
      right
      have hz : szI s = s.2 - s.1 + 1 := rfl
      refine ⟨by omega, by rw [has_cons, show inB s (s.1 + i) = true from in_iff.2 ⟨by omega, by omega⟩]; rfl, ?_⟩
      unfold plL
      rw [rch_cons, if_neg (by omega)]
      simp only [List.take_zero, cnt_nil, List.getD_cons_zero]
      omega
    · rw [if_neg c]
      rcases ih h'.2.2 (i - szI s) (by omega) with ⟨a, b⟩ | ⟨a, b, d⟩
      · left; exact ⟨by omega, b⟩
      · right
        have hr := (has_range h'.2.2 b).2.1
        refine ⟨by omega, by rw [has_cons, b, Bool.or_true], ?_⟩
        unfold plL at d ⊢
        rw [rch_cons, if_pos (by omega), List.take_succ_cons, cnt_cons, List.getD_cons_succ]
        omega
theorem at_range {L : List Sn} {m : Int} (h : isS m L = true) (i : Int) (hi : 0 ≤ i) : -1 ≤ atL L i ∧ atL L i ≤ 1114111 := by
  rcases at_spec h i hi with ⟨_, b⟩ | ⟨_, b, _⟩
  · omega
  · have := has_range h b; omega
def nxL (L : List Sn) (p : Int) : Int := if rch L p < L.length then max p (L.getD (rch L p) (0, 0)).1 else -1
end Go.Proofs.Ytddoanmhikldiab
