/-
  Plain arithmetic of lists into which points are put one by one, and of laying them from the last one on. No program is run here.
-/
import Derived.Test.YtahmeejcgddlhabPe
namespace Go.Proofs.Ytahmeejcgddlhab
open Go.RowKit
/-- All that is put in. -/
def insAll (A : List Int) (ps : List (Int × Nat)) : List Int := ps.foldl (fun L q => L.insertIdx q.2 q.1) A
theorem insAll_snoc (A : List Int) (ps : List (Int × Nat)) (q : Int × Nat) : insAll A (ps ++ [q]) = (insAll A ps).insertIdx q.2 q.1 := by simp [insAll]
theorem getD_ins (l : List Int) (p i : Nat) (c : Int) (h : p ≤ l.length) : (l.insertIdx p c).getD i 0 = if i < p then l.getD i 0 else if i = p then c else l.getD (i - 1) 0 := by
  simp only [List.getD_eq_getElem?_getD, List.getElem?_insertIdx]
  by_cases h1 : i < p
  · rw [if_pos h1, if_pos h1]
  · rw [if_neg h1, if_neg h1]
    by_cases h2 : i = p
    · rw [if_pos h2, if_pos h2, if_pos (by omega)]; rfl
    · rw [if_neg h2, if_neg h2]
theorem len_ins (l : List Int) (p : Nat) (c : Int) (h : p ≤ l.length) : (l.insertIdx p c).length = l.length + 1 := by
  rw [List.length_insertIdx, if_pos h]
/-- Places that are there. -/
def OkP (m : Nat) : List (Int × Nat) → Prop
  | [] => True
  | q :: l => q.2 ≤ m ∧ OkP (m + 1) l
theorem OkP.take : ∀ (t m : Nat) (ps : List (Int × Nat)), OkP m ps → OkP m (ps.take t)
  | 0, _, _, _ => by simp [OkP]
  | _ + 1, _, [], h => h
  | t + 1, m, q :: l, h => by rw [List.take_succ_cons]; exact ⟨h.1, OkP.take t (m + 1) l h.2⟩
theorem len_insAll : ∀ (ps : List (Int × Nat)) (A : List Int), OkP A.length ps → (insAll A ps).length = A.length + ps.length
  | [], A, _ => rfl
  | q :: l, A, h => by
    have e := len_ins A q.2 q.1 h.1
    show (insAll (A.insertIdx q.2 q.1) l).length = _
    rw [len_insAll l _ (by rw [e]; exact h.2), e, List.length_cons]; omega
theorem OkP.at : ∀ (t m : Nat) (ps : List (Int × Nat)), OkP m ps → ∀ q, ps[t]? = some q → q.2 ≤ m + t
  | _, _, [], _, q, h => by simp at h
  | 0, m, q0 :: l, h, q, e => by simp at e; subst e; have := h.1; omega
  | t + 1, m, q0 :: l, h, q, e => by simp at e; have := OkP.at t (m + 1) l h.2 q e; omega
theorem OkP.snoc : ∀ (ps : List (Int × Nat)) (m : Nat) (q : Int × Nat), OkP m ps → q.2 ≤ m + ps.length → OkP m (ps ++ [q])
  | [], m, q, _, h => ⟨by simpa using h, trivial⟩
  | a :: l, m, q, h0, h => ⟨h0.1, OkP.snoc l (m + 1) q h0.2 (by rw [List.length_cons] at h; omega)⟩
/-- The marked place below which so many are marked. -/
theorem mark_at (mk : Nat → Bool) : ∀ (N M : Nat), M < cnt mk N → ∃ r, r < N ∧ mk r = true ∧ cnt mk r = M ∧ ∀ x, r < x → M < cnt mk x
  | 0, M, h => by simp [cnt] at h
  | N + 1, M, h => by
    by_cases c : M < cnt mk N
    · obtain ⟨r, h1, h2, h3, h4⟩ := mark_at mk N M c
      exact ⟨r, by omega, h2, h3, h4⟩
    · rw [cnt] at h
      by_cases m : mk N = true
      · rw [if_pos m] at h
        refine ⟨N, by omega, m, by omega, fun x hx => ?_⟩
        have := cnt_mono mk (show N + 1 ≤ x by omega)
        rw [cnt, if_pos m] at this
        omega
      · rw [if_neg m] at h; omega
/-- What stands while the last ones are laid. -/
structure LayI (A : List Int) (ps : List (Int × Nat)) (L : List Int) (t : Nat) (mk : Nat → Bool) (out : Nat → Int) : Prop where
  n : cnt mk L.length = A.length + t
  on : ∀ x, x < L.length → mk x = true → out x = 0 ∧ L.getD x 0 = (insAll A (ps.take t)).getD (cnt mk x) 0
  off : ∀ x, x < L.length → mk x = false → out x = L.getD x 0 ∧ 1 ≤ out x
theorem cnt_all : ∀ n, cnt (fun _ => true) n = n
  | 0 => rfl
  | n + 1 => by rw [cnt, cnt_all n]; rfl
theorem LayI.start (A : List Int) (ps : List (Int × Nat)) (h : OkP A.length ps) : LayI A ps (insAll A ps) ps.length (fun _ => true) (fun _ => 0) :=
  ⟨by rw [cnt_all, len_insAll ps A h], fun x _ _ => ⟨rfl, by rw [List.take_length, cnt_all]⟩, fun x _ h => by simp at h⟩
theorem LayI.step {A : List Int} {ps : List (Int × Nat)} {L : List Int} {t : Nat} {mk : Nat → Bool} {out : Nat → Int} (h : LayI A ps L (t + 1) mk out) (hp : OkP A.length ps) (c : Int) (p : Nat) (hq : ps[t]? = some (c, p)) (hc : 1 ≤ c) :
    ∃ r, r < L.length ∧ mk r = true ∧ cnt mk r = p ∧ (∀ x, r < x → p < cnt mk x) ∧ LayI A ps L t (setB mk r false) (fun j => if j = r then c else out j) := by
  have hpt := OkP.at t _ ps hp _ hq
  simp only at hpt
  have hlt : t < ps.length := (List.getElem?_eq_some_iff.1 hq).1
  obtain ⟨r, h1, h2, h3, h4⟩ := mark_at mk L.length p (by rw [h.n]; omega)
  have hl := len_insAll (ps.take t) A (hp.take t)
  rw [List.length_take, Nat.min_eq_left (by omega)] at hl
  have hs : insAll A (ps.take (t + 1)) = (insAll A (ps.take t)).insertIdx p c := by
    rw [← insAll_snoc A (ps.take t) (c, p), List.take_add_one, hq]; rfl
  have hon := h.on
  rw [hs] at hon
  refine ⟨r, h1, h2, h3, h4, ⟨?_, ?_, ?_⟩⟩
  · have := cnt_set_off mk r h2 L.length h1
    rw [h.n] at this; omega
  · intro x hx hm
    have hne : x ≠ r := by intro e; subst e; simp [setB] at hm
    have hm2 : mk x = true := by simpa [setB, hne] using hm
    obtain ⟨o1, o2⟩ := hon x hx hm2
    refine ⟨by rw [if_neg hne]; exact o1, ?_⟩
    rw [o2, getD_ins _ _ _ _ (by omega)]
    by_cases q : x < r
    · rw [cnt_set_low _ _ _ _ (by omega)]
      have := cnt_mono mk (show x + 1 ≤ r by omega)
      rw [cnt, if_pos hm2] at this
      rw [if_pos (by omega)]
    · have z := cnt_set_off mk r h2 x (by omega)
      have := h4 x (by omega)
      rw [if_neg (by omega), if_neg (by omega), ← z]; rfl
  · intro x hx hm
    by_cases e : x = r
    · subst e
      obtain ⟨o1, o2⟩ := hon x hx h2
      rw [if_pos rfl, o2, getD_ins _ _ _ _ (by omega), h3, if_neg (by omega), if_pos rfl]
      exact ⟨rfl, hc⟩
    · rw [if_neg e]
      exact h.off x hx (by simpa [setB, e] using hm)
theorem LayI.done {A : List Int} {ps : List (Int × Nat)} {L : List Int} {mk : Nat → Bool} {out : Nat → Int} (h : LayI A ps L 0 mk out) (x : Nat) (hx : x < L.length) : (mk x = true → out x = 0 ∧ cnt mk x < A.length ∧ L.getD x 0 = A.getD (cnt mk x) 0) ∧ (mk x = false → out x = L.getD x 0 ∧ 1 ≤ out x) := by
  refine ⟨fun hm => ?_, h.off x hx⟩
  obtain ⟨o1, o2⟩ := h.on x hx hm
  have h1 := cnt_mono mk (show x + 1 ≤ L.length by omega)
  rw [cnt, if_pos hm, h.n] at h1
  exact ⟨o1, by omega, o2⟩
end Go.Proofs.Ytahmeejcgddlhab
