/-
  Spans of code points as lists of pairs: what a set is, what it has, that it is told by what it has; the ways in which the program puts sets together. No conditions.
-/
import Derived.WalkKit
namespace Go.Proofs.Ytddoanmhikldiab
abbrev Sn := Int × Int
def mayB (s : Sn) : Bool := decide (0 ≤ s.1) && decide (s.1 ≤ s.2) && decide (s.2 ≤ 1114111)
def isS : Int → List Sn → Bool
  | _, [] => true
  | m, s :: l => mayB s && decide (m ≤ s.1) && isS (s.2 + 2) l
def isB (l : List Sn) : Bool := decide (l.length ≤ 65536) && isS 0 l
def inB (s : Sn) (p : Int) : Bool := decide (s.1 ≤ p) && decide (p ≤ s.2)
def hasB (l : List Sn) (p : Int) : Bool := l.any fun s => inB s p
def nxt : Int → List Sn → Int
  | m, [] => m
  | _, s :: l => nxt (s.2 + 2) l
theorem may_iff {s : Sn} : mayB s = true ↔ 0 ≤ s.1 ∧ s.1 ≤ s.2 ∧ s.2 ≤ 1114111 := by simp [mayB, and_assoc]
theorem in_iff {s : Sn} {p : Int} : inB s p = true ↔ s.1 ≤ p ∧ p ≤ s.2 := by simp [inB]
theorem isS_cons {m : Int} {s : Sn} {l : List Sn} : isS m (s :: l) = true ↔ mayB s = true ∧ m ≤ s.1 ∧ isS (s.2 + 2) l = true := by simp [isS, and_assoc]
theorem has_cons (s : Sn) (l : List Sn) (p : Int) : hasB (s :: l) p = (inB s p || hasB l p) := rfl
theorem has_nil (p : Int) : hasB [] p = false := rfl
theorem has_app (a b : List Sn) (p : Int) : hasB (a ++ b) p = (hasB a p || hasB b p) := List.any_append
theorem has_one (s : Sn) (p : Int) : hasB [s] p = inB s p := by simp [hasB]
theorem has_iff {l : List Sn} {p : Int} : hasB l p = true ↔ ∃ s ∈ l, s.1 ≤ p ∧ p ≤ s.2 := by simp [hasB, inB]
theorem isS_mono {l : List Sn} {m m' : Int} (h : isS m l = true) (hm : m' ≤ m) : isS m' l = true := by
  cases l with
  | nil => rfl
  | cons s l => rw [isS_cons] at *; exact ⟨h.1, by omega, h.2.2⟩
theorem isS_mem : ∀ {l : List Sn} {m : Int}, isS m l = true → ∀ s ∈ l, mayB s = true ∧ m ≤ s.1 := by
  intro l
  induction l with
  | nil => intro m _ s hs; cases hs
  | cons t l ih =>
    intro m h s hs
    rw [isS_cons] at h
    rcases List.mem_cons.1 hs with rfl | hs
    · exact ⟨h.1, h.2.1⟩
    · have := ih h.2.2 s hs
      have h1 := may_iff.1 h.1
      exact ⟨this.1, by omega⟩
theorem has_low {l : List Sn} {m p : Int} (h : isS m l = true) (hp : p < m) : hasB l p = false := by
  rw [Bool.eq_false_iff]
  intro hc
  obtain ⟨s, hs, h1, h2⟩ := has_iff.1 hc
  have := (isS_mem h s hs).2
  omega
theorem has_range {l : List Sn} {m p : Int} (h : isS m l = true) (hp : hasB l p = true) : 0 ≤ p ∧ m ≤ p ∧ p ≤ 1114111 := by
  obtain ⟨s, hs, h1, h2⟩ := has_iff.1 hp
  obtain ⟨h3, h4⟩ := isS_mem h s hs
  have := may_iff.1 h3
  omega
theorem bool_eq {a b : Bool} (h1 : a = true → b = true) (h2 : b = true → a = true) : a = b := by
  cases a <;> cases b <;> simp_all
/-- A set is told by what it has. -/
theorem uniq : ∀ {a b : List Sn} {m m' : Int}, isS m a = true → isS m' b = true → (∀ p, hasB a p = hasB b p) → a = b := by
  intro a
  induction a with
  | nil =>
    intro b m m' _ hb h
    cases b with
    | nil => rfl
    | cons t b =>
      have h1 := h t.1
      rw [isS_cons] at hb
      have := may_iff.1 hb.1
      rw [has_nil, has_cons, show inB t t.1 = true from in_iff.2 ⟨by omega, by omega⟩] at h1
      simp at h1
  | cons s a ih =>
    intro b m m' ha hb h
    cases b with
    | nil =>
      have h1 := h s.1
      rw [isS_cons] at ha
      have := may_iff.1 ha.1
      rw [has_nil, has_cons, show inB s s.1 = true from in_iff.2 ⟨by omega, by omega⟩] at h1
      simp at h1
    | cons t b =>
      rw [isS_cons] at ha hb
      have hs := may_iff.1 ha.1
      have ht := may_iff.1 hb.1
      have e1 : s.1 = t.1 := by
        have h1 := h s.1
        have h2 := h t.1
        rw [has_cons, has_cons, show inB s s.1 = true from in_iff.2 ⟨by omega, by omega⟩, Bool.true_or] at h1
        rw [has_cons, has_cons, show inB t t.1 = true from in_iff.2 ⟨by omega, by omega⟩, Bool.true_or] at h2
        have h3 := h1.symm
        rw [Bool.or_eq_true] at h2 h3
        have c1 : t.1 ≤ s.1 := by
          rcases h3 with h3 | h3
          · exact (in_iff.1 h3).1
          · have := (has_range hb.2.2 h3).2.1; omega
        have c2 : s.1 ≤ t.1 := by
          rcases h2 with h2 | h2
          · exact (in_iff.1 h2).1
          · have := (has_range ha.2.2 h2).2.1; omega
        omega
      have e2 : s.2 = t.2 := by
        rcases Int.lt_trichotomy s.2 t.2 with c | c | c
        · have h1 := h (s.2 + 1)
          rw [has_cons, has_cons, has_low ha.2.2 (by omega), show inB t (s.2 + 1) = true from in_iff.2 ⟨by omega, by omega⟩] at h1
          rw [show inB s (s.2 + 1) = false from by rw [Bool.eq_false_iff]; intro h; have := in_iff.1 h; omega] at h1
          simp at h1
        · exact c
        · have h1 := h (t.2 + 1)
          rw [has_cons, has_cons, has_low hb.2.2 (by omega), show inB s (t.2 + 1) = true from in_iff.2 ⟨by omega, by omega⟩] at h1
          rw [show inB t (t.2 + 1) = false from by rw [Bool.eq_false_iff]; intro h; have := in_iff.1 h; omega] at h1
          simp at h1
      have e : s = t := Prod.ext e1 e2
      subst e
      congr 1
      refine ih ha.2.2 hb.2.2 fun p => ?_
      by_cases c : p < s.2 + 2
      · rw [has_low ha.2.2 c, has_low hb.2.2 c]
      · have h1 := h p
        rw [has_cons, has_cons, show inB s p = false from by rw [Bool.eq_false_iff]; intro h; have := in_iff.1 h; omega] at h1
        simpa using h1
theorem isS_app : ∀ {a b : List Sn} {m : Int}, isS m (a ++ b) = true ↔ isS m a = true ∧ isS (nxt m a) b = true := by
  intro a
  induction a with
  | nil => intro b m; simp [isS, nxt]
  | cons s a ih => intro b m; rw [List.cons_append, isS_cons, isS_cons, ih]; simp only [nxt]; constructor <;> (rintro ⟨h1, h2⟩; simp_all)
theorem nxt_snoc (m : Int) (a : List Sn) (s : Sn) : nxt m (a ++ [s]) = s.2 + 2 := by
  induction a generalizing m with
  | nil => rfl
  | cons t a ih => rw [List.cons_append]; exact ih _
theorem isS_snoc {m : Int} {a : List Sn} {s : Sn} : isS m (a ++ [s]) = true ↔ isS m a = true ∧ mayB s = true ∧ nxt m a ≤ s.1 := by
  rw [isS_app, isS_cons]; simp [isS]
theorem has_below_nxt : ∀ {a : List Sn} {m p : Int}, isS m a = true → 0 ≤ m → hasB a p = true → p + 2 ≤ nxt m a := by
  intro a
  induction a with
  | nil => intro m p _ _ h; cases h
  | cons s a ih =>
    intro m p h hm hp
    rw [isS_cons] at h
    have hs := may_iff.1 h.1
    rw [has_cons, Bool.or_eq_true] at hp
    have hge : ∀ {l : List Sn} {k : Int}, isS k l = true → k ≤ nxt k l := by
      intro l
      induction l with
      | nil => intro k _; exact Int.le_refl _
      | cons t l ih2 =>
        intro k hk
        rw [isS_cons] at hk
        have := may_iff.1 hk.1
        have := ih2 hk.2.2
        simp only [nxt]; omega
    simp only [nxt]
    rcases hp with hp | hp
    · have := in_iff.1 hp; have := hge h.2.2; omega
    · exact ih h.2.2 (by omega) hp
/-! ## in both -/
def commonL (a b : List Sn) : List Sn :=
  match a, b with
  | [], _ => []
  | _ :: _, [] => []
  | s :: a, t :: b =>
    (if max s.1 t.1 ≤ min s.2 t.2 then [(max s.1 t.1, min s.2 t.2)] else []) ++
      (if s.2 < t.2 then commonL a (t :: b) else commonL (s :: a) b)
termination_by a.length + b.length
theorem isS_seg (c : Prop) [Decidable c] (s : Sn) (l : List Sn) (m k : Int) (h1 : c → mayB s = true ∧ m ≤ s.1 ∧ s.2 + 2 ≤ k) (h2 : isS k l = true) (h3 : m ≤ k) : isS m ((if c then [s] else []) ++ l) = true := by
  split
  · rename_i hc
    obtain ⟨e1, e2, e3⟩ := h1 hc
    exact isS_cons.2 ⟨e1, e2, isS_mono h2 e3⟩
  · exact isS_mono h2 h3
theorem has_seg (c : Prop) [Decidable c] (s : Sn) (l : List Sn) (p : Int) : hasB ((if c then [s] else []) ++ l) p = ((decide c && inB s p) || hasB l p) := by
  rw [has_app]
  by_cases h : c <;> simp [h, has_one, has_nil]
theorem no_seg {s t : Sn} {p : Int} (h : s.2 < p ∨ t.2 < p) : (decide (max s.1 t.1 ≤ min s.2 t.2) && inB (max s.1 t.1, min s.2 t.2) p) = false := by
  rw [Bool.eq_false_iff]
  intro h
  rw [Bool.and_eq_true, in_iff] at h
  have := h.2.2
  dsimp only at this
  omega
theorem seg_is {s t : Sn} {p : Int} : (decide (max s.1 t.1 ≤ min s.2 t.2) && inB (max s.1 t.1, min s.2 t.2) p) = (inB s p && inB t p) := by
  refine bool_eq (fun h => ?_) (fun h => ?_)
  · rw [Bool.and_eq_true, in_iff] at h
    have h1 := h.2.1
    have h2 := h.2.2
    dsimp only at h1 h2
    rw [Bool.and_eq_true, in_iff, in_iff]
    omega
  · rw [Bool.and_eq_true, in_iff, in_iff] at h
    rw [Bool.and_eq_true, in_iff]
    dsimp only
    rw [decide_eq_true_eq]
    omega
theorem common_set : ∀ (n : Nat) (a b : List Sn) (m m' : Int), a.length + b.length ≤ n → isS m a = true → isS m' b = true → isS (max m m') (commonL a b) = true ∧ ∀ p, hasB (commonL a b) p = (hasB a p && hasB b p) := by
  intro n
  induction n with
  | zero =>
    intro a b m m' hn _ _
    cases a with
    | nil => rw [commonL]; exact ⟨rfl, fun p => rfl⟩
    | cons s a => simp at hn
  | succ n ih =>
    intro a b m m' hn ha hb
    match a, b with
    | [], b => rw [commonL]; exact ⟨rfl, fun p => rfl⟩
    | s :: a, [] => rw [commonL]; exact ⟨rfl, fun p => by rw [has_nil, Bool.and_false]⟩
    | s :: a, t :: b =>
      rw [commonL]
      have ha' := isS_cons.1 ha
      have hb' := isS_cons.1 hb
      have hs := may_iff.1 ha'.1
      have ht := may_iff.1 hb'.1
      simp only [List.length_cons] at hn
      by_cases c : s.2 < t.2
      · rw [if_pos c]
        obtain ⟨h1, h2⟩ := ih a (t :: b) (s.2 + 2) m' (by simp only [List.length_cons]; omega) ha'.2.2 hb
        refine ⟨isS_seg _ _ _ _ _ (fun hc => ⟨may_iff.2 ⟨?_, hc, ?_⟩, ?_, ?_⟩) (isS_mono (m' := max (s.2 + 2) m') h1 (by omega)) (by omega), fun p => ?_⟩
        · show 0 ≤ max s.1 t.1; omega
        · show min s.2 t.2 ≤ 1114111; omega
        · show max m m' ≤ max s.1 t.1; omega
        · show min s.2 t.2 + 2 ≤ _; omega
        · rw [has_seg, h2, has_cons, has_cons]
          cases hq : hasB a p
          · simp only [Bool.or_false, Bool.false_and]
            by_cases c2 : p ≤ s.2
            · rw [has_low hb'.2.2 (p := p) (by omega), Bool.or_false]
              exact seg_is
            · rw [no_seg (by omega), show inB s p = false from by rw [Bool.eq_false_iff]; intro h; have := in_iff.1 h; omega, Bool.false_and]
          · have := (has_range ha'.2.2 hq).2.1
            rw [no_seg (by omega)]; simp
      · rw [if_neg c]
        obtain ⟨h1, h2⟩ := ih (s :: a) b m (t.2 + 2) (by simp only [List.length_cons]; omega) ha hb'.2.2
        refine ⟨isS_seg _ _ _ _ _ (fun hc => ⟨may_iff.2 ⟨?_, hc, ?_⟩, ?_, ?_⟩) (isS_mono (m' := max m (t.2 + 2)) h1 (by omega)) (by omega), fun p => ?_⟩
        · show 0 ≤ max s.1 t.1; omega
        · show min s.2 t.2 ≤ 1114111; omega
        · show max m m' ≤ max s.1 t.1; omega
        · show min s.2 t.2 + 2 ≤ _; omega
        · rw [has_seg, h2, has_cons, has_cons]
          cases hq : hasB b p
          · simp only [Bool.or_false, Bool.and_false]
            by_cases c2 : p ≤ t.2
            · have hal : hasB a p = false := has_low ha'.2.2 (by omega)
              rw [hal, Bool.or_false]
              exact seg_is
            · rw [no_seg (by omega), show inB t p = false from by rw [Bool.eq_false_iff]; intro h; have := in_iff.1 h; omega, Bool.and_false]
          · have := (has_range hb'.2.2 hq).2.1
            rw [no_seg (by omega)]; simp
/-! ## in none -/
def restL : Int → List Sn → List Sn
  | k, [] => if k ≤ 1114111 then [(k, 1114111)] else []
  | k, s :: l => (if k < s.1 then [(k, s.1 - 1)] else []) ++ restL (s.2 + 1) l
theorem rest_set : ∀ (l : List Sn) (k : Int), 0 ≤ k → isS k l = true → isS k (restL k l) = true ∧ ∀ p, hasB (restL k l) p = (decide (k ≤ p) && decide (p ≤ 1114111) && !hasB l p) := by
  intro l
  induction l with
  | nil =>
    intro k hk _
    unfold restL
    constructor
    · split
      · rename_i h
        exact isS_cons.2 ⟨may_iff.2 ⟨hk, h, Int.le_refl _⟩, Int.le_refl _, rfl⟩
      · rfl
    · intro p
      rw [has_nil]
      split
      · rw [has_one]; simp [inB]
      · rw [has_nil]; by_cases c : k ≤ p <;> simp [c]; omega
  | cons s l ih =>
    intro k hk h
    have h' := isS_cons.1 h
    have hs := may_iff.1 h'.1
    obtain ⟨h1, h2⟩ := ih (s.2 + 1) (by omega) (isS_mono h'.2.2 (by omega))
    unfold restL
    refine ⟨isS_seg _ _ _ _ _ (fun hc => ⟨may_iff.2 ⟨hk, ?_, ?_⟩, Int.le_refl _, ?_⟩) h1 (by omega), fun p => ?_⟩
    · show k ≤ s.1 - 1; omega
    · show s.1 - 1 ≤ 1114111; omega
    · show s.1 - 1 + 2 ≤ _; omega
    · rw [has_seg, h2, has_cons]
      by_cases c : p < s.2 + 1
      · rw [has_low h'.2.2 (p := p) (by omega), show decide (s.2 + 1 ≤ p) = false from decide_eq_false (by omega)]
        simp only [Bool.or_false, Bool.false_and, inB]
        cases c1 : decide (k ≤ p) <;> cases c2 : decide (s.1 ≤ p) <;> cases c3 : decide (p ≤ s.2) <;> cases c4 : decide (p ≤ 1114111) <;> cases c5 : decide (k < s.1) <;> cases c6 : decide (p ≤ s.1 - 1) <;> simp only [decide_eq_true_eq, decide_eq_false_iff_not] at c1 c2 c3 c4 c5 c6 <;> first | rfl | omega
      · rw [show decide (s.2 + 1 ≤ p) = true from decide_eq_true (by omega)]
        simp only [inB, Bool.true_and]
        rw [show decide (k ≤ p) = true from decide_eq_true (by omega), show decide (p ≤ s.2) = false from decide_eq_false (by omega), show decide (p ≤ s.1 - 1) = false from decide_eq_false (by omega)]
        simp
/-! ## joined -/
def joinL (x : List Sn) (s : Sn) : List Sn :=
  match x.getLast? with
  | none => [s]
  | some t => if t.2 + 1 < s.1 then x ++ [s] else x.dropLast ++ [(t.1, max t.2 s.2)]
theorem join_nil (s : Sn) : joinL [] s = [s] := rfl
theorem join_snoc (y : List Sn) (t s : Sn) : joinL (y ++ [t]) s = if t.2 + 1 < s.1 then y ++ [t] ++ [s] else y ++ [(t.1, max t.2 s.2)] := by
  simp [joinL]
theorem snoc_or (x : List Sn) : x = [] ∨ ∃ y t, x = y ++ [t] := by
  rcases List.eq_nil_or_concat x with h | ⟨y, t, h⟩
  · exact .inl h
  · exact .inr ⟨y, t, by simpa using h⟩
theorem join_set {x : List Sn} {s : Sn} (hx : isS 0 x = true) (hs : mayB s = true) (ho : ∀ t ∈ x, t.1 ≤ s.1) :
    isS 0 (joinL x s) = true ∧ (∀ p, hasB (joinL x s) p = (hasB x p || inB s p)) ∧ ∀ t ∈ joinL x s, t.1 ≤ s.1 := by
  have hs' := may_iff.1 hs
  rcases snoc_or x with rfl | ⟨y, t, rfl⟩
  · rw [join_nil]
    refine ⟨isS_cons.2 ⟨hs, by omega, rfl⟩, fun p => by rw [has_one, has_nil, Bool.false_or], fun t ht => ?_⟩
    rw [List.mem_singleton.1 ht]; exact Int.le_refl _
  · rw [join_snoc]
    have hx' := isS_snoc.1 hx
    have ht' := may_iff.1 hx'.2.1
    have hto := ho t (by simp)
    split
    · rename_i c
      refine ⟨isS_snoc.2 ⟨hx, hs, ?_⟩, fun p => by rw [has_app _ [s], has_one], fun u hu => ?_⟩
      · rw [nxt_snoc]; omega
      · rcases List.mem_append.1 hu with hu | hu
        · exact ho u hu
        · rw [List.mem_singleton.1 hu]; exact Int.le_refl _
    · rename_i c
      refine ⟨isS_snoc.2 ⟨hx'.1, may_iff.2 ⟨ht'.1, ?_, ?_⟩, hx'.2.2⟩, fun p => ?_, fun u hu => ?_⟩
      · show t.1 ≤ max t.2 s.2; omega
      · show max t.2 s.2 ≤ 1114111; omega
      · rw [has_app, has_app, has_one, has_one, Bool.or_assoc]
        congr 1
        refine bool_eq (fun h => ?_) (fun h => ?_)
        · have := in_iff.1 h
          simp only at this
          rw [Bool.or_eq_true, in_iff, in_iff]; omega
        · rw [Bool.or_eq_true, in_iff, in_iff] at h
          rw [in_iff]; simp only; omega
      · rcases List.mem_append.1 hu with hu | hu
        · exact ho u (List.mem_append_left _ hu)
        · rw [List.mem_singleton.1 hu]; exact hto
theorem fold_set : ∀ (l x : List Sn), isS 0 x = true → (∀ s ∈ l, mayB s = true) → (∀ t ∈ x, ∀ s ∈ l, t.1 ≤ s.1) → l.Pairwise (fun s t => s.1 ≤ t.1) →
    isS 0 (l.foldl joinL x) = true ∧ ∀ p, hasB (l.foldl joinL x) p = (hasB x p || hasB l p) := by
  intro l
  induction l with
  | nil => intro x hx _ _ _; exact ⟨hx, fun p => by rw [has_nil, Bool.or_false]; rfl⟩
  | cons s l ih =>
    intro x hx hm ho hp
    obtain ⟨h1, h2, h3⟩ := join_set hx (hm s (by simp)) (fun t ht => ho t ht s (by simp))
    have hp' := List.pairwise_cons.1 hp
    obtain ⟨g1, g2⟩ := ih (joinL x s) h1 (fun t ht => hm t (by simp [ht])) (fun t ht u hu => by
      have := h3 t ht; have := hp'.1 u hu; omega) hp'.2
    refine ⟨g1, fun p => ?_⟩
    rw [List.foldl_cons, g2, h2, has_cons, Bool.or_assoc]
theorem has_perm {a b : List Sn} (h : a.Perm b) (p : Int) : hasB a p = hasB b p := h.any_eq
theorem join_len (x : List Sn) (s : Sn) : (joinL x s).length ≤ x.length + 1 := by
  rcases snoc_or x with rfl | ⟨y, t, rfl⟩
  · rw [join_nil]; simp
  · rw [join_snoc]; split <;> simp
theorem fold_len : ∀ (l x : List Sn), (l.foldl joinL x).length ≤ x.length + l.length := by
  intro l
  induction l with
  | nil => intro x; simp
  | cons s l ih => intro x; have := ih (joinL x s); have := join_len x s; simp only [List.foldl_cons, List.length_cons]; omega
/-! ## counts -/
def szI (s : Sn) : Int := s.2 - s.1 + 1
def cntL (l : List Sn) : Int := (l.map szI).sum
theorem cnt_nil : cntL [] = 0 := rfl
theorem cnt_cons (s : Sn) (l : List Sn) : cntL (s :: l) = szI s + cntL l := by simp [cntL]
theorem cnt_app (a b : List Sn) : cntL (a ++ b) = cntL a + cntL b := by simp [cntL]
def allP (f : Int → Bool) (n : Nat) : Nat := (List.range n).countP fun p : Nat => f (p : Int)
theorem allP_succ (f : Int → Bool) (n : Nat) : allP f (n + 1) = allP f n + if f n then 1 else 0 := by
  simp [allP, List.range_succ, List.countP_append, List.countP_cons]
theorem allP_or_and (f g : Int → Bool) (n : Nat) : allP f n + allP g n = allP (fun p => f p || g p) n + allP (fun p => f p && g p) n := by
  induction n with
  | zero => rfl
  | succ n ih => rw [allP_succ, allP_succ, allP_succ, allP_succ]; cases f n <;> cases g n <;> simp <;> omega
theorem allP_congr {f g : Int → Bool} {n : Nat} (h : ∀ p : Int, 0 ≤ p → p < n → f p = g p) : allP f n = allP g n := by
  induction n with
  | zero => rfl
  | succ n ih => rw [allP_succ, allP_succ, h n (by omega) (by omega), ih fun p h1 h2 => h p h1 (by omega)]
theorem allP_in (s : Sn) (n : Nat) (h : 0 ≤ s.1) : (allP (inB s) n : Int) = max 0 (min (s.2 + 1) n - s.1) := by
  induction n with
  | zero => simp [allP]; omega
  | succ n ih =>
    rw [allP_succ]
    by_cases c : inB s n
    · have := in_iff.1 c; simp [c]; omega
    · have c' : ¬ (s.1 ≤ (n : Int) ∧ (n : Int) ≤ s.2) := fun h => c (in_iff.2 h)
      simp [c]; omega
theorem allP_false (n : Nat) : allP (fun _ => false) n = 0 := by
  induction n with
  | zero => rfl
  | succ n ih => rw [allP_succ, ih]; rfl
theorem cnt_is : ∀ {l : List Sn} {m : Int}, isS m l = true → cntL l = (allP (hasB l) 1114112 : Int) := by
  intro l
  induction l with
  | nil => intro m _; rw [show (hasB []) = fun _ => false from rfl, allP_false]; rfl
  | cons s l ih =>
    intro m h
    have h' := isS_cons.1 h
    have hs := may_iff.1 h'.1
    have e := allP_or_and (inB s) (hasB l) 1114112
    have e1 : allP (fun p => inB s p && hasB l p) 1114112 = 0 := by
      rw [show (fun p => inB s p && hasB l p) = fun _ => false from funext fun p => by
        rw [Bool.eq_false_iff]; intro hc
        rw [Bool.and_eq_true, in_iff] at hc
        have := (has_range h'.2.2 hc.2).2.1
        omega, allP_false]
    have e2 := allP_in s 1114112 hs.1
    rw [cnt_cons, ih h'.2.2, show (hasB (s :: l)) = fun p => inB s p || hasB l p from rfl]
    unfold szI
    omega
theorem cnt_bound {l : List Sn} {m : Int} (h : isS m l = true) : 0 ≤ cntL l ∧ cntL l ≤ 1114112 := by
  rw [cnt_is h]
  have : allP (hasB l) 1114112 ≤ 1114112 := by
    unfold allP
    have := List.countP_le_length (p := fun p : Nat => hasB l p) (l := List.range 1114112)
    rwa [List.length_range] at this
  omega
end Go.Proofs.Ytddoanmhikldiab
