/-
  Rows that say a number of each code point of theirs, as lists of triples; which rows may be; what they say; the blocks of 128 code points, and those that are unlike in the order in which they come first. No conditions.
-/
import Derived.WalkKit
namespace Go.Proofs.Ytookbgmolggohaa
abbrev Rw := Int × Int × Int
/-- Whether a row may not stand where the least place is l. -/
def badB (l : Int) (r : Rw) : Bool := decide (r.1 < l) || decide (r.2.1 < r.1) || decide (1114111 < r.2.1)
def offB (n : Int) : Bool := decide (n < 0) || decide (65535 < n)
def chkF : Nat → Int → List Rw → Nat × Int
  | _, _, [] => (0, 0)
  | i, l, r :: L => if badB l r = true then (i, 80) else if offB r.2.2 = true then (i, 81) else chkF (i + 1) (r.2.1 + 1) L
def chk (L : List Rw) : Nat × Int := if 65536 < L.length then (65536, 80) else chkF 0 0 L
/-- Rows that rise, from l on. -/
def okF : Int → List Rw → Prop
  | _, [] => True
  | l, r :: L => l ≤ r.1 ∧ r.1 ≤ r.2.1 ∧ r.2.1 ≤ 1114111 ∧ 0 ≤ r.2.2 ∧ r.2.2 ≤ 65535 ∧ okF (r.2.1 + 1) L
theorem bad_false {l : Int} {r : Rw} : badB l r = false ↔ l ≤ r.1 ∧ r.1 ≤ r.2.1 ∧ r.2.1 ≤ 1114111 := by
  simp [badB, and_assoc]
theorem off_false {n : Int} : offB n = false ↔ 0 ≤ n ∧ n ≤ 65535 := by
  simp [offB]
theorem chkF_ok : ∀ (L : List Rw) (i : Nat) (l : Int), (chkF i l L).2 = 0 ↔ okF l L
  | [], _, _ => by simp [chkF, okF]
  | r :: L, i, l => by
    unfold chkF okF
    cases hb : badB l r with
    | true =>
      have : ¬ (l ≤ r.1 ∧ r.1 ≤ r.2.1 ∧ r.2.1 ≤ 1114111) := fun h => by rw [bad_false.2 h] at hb; cases hb
      simp only [if_true]
      constructor
      · intro h; simp at h
      · intro h; exact absurd ⟨h.1, h.2.1, h.2.2.1⟩ this
    | false =>
      have h1 := bad_false.1 hb
      cases ho : offB r.2.2 with
      | true =>
        have : ¬ (0 ≤ r.2.2 ∧ r.2.2 ≤ 65535) := fun h => by rw [off_false.2 h] at ho; cases ho
        simp only [if_true, Bool.false_eq_true, if_false]
        constructor
        · intro h; simp at h
        · intro h; exact absurd ⟨h.2.2.2.1, h.2.2.2.2.1⟩ this
      | false =>
        have h2 := off_false.1 ho
        simp only [Bool.false_eq_true, if_false]
        rw [chkF_ok L (i + 1) (r.2.1 + 1)]
        exact ⟨fun h => ⟨h1.1, h1.2.1, h1.2.2, h2.1, h2.2, h⟩, fun h => h.2.2.2.2.2⟩
theorem chkF_zero : ∀ (L : List Rw) (i : Nat) (l : Int), (chkF i l L).2 = 0 → (chkF i l L).1 = 0
  | [], _, _ => fun _ => rfl
  | r :: L, i, l => by
    unfold chkF
    split
    · intro h; simp at h
    · split
      · intro h; simp at h
      · exact chkF_zero L (i + 1) (r.2.1 + 1)
theorem chk_ok {L : List Rw} (h : (chk L).2 = 0) : L.length ≤ 65536 ∧ okF 0 L ∧ chk L = (0, 0) := by
  unfold chk at *
  by_cases hl : 65536 < L.length
  · rw [if_pos hl] at h; simp at h
  · rw [if_neg hl] at *
    exact ⟨by omega, (chkF_ok L 0 0).1 h, Prod.ext (chkF_zero L 0 0 h) h⟩
theorem chkF_err : ∀ (L : List Rw) (i : Nat) (l : Int), (chkF i l L).2 = 0 ∨ (chkF i l L).2 = 80 ∨ (chkF i l L).2 = 81
  | [], _, _ => Or.inl rfl
  | r :: L, i, l => by
    unfold chkF
    split
    · exact Or.inr (Or.inl rfl)
    · split
      · exact Or.inr (Or.inr rfl)
      · exact chkF_err L (i + 1) (r.2.1 + 1)
theorem chkF_place : ∀ (L : List Rw) (i : Nat) (l : Int), (chkF i l L).1 ≤ i + L.length
  | [], _, _ => Nat.zero_le _
  | r :: L, i, l => by
    unfold chkF
    split
    · simp
    · split
      · simp
      · have := chkF_place L (i + 1) (r.2.1 + 1); simp; omega
theorem okF_mono {l l' : Int} {L : List Rw} (h : okF l L) (hl : l' ≤ l) : okF l' L := by
  cases L with
  | nil => trivial
  | cons r L => exact ⟨by have := h.1; omega, h.2⟩
theorem okF_mem : ∀ {L : List Rw} {l : Int}, okF l L → ∀ r ∈ L, l ≤ r.1 ∧ r.1 ≤ r.2.1 ∧ r.2.1 ≤ 1114111 ∧ 0 ≤ r.2.2 ∧ r.2.2 ≤ 65535
  | [], _, _, r, hr => by cases hr
  | s :: L, l, h, r, hr => by
    rcases List.mem_cons.1 hr with rfl | hr
    · exact ⟨h.1, h.2.1, h.2.2.1, h.2.2.2.1, h.2.2.2.2.1⟩
    · have := okF_mem h.2.2.2.2.2 r hr
      have h1 := h.1; have h2 := h.2.1
      exact ⟨by omega, this.2⟩
theorem okF_app : ∀ {X Y : List Rw} {l : Int}, okF l (X ++ Y) → okF l X ∧ ∀ x ∈ X, ∀ y ∈ Y, x.2.1 < y.1
  | [], _, _, _ => ⟨trivial, fun x hx => by cases hx⟩
  | s :: X, Y, l, h => by
    obtain ⟨h1, h2, h3, h4, h5, h6⟩ := h
    obtain ⟨h7, h8⟩ := okF_app h6
    refine ⟨⟨h1, h2, h3, h4, h5, h7⟩, fun x hx y hy => ?_⟩
    rcases List.mem_cons.1 hx with rfl | hx
    · have := okF_mem h6 y (by simp [hy]); omega
    · exact h8 x hx y hy
theorem okF_right : ∀ {X Y : List Rw} {l : Int}, okF l (X ++ Y) → ∃ l', l ≤ l' ∧ okF l' Y
  | [], _, l, h => ⟨l, Int.le_refl _, h⟩
  | s :: X, Y, l, h => by
    obtain ⟨h1, h2, h3, h4, h5, h6⟩ := h
    obtain ⟨l', h7, h8⟩ := okF_right h6
    exact ⟨l', by omega, h8⟩
/-- Whether a code point lies in a row. -/
def inR (r : Rw) (p : Int) : Bool := decide (r.1 ≤ p) && decide (p ≤ r.2.1)
theorem inR_iff {r : Rw} {p : Int} : inR r p = true ↔ r.1 ≤ p ∧ p ≤ r.2.1 := by simp [inR]
/-- What rows say, over what is said else. -/
def over (F : Int → Int) : List Rw → Int → Int
  | [], p => F p
  | r :: L, p => if inR r p = true then r.2.2 else over F L p
def nought : Int → Int := fun _ => 0
def lk (L : List Rw) (p : Int) : Int := over nought L p
theorem over_none {F : Int → Int} : ∀ {L : List Rw} {p : Int}, (∀ r ∈ L, inR r p = false) → over F L p = F p
  | [], _, _ => rfl
  | r :: L, p, h => by
    unfold over
    rw [h r (by simp)]
    simp only [Bool.false_eq_true, if_false]
    exact over_none fun s hs => h s (by simp [hs])
theorem over_app {F : Int → Int} : ∀ {X Y : List Rw} {p : Int}, over F (X ++ Y) p = over (over F Y) X p
  | [], _, _ => rfl
  | r :: X, Y, p => by
    show (if inR r p = true then r.2.2 else over F (X ++ Y) p) = (if inR r p = true then r.2.2 else over (over F Y) X p)
    rw [over_app]
theorem over_snoc {F : Int → Int} {X : List Rw} {r : Rw} {l : Int} (h : okF l (X ++ [r])) (p : Int) : over F (X ++ [r]) p = if inR r p = true then r.2.2 else over F X p := by
  have h8 := (okF_app h).2
  clear h
  induction X with
  | nil => rfl
  | cons s X ih =>
    by_cases hs : inR s p = true
    · have h1 := h8 s (by simp) r (by simp)
      have h2 := inR_iff.1 hs
      have h3 : inR r p = false := by rw [Bool.eq_false_iff]; intro h; have := inR_iff.1 h; omega
      rw [if_neg (by rw [h3]; simp)]
      show (if inR s p = true then s.2.2 else _) = (if inR s p = true then s.2.2 else _)
      rw [if_pos hs, if_pos hs]
    · show (if inR s p = true then s.2.2 else over F (X ++ [r]) p) = if inR r p = true then r.2.2 else (if inR s p = true then s.2.2 else over F X p)
      rw [if_neg hs, if_neg hs]
      exact ih fun x hx => h8 x (by simp [hx])
theorem over_range {F : Int → Int} (hF : ∀ p, 0 ≤ F p ∧ F p ≤ 65535) : ∀ {L : List Rw} {l : Int}, okF l L → ∀ p, 0 ≤ over F L p ∧ over F L p ≤ 65535
  | [], _, _, p => hF p
  | r :: L, l, h, p => by
    unfold over
    split
    · exact ⟨h.2.2.2.1, h.2.2.2.2.1⟩
    · exact over_range hF h.2.2.2.2.2 p
/-- The i-th block of 128. -/
def blk (F : Int → Int) (i : Nat) : Nat → Int := fun j => if j < 128 then F (128 * i + j) else 0
open Classical in
/-- The unlike ones of the first n blocks, in the order in which they come first. -/
noncomputable def unl (F : Int → Int) : Nat → List (Nat → Int)
  | 0 => []
  | n + 1 => if blk F n ∈ unl F n then unl F n else unl F n ++ [blk F n]
open Classical in
/-- Where a block stands among others. -/
noncomputable def idx (U : List (Nat → Int)) (f : Nat → Int) : Nat := U.findIdx (fun g => decide (g = f))
noncomputable def plc (F : Int → Int) (i : Nat) : Nat := idx (unl F (i + 1)) (blk F i)
theorem idx_lt {U : List (Nat → Int)} {f : Nat → Int} (h : f ∈ U) : idx U f < U.length := by
  unfold idx
  exact List.findIdx_lt_length_of_exists ⟨f, h, by simp⟩
open Classical in
theorem idx_get {U : List (Nat → Int)} {f : Nat → Int} (h : f ∈ U) : U[idx U f]? = some f := by
  have hl := idx_lt h
  rw [List.getElem?_eq_getElem hl]
  have := List.findIdx_getElem (xs := U) (p := fun g => decide (g = f)) (w := hl)
  simp only [decide_eq_true_eq] at this
  exact congrArg some this
theorem idx_app {U V : List (Nat → Int)} {f : Nat → Int} (h : f ∈ U) : idx (U ++ V) f = idx U f := by
  have hl := idx_lt h
  unfold idx at *
  rw [List.findIdx_append]
  simp [hl]
open Classical in
theorem idx_new {U : List (Nat → Int)} {f : Nat → Int} (h : f ∉ U) : idx (U ++ [f]) f = U.length := by
  unfold idx
  rw [List.findIdx_append]
  have e : List.findIdx (fun g => decide (g = f)) U = U.length := by
    rw [List.findIdx_eq_length]
    intro g hg
    simp only [decide_eq_false_iff_not]
    intro e
    exact h (e ▸ hg)
  rw [e]
  simp [List.findIdx_cons]
open Classical in
theorem unl_succ (F : Int → Int) (n : Nat) : unl F (n + 1) = if blk F n ∈ unl F n then unl F n else unl F n ++ [blk F n] := rfl
theorem unl_step (F : Int → Int) (n : Nat) : ∃ V, unl F (n + 1) = unl F n ++ V := by
  rw [unl_succ]
  by_cases h : blk F n ∈ unl F n
  · rw [if_pos h]; exact ⟨[], by simp⟩
  · rw [if_neg h]; exact ⟨_, rfl⟩
theorem unl_more (F : Int → Int) (n : Nat) : ∀ k, ∃ V, unl F (n + k) = unl F n ++ V
  | 0 => ⟨[], by simp⟩
  | k + 1 => by
    obtain ⟨V, hV⟩ := unl_more F n k
    obtain ⟨V', hV'⟩ := unl_step F (n + k)
    exact ⟨V ++ V', by rw [← Nat.add_assoc, hV', hV, List.append_assoc]⟩
theorem unl_last (F : Int → Int) (n : Nat) : blk F n ∈ unl F (n + 1) := by
  rw [unl_succ]
  by_cases h : blk F n ∈ unl F n
  · rw [if_pos h]; exact h
  · rw [if_neg h]; simp
theorem unl_mem (F : Int → Int) {n i : Nat} (h : i < n) : blk F i ∈ unl F n := by
  obtain ⟨V, hV⟩ := unl_more F (i + 1) (n - (i + 1))
  rw [show i + 1 + (n - (i + 1)) = n by omega] at hV
  rw [hV]
  exact List.mem_append_left _ (unl_last F i)
theorem plc_is (F : Int → Int) {n i : Nat} (h : i < n) : idx (unl F n) (blk F i) = plc F i := by
  obtain ⟨V, hV⟩ := unl_more F (i + 1) (n - (i + 1))
  rw [show i + 1 + (n - (i + 1)) = n by omega] at hV
  rw [hV, idx_app (unl_last F i)]
  rfl
theorem plc_get (F : Int → Int) {n i : Nat} (h : i < n) : (unl F n)[plc F i]? = some (blk F i) := by
  rw [← plc_is F h]
  exact idx_get (unl_mem F h)
theorem plc_lt (F : Int → Int) {n i : Nat} (h : i < n) : plc F i < (unl F n).length := by
  rw [← plc_is F h]
  exact idx_lt (unl_mem F h)
theorem unl_len (F : Int → Int) : ∀ n, (unl F n).length ≤ n
  | 0 => Nat.le_refl _
  | n + 1 => by
    have := unl_len F n
    rw [unl_succ]
    split
    · omega
    · simp; omega
theorem unl_all (F : Int → Int) : ∀ n, ∀ f ∈ unl F n, ∃ i, i < n ∧ f = blk F i
  | 0, f, h => by simp [unl] at h
  | n + 1, f, h => by
    rw [unl_succ] at h
    split at h
    · obtain ⟨i, hi, e⟩ := unl_all F n f h; exact ⟨i, by omega, e⟩
    · rcases List.mem_append.1 h with h | h
      · obtain ⟨i, hi, e⟩ := unl_all F n f h; exact ⟨i, by omega, e⟩
      · exact ⟨n, by omega, by simpa using h⟩
theorem plc_step (F : Int → Int) (n : Nat) (h : blk F n ∈ unl F n) : unl F (n + 1) = unl F n ∧ plc F n = idx (unl F n) (blk F n) := by
  have e : unl F (n + 1) = unl F n := by
    rw [unl_succ]
    rw [if_pos h]
  exact ⟨e, by unfold plc; rw [e]⟩
theorem plc_new (F : Int → Int) (n : Nat) (h : blk F n ∉ unl F n) : unl F (n + 1) = unl F n ++ [blk F n] ∧ plc F n = (unl F n).length := by
  have e : unl F (n + 1) = unl F n ++ [blk F n] := by
    rw [unl_succ]
    rw [if_neg h]
  exact ⟨e, by unfold plc; rw [e]; exact idx_new h⟩
theorem blk_congr {F G : Int → Int} {i : Nat} (h : ∀ j : Nat, j < 128 → F (128 * i + j) = G (128 * i + j)) : blk F i = blk G i := by
  funext j
  unfold blk
  split
  · exact h j (by assumption)
  · rfl
theorem unl_congr {F G : Int → Int} {n : Nat} (h : ∀ i, i < n → blk F i = blk G i) : unl F n = unl G n := by
  induction n with
  | zero => rfl
  | succ n ih =>
    rw [unl_succ, unl_succ]
    rw [ih fun i hi => h i (by omega), h n (by omega)]
theorem blk_range {F : Int → Int} (hF : ∀ p, 0 ≤ F p ∧ F p ≤ 65535) (i j : Nat) : 0 ≤ blk F i j ∧ blk F i j ≤ 65535 := by
  unfold blk
  split
  · exact hF _
  · omega
end Go.Proofs.Ytookbgmolggohaa
