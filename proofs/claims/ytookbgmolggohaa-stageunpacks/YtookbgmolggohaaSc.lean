/-
  The stretches of one number are told by their code points; how many these are, counted in three ways. No conditions.
-/
import Derived.Test.YtookbgmolggohaaSs
namespace Go.Proofs.Ytookbgmolggohaa
open Go.RowKit
def pr (r : Rw) : Int × Int := (r.1, r.2.1)
def SepP : Int → List (Int × Int) → Prop
  | _, [] => True
  | m, s :: l => m ≤ s.1 ∧ s.1 ≤ s.2 ∧ SepP (s.2 + 2) l
def hasP (l : List (Int × Int)) (p : Int) : Prop := ∃ s ∈ l, s.1 ≤ p ∧ p ≤ s.2
theorem SepP.mono {m m' : Int} {l : List (Int × Int)} (h : SepP m l) (hm : m' ≤ m) : SepP m' l := by
  cases l with
  | nil => trivial
  | cons s l => exact ⟨by have := h.1; omega, h.2⟩
theorem SepP.ge : ∀ {l : List (Int × Int)} {m : Int}, SepP m l → ∀ s ∈ l, m ≤ s.1 ∧ s.1 ≤ s.2
  | [], _, _, s, hs => by cases hs
  | t :: l, m, h, s, hs => by
    rcases List.mem_cons.1 hs with rfl | hs
    · exact ⟨h.1, h.2.1⟩
    · have := SepP.ge h.2.2 s hs
      have h1 := h.1; have h2 := h.2.1
      exact ⟨by omega, this.2⟩
theorem SepP.uniq : ∀ {X Y : List (Int × Int)} {m : Int}, SepP m X → SepP m Y → (∀ p, hasP X p ↔ hasP Y p) → X = Y := by
  intro X
  induction X with
  | nil =>
    intro Y m _ hY h
    cases Y with
    | nil => rfl
    | cons y Y =>
      obtain ⟨s, hs, _⟩ := (h y.1).2 ⟨y, by simp, Int.le_refl _, hY.2.1⟩
      cases hs
  | cons x X ih =>
    intro Y m hX hY h
    cases Y with
    | nil =>
      obtain ⟨s, hs, _⟩ := (h x.1).1 ⟨x, by simp, Int.le_refl _, hX.2.1⟩
      cases hs
    | cons y Y =>
      obtain ⟨x1, x2, x3⟩ := hX
      obtain ⟨y1, y2, y3⟩ := hY
      have geX := x3.ge
      have geY := y3.ge
      have e1 : x.1 = y.1 := by
        obtain ⟨s, hs, a, b⟩ := (h x.1).1 ⟨x, by simp, Int.le_refl _, x2⟩
        obtain ⟨t, ht, c, d⟩ := (h y.1).2 ⟨y, by simp, Int.le_refl _, y2⟩
        have ha : y.1 ≤ s.1 := by
          rcases List.mem_cons.1 hs with rfl | hs
          · exact Int.le_refl _
          · have := geY s hs; omega
        have hb : x.1 ≤ t.1 := by
          rcases List.mem_cons.1 ht with rfl | ht
          · exact Int.le_refl _
          · have := geX t ht; omega
        omega
      have e2 : x.2 = y.2 := by
        rcases Int.lt_trichotomy x.2 y.2 with hlt | he | hgt
        · obtain ⟨s, hs, a, b⟩ := (h (x.2 + 1)).2 ⟨y, by simp, by omega, by omega⟩
          rcases List.mem_cons.1 hs with rfl | hs
          · omega
          · have := geX s hs; omega
        · exact he
        · obtain ⟨s, hs, a, b⟩ := (h (y.2 + 1)).1 ⟨x, by simp, by omega, by omega⟩
          rcases List.mem_cons.1 hs with rfl | hs
          · omega
          · have := geY s hs; omega
      have exy : x = y := Prod.ext e1 e2
      subst exy
      congr 1
      refine ih x3 y3 fun p => ⟨fun ⟨s, hs, a, b⟩ => ?_, fun ⟨s, hs, a, b⟩ => ?_⟩
      · obtain ⟨t, ht, c, d⟩ := (h p).1 ⟨s, by simp [hs], a, b⟩
        rcases List.mem_cons.1 ht with rfl | ht
        · have := geX s hs; omega
        · exact ⟨t, ht, c, d⟩
      · obtain ⟨t, ht, c, d⟩ := (h p).2 ⟨s, by simp [hs], a, b⟩
        rcases List.mem_cons.1 ht with rfl | ht
        · have := geY s hs; omega
        · exact ⟨t, ht, c, d⟩
theorem ofN_cons (n : Int) (r : Rw) (X : List Rw) : ofN n (r :: X) = if r.2.2 = n then r :: ofN n X else ofN n X := by
  unfold ofN
  by_cases h : r.2.2 = n
  · simp [h]
  · simp [h]
theorem Rn.tail {F : Int → Int} {r : Rw} {X : List Rw} {m e : Int} (h : Rn F m (r :: X) e) : r.1 = m ∧ r.1 ≤ r.2.1 ∧ (∀ p, r.1 ≤ p → p ≤ r.2.1 → F p = r.2.2) ∧ Rn F (r.2.1 + 1) X e ∧ (∀ s T, X = s :: T → s.2.2 ≠ r.2.2) := by
  cases X with
  | nil => exact ⟨h.1, h.2.1, h.2.2.1, h.2.2.2, fun s T e => by cases e⟩
  | cons s T => exact ⟨h.1, h.2.1, h.2.2.1, h.2.2.2.2, fun s' T' e => by cases e; exact h.2.2.2.1⟩
theorem Rn.sep {F : Int → Int} (n : Int) : ∀ {R : List Rw} {m e : Int}, Rn F m R e → SepP m ((ofN n R).map pr) ∧ (∀ r T, R = r :: T → r.2.2 ≠ n → SepP (m + 1) ((ofN n R).map pr)) ∧ ∀ p, hasP ((ofN n R).map pr) p ↔ m ≤ p ∧ p < e ∧ F p = n := by
  intro R
  induction R with
  | nil =>
    intro m e h
    refine ⟨trivial, fun r T e => (by cases e), fun p => ⟨fun ⟨s, hs, _⟩ => (by simp [ofN] at hs), fun ⟨a, b, _⟩ => ?_⟩⟩
    have : m = e := h
    omega
  | cons r R ih =>
    intro m e h
    obtain ⟨h1, h2, h3, h4, h5⟩ := h.tail
    obtain ⟨i1, i2, i3⟩ := ih h4
    have hme := (Rn.mem h4).1
    rw [ofN_cons]
    by_cases c : r.2.2 = n
    · rw [if_pos c]
      have i1' : SepP (r.2.1 + 2) ((ofN n R).map pr) := by
        cases R with
        | nil => trivial
        | cons s T =>
          have := i2 s T rfl (by rw [← c]; exact h5 s T rfl)
          rwa [show r.2.1 + 1 + 1 = r.2.1 + 2 by omega] at this
      refine ⟨⟨by show m ≤ r.1; omega, h2, i1'⟩, fun r' T e hn => (by cases e; exact absurd c hn), fun p => ⟨fun ⟨s, hs, a, b⟩ => ?_, fun ⟨a, b, d⟩ => ?_⟩⟩
      · rcases List.mem_cons.1 hs with rfl | hs
        · have a' : r.1 ≤ p := a
          have b' : p ≤ r.2.1 := b
          exact ⟨by omega, by omega, by rw [h3 p a' b']; exact c⟩
        · have := (i3 p).1 ⟨s, hs, a, b⟩
          exact ⟨by omega, this.2.1, this.2.2⟩
      · by_cases hp : p ≤ r.2.1
        · exact ⟨pr r, by simp, by show r.1 ≤ p; omega, hp⟩
        · obtain ⟨s, hs, a', b'⟩ := (i3 p).2 ⟨by omega, b, d⟩
          exact ⟨s, by simp [hs], a', b'⟩
    · rw [if_neg c]
      refine ⟨i1.mono (by omega), fun _ _ _ _ => i1.mono (by omega), fun p => ⟨fun hp => ?_, fun ⟨a, b, d⟩ => ?_⟩⟩
      · have := (i3 p).1 hp
        exact ⟨by omega, this.2.1, this.2.2⟩
      · by_cases hp : p ≤ r.2.1
        · exact absurd (by rw [← h3 p (by omega) hp]; exact d) c
        · exact (i3 p).2 ⟨by omega, b, d⟩
theorem yes_is (X : List Rw) : yes eb1 X = ofN 1 X := rfl
theorem celS_pr : ∀ {X Y : List Rw}, X.map pr = Y.map pr → celS X = celS Y ∧ X.length = Y.length
  | [], [], _ => ⟨rfl, rfl⟩
  | [], y :: Y, h => by simp at h
  | x :: X, [], h => by simp at h
  | x :: X, y :: Y, h => by
    simp only [List.map_cons, List.cons.injEq] at h
    obtain ⟨h1, h2⟩ := celS_pr h.2
    have e1 : x.1 = y.1 := congrArg (fun z : Int × Int => z.1) h.1
    have e2 : x.2.1 = y.2.1 := congrArg (fun z : Int × Int => z.2) h.1
    refine ⟨?_, by simp [h2]⟩
    show .int .i32 x.1 :: .int .i32 x.2.1 :: celS X = .int .i32 y.1 :: .int .i32 y.2.1 :: celS Y
    rw [e1, e2, h1]
/-- The stretches of which a rule says yes are those of the number. -/
theorem set_is {F : Int → Int} {n : Int} {ys R : List Rw} {m e : Int} (h1 : Rn (sayN F n) m ys e) (h2 : Rn F m R e) : celS (yes eb1 ys) = celS (ofN n R) ∧ (yes eb1 ys).length = (ofN n R).length := by
  rw [yes_is]
  obtain ⟨a1, _, a3⟩ := h1.sep 1
  obtain ⟨b1, _, b3⟩ := h2.sep n
  refine celS_pr (a1.uniq b1 fun p => ?_)
  rw [a3, b3]
  have : sayN F n p = 1 ↔ F p = n := by
    unfold sayN
    by_cases h : F p = n
    · rw [if_pos h]; simp [h]
    · rw [if_neg h]; simp [h]
  rw [this]
/-! counting -/
def cN (F : Int → Int) (n : Int) : Nat → Nat
  | 0 => 0
  | k + 1 => cN F n k + (if F (k : Nat) = n then 1 else 0)
def cB (f : Nat → Int) (n : Int) : Nat → Nat
  | 0 => 0
  | j + 1 => cB f n j + (if f j = n then 1 else 0)
theorem cN_blk (F : Int → Int) (n : Int) (k : Nat) : ∀ j, j ≤ 128 → cN F n (128 * k + j) = cN F n (128 * k) + cB (blk F k) n j
  | 0, _ => rfl
  | j + 1, h => by
    have ih := cN_blk F n k j (by omega)
    show cN F n (128 * k + j) + (if F ((128 * k + j : Nat) : Int) = n then 1 else 0) = cN F n (128 * k) + (cB (blk F k) n j + (if blk F k j = n then 1 else 0))
    have : blk F k j = F ((128 * k + j : Nat) : Int) := by
      unfold blk
      rw [if_pos (by omega)]
      congr 1
    rw [ih, this]
    omega
def sumB (F : Int → Int) (n : Int) : Nat → Nat
  | 0 => 0
  | k + 1 => sumB F n k + cB (blk F k) n 128
theorem sumB_is (F : Int → Int) (n : Int) : ∀ k, sumB F n k = cN F n (128 * k)
  | 0 => rfl
  | k + 1 => by
    rw [show 128 * (k + 1) = 128 * k + 128 by omega, cN_blk F n k 128 (Nat.le_refl _), ← sumB_is F n k]
    rfl
/-- How often block i comes among the first k. -/
noncomputable def tmN (F : Int → Int) (i : Nat) : Nat → Nat
  | 0 => 0
  | k + 1 => tmN F i k + (if plc F k = i then 1 else 0)
theorem tmN_le (F : Int → Int) (i : Nat) : ∀ k, tmN F i k ≤ k
  | 0 => Nat.le_refl _
  | k + 1 => by
    have := tmN_le F i k
    show tmN F i k + (if plc F k = i then 1 else 0) ≤ k + 1
    split <;> omega
/-- The sum over the first u blocks. -/
def sumT (t g : Nat → Nat) : Nat → Nat
  | 0 => 0
  | u + 1 => sumT t g u + t u * g u
theorem sumT_congr {t t' g : Nat → Nat} : ∀ u, (∀ i, i < u → t i = t' i) → sumT t g u = sumT t' g u
  | 0, _ => rfl
  | u + 1, h => by
    show sumT t g u + t u * g u = sumT t' g u + t' u * g u
    rw [sumT_congr u fun i hi => h i (by omega), h u (by omega)]
theorem sumT_one (t g : Nat → Nat) (j : Nat) : ∀ u, sumT (fun i => t i + (if j = i then 1 else 0)) g u = sumT t g u + (if j < u then g j else 0)
  | 0 => rfl
  | u + 1 => by
    show sumT (fun i => t i + (if j = i then 1 else 0)) g u + (t u + (if j = u then 1 else 0)) * g u = sumT t g u + t u * g u + (if j < u + 1 then g j else 0)
    rw [sumT_one t g j u]
    by_cases h1 : j = u
    · subst h1
      rw [if_neg (by omega), if_pos rfl, if_pos (by omega), Nat.add_mul]
      omega
    · by_cases h2 : j < u
      · rw [if_pos h2, if_neg h1, if_pos (by omega), Nat.add_zero]
        omega
      · rw [if_neg h2, if_neg h1, if_neg (by omega)]
        simp only [Nat.add_zero]
theorem sumT_zero (g : Nat → Nat) : ∀ u, sumT (fun _ => 0) g u = 0
  | 0 => rfl
  | u + 1 => by show sumT (fun _ => 0) g u + 0 * g u = 0; rw [sumT_zero g u]; simp
theorem sumT_all (F : Int → Int) (g : Nat → Nat) (u : Nat) : ∀ k, (∀ i, i < k → plc F i < u) → ∃ s, sumT (fun i => tmN F i k) g u = s ∧ s = (List.range k).foldl (fun a i => a + g (plc F i)) 0
  | 0, _ => ⟨0, sumT_zero g u, rfl⟩
  | k + 1, h => by
    obtain ⟨s, h1, h2⟩ := sumT_all F g u k fun i hi => h i (by omega)
    refine ⟨s + g (plc F k), ?_, ?_⟩
    · show sumT (fun i => tmN F i k + (if plc F k = i then 1 else 0)) g u = _
      rw [sumT_one, h1, if_pos (h k (by omega))]
    · rw [List.range_succ, List.foldl_append, ← h2]
      rfl
theorem fold_sumB (F : Int → Int) (n : Int) (g : Nat → Nat) : ∀ k, (∀ i, i < k → g (plc F i) = cB (blk F i) n 128) → (List.range k).foldl (fun a i => a + g (plc F i)) 0 = sumB F n k
  | 0, _ => rfl
  | k + 1, h => by
    rw [List.range_succ, List.foldl_append, fold_sumB F n g k fun i hi => h i (by omega)]
    show sumB F n k + g (plc F k) = sumB F n k + _
    rw [h k (by omega)]
/-- What the blocks count, each as often as it comes, is what the code points count. -/
theorem count_is (F : Int → Int) (n : Int) : sumT (fun i => tmN F i 8704) (fun i => cB ((unl F 8704).getD i zerosF) n 128) (unl F 8704).length = cN F n 1114112 := by
  obtain ⟨s, h1, h2⟩ := sumT_all F (fun i => cB ((unl F 8704).getD i zerosF) n 128) (unl F 8704).length 8704 fun i hi => plc_lt F hi
  rw [h1, h2, fold_sumB F n (fun i => cB ((unl F 8704).getD i zerosF) n 128) 8704 fun i hi => ?_, sumB_is]
  show cB ((unl F 8704).getD (plc F i) zerosF) n 128 = _
  rw [List.getD_eq_getElem?_getD, plc_get F hi]
  rfl
/-- The stretches of a number, added up. -/
def sumR (n : Int) : List Rw → Int
  | [] => 0
  | r :: X => (if r.2.2 = n then r.2.1 - r.1 + 1 else 0) + sumR n X
theorem cN_const (F : Int → Int) (n c : Int) (a : Nat) : ∀ d, (∀ i, i < d → F ((a + i : Nat) : Int) = c) → (cN F n (a + d) : Int) = cN F n a + (if c = n then (d : Int) else 0)
  | 0, _ => by simp
  | d + 1, h => by
    have ih := cN_const F n c a d fun i hi => h i (by omega)
    have hd := h d (by omega)
    show ((cN F n (a + d) + (if F ((a + d : Nat) : Int) = n then 1 else 0) : Nat) : Int) = _
    rw [hd]
    by_cases e : c = n
    · rw [if_pos e] at ih ⊢
      rw [if_pos e]
      omega
    · rw [if_neg e] at ih ⊢
      rw [if_neg e]
      omega
theorem sumR_is {F : Int → Int} (n : Int) : ∀ {R : List Rw} {m e : Nat}, Rn F m R e → sumR n R = (cN F n e : Int) - cN F n m := by
  intro R
  induction R with
  | nil =>
    intro m e h
    have h' : (m : Int) = e := h
    have : m = e := by omega
    rw [this]
    simp [sumR]
  | cons r R ih =>
    intro m e h
    obtain ⟨h1, h2, h3, h4, -⟩ := h.tail
    obtain ⟨b, hb⟩ : ∃ b : Nat, r.2.1 + 1 = b := ⟨(r.2.1 + 1).toNat, by omega⟩
    rw [hb] at h4
    have i := ih h4
    have hmb : m ≤ b := by omega
    have hc := cN_const F n r.2.2 m (b - m) fun i hi => h3 _ (by omega) (by omega)
    rw [show m + (b - m) = b by omega] at hc
    show (if r.2.2 = n then r.2.1 - r.1 + 1 else 0) + sumR n R = _
    rw [i]
    by_cases c : r.2.2 = n
    · rw [if_pos c] at hc ⊢
      omega
    · rw [if_neg c] at hc ⊢
      omega
theorem cN_le (F : Int → Int) (n : Int) : ∀ k, cN F n k ≤ k
  | 0 => Nat.le_refl _
  | k + 1 => by
    have := cN_le F n k
    show cN F n k + (if F (k : Nat) = n then 1 else 0) ≤ k + 1
    split <;> omega
theorem cB_le (f : Nat → Int) (n : Int) : ∀ k, cB f n k ≤ k
  | 0 => Nat.le_refl _
  | k + 1 => by
    have := cB_le f n k
    show cB f n k + (if f k = n then 1 else 0) ≤ k + 1
    split <;> omega
theorem sumT_le (t g : Nat → Nat) (a b : Nat) : ∀ u, (∀ i, i < u → t i ≤ a ∧ g i ≤ b) → sumT t g u ≤ u * (a * b)
  | 0, _ => Nat.zero_le _
  | u + 1, h => by
    have ih := sumT_le t g a b u fun i hi => h i (by omega)
    have h1 := h u (by omega)
    have h2 := Nat.mul_le_mul h1.1 h1.2
    show sumT t g u + t u * g u ≤ (u + 1) * (a * b)
    rw [Nat.add_mul]
    omega
end Go.Proofs.Ytookbgmolggohaa
