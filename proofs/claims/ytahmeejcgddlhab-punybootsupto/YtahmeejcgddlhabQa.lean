/-
  Plain arithmetic of rows that are put in order: swaps, turns. No program is run here.
-/
import Derived.Test.YtahmeejcgddlhabPa
namespace Go.Proofs.Ytahmeejcgddlhab
open Go.RowKit
/-- One ahead of the other: by what is said of them, then by themselves. -/
def LT (K : Int → Int) (x y : Int) : Prop := K x < K y ∨ K x = K y ∧ x < y
theorem LT.trans {K : Int → Int} {x y z : Int} (h : LT K x y) (h2 : LT K y z) : LT K x z := by unfold LT at *; omega
/-- The same from a place to another one, in another order; elsewhere just the same. -/
structure Sam (f g : Nat → Int) (a b : Nat) : Prop where
  out : ∀ j, j < a ∨ b ≤ j → g j = f j
  to : ∀ j, a ≤ j → j < b → ∃ i, a ≤ i ∧ i < b ∧ g j = f i
  of : ∀ i, a ≤ i → i < b → ∃ j, a ≤ j ∧ j < b ∧ f i = g j
theorem Sam.refl (f : Nat → Int) (a b : Nat) : Sam f f a b := ⟨fun _ _ => rfl, fun j h1 h2 => ⟨j, h1, h2, rfl⟩, fun j h1 h2 => ⟨j, h1, h2, rfl⟩⟩
theorem Sam.trans {f g h : Nat → Int} {a b : Nat} (h1 : Sam f g a b) (h2 : Sam g h a b) : Sam f h a b := by
  refine ⟨fun j hj => by rw [h2.out j hj, h1.out j hj], fun j x1 x2 => ?_, fun i x1 x2 => ?_⟩
  · obtain ⟨k, y1, y2, y3⟩ := h2.to j x1 x2
    obtain ⟨l, z1, z2, z3⟩ := h1.to k y1 y2
    exact ⟨l, z1, z2, by rw [y3, z3]⟩
  · obtain ⟨k, y1, y2, y3⟩ := h1.of i x1 x2
    obtain ⟨l, z1, z2, z3⟩ := h2.of k y1 y2
    exact ⟨l, z1, z2, by rw [y3, z3]⟩
theorem Sam.wide {f g : Nat → Int} {a b a2 b2 : Nat} (h : Sam f g a b) (ha : a2 ≤ a) (hb : b ≤ b2) : Sam f g a2 b2 := by
  refine ⟨fun j hj => h.out j (by omega), fun j x1 x2 => ?_, fun i x1 x2 => ?_⟩
  · by_cases c : a ≤ j ∧ j < b
    · obtain ⟨k, y1, y2, y3⟩ := h.to j c.1 c.2
      exact ⟨k, by omega, by omega, y3⟩
    · exact ⟨j, x1, x2, h.out j (by omega)⟩
  · by_cases c : a ≤ i ∧ i < b
    · obtain ⟨k, y1, y2, y3⟩ := h.of i c.1 c.2
      exact ⟨k, by omega, by omega, y3⟩
    · exact ⟨i, x1, x2, (h.out i (by omega)).symm⟩
theorem Sam.congr {f g g2 : Nat → Int} {a b : Nat} (h : Sam f g a b) (e : ∀ j, g2 j = g j) : Sam f g2 a b := by
  obtain rfl : g2 = g := funext e
  exact h
/-- In order. -/
def Srt (K : Int → Int) (f : Nat → Int) (a b : Nat) : Prop := ∀ i j, a ≤ i → i < j → j < b → LT K (f i) (f j)
/-- Those of the one stretch are below those of the other one. -/
def Idx (f : Nat → Int) (a m b : Nat) : Prop := ∀ i j, a ≤ i → i < m → m ≤ j → j < b → f i < f j
/-- Two change places. -/
def swp (f : Nat → Int) (i j : Nat) : Nat → Int := fun k => if k = i then f j else if k = j then f i else f k
theorem Sam.swp (f : Nat → Int) (a b i j : Nat) (h1 : a ≤ i) (h2 : i < b) (h3 : a ≤ j) (h4 : j < b) : Sam f (swp f i j) a b := by
  refine ⟨fun k hk => ?_, fun k x1 x2 => ?_, fun k x1 x2 => ?_⟩
  · unfold Ytahmeejcgddlhab.swp; rw [if_neg (by omega), if_neg (by omega)]
  · by_cases c : k = i
    · exact ⟨j, h3, h4, by unfold Ytahmeejcgddlhab.swp; rw [if_pos c]⟩
    · by_cases d : k = j
      · exact ⟨i, h1, h2, by unfold Ytahmeejcgddlhab.swp; rw [if_neg c, if_pos d]⟩
      · exact ⟨k, x1, x2, by unfold Ytahmeejcgddlhab.swp; rw [if_neg c, if_neg d]⟩
  · by_cases c : k = i
    · refine ⟨j, h3, h4, ?_⟩
      unfold Ytahmeejcgddlhab.swp
      by_cases e : j = i
      · rw [if_pos e, c, e]
      · rw [if_neg e, if_pos rfl, c]
    · by_cases d : k = j
      · exact ⟨i, h1, h2, by unfold Ytahmeejcgddlhab.swp; rw [if_pos rfl, d]⟩
      · exact ⟨k, x1, x2, by unfold Ytahmeejcgddlhab.swp; rw [if_neg c, if_neg d]⟩
/-- Stretches change places. -/
def swR (f : Nat → Int) (a b n : Nat) : Nat → Int := fun k => if a ≤ k ∧ k < a + n then f (k - a + b) else if b ≤ k ∧ k < b + n then f (k - b + a) else f k
theorem swR_step (f : Nat → Int) (a b n : Nat) (h : a + (n + 1) ≤ b) (k : Nat) : swR f a b (n + 1) k = swp (swR f a b n) (a + n) (b + n) k := by
  unfold swp swR
  by_cases c1 : k = a + n
  · subst c1
    rw [if_pos (by omega), if_pos rfl, if_neg (by omega), if_neg (by omega)]
    congr 1; omega
  · rw [if_neg c1]
    by_cases c2 : k = b + n
    · subst c2
      rw [if_neg (by omega), if_pos (by omega), if_pos rfl, if_neg (by omega), if_neg (by omega)]
      congr 1; omega
    · rw [if_neg c2]
      by_cases c3 : a ≤ k ∧ k < a + n
      · rw [if_pos (by omega), if_pos c3]
      · rw [if_neg (by omega), if_neg c3]
        by_cases c4 : b ≤ k ∧ k < b + n
        · rw [if_pos (by omega), if_pos c4]
        · rw [if_neg (by omega), if_neg c4]
theorem Sam.swR (f : Nat → Int) (a b n lo hi : Nat) (h : a + n ≤ b) (h1 : lo ≤ a) (h2 : b + n ≤ hi) : Sam f (swR f a b n) lo hi := by
  refine ⟨fun k hk => ?_, fun k x1 x2 => ?_, fun k x1 x2 => ?_⟩
  · unfold Ytahmeejcgddlhab.swR; rw [if_neg (by omega), if_neg (by omega)]
  · unfold Ytahmeejcgddlhab.swR
    by_cases c : a ≤ k ∧ k < a + n
    · rw [if_pos c]; exact ⟨k - a + b, by omega, by omega, rfl⟩
    · rw [if_neg c]
      by_cases d : b ≤ k ∧ k < b + n
      · rw [if_pos d]; exact ⟨k - b + a, by omega, by omega, rfl⟩
      · rw [if_neg d]; exact ⟨k, x1, x2, rfl⟩
  · by_cases c : a ≤ k ∧ k < a + n
    · refine ⟨k - a + b, by omega, by omega, ?_⟩
      unfold Ytahmeejcgddlhab.swR
      rw [if_neg (by omega), if_pos (by omega)]; congr 1; omega
    · by_cases d : b ≤ k ∧ k < b + n
      · refine ⟨k - b + a, by omega, by omega, ?_⟩
        unfold Ytahmeejcgddlhab.swR
        rw [if_pos (by omega)]; congr 1; omega
      · refine ⟨k, x1, x2, ?_⟩
        unfold Ytahmeejcgddlhab.swR
        rw [if_neg c, if_neg d]
/-- Turned about a place. -/
def rot (f : Nat → Int) (a m b : Nat) : Nat → Int := fun k => if a ≤ k ∧ k < a + (b - m) then f (k - a + m) else if a + (b - m) ≤ k ∧ k < b then f (k - (b - m)) else f k
theorem rot_more (f : Nat → Int) (m i j : Nat) (hi : i ≤ m) (h : j < i) (k : Nat) : rot (swR f (m - i) m j) (m - (i - j)) m (m + j) k = rot f (m - i) m (m + j) k := by
  unfold rot swR
  by_cases c1 : k < m - i
  · rw [if_neg (by omega), if_neg (by omega), if_neg (by omega), if_neg (by omega), if_neg (by omega), if_neg (by omega)]
  · by_cases c2 : k < m - i + j
    · rw [if_neg (by omega), if_neg (by omega), if_pos (by omega), if_pos (by omega)]
    · by_cases c3 : k < m + j
      · rw [if_neg (show ¬ (m - i ≤ k ∧ k < m - i + (m + j - m)) by omega), if_pos (show m - i + (m + j - m) ≤ k ∧ k < m + j by omega)]
        by_cases c4 : k < m - (i - j) + j
        · rw [if_pos (by omega), if_neg (by omega), if_pos (by omega)]; congr 1; omega
        · rw [if_neg (by omega), if_pos (by omega), if_neg (by omega), if_neg (by omega)]
      · rw [if_neg (by omega), if_neg (by omega), if_neg (by omega), if_neg (by omega), if_neg (by omega), if_neg (by omega)]
theorem rot_less (f : Nat → Int) (m i j : Nat) (hi : i ≤ m) (h : i < j) (k : Nat) : rot (swR f (m - i) (m + j - i) i) (m - i) m (m + (j - i)) k = rot f (m - i) m (m + j) k := by
  unfold rot swR
  repeat' split
  all_goals first | (exfalso; omega) | (congr 1; omega) | rfl
theorem rot_same (f : Nat → Int) (m i : Nat) (hi : i ≤ m) (k : Nat) : swR f (m - i) m i k = rot f (m - i) m (m + i) k := by
  unfold rot swR
  repeat' split
  all_goals first | (exfalso; omega) | (congr 1; omega) | rfl
theorem Sam.rot (f : Nat → Int) (a m b : Nat) (h1 : a ≤ m) (h2 : m ≤ b) : Sam f (rot f a m b) a b := by
  refine ⟨fun k hk => ?_, fun k x1 x2 => ?_, fun k x1 x2 => ?_⟩
  · unfold Ytahmeejcgddlhab.rot; rw [if_neg (by omega), if_neg (by omega)]
  · unfold Ytahmeejcgddlhab.rot
    by_cases c : a ≤ k ∧ k < a + (b - m)
    · rw [if_pos c]; exact ⟨_, by omega, by omega, rfl⟩
    · rw [if_neg c, if_pos (by omega)]; exact ⟨_, by omega, by omega, rfl⟩
  · by_cases c : k < m
    · refine ⟨k + (b - m), by omega, by omega, ?_⟩
      unfold Ytahmeejcgddlhab.rot
      rw [if_neg (by omega), if_pos (by omega)]; congr 1; omega
    · refine ⟨k - m + a, by omega, by omega, ?_⟩
      unfold Ytahmeejcgddlhab.rot
      rw [if_pos (by omega)]; congr 1; omega
/-- The sorted beginning, one more put in: what stands while it sinks. -/
structure InsI (K : Int → Int) (f : Nat → Int) (a i j : Nat) (h : Nat → Int) : Prop where
  lo : a ≤ j
  hi : j ≤ i
  sam : Sam f h a (i + 1)
  s1 : Srt K h a j
  s2 : Srt K h (j + 1) (i + 1)
  s3 : ∀ u v, a ≤ u → u < j → j < v → v ≤ i → LT K (h u) (h v)
  s4 : ∀ v, j < v → v ≤ i → LT K (h j) (h v)
  idx : ∀ u, a ≤ u → u ≤ i → u ≠ j → h u < h j
theorem InsI.start {K : Int → Int} {f g : Nat → Int} {a i : Nat} (h : a < i) (hs : Srt K g a i) (hg : Sam f g a i) (hx : ∀ u v, a ≤ u → u < v → v ≤ i → f u < f v) : InsI K f a i i g := by
  refine ⟨by omega, Nat.le_refl _, hg.wide (Nat.le_refl _) (by omega), hs, fun _ _ _ _ _ => by omega, fun _ _ _ _ _ _ => by omega, fun _ _ _ => by omega, fun u h1 h2 h3 => ?_⟩
  obtain ⟨k, y1, y2, y3⟩ := hg.to u h1 (by omega)
  rw [y3, hg.out i (by omega)]
  exact hx k i y1 y2 (Nat.le_refl _)
theorem InsI.sink {K : Int → Int} {f : Nat → Int} {a i j : Nat} {h : Nat → Int} (hI : InsI K f a i (j + 1) h) (ha : a ≤ j) (hk : K (h (j + 1)) < K (h j)) : InsI K f a i j (swp h (j + 1) j) := by
  have e1 : swp h (j + 1) j (j + 1) = h j := by unfold swp; rw [if_pos rfl]
  have e2 : swp h (j + 1) j j = h (j + 1) := by unfold swp; rw [if_neg (by omega), if_pos rfl]
  have e3 : ∀ k, k ≠ j → k ≠ j + 1 → swp h (j + 1) j k = h k := fun k h1 h2 => by unfold swp; rw [if_neg h2, if_neg h1]
  have hi := hI.hi
  refine ⟨ha, by omega, hI.sam.trans (Sam.swp _ _ _ _ _ (by omega) (by omega) ha (by omega)), fun u v h1 h2 h3 => ?_, fun u v h1 h2 h3 => ?_, fun u v h1 h2 h3 h4 => ?_, fun v h1 h2 => ?_, fun u h1 h2 h3 => ?_⟩
  · rw [e3 u (by omega) (by omega), e3 v (by omega) (by omega)]; exact hI.s1 u v h1 h2 (by omega)
  · rw [e3 v (by omega) (by omega)]
    by_cases c : u = j + 1
    · subst c; rw [e1]; exact hI.s3 j v ha (by omega) (by omega) (by omega)
    · rw [e3 u (by omega) c]; exact hI.s2 u v (by omega) h2 h3
  · rw [e3 u (by omega) (by omega)]
    by_cases c : v = j + 1
    · subst c; rw [e1]; exact hI.s1 u j h1 h2 (by omega)
    · rw [e3 v (by omega) c]; exact hI.s3 u v h1 (by omega) (by omega) h4
  · rw [e2]
    by_cases c : v = j + 1
    · subst c; rw [e1]; exact .inl hk
    · rw [e3 v (by omega) c]; exact hI.s4 v (by omega) h2
  · rw [e2]
    by_cases c : u = j + 1
    · subst c; rw [e1]; exact hI.idx j ha (by omega) (by omega)
    · rw [e3 u h3 c]; exact hI.idx u h1 h2 c
theorem InsI.done {K : Int → Int} {f : Nat → Int} {a i j : Nat} {h : Nat → Int} (hI : InsI K f a i j h) (hk : j = a ∨ ¬ K (h j) < K (h (j - 1))) : Srt K h a (i + 1) := by
  have hlo := hI.lo
  intro u v h1 h2 h3
  by_cases c1 : v < j
  · exact hI.s1 u v h1 h2 c1
  by_cases c2 : v = j
  · subst c2
    have hle : LT K (h (v - 1)) (h v) := by
      have := hI.idx (v - 1) (by omega) (by have := hI.hi; omega) (by omega)
      unfold LT; omega
    by_cases c3 : u = v - 1
    · subst c3; exact hle
    · exact (hI.s1 u (v - 1) h1 (by omega) (by omega)).trans hle
  by_cases c3 : u < j
  · exact hI.s3 u v h1 c3 (by omega) (by omega)
  by_cases c4 : u = j
  · subst c4; exact hI.s4 v h2 (by omega)
  · exact hI.s2 u v (by omega) h2 h3
end Go.Proofs.Ytahmeejcgddlhab
