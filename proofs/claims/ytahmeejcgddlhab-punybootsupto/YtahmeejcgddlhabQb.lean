/-
  Plain arithmetic of two rows in order that become one. No program is run here.
-/
import Derived.Test.YtahmeejcgddlhabQa
namespace Go.Proofs.Ytahmeejcgddlhab
open Go.RowKit
theorem rot_lo (f : Nat → Int) (a m b k : Nat) (_h0 : a ≤ m) (_h1 : m ≤ b) (h : k < a) : rot f a m b k = f k := by unfold rot; rw [if_neg (by omega), if_neg (by omega)]
theorem rot_1 (f : Nat → Int) (a m b k : Nat) (h : a ≤ k) (h2 : k < a + (b - m)) : rot f a m b k = f (k - a + m) := by unfold rot; rw [if_pos ⟨h, h2⟩]
theorem rot_2 (f : Nat → Int) (a m b k : Nat) (h : a + (b - m) ≤ k) (h2 : k < b) : rot f a m b k = f (k - (b - m)) := by unfold rot; rw [if_neg (by omega), if_pos ⟨h, h2⟩]
theorem rot_hi (f : Nat → Int) (a m b k : Nat) (_h0 : a ≤ m) (_h1 : m ≤ b) (h : b ≤ k) : rot f a m b k = f k := by unfold rot; rw [if_neg (by omega), if_neg (by omega)]
theorem rot_up (f : Nat → Int) (a k : Nat) (h : a ≤ k) (j : Nat) : rot f a (a + 1) (k + 2) j = swp (rot f a (a + 1) (k + 1)) k (k + 1) j := by
  unfold swp rot
  repeat' split
  all_goals first | (exfalso; omega) | (congr 1; omega) | rfl
theorem rot_down (f : Nat → Int) (m k : Nat) (h : k + 1 ≤ m) (j : Nat) : rot f k m (m + 1) j = swp (rot f (k + 1) m (m + 1)) (k + 1) k j := by
  unfold swp rot
  repeat' split
  all_goals first | (exfalso; omega) | (congr 1; omega) | rfl
theorem rot_none (f : Nat → Int) (a m : Nat) (_h : a ≤ m) (j : Nat) : rot f a m m j = f j := by
  unfold rot
  repeat' split
  all_goals first | (exfalso; omega) | (congr 1; omega) | rfl
theorem rot_nil (f : Nat → Int) (m b : Nat) (h : m ≤ b) (j : Nat) : rot f m m b j = f j := by
  unfold rot
  repeat' split
  all_goals first | (exfalso; omega) | (congr 1; omega) | rfl
/-- One put into a row that is in order, from the front. -/
theorem one_front {K : Int → Int} {f : Nat → Int} {a b i : Nat} (hs : Srt K f (a + 1) b) (hx : Idx f a (a + 1) b) (h1 : a + 1 ≤ i) (h2 : i ≤ b) (c1 : ∀ d, a + 1 ≤ d → d < i → K (f d) < K (f a)) (c2 : ∀ d, i ≤ d → d < b → ¬ K (f d) < K (f a)) : Srt K (rot f a (a + 1) i) a b := by
  intro u v g1 g2 g3
  by_cases p : v < i - 1
  · rw [rot_1 _ _ _ _ u g1 (by omega), rot_1 _ _ _ _ v (by omega) (by omega)]
    exact hs _ _ (by omega) (by omega) (by omega)
  by_cases q : v = i - 1
  · rw [rot_1 _ _ _ _ u g1 (by omega), rot_2 _ _ _ _ v (by omega) (by omega), show v - (i - (a + 1)) = a by omega]
    exact .inl (c1 _ (by omega) (by omega))
  rw [rot_hi _ _ _ _ v (by omega) (by omega) (by omega)]
  by_cases r : u < i - 1
  · rw [rot_1 _ _ _ _ u g1 (by omega)]
    exact hs _ _ (by omega) (by omega) g3
  by_cases t : u = i - 1
  · rw [rot_2 _ _ _ _ u (by omega) (by omega), show u - (i - (a + 1)) = a by omega]
    have z1 := c2 v (by omega) g3
    have z2 := hx a v (Nat.le_refl _) (by omega) (by omega) g3
    unfold LT; omega
  · rw [rot_hi _ _ _ _ u (by omega) (by omega) (by omega)]
    exact hs _ _ (by omega) g2 g3
/-- One put into a row that is in order, from behind. -/
theorem one_back {K : Int → Int} {f : Nat → Int} {a m i : Nat} (hs : Srt K f a m) (hx : Idx f a m (m + 1)) (h1 : a ≤ i) (h2 : i ≤ m) (c1 : ∀ c, i ≤ c → c < m → K (f m) < K (f c)) (c2 : ∀ c, a ≤ c → c < i → ¬ K (f m) < K (f c)) : Srt K (rot f i m (m + 1)) a (m + 1) := by
  intro u v g1 g2 g3
  by_cases p : v < i
  · rw [rot_lo _ _ _ _ u h2 (by omega) (by omega), rot_lo _ _ _ _ v h2 (by omega) p]
    exact hs _ _ g1 g2 (by omega)
  by_cases q : v = i
  · rw [rot_lo _ _ _ _ u h2 (by omega) (by omega), rot_1 _ _ _ _ v (by omega) (by omega), show v - i + m = m by omega]
    have z1 := c2 u g1 (by omega)
    have z2 := hx u m g1 (by omega) (Nat.le_refl _) (by omega)
    unfold LT; omega
  rw [rot_2 _ _ _ _ v (by omega) g3]
  by_cases r : u < i
  · rw [rot_lo _ _ _ _ u h2 (by omega) r]
    exact hs _ _ g1 (by omega) (by omega)
  by_cases t : u = i
  · rw [rot_1 _ _ _ _ u (by omega) (by omega), show u - i + m = m by omega]
    exact .inl (c1 _ (by omega) (by omega))
  · rw [rot_2 _ _ _ _ u (by omega) (by omega)]
    exact hs _ _ (by omega) (by omega) (by omega)
theorem Srt.le {K : Int → Int} {f : Nat → Int} {a b i j : Nat} (h : Srt K f a b) (h1 : a ≤ i) (h2 : i ≤ j) (h3 : j < b) : K (f i) ≤ K (f j) := by
  by_cases c : i = j
  · subst c; exact Int.le_refl _
  · have := h i j h1 (by omega) h3
    unfold LT at this; omega
theorem Sam.all {f g : Nat → Int} {a b : Nat} (h : Sam f g a b) (P : Int → Prop) (hp : ∀ i, a ≤ i → i < b → P (f i)) : ∀ j, a ≤ j → j < b → P (g j) := fun j h1 h2 => by
  obtain ⟨i, y1, y2, y3⟩ := h.to j h1 h2
  rw [y3]; exact hp i y1 y2
/-- What the cut of two rows gives: two halves, each of two rows, the one below the other. -/
structure CutI (K : Int → Int) (g : Nat → Int) (a s m e b : Nat) : Prop where
  l1 : Srt K g a s
  l2 : Srt K g s m
  lx : Idx g a s m
  r1 : Srt K g m e
  r2 : Srt K g e b
  rx : Idx g m e b
  lr : ∀ u v, a ≤ u → u < m → m ≤ v → v < b → LT K (g u) (g v)
theorem cut_rot {K : Int → Int} {f : Nat → Int} {a m b s e : Nat} (h1 : Srt K f a m) (h2 : Srt K f m b) (hx : Idx f a m b) (x1 : a ≤ s) (x2 : s ≤ m) (x3 : m ≤ e) (x4 : e ≤ b)
    (c1 : ∀ c d, s ≤ c → c < m → m ≤ d → d < e → K (f d) < K (f c)) (c2 : ∀ c d, a ≤ c → c < s → e ≤ d → d < b → ¬ K (f d) < K (f c)) : CutI K (rot f s m e) a s (s + (e - m)) e b := by
  have lo := fun k h => rot_lo f s m e k x2 x3 h
  have hi := fun k h => rot_hi f s m e k x2 x3 h
  refine ⟨fun u v g1 g2 g3 => ?_, fun u v g1 g2 g3 => ?_, fun u v g1 g2 g3 g4 => ?_, fun u v g1 g2 g3 => ?_, fun u v g1 g2 g3 => ?_, fun u v g1 g2 g3 g4 => ?_, fun u v g1 g2 g3 g4 => ?_⟩
  · rw [lo u (by omega), lo v g3]; exact h1 u v g1 g2 (by omega)
  · rw [rot_1 _ _ _ _ u g1 (by omega), rot_1 _ _ _ _ v (by omega) g3]; exact h2 _ _ (by omega) (by omega) (by omega)
  · rw [lo u g2, rot_1 _ _ _ _ v g3 g4]; exact hx _ _ g1 (by omega) (by omega) (by omega)
  · rw [rot_2 _ _ _ _ u g1 (by omega), rot_2 _ _ _ _ v (by omega) g3]; exact h1 _ _ (by omega) (by omega) (by omega)
  · rw [hi u g1, hi v (by omega)]; exact h2 _ _ (by omega) g2 g3
  · rw [rot_2 _ _ _ _ u g1 g2, hi v g3]; exact hx _ _ (by omega) (by omega) (by omega) g4
  · by_cases p : u < s
    · rw [lo u p]
      by_cases q : v < e
      · rw [rot_2 _ _ _ _ v g3 q]; exact h1 _ _ g1 (by omega) (by omega)
      · rw [hi v (by omega)]
        have z1 := c2 u v g1 p (by omega) g4
        have z2 := hx u v g1 (by omega) (by omega) g4
        unfold LT; omega
    · rw [rot_1 _ _ _ _ u (by omega) g2]
      by_cases q : v < e
      · rw [rot_2 _ _ _ _ v g3 q]; exact .inl (c1 _ _ (by omega) (by omega) (by omega) (by omega))
      · rw [hi v (by omega)]; exact h2 _ _ (by omega) (by omega) g4
theorem CutI.done {K : Int → Int} {g h1 h2 : Nat → Int} {a s m e b : Nat} (hc : CutI K g a s m e b) (x1 : a ≤ m) (x2 : m ≤ b) (s1 : Sam g h1 a m) (o1 : Srt K h1 a m) (s2 : Sam h1 h2 m b) (o2 : Srt K h2 m b) : Sam g h2 a b ∧ Srt K h2 a b := by
  refine ⟨(s1.wide (Nat.le_refl _) x2).trans (s2.wide x1 (Nat.le_refl _)), fun u v g1 g2 g3 => ?_⟩
  by_cases p : v < m
  · rw [s2.out u (by omega), s2.out v (by omega)]; exact o1 u v g1 g2 p
  by_cases q : m ≤ u
  · exact o2 u v q g2 g3
  · rw [s2.out u (by omega)]
    obtain ⟨i, y1, y2, y3⟩ := s1.to u g1 (by omega)
    obtain ⟨j, z1, z2, z3⟩ := s2.to v (by omega) g3
    rw [y3, z3, s1.out j (by omega)]
    exact hc.lr i j y1 y2 z1 z2
/-- Where the cut lies. -/
theorem cut_at {K : Int → Int} {f : Nat → Int} {a m b s0 r0 n mid s : Nat} (h1 : Srt K f a m) (h2 : Srt K f m b) (hm : mid = (a + b) / 2) (hn : n = mid + m) (_ha : a < m) (_hb : m < b)
    (hs : m > mid ∧ s0 = n - b ∧ r0 = mid ∨ ¬ m > mid ∧ s0 = a ∧ r0 = m) (hs0 : s0 ≤ s) (hr0 : s ≤ r0)
    (d1 : ∀ c, s0 ≤ c → c < s → ¬ K (f (n - 1 - c)) < K (f c)) (d2 : ∀ c, s ≤ c → c < r0 → K (f (n - 1 - c)) < K (f c)) :
    a ≤ s ∧ s ≤ m ∧ m ≤ n - s ∧ n - s ≤ b ∧ s + (n - s - m) = mid ∧ (∀ c d, s ≤ c → c < m → m ≤ d → d < n - s → K (f d) < K (f c)) ∧ (∀ c d, a ≤ c → c < s → n - s ≤ d → d < b → ¬ K (f d) < K (f c)) := by
  have hb1 : a ≤ s0 ∧ s0 ≤ r0 ∧ r0 ≤ m ∧ r0 ≤ mid := by omega
  refine ⟨by omega, by omega, by omega, by omega, by omega, fun c d g1 g2 g3 g4 => ?_, fun c d g1 g2 g3 g4 => ?_⟩
  · by_cases p : s < r0
    · have z := d2 s (Nat.le_refl _) p
      have z1 := h2.le (show m ≤ d by omega) (show d ≤ n - 1 - s by omega) (by omega)
      have z2 := h1.le (show a ≤ s by omega) g1 g2
      omega
    · omega
  · by_cases p : s0 < s
    · have z := d1 (s - 1) (by omega) (by omega)
      have z1 := h2.le (show m ≤ n - 1 - (s - 1) by omega) (show n - 1 - (s - 1) ≤ d by omega) g4
      have z2 := h1.le g1 (show c ≤ s - 1 by omega) (by omega)
      omega
    · omega
end Go.Proofs.Ytahmeejcgddlhab
