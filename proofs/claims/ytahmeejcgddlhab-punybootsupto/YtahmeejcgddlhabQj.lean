/-
  Plain arithmetic of stretches of one length that are merged by pairs. No program is run here.
-/
import Derived.Test.YtahmeejcgddlhabQb
namespace Go.Proofs.Ytahmeejcgddlhab
open Go.RowKit
/-- Stretches of one length are in order, from a place to another one. -/
def SC (K : Int → Int) (bs : Nat) (h : Nat → Int) (lo hi : Nat) : Prop := ∀ k u v, lo ≤ k * bs → k * bs ≤ u → u < v → v < k * bs + bs → v < hi → LT K (h u) (h v)
/-- What stands in one stretch is below what stands behind it. -/
def CI (bs : Nat) (h : Nat → Int) (lo hi : Nat) : Prop := ∀ k u v, lo ≤ u → u < k * bs → k * bs ≤ v → v < hi → h u < h v
theorem mul_lo {x y c : Nat} (h : x ≤ y) : x * c ≤ y * c := Nat.mul_le_mul_right c h
theorem mul_hi {x y c : Nat} (h : x < y) : x * c + c ≤ y * c := by
  have := Nat.mul_le_mul_right c (show x + 1 ≤ y from h)
  rw [Nat.succ_mul] at this; exact this
theorem CI.sam {bs n a b k : Nat} {h h2 : Nat → Int} (hc : CI bs h 0 n) (hs : Sam h h2 a b) (ha : a = k * bs) (hb : b ≤ a + bs) (hbn : b ≤ n) : CI bs h2 0 n := by
  intro K u v _ h1 h3 h4
  have hu : ∃ i, i < K * bs ∧ h2 u = h i := by
    by_cases c : a ≤ u ∧ u < b
    · obtain ⟨i, y1, y2, y3⟩ := hs.to u c.1 c.2
      refine ⟨i, ?_, y3⟩
      rcases Nat.lt_or_ge k K with q | q
      · have := mul_hi (c := bs) q; omega
      · have := mul_lo (c := bs) q; omega
    · exact ⟨u, h1, hs.out u (by omega)⟩
  have hv : ∃ j, K * bs ≤ j ∧ j < n ∧ h2 v = h j := by
    by_cases c : a ≤ v ∧ v < b
    · obtain ⟨j, y1, y2, y3⟩ := hs.to v c.1 c.2
      refine ⟨j, ?_, by omega, y3⟩
      rcases Nat.lt_or_ge k K with q | q
      · have := mul_hi (c := bs) q; omega
      · have := mul_lo (c := bs) q; omega
    · exact ⟨v, h3, h4, hs.out v (by omega)⟩
  obtain ⟨i, i1, i2⟩ := hu
  obtain ⟨j, j1, j2, j3⟩ := hv
  rw [i2, j3]
  exact hc K i j (Nat.zero_le _) i1 j1 j2
theorem SC.sam {K : Int → Int} {bs a b k : Nat} {h h2 : Nat → Int} (hc : SC K bs h 0 a) (hs : Sam h h2 a b) (ho : Srt K h2 a b) (ha : a = k * bs) : SC K bs h2 0 b := by
  intro k2 u v _ h1 h3 h4 h5
  by_cases c : v < a
  · rw [hs.out u (by omega), hs.out v (by omega)]; exact hc k2 u v (Nat.zero_le _) h1 h3 h4 c
  · have : k ≤ k2 := by
      rcases Nat.lt_or_ge k2 k with q | q
      · have := mul_hi (c := bs) q; omega
      · exact q
    have := mul_lo (c := bs) this
    exact ho u v (by omega) h3 h5
theorem SC.rest {K : Int → Int} {bs a b n : Nat} {h h2 : Nat → Int} (hc : SC K bs h a n) (hs : Sam h h2 a b) (hab : a ≤ b) : SC K bs h2 b n := by
  intro k u v h0 h1 h3 h4 h5
  rw [hs.out u (by omega), hs.out v (by omega)]; exact hc k u v (by omega) h1 h3 h4 h5
theorem CI.rest {bs a b n : Nat} {h h2 : Nat → Int} (hc : CI bs h a n) (hs : Sam h h2 a b) (hab : a ≤ b) : CI bs h2 b n := by
  intro k u v h0 h1 h3 h4
  rw [hs.out u (by omega), hs.out v (by omega)]; exact hc k u v (by omega) h1 h3 h4
theorem CI.twice {bs n : Nat} {h : Nat → Int} (hc : CI bs h 0 n) : CI (bs * 2) h 0 n := by
  intro k u v h0 h1 h3 h4
  have e : k * (bs * 2) = (k * 2) * bs := by rw [Nat.mul_comm bs 2, Nat.mul_assoc]
  rw [e] at h1 h3
  exact hc (k * 2) u v h0 h1 h3 h4
/-- Two stretches beside each other can be merged. -/
theorem pair_ok {K : Int → Int} {bs a b n k : Nat} {h : Nat → Int} (hc : SC K bs h a n) (hi : CI bs h a n) (ha : a = k * (bs * 2)) (h1 : a + bs < b) (h2 : b ≤ a + bs * 2) (hbn : b ≤ n) : Srt K h a (a + bs) ∧ Srt K h (a + bs) b ∧ Idx h a (a + bs) b := by
  have e : a = (k * 2) * bs := by rw [ha, Nat.mul_comm bs 2, Nat.mul_assoc]
  have e2 : a + bs = (k * 2 + 1) * bs := by rw [Nat.succ_mul, ← e]
  refine ⟨fun u v g1 g2 g3 => hc (k * 2) u v (by omega) (by omega) g2 (by omega) (by omega), fun u v g1 g2 g3 => hc (k * 2 + 1) u v (by omega) (by omega) g2 (by omega) (by omega), fun u v g1 g2 g3 g4 => hi (k * 2 + 1) u v g1 (by omega) (by omega) (by omega)⟩
/-- The last one stands alone. -/
theorem last_ok {K : Int → Int} {bs a n k : Nat} {h : Nat → Int} (hc : SC K bs h a n) (hd : SC K (bs * 2) h 0 a) (ha : a = k * (bs * 2)) (h1 : n ≤ a + bs) : SC K (bs * 2) h 0 n := by
  have e : a = (k * 2) * bs := by rw [ha, Nat.mul_comm bs 2, Nat.mul_assoc]
  intro k2 u v _ g1 g2 g3 g4
  by_cases c : v < a
  · exact hd k2 u v (Nat.zero_le _) g1 g2 g3 c
  · have : k ≤ k2 := by
      rcases Nat.lt_or_ge k2 k with q | q
      · have := mul_hi (c := bs * 2) q; omega
      · exact q
    have := mul_lo (c := bs * 2) this
    exact hc (k * 2) u v (by omega) (by omega) g2 (by omega) g4
theorem SC.all {K : Int → Int} {bs n : Nat} {h : Nat → Int} (hc : SC K bs h 0 n) (hb : n ≤ bs) : Srt K h 0 n := fun u v _ g2 g3 => hc 0 u v (by omega) (by omega) g2 (by omega) g3
end Go.Proofs.Ytahmeejcgddlhab
