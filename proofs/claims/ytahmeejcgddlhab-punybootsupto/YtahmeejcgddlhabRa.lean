/-
  Numbers written are read; numbers that can't be written can't be read.
-/
import Derived.Test.YtahmeejcgddlhabQn
namespace Go.Proofs.Ytahmeejcgddlhab
open Go.RowKit
theorem dg_ltr (d : Int) (h0 : 0 ≤ d) (h1 : d ≤ 35) : dg (ltr d) = d := by
  unfold ltr dg
  split
  · rw [if_pos (by omega)]; omega
  · rw [if_neg (by omega), if_neg (by omega), if_pos (by omega)]; omega
theorem dgTo_ltr (p : Bt) (hp : Okb p) (d : Int) (h0 : 0 ≤ d) (h1 : d < p.base) : dgTo p.base (ltr d) = d := by
  have := hp.b2
  unfold dgTo
  rw [dg_ltr d h0 (by omega), if_pos h1]
/-- What is taken off a number by one of its digits. -/
theorem num_step {b t q : Int} (_ht : 0 ≤ t) (htb : t ≤ b - 2) (hq : t ≤ q) : t ≤ t + (q - t) % (b - t) ∧ t + (q - t) % (b - t) < b ∧ 0 ≤ (q - t) / (b - t) ∧ t + (q - t) % (b - t) + (q - t) / (b - t) * (b - t) = q ∧ 2 * ((q - t) / (b - t)) ≤ q - t := by
  have h1 := Int.emod_nonneg (q - t) (show b - t ≠ 0 by omega)
  have h2 := Int.emod_lt_of_pos (q - t) (show 0 < b - t by omega)
  have h3 := Int.ediv_nonneg (show 0 ≤ q - t by omega) (show 0 ≤ b - t by omega)
  have h4 := Int.mul_ediv_add_emod (q - t) (b - t)
  have h5 : (q - t) / (b - t) * (b - t) = (b - t) * ((q - t) / (b - t)) := Int.mul_comm _ _
  have h6 : 2 * ((q - t) / (b - t)) ≤ (b - t) * ((q - t) / (b - t)) := Int.mul_le_mul_of_nonneg_right (by omega) h3
  omega
theorem mul_shift (d q w r : Int) : d * w + q * (w * r) = (d + q * r) * w := by
  rw [Int.add_mul, Int.mul_assoc q r w, Int.mul_comm r w]
/-- The digits at a place say the same as these. -/
def Says (p : Bt) (s : ByteArray) (at_ : Nat) (ds : List Int) : Prop := at_ + ds.length ≤ s.size ∧ ∀ j, j < ds.length → dgTo p.base (byt s (at_ + j)) = dgTo p.base (ds.getD j 0)
theorem Says.head {p : Bt} {s : ByteArray} {at_ : Nat} {d : Int} {ds : List Int} (h : Says p s at_ (d :: ds)) : at_ < s.size ∧ dgTo p.base (byt s at_) = dgTo p.base d ∧ Says p s (at_ + 1) ds := by
  obtain ⟨h1, h2⟩ := h
  simp only [List.length_cons] at h1
  refine ⟨by omega, by simpa using h2 0 (by simp), by omega, fun j hj => ?_⟩
  have := h2 (j + 1) (by simp; omega)
  rw [show at_ + 1 + j = at_ + (j + 1) by omega]
  simpa using this
theorem Says.left {p : Bt} {s : ByteArray} {at_ : Nat} {a b : List Int} (h : Says p s at_ (a ++ b)) : Says p s at_ a := by
  obtain ⟨h1, h2⟩ := h
  rw [List.length_append] at h1
  refine ⟨by omega, fun j hj => ?_⟩
  rw [h2 j (by simp; omega)]
  simp [List.getD_eq_getElem?_getD, List.getElem?_append_left hj]
theorem Says.right {p : Bt} {s : ByteArray} {at_ : Nat} {a b : List Int} (h : Says p s at_ (a ++ b)) : Says p s (at_ + a.length) b := by
  obtain ⟨h1, h2⟩ := h
  rw [List.length_append] at h1
  refine ⟨by omega, fun j hj => ?_⟩
  have := h2 (a.length + j) (by simp; omega)
  rw [show at_ + a.length + j = at_ + (a.length + j) by omega, this]
  rw [List.getD_eq_getElem?_getD, List.getD_eq_getElem?_getD, List.getElem?_append_right (by omega), Nat.add_sub_cancel_left]
/-- A number's digit that is not the last, and what is behind it. -/
theorem rdN_more (p : Bt) (s : ByteArray) (bias : Int) (at_ : Nat) (i w k d T : Int) (hT : thr p k bias = T) (hs : at_ < s.size) (hd : dgTo p.base (byt s at_) = d) (h0 : 0 ≤ d) (ht : T ≤ d) (hi : i + d * w ≤ 2147483647) (hw : w * (p.base - T) ≤ 2147483647) :
    rdN p s bias (s.size - at_) at_ i w k = rdN p s bias (s.size - (at_ + 1)) (at_ + 1) (i + d * w) (w * (p.base - T)) (k + p.base) := by
  obtain ⟨g, hg⟩ : ∃ g, s.size - at_ = g + 1 := ⟨s.size - at_ - 1, by omega⟩
  rw [hg, rdN, hd, hT, if_neg (by omega), if_neg (by omega), if_neg (by omega), if_neg (by omega), show s.size - (at_ + 1) = g by omega]
theorem rdN_great (p : Bt) (s : ByteArray) (bias : Int) (at_ : Nat) (i w k d : Int) (hs : at_ < s.size) (hd : dgTo p.base (byt s at_) = d) (h0 : 0 ≤ d) (hi : 2147483647 < i + d * w) :
    rdN p s bias (s.size - at_) at_ i w k = .inl (at_, 142) := by
  obtain ⟨g, hg⟩ : ∃ g, s.size - at_ = g + 1 := ⟨s.size - at_ - 1, by omega⟩
  rw [hg, rdN, hd, if_neg (by omega), if_pos hi]
theorem rdN_wide (p : Bt) (s : ByteArray) (bias : Int) (at_ : Nat) (i w k d T : Int) (hT : thr p k bias = T) (hs : at_ < s.size) (hd : dgTo p.base (byt s at_) = d) (h0 : 0 ≤ d) (ht : T ≤ d) (hi : i + d * w ≤ 2147483647) (hw : 2147483647 < w * (p.base - T)) :
    rdN p s bias (s.size - at_) at_ i w k = .inl (at_, 142) := by
  obtain ⟨g, hg⟩ : ∃ g, s.size - at_ = g + 1 := ⟨s.size - at_ - 1, by omega⟩
  rw [hg, rdN, hd, hT, if_neg (by omega), if_neg (by omega), if_neg (by omega), if_pos hw]
theorem rdN_last (p : Bt) (s : ByteArray) (bias : Int) (at_ : Nat) (i w k d T : Int) (hT : thr p k bias = T) (hs : at_ < s.size) (hd : dgTo p.base (byt s at_) = d) (h0 : 0 ≤ d) (ht : d < T) (hi : i + d * w ≤ 2147483647) :
    rdN p s bias (s.size - at_) at_ i w k = .inr (i + d * w, at_) := by
  obtain ⟨g, hg⟩ : ∃ g, s.size - at_ = g + 1 := ⟨s.size - at_ - 1, by omega⟩
  rw [hg, rdN, hd, hT, if_neg (by omega), if_neg (by omega), if_pos ht]
/-- What is said of one step of a number. -/
structure Stp (p : Bt) (T q w i M Q : Int) : Prop where
  d0 : 0 ≤ T + M
  dT : T ≤ T + M
  db : T + M < p.base
  q0 : 0 ≤ Q
  sum : i + (T + M) * w + Q * (w * (p.base - T)) = i + q * w
  part : i + (T + M) * w ≤ i + q * w
  w1 : 1 ≤ w * (p.base - T)
  half : 2 * Q ≤ q - T
theorem stp_any (p : Bt) (hp : Okb p) (k bias T q w i : Int) (hT : thr p k bias = T) (hq : T ≤ q) (hw : 1 ≤ w) : Stp p T q w i ((q - T) % (p.base - T)) ((q - T) / (p.base - T)) := by
  have tb := thr_bound p hp k bias
  rw [hT] at tb
  obtain ⟨n1, n2, n3, n4, n5⟩ := num_step (b := p.base) (t := T) (q := q) tb.1 (by omega) hq
  generalize (q - T) % (p.base - T) = M at *
  generalize (q - T) / (p.base - T) = Q at *
  have m1 := mul_shift (T + M) Q w (p.base - T)
  rw [n4] at m1
  have m3 : 1 * 1 ≤ w * (p.base - T) := Int.mul_le_mul hw (by omega) (by omega) (by omega)
  have m2 : 0 ≤ Q * (w * (p.base - T)) := Int.mul_nonneg n3 (by omega)
  exact ⟨by omega, n1, n2, n3, by omega, by omega, by omega, n5⟩
/-- A number that was written is read. -/
theorem rdN_numF (p : Bt) (hp : Okb p) (s : ByteArray) (bias : Int) : ∀ (f at_ : Nat) (q w k i : Int) (ds : List Int), numF p bias f q w k = some ds → 0 ≤ q → 1 ≤ w → i + q * w ≤ 2147483647 → Says p s at_ ds → rdN p s bias (s.size - at_) at_ i w k = .inr (i + q * w, at_ + ds.length - 1) ∧ 1 ≤ ds.length
  | 0, _, _, _, _, _, _, h, _, _, _, _ => by simp [numF] at h
  | f + 1, at_, q, w, k, i, ds, h, hq, hw, hi, hs => by
    have tb := thr_bound p hp k bias
    have hb := hp.b2
    rw [numF] at h
    obtain ⟨T, hT⟩ : ∃ T, thr p k bias = T := ⟨_, rfl⟩
    rw [hT] at h tb
    by_cases c : q < T
    · rw [if_pos c] at h
      have e : ds = [ltr q] := by simpa using h.symm
      subst e
      obtain ⟨s1, s2, -⟩ := hs.head
      rw [dgTo_ltr p hp q hq (by omega)] at s2
      rw [rdN_last p s bias at_ i w k q T hT s1 s2 hq c hi]
      exact ⟨rfl, by simp⟩
    · rw [if_neg c] at h
      by_cases c2 : 2147483647 < w * (p.base - T)
      · rw [if_pos c2] at h; simp at h
      rw [if_neg c2] at h
      have S := stp_any p hp k bias T q w i hT (by omega) hw
      generalize (q - T) % (p.base - T) = M at *
      generalize (q - T) / (p.base - T) = Q at *
      cases hn : numF p bias f Q (w * (p.base - T)) (k + p.base) with
      | none => rw [hn] at h; simp at h
      | some d =>
        rw [hn] at h
        have e : ds = ltr (T + M) :: d := by simpa using h.symm
        subst e
        obtain ⟨s1, s2, s3⟩ := hs.head
        rw [dgTo_ltr p hp _ S.d0 S.db] at s2
        have ih := rdN_numF p hp s bias f (at_ + 1) Q (w * (p.base - T)) (k + p.base) (i + (T + M) * w) d hn S.q0 S.w1 (by rw [S.sum]; exact hi) s3
        rw [rdN_more p s bias at_ i w k (T + M) T hT s1 s2 S.d0 S.dT (by have := S.part; omega) (by omega), ih.1, S.sum]
        refine ⟨?_, by simp⟩
        have := ih.2
        rw [show at_ + 1 + d.length - 1 = at_ + (ltr (T + M) :: d).length - 1 by rw [List.length_cons]; omega]
/-- A number as digits, whatever they say in all. -/
def numU (p : Bt) (bias : Int) : Nat → Int → Int → List Int
  | 0, _, _ => []
  | f + 1, q, k =>
    if q < thr p k bias then [ltr q]
    else ltr (thr p k bias + (q - thr p k bias) % (p.base - thr p k bias)) :: numU p bias f ((q - thr p k bias) / (p.base - thr p k bias)) (k + p.base)
theorem thr_one (p : Bt) (hl : 1 ≤ p.least) (hp : Okb p) (k bias : Int) : 1 ≤ thr p k bias := by
  have := hp.l2
  unfold thr; omega
theorem numU_numF (p : Bt) (hp : Okb p) (hl : 1 ≤ p.least) (bias : Int) : ∀ (f g : Nat) (q w k : Int) (ds : List Int), numF p bias g q w k = some ds → 0 ≤ q → q < 2 ^ f → numU p bias (f + 1) q k = ds
  | f, 0, _, _, _, _, h, _, _ => by simp [numF] at h
  | f, g + 1, q, w, k, ds, h, h0, h1 => by
    have tb := thr_bound p hp k bias
    have t1 := thr_one p hl hp k bias
    rw [numF] at h
    rw [numU]
    obtain ⟨T, hT⟩ : ∃ T, thr p k bias = T := ⟨_, rfl⟩
    rw [hT] at h tb t1 ⊢
    by_cases c : q < T
    · rw [if_pos c] at h ⊢; simpa using h
    · rw [if_neg c] at h ⊢
      by_cases c2 : 2147483647 < w * (p.base - T)
      · rw [if_pos c2] at h; simp at h
      rw [if_neg c2] at h
      obtain ⟨n1, n2, n3, n4, n5⟩ := num_step (b := p.base) (t := T) (q := q) tb.1 (by omega) (by omega)
      generalize (q - T) % (p.base - T) = M at *
      generalize (q - T) / (p.base - T) = Q at *
      cases hn : numF p bias g Q (w * (p.base - T)) (k + p.base) with
      | none => rw [hn] at h; simp at h
      | some d =>
        rw [hn] at h
        cases f with
        | zero => simp at h1; omega
        | succ f =>
          rw [numU_numF p hp hl bias f g Q (w * (p.base - T)) (k + p.base) d hn n3 (by rw [Int.pow_succ] at h1; omega)]
          simpa using h
/-- A number that can't be written can't be read. -/
theorem rdN_bad (p : Bt) (hp : Okb p) (hl : 1 ≤ p.least) (s : ByteArray) (bias : Int) : ∀ (f g at_ : Nat) (q w k i : Int), 0 ≤ q → q < 2 ^ f → 1 ≤ w → w ≤ 2147483647 → 2147483647 < w * 2 ^ g → numF p bias g q w k = none ∨ 2147483647 < i + q * w → Says p s at_ (numU p bias (f + 1) q k) → ∃ a c, rdN p s bias (s.size - at_) at_ i w k = .inl (a, c)
  | f, 0, _, _, _, _, _, _, _, _, h4, h5, _, _ => by simp at h5; omega
  | f, g + 1, at_, q, w, k, i, h0, h1, h2, h3, h4, h5, hs => by
    have tb := thr_bound p hp k bias
    have t1 := thr_one p hl hp k bias
    rw [numF] at h5
    rw [numU] at hs
    obtain ⟨T, hT⟩ : ∃ T, thr p k bias = T := ⟨_, rfl⟩
    rw [hT] at h5 tb t1 hs
    by_cases c : q < T
    · rw [if_pos c] at h5 hs
      obtain ⟨s1, s2, -⟩ := hs.head
      rw [dgTo_ltr p hp q h0 (by omega)] at s2
      have h6 : 2147483647 < i + q * w := by rcases h5 with h | h; simp at h; exact h
      exact ⟨_, _, rdN_great p s bias at_ i w k q s1 s2 h0 h6⟩
    · rw [if_neg c] at h5 hs
      have S := stp_any p hp k bias T q w i hT (by omega) h2
      generalize (q - T) % (p.base - T) = M at *
      generalize (q - T) / (p.base - T) = Q at *
      obtain ⟨s1, s2, s3⟩ := hs.head
      rw [dgTo_ltr p hp _ S.d0 S.db] at s2
      by_cases c1 : 2147483647 < i + (T + M) * w
      · exact ⟨_, _, rdN_great p s bias at_ i w k (T + M) s1 s2 S.d0 c1⟩
      by_cases c2 : 2147483647 < w * (p.base - T)
      · exact ⟨_, _, rdN_wide p s bias at_ i w k (T + M) T hT s1 s2 S.d0 S.dT (by omega) c2⟩
      rw [if_neg c2] at h5
      rw [rdN_more p s bias at_ i w k (T + M) T hT s1 s2 S.d0 S.dT (by omega) (by omega)]
      cases f with
      | zero => simp at h1; omega
      | succ f =>
        refine rdN_bad p hp hl s bias f g (at_ + 1) Q (w * (p.base - T)) (k + p.base) (i + (T + M) * w) S.q0 ?_ S.w1 (by omega) ?_ ?_ s3
        · have := S.half; rw [Int.pow_succ] at h1; omega
        · rw [Int.pow_succ] at h4
          have e1 : w * (p.base - T) * 2 ^ g = w * ((p.base - T) * 2 ^ g) := Int.mul_assoc _ _ _
          have e2 : w * (2 ^ g * 2) ≤ w * ((p.base - T) * 2 ^ g) := Int.mul_le_mul_of_nonneg_left (by rw [Int.mul_comm]; exact Int.mul_le_mul_of_nonneg_right (by omega) (Int.pow_nonneg (by decide))) (by omega)
          omega
        · rw [S.sum]
          rcases h5 with h | h
          · left; simpa using h
          · right; exact h
end Go.Proofs.Ytahmeejcgddlhab
