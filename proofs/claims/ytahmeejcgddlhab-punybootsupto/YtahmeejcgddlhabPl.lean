/-
  What the digits of a text put in, as plain arithmetic.
-/
import Derived.Test.YtahmeejcgddlhabPk
namespace Go.Proofs.Ytahmeejcgddlhab
open Go.RowKit
/-- What the digits of a text put in; or what is wrong first. -/
def rdL (p : Bt) (s : ByteArray) : Nat → Nat → Int → Int → Int → Nat → (Nat × Int) ⊕ List (Int × Nat)
  | 0, _, _, _, _, _ => .inr []
  | f + 1, at_, n, i, bias, m =>
    if s.size ≤ at_ then .inr [] else
    match rdN p s bias (s.size - at_) at_ i 1 p.base with
    | .inl e => .inl e
    | .inr (x, last) =>
      if 1114111 < n + x / ((m + 1 : Nat) : Int) then .inl (last, 142)
      else if 55296 ≤ n + x / ((m + 1 : Nat) : Int) ∧ n + x / ((m + 1 : Nat) : Int) ≤ 57343 then .inl (last, 143)
      else match rdL p s f (last + 1) (n + x / ((m + 1 : Nat) : Int)) (x % ((m + 1 : Nat) : Int) + 1) (adF p (x - i) ((m + 1 : Nat) : Int) (i == 0)) (m + 1) with
        | .inl e => .inl e
        | .inr l => .inr ((n + x / ((m + 1 : Nat) : Int), (x % ((m + 1 : Nat) : Int)).toNat) :: l)
theorem rdN_ok (p : Bt) (s : ByteArray) (bias : Int) : ∀ (f at_ : Nat) (i w k x : Int) (last : Nat), rdN p s bias f at_ i w k = .inr (x, last) → 0 ≤ w → at_ + f = s.size → (at_ ≤ last ∧ last < s.size) ∧ i ≤ x ∧ x ≤ 2147483647
  | 0, _, _, _, _, _, _, h, _, _ => by simp [rdN] at h
  | f + 1, at_, i, w, k, x, last, h, hw, hf => by
    rw [rdN] at h
    have hd := dg_bound (byt s at_)
    by_cases c1 : dgTo p.base (byt s at_) < 0
    · rw [if_pos c1] at h; simp at h
    rw [if_neg c1] at h
    have hm : 0 ≤ dgTo p.base (byt s at_) * w := Int.mul_nonneg (by omega) hw
    by_cases c2 : 2147483647 < i + dgTo p.base (byt s at_) * w
    · rw [if_pos c2] at h; simp at h
    rw [if_neg c2] at h
    by_cases c3 : dgTo p.base (byt s at_) < thr p k bias
    · rw [if_pos c3] at h
      simp at h
      omega
    rw [if_neg c3] at h
    by_cases c4 : 2147483647 < w * (p.base - thr p k bias)
    · rw [if_pos c4] at h; simp at h
    rw [if_neg c4] at h
    have hb : dgTo p.base (byt s at_) < p.base := by
      unfold dgTo at c1 ⊢
      split
      · assumption
      · rename_i q; rw [if_neg q] at c1; omega
    have := rdN_ok p s bias f (at_ + 1) _ _ _ x last h (Int.mul_nonneg hw (by omega)) (by omega)
    omega
theorem adF_bound (p : Bt) (hp : Okb p) (delta points : Int) (first : Bool) (h0 : 0 ≤ delta) (h1 : delta ≤ 4294967296) (h2 : 1 ≤ points) : 0 ≤ adF p delta points first ∧ adF p delta points first ≤ 10000 := by
  have Hb := ad0_bound (D := p.damp) first (by have := hp.d1; omega) h0 h1 h2
  obtain ⟨b1, b2, l1, l2, m1, m2, s1, s2, d1, d2, -, -, -, -, -, -⟩ := hp
  have hR := adR_bound (wd := p.base - p.least) (lim := ((p.base - p.least) * p.most).tdiv 2) (B := p.base) (by omega) (by omega) 64 (ad0 p.damp delta points first) 0 Hb.1
  unfold adF
  simp only
  generalize adR (p.base - p.least) (((p.base - p.least) * p.most).tdiv 2) p.base 64 (ad0 p.damp delta points first) 0 = R at *
  obtain ⟨r1, r2, r3, r4⟩ := hR
  have q0 : 0 ≤ (p.base - p.least + 1) * R.1 := Int.mul_nonneg (by omega) r1
  have q9 : (p.base - p.least + 1) * R.1 ≤ 37 * R.1 := Int.mul_le_mul_of_nonneg_right (by omega) r1
  have q1 : (p.base - p.least + 1) * R.1 ≤ 37 * (R.1 + p.skew) := by omega
  have q2 := Int.tdiv_nonneg q0 (show 0 ≤ R.1 + p.skew by omega)
  have q3 : ((p.base - p.least + 1) * R.1).tdiv (R.1 + p.skew) ≤ 37 := by
    rw [Int.tdiv_eq_ediv_of_nonneg q0]
    exact Int.le_trans (Int.ediv_le_ediv (by omega) q1) (by rw [Int.mul_ediv_cancel _ (by omega)]; omega)
  omega
/-- What is put in lies in what is there, and is a code point. -/
theorem rdL_ok (p : Bt) (s : ByteArray) : ∀ (f at_ : Nat) (n i bias : Int) (m : Nat) (ps : List (Int × Nat)), rdL p s f at_ n i bias m = .inr ps → 0 ≤ i → 1 ≤ n → at_ ≤ s.size → OkP m ps ∧ (∀ q ∈ ps, 1 ≤ q.1 ∧ q.1 ≤ 1114111) ∧ ps.length + at_ ≤ s.size
  | 0, at_, n, i, bias, m, ps, h, _, _, ha => by simp [rdL] at h; subst h; exact ⟨trivial, by simp, by simpa using ha⟩
  | f + 1, at_, n, i, bias, m, ps, h, hi, hn, ha => by
    rw [rdL] at h
    by_cases c : s.size ≤ at_
    · rw [if_pos c] at h; simp at h; subst h; exact ⟨trivial, by simp, by simpa using ha⟩
    rw [if_neg c] at h
    cases hr : rdN p s bias (s.size - at_) at_ i 1 p.base with
    | inl e => rw [hr] at h; simp at h
    | inr r =>
      obtain ⟨x, last⟩ := r
      have hk := rdN_ok p s bias _ _ _ _ _ _ _ hr (by omega) (by omega)
      rw [hr] at h
      simp only at h
      have hx0 : 0 ≤ x := by omega
      have hq := Int.ediv_nonneg hx0 (show 0 ≤ ((m + 1 : Nat) : Int) by omega)
      have hm0 := Int.emod_nonneg x (show ((m + 1 : Nat) : Int) ≠ 0 by omega)
      have hm1 := Int.emod_lt_of_pos x (show 0 < ((m + 1 : Nat) : Int) by omega)
      by_cases c1 : 1114111 < n + x / ((m + 1 : Nat) : Int)
      · rw [if_pos c1] at h; simp at h
      rw [if_neg c1] at h
      by_cases c2 : 55296 ≤ n + x / ((m + 1 : Nat) : Int) ∧ n + x / ((m + 1 : Nat) : Int) ≤ 57343
      · rw [if_pos c2] at h; simp at h
      rw [if_neg c2] at h
      cases hl : rdL p s f (last + 1) (n + x / ((m + 1 : Nat) : Int)) (x % ((m + 1 : Nat) : Int) + 1) (adF p (x - i) ((m + 1 : Nat) : Int) (i == 0)) (m + 1) with
      | inl e => rw [hl] at h; simp at h
      | inr l =>
        rw [hl] at h
        simp at h
        have ih := rdL_ok p s f (last + 1) _ _ _ (m + 1) l hl (by omega) (by omega) (by omega)
        subst h
        refine ⟨⟨by show (x % ((m + 1 : Nat) : Int)).toNat ≤ m; omega, ih.1⟩, ?_, by simp; omega⟩
        intro q hq2
        rcases List.mem_cons.1 hq2 with e | e
        · subst e; exact ⟨by show 1 ≤ n + x / ((m + 1 : Nat) : Int); omega, by show n + x / ((m + 1 : Nat) : Int) ≤ 1114111; omega⟩
        · exact ih.2.1 q e
/-- What is put in, as cells. -/
def putC (ps : List (Int × Nat)) : List Value := ps.flatMap fun q => [.int .i32 q.1, .int .i64 (q.2 : Int)]
def Pw (b : Nat) (w : World) (v : Value) (ps : List (Int × Nat)) : Prop := w.ownsRow b 76 2 v ps.length (putC ps)
theorem putC_at : ∀ (ps : List (Int × Nat)) (i : Nat) (q : Int × Nat), ps[i]? = some q → (putC ps)[i * 2]? = some (.int .i32 q.1) ∧ (putC ps)[i * 2 + 1]? = some (.int .i64 (q.2 : Int))
  | [], i, q, h => by simp at h
  | a :: l, 0, q, h => by simp at h; subst h; exact ⟨rfl, rfl⟩
  | a :: l, i + 1, q, h => by
    simp at h
    have := putC_at l i q h
    rw [show (i + 1) * 2 = i * 2 + 1 + 1 by omega]
    exact this
theorem Pw.rdp {b : Nat} {w : World} {v : Value} {ps : List (Int × Nat)} (h : Pw b w v ps) : RdP w v ps := by
  obtain ⟨a, c, rfl, hn⟩ := owns_slice h
  refine ⟨a, c, rfl, fun hp => ?_⟩
  obtain ⟨g, rfl⟩ := hn hp
  refine ⟨g, rfl, fun i q hq => ?_⟩
  obtain ⟨h1, h2⟩ := putC_at ps i q hq
  exact ⟨owns_cell h rfl _ _ h1, owns_cell h rfl _ _ h2⟩
/-- What reading answers. -/
def rdA (r : (Nat × Int) ⊕ List (Int × Nat)) (b : Nat) (e : Ending) (w : World) : Prop :=
  match r with
  | .inl (a, c) => e = .returned (.tuple #[.slice none 0 0, .int .i64 (a : Int), .int .i64 c])
  | .inr ps => ∃ v, e = .returned (.tuple #[v, .int .i64 0, .int .i64 0]) ∧ Pw b w v ps
/-- What was put in ahead, and what comes behind. -/
def rdJ (pre : List (Int × Nat)) : (Nat × Int) ⊕ List (Int × Nat) → (Nat × Int) ⊕ List (Int × Nat)
  | .inl e => .inl e
  | .inr l => .inr (pre ++ l)
end Go.Proofs.Ytahmeejcgddlhab
