/-
  Any parameters: what the document writes.
-/
import Derived.Test.YtahmeejcgddlhabSc
import Derived.Deep.DeepMust
namespace Go.Proofs.Ytahmeejcgddlhab
open Go.RowKit
/-- Fuel for the digits of a number. -/
def fU : Nat := 10033
theorem pow31 (g : Nat) (h : 31 ≤ g) : (2147483648 : Int) ≤ 2 ^ g := by
  have := Nat.pow_le_pow_right (show 0 < 2 by decide) h
  have e : ((2 ^ g : Nat) : Int) = 2 ^ g := by simp
  rw [← e]; omega
/-- Fuel is enough. -/
def okQ (bias : Int) (f : Nat) (q k : Int) : Prop := (1 ≤ k - bias ∧ q < 2 ^ f) ∨ (k - bias < 1 ∧ q < 2147483648 ∧ bias - k + 33 ≤ (f : Int))
theorem okQ.step {p : Bt} (hp : Okb p) {bias : Int} {f : Nat} {q k T Q : Int} (h : okQ bias f q k) (hT : thr p k bias = T) (hq : T ≤ q) (h0 : 0 ≤ T) (hQ0 : 0 ≤ Q) (hQ : 2 * Q ≤ q - T) : ∃ g, f = g + 1 ∧ okQ bias g Q (k + p.base) := by
  have hb := hp.b1
  rcases h with ⟨h1, h2⟩ | ⟨h1, h2, h3⟩
  · have t1 : 1 ≤ T := by have := hp.m1; rw [← hT]; unfold thr; omega
    cases f with
    | zero => simp at h2; omega
    | succ g => exact ⟨g, rfl, .inl ⟨by omega, by rw [Int.pow_succ] at h2; omega⟩⟩
  · cases f with
    | zero => omega
    | succ g =>
      refine ⟨g, rfl, ?_⟩
      by_cases c : 1 ≤ k + p.base - bias
      · have := pow31 g (by omega)
        exact .inl ⟨c, by omega⟩
      · exact .inr ⟨by omega, by omega, by omega⟩
theorem okQ.start {bias q k : Int} (hb : 0 ≤ bias ∧ bias ≤ 10000) (hk : 0 ≤ k) (hq : q ≤ 2147483647) : okQ bias fU q k := by
  by_cases c : 1 ≤ k - bias
  · have := pow31 fU (by decide)
    exact .inl ⟨c, by omega⟩
  · have e : (fU : Int) = 10033 := rfl
    exact .inr ⟨by omega, by omega, by omega⟩
theorem numU_numF2 (p : Bt) (hp : Okb p) (bias : Int) : ∀ (f g : Nat) (q w k : Int) (ds : List Int), numF p bias g q w k = some ds → 0 ≤ q → okQ bias f q k → numU p bias (f + 1) q k = ds
  | f, 0, _, _, _, _, h, _, _ => by simp [numF] at h
  | f, g + 1, q, w, k, ds, h, h0, h1 => by
    have tb := thr_bound p hp k bias
    rw [numF] at h
    rw [numU]
    obtain ⟨T, hT⟩ : ∃ T, thr p k bias = T := ⟨_, rfl⟩
    rw [hT] at h tb ⊢
    by_cases c : q < T
    · rw [if_pos c] at h ⊢; simpa using h
    · rw [if_neg c] at h ⊢
      by_cases c2 : 2147483647 < w * (p.base - T)
      · rw [if_pos c2] at h; simp at h
      rw [if_neg c2] at h
      obtain ⟨n1, n2, n3, n4, n5⟩ := num_step (b := p.base) (t := T) (q := q) tb.1 (by omega) (by omega)
      generalize (q - T) % (p.base - T) = M at *
      generalize (q - T) / (p.base - T) = Q at *
      obtain ⟨f, rfl, h2⟩ := h1.step hp hT (by omega) tb.1 n3 n5
      cases hn : numF p bias g Q (w * (p.base - T)) (k + p.base) with
      | none => rw [hn] at h; simp at h
      | some d =>
        rw [hn] at h
        rw [numU_numF2 p hp bias f g Q (w * (p.base - T)) (k + p.base) d hn n3 h2]
        simpa using h
/-- A number that can't be written can't be read. -/
theorem rdN_bad2 (p : Bt) (hp : Okb p) (s : ByteArray) (bias : Int) : ∀ (f g at_ : Nat) (q w k i : Int), 0 ≤ q → okQ bias f q k → 1 ≤ w → w ≤ 2147483647 → 2147483647 < w * 2 ^ g → numF p bias g q w k = none ∨ 2147483647 < i + q * w → Says p s at_ (numU p bias (f + 1) q k) → ∃ a c, rdN p s bias (s.size - at_) at_ i w k = .inl (a, c)
  | f, 0, _, _, _, _, _, _, _, _, h4, h5, _, _ => by simp at h5; omega
  | f, g + 1, at_, q, w, k, i, h0, h1, h2, h3, h4, h5, hs => by
    have tb := thr_bound p hp k bias
    rw [numF] at h5
    rw [numU] at hs
    obtain ⟨T, hT⟩ : ∃ T, thr p k bias = T := ⟨_, rfl⟩
    rw [hT] at h5 tb hs
    by_cases c : q < T
    · rw [if_pos c] at h5 hs
      obtain ⟨s1, s2, -⟩ := hs.head
      rw [dgTo_ltr p hp q h0 (by omega)] at s2
      have h6 : 2147483647 < i + q * w := by rcases h5 with h | h; simp at h; exact h
      exact ⟨_, _, rdN_great p s bias at_ i w k q s1 s2 h0 h6⟩
    · rw [if_neg c] at h5 hs
      have S := stp_any p hp k bias T q w i hT (by omega) h2
      generalize (q - T) % (p.base - T) = M at *
      generalize (q - T) / (p.base - T) = Q at *
      obtain ⟨s1, s2, s3⟩ := hs.head
      rw [dgTo_ltr p hp _ S.d0 S.db] at s2
      by_cases c1 : 2147483647 < i + (T + M) * w
      · exact ⟨_, _, rdN_great p s bias at_ i w k (T + M) s1 s2 S.d0 c1⟩
      by_cases c2 : 2147483647 < w * (p.base - T)
      · exact ⟨_, _, rdN_wide p s bias at_ i w k (T + M) T hT s1 s2 S.d0 S.dT (by omega) c2⟩
      rw [if_neg c2] at h5
      rw [rdN_more p s bias at_ i w k (T + M) T hT s1 s2 S.d0 S.dT (by omega) (by omega)]
      obtain ⟨f, rfl, h6⟩ := h1.step hp hT (by omega) tb.1 S.q0 S.half
      refine rdN_bad2 p hp s bias f g (at_ + 1) Q (w * (p.base - T)) (k + p.base) (i + (T + M) * w) S.q0 h6 S.w1 (by omega) ?_ ?_ s3
      · rw [Int.pow_succ] at h4
        have e1 : w * (p.base - T) * 2 ^ g = w * ((p.base - T) * 2 ^ g) := Int.mul_assoc _ _ _
        have e2 : w * (2 ^ g * 2) ≤ w * ((p.base - T) * 2 ^ g) := Int.mul_le_mul_of_nonneg_left (by rw [Int.mul_comm]; exact Int.mul_le_mul_of_nonneg_right (by omega) (Int.pow_nonneg (by decide))) (by omega)
        omega
      · rw [S.sum]
        rcases h5 with h | h
        · left; simpa using h
        · right; exact h
theorem numU_dg2 (p : Bt) (hp : Okb p) (bias : Int) : ∀ (f : Nat) (q k : Int), 0 ≤ q → ∀ x ∈ numU p bias f q k, isDg p x
  | 0, _, _, _, x, hx => by simp [numU] at hx
  | f + 1, q, k, h0, x, hx => by
    have tb := thr_bound p hp k bias
    rw [numU] at hx
    obtain ⟨T, hT⟩ : ∃ T, thr p k bias = T := ⟨_, rfl⟩
    rw [hT] at hx tb
    by_cases c : q < T
    · rw [if_pos c] at hx
      simp at hx
      exact ⟨q, h0, by omega, hx⟩
    · rw [if_neg c] at hx
      obtain ⟨n1, n2, n3, n4, n5⟩ := num_step (b := p.base) (t := T) (q := q) tb.1 (by omega) (by omega)
      rcases List.mem_cons.1 hx with e | e
      · exact ⟨_, by omega, n2, e⟩
      · exact numU_dg2 p hp bias f _ _ n3 x e
/-- The digits of all that is not basic, as the document writes them; none: a delta is too great. -/
def encW (p : Bt) (zs : List Int) : List Int → Int → Int → Int → Nat → (Nat → Bool) → Bool → Option (List Int)
  | [], _, _, _, _, _, _ => some []
  | x :: os, n, i, bias, m, mk, first =>
    if 2147483647 < (KZ zs x - n) * ((m + 1 : Nat) : Int) + (cnt mk x.toNat : Int) - i then none else
    (encW p zs os (KZ zs x) ((cnt mk x.toNat : Int) + 1) (adF p ((KZ zs x - n) * ((m + 1 : Nat) : Int) + (cnt mk x.toNat : Int) - i) ((m + 1 : Nat) : Int) first) (m + 1) (setB mk x.toNat true) false).map (numU p bias (fU + 1) ((KZ zs x - n) * ((m + 1 : Nat) : Int) + (cnt mk x.toNat : Int) - i) p.base ++ ·)
/-- What can be written the document writes likewise. -/
theorem encW_encL (p : Bt) (hp : Okb p) (zs : List Int) : ∀ (os : List Int) (n i bias : Int) (m : Nat) (mk : Nat → Bool) (first : Bool) (D : List Int), encL p zs os n i bias m mk first = some D → EO zs os n i m mk → 0 ≤ bias ∧ bias ≤ 10000 → encW p zs os n i bias m mk first = some D
  | [], n, i, bias, m, mk, first, D, h, _, _ => h
  | x :: os, n, i, bias, m, mk, first, D, h, he, hbb => by
    have hb1 := hp.b1
    have hnx := he.next
    have hst := he.step
    have hi0 := he.i0
    rw [encL] at h
    rw [encW]
    obtain ⟨C, hC⟩ : ∃ C, KZ zs x = C := ⟨_, rfl⟩
    obtain ⟨P, hP⟩ : ∃ P, cnt mk x.toNat = P := ⟨_, rfl⟩
    simp only [hC, hP] at h hnx hst ⊢
    obtain ⟨NX, hNX⟩ : ∃ NX, (C - n) * ((m + 1 : Nat) : Int) + (P : Int) = NX := ⟨_, rfl⟩
    rw [hNX] at h hnx ⊢
    by_cases c : 2147483647 < NX
    · rw [if_pos c] at h; simp at h
    rw [if_neg c] at h
    rw [if_neg (by omega)]
    cases hn : numF p bias 31 (NX - i) 1 p.base with
    | none => rw [hn] at h; simp at h
    | some ds =>
      rw [hn] at h
      simp only at h
      cases hr : encL p zs os C ((P : Int) + 1) (adF p (NX - i) ((m + 1 : Nat) : Int) first) (m + 1) (setB mk x.toNat true) false with
      | none => rw [hr] at h; simp at h
      | some D2 =>
        rw [hr] at h
        rw [encW_encL p hp zs os _ _ _ _ _ _ D2 hr hst (adF_bound p hp _ _ _ (by omega) (by omega) (by omega)), numU_numF2 p hp bias fU 31 (NX - i) 1 p.base ds hn (by omega) (okQ.start hbb (by omega) (by omega))]
        exact h
/-- What can't be written can't be read, as the document writes it. -/
theorem rdL_bad2 (p : Bt) (hp : Okb p) (s : ByteArray) (zs : List Int) (hc : ∀ j, j < zs.length → okC (zs.getD j 0)) : ∀ (os : List Int) (n i bias : Int) (m : Nat) (mk : Nat → Bool) (first : Bool) (at_ f : Nat) (D : List Int), encL p zs os n i bias m mk first = none → encW p zs os n i bias m mk first = some D → EO zs os n i m mk → Says p s at_ D → at_ + D.length = s.size → first = (i == 0) → D.length ≤ f → 0 ≤ bias ∧ bias ≤ 10000 → ∃ a c, rdL p s f at_ n i bias m = .inl (a, c)
  | [], n, i, bias, m, mk, first, at_, f, D, h, _, _, _, _, _, _, _ => by simp [encL] at h
  | x :: os, n, i, bias, m, mk, first, at_, f, D, h, hu, he, hs, hz, hfi, hf, hbb => by
    have hb1 := hp.b1
    obtain ⟨x0, x1, x2⟩ := he.rng x (by simp)
    have hnx := he.next
    have hcx : okC (KZ zs x) := hc x.toNat (by omega)
    have hst := he.step
    have hcl := cnt_mono mk (show x.toNat ≤ zs.length by omega)
    rw [he.tot] at hcl
    have hi0 := he.i0
    rw [encL] at h
    rw [encW] at hu
    obtain ⟨C, hC⟩ : ∃ C, KZ zs x = C := ⟨_, rfl⟩
    obtain ⟨P, hP⟩ : ∃ P, cnt mk x.toNat = P := ⟨_, rfl⟩
    have sp := split_pos (c := C) (n := n) (M := m + 1) (P := P) (by omega)
    simp only [hC, hP] at h hu hnx hcx hst hcl
    obtain ⟨NX, hNX⟩ : ∃ NX, (C - n) * ((m + 1 : Nat) : Int) + (P : Int) = NX := ⟨_, rfl⟩
    rw [hNX] at h hu hnx sp
    by_cases c0 : 2147483647 < NX - i
    · rw [if_pos c0] at hu; simp at hu
    rw [if_neg c0] at hu
    cases hru : encW p zs os C ((P : Int) + 1) (adF p (NX - i) ((m + 1 : Nat) : Int) first) (m + 1) (setB mk x.toNat true) false with
    | none => rw [hru] at hu; simp at hu
    | some D2 =>
      rw [hru] at hu
      have e : D = numU p bias (fU + 1) (NX - i) p.base ++ D2 := by simpa using hu.symm
      subst e
      have hlen1 : 1 ≤ (numU p bias (fU + 1) (NX - i) p.base).length := by rw [numU]; split <;> simp
      have hlt := hs.left
      have hlt1 := hlt.1
      obtain ⟨f, rfl⟩ : ∃ g, f = g + 1 := ⟨f - 1, by rw [List.length_append] at hf; omega⟩
      rw [rdL, if_neg (by omega)]
      have hbad : numF p bias 31 (NX - i) 1 p.base = none ∨ 2147483647 < i + (NX - i) * 1 → ∃ a c, rdN p s bias (s.size - at_) at_ i 1 p.base = .inl (a, c) := fun q =>
        rdN_bad2 p hp s bias fU 31 at_ (NX - i) 1 p.base i (by omega) (okQ.start hbb (by omega) (by omega)) (by omega) (by omega) (by decide) q hlt
      by_cases c : 2147483647 < NX
      · obtain ⟨a, cc, e⟩ := hbad (.inr (by omega))
        rw [e]; exact ⟨a, cc, rfl⟩
      rw [if_neg c] at h
      cases hn : numF p bias 31 (NX - i) 1 p.base with
      | none =>
        obtain ⟨a, cc, e⟩ := hbad (.inl hn)
        rw [e]; exact ⟨a, cc, rfl⟩
      | some ds =>
        rw [hn] at h
        simp only at h
        have hnu := numU_numF2 p hp bias fU 31 (NX - i) 1 p.base ds hn (by omega) (okQ.start hbb (by omega) (by omega))
        rw [hnu] at hs hz hf hlt
        have hrn : encL p zs os C ((P : Int) + 1) (adF p (NX - i) ((m + 1 : Nat) : Int) first) (m + 1) (setB mk x.toNat true) false = none := by simpa using h
        obtain ⟨r1, r2⟩ := rdN_numF p hp s bias 31 at_ (NX - i) 1 p.base i ds hn (by omega) (by omega) (by omega) hlt
        rw [show i + (NX - i) * 1 = NX by omega] at r1
        rw [List.length_append] at hz hf
        rw [r1]
        simp only
        rw [sp.1, sp.2, if_neg (by have := hcx.2.1; omega), if_neg hcx.2.2, ← hfi]
        have hs2 := hs.right
        rw [show at_ + ds.length = at_ + ds.length - 1 + 1 by omega] at hs2
        obtain ⟨a, cc, e⟩ := rdL_bad2 p hp s zs hc os C ((P : Int) + 1) _ (m + 1) _ false (at_ + ds.length - 1 + 1) f D2 hrn hru hst hs2 (by omega) (by symm; simp; omega) (by omega) (adF_bound p hp _ _ _ (by omega) (by omega) (by omega))
        rw [e]; exact ⟨a, cc, rfl⟩
/-- A text of what can't be written says nothing. -/
theorem dec_bad2 (p : Bt) (hp : Okb p) (s : ByteArray) (zs os D : List Int) (hc : ∀ j, j < zs.length → okC (zs.getD j 0)) (hs : SrtL (KZ zs) (osL p zs zs.length) os) (hv : ∀ j, j < zs.length → isB p (zs.getD j 0) = false → p.first ≤ zs.getD j 0) (h : Txt p s (bsL p zs zs.length) D) (he : encL p zs os p.first 0 p.bias (bsL p zs zs.length).length (mkB p zs zs.length) true = none) (hu : encW p zs os p.first 0 p.bias (bsL p zs zs.length).length (mkB p zs zs.length) true = some D) : ∃ a c, decS p s = .inl (a, c) := by
  rw [h.decS (bsL_basic p zs _)]
  obtain ⟨a, c, e⟩ := rdL_bad2 p hp s zs hc os p.first 0 p.bias _ _ true (offN (bsL p zs zs.length)) D.length D he hu (EO.start p zs os hs hv) ⟨by rw [h.size]; exact Nat.le_refl _, h.says⟩ h.size.symm rfl (Nat.le_refl _) ⟨hp.i1, hp.i2⟩
  rw [e]; exact ⟨a, c, rfl⟩
theorem encW_dg (p : Bt) (hp : Okb p) (zs : List Int) : ∀ (os : List Int) (n i bias : Int) (m : Nat) (mk : Nat → Bool) (first : Bool) (D : List Int), encW p zs os n i bias m mk first = some D → EO zs os n i m mk → ∀ x ∈ D, isDg p x
  | [], n, i, bias, m, mk, first, D, h, _, x, hx => by
    rw [encW] at h
    have e : D = [] := by simpa using h.symm
    subst e; simp at hx
  | y :: os, n, i, bias, m, mk, first, D, h, he, x, hx => by
    rw [encW] at h
    split at h
    · simp at h
    · cases hr : encW p zs os (KZ zs y) ((cnt mk y.toNat : Int) + 1) (adF p ((KZ zs y - n) * ((m + 1 : Nat) : Int) + (cnt mk y.toNat : Int) - i) ((m + 1 : Nat) : Int) first) (m + 1) (setB mk y.toNat true) false with
      | none => rw [hr] at h; simp at h
      | some D2 =>
        rw [hr] at h
        simp only [Option.map_some, Option.some.injEq] at h
        rw [← h] at hx
        rcases List.mem_append.1 hx with e | e
        · exact numU_dg2 p hp bias (fU + 1) _ _ (by have := he.next; omega) x e
        · exact encW_dg p hp zs os _ _ _ _ _ _ D2 hr he.step x e
end Go.Proofs.Ytahmeejcgddlhab
