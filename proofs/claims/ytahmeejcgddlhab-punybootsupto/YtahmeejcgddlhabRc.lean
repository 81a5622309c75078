/-
  All that was written is read, and what can't be written can't be read.
-/
import Derived.Test.YtahmeejcgddlhabRa
import Derived.Test.YtahmeejcgddlhabRb
namespace Go.Proofs.Ytahmeejcgddlhab
open Go.RowKit
/-- What is asked of a code point that is written. -/
def okC (c : Int) : Prop := 0 ≤ c ∧ c ≤ 1114111 ∧ ¬ (55296 ≤ c ∧ c ≤ 57343)
theorem split_pos {c n : Int} {M P : Nat} (hP : P < M) : n + ((c - n) * (M : Int) + (P : Int)) / (M : Int) = c ∧ ((c - n) * (M : Int) + (P : Int)) % (M : Int) = (P : Int) := by
  have h1 : ((c - n) * (M : Int) + (P : Int)) / (M : Int) = c - n := by
    rw [Int.add_comm, Int.add_mul_ediv_right _ _ (by omega), Int.ediv_eq_zero_of_lt (by omega) (by omega)]; omega
  have h2 : ((c - n) * (M : Int) + (P : Int)) % (M : Int) = (P : Int) := by
    rw [Int.add_comm, Int.add_mul_emod_self_right, Int.emod_eq_of_lt (by omega) (by omega)]
  exact ⟨by omega, h2⟩
theorem int_zero_add (x : Int) : x * 1 = x := Int.mul_one x
/-- All that was written is read. -/
theorem rdL_encL (p : Bt) (hp : Okb p) (s : ByteArray) (zs : List Int) (hc : ∀ j, j < zs.length → okC (zs.getD j 0)) : ∀ (os : List Int) (n i bias : Int) (m : Nat) (mk : Nat → Bool) (first : Bool) (at_ f : Nat) (D : List Int), encL p zs os n i bias m mk first = some D → EO zs os n i m mk → Says p s at_ D → at_ + D.length = s.size → first = (i == 0) → D.length ≤ f → rdL p s f at_ n i bias m = .inr (putL zs os mk)
  | [], n, i, bias, m, mk, first, at_, f, D, h, _, _, hs, _, hf => by
    rw [encL] at h
    have e : D = [] := by simpa using h.symm
    subst e
    simp at hs
    cases f with
    | zero => rfl
    | succ f => rw [rdL, if_pos (by omega)]; rfl
  | x :: os, n, i, bias, m, mk, first, at_, f, D, h, he, hs, hz, hfi, hf => by
    obtain ⟨x0, x1, x2⟩ := he.rng x (by simp)
    have hnx := he.next
    have hge := (he.ge x (by simp)).1
    have hcx : okC (KZ zs x) := hc x.toNat (by omega)
    have hst := he.step
    have hcl := cnt_mono mk (show x.toNat ≤ zs.length by omega)
    rw [he.tot] at hcl
    have hi0 := he.i0
    rw [encL] at h
    obtain ⟨C, hC⟩ : ∃ C, KZ zs x = C := ⟨_, rfl⟩
    obtain ⟨P, hP⟩ : ∃ P, cnt mk x.toNat = P := ⟨_, rfl⟩
    have sp := split_pos (c := C) (n := n) (M := m + 1) (P := P) (by omega)
    rw [putL]
    simp only [hC, hP] at h hnx hge hcx hst hcl ⊢
    obtain ⟨NX, hNX⟩ : ∃ NX, (C - n) * ((m + 1 : Nat) : Int) + (P : Int) = NX := ⟨_, rfl⟩
    rw [hNX] at h hnx sp
    by_cases c : 2147483647 < NX
    · rw [if_pos c] at h; simp at h
    rw [if_neg c] at h
    cases hn : numF p bias 31 (NX - i) 1 p.base with
    | none => rw [hn] at h; simp at h
    | some ds =>
      rw [hn] at h
      simp only at h
      cases hr : encL p zs os C ((P : Int) + 1) (adF p (NX - i) ((m + 1 : Nat) : Int) first) (m + 1) (setB mk x.toNat true) false with
      | none => rw [hr] at h; simp at h
      | some D2 =>
        rw [hr] at h
        have e : D = ds ++ D2 := by simpa using h.symm
        subst e
        obtain ⟨r1, r2⟩ := rdN_numF p hp s bias 31 at_ (NX - i) 1 p.base i ds hn (by omega) (by omega) (by omega) hs.left
        rw [show i + (NX - i) * 1 = NX by omega] at r1
        rw [List.length_append] at hz hf
        obtain ⟨f, rfl⟩ : ∃ g, f = g + 1 := ⟨f - 1, by omega⟩
        rw [rdL, if_neg (by omega), r1]
        simp only
        rw [sp.1, sp.2, if_neg (by have := hcx.2.1; omega), if_neg hcx.2.2, ← hfi]
        have hs2 := hs.right
        rw [show at_ + ds.length = at_ + ds.length - 1 + 1 by omega] at hs2
        rw [rdL_encL p hp s zs hc os C ((P : Int) + 1) _ (m + 1) _ false (at_ + ds.length - 1 + 1) f D2 hr hst hs2 (by omega) (by symm; simp; omega) (by omega)]
        simp
/-- The digits of all that is not basic, as the document writes them; none: a delta is too great. -/
def encU (p : Bt) (zs : List Int) : List Int → Int → Int → Int → Nat → (Nat → Bool) → Bool → Option (List Int)
  | [], _, _, _, _, _, _ => some []
  | x :: os, n, i, bias, m, mk, first =>
    if 2147483647 < (KZ zs x - n) * ((m + 1 : Nat) : Int) + (cnt mk x.toNat : Int) - i then none else
    (encU p zs os (KZ zs x) ((cnt mk x.toNat : Int) + 1) (adF p ((KZ zs x - n) * ((m + 1 : Nat) : Int) + (cnt mk x.toNat : Int) - i) ((m + 1 : Nat) : Int) first) (m + 1) (setB mk x.toNat true) false).map (numU p bias 32 ((KZ zs x - n) * ((m + 1 : Nat) : Int) + (cnt mk x.toNat : Int) - i) p.base ++ ·)
/-- What can be written the document writes likewise. -/
theorem encU_encL (p : Bt) (hp : Okb p) (hl : 1 ≤ p.least) (zs : List Int) : ∀ (os : List Int) (n i bias : Int) (m : Nat) (mk : Nat → Bool) (first : Bool) (D : List Int), encL p zs os n i bias m mk first = some D → EO zs os n i m mk → encU p zs os n i bias m mk first = some D
  | [], n, i, bias, m, mk, first, D, h, _ => h
  | x :: os, n, i, bias, m, mk, first, D, h, he => by
    have hnx := he.next
    have hst := he.step
    have hi0 := he.i0
    rw [encL] at h
    rw [encU]
    obtain ⟨C, hC⟩ : ∃ C, KZ zs x = C := ⟨_, rfl⟩
    obtain ⟨P, hP⟩ : ∃ P, cnt mk x.toNat = P := ⟨_, rfl⟩
    simp only [hC, hP] at h hnx hst ⊢
    obtain ⟨NX, hNX⟩ : ∃ NX, (C - n) * ((m + 1 : Nat) : Int) + (P : Int) = NX := ⟨_, rfl⟩
    rw [hNX] at h hnx ⊢
    by_cases c : 2147483647 < NX
    · rw [if_pos c] at h; simp at h
    rw [if_neg c] at h
    rw [if_neg (by omega)]
    cases hn : numF p bias 31 (NX - i) 1 p.base with
    | none => rw [hn] at h; simp at h
    | some ds =>
      rw [hn] at h
      simp only at h
      cases hr : encL p zs os C ((P : Int) + 1) (adF p (NX - i) ((m + 1 : Nat) : Int) first) (m + 1) (setB mk x.toNat true) false with
      | none => rw [hr] at h; simp at h
      | some D2 =>
        rw [hr] at h
        rw [encU_encL p hp hl zs os _ _ _ _ _ _ D2 hr hst, numU_numF p hp hl bias 31 31 (NX - i) 1 p.base ds hn (by omega) (by omega)]
        exact h
/-- What can't be written can't be read, as the document writes it. -/
theorem rdL_bad (p : Bt) (hp : Okb p) (hl : 1 ≤ p.least) (s : ByteArray) (zs : List Int) (hc : ∀ j, j < zs.length → okC (zs.getD j 0)) : ∀ (os : List Int) (n i bias : Int) (m : Nat) (mk : Nat → Bool) (first : Bool) (at_ f : Nat) (D : List Int), encL p zs os n i bias m mk first = none → encU p zs os n i bias m mk first = some D → EO zs os n i m mk → Says p s at_ D → at_ + D.length = s.size → first = (i == 0) → D.length ≤ f → ∃ a c, rdL p s f at_ n i bias m = .inl (a, c)
  | [], n, i, bias, m, mk, first, at_, f, D, h, _, _, _, _, _, _ => by simp [encL] at h
  | x :: os, n, i, bias, m, mk, first, at_, f, D, h, hu, he, hs, hz, hfi, hf => by
    obtain ⟨x0, x1, x2⟩ := he.rng x (by simp)
    have hnx := he.next
    have hcx : okC (KZ zs x) := hc x.toNat (by omega)
    have hst := he.step
    have hcl := cnt_mono mk (show x.toNat ≤ zs.length by omega)
    rw [he.tot] at hcl
    have hi0 := he.i0
    rw [encL] at h
    rw [encU] at hu
    obtain ⟨C, hC⟩ : ∃ C, KZ zs x = C := ⟨_, rfl⟩
    obtain ⟨P, hP⟩ : ∃ P, cnt mk x.toNat = P := ⟨_, rfl⟩
    have sp := split_pos (c := C) (n := n) (M := m + 1) (P := P) (by omega)
    simp only [hC, hP] at h hu hnx hcx hst hcl
    obtain ⟨NX, hNX⟩ : ∃ NX, (C - n) * ((m + 1 : Nat) : Int) + (P : Int) = NX := ⟨_, rfl⟩
    rw [hNX] at h hu hnx sp
    by_cases c0 : 2147483647 < NX - i
    · rw [if_pos c0] at hu; simp at hu
    rw [if_neg c0] at hu
    cases hru : encU p zs os C ((P : Int) + 1) (adF p (NX - i) ((m + 1 : Nat) : Int) first) (m + 1) (setB mk x.toNat true) false with
    | none => rw [hru] at hu; simp at hu
    | some D2 =>
      rw [hru] at hu
      have e : D = numU p bias 32 (NX - i) p.base ++ D2 := by simpa using hu.symm
      subst e
      have hlen1 : 1 ≤ (numU p bias 32 (NX - i) p.base).length := by rw [numU]; split <;> simp
      have hlt := hs.left
      have hlt1 := hlt.1
      obtain ⟨f, rfl⟩ : ∃ g, f = g + 1 := ⟨f - 1, by rw [List.length_append] at hf; omega⟩
      rw [rdL, if_neg (by omega)]
      have hbad : numF p bias 31 (NX - i) 1 p.base = none ∨ 2147483647 < i + (NX - i) * 1 → ∃ a c, rdN p s bias (s.size - at_) at_ i 1 p.base = .inl (a, c) := fun q =>
        rdN_bad p hp hl s bias 31 31 at_ (NX - i) 1 p.base i (by omega) (by omega) (by omega) (by omega) (by decide) q hlt
      by_cases c : 2147483647 < NX
      · obtain ⟨a, cc, e⟩ := hbad (.inr (by omega))
        rw [e]; exact ⟨a, cc, rfl⟩
      rw [if_neg c] at h
      cases hn : numF p bias 31 (NX - i) 1 p.base with
      | none =>
        obtain ⟨a, cc, e⟩ := hbad (.inl hn)
        rw [e]; exact ⟨a, cc, rfl⟩
      | some ds =>
        rw [hn] at h
        simp only at h
        have hnu := numU_numF p hp hl bias 31 31 (NX - i) 1 p.base ds hn (by omega) (by omega)
        rw [hnu] at hs hz hf hlt
        have hrn : encL p zs os C ((P : Int) + 1) (adF p (NX - i) ((m + 1 : Nat) : Int) first) (m + 1) (setB mk x.toNat true) false = none := by simpa using h
        obtain ⟨r1, r2⟩ := rdN_numF p hp s bias 31 at_ (NX - i) 1 p.base i ds hn (by omega) (by omega) (by omega) hlt
        rw [show i + (NX - i) * 1 = NX by omega] at r1
        rw [List.length_append] at hz hf
        rw [r1]
        simp only
        rw [sp.1, sp.2, if_neg (by have := hcx.2.1; omega), if_neg hcx.2.2, ← hfi]
        have hs2 := hs.right
        rw [show at_ + ds.length = at_ + ds.length - 1 + 1 by omega] at hs2
        obtain ⟨a, cc, e⟩ := rdL_bad p hp hl s zs hc os C ((P : Int) + 1) _ (m + 1) _ false (at_ + ds.length - 1 + 1) f D2 hrn hru hst hs2 (by omega) (by symm; simp; omega) (by omega)
        rw [e]; exact ⟨a, cc, rfl⟩
end Go.Proofs.Ytahmeejcgddlhab
