/-
  Plain arithmetic of percent coding there and back: what is coded by a set that has the sign in it is decoded to what it was; one byte put in another one's place, and back. No program is run here.
-/
import Derived.Test.YtoliiccmfmgmlaaDoorEc
namespace Go.Proofs.YtoliiccmfmgmlaaDoor
open Go
theorem coded_uns : ∀ b, b < 256 → uns ((⟨#[37]⟩ : ByteArray) ++ hexB b) = 0 := by decide +kernel
theorem raw_uns : ∀ b, b < 256 → ¬ b = 37 → uns (⟨#[UInt8.ofNat b]⟩ : ByteArray) = 0 := by decide +kernel
theorem coded_dec : ∀ b, b < 256 → (decB ((⟨#[37]⟩ : ByteArray) ++ hexB b)).data = #[UInt8.ofNat b] := by decide +kernel
theorem coded_no : ∀ b, b < 256 → ∀ j, j < 3 → ¬ byt ((⟨#[37]⟩ : ByteArray) ++ hexB b) j = 43 := by decide +kernel
theorem raw_byt : ∀ b, b < 256 → byt (⟨#[UInt8.ofNat b]⟩ : ByteArray) 0 = b := by decide +kernel
theorem e1_uns (p : Nat → Bool) (b : Nat) (hb : b < 256) (hp : p 37 = true) : uns (e1 p b) = 0 := by
  unfold e1
  by_cases h : p b = true
  · rw [if_pos h]; exact coded_uns b hb
  · rw [if_neg h]
    exact raw_uns b hb fun e => by subst e; exact h hp
theorem e1_dec (p : Nat → Bool) (b : Nat) (hb : b < 256) : decB (e1 p b) = ⟨#[UInt8.ofNat b]⟩ := by
  unfold e1
  by_cases h : p b = true
  · rw [if_pos h]; exact ByteArray.ext (coded_dec b hb)
  · rw [if_neg h]
    exact decB_short _ (by show (1 : Nat) < 3; omega)
theorem enc_front (p : Nat → Bool) (hp : p 37 = true) (s : ByteArray) : ∀ k, k ≤ s.size → uns (encT p s k) = 0 ∧ decB (encT p s k) = s.extract 0 k
  | 0, _ => by
    refine ⟨by show uns ⟨#[]⟩ = 0; decide +kernel, ?_⟩
    show decB ⟨#[]⟩ = _
    rw [decB_empty _ rfl]
    refine ext_byt _ _ (by simp; rfl) fun j hj => ?_
    exact absurd hj (Nat.not_lt_zero _)
  | k + 1, h => by
    obtain ⟨h1, h2⟩ := enc_front p hp s k (by omega)
    have hS : Sure (encT p s k) (e1 p (byt s k)) := .inl h1
    refine ⟨(uns_app _ _ hS).trans (e1_uns p _ (byt_lt s k) hp), ?_⟩
    show decB (encT p s k ++ e1 p (byt s k)) = _
    rw [decB_app _ _ hS, h2, e1_dec p _ (byt_lt s k)]
    have z1 : (s.extract 0 k).size = k := by simp; omega
    have z2 : (⟨#[UInt8.ofNat (byt s k)]⟩ : ByteArray).size = 1 := rfl
    refine ext_byt _ _ (by simp; omega) fun j hj => ?_
    have z3 : (s.extract 0 k ++ (⟨#[UInt8.ofNat (byt s k)]⟩ : ByteArray)).size = k + 1 := by simp; omega
    rw [byt_app, byt_front s (k + 1) j (by omega) (by omega)]
    by_cases e : j < k
    · rw [if_pos (by omega), byt_front s k j (by omega) e]
    · rw [if_neg (by omega), z1, show j - k = 0 by omega, raw_byt _ (byt_lt s k), show j = k by omega]
theorem dec_enc (p : Nat → Bool) (hp : p 37 = true) (s : ByteArray) : decB (encB p s) = s := by
  have := (enc_front p hp s s.size (Nat.le_refl _)).2
  rw [ByteArray.extract_zero_size] at this
  exact this
theorem e1_no (p : Nat → Bool) (h43 : p 43 = true) (b : Nat) (hb : b < 256) (j : Nat) (hj : j < (e1 p b).size) : ¬ byt (e1 p b) j = 43 := by
  unfold e1 at hj ⊢
  by_cases h : p b = true
  · rw [if_pos h] at hj ⊢; exact coded_no b hb j hj
  · rw [if_neg h] at hj ⊢
    have : j = 0 := by have : j < 1 := hj; omega
    subst this
    rw [raw_byt b hb]
    intro e; subst e; exact h h43
theorem enc_no (p : Nat → Bool) (h43 : p 43 = true) (s : ByteArray) : ∀ k j, j < (encT p s k).size → ¬ byt (encT p s k) j = 43
  | 0, j, hj => absurd hj (Nat.not_lt_zero _)
  | k + 1, j, hj => by
    have hz : (encT p s k ++ e1 p (byt s k)).size = (encT p s k).size + (e1 p (byt s k)).size := by simp
    have hj2 : j < (encT p s k ++ e1 p (byt s k)).size := hj
    show ¬ byt (encT p s k ++ e1 p (byt s k)) j = 43
    rw [byt_app]
    by_cases e : j < (encT p s k).size
    · rw [if_pos e]; exact enc_no p h43 s k j e
    · rw [if_neg e]; exact e1_no p h43 _ (byt_lt s k) _ (by omega)
/-- A text with the byte c wherever it has the byte a. -/
def swB (a c b : UInt8) : UInt8 := if b = a then c else b
def sw (a c : UInt8) (s : ByteArray) : ByteArray := ⟨s.data.map (swB a c)⟩
theorem sw_size (a c : UInt8) (s : ByteArray) : (sw a c s).size = s.size := by
  show (s.data.map (swB a c)).size = _
  simp
theorem sw_get (a c : UInt8) (s : ByteArray) (j : Nat) (h : j < s.size) : (sw a c s)[j]'(by rw [sw_size]; exact h) = swB a c s[j] := by
  have h' : j < (s.data.map (swB a c)).size := by rw [Array.size_map]; exact h
  exact (Array.getElem_map (f := swB a c) h').trans rfl
theorem sw_back (a c : UInt8) (s : ByteArray) (h : ∀ j, j < s.size → ¬ byt s j = c.toNat) : sw c a (sw a c s) = s := by
  apply ByteArray.ext
  apply Array.ext
  · show (sw c a (sw a c s)).size = s.size
    rw [sw_size, sw_size]
  · intro i h1 h2
    show (sw c a (sw a c s))[i]'h1 = s[i]'h2
    have hi : i < s.size := h2
    rw [sw_get c a (sw a c s) i (by rw [sw_size]; exact hi), sw_get a c s i hi]
    have hn := h i hi
    rw [← byt_eq s i hi] at hn
    unfold swB
    by_cases e : s[i] = a
    · rw [if_pos e, if_pos rfl, e]
    · rw [if_neg e, if_neg (fun q => hn (by rw [q]))]
end Go.Proofs.YtoliiccmfmgmlaaDoor
