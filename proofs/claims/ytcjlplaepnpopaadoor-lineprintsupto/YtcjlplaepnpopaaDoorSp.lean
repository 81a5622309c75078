/-
  Plain arithmetic of percent coding: the parts of a text (a coded byte, a stray sign, a byte for itself), what each says, and that a text cut where nothing is unsure is read piece by piece. No program is run here.
-/
import Derived.Lib.DecodeNEq
namespace Go.Proofs.YtcjlplaepnpopaaDoor
open Go Go.Lib
/-- A byte of a text; 0 behind its end. -/
def byt (s : ByteArray) (j : Nat) : Nat := (s.get! j).toNat
theorem byt_lt (s : ByteArray) (j : Nat) : byt s j < 256 := UInt8.toNat_lt _
theorem byt_over (s : ByteArray) (j : Nat) (h : s.size ≤ j) : byt s j = 0 := by
  unfold byt
  cases s with
  | mk d =>
    show (d[j]!).toNat = 0
    rw [getElem!_neg d j (by have : d.size ≤ j := h; omega)]
    rfl
theorem byt_eq (s : ByteArray) (j : Nat) (h : j < s.size) : (s[j]'h).toNat = byt s j := by
  unfold byt
  cases s with
  | mk d =>
    show _ = (d[j]!).toNat
    rw [getElem!_pos d j h]
    rfl
theorem byt_extract (s : ByteArray) (a b j : Nat) (hb : b ≤ s.size) (h : a + j < b) : byt (s.extract a b) j = byt s (a + j) := by
  have hz : (s.extract a b).size = b - a := by simp; omega
  rw [← byt_eq _ _ (by omega), ← byt_eq s (a + j) (by omega)]
  congr 1
  simp [ByteArray.getElem_extract]
theorem byt_tail (s : ByteArray) (a j : Nat) : byt (s.extract a s.size) j = byt s (a + j) := by
  by_cases hj : a + j < s.size
  · exact byt_extract s a s.size j (Nat.le_refl _) hj
  · rw [byt_over, byt_over]
    · omega
    · simp; omega
theorem byt_front (s : ByteArray) (e j : Nat) (he : e ≤ s.size) (hj : j < e) : byt (s.extract 0 e) j = byt s j := by
  rw [byt_extract s 0 e j he (by omega), Nat.zero_add]
/-- What a byte says to the greatest base; 36: nothing. -/
def hx (b : Nat) : Nat := if 48 ≤ b ∧ b ≤ 57 then b - 48 else if 65 ≤ b ∧ b ≤ 90 then b - 55 else if 97 ≤ b ∧ b ≤ 122 then b - 87 else 36
theorem hx_le (b : Nat) : hx b ≤ 36 := by unfold hx; repeat' split
                                          all_goals omega
/-- Whether n bytes that begin with these begin with a coded byte. -/
def cdN (n b0 b1 b2 : Nat) : Bool := decide (3 ≤ n ∧ b0 = 37 ∧ hx b1 < 16 ∧ hx b2 < 16)
def cd (s : ByteArray) (k : Nat) : Bool := cdN (s.size - k) (byt s k) (byt s (k + 1)) (byt s (k + 2))
/-- What the part that begins at a byte says; whether it is a stray sign; how many bytes it has. -/
def sy (s : ByteArray) (k : Nat) : Nat := if cd s k = true then 16 * hx (byt s (k + 1)) + hx (byt s (k + 2)) else byt s k
def sr (s : ByteArray) (k : Nat) : Bool := !cd s k && byt s k == 37
def pz (s : ByteArray) (k : Nat) : Nat := if cd s k = true then 3 else 1
theorem cd_iff (s : ByteArray) (k : Nat) : cd s k = true ↔ (3 ≤ s.size - k ∧ byt s k = 37 ∧ hx (byt s (k + 1)) < 16 ∧ hx (byt s (k + 2)) < 16) := by simp [cd, cdN]
theorem pz_le (s : ByteArray) (k : Nat) (h : k < s.size) : 1 ≤ pz s k ∧ pz s k ≤ 3 ∧ k + pz s k ≤ s.size := by
  unfold pz
  by_cases hc : cd s k = true
  · have := (cd_iff s k).1 hc
    rw [if_pos hc]; omega
  · rw [if_neg hc]; omega
theorem sy_lt (s : ByteArray) (k : Nat) : sy s k < 256 := by
  unfold sy
  by_cases hc : cd s k = true
  · have := (cd_iff s k).1 hc
    rw [if_pos hc]; omega
  · rw [if_neg hc]; exact byt_lt s k
/-- Where the parts begin, from a byte on. -/
def posFrom (s : ByteArray) : Nat → Nat → List Nat
  | 0, _ => []
  | f + 1, k => if k < s.size then k :: posFrom s f (k + pz s k) else []
theorem posFrom_fuel (s : ByteArray) : ∀ (f g k : Nat), s.size - k ≤ f → s.size - k ≤ g → posFrom s f k = posFrom s g k
  | 0, 0, _, _, _ => rfl
  | 0, g + 1, k, h, _ => by simp [posFrom, show ¬ k < s.size by omega]
  | f + 1, 0, k, _, h => by simp [posFrom, show ¬ k < s.size by omega]
  | f + 1, g + 1, k, h, h' => by
    unfold posFrom
    by_cases hk : k < s.size
    · have := pz_le s k hk
      rw [if_pos hk, if_pos hk, posFrom_fuel s f g _ (by omega) (by omega)]
    · rw [if_neg hk, if_neg hk]
def posAt (s : ByteArray) (k : Nat) : List Nat := posFrom s (s.size - k) k
def poss (s : ByteArray) : List Nat := posAt s 0
theorem posAt_cons (s : ByteArray) (k : Nat) (h : k < s.size) : posAt s k = k :: posAt s (k + pz s k) := by
  have hp := pz_le s k h
  unfold posAt
  rw [show s.size - k = (s.size - k - 1) + 1 by omega]
  show (if k < s.size then k :: posFrom s (s.size - k - 1) (k + pz s k) else []) = _
  rw [if_pos h, posFrom_fuel s (s.size - k - 1) (s.size - (k + pz s k)) _ (by omega) (by omega)]
theorem posAt_nil (s : ByteArray) (k : Nat) (h : ¬ k < s.size) : posAt s k = [] := by
  unfold posAt
  cases hq : s.size - k with
  | zero => rfl
  | succ m => omega
theorem posAt_len (s : ByteArray) : ∀ (m k : Nat), s.size - k ≤ m → (posAt s k).length ≤ m
  | 0, k, h => by rw [posAt_nil s k (by omega)]; simp
  | m + 1, k, h => by
    by_cases hk : k < s.size
    · have hp := pz_le s k hk
      rw [posAt_cons s k hk]
      have := posAt_len s m (k + pz s k) (by omega)
      simp; omega
    · rw [posAt_nil s k hk]; simp
theorem poss_len (s : ByteArray) : (poss s).length ≤ s.size := posAt_len s s.size 0 (by omega)
theorem posAt_lt (s : ByteArray) : ∀ (m k : Nat), s.size - k ≤ m → ∀ j ∈ posAt s k, j < s.size
  | 0, k, h, j, hj => by rw [posAt_nil s k (by omega)] at hj; cases hj
  | m + 1, k, h, j, hj => by
    by_cases hk : k < s.size
    · have hp := pz_le s k hk
      rw [posAt_cons s k hk] at hj
      rcases List.mem_cons.1 hj with e | e
      · omega
      · exact posAt_lt s m (k + pz s k) (by omega) j e
    · rw [posAt_nil s k hk] at hj; cases hj
/-- What comes out, byte by byte; the strays. -/
def says (s : ByteArray) (l : List Nat) : List UInt8 := l.map fun k => UInt8.ofNat (sy s k)
def decB (s : ByteArray) : ByteArray := ⟨(says s (poss s)).toArray⟩
def strs (s : ByteArray) (l : List Nat) : List Int := (l.filter (sr s)).map fun (k : Nat) => (k : Int)
theorem decB_size (s : ByteArray) : (decB s).size = (poss s).length := by
  show (says s (poss s)).toArray.size = _
  simp [says]
theorem decB_le (s : ByteArray) : (decB s).size ≤ s.size := by rw [decB_size]; exact poss_len s
/-! Two texts, one behind the other. -/
theorem byt_app (a b : ByteArray) (k : Nat) : byt (a ++ b) k = if k < a.size then byt a k else byt b (k - a.size) := by
  by_cases h : k < a.size
  · rw [if_pos h, ← byt_eq a k h, ← byt_eq (a ++ b) k (by simp; omega)]
    congr 1
    exact ByteArray.getElem_append_left h
  · rw [if_neg h]
    by_cases h2 : k - a.size < b.size
    · rw [← byt_eq b _ h2, ← byt_eq (a ++ b) k (by simp; omega)]
      congr 1
      exact ByteArray.getElem_append_right (by omega)
    · rw [byt_over _ _ (by simp; omega), byt_over _ _ (by omega)]
/-- How many bytes at a text's end may become a coded byte by what comes behind. -/
def uns (s : ByteArray) : Nat :=
  if 1 ≤ s.size ∧ byt s (s.size - 1) = 37 then 1
  else if 2 ≤ s.size ∧ byt s (s.size - 2) = 37 ∧ hx (byt s (s.size - 1)) < 16 then 2 else 0
theorem uns_le (s : ByteArray) : uns s ≤ s.size := by
  unfold uns; repeat' split
  all_goals omega
/-- What comes behind a text makes no coded byte with its end. -/
def Sure (a b : ByteArray) : Prop := uns a = 0 ∨ byt b 0 = 37
theorem cd_front (a b : ByteArray) (h : Sure a b) (k : Nat) (hk : k < a.size) : cd (a ++ b) k = cd a k := by
  have e : (cd (a ++ b) k = true) ↔ (cd a k = true) := by
    rw [cd_iff, cd_iff]
    have hs : (a ++ b).size = a.size + b.size := by simp
    rw [hs, byt_app, byt_app, byt_app, if_pos hk]
    have h37 : hx 37 = 36 := by decide
    by_cases h2 : k + 2 < a.size
    · rw [if_pos (by omega : k + 1 < a.size), if_pos h2]; omega
    · refine ⟨fun ⟨q1, q2, q3, q4⟩ => ?_, fun q => by omega⟩
      exfalso
      rcases h with h | h
      · unfold uns at h
        by_cases e1 : k + 1 < a.size
        · rw [if_pos e1] at q3
          have e2 : a.size - 2 = k := by omega
          have e3 : a.size - 1 = k + 1 := by omega
          rw [e2, e3] at h
          by_cases c : 1 ≤ a.size ∧ byt a (k + 1) = 37
          · rw [c.2] at q3; omega
          · rw [if_neg c, if_pos ⟨by omega, q2, q3⟩] at h; omega
        · have e3 : a.size - 1 = k := by omega
          rw [e3, if_pos ⟨by omega, q2⟩] at h; omega
      · by_cases e1 : k + 1 < a.size
        · rw [if_neg h2, show k + 2 - a.size = 0 by omega, h] at q4; omega
        · rw [if_neg e1, show k + 1 - a.size = 0 by omega, h] at q3; omega
  cases h1 : cd (a ++ b) k <;> cases h2 : cd a k <;> simp_all
theorem byt_back (a b : ByteArray) (k : Nat) : byt (a ++ b) (a.size + k) = byt b k := by
  rw [byt_app, if_neg (by omega), show a.size + k - a.size = k by omega]
theorem cd_back (a b : ByteArray) (k : Nat) : cd (a ++ b) (a.size + k) = cd b k := by
  unfold cd
  have hs : (a ++ b).size = a.size + b.size := by simp
  rw [hs, Nat.add_assoc, Nat.add_assoc, byt_back, byt_back, byt_back, show a.size + b.size - (a.size + k) = b.size - k by omega]
theorem sy_front (a b : ByteArray) (h : Sure a b) (k : Nat) (hk : k < a.size) : sy (a ++ b) k = sy a k ∧ pz (a ++ b) k = pz a k := by
  unfold sy pz
  rw [cd_front a b h k hk]
  cases hc : cd a k
  · rw [byt_app a b k, if_pos hk]; simp
  · have := (cd_iff a k).1 hc
    rw [byt_app a b (k + 1), byt_app a b (k + 2), if_pos (by omega : k + 1 < a.size), if_pos (by omega : k + 2 < a.size)]; simp
theorem sy_back (a b : ByteArray) (k : Nat) : sy (a ++ b) (a.size + k) = sy b k ∧ pz (a ++ b) (a.size + k) = pz b k := by
  unfold sy pz
  rw [cd_back a b k, Nat.add_assoc, Nat.add_assoc, byt_back, byt_back, byt_back]
  exact ⟨rfl, rfl⟩
theorem says_back (a b : ByteArray) : ∀ (m k : Nat), b.size - k ≤ m → says (a ++ b) (posAt (a ++ b) (a.size + k)) = says b (posAt b k)
  | 0, k, h => by rw [posAt_nil _ _ (by simp; omega), posAt_nil _ _ (by omega)]; rfl
  | m + 1, k, h => by
    by_cases hk : k < b.size
    · have hp := pz_le b k hk
      rw [posAt_cons _ (a.size + k) (by simp; omega), posAt_cons b k hk]
      have e := sy_back a b k
      have ih := says_back a b m (k + pz b k) (by omega)
      unfold says at ih ⊢
      rw [List.map_cons, List.map_cons, e.1, e.2, Nat.add_assoc, ih]
    · rw [posAt_nil _ _ (by simp; omega), posAt_nil _ _ (by omega)]; rfl
theorem says_front (a b : ByteArray) (h : Sure a b) : ∀ (m k : Nat), a.size - k ≤ m → k ≤ a.size → says (a ++ b) (posAt (a ++ b) k) = says a (posAt a k) ++ says b (poss b)
  | 0, k, hm, hk => by
    have e : k = a.size + 0 := by omega
    rw [e, says_back a b b.size 0 (by omega), posAt_nil a _ (by omega)]; rfl
  | m + 1, k, hm, hk => by
    by_cases hk2 : k < a.size
    · have hp := pz_le a k hk2
      rw [posAt_cons _ k (by simp; omega), posAt_cons a k hk2]
      have e := sy_front a b h k hk2
      have ih := says_front a b h m (k + pz a k) (by omega) (by omega)
      unfold says at ih ⊢
      rw [List.map_cons, List.map_cons, e.1, e.2, ih]; rfl
    · have e : k = a.size + 0 := by omega
      rw [e, says_back a b b.size 0 (by omega), posAt_nil a _ (by omega)]; rfl
/-- What comes out of two texts, where the cut is sure. -/
theorem decB_app (a b : ByteArray) (h : Sure a b) : decB (a ++ b) = decB a ++ decB b := by
  have := says_front a b h a.size 0 (by omega) (by omega)
  unfold decB
  show (⟨(says (a ++ b) (posAt (a ++ b) 0)).toArray⟩ : ByteArray) = _
  rw [this]
  apply ByteArray.ext
  simp [poss]
end Go.Proofs.YtcjlplaepnpopaaDoor
