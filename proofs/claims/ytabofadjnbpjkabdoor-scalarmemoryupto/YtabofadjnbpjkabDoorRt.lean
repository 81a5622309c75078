/-
  What is encoded decodes to the same; what is right encodes to the same. About texts alone: no program in it.
-/
import Derived.Test.YtabofadjnbpjkabDoorRe
import Derived.Test.YtabofadjnbpjkabDoorWr
namespace Go.Proofs.YtabofadjnbpjkabDoor
open Go.RowKit Go.Lib
/-- A well-formed sequence at the front. -/
theorem seq_right (m b0 b1 b2 b3 : Nat) (h : stN m b0 b1 b2 b3 = szN b0) : wrN m b0 b1 b2 b3 = false := (wr_not _ _ _ _ _).2 h
theorem ru_right (m b0 b1 b2 b3 : Nat) (h : wrN m b0 b1 b2 b3 = false) : ruN m b0 b1 b2 b3 = if szN b0 = 1 then b0 else if szN b0 = 2 then (b0 - 192) * 64 + (b1 - 128) else if szN b0 = 3 then (b0 - 224) * 4096 + (b1 - 128) * 64 + (b2 - 128) else (b0 - 240) * 262144 + (b1 - 128) * 4096 + (b2 - 128) * 64 + (b3 - 128) := by
  unfold ruN; rw [h]; simp
theorem dec1 (n m b1 b2 b3 : Nat) (h : n < 128) : stN m n b1 b2 b3 = 1 ∧ wrN m n b1 b2 b3 = false ∧ ruN m n b1 b2 b3 = n := by
  have hs : szN n = 1 := sz_of _ _ (.inl ⟨h, rfl⟩)
  have h1 : stN m n b1 b2 b3 = 1 := by unfold stN; rw [if_pos (by omega)]
  have h2 := seq_right m n b1 b2 b3 (by rw [h1, hs])
  exact ⟨h1, h2, by rw [ru_right _ _ _ _ _ h2, if_pos hs]⟩
theorem dec2 (n m b2 b3 : Nat) (h : 128 ≤ n) (h' : n < 2048) (hm : 2 ≤ m) : stN m (192 + n / 64) (128 + n % 64) b2 b3 = 2 ∧ wrN m (192 + n / 64) (128 + n % 64) b2 b3 = false ∧ ruN m (192 + n / 64) (128 + n % 64) b2 b3 = n := by
  have hs : szN (192 + n / 64) = 2 := sz_of _ _ (by omega)
  have hl : loN (192 + n / 64) = 128 := lo_of _ (by omega) (by omega)
  have hh : hiN (192 + n / 64) = 191 := hi_of _ (by omega) (by omega)
  have h1 : stN m (192 + n / 64) (128 + n % 64) b2 b3 = 2 := by
    unfold stN
    rw [if_neg (by omega), if_neg (by omega), if_pos (by omega)]
  have h2 := seq_right _ _ _ _ _ (h1.trans hs.symm)
  refine ⟨h1, h2, ?_⟩
  rw [ru_right _ _ _ _ _ h2, if_neg (by omega), if_pos hs]
  omega
theorem dec3 (n m b3 : Nat) (h : 2048 ≤ n) (h' : n < 65536) (hv : n < 55296 ∨ 57343 < n) (hm : 3 ≤ m) : stN m (224 + n / 4096) (128 + n / 64 % 64) (128 + n % 64) b3 = 3 ∧ wrN m (224 + n / 4096) (128 + n / 64 % 64) (128 + n % 64) b3 = false ∧ ruN m (224 + n / 4096) (128 + n / 64 % 64) (128 + n % 64) b3 = n := by
  have hs : szN (224 + n / 4096) = 3 := sz_of _ _ (by omega)
  have hl : loN (224 + n / 4096) ≤ 128 + n / 64 % 64 := by
    unfold loN
    repeat' split
    all_goals omega
  have hh : 128 + n / 64 % 64 ≤ hiN (224 + n / 4096) := by
    unfold hiN
    repeat' split
    all_goals omega
  have h1 : stN m (224 + n / 4096) (128 + n / 64 % 64) (128 + n % 64) b3 = 3 := by
    unfold stN
    repeat' split
    all_goals omega
  have h2 := seq_right _ _ _ _ _ (h1.trans hs.symm)
  refine ⟨h1, h2, ?_⟩
  rw [ru_right _ _ _ _ _ h2, if_neg (by omega), if_neg (by omega), if_pos hs]
  omega
theorem dec4 (n m : Nat) (h : 65536 ≤ n) (h' : n ≤ 1114111) (hm : 4 ≤ m) : stN m (240 + n / 262144) (128 + n / 4096 % 64) (128 + n / 64 % 64) (128 + n % 64) = 4 ∧ wrN m (240 + n / 262144) (128 + n / 4096 % 64) (128 + n / 64 % 64) (128 + n % 64) = false ∧ ruN m (240 + n / 262144) (128 + n / 4096 % 64) (128 + n / 64 % 64) (128 + n % 64) = n := by
  have hs : szN (240 + n / 262144) = 4 := sz_of _ _ (by omega)
  have hl : loN (240 + n / 262144) ≤ 128 + n / 4096 % 64 := by
    unfold loN
    repeat' split
    all_goals omega
  have hh : 128 + n / 4096 % 64 ≤ hiN (240 + n / 262144) := by
    unfold hiN
    repeat' split
    all_goals omega
  have h1 : stN m (240 + n / 262144) (128 + n / 4096 % 64) (128 + n / 64 % 64) (128 + n % 64) = 4 := by
    unfold stN
    repeat' split
    all_goals omega
  have h2 := seq_right _ _ _ _ _ (h1.trans hs.symm)
  refine ⟨h1, h2, ?_⟩
  rw [ru_right _ _ _ _ _ h2, if_neg (by omega), if_neg (by omega), if_neg (by omega)]
  omega
/-- The bytes of a text from a place on are these. -/
def Lies (s : ByteArray) (k : Nat) (l : List Int) : Prop := ∀ j, j < l.length → (byt s (k + j) : Int) = l.getD j 0
theorem Lies.head {s : ByteArray} {k : Nat} {a b : List Int} (h : Lies s k (a ++ b)) : Lies s k a := fun j hj => by
  rw [h j (by simp; omega)]
  simp [List.getD, List.getElem?_append_left hj]
theorem Lies.tail {s : ByteArray} {k : Nat} {a b : List Int} (h : Lies s k (a ++ b)) : Lies s (k + a.length) b := fun j hj => by
  have := h (a.length + j) (by simp; omega)
  rw [show k + a.length + j = k + (a.length + j) by omega, this]
  simp [List.getD, List.getElem?_append_right]
theorem piece_of (s : ByteArray) (k : Nat) (r : Int) (hv : Lib.validRune r = true) (hl : Lies s k (enc1 r)) (hs : k + (enc1 r).length ≤ s.size) : pSt s k = (enc1 r).length ∧ pWr s k = false ∧ (pRu s k : Int) = r := by
  have hr : (0 ≤ r ∧ r < 55296) ∨ (57343 < r ∧ r ≤ 1114111) := by simpa [Lib.validRune] using hv
  obtain ⟨n, rfl⟩ : ∃ n : Nat, r = n := ⟨r.toNat, by omega⟩
  unfold pSt pWr pRu
  by_cases h1 : (n : Int) < 128
  · have e : enc1 (n : Int) = [(n : Int)] := by unfold enc1; rw [if_pos h1]
    rw [e] at hl hs ⊢
    have q0 := hl 0 (by simp)
    simp [List.getD] at q0 hs ⊢
    rw [show byt s k = n by omega]
    have d := dec1 n (s.size - k) (byt s (k + 1)) (byt s (k + 2)) (byt s (k + 3)) (by omega)
    exact ⟨d.1, d.2.1, by rw [d.2.2]⟩
  · by_cases h2 : (n : Int) < 2048
    · have e : enc1 (n : Int) = [192 + (n : Int) / 64, 128 + (n : Int) % 64] := by unfold enc1; rw [if_neg h1, if_pos h2]
      rw [e] at hl hs ⊢
      have q0 := hl 0 (by simp)
      have q1 := hl 1 (by simp)
      simp [List.getD] at q0 q1 hs ⊢
      rw [show byt s k = 192 + n / 64 by omega, show byt s (k + 1) = 128 + n % 64 by omega]
      have d := dec2 n (s.size - k) (byt s (k + 2)) (byt s (k + 3)) (by omega) (by omega) (by omega)
      exact ⟨d.1, d.2.1, by rw [d.2.2]⟩
    · by_cases h3 : (n : Int) < 65536
      · have e : enc1 (n : Int) = [224 + (n : Int) / 4096, 128 + (n : Int) / 64 % 64, 128 + (n : Int) % 64] := by unfold enc1; rw [if_neg h1, if_neg h2, if_pos h3]
        rw [e] at hl hs ⊢
        have q0 := hl 0 (by simp)
        have q1 := hl 1 (by simp)
        have q2 := hl 2 (by simp)
        simp [List.getD] at q0 q1 q2 hs ⊢
        rw [show byt s k = 224 + n / 4096 by omega, show byt s (k + 1) = 128 + n / 64 % 64 by omega, show byt s (k + 2) = 128 + n % 64 by omega]
        have d := dec3 n (s.size - k) (byt s (k + 3)) (by omega) (by omega) (by omega) (by omega)
        exact ⟨d.1, d.2.1, by rw [d.2.2]⟩
      · have e : enc1 (n : Int) = [240 + (n : Int) / 262144, 128 + (n : Int) / 4096 % 64, 128 + (n : Int) / 64 % 64, 128 + (n : Int) % 64] := by unfold enc1; rw [if_neg h1, if_neg h2, if_neg h3]
        rw [e] at hl hs ⊢
        have q0 := hl 0 (by simp)
        have q1 := hl 1 (by simp)
        have q2 := hl 2 (by simp)
        have q3 := hl 3 (by simp)
        simp [List.getD] at q0 q1 q2 q3 hs ⊢
        rw [show byt s k = 240 + n / 262144 by omega, show byt s (k + 1) = 128 + n / 4096 % 64 by omega, show byt s (k + 2) = 128 + n / 64 % 64 by omega, show byt s (k + 3) = 128 + n % 64 by omega]
        have d := dec4 n (s.size - k) (by omega) (by omega) (by omega)
        exact ⟨d.1, d.2.1, by rw [d.2.2]⟩
theorem enc1_pos (r : Int) : 1 ≤ (enc1 r).length := by unfold enc1; repeat' split
                                                       all_goals simp
/-- A text that holds the bytes of scalar values from a place on reads as these from there. -/
theorem rt_from (s : ByteArray) : ∀ (zs : List Int) (k : Nat), (∀ r ∈ zs, Lib.validRune r = true) → Lies s k (encs zs) → s.size = k + (encs zs).length →
    (posAt s k).map (fun j => (pRu s j : Int)) = zs ∧ ∀ j ∈ posAt s k, pWr s j = false
  | [], k, _, _, hs => by
    rw [posAt_nil s k (by simp [encs] at hs; omega)]
    simp
  | z :: l, k, hv, hl, hs => by
    have e : encs (z :: l) = enc1 z ++ encs l := rfl
    rw [e] at hl hs
    rw [List.length_append] at hs
    have hp := enc1_pos z
    obtain ⟨p1, p2, p3⟩ := piece_of s k z (hv z (by simp)) hl.head (by omega)
    obtain ⟨i1, i2⟩ := rt_from s l (k + (enc1 z).length) (fun r hr => hv r (by simp [hr])) hl.tail (by omega)
    rw [posAt_cons s k (by omega), p1]
    refine ⟨by rw [List.map_cons, p3, i1], fun j hj => ?_⟩
    rcases List.mem_cons.1 hj with rfl | hj
    · exact p2
    · exact i2 j hj
theorem enc1_range (r : Int) (hv : Lib.validRune r = true) : ∀ x ∈ enc1 r, 0 ≤ x ∧ x < 256 := by
  have hr : (0 ≤ r ∧ r < 55296) ∨ (57343 < r ∧ r ≤ 1114111) := by simpa [Lib.validRune] using hv
  intro x hx
  unfold enc1 at hx
  repeat' split at hx
  all_goals (simp at hx; omega)
theorem encs_range (zs : List Int) (hv : ∀ r ∈ zs, Lib.validRune r = true) : ∀ x ∈ encs zs, 0 ≤ x ∧ x < 256 := by
  intro x hx
  obtain ⟨r, hr, hx⟩ := List.mem_flatMap.1 hx
  exact enc1_range r (hv r hr) x hx
theorem strOf_lies (l : List Int) (h : ∀ x ∈ l, 0 ≤ x ∧ x < 256) : Lies (strOfNums l) 0 l := fun j hj => by
  have hz : (strOfNums l).size = l.length := strOfNums_size l
  have hb := byt_eq (strOfNums l) j (by omega)
  have hx := h l[j] (List.getElem_mem hj)
  have e : ((strOfNums l)[j]'(by omega)) = UInt8.ofNat l[j].toNat := by
    show (strOfNums l).data[j]'(by have : (strOfNums l).data.size = l.length := hz; omega) = _
    simp [strOfNums]
  rw [e] at hb
  have e2 : (UInt8.ofNat l[j].toNat).toNat = l[j].toNat := by
    rw [UInt8.toNat_ofNat']
    omega
  rw [Nat.zero_add, ← hb, e2]
  simp only [List.getD, List.getElem?_eq_getElem hj, Option.getD_some]
  omega
/-- What is encoded decodes to the same, and nothing of it is wrong. -/
theorem rt_runes (zs : List Int) (hv : ∀ r ∈ zs, Lib.validRune r = true) : runesC (runesBytes zs) (poss (runesBytes zs)) = (zs.map fun z => Value.int .i32 z) ∧ wrongOf (runesBytes zs) (poss (runesBytes zs)) = -1 := by
  rw [runes_is zs hv]
  have hz : (strOfNums (encs zs)).size = 0 + (encs zs).length := by rw [strOfNums_size]; omega
  obtain ⟨h1, h2⟩ := rt_from (strOfNums (encs zs)) zs 0 hv (strOf_lies _ (encs_range zs hv)) hz
  refine ⟨?_, wrongOf_none _ _ h2⟩
  unfold runesC poss
  conv => rhs; rw [← h1]
  rw [List.map_map]
  rfl
end Go.Proofs.YtabofadjnbpjkabDoor
