/-
  What is printed is read back: the digits of a number, with noughts ahead or with great letters, say the number. No program is run here.
-/
import Derived.Test.YtgfgkhgohoaneaaDoorNc
import Derived.Test.YtgfgkhgohoaneaaDoorPr
import Derived.Test.YtgfgkhgohoaneaaDoorLow
namespace Go.Proofs.YtgfgkhgohoaneaaDoor
open Go.RowKit
/-- The number that digits say. -/
def num (b : Nat) (l : List Nat) : Nat := l.foldl (fun a d => a * b + d) 0
theorem num_snoc (b : Nat) (l : List Nat) (d : Nat) : num b (l ++ [d]) = num b l * b + d := by simp [num, List.foldl_append]
theorem num_noughts (b : Nat) (l : List Nat) : ∀ z, num b (List.replicate z 0 ++ l) = num b l
  | 0 => rfl
  | z + 1 => by
    have := num_noughts b l z
    unfold num at this ⊢
    rw [List.replicate_succ, List.cons_append, List.foldl_cons, Nat.zero_mul]
    exact this
theorem dgs_all (b n : Nat) (hb : 2 ≤ b) : (∀ d ∈ dgs b n, d < b) ∧ num b (dgs b n) = n ∧ dgs b n ≠ [] := by
  induction n using Nat.strongRecOn with
  | ind n ih =>
    by_cases h : n < b
    · rw [dgs_small b n h]
      refine ⟨fun d hd => ?_, by simp [num], by simp⟩
      simp at hd; omega
    · have hdv := ih (n / b) (Nat.div_lt_self (by omega) (by omega))
      rw [dgs_big b n hb (by omega)]
      refine ⟨fun d hd => ?_, ?_, by simp⟩
      · rcases List.mem_append.1 hd with h1 | h1
        · exact hdv.1 d h1
        · simp at h1; rw [h1]; exact Nat.mod_lt _ (by omega)
      · rw [num_snoc, hdv.2.1, Nat.mul_comm]; exact Nat.div_add_mod n b
/-- A text of digits: byte k says digit k. -/
def Says (T : ByteArray) (l : List Nat) : Prop := T.size = l.length ∧ ∀ k, k < l.length → hx (byt T k) = l.getD k 0
theorem Says.val {T : ByteArray} {l : List Nat} (h : Says T l) (b : Nat) : ∀ k, k ≤ l.length → val T b k = num b (l.take k)
  | 0, _ => rfl
  | k + 1, hk => by
    show Go.Proofs.YtgfgkhgohoaneaaDoor.val T b k * b + hx (byt T k) = _
    rw [h.val b k (by omega), h.2 k (by omega)]
    have e : l.take (k + 1) = l.take k ++ [l.getD k 0] := by
      rw [List.take_add_one]
      simp [List.getD, List.getElem?_eq_getElem (show k < l.length by omega)]
    rw [e, num_snoc]
theorem Says.num {T : ByteArray} {l : List Nat} (h : Says T l) (b n : Nat) (hb : 2 ≤ b ∧ b ≤ 36) (hl : l ≠ []) (hd : ∀ d ∈ l, d < b) (hv : Go.Proofs.YtgfgkhgohoaneaaDoor.num b l = n) (hn : n ≤ 18446744073709551615) : NumIs T b n 0 0 := by
  have hz : 0 < l.length := by
    cases l with
    | nil => exact absurd rfl hl
    | cons x l => simp
  have hD : Digs T b T.size := fun j hj => by
    have hj' : j < l.length := by rw [← h.1]; exact hj
    rw [h.2 j hj']
    exact hd _ (by simp [List.getD, List.getElem?_eq_getElem hj'])
  have hval : Go.Proofs.YtgfgkhgohoaneaaDoor.val T b T.size = n := by rw [h.1, h.val b l.length (Nat.le_refl _), List.take_length, hv]
  refine .inr (.inr (.inr (.inr ⟨by omega, by rw [h.1]; exact hz, hD, ?_, ?_, rfl, rfl⟩)))
  · show Go.Proofs.YtgfgkhgohoaneaaDoor.val T b T.size ≤ _; omega
  · exact hval.symm
theorem says_of (f : Nat → Nat) (l : List Nat) (hf : ∀ d, d < 36 → hx (f d) = d ∧ f d < 256) (hl : ∀ d ∈ l, d < 36) (T : ByteArray) (hT : T.data.toList = l.map fun d => UInt8.ofNat (f d)) : Says T l := by
  have hz : T.size = l.length := by
    have : T.data.toList.length = T.size := by rw [Array.length_toList]; rfl
    rw [← this, hT, List.length_map]
  refine ⟨hz, fun k hk => ?_⟩
  have hk' : k < T.size := by omega
  rw [← byt_eq T k hk']
  have e : T[k]'hk' = UInt8.ofNat (f l[k]) := by
    show T.data[k]'hk' = _
    have := List.getElem_of_eq hT (by rw [Array.length_toList]; exact hk')
    simpa using this
  have hm := hl l[k] (List.getElem_mem hk)
  have := hf _ hm
  rw [e]
  have e2 : (UInt8.ofNat (f l[k])).toNat = f l[k] := by simp; omega
  rw [e2, this.1]
  simp [List.getD, List.getElem?_eq_getElem hk]
theorem low_ok (d : Nat) (h : d < 36) : hx (lowC d) = d ∧ lowC d < 256 := ⟨hx_low d h, by unfold lowC; split <;> omega⟩
theorem upp_ok (d : Nat) (h : d < 36) : hx (uppC d) = d ∧ uppC d < 256 := ⟨hx_upp d h, by unfold uppC; split <;> omega⟩
theorem says_chs (l : List Nat) (hl : ∀ d ∈ l, d < 36) : Says (chs l) l := says_of lowC l low_ok hl _ (by simp [chs])
theorem upp_low : ∀ d, d < 36 → upp (lowC d) = uppC d := by decide +kernel
/-- The digits with great letters. -/
theorem upper_chs (l : List Nat) (hl : ∀ d ∈ l, d < 36) : Says (strOfNums ((List.range (chs l).size).map fun j => upp (byteAt (chs l) j))) l := by
  refine says_of uppC l upp_ok hl _ ?_
  have hz := chs_size l
  rw [strOfNums_data, hz]
  apply List.ext_getElem
  · simp
  · intro i h1 h2
    have hi : i < l.length := by simpa using h2
    have hd := hl l[i] (List.getElem_mem hi)
    have hb : byteAt (chs l) i = lowC l[i] := by
      have h3 := (low_ok _ hd).2
      unfold byteAt chs
      simp [List.getD, List.getElem?_eq_getElem hi]
      omega
    simp only [List.getElem_map, List.getElem_range]
    rw [hb, upp_low _ hd]
    simp
end Go.Proofs.YtgfgkhgohoaneaaDoor
