/-
  The first place as a function; octet.Find by it; octet.All tells whether every byte is in the set. Condition: the text is no longer than a text can be.
-/
import Derived.Test.YtgfgkhgohoaneaaFind
namespace Go.Proofs.Ytgfgkhgohoaneaa
open Go.RowKit
/-- The first place from 'at' on, below n, where p is true; -1: there is none. -/
def firstOf (p : Nat → Bool) (n : Nat) (at_ : Int) : Int :=
  match (List.range n).find? (fun (j : Nat) => decide (at_ ≤ (j : Int)) && p j) with
  | some j => j
  | none => -1
theorem firstOf_is (p : Nat → Bool) (n : Nat) (at_ : Int) : IsFirst p n at_ (firstOf p n at_) := by
  unfold firstOf
  cases h : (List.range n).find? (fun (j : Nat) => decide (at_ ≤ (j : Int)) && p j) with
  | none =>
    refine .inl ⟨rfl, fun j h1 h2 => ?_⟩
    have := (List.find?_eq_none.1 h) j (List.mem_range.2 h1)
    simpa [h2] using this
  | some j =>
    obtain ⟨h1, la, lb, h2, h3⟩ := List.find?_eq_some_iff_append.1 h
    simp only [Bool.and_eq_true, decide_eq_true_eq] at h1
    have hm : j ∈ List.range n := List.mem_of_find?_eq_some h
    refine .inr ⟨j, rfl, List.mem_range.1 hm, h1.1, h1.2, fun i hi ha => ?_⟩
    have hjn := List.mem_range.1 hm
    have hlen : la.length = j := by
      have e : (List.range n)[la.length]? = some j := by rw [h2]; simp
      have hl : la.length < n := by have := congrArg List.length h2; simp at this; omega
      rw [List.getElem?_range hl] at e
      simpa using e
    have hmem : i ∈ la := by
      have e : (List.range n)[i]? = la[i]? := by rw [h2, List.getElem?_append_left (by omega)]
      rw [List.getElem?_range (by omega)] at e
      exact List.mem_of_getElem? e.symm
    have := h3 i hmem
    simpa [ha] using this
theorem IsFirst.is {p : Nat → Bool} {n : Nat} {at_ r : Int} (h : IsFirst p n at_ r) : r = firstOf p n at_ := h.one (firstOf_is p n at_)
theorem find_is (s : ByteArray) (X : Nat → Int) (fr : Int) (w : World) (hs : s.size ≤ maxLen) : Calls Try.prog 28 #[.string s, .agg #[.int .u64 (X 0), .int .u64 (X 1), .int .u64 (X 2), .int .u64 (X 3)], .int .i64 fr] w fun e w' => e = .returned (.int .i64 (firstOf (fun j => hasB X (byteAt s j)) s.size fr)) ∧ Below w.heap.size w w' := by
  refine (find_any s X fr w hs).mono ?_
  rintro e w' ⟨r, rfl, h, hb⟩
  exact ⟨by rw [h.is], hb⟩
set_option maxHeartbeats 400000 in
theorem all_is (s : ByteArray) (X : Nat → Int) (w : World) (hs : s.size ≤ maxLen) : Calls Try.prog 25 #[.string s, .agg #[.int .u64 (X 0), .int .u64 (X 1), .int .u64 (X 2), .int .u64 (X 3)]] w fun e w' => e = .returned (.bool ((List.range s.size).all fun j => hasB X (byteAt s j))) ∧ Below w.heap.size w w' := by
  unfold maxLen at hs
  go_enter Try.func25, Try.ntmps25
  go_wp2_with fail
  go_loopw [8] (fun i wr => ∃ k : Nat, k ≤ s.size ∧ i = .int .i64 k ∧ (∀ j : Nat, j < k → hasB X (byteAt s j) = true) ∧ Below (w.heap.size + 1) (w.alloc (.cells #[.int .u64 (X 0), .int .u64 (X 1), .int .u64 (X 2), .int .u64 (X 3)] 32)) wr) (fun i _ => s.size - (intOf i).toNat)
  case atStart => exact ⟨0, by omega, rfl, fun j h => by omega, Below.refl _ _⟩
  case round =>
    obtain ⟨k, hk, rfl, hno, hb⟩ := hrel
    by_cases hlt : k < s.size
    · obtain ⟨hc0, hc1, hc2, hc3⟩ := box4 hb
      have HB : Hid (byteAt s k = s[k].toNat) := byteAt_eq s k hlt
      have hd := four_below hb
      cases hq : hasB X s[k].toNat
      · go_wp2_with fail
        go_region_with (go_at_call 20; refine (has_any X _ _ (UInt8.toNat_lt _)).mono ?_; rintro e w' ⟨rfl, rfl⟩)
        all_goals
          go_wp2
          go_ret
          refine ⟨congrArg (fun r => Ending.returned (.bool r)) (Eq.symm ?_), ((Below.refl _ _).alloc (by simp) _).trans (hd.mono (by omega))⟩
          rw [List.all_eq_false]
          exact ⟨k, List.mem_range.2 hlt, by rw [HB.out, hq]; simp⟩
      · go_wp2_with fail
        go_region_with (go_at_call 20; refine (has_any X _ _ (UInt8.toNat_lt _)).mono ?_; rintro e w' ⟨rfl, rfl⟩)
        all_goals
          go_wp2
          refine ⟨⟨k + 1, by omega, by go_num, fun j h1 => ?_, hd⟩, by simp [intOf]; omega⟩
          by_cases e : j = k
          · rw [e, HB.out]; exact hq
          · exact hno j (by omega)
    · go_wp2
      go_ret
      refine ⟨congrArg (fun r => Ending.returned (.bool r)) (Eq.symm ?_), ((Below.refl _ _).alloc (by simp) _).trans (hb.mono (by omega))⟩
      rw [List.all_eq_true]
      intro j hj
      exact hno j (by have := List.mem_range.1 hj; omega)
end Go.Proofs.Ytgfgkhgohoaneaa
