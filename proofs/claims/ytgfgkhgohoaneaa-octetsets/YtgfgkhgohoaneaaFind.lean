/-
  The contract of octet.Find: it answers the first place, from the one that is asked on, of a byte of the set, -1 where there is none. Condition: the text is no longer than a text can be.
-/
import Derived.Test.YtgfgkhgohoaneaaHas
import Derived.Test.YtgfgkhgohoaneaaBys
import Derived.BigQuiet
import Derived.Deep.QuietTactic
import Derived.Deep.RegionWith
namespace Go.Proofs.Ytgfgkhgohoaneaa
open Go.RowKit
/-- r is the first place from 'at' on, below n, where p is true; -1: there is none. -/
def IsFirst (p : Nat → Bool) (n : Nat) (at_ r : Int) : Prop :=
  (r = -1 ∧ ∀ j : Nat, j < n → at_ ≤ j → p j = false) ∨ ∃ j : Nat, r = j ∧ j < n ∧ at_ ≤ j ∧ p j = true ∧ ∀ i : Nat, i < j → at_ ≤ i → p i = false
theorem IsFirst.one {p : Nat → Bool} {n : Nat} {at_ r r' : Int} (h : IsFirst p n at_ r) (h' : IsFirst p n at_ r') : r = r' := by
  rcases h with ⟨rfl, h⟩ | ⟨j, rfl, h1, h2, h3, h4⟩ <;> rcases h' with ⟨rfl, h'⟩ | ⟨j', rfl, h1', h2', h3', h4'⟩
  · rfl
  · have := h j' h1' h2'; simp_all
  · have := h' j h1 h2; simp_all
  · have a : ¬ j < j' := fun q => by have := h4' j q h2; simp_all
    have b : ¬ j' < j := fun q => by have := h4 j' q h2'; simp_all
    omega
theorem box4 {X : Nat → Int} {w wr : World} (hb : Below (w.heap.size + 1) (w.alloc (.cells #[.int .u64 (X 0), .int .u64 (X 1), .int .u64 (X 2), .int .u64 (X 3)] 32)) wr) :
    wr.cell? ⟨w.heap.size, 0, none⟩ = some (.int .u64 (X 0)) ∧ wr.cell? ⟨w.heap.size, 1, none⟩ = some (.int .u64 (X 1)) ∧ wr.cell? ⟨w.heap.size, 2, none⟩ = some (.int .u64 (X 2)) ∧ wr.cell? ⟨w.heap.size, 3, none⟩ = some (.int .u64 (X 3)) := by
  refine ⟨?_, ?_, ?_, ?_⟩ <;> (rw [hb.cell (by simp)]; simp [World.cell?_alloc_at])
theorem four_below {X : Nat → Int} {w wr : World} (hb : Below (w.heap.size + 1) (w.alloc (.cells #[.int .u64 (X 0), .int .u64 (X 1), .int .u64 (X 2), .int .u64 (X 3)] 32)) wr) : Below (w.heap.size + 1) (w.alloc (.cells #[.int .u64 (X 0), .int .u64 (X 1), .int .u64 (X 2), .int .u64 (X 3)] 32)) (wr.alloc (.cells #[.int .u64 (X 0), .int .u64 (X 1), .int .u64 (X 2), .int .u64 (X 3)] 32)).drew :=
  (hb.alloc (by have := hb.size; simp at this; omega) _).drew
set_option maxHeartbeats 400000 in
theorem find_any (s : ByteArray) (X : Nat → Int) (fr : Int) (w : World) (hs : s.size ≤ maxLen) : Calls Try.prog 28 #[.string s, .agg #[.int .u64 (X 0), .int .u64 (X 1), .int .u64 (X 2), .int .u64 (X 3)], .int .i64 fr] w fun e w' => ∃ r, e = .returned (.int .i64 r) ∧ IsFirst (fun j => hasB X (byteAt s j)) s.size fr r ∧ Below w.heap.size w w' := by
  unfold maxLen at hs
  go_enter Try.func28, Try.ntmps28
  go_wp2_with fail
  all_goals
    go_loopw [7] (fun i wr => ∃ k : Nat, fr ≤ k ∧ (k ≤ s.size ∨ k = fr.toNat) ∧ i = .int .i64 k ∧ (∀ j : Nat, j < k → fr ≤ j → hasB X (byteAt s j) = false) ∧ Below (w.heap.size + 1) (w.alloc (.cells #[.int .u64 (X 0), .int .u64 (X 1), .int .u64 (X 2), .int .u64 (X 3)] 32)) wr) (fun i _ => s.size - (intOf i).toNat)
    case atStart =>
      refine ⟨fr.toNat, by omega, .inr rfl, ?_, fun j h1 h2 => by omega, Below.refl _ _⟩
      simp; omega
    case round =>
      obtain ⟨k, hf, hk, rfl, hno, hb⟩ := hrel
      by_cases hlt : k < s.size
      · obtain ⟨hc0, hc1, hc2, hc3⟩ := box4 hb
        have hbk := byteAt_eq s k hlt
        have HB : Hid (byteAt s k = s[k].toNat) := hbk
        clear hbk
        have hd := four_below hb
        cases hq : hasB X s[k].toNat
        · go_wp2_with fail
          go_region_with (go_at_call 20; refine (has_any X _ _ (UInt8.toNat_lt _)).mono ?_; rintro e w' ⟨rfl, rfl⟩)
          all_goals
            go_wp2
            refine ⟨⟨k + 1, by omega, .inl (by omega), by go_num, fun j h1 h2 => ?_, hd⟩, by simp [intOf]; omega⟩
            by_cases e : j = k
            · rw [e, HB.out]; exact hq
            · exact hno j (by omega) h2
        · go_wp2_with fail
          go_region_with (go_at_call 20; refine (has_any X _ _ (UInt8.toNat_lt _)).mono ?_; rintro e w' ⟨rfl, rfl⟩)
          all_goals
            go_wp2
            go_ret
            refine ⟨k, rfl, .inr ⟨k, rfl, hlt, hf, ?_, hno⟩, ?_⟩
            · show hasB X (byteAt s k) = true
              rw [HB.out]; exact hq
            · exact ((Below.refl _ _).alloc (by simp) _).trans (hd.mono (by omega))
      · go_wp2_with fail
        go_ret
        refine ⟨-1, rfl, .inl ⟨rfl, fun j h1 h2 => hno j (by omega) h2⟩, ?_⟩
        exact ((Below.refl _ _).alloc (by simp) _).trans (hb.mono (by omega))
end Go.Proofs.Ytgfgkhgohoaneaa
