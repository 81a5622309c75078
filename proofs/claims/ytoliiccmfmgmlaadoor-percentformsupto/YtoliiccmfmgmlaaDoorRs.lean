/-
  The contracts of the document's own functions on sets of bytes: with, from, Words. Conditions: places and bounds are bytes.
-/
import Derived.Test.YtoliiccmfmgmlaaDoorProg
import Derived.Test.YtoliiccmfmgmlaaDoorRow
import Derived.Test.YtoliiccmfmgmlaaDoorWd
import Derived.Test.YtoliiccmfmgmlaaDoorCel
import Derived.Test.YtoliiccmfmgmlaaDoorNm
import Derived.KernelRfl
namespace Go.Proofs.YtoliiccmfmgmlaaDoor
open Go.RowKit
/-- A byte of a text; 0 behind its end. -/
def byteAt (s : ByteArray) (j : Nat) : Nat := (s.data.toList.getD j 0).toNat
theorem byteAt_lt (s : ByteArray) (j : Nat) : byteAt s j < 256 := UInt8.toNat_lt _
theorem byteAt_eq (s : ByteArray) (k : Nat) (h : k < s.size) : byteAt s k = s[k].toNat := by
  have h' : k < s.data.toList.length := by simpa using h
  unfold byteAt
  rw [List.getD_eq_getElem?_getD, List.getElem?_eq_getElem h']
  rfl
/-- A set as a row of noughts and ones. -/
def b01 (p : Nat → Bool) (j : Nat) : Int := if p j then 1 else 0
theorem info35 : (Tryd.prog.info? 32).map (fun i => (i.zero, i.size)) = some (some (.agg (rowOf .u8 256 fun _ => 0)), 256) := by kernel_rfl
attribute [local go_sem] rowOf_size rowOf_set isRow_at isRow_past rowIn_at rowIn_past setRow_at setRow_past
attribute [local go_sem] st_at
/-- The set p with the first k bytes of a text besides. -/
def withTo (p : Nat → Bool) (s : ByteArray) (k : Nat) : Nat → Bool := fun j => p j || (List.range k).any fun i => j == byteAt s i
theorem withTo_zero (p : Nat → Bool) (s : ByteArray) : withTo p s 0 = p := by funext j; simp [withTo]
theorem withTo_succ (p : Nat → Bool) (s : ByteArray) (k : Nat) (j : Nat) : withTo p s (k + 1) j = (withTo p s k j || j == byteAt s k) := by
  simp [withTo, List.range_succ, Bool.or_assoc]
set_option maxRecDepth 100000 in
set_option maxHeartbeats 400000 in
theorem with_any (p : Nat → Bool) (s : ByteArray) (w : World) (hs : s.size ≤ maxLen) : Calls Tryd.prog 30 #[.agg (rowOf .u8 256 (b01 p)), .string s] w fun e w' => e = .returned (.agg (rowOf .u8 256 (b01 (withTo p s s.size)))) ∧ Below w.heap.size w w' := by
  unfold maxLen at hs
  obtain ⟨hz, hi⟩ := zero_of_info info35
  clear hi
  go_enter Tryd.func30, Tryd.ntmps30
  go_wp2_with fail
  go_loopw [5] (fun i wr => ∃ k : Nat, k ≤ s.size ∧ i = .int .i64 k ∧ wr = (w.alloc (.cells (rowOf .u8 256 (b01 (withTo p s k))) 32)).alloc (.cells (rowOf .u8 256 fun _ => 0) 32)) (fun i _ => s.size - (intOf i).toNat)
  case atStart => exact ⟨0, by omega, rfl, by rw [withTo_zero]⟩
  case round =>
    obtain ⟨k, hk, rfl, rfl⟩ := hrel
    by_cases hlt : k < s.size
    · have HB : Hid (byteAt s k = s[k].toNat) := byteAt_eq s k hlt
      have hbd : (s[k].toNat : Int) < 256 := by have := UInt8.toNat_lt s[k]; omega
      have hget := rowOf_get .u8 256 (b01 (withTo p s k)) s[k].toNat (UInt8.toNat_lt _)
      go_wp2
      refine ⟨⟨k + 1, by omega, by go_num, ?_⟩, by simp [intOf]; omega⟩
      refine congrArg (fun c => World.alloc (World.alloc w (.cells c 32)) _) (rowOf_congr .u8 256 _ _ fun i hi => ?_)
      unfold b01
      rw [withTo_succ, HB.out]
      by_cases e : i = s[k].toNat
      · simp [e]
      · have : (i == s[k].toNat) = false := beq_eq_false_iff_ne.2 e
        simp [e]
    · have e : k = s.size := by omega
      subst e
      go_wp2_with (refine wpList_ld rfl 32 _ rfl _ rfl 256 Tryd.underlying32 rfl (by kernel_rfl) (rowOf .u8 256 (b01 (withTo p s s.size))) ?_ ?_ ?_)
      case refine_1 => simp [isRow_past, isRow_at, rowOf_size]
      case refine_2 => simp [rowIn_past, rowIn_at]
      refine bodyPost_ret (v := .agg (rowOf .u8 256 (b01 (withTo p s s.size)))) (results_ld Tryd.results30 _ _ (w.heap.size + 1) 256 rfl Tryd.underlying32 rfl (by kernel_rfl) _ ?_ ?_) rfl ⟨rfl, ?_⟩
      · simp [isRow_at, rowOf_size]
      · simp [rowIn_at]
      · exact ((Below.refl _ _).alloc (by simp) _).alloc (by simp) _
/-- The set p with the bytes from a on, below k, besides. -/
def fromP (p : Nat → Bool) (a k : Nat) : Nat → Bool := fun j => p j || (decide (a ≤ j) && decide (j < k))
theorem fromP_zero (p : Nat → Bool) (a k : Nat) (h : k ≤ a) : fromP p a k = p := by
  funext j
  unfold fromP
  have : (decide (a ≤ j) && decide (j < k)) = false := by simp; omega
  rw [this, Bool.or_false]
theorem fromP_succ (p : Nat → Bool) (a k : Nat) (h : a ≤ k) (j : Nat) : fromP p a (k + 1) j = (fromP p a k j || j == k) := by
  unfold fromP
  rw [Bool.or_assoc]
  congr 1
  rw [Bool.eq_iff_iff]; simp; omega
set_option maxRecDepth 100000 in
set_option maxHeartbeats 400000 in
theorem from_any (p : Nat → Bool) (a b : Nat) (w : World) (_ha : a < 256) (hb : b < 256) : Calls Tryd.prog 29 #[.agg (rowOf .u8 256 (b01 p)), .int .i64 a, .int .i64 b] w fun e w' => e = .returned (.agg (rowOf .u8 256 (b01 (fromP p a (b + 1))))) ∧ Below w.heap.size w w' := by
  obtain ⟨hz, hi⟩ := zero_of_info info35
  clear hi
  go_enter Tryd.func29, Tryd.ntmps29
  go_wp2_with fail
  go_loopw [7] (fun i wr => ∃ k : Nat, a ≤ k ∧ (k ≤ b + 1 ∨ k = a) ∧ i = .int .i64 k ∧ wr = (w.alloc (.cells (rowOf .u8 256 (b01 (fromP p a k))) 32)).alloc (.cells (rowOf .u8 256 fun _ => 0) 32)) (fun i _ => 256 - (intOf i).toNat)
  case atStart => exact ⟨a, by omega, .inr rfl, rfl, by rw [fromP_zero p a a (Nat.le_refl _)]⟩
  case round =>
    obtain ⟨k, hka, hk, rfl, rfl⟩ := hrel
    by_cases hlt : k ≤ b
    · have hget := rowOf_get .u8 256 (b01 (fromP p a k)) k (by omega)
      go_wp2
      refine ⟨⟨k + 1, by omega, .inl (by omega), by go_num, ?_⟩, by simp [intOf]; omega⟩
      refine congrArg (fun c => World.alloc (World.alloc w (.cells c 32)) _) (rowOf_congr .u8 256 _ _ fun i hi => ?_)
      unfold b01
      rw [fromP_succ p a k hka]
      by_cases e : i = k
      · simp [e]
      · have : (i == k) = false := beq_eq_false_iff_ne.2 e
        simp [e]
    · have he : fromP p a k = fromP p a (b + 1) := by
        rcases hk with h | h
        · have : k = b + 1 := by omega
          rw [this]
        · rw [fromP_zero p a k (by omega), fromP_zero p a (b + 1) (by omega)]
      rw [he]
      clear he
      go_wp2_with (refine wpList_ld rfl 32 _ rfl _ rfl 256 Tryd.underlying32 rfl (by kernel_rfl) (rowOf .u8 256 (b01 (fromP p a (b + 1)))) ?_ ?_ ?_)
      case refine_1 => simp [isRow_past, isRow_at, rowOf_size]
      case refine_2 => simp [rowIn_past, rowIn_at]
      refine bodyPost_ret (v := .agg (rowOf .u8 256 (b01 (fromP p a (b + 1))))) (results_ld Tryd.results29 _ _ (w.heap.size + 1) 256 rfl Tryd.underlying32 rfl (by kernel_rfl) _ ?_ ?_) rfl ⟨rfl, ?_⟩
      · simp [isRow_at, rowOf_size]
      · simp [rowIn_at]
      · exact ((Below.refl _ _).alloc (by simp) _).alloc (by simp) _
end Go.Proofs.YtoliiccmfmgmlaaDoor
