/-
  The contracts of Of, the program's and the document's (the classes of all bytes of a text put together: the same number), of Fold, and of awake. Condition: the text takes no more bytes than a text that comes in can.
-/
import Derived.Test.YtgfgkhgohoaneaaCls
import Derived.Test.YtgfgkhgohoaneaaLow
namespace Go.Proofs.Ytgfgkhgohoaneaa
open Go.RowKit
/-- The classes of the first k bytes. -/
def ofTo (s : ByteArray) : Nat → Int
  | 0 => 0
  | k + 1 => bits BinOp.or IntKind.i64 (ofTo s k) (cls (byteAt s k))
set_option maxHeartbeats 400000 in
theorem of_any (s : ByteArray) (w : World) (hs : s.size ≤ 140737488351232) : Calls Try.prog 10 #[.string s] w fun e w' => e = .returned (.int .i64 (ofTo s s.size)) ∧ w' = w := by
  go_enter Try.func10, Try.ntmps10
  go_wp2_with fail
  go_loop [3, 7] (fun t i => ∃ k : Nat, k ≤ s.size ∧ i = .int .i64 k ∧ t = .int .i64 (ofTo s k)) (fun _ i => s.size - (intOf i).toNat)
  case atStart => exact ⟨0, by omega, rfl, rfl⟩
  case round =>
    obtain ⟨k, hk, rfl, rfl⟩ := hrel
    by_cases hlt : k < s.size
    · have HBk : Hid (byteAt s k = s[k].toNat) := byteAt_eq s k hlt
      have hb1 : (s[k].toNat : Int) ≤ 255 := by have := UInt8.toNat_lt s[k]; omega
      go_wp2_with (go_at_call 7; refine (class_any _ _ (by omega) (by omega)).mono ?_; rintro e w' ⟨rfl, rfl⟩)
      refine ⟨⟨k + 1, by omega, by go_num, ?_⟩, by simp [intOf]; omega⟩
      show Value.int .i64 _ = Value.int .i64 (bits BinOp.or IntKind.i64 (ofTo s k) (cls (byteAt s k)))
      rw [HBk.out]
    · have e : k = s.size := by omega
      subst e
      go_wp2
      go_ret
      exact ⟨rfl, rfl⟩
set_option maxHeartbeats 400000 in
theorem rof_any (s : ByteArray) (w : World) (hs : s.size ≤ 140737488351232) : Calls Try.prog 11 #[.string s] w fun e w' => e = .returned (.int .i64 (ofTo s s.size)) ∧ w' = w := by
  go_enter Try.func11, Try.ntmps11
  go_wp2_with fail
  go_loop [3, 4] (fun t i => ∃ k : Nat, k ≤ s.size ∧ i = .int .i64 k ∧ t = .int .i64 (ofTo s k)) (fun _ i => s.size - (intOf i).toNat)
  case atStart => exact ⟨0, by omega, rfl, rfl⟩
  case round =>
    obtain ⟨k, hk, rfl, rfl⟩ := hrel
    by_cases hlt : k < s.size
    · have HBk : Hid (byteAt s k = s[k].toNat) := byteAt_eq s k hlt
      have hb1 : (s[k].toNat : Int) ≤ 255 := by have := UInt8.toNat_lt s[k]; omega
      go_wp2_with (go_at_call 8; refine (rclass_any _ _ (by omega) (by omega)).mono ?_; rintro e w' ⟨rfl, rfl⟩)
      refine ⟨⟨k + 1, by omega, by go_num, ?_⟩, by simp [intOf]; omega⟩
      show Value.int .i64 _ = Value.int .i64 (bits BinOp.or IntKind.i64 (ofTo s k) (cls (byteAt s k)))
      rw [HBk.out]
    · have e : k = s.size := by omega
      subst e
      go_wp2
      go_ret
      exact ⟨rfl, rfl⟩
/-- A text with small letters. -/
def lower (s : ByteArray) : ByteArray := strOfNums ((List.range s.size).map fun j => low (byteAt s j))
theorem fold_any (s t : ByteArray) (w : World) (hs : s.size ≤ 140737488351232) (ht : t.size ≤ 140737488351232) : Calls Try.prog 16 #[.string s, .string t] w fun e w' => e = .returned (.bool ((lower s).toList == (lower t).toList)) ∧ Below w.heap.size w w' := by
  go_enter Try.func16, Try.ntmps16
  go_wp2_with fail
  refine (low_any s _ hs).mono ?_
  rintro e w1 ⟨rfl, hb1⟩
  go_wp2_with fail
  refine (low_any t _ ht).mono ?_
  rintro e w2 ⟨rfl, hb2⟩
  go_wp2
  go_ret
  exact ⟨rfl, hb1.trans (hb2.mono hb1.size)⟩
theorem awake_any (w : World) : Calls Try.prog 9 #[] w fun e w' => e = .returned (.bool true) ∧ w' = w := by
  go_enter Try.func9, Try.ntmps9
  go_wp2
  go_ret
  exact ⟨rfl, rfl⟩
end Go.Proofs.Ytgfgkhgohoaneaa
