/-
  The contracts of the two functions that print a byte as two digits to the base 16, and of the set of one byte. Condition: the byte is one.
-/
import Derived.Test.YtgfgkhgohoaneaaDoorDg
import Derived.BigQuiet
import Derived.RangeFuncBox
import Derived.BigRegion
import Derived.Deep.QuietTactic
import Derived.Deep.RegionWith
import Derived.Laws.BytesArg
namespace Go.Proofs.YtgfgkhgohoaneaaDoor
open Go.RowKit
theorem sixteen (k : Nat) (h : k < 16) : k = 0 ∨ k = 1 ∨ k = 2 ∨ k = 3 ∨ k = 4 ∨ k = 5 ∨ k = 6 ∨ k = 7 ∨ k = 8 ∨ k = 9 ∨ k = 10 ∨ k = 11 ∨ k = 12 ∨ k = 13 ∨ k = 14 ∨ k = 15 := by omega
/-- A digit to the base 16, with great letters. -/
def hexN (d : Nat) : Nat := if d < 10 then 48 + d else 55 + d
def hexB (b : Nat) : ByteArray := ⟨#[UInt8.ofNat (hexN (b / 16)), UInt8.ofNat (hexN (b % 16))]⟩
theorem hexN_lt (d : Nat) (h : d < 16) : hexN d < 256 := by unfold hexN; split <;> omega
theorem hex_at (k : Nat) (h : k < 16) (h' : k < (⟨#[48, 49, 50, 51, 52, 53, 54, 55, 56, 57, 65, 66, 67, 68, 69, 70]⟩ : ByteArray).size) : ((⟨#[48, 49, 50, 51, 52, 53, 54, 55, 56, 57, 65, 66, 67, 68, 69, 70]⟩ : ByteArray)[k]'h').toNat = hexN k := by
  rcases sixteen k h with rfl | rfl | rfl | rfl | rfl | rfl | rfl | rfl | rfl | rfl | rfl | rfl | rfl | rfl | rfl | rfl <;> rfl
theorem hex_cut (k : Nat) (h : k < 16) : (⟨#[48, 49, 50, 51, 52, 53, 54, 55, 56, 57, 65, 66, 67, 68, 69, 70]⟩ : ByteArray).extract k (k + 1) = ⟨#[UInt8.ofNat (hexN k)]⟩ := by
  rcases sixteen k h with rfl | rfl | rfl | rfl | rfl | rfl | rfl | rfl | rfl | rfl | rfl | rfl | rfl | rfl | rfl | rfl <;> rfl
theorem and15 : ∀ b : Nat, b < 256 → bits BinOp.and IntKind.u8 (b : Int) 15 = ((b % 16 : Nat) : Int) := by decide +kernel
theorem hexB_app (b : Nat) : (⟨#[UInt8.ofNat (hexN (b / 16))]⟩ : ByteArray) ++ (⟨#[UInt8.ofNat (hexN (b % 16))]⟩ : ByteArray) = hexB b := rfl
set_option maxRecDepth 100000 in
set_option maxHeartbeats 1000000 in
theorem rhex_any (b : Nat) (w : World) (hb : b < 256) : Calls Tryd.prog 13 #[.int .u8 b] w fun e w' => e = .returned (.string (hexB b)) ∧ Below w.heap.size w w' := by
  have c1 := hex_cut (b / 16) (by omega)
  have c2 := hex_cut (b % 16) (by omega)
  rw [← hexB_app]
  obtain ⟨D1, e1⟩ : ∃ D, (⟨#[UInt8.ofNat (hexN (b / 16))]⟩ : ByteArray) = D := ⟨_, rfl⟩
  obtain ⟨D2, e2⟩ : ∃ D, (⟨#[UInt8.ofNat (hexN (b % 16))]⟩ : ByteArray) = D := ⟨_, rfl⟩
  have s1 : D1.size = 1 := by rw [← e1]; rfl
  have s2 : D2.size = 1 := by rw [← e2]; rfl
  rw [e1] at c1 ⊢; rw [e2] at c2 ⊢
  clear e1 e2
  obtain ⟨x, hx⟩ : ∃ x, b / 16 = x := ⟨_, rfl⟩
  obtain ⟨y, hy⟩ : ∃ y, b % 16 = y := ⟨_, rfl⟩
  have w1 : IntKind.u8.wrap ((b : Int) / 16) = (x : Int) := by rw [IntWalk.u8_in _ (by omega)]; omega
  have w2 : IntKind.u8.wrap ((x : Int) + 1) = (x : Int) + 1 := IntWalk.u8_in _ (by omega)
  have w3 : (b : Int).tmod 16 = (y : Int) := by rw [Int.tmod_eq_emod_of_nonneg (by omega)]; omega
  have w4 : IntKind.u8.wrap ((y : Int) + 1) = (y : Int) + 1 := IntWalk.u8_in _ (by omega)
  have g1 : (x : Int) ≤ (x : Int) + 1 := by omega
  have g2 : (x : Int) + 1 ≤ 16 := by omega
  have g3 : (y : Int) ≤ (y : Int) + 1 := by omega
  have g4 : (y : Int) + 1 ≤ 16 := by omega
  have g5 : (0 : Int) ≤ (x : Int) := by omega
  have g6 : (0 : Int) ≤ (y : Int) := by omega
  have t1 : ((x : Int) + 1).toNat = x + 1 := by omega
  have t2 : ((y : Int) + 1).toNat = y + 1 := by omega
  rw [hx] at c1; rw [hy] at c2
  have q : ¬ 9223372036854775807 < D1.size + D2.size := by omega
  clear hx hy
  go_enter Tryd.func13, Tryd.ntmps13
  go_wp2
  go_quiet (fail)
  go_wp2
  go_ret
  exact ⟨rfl, rfl, rfl, rfl, Nat.le_refl _, fun _ _ => rfl⟩
set_option maxRecDepth 100000 in
set_option maxHeartbeats 1000000 in
theorem hex_any (b : Nat) (w : World) (hb : b < 256) : Calls Tryd.prog 12 #[.int .u8 b] w fun e w' => e = .returned (.string (hexB b)) ∧ Below w.heap.size w w' := by
  have c1 := hex_at (b / 16) (by omega)
  have c2 := hex_at (b % 16) (by omega)
  have ha := and15 b hb
  obtain ⟨x, hx⟩ : ∃ x, b / 16 = x := ⟨_, rfl⟩
  obtain ⟨y, hy⟩ : ∃ y, b % 16 = y := ⟨_, rfl⟩
  rw [hx] at c1; rw [hy] at c2 ha
  have l1 := hexN_lt x (by omega)
  have l2 := hexN_lt y (by omega)
  have hB : hexB b = ⟨#[UInt8.ofNat (hexN x), UInt8.ofNat (hexN y)]⟩ := by unfold hexB; rw [hx, hy]
  obtain ⟨X, eX⟩ : ∃ X, hexN x = X := ⟨_, rfl⟩
  obtain ⟨Y, eY⟩ : ∃ Y, hexN y = Y := ⟨_, rfl⟩
  rw [eX] at c1 l1 hB; rw [eY] at c2 l2 hB
  rw [hB]
  have w1 : (b : Int) / 16 = (x : Int) := by omega
  have w2 : (b : Int) / 2 ^ 4 = (x : Int) := by omega
  have g2 : (x : Int) < 16 := by omega
  have g4 : (y : Int) < 16 := by omega
  have hcv : ∀ W : World, W.cell? ⟨w.heap.size, 0, none⟩ = some (.int .u8 X) → W.cell? ⟨w.heap.size, 1, none⟩ = some (.int .u8 Y) → (convert 45 9 (.slice (some ⟨w.heap.size, 0, none⟩) 2 2)).run Tryd.prog W = .ok (.string ⟨#[UInt8.ofNat X, UInt8.ofNat Y]⟩) W := fun W k0 k1 => by
    have := run_convert_bytes_arg (P := Tryd.prog) W 45 5 Tryd.underlying45 Tryd.underlying5 w.heap.size 0 2 2 [(X : Int), (Y : Int)] rfl (fun i hi => by
      match i, hi with
      | 0, _ => exact k0
      | 1, _ => exact k1) 9 Tryd.underlying9
    exact this
  have h2 := hcv (w.alloc (.cells #[.int .u8 X, .int .u8 Y] 5)).drew (by simp) (by simp)
  clear hx hy eX eY hB hcv
  go_enter Tryd.func12, Tryd.ntmps12
  go_wp2
  go_region
  all_goals
    go_wp2
    go_ret
    exact ⟨rfl, ((Below.refl _ w).alloc (Nat.le_refl _) _).drew⟩
end Go.Proofs.YtgfgkhgohoaneaaDoor
