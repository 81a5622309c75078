/-
  The contract of the library's FullRuneInString, at every text. Condition: the two tables of the library hold what their text lays.
-/
import Derived.Test.YtabofadjnbpjkabDoorShelf
import Derived.Test.YtabofadjnbpjkabDoorSp
import Derived.Test.YtabofadjnbpjkabDoorFlow
import Derived.WalkKit
import Derived.Below
import Derived.KernelRfl
import Derived.BigQuiet
import Derived.Deep.QuietTactic
import Derived.WalkSmall
namespace Go.Proofs.YtabofadjnbpjkabDoor
open Go.RowKit Go.Lib
/-- Byte j of a text; 0 behind its end. -/
def byt (s : ByteArray) (j : Nat) : Nat := (s.get! j).toNat
theorem byt_lt (s : ByteArray) (j : Nat) : byt s j < 256 := UInt8.toNat_lt _
theorem byt_eq (s : ByteArray) (j : Nat) (h : j < s.size) : (s[j]'h).toNat = byt s j := by
  unfold byt
  rw [Utf8W.get!_of_lt s j h]
set_option maxRecDepth 100000 in
set_option maxHeartbeats 1000000 in
theorem full_2 (s : ByteArray) (w : World) (b0 b1 b2 : Nat) (hs : s.size ≤ 9223372036854775807) (h0 : 0 < s.size) (hf : s.size < 2) (hb0 : s[0].toNat = b0) (_ : byt s 1 = b1) (_ : byt s 2 = b2)
    (hc0 : w.cell? ⟨0, b0, none⟩ = some (.int .u8 2)) (hA0 : w.cell? ⟨1, 0, none⟩ = some (.int .u8 128)) (hA1 : w.cell? ⟨1, 1, none⟩ = some (.int .u8 191)) (hl0 : b0 < 256) :
    Calls Tryd.prog 50 #[.string s] w fun e w' => e = .returned (.bool (decide ((1 < s.size ∧ (b1 < 128 ∨ 191 < b1)) ∨ (2 < s.size ∧ (b2 < 128 ∨ 191 < b2))))) ∧ Below w.heap.size w w' := by
  have hz : ((s.size : Int) == 0) = false := beq_false_of_ne (by omega)
  have hz0 : (0 : Int) < (s.size : Int) := by omega
  have hsz : ¬ (2 : Int) ≤ (s.size : Int) := by omega
  by_cases h1 : 1 < s.size
  · exfalso; omega
  · have hz1 : ¬ (1 : Int) < (s.size : Int) := by omega
    have hd1 : decide ((1 : Int) < (s.size : Int)) = false := by simp; omega
    have hz2 : ¬ (2 : Int) < (s.size : Int) := by omega
    have hd2 : decide ((2 : Int) < (s.size : Int)) = false := by simp; omega
    have e : decide ((1 < s.size ∧ (b1 < 128 ∨ 191 < b1)) ∨ (2 < s.size ∧ (b2 < 128 ∨ 191 < b2))) = false := by simp; omega
    rw [e]
    go_enter Tryd.func50, Tryd.ntmps50
    go_wp2
    go_quiet (fail)
    go_wp2
    go_ret
    exact ⟨rfl, below_drewN ((Below.refl _ _).alloc (Nat.le_refl _) _) _⟩
set_option maxRecDepth 100000 in
set_option maxHeartbeats 1000000 in
theorem full_19 (s : ByteArray) (w : World) (b0 b1 b2 : Nat) (hs : s.size ≤ 9223372036854775807) (h0 : 0 < s.size) (hf : s.size < 3) (hb0 : s[0].toNat = b0) (hB1 : byt s 1 = b1) (_ : byt s 2 = b2)
    (hc0 : w.cell? ⟨0, b0, none⟩ = some (.int .u8 19)) (hA0 : w.cell? ⟨1, 2, none⟩ = some (.int .u8 160)) (hA1 : w.cell? ⟨1, 3, none⟩ = some (.int .u8 191)) (hl0 : b0 < 256) :
    Calls Tryd.prog 50 #[.string s] w fun e w' => e = .returned (.bool (decide ((1 < s.size ∧ (b1 < 160 ∨ 191 < b1)) ∨ (2 < s.size ∧ (b2 < 128 ∨ 191 < b2))))) ∧ Below w.heap.size w w' := by
  have hz : ((s.size : Int) == 0) = false := beq_false_of_ne (by omega)
  have hz0 : (0 : Int) < (s.size : Int) := by omega
  have hsz : ¬ (3 : Int) ≤ (s.size : Int) := by omega
  by_cases h1 : 1 < s.size
  · have hz1 : (1 : Int) < (s.size : Int) := by omega
    have hd1 : decide ((1 : Int) < (s.size : Int)) = true := by simp; omega
    have hb1 := byt_eq s 1 h1
    have hl1 := byt_lt s 1
    rw [hB1] at hb1 hl1
    by_cases c1 : b1 < 160
    · have q1 : decide ((b1 : Int) < 160) = true := by simp; omega
      have e : decide ((1 < s.size ∧ (b1 < 160 ∨ 191 < b1)) ∨ (2 < s.size ∧ (b2 < 128 ∨ 191 < b2))) = true := by simp; omega
      rw [e]
      go_enter Tryd.func50, Tryd.ntmps50
      go_wp2
      go_quiet (fail)
      go_wp2
      go_ret
      exact ⟨rfl, below_drewN ((Below.refl _ _).alloc (Nat.le_refl _) _) _⟩
    · have q1 : decide ((b1 : Int) < 160) = false := by simp; omega
      by_cases c2 : 191 < b1
      · have q2 : (191 : Int) < (b1 : Int) := by omega
        have e : decide ((1 < s.size ∧ (b1 < 160 ∨ 191 < b1)) ∨ (2 < s.size ∧ (b2 < 128 ∨ 191 < b2))) = true := by simp; omega
        rw [e]
        go_enter Tryd.func50, Tryd.ntmps50
        go_wp2
        go_quiet (fail)
        go_wp2
        go_ret
        exact ⟨rfl, below_drewN ((Below.refl _ _).alloc (Nat.le_refl _) _) _⟩
      · have q2 : ¬ (191 : Int) < (b1 : Int) := by omega
        have hz2 : ¬ (2 : Int) < (s.size : Int) := by omega
        have hd2 : decide ((2 : Int) < (s.size : Int)) = false := by simp; omega
        have e : decide ((1 < s.size ∧ (b1 < 160 ∨ 191 < b1)) ∨ (2 < s.size ∧ (b2 < 128 ∨ 191 < b2))) = false := by simp; omega
        rw [e]
        go_enter Tryd.func50, Tryd.ntmps50
        go_wp2
        go_quiet (fail)
        go_wp2
        go_ret
        exact ⟨rfl, below_drewN ((Below.refl _ _).alloc (Nat.le_refl _) _) _⟩
  · have hz1 : ¬ (1 : Int) < (s.size : Int) := by omega
    have hd1 : decide ((1 : Int) < (s.size : Int)) = false := by simp; omega
    have hz2 : ¬ (2 : Int) < (s.size : Int) := by omega
    have hd2 : decide ((2 : Int) < (s.size : Int)) = false := by simp; omega
    have e : decide ((1 < s.size ∧ (b1 < 160 ∨ 191 < b1)) ∨ (2 < s.size ∧ (b2 < 128 ∨ 191 < b2))) = false := by simp; omega
    rw [e]
    go_enter Tryd.func50, Tryd.ntmps50
    go_wp2
    go_quiet (fail)
    go_wp2
    go_ret
    exact ⟨rfl, below_drewN ((Below.refl _ _).alloc (Nat.le_refl _) _) _⟩
set_option maxRecDepth 100000 in
set_option maxHeartbeats 1000000 in
theorem full_3 (s : ByteArray) (w : World) (b0 b1 b2 : Nat) (hs : s.size ≤ 9223372036854775807) (h0 : 0 < s.size) (hf : s.size < 3) (hb0 : s[0].toNat = b0) (hB1 : byt s 1 = b1) (_ : byt s 2 = b2)
    (hc0 : w.cell? ⟨0, b0, none⟩ = some (.int .u8 3)) (hA0 : w.cell? ⟨1, 0, none⟩ = some (.int .u8 128)) (hA1 : w.cell? ⟨1, 1, none⟩ = some (.int .u8 191)) (hl0 : b0 < 256) :
    Calls Tryd.prog 50 #[.string s] w fun e w' => e = .returned (.bool (decide ((1 < s.size ∧ (b1 < 128 ∨ 191 < b1)) ∨ (2 < s.size ∧ (b2 < 128 ∨ 191 < b2))))) ∧ Below w.heap.size w w' := by
  have hz : ((s.size : Int) == 0) = false := beq_false_of_ne (by omega)
  have hz0 : (0 : Int) < (s.size : Int) := by omega
  have hsz : ¬ (3 : Int) ≤ (s.size : Int) := by omega
  by_cases h1 : 1 < s.size
  · have hz1 : (1 : Int) < (s.size : Int) := by omega
    have hd1 : decide ((1 : Int) < (s.size : Int)) = true := by simp; omega
    have hb1 := byt_eq s 1 h1
    have hl1 := byt_lt s 1
    rw [hB1] at hb1 hl1
    by_cases c1 : b1 < 128
    · have q1 : decide ((b1 : Int) < 128) = true := by simp; omega
      have e : decide ((1 < s.size ∧ (b1 < 128 ∨ 191 < b1)) ∨ (2 < s.size ∧ (b2 < 128 ∨ 191 < b2))) = true := by simp; omega
      rw [e]
      go_enter Tryd.func50, Tryd.ntmps50
      go_wp2
      go_quiet (fail)
      go_wp2
      go_ret
      exact ⟨rfl, below_drewN ((Below.refl _ _).alloc (Nat.le_refl _) _) _⟩
    · have q1 : decide ((b1 : Int) < 128) = false := by simp; omega
      by_cases c2 : 191 < b1
      · have q2 : (191 : Int) < (b1 : Int) := by omega
        have e : decide ((1 < s.size ∧ (b1 < 128 ∨ 191 < b1)) ∨ (2 < s.size ∧ (b2 < 128 ∨ 191 < b2))) = true := by simp; omega
        rw [e]
        go_enter Tryd.func50, Tryd.ntmps50
        go_wp2
        go_quiet (fail)
        go_wp2
        go_ret
        exact ⟨rfl, below_drewN ((Below.refl _ _).alloc (Nat.le_refl _) _) _⟩
      · have q2 : ¬ (191 : Int) < (b1 : Int) := by omega
        have hz2 : ¬ (2 : Int) < (s.size : Int) := by omega
        have hd2 : decide ((2 : Int) < (s.size : Int)) = false := by simp; omega
        have e : decide ((1 < s.size ∧ (b1 < 128 ∨ 191 < b1)) ∨ (2 < s.size ∧ (b2 < 128 ∨ 191 < b2))) = false := by simp; omega
        rw [e]
        go_enter Tryd.func50, Tryd.ntmps50
        go_wp2
        go_quiet (fail)
        go_wp2
        go_ret
        exact ⟨rfl, below_drewN ((Below.refl _ _).alloc (Nat.le_refl _) _) _⟩
  · have hz1 : ¬ (1 : Int) < (s.size : Int) := by omega
    have hd1 : decide ((1 : Int) < (s.size : Int)) = false := by simp; omega
    have hz2 : ¬ (2 : Int) < (s.size : Int) := by omega
    have hd2 : decide ((2 : Int) < (s.size : Int)) = false := by simp; omega
    have e : decide ((1 < s.size ∧ (b1 < 128 ∨ 191 < b1)) ∨ (2 < s.size ∧ (b2 < 128 ∨ 191 < b2))) = false := by simp; omega
    rw [e]
    go_enter Tryd.func50, Tryd.ntmps50
    go_wp2
    go_quiet (fail)
    go_wp2
    go_ret
    exact ⟨rfl, below_drewN ((Below.refl _ _).alloc (Nat.le_refl _) _) _⟩
set_option maxRecDepth 100000 in
set_option maxHeartbeats 1000000 in
theorem full_35 (s : ByteArray) (w : World) (b0 b1 b2 : Nat) (hs : s.size ≤ 9223372036854775807) (h0 : 0 < s.size) (hf : s.size < 3) (hb0 : s[0].toNat = b0) (hB1 : byt s 1 = b1) (_ : byt s 2 = b2)
    (hc0 : w.cell? ⟨0, b0, none⟩ = some (.int .u8 35)) (hA0 : w.cell? ⟨1, 4, none⟩ = some (.int .u8 128)) (hA1 : w.cell? ⟨1, 5, none⟩ = some (.int .u8 159)) (hl0 : b0 < 256) :
    Calls Tryd.prog 50 #[.string s] w fun e w' => e = .returned (.bool (decide ((1 < s.size ∧ (b1 < 128 ∨ 159 < b1)) ∨ (2 < s.size ∧ (b2 < 128 ∨ 191 < b2))))) ∧ Below w.heap.size w w' := by
  have hz : ((s.size : Int) == 0) = false := beq_false_of_ne (by omega)
  have hz0 : (0 : Int) < (s.size : Int) := by omega
  have hsz : ¬ (3 : Int) ≤ (s.size : Int) := by omega
  by_cases h1 : 1 < s.size
  · have hz1 : (1 : Int) < (s.size : Int) := by omega
    have hd1 : decide ((1 : Int) < (s.size : Int)) = true := by simp; omega
    have hb1 := byt_eq s 1 h1
    have hl1 := byt_lt s 1
    rw [hB1] at hb1 hl1
    by_cases c1 : b1 < 128
    · have q1 : decide ((b1 : Int) < 128) = true := by simp; omega
      have e : decide ((1 < s.size ∧ (b1 < 128 ∨ 159 < b1)) ∨ (2 < s.size ∧ (b2 < 128 ∨ 191 < b2))) = true := by simp; omega
      rw [e]
      go_enter Tryd.func50, Tryd.ntmps50
      go_wp2
      go_quiet (fail)
      go_wp2
      go_ret
      exact ⟨rfl, below_drewN ((Below.refl _ _).alloc (Nat.le_refl _) _) _⟩
    · have q1 : decide ((b1 : Int) < 128) = false := by simp; omega
      by_cases c2 : 159 < b1
      · have q2 : (159 : Int) < (b1 : Int) := by omega
        have e : decide ((1 < s.size ∧ (b1 < 128 ∨ 159 < b1)) ∨ (2 < s.size ∧ (b2 < 128 ∨ 191 < b2))) = true := by simp; omega
        rw [e]
        go_enter Tryd.func50, Tryd.ntmps50
        go_wp2
        go_quiet (fail)
        go_wp2
        go_ret
        exact ⟨rfl, below_drewN ((Below.refl _ _).alloc (Nat.le_refl _) _) _⟩
      · have q2 : ¬ (159 : Int) < (b1 : Int) := by omega
        have hz2 : ¬ (2 : Int) < (s.size : Int) := by omega
        have hd2 : decide ((2 : Int) < (s.size : Int)) = false := by simp; omega
        have e : decide ((1 < s.size ∧ (b1 < 128 ∨ 159 < b1)) ∨ (2 < s.size ∧ (b2 < 128 ∨ 191 < b2))) = false := by simp; omega
        rw [e]
        go_enter Tryd.func50, Tryd.ntmps50
        go_wp2
        go_quiet (fail)
        go_wp2
        go_ret
        exact ⟨rfl, below_drewN ((Below.refl _ _).alloc (Nat.le_refl _) _) _⟩
  · have hz1 : ¬ (1 : Int) < (s.size : Int) := by omega
    have hd1 : decide ((1 : Int) < (s.size : Int)) = false := by simp; omega
    have hz2 : ¬ (2 : Int) < (s.size : Int) := by omega
    have hd2 : decide ((2 : Int) < (s.size : Int)) = false := by simp; omega
    have e : decide ((1 < s.size ∧ (b1 < 128 ∨ 159 < b1)) ∨ (2 < s.size ∧ (b2 < 128 ∨ 191 < b2))) = false := by simp; omega
    rw [e]
    go_enter Tryd.func50, Tryd.ntmps50
    go_wp2
    go_quiet (fail)
    go_wp2
    go_ret
    exact ⟨rfl, below_drewN ((Below.refl _ _).alloc (Nat.le_refl _) _) _⟩
set_option maxRecDepth 100000 in
set_option maxHeartbeats 1000000 in
theorem full_52 (s : ByteArray) (w : World) (b0 b1 b2 : Nat) (hs : s.size ≤ 9223372036854775807) (h0 : 0 < s.size) (hf : s.size < 4) (hb0 : s[0].toNat = b0) (hB1 : byt s 1 = b1) (hB2 : byt s 2 = b2)
    (hc0 : w.cell? ⟨0, b0, none⟩ = some (.int .u8 52)) (hA0 : w.cell? ⟨1, 6, none⟩ = some (.int .u8 144)) (hA1 : w.cell? ⟨1, 7, none⟩ = some (.int .u8 191)) (hl0 : b0 < 256) :
    Calls Tryd.prog 50 #[.string s] w fun e w' => e = .returned (.bool (decide ((1 < s.size ∧ (b1 < 144 ∨ 191 < b1)) ∨ (2 < s.size ∧ (b2 < 128 ∨ 191 < b2))))) ∧ Below w.heap.size w w' := by
  have hz : ((s.size : Int) == 0) = false := beq_false_of_ne (by omega)
  have hz0 : (0 : Int) < (s.size : Int) := by omega
  have hsz : ¬ (4 : Int) ≤ (s.size : Int) := by omega
  by_cases h1 : 1 < s.size
  · have hz1 : (1 : Int) < (s.size : Int) := by omega
    have hd1 : decide ((1 : Int) < (s.size : Int)) = true := by simp; omega
    have hb1 := byt_eq s 1 h1
    have hl1 := byt_lt s 1
    rw [hB1] at hb1 hl1
    by_cases c1 : b1 < 144
    · have q1 : decide ((b1 : Int) < 144) = true := by simp; omega
      have e : decide ((1 < s.size ∧ (b1 < 144 ∨ 191 < b1)) ∨ (2 < s.size ∧ (b2 < 128 ∨ 191 < b2))) = true := by simp; omega
      rw [e]
      go_enter Tryd.func50, Tryd.ntmps50
      go_wp2
      go_quiet (fail)
      go_wp2
      go_ret
      exact ⟨rfl, below_drewN ((Below.refl _ _).alloc (Nat.le_refl _) _) _⟩
    · have q1 : decide ((b1 : Int) < 144) = false := by simp; omega
      by_cases c2 : 191 < b1
      · have q2 : (191 : Int) < (b1 : Int) := by omega
        have e : decide ((1 < s.size ∧ (b1 < 144 ∨ 191 < b1)) ∨ (2 < s.size ∧ (b2 < 128 ∨ 191 < b2))) = true := by simp; omega
        rw [e]
        go_enter Tryd.func50, Tryd.ntmps50
        go_wp2
        go_quiet (fail)
        go_wp2
        go_ret
        exact ⟨rfl, below_drewN ((Below.refl _ _).alloc (Nat.le_refl _) _) _⟩
      · have q2 : ¬ (191 : Int) < (b1 : Int) := by omega
        by_cases h2 : 2 < s.size
        · have hz2 : (2 : Int) < (s.size : Int) := by omega
          have hd2 : decide ((2 : Int) < (s.size : Int)) = true := by simp; omega
          have hb2 := byt_eq s 2 h2
          have hl2 := byt_lt s 2
          rw [hB2] at hb2 hl2
          by_cases c3 : b2 < 128
          · have q3 : decide ((b2 : Int) < 128) = true := by simp; omega
            have e : decide ((1 < s.size ∧ (b1 < 144 ∨ 191 < b1)) ∨ (2 < s.size ∧ (b2 < 128 ∨ 191 < b2))) = true := by simp; omega
            rw [e]
            go_enter Tryd.func50, Tryd.ntmps50
            go_wp2
            go_quiet (fail)
            go_wp2
            go_ret
            exact ⟨rfl, below_drewN ((Below.refl _ _).alloc (Nat.le_refl _) _) _⟩
          · have q3 : decide ((b2 : Int) < 128) = false := by simp; omega
            by_cases c4 : 191 < b2
            · have q4 : (191 : Int) < (b2 : Int) := by omega
              have e : decide ((1 < s.size ∧ (b1 < 144 ∨ 191 < b1)) ∨ (2 < s.size ∧ (b2 < 128 ∨ 191 < b2))) = true := by simp; omega
              rw [e]
              go_enter Tryd.func50, Tryd.ntmps50
              go_wp2
              go_quiet (fail)
              go_wp2
              go_ret
              exact ⟨rfl, below_drewN ((Below.refl _ _).alloc (Nat.le_refl _) _) _⟩
            · have q4 : ¬ (191 : Int) < (b2 : Int) := by omega
              have e : decide ((1 < s.size ∧ (b1 < 144 ∨ 191 < b1)) ∨ (2 < s.size ∧ (b2 < 128 ∨ 191 < b2))) = false := by simp; omega
              rw [e]
              go_enter Tryd.func50, Tryd.ntmps50
              go_wp2
              go_quiet (fail)
              go_wp2
              go_ret
              exact ⟨rfl, below_drewN ((Below.refl _ _).alloc (Nat.le_refl _) _) _⟩
        · have hz2 : ¬ (2 : Int) < (s.size : Int) := by omega
          have hd2 : decide ((2 : Int) < (s.size : Int)) = false := by simp; omega
          have e : decide ((1 < s.size ∧ (b1 < 144 ∨ 191 < b1)) ∨ (2 < s.size ∧ (b2 < 128 ∨ 191 < b2))) = false := by simp; omega
          rw [e]
          go_enter Tryd.func50, Tryd.ntmps50
          go_wp2
          go_quiet (fail)
          go_wp2
          go_ret
          exact ⟨rfl, below_drewN ((Below.refl _ _).alloc (Nat.le_refl _) _) _⟩
  · have hz1 : ¬ (1 : Int) < (s.size : Int) := by omega
    have hd1 : decide ((1 : Int) < (s.size : Int)) = false := by simp; omega
    have hz2 : ¬ (2 : Int) < (s.size : Int) := by omega
    have hd2 : decide ((2 : Int) < (s.size : Int)) = false := by simp; omega
    have e : decide ((1 < s.size ∧ (b1 < 144 ∨ 191 < b1)) ∨ (2 < s.size ∧ (b2 < 128 ∨ 191 < b2))) = false := by simp; omega
    rw [e]
    go_enter Tryd.func50, Tryd.ntmps50
    go_wp2
    go_quiet (fail)
    go_wp2
    go_ret
    exact ⟨rfl, below_drewN ((Below.refl _ _).alloc (Nat.le_refl _) _) _⟩
set_option maxRecDepth 100000 in
set_option maxHeartbeats 1000000 in
theorem full_4 (s : ByteArray) (w : World) (b0 b1 b2 : Nat) (hs : s.size ≤ 9223372036854775807) (h0 : 0 < s.size) (hf : s.size < 4) (hb0 : s[0].toNat = b0) (hB1 : byt s 1 = b1) (hB2 : byt s 2 = b2)
    (hc0 : w.cell? ⟨0, b0, none⟩ = some (.int .u8 4)) (hA0 : w.cell? ⟨1, 0, none⟩ = some (.int .u8 128)) (hA1 : w.cell? ⟨1, 1, none⟩ = some (.int .u8 191)) (hl0 : b0 < 256) :
    Calls Tryd.prog 50 #[.string s] w fun e w' => e = .returned (.bool (decide ((1 < s.size ∧ (b1 < 128 ∨ 191 < b1)) ∨ (2 < s.size ∧ (b2 < 128 ∨ 191 < b2))))) ∧ Below w.heap.size w w' := by
  have hz : ((s.size : Int) == 0) = false := beq_false_of_ne (by omega)
  have hz0 : (0 : Int) < (s.size : Int) := by omega
  have hsz : ¬ (4 : Int) ≤ (s.size : Int) := by omega
  by_cases h1 : 1 < s.size
  · have hz1 : (1 : Int) < (s.size : Int) := by omega
    have hd1 : decide ((1 : Int) < (s.size : Int)) = true := by simp; omega
    have hb1 := byt_eq s 1 h1
    have hl1 := byt_lt s 1
    rw [hB1] at hb1 hl1
    by_cases c1 : b1 < 128
    · have q1 : decide ((b1 : Int) < 128) = true := by simp; omega
      have e : decide ((1 < s.size ∧ (b1 < 128 ∨ 191 < b1)) ∨ (2 < s.size ∧ (b2 < 128 ∨ 191 < b2))) = true := by simp; omega
      rw [e]
      go_enter Tryd.func50, Tryd.ntmps50
      go_wp2
      go_quiet (fail)
      go_wp2
      go_ret
      exact ⟨rfl, below_drewN ((Below.refl _ _).alloc (Nat.le_refl _) _) _⟩
    · have q1 : decide ((b1 : Int) < 128) = false := by simp; omega
      by_cases c2 : 191 < b1
      · have q2 : (191 : Int) < (b1 : Int) := by omega
        have e : decide ((1 < s.size ∧ (b1 < 128 ∨ 191 < b1)) ∨ (2 < s.size ∧ (b2 < 128 ∨ 191 < b2))) = true := by simp; omega
        rw [e]
        go_enter Tryd.func50, Tryd.ntmps50
        go_wp2
        go_quiet (fail)
        go_wp2
        go_ret
        exact ⟨rfl, below_drewN ((Below.refl _ _).alloc (Nat.le_refl _) _) _⟩
      · have q2 : ¬ (191 : Int) < (b1 : Int) := by omega
        by_cases h2 : 2 < s.size
        · have hz2 : (2 : Int) < (s.size : Int) := by omega
          have hd2 : decide ((2 : Int) < (s.size : Int)) = true := by simp; omega
          have hb2 := byt_eq s 2 h2
          have hl2 := byt_lt s 2
          rw [hB2] at hb2 hl2
          by_cases c3 : b2 < 128
          · have q3 : decide ((b2 : Int) < 128) = true := by simp; omega
            have e : decide ((1 < s.size ∧ (b1 < 128 ∨ 191 < b1)) ∨ (2 < s.size ∧ (b2 < 128 ∨ 191 < b2))) = true := by simp; omega
            rw [e]
            go_enter Tryd.func50, Tryd.ntmps50
            go_wp2
            go_quiet (fail)
            go_wp2
            go_ret
            exact ⟨rfl, below_drewN ((Below.refl _ _).alloc (Nat.le_refl _) _) _⟩
          · have q3 : decide ((b2 : Int) < 128) = false := by simp; omega
            by_cases c4 : 191 < b2
            · have q4 : (191 : Int) < (b2 : Int) := by omega
              have e : decide ((1 < s.size ∧ (b1 < 128 ∨ 191 < b1)) ∨ (2 < s.size ∧ (b2 < 128 ∨ 191 < b2))) = true := by simp; omega
              rw [e]
              go_enter Tryd.func50, Tryd.ntmps50
              go_wp2
              go_quiet (fail)
              go_wp2
              go_ret
              exact ⟨rfl, below_drewN ((Below.refl _ _).alloc (Nat.le_refl _) _) _⟩
            · have q4 : ¬ (191 : Int) < (b2 : Int) := by omega
              have e : decide ((1 < s.size ∧ (b1 < 128 ∨ 191 < b1)) ∨ (2 < s.size ∧ (b2 < 128 ∨ 191 < b2))) = false := by simp; omega
              rw [e]
              go_enter Tryd.func50, Tryd.ntmps50
              go_wp2
              go_quiet (fail)
              go_wp2
              go_ret
              exact ⟨rfl, below_drewN ((Below.refl _ _).alloc (Nat.le_refl _) _) _⟩
        · have hz2 : ¬ (2 : Int) < (s.size : Int) := by omega
          have hd2 : decide ((2 : Int) < (s.size : Int)) = false := by simp; omega
          have e : decide ((1 < s.size ∧ (b1 < 128 ∨ 191 < b1)) ∨ (2 < s.size ∧ (b2 < 128 ∨ 191 < b2))) = false := by simp; omega
          rw [e]
          go_enter Tryd.func50, Tryd.ntmps50
          go_wp2
          go_quiet (fail)
          go_wp2
          go_ret
          exact ⟨rfl, below_drewN ((Below.refl _ _).alloc (Nat.le_refl _) _) _⟩
  · have hz1 : ¬ (1 : Int) < (s.size : Int) := by omega
    have hd1 : decide ((1 : Int) < (s.size : Int)) = false := by simp; omega
    have hz2 : ¬ (2 : Int) < (s.size : Int) := by omega
    have hd2 : decide ((2 : Int) < (s.size : Int)) = false := by simp; omega
    have e : decide ((1 < s.size ∧ (b1 < 128 ∨ 191 < b1)) ∨ (2 < s.size ∧ (b2 < 128 ∨ 191 < b2))) = false := by simp; omega
    rw [e]
    go_enter Tryd.func50, Tryd.ntmps50
    go_wp2
    go_quiet (fail)
    go_wp2
    go_ret
    exact ⟨rfl, below_drewN ((Below.refl _ _).alloc (Nat.le_refl _) _) _⟩
set_option maxRecDepth 100000 in
set_option maxHeartbeats 1000000 in
theorem full_68 (s : ByteArray) (w : World) (b0 b1 b2 : Nat) (hs : s.size ≤ 9223372036854775807) (h0 : 0 < s.size) (hf : s.size < 4) (hb0 : s[0].toNat = b0) (hB1 : byt s 1 = b1) (hB2 : byt s 2 = b2)
    (hc0 : w.cell? ⟨0, b0, none⟩ = some (.int .u8 68)) (hA0 : w.cell? ⟨1, 8, none⟩ = some (.int .u8 128)) (hA1 : w.cell? ⟨1, 9, none⟩ = some (.int .u8 143)) (hl0 : b0 < 256) :
    Calls Tryd.prog 50 #[.string s] w fun e w' => e = .returned (.bool (decide ((1 < s.size ∧ (b1 < 128 ∨ 143 < b1)) ∨ (2 < s.size ∧ (b2 < 128 ∨ 191 < b2))))) ∧ Below w.heap.size w w' := by
  have hz : ((s.size : Int) == 0) = false := beq_false_of_ne (by omega)
  have hz0 : (0 : Int) < (s.size : Int) := by omega
  have hsz : ¬ (4 : Int) ≤ (s.size : Int) := by omega
  by_cases h1 : 1 < s.size
  · have hz1 : (1 : Int) < (s.size : Int) := by omega
    have hd1 : decide ((1 : Int) < (s.size : Int)) = true := by simp; omega
    have hb1 := byt_eq s 1 h1
    have hl1 := byt_lt s 1
    rw [hB1] at hb1 hl1
    by_cases c1 : b1 < 128
    · have q1 : decide ((b1 : Int) < 128) = true := by simp; omega
      have e : decide ((1 < s.size ∧ (b1 < 128 ∨ 143 < b1)) ∨ (2 < s.size ∧ (b2 < 128 ∨ 191 < b2))) = true := by simp; omega
      rw [e]
      go_enter Tryd.func50, Tryd.ntmps50
      go_wp2
      go_quiet (fail)
      go_wp2
      go_ret
      exact ⟨rfl, below_drewN ((Below.refl _ _).alloc (Nat.le_refl _) _) _⟩
    · have q1 : decide ((b1 : Int) < 128) = false := by simp; omega
      by_cases c2 : 143 < b1
      · have q2 : (143 : Int) < (b1 : Int) := by omega
        have e : decide ((1 < s.size ∧ (b1 < 128 ∨ 143 < b1)) ∨ (2 < s.size ∧ (b2 < 128 ∨ 191 < b2))) = true := by simp; omega
        rw [e]
        go_enter Tryd.func50, Tryd.ntmps50
        go_wp2
        go_quiet (fail)
        go_wp2
        go_ret
        exact ⟨rfl, below_drewN ((Below.refl _ _).alloc (Nat.le_refl _) _) _⟩
      · have q2 : ¬ (143 : Int) < (b1 : Int) := by omega
        by_cases h2 : 2 < s.size
        · have hz2 : (2 : Int) < (s.size : Int) := by omega
          have hd2 : decide ((2 : Int) < (s.size : Int)) = true := by simp; omega
          have hb2 := byt_eq s 2 h2
          have hl2 := byt_lt s 2
          rw [hB2] at hb2 hl2
          by_cases c3 : b2 < 128
          · have q3 : decide ((b2 : Int) < 128) = true := by simp; omega
            have e : decide ((1 < s.size ∧ (b1 < 128 ∨ 143 < b1)) ∨ (2 < s.size ∧ (b2 < 128 ∨ 191 < b2))) = true := by simp; omega
            rw [e]
            go_enter Tryd.func50, Tryd.ntmps50
            go_wp2
            go_quiet (fail)
            go_wp2
            go_ret
            exact ⟨rfl, below_drewN ((Below.refl _ _).alloc (Nat.le_refl _) _) _⟩
          · have q3 : decide ((b2 : Int) < 128) = false := by simp; omega
            by_cases c4 : 191 < b2
            · have q4 : (191 : Int) < (b2 : Int) := by omega
              have e : decide ((1 < s.size ∧ (b1 < 128 ∨ 143 < b1)) ∨ (2 < s.size ∧ (b2 < 128 ∨ 191 < b2))) = true := by simp; omega
              rw [e]
              go_enter Tryd.func50, Tryd.ntmps50
              go_wp2
              go_quiet (fail)
              go_wp2
              go_ret
              exact ⟨rfl, below_drewN ((Below.refl _ _).alloc (Nat.le_refl _) _) _⟩
            · have q4 : ¬ (191 : Int) < (b2 : Int) := by omega
              have e : decide ((1 < s.size ∧ (b1 < 128 ∨ 143 < b1)) ∨ (2 < s.size ∧ (b2 < 128 ∨ 191 < b2))) = false := by simp; omega
              rw [e]
              go_enter Tryd.func50, Tryd.ntmps50
              go_wp2
              go_quiet (fail)
              go_wp2
              go_ret
              exact ⟨rfl, below_drewN ((Below.refl _ _).alloc (Nat.le_refl _) _) _⟩
        · have hz2 : ¬ (2 : Int) < (s.size : Int) := by omega
          have hd2 : decide ((2 : Int) < (s.size : Int)) = false := by simp; omega
          have e : decide ((1 < s.size ∧ (b1 < 128 ∨ 143 < b1)) ∨ (2 < s.size ∧ (b2 < 128 ∨ 191 < b2))) = false := by simp; omega
          rw [e]
          go_enter Tryd.func50, Tryd.ntmps50
          go_wp2
          go_quiet (fail)
          go_wp2
          go_ret
          exact ⟨rfl, below_drewN ((Below.refl _ _).alloc (Nat.le_refl _) _) _⟩
  · have hz1 : ¬ (1 : Int) < (s.size : Int) := by omega
    have hd1 : decide ((1 : Int) < (s.size : Int)) = false := by simp; omega
    have hz2 : ¬ (2 : Int) < (s.size : Int) := by omega
    have hd2 : decide ((2 : Int) < (s.size : Int)) = false := by simp; omega
    have e : decide ((1 < s.size ∧ (b1 < 128 ∨ 143 < b1)) ∨ (2 < s.size ∧ (b2 < 128 ∨ 191 < b2))) = false := by simp; omega
    rw [e]
    go_enter Tryd.func50, Tryd.ntmps50
    go_wp2
    go_quiet (fail)
    go_wp2
    go_ret
    exact ⟨rfl, below_drewN ((Below.refl _ _).alloc (Nat.le_refl _) _) _⟩
set_option maxRecDepth 100000 in
set_option maxHeartbeats 1000000 in
theorem full_any (s : ByteArray) (w : World) (hs : s.size ≤ maxLen) (hT : Utf8Tabs 0 1 w) : Calls Tryd.prog 50 #[.string s] w fun e w' => e = .returned (.bool (!unfN s.size (byt s 0) (byt s 1) (byt s 2))) ∧ Below w.heap.size w w' := by
  unfold maxLen at hs
  by_cases h0 : s.size = 0
  · have hz : ((s.size : Int) == 0) = true := by simp [h0]
    have e : unfN s.size (byt s 0) (byt s 1) (byt s 2) = true := by simp [unfN, h0]
    rw [e]
    go_enter Tryd.func50, Tryd.ntmps50
    go_wp2
    go_ret
    exact ⟨rfl, Below.refl _ _⟩
  · have hz : ((s.size : Int) == 0) = false := beq_false_of_ne (by omega)
    have hz0 : (0 : Int) < (s.size : Int) := by omega
    have hb0 := byt_eq s 0 (by omega)
    have hl0 := byt_lt s 0
    have hc0 := hT.1 (byt s 0) hl0
    have hA := hT.2 (firstT (byt s 0) / 16) (by rcases firstT_cases (byt s 0) with h | h | h | h | h | h | h | h | h <;> omega)
    obtain ⟨hA0, hA1⟩ := hA
    obtain ⟨b0, hB0⟩ : ∃ b0, byt s 0 = b0 := ⟨_, rfl⟩
    obtain ⟨b1, hB1⟩ : ∃ b1, byt s 1 = b1 := ⟨_, rfl⟩
    obtain ⟨b2, hB2⟩ : ∃ b2, byt s 2 = b2 := ⟨_, rfl⟩
    rw [hB0] at hb0 hl0 hc0 hA0 hA1
    rw [hB0, hB1, hB2]
    by_cases hf : firstT b0 % 8 ≤ s.size
    · have e : unfN s.size b0 b1 b2 = false := by simp [unfN, h0, hf]
      rw [e]
      clear hA0 hA1
      rcases firstT_cases b0 with h | h | h | h | h | h | h | h | h
      all_goals
        rw [h] at hc0 hf
        go_enter Tryd.func50, Tryd.ntmps50
        go_wp2
        go_ret
        exact ⟨rfl, Below.refl _ _⟩
    · have e : (!unfN s.size b0 b1 b2) = decide ((1 < s.size ∧ (b1 < accLo (firstT b0 / 16) ∨ accHi (firstT b0 / 16) < b1)) ∨ (2 < s.size ∧ (b2 < 128 ∨ 191 < b2))) := by
        unfold unfN
        rw [if_neg h0, if_neg hf]
        split
        · rename_i h; simp [h]
        · rename_i h
          split
          · rename_i h'; simp [h']
          · rename_i h'
            simp only [Bool.not_true]
            symm
            rw [decide_eq_false_iff_not]
            exact fun q => q.elim h h'
      rw [e]
      rcases firstT_cases b0 with h | h | h | h | h | h | h | h | h
      · rw [h] at hf; exfalso; omega
      · rw [h] at hf; exfalso; omega
      · rw [h] at hc0 hA0 hA1 hf ⊢
        exact full_2 s w b0 b1 b2 hs (by omega) (by omega) hb0 hB1 hB2 hc0 hA0 hA1 hl0
      · rw [h] at hc0 hA0 hA1 hf ⊢
        exact full_19 s w b0 b1 b2 hs (by omega) (by omega) hb0 hB1 hB2 hc0 hA0 hA1 hl0
      · rw [h] at hc0 hA0 hA1 hf ⊢
        exact full_3 s w b0 b1 b2 hs (by omega) (by omega) hb0 hB1 hB2 hc0 hA0 hA1 hl0
      · rw [h] at hc0 hA0 hA1 hf ⊢
        exact full_35 s w b0 b1 b2 hs (by omega) (by omega) hb0 hB1 hB2 hc0 hA0 hA1 hl0
      · rw [h] at hc0 hA0 hA1 hf ⊢
        exact full_52 s w b0 b1 b2 hs (by omega) (by omega) hb0 hB1 hB2 hc0 hA0 hA1 hl0
      · rw [h] at hc0 hA0 hA1 hf ⊢
        exact full_4 s w b0 b1 b2 hs (by omega) (by omega) hb0 hB1 hB2 hc0 hA0 hA1 hl0
      · rw [h] at hc0 hA0 hA1 hf ⊢
        exact full_68 s w b0 b1 b2 hs (by omega) (by omega) hb0 hB1 hB2 hc0 hA0 hA1 hl0
end Go.Proofs.YtabofadjnbpjkabDoor
