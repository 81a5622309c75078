/-
  The library's trimming of two blanks.
-/
import Derived.Test.YtcjlplaepnpopaaDoorHb
import Derived.Test.YtcjlplaepnpopaaDoorShelf
import Derived.LoopN
import Derived.OwnWalk
import Derived.WalkSmall
import Derived.BigQuiet
import Derived.Deep.QuietTactic
namespace Go.Proofs.YtcjlplaepnpopaaDoor
open Go.RowKit
/-- A set of the two blanks. -/
def SetAt (w : World) (b : Nat) : Prop := ∀ Y, Y < 256 → w.cell? ⟨b, Y, none⟩ = some (.bool (decide (blk Y)))
theorem contains_any (w : World) (b Y : Nat) (hY : Y < 256) (h : SetAt w b) : Calls Tryd.prog 78 #[.pointer (some ⟨b, 0, none⟩), .int .u8 (Y : Int)] w fun e w' => e = .returned (.bool (decide (blk Y))) ∧ w' = w := by
  have k := Any.asciiSet_contains Tryd.lays228 b (UInt8.ofNat Y) (decide (blk Y)) w (by rw [UInt8.toNat_ofNat_of_lt' hY]; exact h Y hY)
  rw [UInt8.toNat_ofNat_of_lt' hY] at k
  exact k
set_option maxRecDepth 100000 in
set_option maxHeartbeats 1000000 in
theorem trimL_any (s : ByteArray) (b : Nat) (w : World) (hb : SetAt w b) : Calls Tryd.prog 81 #[.string s, .pointer (some ⟨b, 0, none⟩)] w fun e w' => (∃ a, a ≤ s.size ∧ e = .returned (.string (s.extract a s.size)) ∧ (0 < a → blk (byt s 0)) ∧ (a < s.size → ¬ blk (byt s a))) ∧ w' = w := by
  have k78 := fun Y hY => contains_any w b Y hY hb
  clear hb
  go_enter Tryd.func81, Tryd.ntmps81
  go_wp2
  go_loopw [0] (fun x wr => wr = w ∧ ∃ a : Nat, x = .string (s.extract a s.size) ∧ Hid (Cutd s a s.size)) (fun x _ => szV x)
  case atStart => exact ⟨rfl, 0, by rw [ByteArray.extract_zero_size], Cutd.start s⟩
  case round =>
    obtain ⟨rfl, a, rfl, hC⟩ := hrel
    obtain ⟨t, eT⟩ : ∃ t, s.extract a s.size = t := ⟨_, rfl⟩
    have hz : t.size = s.size - a := by rw [← eT, ByteArray.size_extract]; omega
    have hle : a ≤ s.size := hC.out.le
    have hq : t.extract 1 t.size = s.extract (a + 1) s.size := by rw [← eT]; exact extract_all
    have hb0 : byt t 0 = byt s a := by rw [← eT, byt_tail, Nat.add_zero]
    have HT : Hid (t = s.extract a s.size) := eT.symm
    by_cases c : a < s.size
    · have c1 : 0 < t.size := by omega
      have c2 : (0 : Int) < (t.size : Int) := by omega
      have c3 : (1 : Int) ≤ (t.size : Int) := by omega
      have q0 : (t[0]'c1).toNat = byt t 0 := byt_eq t 0 c1
      rw [hb0] at q0
      have HL : Hid (blk (byt s a) → Cutd s (a + 1) s.size) := fun k => hC.out.lead c k
      have HC : Hid (Cutd s a s.size) := hC
      have HQ : Hid (t.extract 1 t.size = s.extract (a + 1) s.size) := hq
      have HN : Hid (byt s a = byt s a) := rfl
      have hY := byt_lt s a
      obtain ⟨Y, eY⟩ : ∃ Y, byt s a = Y := ⟨_, rfl⟩
      have HY : Hid (byt s a = Y) := eY
      rw [eY] at q0 HL hY
      clear hC hq hb0 eY HN
      rw [eT]
      clear eT hz
      by_cases k : blk Y
      · have k1 : decide (blk Y) = true := decide_eq_true k
        have HC2 : Hid (Cutd s (a + 1) s.size) := HL.out k
        clear k HL
        go_wp2_with (go_at_call 78; refine (k78 _ hY).mono ?_; rintro e w' ⟨rfl, hw⟩; rw [hw, k1])
        refine ⟨⟨trivial, a + 1, by rw [HQ.out], HC2⟩, ?_⟩
        show (t.extract 1 t.size).size < t.size
        rw [ByteArray.size_extract]; omega
      · have k1 : decide (blk Y) = false := decide_eq_false k
        have HE : Hid (a ≤ s.size ∧ t = s.extract a s.size ∧ (0 < a → blk (byt s 0)) ∧ (a < s.size → ¬ blk (byt s a))) := ⟨hle, HT.out, HC.out.front, fun _ => by rw [HY.out]; exact k⟩
        clear k HL HC HY HQ
        go_wp2_with (go_at_call 78; refine (k78 _ hY).mono ?_; rintro e w' ⟨rfl, hw⟩; rw [hw, k1])
        exact bodyPost_ret (v := .string t) (by simp [results, Tryd.results81, go_sem]) rfl ⟨⟨a, HE.out.1, by rw [← HE.out.2.1], HE.out.2.2.1, HE.out.2.2.2⟩, rfl⟩
    · have c0 : t.size = 0 := by omega
      have c2 : ¬ (0 : Int) < (t.size : Int) := by omega
      have HE : Hid (a ≤ s.size ∧ t = s.extract a s.size ∧ (0 < a → blk (byt s 0)) ∧ (a < s.size → ¬ blk (byt s a))) := ⟨hle, HT.out, hC.out.front, fun h => absurd h c⟩
      clear hC hq hb0 hz
      rw [eT]
      clear eT
      go_wp2
      exact bodyPost_ret (v := .string t) (by simp [results, Tryd.results81, go_sem]) rfl ⟨⟨a, HE.out.1, by rw [← HE.out.2.1], HE.out.2.2.1, HE.out.2.2.2⟩, rfl⟩
set_option maxRecDepth 100000 in
set_option maxHeartbeats 1000000 in
theorem trimR_any (s : ByteArray) (g : Nat) (w : World) (hs : s.size ≤ 140737488351232) (hb : SetAt w g) : Calls Tryd.prog 82 #[.string s, .pointer (some ⟨g, 0, none⟩)] w fun e w' => (∃ b, b ≤ s.size ∧ e = .returned (.string (s.extract 0 b)) ∧ (b < s.size → blk (byt s (s.size - 1))) ∧ (0 < b → ¬ blk (byt s (b - 1)))) ∧ w' = w := by
  have k78 := fun Y hY => contains_any w g Y hY hb
  clear hb
  go_enter Tryd.func82, Tryd.ntmps82
  go_wp2
  go_loopw [0] (fun x wr => wr = w ∧ ∃ b : Nat, x = .string (s.extract 0 b) ∧ Hid (Cutd s 0 b)) (fun x _ => szV x)
  case atStart => exact ⟨rfl, s.size, by rw [ByteArray.extract_zero_size], Cutd.start s⟩
  case round =>
    obtain ⟨rfl, b, rfl, hC⟩ := hrel
    obtain ⟨t, eT⟩ : ∃ t, s.extract 0 b = t := ⟨_, rfl⟩
    have hbs : b ≤ s.size := hC.out.top
    have hz : t.size = b := by rw [← eT, ByteArray.size_extract]; omega
    have HT : Hid (t = s.extract 0 b) := eT.symm
    by_cases c : 0 < b
    · have hq : t.extract 0 (t.size - 1) = s.extract 0 (b - 1) := by rw [← eT]; exact extract_less hbs c
      have hb2 : byt t (t.size - 1) = byt s (b - 1) := by rw [hz, ← eT, byt_extract s 0 b _ hbs (by omega), Nat.zero_add]
      have c5 : 0 < t.size := by omega
      have c6 : (0 : Int) < (t.size : Int) := by omega
      have c7 : (1 : Int) ≤ (t.size : Int) := by omega
      have c8 : ((t.size : Int) - 1).toNat = t.size - 1 := by omega
      have c9 : (t.size : Int) - 1 < (t.size : Int) := by omega
      have c10 : (0 : Int) ≤ (t.size : Int) - 1 := by omega
      have c12 : (t.size : Int) ≤ 140737488351232 := by omega
      have c11 : t.size - 1 < t.size := by omega
      have q1 : (t[t.size - 1]'c11).toNat = byt t (t.size - 1) := byt_eq t _ c11
      rw [hb2] at q1
      have HL : Hid (blk (byt s (b - 1)) → Cutd s 0 (b - 1)) := fun k => hC.out.trail c k
      have HC : Hid (Cutd s 0 b) := hC
      have HQ : Hid (t.extract 0 (t.size - 1) = s.extract 0 (b - 1)) := hq
      have hY := byt_lt s (b - 1)
      obtain ⟨Y, eY⟩ : ∃ Y, byt s (b - 1) = Y := ⟨_, rfl⟩
      have HY : Hid (byt s (b - 1) = Y) := eY
      rw [eY] at q1 HL hY
      clear hC hq hb2 eY hz
      rw [eT]
      clear eT
      by_cases k : blk Y
      · have k1 : decide (blk Y) = true := decide_eq_true k
        have HC2 : Hid (Cutd s 0 (b - 1)) := HL.out k
        clear k HL
        go_wp2_with (go_at_call 78; refine (k78 _ hY).mono ?_; rintro e w' ⟨rfl, hw⟩; rw [hw, k1])
        refine ⟨⟨trivial, b - 1, by rw [HQ.out], HC2⟩, ?_⟩
        show (t.extract 0 (t.size - 1)).size < t.size
        rw [ByteArray.size_extract]; omega
      · have k1 : decide (blk Y) = false := decide_eq_false k
        have HE : Hid (b ≤ s.size ∧ t = s.extract 0 b ∧ (b < s.size → blk (byt s (s.size - 1))) ∧ (0 < b → ¬ blk (byt s (b - 1)))) := ⟨hbs, HT.out, HC.out.back, fun _ => by rw [HY.out]; exact k⟩
        clear k HL HC HY HQ
        go_wp2_with (go_at_call 78; refine (k78 _ hY).mono ?_; rintro e w' ⟨rfl, hw⟩; rw [hw, k1])
        exact bodyPost_ret (v := .string t) (by simp [results, Tryd.results82, go_sem]) rfl ⟨⟨b, HE.out.1, by rw [← HE.out.2.1], HE.out.2.2.1, HE.out.2.2.2⟩, rfl⟩
    · have c0 : t.size = 0 := by omega
      have c2 : ¬ (0 : Int) < (t.size : Int) := by omega
      have HE : Hid (b ≤ s.size ∧ t = s.extract 0 b ∧ (b < s.size → blk (byt s (s.size - 1))) ∧ (0 < b → ¬ blk (byt s (b - 1)))) := ⟨hbs, HT.out, hC.out.back, fun h => absurd h c⟩
      clear hC hz
      rw [eT]
      clear eT
      go_wp2
      exact bodyPost_ret (v := .string t) (by simp [results, Tryd.results82, go_sem]) rfl ⟨⟨b, HE.out.1, by rw [← HE.out.2.1], HE.out.2.2.1, HE.out.2.2.2⟩, rfl⟩
end Go.Proofs.YtcjlplaepnpopaaDoor
