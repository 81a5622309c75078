/-
  A whole number that a field says: its sign.
-/
import Derived.Test.YtcjlplaepnpopaaDoorPt
import Derived.OwnWalk
import Derived.WalkSmall
namespace Go.Proofs.YtcjlplaepnpopaaDoor
open Go.RowKit
/-- The text that says a number's size; whether the number is below nought. -/
def neB (s : ByteArray) : Bool := decide (0 < s.size) && decide (byt s 0 = 45)
def whT (s : ByteArray) : ByteArray := if neB s = true then s.extract 1 s.size else s
theorem front1 (s : ByteArray) (h : 0 < s.size) : s.extract 0 1 = ⟨#[UInt8.ofNat (byt s 0)]⟩ := by
  apply ByteArray.ext
  rw [ByteArray.data_extract]
  have hl : 0 < s.data.size := h
  apply Array.ext
  · rw [Array.size_extract]; show min 1 s.data.size - 0 = 1; omega
  · intro i h1 h2
    have h3 : i < 1 := h2
    obtain rfl : i = 0 := by omega
    rw [Array.getElem_extract]
    show s.data[0 + 0] = UInt8.ofNat (byt s 0)
    rw [← byt_eq s 0 h, UInt8.ofNat_toNat]
    rfl
theorem of_is {Y : Nat} (h : Y < 256) : (UInt8.ofNat Y == 45) = decide (Y = 45) := by
  by_cases c : Y = 45
  · subst c; rfl
  · rw [decide_eq_false c]
    apply beq_false_of_ne
    intro e
    apply c
    have := congrArg UInt8.toNat e
    rw [UInt8.toNat_ofNat_of_lt' h] at this
    exact this
set_option maxRecDepth 100000 in
set_option maxHeartbeats 1000000 in
theorem hasP_any (s : ByteArray) (w : World) (hs : s.size ≤ 9223372036854775807) : Calls Tryd.prog 51 #[.string s, .string ⟨#[45]⟩] w fun e w' => e = .returned (.bool (neB s)) ∧ w' = w := by
  by_cases h : 0 < s.size
  · have c1 : (1 : Int) ≤ (s.size : Int) := by omega
    have c2 : decide ((1 : Int) ≤ (s.size : Int)) = true := decide_eq_true c1
    have e1 := front1 s h
    have hb := byt_lt s 0
    have hN : neB s = decide (byt s 0 = 45) := by unfold neB; rw [decide_eq_true h, Bool.true_and]
    obtain ⟨Y, eY⟩ : ∃ Y, byt s 0 = Y := ⟨_, rfl⟩
    rw [eY] at e1 hN hb
    have HN : Hid (neB s = decide (Y = 45)) := hN
    clear hN eY
    go_enter Tryd.func51, Tryd.ntmps51
    go_wp2
    exact bodyPost_ret (v := .bool (UInt8.ofNat Y == 45)) (by simp [results, Tryd.results51, go_sem]) rfl ⟨by rw [HN.out, of_is hb], rfl⟩
  · have c1 : ¬ (1 : Int) ≤ (s.size : Int) := by omega
    have c2 : decide ((1 : Int) ≤ (s.size : Int)) = false := decide_eq_false c1
    have HN : Hid (neB s = false) := by unfold Hid neB; rw [decide_eq_false h]; rfl
    go_enter Tryd.func51, Tryd.ntmps51
    go_wp2
    exact bodyPost_ret (v := .bool false) (by simp [results, Tryd.results51, go_sem]) rfl ⟨by rw [HN.out], rfl⟩
set_option maxHeartbeats 1000000 in
theorem cutP1_any (s : ByteArray) (w : World) (hs : s.size ≤ 9223372036854775807) : Calls Tryd.prog 41 #[.string s, .string ⟨#[45]⟩] w fun e w' => e = .returned (.tuple #[.string (whT s), .bool (neB s)]) ∧ w' = w := by
  have k := hasP_any s w hs
  have hsz : neB s = true → 0 < s.size := fun h => by unfold neB at h; simp only [Bool.and_eq_true, decide_eq_true_eq] at h; exact h.1
  have hT : whT s = if neB s = true then s.extract 1 s.size else s := rfl
  obtain ⟨T, eT⟩ : ∃ T, whT s = T := ⟨_, rfl⟩
  rw [eT] at hT ⊢
  cases hn : neB s with
  | false =>
    rw [hn] at k hT
    have HT : Hid (T = s) := hT
    clear hsz hT hn eT
    go_enter Tryd.func41, Tryd.ntmps41
    go_wp2_with (go_at_call 51; refine k.mono ?_; rintro e w' ⟨rfl, rfl⟩)
    exact bodyPost_ret (v := .tuple #[.string s, .bool false]) (by simp [results, Tryd.results41, go_sem]) rfl ⟨by rw [HT.out], rfl⟩
  | true =>
    rw [hn] at k hT
    have h0 := hsz hn
    have HT : Hid (T = s.extract 1 s.size) := hT
    have c1 : (1 : Int) ≤ (s.size : Int) := by omega
    clear hsz hT hn eT
    go_enter Tryd.func41, Tryd.ntmps41
    go_wp2_with (go_at_call 51; refine k.mono ?_; rintro e w' ⟨rfl, rfl⟩)
    exact bodyPost_ret (v := .tuple #[.string (s.extract 1 s.size), .bool true]) (by simp [results, Tryd.results41, go_sem]) rfl ⟨by rw [HT.out], rfl⟩
set_option maxHeartbeats 1000000 in
theorem cutP_any (s : ByteArray) (w : World) (hs : s.size ≤ 9223372036854775807) : Calls Tryd.prog 25 #[.string s, .string ⟨#[45]⟩] w fun e w' => e = .returned (.tuple #[.string (whT s), .bool (neB s)]) ∧ w' = w := by
  have k := cutP1_any s w hs
  obtain ⟨T, eT⟩ : ∃ T, whT s = T := ⟨_, rfl⟩
  obtain ⟨B, eB⟩ : ∃ B, neB s = B := ⟨_, rfl⟩
  rw [eT, eB] at k
  rw [eT, eB]
  go_enter Tryd.func25, Tryd.ntmps25
  go_wp2_with (go_at_call 41; refine k.mono ?_; rintro e w' ⟨rfl, rfl⟩)
  exact bodyPost_ret (v := .tuple #[.string T, .bool B]) (by simp [results, Tryd.results25, go_sem]) rfl ⟨rfl, rfl⟩
end Go.Proofs.YtcjlplaepnpopaaDoor
