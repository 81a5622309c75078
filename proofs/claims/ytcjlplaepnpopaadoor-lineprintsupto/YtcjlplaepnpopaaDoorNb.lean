/-
  The contracts of the two functions that read a number to any base: the first wrong digit, the sum, or that it is too great. Condition: the text is no longer than one that comes in can be.
-/
import Derived.Test.YtcjlplaepnpopaaDoorDg
import Derived.Lib.Strings
namespace Go.Proofs.YtcjlplaepnpopaaDoor
open Go.RowKit
/-- The number that the first k digits say, however great. -/
def val (s : ByteArray) (b : Nat) : Nat → Nat
  | 0 => 0
  | k + 1 => val s b k * b + hx (byt s k)
theorem val_le (s : ByteArray) (b : Nat) (hb : 1 ≤ b) (k : Nat) : val s b k ≤ val s b (k + 1) := by
  show _ ≤ val s b k * b + hx (byt s k)
  have := Nat.le_mul_of_pos_right (val s b k) hb
  omega
theorem val_mono (s : ByteArray) (b : Nat) (hb : 1 ≤ b) (k : Nat) : ∀ d, val s b k ≤ val s b (k + d)
  | 0 => Nat.le_refl _
  | d + 1 => Nat.le_trans (val_mono s b hb k d) (val_le s b hb (k + d))
/-- All of the first k bytes are digits. -/
def Digs (s : ByteArray) (b k : Nat) : Prop := ∀ j, j < k → hx (byt s j) < b
theorem Digs.succ {s : ByteArray} {b k : Nat} (h : Digs s b k) (hk : hx (byt s k) < b) : Digs s b (k + 1) := fun j hj => by
  by_cases e : j = k
  · subst e; exact hk
  · exact h j (by omega)
def IsFw (s : ByteArray) (b : Nat) (r : Int) : Prop := (∃ k : Nat, k < s.size ∧ r = k ∧ b ≤ hx (byt s k) ∧ Digs s b k) ∨ (r = -1 ∧ Digs s b s.size)
theorem empty_is (s : ByteArray) : s.toList.isEmpty = decide (s.size = 0) := by
  have hd : s.toList = s.data.toList := Lib.toList_data s
  have hz : s.data.toList.length = s.size := by rw [Array.length_toList]; rfl
  rw [hd, Bool.eq_iff_iff]
  simp only [List.isEmpty_iff, decide_eq_true_eq]
  constructor
  · intro h; rw [h] at hz; simp at hz; omega
  · intro h; exact List.eq_nil_of_length_eq_zero (by omega)
set_option maxHeartbeats 2000000 in
theorem fw_any (s : ByteArray) (b : Nat) (w : World) (hs : s.size ≤ 9223372036854775807) (h0 : 0 < s.size) : Calls Tryd.prog 36 #[.string s, .int .i64 b] w fun e w' => ∃ r, e = .returned (.int .i64 r) ∧ IsFw s b r ∧ w' = w := by
  have he := empty_is s
  rw [decide_eq_false (by omega)] at he
  go_enter Tryd.func36, Tryd.ntmps36
  go_wp2
  go_loopw [10] (fun i wr => wr = w ∧ ∃ k : Nat, i = .int .i64 k ∧ k ≤ s.size ∧ Hid (Digs s b k)) (fun i _ => s.size - (intOf i).toNat)
  case atStart => exact ⟨rfl, 0, rfl, by omega, fun j hj => by omega⟩
  case round =>
    obtain ⟨rfl, k, rfl, hk, HD⟩ := hrel
    by_cases hlt : k < s.size
    · have hb := byt_eq s k hlt
      have kw := worth_any (byt s k) wr (byt_lt s k)
      obtain ⟨B, hB⟩ : ∃ B, byt s k = B := ⟨_, rfl⟩
      rw [hB] at hb kw
      obtain ⟨H, hH⟩ : ∃ H, hx B = H := ⟨_, rfl⟩
      rw [hH] at kw
      by_cases hw : b ≤ H
      · have hw' : (b : Int) ≤ (H : Int) := by omega
        go_wp2_with (go_at_call 48; refine kw.mono ?_; rintro e w' ⟨rfl, rfl⟩)
        go_ret
        exact ⟨_, rfl, .inl ⟨k, hlt, rfl, by rw [hB, hH]; exact hw, HD.out⟩, rfl⟩
      · have hw' : ¬ (b : Int) ≤ (H : Int) := by omega
        have HN : Hid (Digs s b (k + 1)) := HD.out.succ (by rw [hB, hH]; omega)
        go_wp2_with (go_at_call 48; refine kw.mono ?_; rintro e w' ⟨rfl, rfl⟩)
        exact ⟨⟨by first | rfl | trivial, k + 1, by go_num, by omega, HN⟩, by simp [intOf]; omega⟩
    · have : k = s.size := by omega
      subst this
      go_wp2
      go_ret
      exact ⟨_, rfl, .inr ⟨rfl, HD.out⟩, rfl⟩
theorem step_iff (n d b : Nat) (hb : 1 ≤ b) (hd : d ≤ 18446744073709551615) : n ≤ (18446744073709551615 - d) / b ↔ n * b + d ≤ 18446744073709551615 := by
  rw [Nat.le_div_iff_mul_le hb]
  omega
set_option maxHeartbeats 4000000 in
theorem sum_any (s : ByteArray) (b : Nat) (w : World) (hs : s.size ≤ 9223372036854775807) (hb1 : 2 ≤ b) (hb2 : b ≤ 36) (hD : Digs s b s.size) : Calls Tryd.prog 37 #[.string s, .int .i64 b] w fun e w' => e = .returned (if val s b s.size ≤ 18446744073709551615 then .tuple #[.int .u64 (val s b s.size), .bool true] else .tuple #[.int .u64 0, .bool false]) ∧ w' = w := by
  have hbz : ((b : Int) == 0) = false := beq_eq_false_iff_ne.2 (by omega)
  go_enter Tryd.func37, Tryd.ntmps37
  go_wp2
  go_loopw [6, 11] (fun n i wr => wr = w ∧ ∃ k : Nat, i = .int .i64 k ∧ k ≤ s.size ∧ n = .int .u64 (val s b k) ∧ val s b k ≤ 18446744073709551615) (fun _ i _ => s.size - (intOf i).toNat)
  case atStart => exact ⟨rfl, 0, rfl, by omega, rfl, by show (0 : Nat) ≤ _; omega⟩
  case round =>
    obtain ⟨rfl, k, rfl, hk, rfl, hv⟩ := hrel
    by_cases hlt : k < s.size
    · have hbt := byt_eq s k hlt
      have kw := worth_any (byt s k) wr (byt_lt s k)
      have hdk := hD k hlt
      have hnext : val s b (k + 1) = val s b k * b + hx (byt s k) := rfl
      have hmono := val_mono s b (by omega) (k + 1) (s.size - (k + 1))
      rw [show k + 1 + (s.size - (k + 1)) = s.size by omega] at hmono
      obtain ⟨B, hB⟩ : ∃ B, byt s k = B := ⟨_, rfl⟩
      rw [hB] at hbt kw hdk hnext
      obtain ⟨d, hd⟩ : ∃ d, hx B = d := ⟨_, rfl⟩
      rw [hd] at kw hdk hnext
      obtain ⟨n, hn⟩ : ∃ n, val s b k = n := ⟨_, rfl⟩
      rw [hn] at hv hnext ⊢
      have hst := step_iff n d b (by omega) (by omega)
      obtain ⟨q, hq⟩ : ∃ q, (18446744073709551615 - d) / b = q := ⟨_, rfl⟩
      rw [hq] at hst
      have hqi : ((18446744073709551615 : Int) - (d : Int)).tdiv (b : Int) = (q : Int) := by
        rw [Int.tdiv_eq_ediv_of_nonneg (by omega)]
        have : (18446744073709551615 : Int) - (d : Int) = ((18446744073709551615 - d : Nat) : Int) := by omega
        rw [this, ← hq]
        rfl
      have hq2 : ((18446744073709551615 : Int) - (d : Int)) / (b : Int) = (q : Int) := by
        rw [← hqi, Int.tdiv_eq_ediv_of_nonneg (by omega)]
      have hqb : q ≤ 18446744073709551615 := by rw [← hq]; exact Nat.le_trans (Nat.div_le_self _ _) (by omega)
      by_cases hc : n * b + d ≤ 18446744073709551615
      · have hle : ¬ (q : Int) < (n : Int) := by have := hst.2 hc; omega
        obtain ⟨m, hm⟩ : ∃ m, n * b = m := ⟨_, rfl⟩
        have hmi : (n : Int) * (b : Int) = (m : Int) := by rw [← hm]; simp
        have HN : Hid (val s b (k + 1) = m + d) := by show _ = _; rw [hnext, hm]
        rw [hm] at hc
        clear hst hq hmono hnext hqi hm
        go_wp2_with (go_at_call 48; refine kw.mono ?_; rintro e w' ⟨rfl, rfl⟩)
        exact ⟨⟨by first | rfl | trivial, k + 1, by go_num, by omega, by rw [HN.out]; simp, by rw [HN.out]; omega⟩, by simp [intOf]; omega⟩
      · have hgt : (q : Int) < (n : Int) := by
          by_cases h : n ≤ q
          · exact absurd (hst.1 h) hc
          · omega
        have HE : Hid (¬ val s b s.size ≤ 18446744073709551615) := by show ¬ _; omega
        clear hst hq hmono hnext hqi hc
        go_wp2_with (go_at_call 48; refine kw.mono ?_; rintro e w' ⟨rfl, rfl⟩)
        refine bodyPost_ret (v := .tuple #[.int .u64 0, .bool false]) (by simp [results, Tryd.results37, go_sem]) rfl ⟨by first | rfl | rw [if_neg HE.out], rfl⟩
    · have : k = s.size := by omega
      subst this
      have HE : Hid (val s b s.size ≤ 18446744073709551615) := hv
      go_wp2
      refine bodyPost_ret (v := .tuple #[.int .u64 (val s b s.size), .bool true]) (by simp [results, Tryd.results37, go_sem]) rfl ⟨by first | rfl | rw [if_pos HE.out], rfl⟩
end Go.Proofs.YtcjlplaepnpopaaDoor
