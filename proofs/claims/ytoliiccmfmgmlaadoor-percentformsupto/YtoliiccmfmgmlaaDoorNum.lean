/-
  The contract of the coded byte at the front of a text: what its two digits say, and whether they are digits. Condition: the text is no longer than one that comes in can be.
-/
import Derived.Test.YtoliiccmfmgmlaaDoorHx
import Derived.LoopN
import Derived.Lib.Strings
import Derived.LoopN
import Derived.LoopN
import Derived.LoopN
import Derived.LoopN
namespace Go.Proofs.YtoliiccmfmgmlaaDoor
open Go.RowKit
/-- The first of two bytes that is no digit to the base 16; -1: both are. -/
def fw2 (b1 b2 : Nat) : Int := if 16 ≤ hx b1 then 0 else if 16 ≤ hx b2 then 1 else -1
theorem toList_len (s : ByteArray) : s.toList.length = s.size := by
  rw [Lib.toList_data, Lib.size_eq]
set_option maxRecDepth 100000 in
set_option maxHeartbeats 1600000 in
theorem firstWrong2 (t : ByteArray) (b1 b2 : Nat) (w : World) (ht : t.size = 2) (e1 : byt t 0 = b1) (e2 : byt t 1 = b2) : Calls Tryd.prog 69 #[.string t, .int .i64 16] w fun e w' => e = .returned (.int .i64 (fw2 b1 b2)) ∧ w' = w := by
  have q0 : (t[0]'(by omega)).toNat = b1 := (byt_eq t 0 (by omega)).trans e1
  have q1 : (t[1]'(by omega)).toNat = b2 := (byt_eq t 1 (by omega)).trans e2
  have l1 : b1 < 256 := by rw [← e1]; exact byt_lt _ _
  have l2 : b2 < 256 := by rw [← e2]; exact byt_lt _ _
  have k1 := worth_any b1 w l1
  have k2 := worth_any b2 w l2
  have hne : t.toList.isEmpty = false := by
    have : t.toList.length = 2 := by rw [← ht]; exact toList_len t
    cases h : t.toList with
    | nil => rw [h] at this; cases this
    | cons a l => rfl
  have m1 := hx_le b1
  have m2 := hx_le b2
  have HR : Hid (fw2 b1 b2 = if 16 ≤ hx b1 then 0 else if 16 ≤ hx b2 then 1 else -1) := rfl
  obtain ⟨R, hR⟩ : ∃ R, fw2 b1 b2 = R := ⟨_, rfl⟩
  obtain ⟨x1, hx1⟩ : ∃ x, hx b1 = x := ⟨_, rfl⟩
  obtain ⟨x2, hx2⟩ : ∃ x, hx b2 = x := ⟨_, rfl⟩
  rw [hx1] at k1 m1 HR; rw [hx2] at k2 m2 HR; rw [hR] at HR ⊢
  clear hx1 hx2 e1 e2 hR
  go_enter Tryd.func69, Tryd.ntmps69
  go_wp2
  go_loopw [10] (fun i wr => wr = w ∧ (i = .int .i64 0 ∨ (i = .int .i64 1 ∧ x1 < 16) ∨ (i = .int .i64 2 ∧ x1 < 16 ∧ x2 < 16))) (fun i _ => 2 - (intOf i).toNat)
  case atStart => exact ⟨rfl, .inl rfl⟩
  case round =>
    obtain ⟨rfl, rfl | ⟨rfl, h1⟩ | ⟨rfl, h1, h2⟩⟩ := hrel
    · by_cases c1 : (16 : Int) ≤ (x1 : Int)
      · go_wp2_with (go_at_call 73; refine k1.mono ?_; rintro e w' ⟨rfl, rfl⟩)
        go_ret
        exact ⟨ret_int (HR.out.trans (if_pos (by omega))).symm, rfl⟩
      · go_wp2_with (go_at_call 73; refine k1.mono ?_; rintro e w' ⟨rfl, rfl⟩)
        exact ⟨⟨trivial, .inr (.inl ⟨rfl, by omega⟩)⟩, by simp [intOf]⟩
    · by_cases c1 : (16 : Int) ≤ (x2 : Int)
      · go_wp2_with (go_at_call 73; refine k2.mono ?_; rintro e w' ⟨rfl, rfl⟩)
        go_ret
        exact ⟨ret_int (HR.out.trans ((if_neg (by omega)).trans (if_pos (by omega)))).symm, rfl⟩
      · go_wp2_with (go_at_call 73; refine k2.mono ?_; rintro e w' ⟨rfl, rfl⟩)
        exact ⟨⟨trivial, .inr (.inr ⟨rfl, by omega⟩)⟩, by simp [intOf]⟩
    · go_wp2
      go_ret
      exact ⟨ret_int (HR.out.trans ((if_neg (by omega)).trans (if_neg (by omega)))).symm, rfl⟩
set_option maxRecDepth 100000 in
set_option maxHeartbeats 1600000 in
theorem sum2 (t : ByteArray) (b1 b2 : Nat) (w : World) (ht : t.size = 2) (e1 : byt t 0 = b1) (e2 : byt t 1 = b2) (h1 : hx b1 < 16) (h2 : hx b2 < 16) : Calls Tryd.prog 70 #[.string t, .int .i64 16] w fun e w' => e = .returned (.tuple #[.int .u64 (16 * hx b1 + hx b2 : Nat), .bool true]) ∧ w' = w := by
  have q0 : (t[0]'(by omega)).toNat = b1 := (byt_eq t 0 (by omega)).trans e1
  have q1 : (t[1]'(by omega)).toNat = b2 := (byt_eq t 1 (by omega)).trans e2
  have l1 : b1 < 256 := by rw [← e1]; exact byt_lt _ _
  have l2 : b2 < 256 := by rw [← e2]; exact byt_lt _ _
  have k1 := worth_any b1 w l1
  have k2 := worth_any b2 w l2
  obtain ⟨x1, hx1⟩ : ∃ x, hx b1 = x := ⟨_, rfl⟩
  obtain ⟨x2, hx2⟩ : ∃ x, hx b2 = x := ⟨_, rfl⟩
  rw [hx1] at k1 h1 ⊢; rw [hx2] at k2 h2 ⊢
  clear hx1 hx2 e1 e2
  have d1 : (18446744073709551615 - (x1 : Int)).tdiv 16 = 1152921504606846975 := by
    rw [Int.tdiv_eq_ediv_of_nonneg (by omega)]; omega
  have d2 : (18446744073709551615 - (x2 : Int)).tdiv 16 = 1152921504606846975 := by
    rw [Int.tdiv_eq_ediv_of_nonneg (by omega)]; omega
  go_enter Tryd.func70, Tryd.ntmps70
  go_wp2
  go_loopw [11, 6] (fun i n wr => wr = w ∧ ((i = .int .i64 0 ∧ n = .int .u64 0) ∨ (i = .int .i64 1 ∧ n = .int .u64 x1) ∨ (i = .int .i64 2 ∧ n = .int .u64 (16 * x1 + x2 : Nat)))) (fun i _ _ => 2 - (intOf i).toNat)
  case atStart => exact ⟨rfl, .inl ⟨rfl, rfl⟩⟩
  case round =>
    obtain ⟨rfl, ⟨rfl, rfl⟩ | ⟨rfl, rfl⟩ | ⟨rfl, rfl⟩⟩ := hrel
    · go_wp2_with (go_at_call 73; refine k1.mono ?_; rintro e w' ⟨rfl, rfl⟩)
      exact ⟨⟨trivial, .inr (.inl ⟨rfl, by go_num⟩)⟩, by simp [intOf]⟩
    · go_wp2_with (go_at_call 73; refine k2.mono ?_; rintro e w' ⟨rfl, rfl⟩)
      exact ⟨⟨trivial, .inr (.inr ⟨rfl, by go_num⟩)⟩, by simp [intOf]⟩
    · go_wp2
      exact bodyPost_ret (v := .tuple #[.int .u64 (16 * x1 + x2 : Nat), .bool true]) (by simp [results, Tryd.results70, go_sem]) rfl ⟨rfl, rfl⟩
theorem isBase16 (w : World) : Calls Tryd.prog 68 #[.int .i64 16] w fun e w' => e = .returned (.bool true) ∧ w' = w := by
  go_enter Tryd.func68, Tryd.ntmps68
  go_wp2
  go_ret
  exact ⟨rfl, rfl⟩
/-- Number of two bytes to the base 16. -/
def num2 (b1 b2 : Nat) : Value := if 16 ≤ hx b1 then .tuple #[.int .u64 0, .int .i64 0, .int .i64 12] else if 16 ≤ hx b2 then .tuple #[.int .u64 0, .int .i64 1, .int .i64 12] else .tuple #[.int .u64 (16 * hx b1 + hx b2 : Nat), .int .i64 0, .int .i64 0]
set_option maxRecDepth 100000 in
set_option maxHeartbeats 1600000 in
theorem number2 (t : ByteArray) (b1 b2 : Nat) (w : World) (ht : t.size = 2) (e1 : byt t 0 = b1) (e2 : byt t 1 = b2) : Calls Tryd.prog 62 #[.string t, .int .i64 16] w fun e w' => e = .returned (num2 b1 b2) ∧ w' = w := by
  have k0 := isBase16 w
  have k1 := firstWrong2 t b1 b2 w ht e1 e2
  by_cases c1 : 16 ≤ hx b1
  · rw [show fw2 b1 b2 = 0 from if_pos c1] at k1
    rw [show num2 b1 b2 = _ from if_pos c1]
    clear c1
    go_enter Tryd.func62, Tryd.ntmps62
    go_wp2_with (first | (go_at_call 68; refine k0.mono ?_; rintro e w' ⟨rfl, rfl⟩) | (go_at_call 69; refine k1.mono ?_; rintro e w' ⟨rfl, rfl⟩))
    exact bodyPost_ret (v := .tuple #[.int .u64 0, .int .i64 0, .int .i64 12]) (by simp [results, Tryd.results62, go_sem]) rfl ⟨rfl, rfl⟩
  · by_cases c2 : 16 ≤ hx b2
    · rw [show fw2 b1 b2 = 1 from (if_neg c1).trans (if_pos c2)] at k1
      rw [show num2 b1 b2 = _ from (if_neg c1).trans (if_pos c2)]
      clear c1 c2
      go_enter Tryd.func62, Tryd.ntmps62
      go_wp2_with (first | (go_at_call 68; refine k0.mono ?_; rintro e w' ⟨rfl, rfl⟩) | (go_at_call 69; refine k1.mono ?_; rintro e w' ⟨rfl, rfl⟩))
      exact bodyPost_ret (v := .tuple #[.int .u64 0, .int .i64 1, .int .i64 12]) (by simp [results, Tryd.results62, go_sem]) rfl ⟨rfl, rfl⟩
    · rw [show fw2 b1 b2 = -1 from (if_neg c1).trans (if_neg c2)] at k1
      rw [show num2 b1 b2 = _ from (if_neg c1).trans (if_neg c2)]
      have k2 := sum2 t b1 b2 w ht e1 e2 (by omega) (by omega)
      obtain ⟨X, hX⟩ : ∃ X, 16 * hx b1 + hx b2 = X := ⟨_, rfl⟩
      rw [hX] at k2 ⊢
      clear c1 c2 hX
      go_enter Tryd.func62, Tryd.ntmps62
      go_wp2_with (first | (go_at_call 68; refine k0.mono ?_; rintro e w' ⟨rfl, rfl⟩) | (go_at_call 69; refine k1.mono ?_; rintro e w' ⟨rfl, rfl⟩) | (go_at_call 70; refine k2.mono ?_; rintro e w' ⟨rfl, rfl⟩))
      exact bodyPost_ret (v := .tuple #[.int .u64 X, .int .i64 0, .int .i64 0]) (by simp [results, Tryd.results62, go_sem]) rfl ⟨rfl, rfl⟩
/-- What codedByte answers. -/
def codA (n b1 b2 : Nat) : Value := if n < 3 then .tuple #[.int .u8 0, .bool false] else if 16 ≤ hx b1 ∨ 16 ≤ hx b2 then .tuple #[.int .u8 0, .bool false] else .tuple #[.int .u8 (16 * hx b1 + hx b2 : Nat), .bool true]
set_option maxRecDepth 100000 in
set_option maxHeartbeats 1600000 in
theorem coded_any (t : ByteArray) (w : World) (ht : t.size ≤ 140737488351232) : Calls Tryd.prog 55 #[.string t] w fun e w' => e = .returned (codA t.size (byt t 1) (byt t 2)) ∧ w' = w := by
  by_cases h3 : t.size < 3
  · rw [show codA t.size (byt t 1) (byt t 2) = _ from if_pos h3]
    have h3i : (t.size : Int) < 3 := by omega
    go_enter Tryd.func55, Tryd.ntmps55
    go_wp2
    exact bodyPost_ret (v := .tuple #[.int .u8 0, .bool false]) (by simp [results, Tryd.results55, go_sem]) rfl ⟨rfl, rfl⟩
  · have h3i : ¬ (t.size : Int) < 3 := by omega
    have h3j : (3 : Int) ≤ (t.size : Int) := by omega
    have hz : (t.extract 1 3).size = 2 := by simp; omega
    have k := number2 (t.extract 1 3) (byt t 1) (byt t 2) w hz (byt_extract t 1 3 0 (by omega) (by omega)) (byt_extract t 1 3 1 (by omega) (by omega))
    by_cases c1 : 16 ≤ hx (byt t 1)
    · rw [show num2 (byt t 1) (byt t 2) = _ from if_pos c1] at k
      rw [show codA t.size (byt t 1) (byt t 2) = _ from (if_neg h3).trans (if_pos (.inl c1))]
      clear c1
      go_enter Tryd.func55, Tryd.ntmps55
      go_wp2_with (first | (go_at_call 62; refine k.mono ?_; rintro e w' ⟨rfl, rfl⟩))
      exact bodyPost_ret (v := .tuple #[.int .u8 0, .bool false]) (by simp [results, Tryd.results55, go_sem]) rfl ⟨rfl, rfl⟩
    · by_cases c2 : 16 ≤ hx (byt t 2)
      · rw [show num2 (byt t 1) (byt t 2) = _ from (if_neg c1).trans (if_pos c2)] at k
        rw [show codA t.size (byt t 1) (byt t 2) = _ from (if_neg h3).trans (if_pos (.inr c2))]
        clear c1 c2
        go_enter Tryd.func55, Tryd.ntmps55
        go_wp2_with (first | (go_at_call 62; refine k.mono ?_; rintro e w' ⟨rfl, rfl⟩))
        exact bodyPost_ret (v := .tuple #[.int .u8 0, .bool false]) (by simp [results, Tryd.results55, go_sem]) rfl ⟨rfl, rfl⟩
      · rw [show num2 (byt t 1) (byt t 2) = _ from (if_neg c1).trans (if_neg c2)] at k
        rw [show codA t.size (byt t 1) (byt t 2) = _ from (if_neg h3).trans (if_neg (by omega))]
        obtain ⟨X, hX⟩ : ∃ X, 16 * hx (byt t 1) + hx (byt t 2) = X := ⟨_, rfl⟩
        have hl : (X : Int) < 256 := by omega
        rw [hX] at k ⊢
        clear c1 c2 hX
        go_enter Tryd.func55, Tryd.ntmps55
        go_wp2_with (first | (go_at_call 62; refine k.mono ?_; rintro e w' ⟨rfl, rfl⟩))
        exact bodyPost_ret (v := .tuple #[.int .u8 X, .bool true]) (by simp [results, Tryd.results55, go_sem]) rfl ⟨rfl, rfl⟩
/-- The part that begins at a byte, as a struct's cells. -/
def pcs (s : ByteArray) (k : Nat) : Array Value := #[.int .i64 k, .int .i64 (pz s k), .int .u8 (sy s k), .bool (cd s k), .bool (sr s k)]
set_option maxRecDepth 100000 in
set_option maxHeartbeats 1600000 in
theorem partAt_any (s : ByteArray) (k : Nat) (w : World) (hs : s.size ≤ 140737488351232) (hk : k < s.size) : Calls Tryd.prog 37 #[.string s, .int .i64 k] w fun e w' => e = .returned (.agg (pcs s k)) ∧ Below w.heap.size w w' := by
  have hki : (k : Int) < (s.size : Int) := by omega
  have hkj : (k : Int) ≤ (s.size : Int) := by omega
  have q0 : (s[k]'hk).toNat = byt s k := byt_eq s k hk
  have l0 := byt_lt s k
  by_cases h37 : byt s k = 37
  · have kc := fun w => coded_any (s.extract k s.size) w (by simp; omega)
    have hz : (s.extract k s.size).size = s.size - k := by simp
    rw [hz, byt_tail, byt_tail] at kc
    cases hc : cd s k
    · have e : pcs s k = #[.int .i64 k, .int .i64 1, .int .u8 37, .bool false, .bool true] := by
        unfold pcs pz sy sr; rw [hc, h37]; rfl
      have ec : codA (s.size - k) (byt s (k + 1)) (byt s (k + 2)) = .tuple #[.int .u8 0, .bool false] := by
        unfold codA
        by_cases a1 : s.size - k < 3
        · rw [if_pos a1]
        · rw [if_neg a1, if_pos]
          have : ¬ cd s k = true := by rw [hc]; simp
          rw [cd_iff] at this
          omega
      rw [e]
      have kc2 := fun w => (ec ▸ kc w)
      clear kc ec e hc
      rw [h37] at q0
      go_enter Tryd.func37, Tryd.ntmps37
      go_wp2_with (first | (go_at_call 55; refine (kc2 _).mono ?_; rintro e w' ⟨rfl, rfl⟩))
      exact bodyPost_ret (v := .agg #[.int .i64 k, .int .i64 1, .int .u8 37, .bool false, .bool true]) (by simp [results, Tryd.results37, go_sem]) rfl ⟨rfl, (Below.refl _ w).alloc (Nat.le_refl _) _⟩
    · have e : pcs s k = #[.int .i64 k, .int .i64 3, .int .u8 (16 * hx (byt s (k + 1)) + hx (byt s (k + 2)) : Nat), .bool true, .bool false] := by
        unfold pcs pz sy sr; rw [hc]; rfl
      have ec : codA (s.size - k) (byt s (k + 1)) (byt s (k + 2)) = .tuple #[.int .u8 (16 * hx (byt s (k + 1)) + hx (byt s (k + 2)) : Nat), .bool true] := by
        have := (cd_iff s k).1 hc
        unfold codA
        rw [if_neg (by omega), if_neg (by omega)]
      rw [e]
      have kc2 := fun w => (ec ▸ kc w)
      obtain ⟨X, hX⟩ : ∃ X, 16 * hx (byt s (k + 1)) + hx (byt s (k + 2)) = X := ⟨_, rfl⟩
      rw [hX] at kc2 ⊢
      clear kc ec e hc hX
      rw [h37] at q0
      go_enter Tryd.func37, Tryd.ntmps37
      go_wp2_with (first | (go_at_call 55; refine (kc2 _).mono ?_; rintro e w' ⟨rfl, rfl⟩))
      exact bodyPost_ret (v := .agg #[.int .i64 k, .int .i64 3, .int .u8 X, .bool true, .bool false]) (by simp [results, Tryd.results37, go_sem]) rfl ⟨rfl, (Below.refl _ w).alloc (Nat.le_refl _) _⟩
  · have hc : cd s k = false := by
      have : ¬ cd s k = true := by rw [cd_iff]; omega
      simpa using this
    have e : pcs s k = #[.int .i64 k, .int .i64 1, .int .u8 (byt s k), .bool false, .bool false] := by
      have : (byt s k == 37) = false := beq_false_of_ne h37
      unfold pcs pz sy sr; rw [hc, this]; rfl
    rw [e]
    obtain ⟨X, hX⟩ : ∃ X, byt s k = X := ⟨_, rfl⟩
    rw [hX] at q0 h37 l0 ⊢
    have hne : ((X : Int) == 37) = false := beq_false_of_ne (by omega)
    clear hX e hc
    go_enter Tryd.func37, Tryd.ntmps37
    go_wp2
    exact bodyPost_ret (v := .agg #[.int .i64 k, .int .i64 1, .int .u8 X, .bool false, .bool false]) (by simp [results, Tryd.results37, go_sem]) rfl ⟨rfl, (Below.refl _ w).alloc (Nat.le_refl _) _⟩
end Go.Proofs.YtoliiccmfmgmlaaDoor
