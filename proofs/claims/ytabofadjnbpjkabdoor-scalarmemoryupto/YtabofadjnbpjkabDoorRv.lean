/-
  What a piece says is a scalar value; a right piece is what its value is written as. About texts alone: no program in it.
-/
import Derived.Test.YtabofadjnbpjkabDoorRt
import Derived.Test.YtabofadjnbpjkabDoorFir
namespace Go.Proofs.YtabofadjnbpjkabDoor
open Go.RowKit Go.Lib
/-- The second byte of a right piece of two bytes and more. -/
theorem right_lo (n b0 b1 b2 b3 : Nat) (hw : wrN n b0 b1 b2 b3 = false) (hz : 2 ≤ szN b0) : loN b0 ≤ b1 ∧ b1 ≤ hiN b0 := by
  rw [wr_not] at hw
  unfold stN at hw
  repeat' split at hw
  all_goals omega
theorem lo_240 : loN 240 = 144 := by decide
theorem lo_224 : loN 224 = 160 := by decide
theorem hi_237 : hiN 237 = 159 := by decide
theorem hi_244 : hiN 244 = 143 := by decide
/-- The numbers of a right piece. -/
theorem right_cases (n b0 b1 b2 b3 : Nat) (hw : wrN n b0 b1 b2 b3 = false) :
    (stN n b0 b1 b2 b3 = 1 ∧ ruN n b0 b1 b2 b3 = b0 ∧ b0 < 128) ∨
    (stN n b0 b1 b2 b3 = 2 ∧ ruN n b0 b1 b2 b3 = (b0 - 192) * 64 + (b1 - 128) ∧ 194 ≤ b0 ∧ b0 ≤ 223 ∧ 128 ≤ b1 ∧ b1 ≤ 191) ∨
    (stN n b0 b1 b2 b3 = 3 ∧ ruN n b0 b1 b2 b3 = (b0 - 224) * 4096 + (b1 - 128) * 64 + (b2 - 128) ∧ 224 ≤ b0 ∧ b0 ≤ 239 ∧ 128 ≤ b1 ∧ b1 ≤ 191 ∧ 128 ≤ b2 ∧ b2 ≤ 191 ∧ (b0 = 224 → 160 ≤ b1) ∧ (b0 = 237 → b1 ≤ 159)) ∨
    (stN n b0 b1 b2 b3 = 4 ∧ ruN n b0 b1 b2 b3 = (b0 - 240) * 262144 + (b1 - 128) * 4096 + (b2 - 128) * 64 + (b3 - 128) ∧ 240 ≤ b0 ∧ b0 ≤ 244 ∧ 128 ≤ b1 ∧ b1 ≤ 191 ∧ 128 ≤ b2 ∧ b2 ≤ 191 ∧ 128 ≤ b3 ∧ b3 ≤ 191 ∧ (b0 = 240 → 144 ≤ b1) ∧ (b0 = 244 → b1 ≤ 143)) := by
  have hr := ru_right _ _ _ _ _ hw
  have hst := (wr_not _ _ _ _ _).1 hw
  rcases sz_cases b0 with ⟨h, e⟩ | ⟨h, h', e⟩ | ⟨h, h', e⟩ | ⟨h, h', e⟩ | ⟨_, e⟩
  · rw [if_pos e] at hr
    exact .inl ⟨by omega, hr, h⟩
  · have q1 := right_two _ _ _ _ _ hw (by omega)
    rw [if_neg (by omega), if_pos e] at hr
    exact .inr (.inl ⟨by omega, hr, h, h', q1.2.1, q1.2.2⟩)
  · have q1 := right_two _ _ _ _ _ hw (by omega)
    have q2 := right_three _ _ _ _ _ hw (by omega)
    have q3 := right_lo _ _ _ _ _ hw (by omega)
    rw [if_neg (by omega), if_neg (by omega), if_pos e] at hr
    exact .inr (.inr (.inl ⟨by omega, hr, h, h', q1.2.1, q1.2.2, q2.2.1, q2.2.2, fun x => by subst x; have := lo_224; omega, fun x => by subst x; have := hi_237; omega⟩))
  · have q1 := right_two _ _ _ _ _ hw (by omega)
    have q2 := right_three _ _ _ _ _ hw (by omega)
    have q4 := right_four _ _ _ _ _ hw (by omega)
    have q3 := right_lo _ _ _ _ _ hw (by omega)
    rw [if_neg (by omega), if_neg (by omega), if_neg (by omega)] at hr
    exact .inr (.inr (.inr ⟨by omega, hr, h, h', q1.2.1, q1.2.2, q2.2.1, q2.2.2, q4.2.1, q4.2.2, fun x => by subst x; have := lo_240; omega, fun x => by subst x; have := hi_244; omega⟩))
  · exfalso
    have : 1 ≤ stN n b0 b1 b2 b3 := by unfold stN; repeat' split
                                       all_goals omega
    omega
theorem valid_ru (s : ByteArray) (k : Nat) : Lib.validRune (pRu s k : Int) = true := by
  have hv : ∀ r : Int, (0 ≤ r ∧ r < 55296) ∨ (57343 < r ∧ r ≤ 1114111) → Lib.validRune r = true := fun r h => by simpa [Lib.validRune] using h
  apply hv
  cases hw : pWr s k
  · unfold pWr at hw
    have := right_cases _ _ _ _ _ hw
    unfold pRu
    omega
  · rw [pRu_wrong s k hw]
    omega
/-- A right piece is what its value is written as. -/
theorem enc1_ru (s : ByteArray) (k : Nat) (hw : pWr s k = false) : Lies s k (enc1 (pRu s k : Int)) ∧ (enc1 (pRu s k : Int)).length = pSt s k := by
  unfold pWr at hw
  have hc := right_cases _ _ _ _ _ hw
  unfold pRu pSt
  obtain ⟨x, hx⟩ : ∃ x, ruN (s.size - k) (byt s k) (byt s (k + 1)) (byt s (k + 2)) (byt s (k + 3)) = x := ⟨_, rfl⟩
  obtain ⟨t, ht⟩ : ∃ t, stN (s.size - k) (byt s k) (byt s (k + 1)) (byt s (k + 2)) (byt s (k + 3)) = t := ⟨_, rfl⟩
  rw [hx, ht] at hc ⊢
  rcases hc with hc | hc | hc | hc
  · have e : enc1 (x : Int) = [(x : Int)] := by unfold enc1; rw [if_pos (by omega)]
    rw [e]
    refine ⟨fun j hj => ?_, by simp; omega⟩
    have : j = 0 := by simp at hj; omega
    subst this
    simp [List.getD]
    omega
  · have e : enc1 (x : Int) = [192 + (x : Int) / 64, 128 + (x : Int) % 64] := by unfold enc1; rw [if_neg (by omega), if_pos (by omega)]
    rw [e]
    refine ⟨fun j hj => ?_, by simp; omega⟩
    match j, hj with
    | 0, _ => simp [List.getD]; omega
    | 1, _ => simp [List.getD]; omega
  · have e : enc1 (x : Int) = [224 + (x : Int) / 4096, 128 + (x : Int) / 64 % 64, 128 + (x : Int) % 64] := by unfold enc1; rw [if_neg (by omega), if_neg (by omega), if_pos (by omega)]
    rw [e]
    refine ⟨fun j hj => ?_, by simp; omega⟩
    match j, hj with
    | 0, _ => simp [List.getD]; omega
    | 1, _ => simp [List.getD]; omega
    | 2, _ => simp [List.getD]; omega
  · have e : enc1 (x : Int) = [240 + (x : Int) / 262144, 128 + (x : Int) / 4096 % 64, 128 + (x : Int) / 64 % 64, 128 + (x : Int) % 64] := by unfold enc1; rw [if_neg (by omega), if_neg (by omega), if_neg (by omega)]
    rw [e]
    refine ⟨fun j hj => ?_, by simp; omega⟩
    match j, hj with
    | 0, _ => simp [List.getD]; omega
    | 1, _ => simp [List.getD]; omega
    | 2, _ => simp [List.getD]; omega
    | 3, _ => simp [List.getD]; omega
/-- How a right piece's value is wide, and how long a wrong piece is at most. -/
theorem width_ru (s : ByteArray) (k : Nat) (hw : pWr s k = false) : widthZ (pRu s k : Int) = pSt s k := by
  have hv := valid_ru s k
  unfold pWr at hw
  have hc := right_cases _ _ _ _ _ hw
  unfold widthZ
  rw [if_pos hv]
  unfold pRu pSt
  repeat' split
  all_goals omega
theorem wrong_three (s : ByteArray) (k : Nat) (hw : pWr s k = true) : pSt s k ≤ 3 := by
  unfold pWr at hw
  rw [wr_iff] at hw
  unfold pSt
  have := sz_cases (byt s k)
  unfold stN at hw ⊢
  repeat' split at hw
  all_goals (repeat' split)
  all_goals omega
end Go.Proofs.YtabofadjnbpjkabDoor
