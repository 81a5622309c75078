/-
  Plain arithmetic of UTF-8 read with loss: the pieces of a text by the document's table, what the library's decoder answers at each of them, and where a wrong piece ends. No program is run here.
-/
import Derived.Lib.DecodeNEq
namespace Go.Proofs.YtabofadjnbpjkabDoor
open Go Go.Lib
/-- How many bytes a sequence with that first byte has; 0: none begins so. What may stand second. -/
def szN (b0 : Nat) : Nat := if b0 < 128 then 1 else if 194 ≤ b0 ∧ b0 ≤ 223 then 2 else if 224 ≤ b0 ∧ b0 ≤ 239 then 3 else if 240 ≤ b0 ∧ b0 ≤ 244 then 4 else 0
def loN (b0 : Nat) : Nat := if b0 = 224 then 160 else if b0 = 240 then 144 else 128
def hiN (b0 : Nat) : Nat := if b0 = 237 then 159 else if b0 = 244 then 143 else 191
/-- How many bytes of the longest beginning of a sequence stand at the front. -/
def stN (n b0 b1 b2 b3 : Nat) : Nat :=
  if szN b0 < 2 then 1
  else if n < 2 ∨ b1 < loN b0 ∨ hiN b0 < b1 then 1
  else if szN b0 < 3 then 2
  else if n < 3 ∨ b2 < 128 ∨ 191 < b2 then 2
  else if szN b0 < 4 then 3
  else if n < 4 ∨ b3 < 128 ∨ 191 < b3 then 3
  else 4
/-- Whether the piece is wrong. -/
def wrN (n b0 b1 b2 b3 : Nat) : Bool := stN n b0 b1 b2 b3 != szN b0
/-- What the piece says. -/
def ruN (n b0 b1 b2 b3 : Nat) : Nat :=
  if wrN n b0 b1 b2 b3 = true then 65533
  else if szN b0 = 1 then b0
  else if szN b0 = 2 then (b0 - 192) * 64 + (b1 - 128)
  else if szN b0 = 3 then (b0 - 224) * 4096 + (b1 - 128) * 64 + (b2 - 128)
  else (b0 - 240) * 262144 + (b1 - 128) * 4096 + (b2 - 128) * 64 + (b3 - 128)
theorem sz_cases (b0 : Nat) : (b0 < 128 ∧ szN b0 = 1) ∨ (194 ≤ b0 ∧ b0 ≤ 223 ∧ szN b0 = 2) ∨ (224 ≤ b0 ∧ b0 ≤ 239 ∧ szN b0 = 3) ∨ (240 ≤ b0 ∧ b0 ≤ 244 ∧ szN b0 = 4) ∨ (((128 ≤ b0 ∧ b0 < 194) ∨ 244 < b0) ∧ szN b0 = 0) := by
  unfold szN
  repeat' split
  all_goals omega
theorem st_le (n b0 b1 b2 b3 : Nat) (hn : 1 ≤ n) : 1 ≤ stN n b0 b1 b2 b3 ∧ stN n b0 b1 b2 b3 ≤ 4 ∧ stN n b0 b1 b2 b3 ≤ n := by
  unfold stN
  repeat' split
  all_goals omega
theorem wr_iff (n b0 b1 b2 b3 : Nat) : wrN n b0 b1 b2 b3 = true ↔ stN n b0 b1 b2 b3 ≠ szN b0 := by simp [wrN]
theorem wr_not (n b0 b1 b2 b3 : Nat) : wrN n b0 b1 b2 b3 = false ↔ stN n b0 b1 b2 b3 = szN b0 := by
  rw [← Bool.not_eq_true, wr_iff]; omega
/-- What the library's decoder answers, by the pieces. -/
theorem dec_right (n b0 b1 b2 b3 : Nat) (hn : 1 ≤ n) (h0 : b0 < 256) (h1 : b1 < 256) (h2 : b2 < 256) (h3 : b3 < 256) (hw : wrN n b0 b1 b2 b3 = false) : decodeN n b0 b1 b2 b3 = (ruN n b0 b1 b2 b3, stN n b0 b1 b2 b3) := by
  have hr : ruN n b0 b1 b2 b3 = if szN b0 = 1 then b0 else if szN b0 = 2 then (b0 - 192) * 64 + (b1 - 128) else if szN b0 = 3 then (b0 - 224) * 4096 + (b1 - 128) * 64 + (b2 - 128) else (b0 - 240) * 262144 + (b1 - 128) * 4096 + (b2 - 128) * 64 + (b3 - 128) := by
    unfold ruN; rw [hw]; simp
  rw [hr]
  rw [wr_not] at hw
  rcases sz_cases b0 with ⟨h, e⟩ | ⟨h, h', e⟩ | ⟨h, h', e⟩ | ⟨h, h', e⟩ | ⟨h, e⟩
  · have : stN n b0 b1 b2 b3 = 1 := by rw [hw, e]
    rw [this]
    simp [decodeN, h, e]
  · rw [e] at hw
    have hc : ¬ (n < 2 ∨ b1 < loN b0 ∨ hiN b0 < b1) := fun hc => by simp [stN, e, hc] at hw
    have hl : loN b0 = 128 := by unfold loN; repeat' split
                                 all_goals omega
    have hh : hiN b0 = 191 := by unfold hiN; repeat' split
                                 all_goals omega
    rw [hw, e]
    simp only [hl, hh] at hc
    unfold decodeN
    rw [if_neg (by omega), if_pos (by omega), if_pos (by omega)]
    apply Prod.ext <;> simp <;> omega
  · rw [e] at hw
    have hc : ¬ (n < 2 ∨ b1 < loN b0 ∨ hiN b0 < b1) := fun hc => by simp [stN, e, hc] at hw
    have hc2 : ¬ (n < 3 ∨ b2 < 128 ∨ 191 < b2) := fun hc2 => by simp [stN, e, hc, hc2] at hw
    rw [hw, e]
    have hlo : (b0 = 224 ∧ loN b0 = 160) ∨ (b0 ≠ 224 ∧ loN b0 = 128) := by unfold loN; repeat' split
                                                                           all_goals omega
    have hhi : (b0 = 237 ∧ hiN b0 = 159) ∨ (b0 ≠ 237 ∧ hiN b0 = 191) := by unfold hiN; repeat' split
                                                                           all_goals omega
    unfold decodeN
    rw [if_neg (by omega), if_neg (by omega), if_pos (by omega), if_pos (by omega)]
    apply Prod.ext <;> simp <;> omega
  · rw [e] at hw
    have hc : ¬ (n < 2 ∨ b1 < loN b0 ∨ hiN b0 < b1) := fun hc => by simp [stN, e, hc] at hw
    have hc2 : ¬ (n < 3 ∨ b2 < 128 ∨ 191 < b2) := fun hc2 => by simp [stN, e, hc, hc2] at hw
    have hc3 : ¬ (n < 4 ∨ b3 < 128 ∨ 191 < b3) := fun hc3 => by simp [stN, e, hc, hc2, hc3] at hw
    rw [hw, e]
    have hlo : (b0 = 240 ∧ loN b0 = 144) ∨ (b0 ≠ 240 ∧ loN b0 = 128) := by unfold loN; repeat' split
                                                                           all_goals omega
    have hhi : (b0 = 244 ∧ hiN b0 = 143) ∨ (b0 ≠ 244 ∧ hiN b0 = 191) := by unfold hiN; repeat' split
                                                                           all_goals omega
    unfold decodeN
    rw [if_neg (by omega), if_neg (by omega), if_neg (by omega), if_pos (by omega), if_pos (by omega)]
    apply Prod.ext <;> simp <;> omega
  · rw [e] at hw
    have := st_le n b0 b1 b2 b3 hn
    omega
theorem dec_wrong (n b0 b1 b2 b3 : Nat) (_ : 1 ≤ n) (h0 : b0 < 256) (h1 : b1 < 256) (h2 : b2 < 256) (h3 : b3 < 256) (hw : wrN n b0 b1 b2 b3 = true) : decodeN n b0 b1 b2 b3 = (65533, 1) := by
  rw [wr_iff] at hw
  unfold stN at hw
  rcases sz_cases b0 with ⟨h, e⟩ | ⟨h, h', e⟩ | ⟨h, h', e⟩ | ⟨h, h', e⟩ | ⟨h, e⟩
  · simp [e] at hw
  · have hl : loN b0 = 128 := by unfold loN; repeat' split
                                 all_goals omega
    have hh : hiN b0 = 191 := by unfold hiN; repeat' split
                                 all_goals omega
    rw [e, hl, hh] at hw
    have hbad : n < 2 ∨ b1 < 128 ∨ 191 < b1 := by
      by_cases c1 : (n < 2 ∨ b1 < 128 ∨ 191 < b1)
      · exact c1
      · simp [c1] at hw
    unfold decodeN
    repeat' split
    all_goals first | rfl | (exfalso; omega)
  · have hlo : (b0 = 224 ∧ loN b0 = 160) ∨ (b0 ≠ 224 ∧ loN b0 = 128) := by unfold loN; repeat' split
                                                                           all_goals omega
    have hhi : (b0 = 237 ∧ hiN b0 = 159) ∨ (b0 ≠ 237 ∧ hiN b0 = 191) := by unfold hiN; repeat' split
                                                                           all_goals omega
    rw [e] at hw
    have hbad : (n < 2 ∨ b1 < loN b0 ∨ hiN b0 < b1) ∨ (n < 3 ∨ b2 < 128 ∨ 191 < b2) := by
      by_cases c1 : (n < 2 ∨ b1 < loN b0 ∨ hiN b0 < b1)
      · exact .inl c1
      · by_cases c2 : (n < 3 ∨ b2 < 128 ∨ 191 < b2)
        · exact .inr c2
        · simp [c1, c2] at hw
    unfold decodeN
    repeat' split
    all_goals first | rfl | (exfalso; omega)
  · have hlo : (b0 = 240 ∧ loN b0 = 144) ∨ (b0 ≠ 240 ∧ loN b0 = 128) := by unfold loN; repeat' split
                                                                           all_goals omega
    have hhi : (b0 = 244 ∧ hiN b0 = 143) ∨ (b0 ≠ 244 ∧ hiN b0 = 191) := by unfold hiN; repeat' split
                                                                           all_goals omega
    rw [e] at hw
    have hbad : (n < 2 ∨ b1 < loN b0 ∨ hiN b0 < b1) ∨ (n < 3 ∨ b2 < 128 ∨ 191 < b2) ∨ (n < 4 ∨ b3 < 128 ∨ 191 < b3) := by
      by_cases c1 : (n < 2 ∨ b1 < loN b0 ∨ hiN b0 < b1)
      · exact .inl c1
      · by_cases c2 : (n < 3 ∨ b2 < 128 ∨ 191 < b2)
        · exact .inr (.inl c2)
        · by_cases c3 : (n < 4 ∨ b3 < 128 ∨ 191 < b3)
          · exact .inr (.inr c3)
          · simp [c1, c2, c3] at hw
    unfold decodeN
    repeat' split
    all_goals first | rfl | (exfalso; omega)
  · unfold decodeN
    repeat' split
    all_goals first | rfl | (exfalso; omega)
/-- A right piece of one byte is ASCII. -/
theorem right_one (n b0 b1 b2 b3 : Nat) (hw : wrN n b0 b1 b2 b3 = false) (h : stN n b0 b1 b2 b3 = 1) : ruN n b0 b1 b2 b3 < 128 := by
  have hr : szN b0 = 1 := by rw [wr_not] at hw; omega
  have : ruN n b0 b1 b2 b3 = b0 := by unfold ruN; rw [hw]; simp [hr]
  rw [this]
  unfold szN at hr
  repeat' split at hr
  all_goals omega
/-- Whether n bytes are the beginning of a sequence and not the whole of it, by the library's table. -/
def unfN (n b0 b1 b2 : Nat) : Bool :=
  if n = 0 then true
  else if firstT b0 % 8 ≤ n then false
  else if 1 < n ∧ (b1 < accLo (firstT b0 / 16) ∨ accHi (firstT b0 / 16) < b1) then false
  else if 2 < n ∧ (b2 < 128 ∨ 191 < b2) then false
  else true
theorem sz_of (b0 k : Nat) (h : (b0 < 128 ∧ k = 1) ∨ (194 ≤ b0 ∧ b0 ≤ 223 ∧ k = 2) ∨ (224 ≤ b0 ∧ b0 ≤ 239 ∧ k = 3) ∨ (240 ≤ b0 ∧ b0 ≤ 244 ∧ k = 4) ∨ (((128 ≤ b0 ∧ b0 < 194) ∨ 244 < b0) ∧ k = 0)) : szN b0 = k := by
  rcases sz_cases b0 with ⟨_, e⟩ | ⟨_, _, e⟩ | ⟨_, _, e⟩ | ⟨_, _, e⟩ | ⟨_, e⟩ <;> omega
theorem lo_of (b0 : Nat) (h : b0 ≠ 224) (h' : b0 ≠ 240) : loN b0 = 128 := by simp [loN, h, h']
theorem hi_of (b0 : Nat) (h : b0 ≠ 237) (h' : b0 ≠ 244) : hiN b0 = 191 := by simp [hiN, h, h']
theorem tab_cases (b0 : Nat) : (b0 < 128 ∧ firstT b0 % 8 = 0) ∨ (firstT b0 % 8 = 1 ∧ szN b0 = 0) ∨ (2 ≤ szN b0 ∧ firstT b0 % 8 = szN b0 ∧ accLo (firstT b0 / 16) = loN b0 ∧ accHi (firstT b0 / 16) = hiN b0) := by
  by_cases h1 : b0 < 128
  · exact .inl ⟨h1, by simp [firstT, h1]⟩
  by_cases h2 : b0 < 194
  · refine .inr (.inl ⟨by simp [firstT, h1, h2], sz_of _ _ (by omega)⟩)
  by_cases h3 : b0 < 224
  · have hf : firstT b0 = 2 := firstT_C2 ⟨by omega, h3⟩
    have hs : szN b0 = 2 := sz_of _ _ (by omega)
    refine .inr (.inr ?_)
    rw [hf, hs, lo_of _ (by omega) (by omega), hi_of _ (by omega) (by omega)]
    simp [accLo, accHi]
  by_cases h4 : b0 = 224
  · subst h4; refine .inr (.inr ?_); decide
  by_cases h5 : b0 = 237
  · subst h5; refine .inr (.inr ?_); decide
  by_cases h6 : b0 < 240
  · have hf : firstT b0 = 3 := firstT_E1 (by omega)
    have hs : szN b0 = 3 := sz_of _ _ (by omega)
    refine .inr (.inr ?_)
    rw [hf, hs, lo_of _ (by omega) (by omega), hi_of _ (by omega) (by omega)]
    simp [accLo, accHi]
  by_cases h7 : b0 = 240
  · subst h7; refine .inr (.inr ?_); decide
  by_cases h8 : b0 = 244
  · subst h8; refine .inr (.inr ?_); decide
  by_cases h9 : b0 < 244
  · have hf : firstT b0 = 4 := firstT_F1 ⟨by omega, h9⟩
    have hs : szN b0 = 4 := sz_of _ _ (by omega)
    refine .inr (.inr ?_)
    rw [hf, hs, lo_of _ (by omega) (by omega), hi_of _ (by omega) (by omega)]
    simp [accLo, accHi]
  · refine .inr (.inl ⟨?_, sz_of _ _ (by omega)⟩)
    have : firstT b0 = 241 := by unfold firstT; rw [if_neg (by omega), if_neg (by omega), if_neg (by omega), if_neg (by omega), if_neg (by omega), if_neg (by omega), if_neg (by omega), if_neg (by omega), if_neg (by omega), if_neg (by omega)]
    rw [this]
/-- A wrong piece goes on as long as what stands is the beginning of a sequence. -/
theorem unf_step (n b0 b1 b2 b3 k : Nat) (hn : 1 ≤ n) (hw : wrN n b0 b1 b2 b3 = true) (hk : 1 ≤ k) (hk' : k ≤ stN n b0 b1 b2 b3) : (k < n ∧ unfN (k + 1) b0 b1 b2 = true) ↔ k < stN n b0 b1 b2 b3 := by
  rw [wr_iff] at hw
  have hst := st_le n b0 b1 b2 b3 hn
  rcases tab_cases b0 with ⟨h, e⟩ | ⟨e, h⟩ | ⟨h, e, el, eh⟩
  · have : szN b0 = 1 := by simp [szN, h]
    unfold stN at hw
    simp [this] at hw
  · have h1 : stN n b0 b1 b2 b3 = 1 := by simp [stN, h]
    have : unfN (k + 1) b0 b1 b2 = false := by simp [unfN, e]
    simp [this, h1]; omega
  · have hu : unfN (k + 1) b0 b1 b2 = true ↔ (¬ szN b0 ≤ k + 1 ∧ ¬ (1 < k + 1 ∧ (b1 < loN b0 ∨ hiN b0 < b1)) ∧ ¬ (2 < k + 1 ∧ (b2 < 128 ∨ 191 < b2))) := by
      unfold unfN
      rw [e, el, eh]
      repeat' split
      all_goals simp <;> omega
    rw [hu]
    have h4 : szN b0 ≤ 4 := by rcases sz_cases b0 with ⟨_, e⟩ | ⟨_, _, e⟩ | ⟨_, _, e⟩ | ⟨_, _, e⟩ | ⟨_, e⟩ <;> omega
    unfold stN at hw hk' ⊢
    generalize szN b0 = sz at *
    generalize loN b0 = lo at *
    generalize hiN b0 = hi at *
    repeat' split at hw
    all_goals first | (exfalso; omega) | skip
    all_goals repeat' split at hk'
    all_goals first | (exfalso; omega) | skip
    all_goals repeat' split
    all_goals first | (exfalso; omega) | omega
end Go.Proofs.YtabofadjnbpjkabDoor
