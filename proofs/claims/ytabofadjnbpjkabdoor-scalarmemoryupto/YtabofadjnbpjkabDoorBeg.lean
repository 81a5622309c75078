/-
  The contracts of the document's begins and stands: how many bytes a sequence has, and how many of them stand. No condition but that the text is not empty.
-/
import Derived.Test.YtabofadjnbpjkabDoorAt
namespace Go.Proofs.YtabofadjnbpjkabDoor
open Go.RowKit Go.Lib
/-- What may stand second, as the document's text has it: nothing is said where there is no second byte. -/
def loR (b0 : Nat) : Nat := if szN b0 < 2 then 0 else loN b0
def hiR (b0 : Nat) : Nat := if szN b0 < 2 then 0 else hiN b0
set_option maxRecDepth 100000 in
set_option maxHeartbeats 400000 in
theorem begins_0 (c : Nat) (w : World) (h1 : 0 ≤ c) (h2 : c ≤ 127) : Calls Tryd.prog 49 #[.int .u8 c] w fun e w' => e = .returned (.tuple #[.int .i64 1, .int .u8 0, .int .u8 0]) ∧ w' = w := by
  have d194 : decide ((194 : Int) ≤ (c : Int)) = false := by simp; omega
  have d225 : decide ((225 : Int) ≤ (c : Int)) = false := by simp; omega
  have d241 : decide ((241 : Int) ≤ (c : Int)) = false := by simp; omega
  go_enter Tryd.func49, Tryd.ntmps49
  go_wp2
  go_ret3
  exact ⟨rfl, rfl⟩
set_option maxRecDepth 100000 in
set_option maxHeartbeats 400000 in
theorem begins_128 (c : Nat) (w : World) (h1 : 128 ≤ c) (h2 : c ≤ 193) : Calls Tryd.prog 49 #[.int .u8 c] w fun e w' => e = .returned (.tuple #[.int .i64 0, .int .u8 0, .int .u8 0]) ∧ w' = w := by
  have d194 : decide ((194 : Int) ≤ (c : Int)) = false := by simp; omega
  have d225 : decide ((225 : Int) ≤ (c : Int)) = false := by simp; omega
  have d241 : decide ((241 : Int) ≤ (c : Int)) = false := by simp; omega
  go_enter Tryd.func49, Tryd.ntmps49
  go_wp2
  go_ret3
  exact ⟨rfl, rfl⟩
set_option maxRecDepth 100000 in
set_option maxHeartbeats 400000 in
theorem begins_194 (c : Nat) (w : World) (h1 : 194 ≤ c) (h2 : c ≤ 223) : Calls Tryd.prog 49 #[.int .u8 c] w fun e w' => e = .returned (.tuple #[.int .i64 2, .int .u8 128, .int .u8 191]) ∧ w' = w := by
  have d194 : decide ((194 : Int) ≤ (c : Int)) = true := by simp; omega
  have d225 : decide ((225 : Int) ≤ (c : Int)) = false := by simp; omega
  have d241 : decide ((241 : Int) ≤ (c : Int)) = false := by simp; omega
  go_enter Tryd.func49, Tryd.ntmps49
  go_wp2
  go_ret3
  exact ⟨rfl, rfl⟩
set_option maxRecDepth 100000 in
set_option maxHeartbeats 400000 in
theorem begins_224 (c : Nat) (w : World) (h1 : 224 ≤ c) (h2 : c ≤ 224) : Calls Tryd.prog 49 #[.int .u8 c] w fun e w' => e = .returned (.tuple #[.int .i64 3, .int .u8 160, .int .u8 191]) ∧ w' = w := by
  have d194 : decide ((194 : Int) ≤ (c : Int)) = true := by simp; omega
  have d225 : decide ((225 : Int) ≤ (c : Int)) = false := by simp; omega
  have d241 : decide ((241 : Int) ≤ (c : Int)) = false := by simp; omega
  go_enter Tryd.func49, Tryd.ntmps49
  go_wp2
  go_ret3
  exact ⟨rfl, rfl⟩
set_option maxRecDepth 100000 in
set_option maxHeartbeats 400000 in
theorem begins_225 (c : Nat) (w : World) (h1 : 225 ≤ c) (h2 : c ≤ 236) : Calls Tryd.prog 49 #[.int .u8 c] w fun e w' => e = .returned (.tuple #[.int .i64 3, .int .u8 128, .int .u8 191]) ∧ w' = w := by
  have d194 : decide ((194 : Int) ≤ (c : Int)) = true := by simp; omega
  have d225 : decide ((225 : Int) ≤ (c : Int)) = true := by simp; omega
  have d241 : decide ((241 : Int) ≤ (c : Int)) = false := by simp; omega
  go_enter Tryd.func49, Tryd.ntmps49
  go_wp2
  go_ret3
  exact ⟨rfl, rfl⟩
set_option maxRecDepth 100000 in
set_option maxHeartbeats 400000 in
theorem begins_237 (c : Nat) (w : World) (h1 : 237 ≤ c) (h2 : c ≤ 237) : Calls Tryd.prog 49 #[.int .u8 c] w fun e w' => e = .returned (.tuple #[.int .i64 3, .int .u8 128, .int .u8 159]) ∧ w' = w := by
  have d194 : decide ((194 : Int) ≤ (c : Int)) = true := by simp; omega
  have d225 : decide ((225 : Int) ≤ (c : Int)) = true := by simp; omega
  have d241 : decide ((241 : Int) ≤ (c : Int)) = false := by simp; omega
  go_enter Tryd.func49, Tryd.ntmps49
  go_wp2
  go_ret3
  exact ⟨rfl, rfl⟩
set_option maxRecDepth 100000 in
set_option maxHeartbeats 400000 in
theorem begins_238 (c : Nat) (w : World) (h1 : 238 ≤ c) (h2 : c ≤ 239) : Calls Tryd.prog 49 #[.int .u8 c] w fun e w' => e = .returned (.tuple #[.int .i64 3, .int .u8 128, .int .u8 191]) ∧ w' = w := by
  have d194 : decide ((194 : Int) ≤ (c : Int)) = true := by simp; omega
  have d225 : decide ((225 : Int) ≤ (c : Int)) = true := by simp; omega
  have d241 : decide ((241 : Int) ≤ (c : Int)) = false := by simp; omega
  go_enter Tryd.func49, Tryd.ntmps49
  go_wp2
  go_ret3
  exact ⟨rfl, rfl⟩
set_option maxRecDepth 100000 in
set_option maxHeartbeats 400000 in
theorem begins_240 (c : Nat) (w : World) (h1 : 240 ≤ c) (h2 : c ≤ 240) : Calls Tryd.prog 49 #[.int .u8 c] w fun e w' => e = .returned (.tuple #[.int .i64 4, .int .u8 144, .int .u8 191]) ∧ w' = w := by
  have d194 : decide ((194 : Int) ≤ (c : Int)) = true := by simp; omega
  have d225 : decide ((225 : Int) ≤ (c : Int)) = true := by simp; omega
  have d241 : decide ((241 : Int) ≤ (c : Int)) = false := by simp; omega
  go_enter Tryd.func49, Tryd.ntmps49
  go_wp2
  go_ret3
  exact ⟨rfl, rfl⟩
set_option maxRecDepth 100000 in
set_option maxHeartbeats 400000 in
theorem begins_241 (c : Nat) (w : World) (h1 : 241 ≤ c) (h2 : c ≤ 243) : Calls Tryd.prog 49 #[.int .u8 c] w fun e w' => e = .returned (.tuple #[.int .i64 4, .int .u8 128, .int .u8 191]) ∧ w' = w := by
  have d194 : decide ((194 : Int) ≤ (c : Int)) = true := by simp; omega
  have d225 : decide ((225 : Int) ≤ (c : Int)) = true := by simp; omega
  have d241 : decide ((241 : Int) ≤ (c : Int)) = true := by simp; omega
  go_enter Tryd.func49, Tryd.ntmps49
  go_wp2
  go_ret3
  exact ⟨rfl, rfl⟩
set_option maxRecDepth 100000 in
set_option maxHeartbeats 400000 in
theorem begins_244 (c : Nat) (w : World) (h1 : 244 ≤ c) (h2 : c ≤ 244) : Calls Tryd.prog 49 #[.int .u8 c] w fun e w' => e = .returned (.tuple #[.int .i64 4, .int .u8 128, .int .u8 143]) ∧ w' = w := by
  have d194 : decide ((194 : Int) ≤ (c : Int)) = true := by simp; omega
  have d225 : decide ((225 : Int) ≤ (c : Int)) = true := by simp; omega
  have d241 : decide ((241 : Int) ≤ (c : Int)) = true := by simp; omega
  go_enter Tryd.func49, Tryd.ntmps49
  go_wp2
  go_ret3
  exact ⟨rfl, rfl⟩
set_option maxRecDepth 100000 in
set_option maxHeartbeats 400000 in
theorem begins_245 (c : Nat) (w : World) (h1 : 245 ≤ c) (h2 : c ≤ 255) : Calls Tryd.prog 49 #[.int .u8 c] w fun e w' => e = .returned (.tuple #[.int .i64 0, .int .u8 0, .int .u8 0]) ∧ w' = w := by
  have d194 : decide ((194 : Int) ≤ (c : Int)) = true := by simp; omega
  have d225 : decide ((225 : Int) ≤ (c : Int)) = true := by simp; omega
  have d241 : decide ((241 : Int) ≤ (c : Int)) = true := by simp; omega
  go_enter Tryd.func49, Tryd.ntmps49
  go_wp2
  go_ret3
  exact ⟨rfl, rfl⟩
theorem begins_any (c : Nat) (w : World) (hc : c < 256) : Calls Tryd.prog 49 #[.int .u8 c] w fun e w' => e = .returned (.tuple #[.int .i64 (szN c), .int .u8 (loR c), .int .u8 (hiR c)]) ∧ w' = w := by
  have fin : ∀ (z l h : Nat), szN c = z → loR c = l → hiR c = h → (Calls Tryd.prog 49 #[.int .u8 c] w fun e w' => e = .returned (.tuple #[.int .i64 z, .int .u8 l, .int .u8 h]) ∧ w' = w) → Calls Tryd.prog 49 #[.int .u8 c] w fun e w' => e = .returned (.tuple #[.int .i64 (szN c), .int .u8 (loR c), .int .u8 (hiR c)]) ∧ w' = w := by
    intro z l h e1 e2 e3 k
    rw [e1, e2, e3]; exact k
  by_cases q0 : c ≤ 127
  · have hz : szN c = 1 := sz_of _ _ (by omega)
    exact fin 1 0 0 hz (by simp [loR, hz]) (by simp [hiR, hz]) (begins_0 c w (by omega) (by omega))
  by_cases q128 : c ≤ 193
  · have hz : szN c = 0 := sz_of _ _ (by omega)
    exact fin 0 0 0 hz (by simp [loR, hz]) (by simp [hiR, hz]) (begins_128 c w (by omega) (by omega))
  by_cases q194 : c ≤ 223
  · have hz : szN c = 2 := sz_of _ _ (by omega)
    have hl : loR c = 128 := by
      simp only [loR, hz, loN]; repeat' split
      all_goals omega
    have hh : hiR c = 191 := by
      simp only [hiR, hz, hiN]; repeat' split
      all_goals omega
    exact fin 2 128 191 hz hl hh (begins_194 c w (by omega) (by omega))
  by_cases q224 : c ≤ 224
  · have hz : szN c = 3 := sz_of _ _ (by omega)
    have hl : loR c = 160 := by
      have : c = 224 := by omega
      subst this; decide
    have hh : hiR c = 191 := by
      have : c = 224 := by omega
      subst this; decide
    exact fin 3 160 191 hz hl hh (begins_224 c w (by omega) (by omega))
  by_cases q225 : c ≤ 236
  · have hz : szN c = 3 := sz_of _ _ (by omega)
    have hl : loR c = 128 := by
      simp only [loR, hz, loN]; repeat' split
      all_goals omega
    have hh : hiR c = 191 := by
      simp only [hiR, hz, hiN]; repeat' split
      all_goals omega
    exact fin 3 128 191 hz hl hh (begins_225 c w (by omega) (by omega))
  by_cases q237 : c ≤ 237
  · have hz : szN c = 3 := sz_of _ _ (by omega)
    have hl : loR c = 128 := by
      have : c = 237 := by omega
      subst this; decide
    have hh : hiR c = 159 := by
      have : c = 237 := by omega
      subst this; decide
    exact fin 3 128 159 hz hl hh (begins_237 c w (by omega) (by omega))
  by_cases q238 : c ≤ 239
  · have hz : szN c = 3 := sz_of _ _ (by omega)
    have hl : loR c = 128 := by
      simp only [loR, hz, loN]; repeat' split
      all_goals omega
    have hh : hiR c = 191 := by
      simp only [hiR, hz, hiN]; repeat' split
      all_goals omega
    exact fin 3 128 191 hz hl hh (begins_238 c w (by omega) (by omega))
  by_cases q240 : c ≤ 240
  · have hz : szN c = 4 := sz_of _ _ (by omega)
    have hl : loR c = 144 := by
      have : c = 240 := by omega
      subst this; decide
    have hh : hiR c = 191 := by
      have : c = 240 := by omega
      subst this; decide
    exact fin 4 144 191 hz hl hh (begins_240 c w (by omega) (by omega))
  by_cases q241 : c ≤ 243
  · have hz : szN c = 4 := sz_of _ _ (by omega)
    have hl : loR c = 128 := by
      simp only [loR, hz, loN]; repeat' split
      all_goals omega
    have hh : hiR c = 191 := by
      simp only [hiR, hz, hiN]; repeat' split
      all_goals omega
    exact fin 4 128 191 hz hl hh (begins_241 c w (by omega) (by omega))
  by_cases q244 : c ≤ 244
  · have hz : szN c = 4 := sz_of _ _ (by omega)
    have hl : loR c = 128 := by
      have : c = 244 := by omega
      subst this; decide
    have hh : hiR c = 143 := by
      have : c = 244 := by omega
      subst this; decide
    exact fin 4 128 143 hz hl hh (begins_244 c w (by omega) (by omega))
  have hz : szN c = 0 := sz_of _ _ (by omega)
  exact fin 0 0 0 hz (by simp [loR, hz]) (by simp [hiR, hz]) (begins_245 c w (by omega) (by omega))
/-- Byte k of a sequence, and what it may be. -/
def bK (b1 b2 b3 k : Nat) : Nat := if k = 1 then b1 else if k = 2 then b2 else b3
def loK (b0 k : Nat) : Nat := if k = 1 then loN b0 else 128
def hiK (b0 k : Nat) : Nat := if k = 1 then hiN b0 else 191
theorem st_step (n b0 b1 b2 b3 k : Nat) (hsz : 2 ≤ szN b0) (hk : 1 ≤ k) (hk' : k ≤ stN n b0 b1 b2 b3) : k < stN n b0 b1 b2 b3 ↔ (k < szN b0 ∧ k < n ∧ loK b0 k ≤ bK b1 b2 b3 k ∧ bK b1 b2 b3 k ≤ hiK b0 k) := by
  have h4 : szN b0 ≤ 4 := by rcases sz_cases b0 with ⟨_, e⟩ | ⟨_, _, e⟩ | ⟨_, _, e⟩ | ⟨_, _, e⟩ | ⟨_, e⟩ <;> omega
  unfold stN at hk' ⊢
  unfold loK hiK bK
  generalize szN b0 = sz at *
  generalize loN b0 = lo at *
  generalize hiN b0 = hi at *
  repeat' split at hk'
  all_goals first | (exfalso; omega) | skip
  all_goals repeat' split
  all_goals first | (exfalso; omega) | omega
end Go.Proofs.YtabofadjnbpjkabDoor
