/-
  A whole number that a field says: the program's answer.
-/
import Derived.Test.YtcjlplaepnpopaaDoorWh
import Derived.OwnWalk
import Derived.WalkSmall
namespace Go.Proofs.YtcjlplaepnpopaaDoor
open Go.RowKit
/-- The whole number that a field says. -/
def whN (s : ByteArray) : Option Int := if 1 ≤ (whT s).size ∧ (whT s).size ≤ 9 ∧ digB (whT s) 10 (whT s).size = true then some (if neB s = true then -(val (whT s) 10 (whT s).size : Int) else (val (whT s) 10 (whT s).size : Int)) else none
def whA : Option Int → Ending
  | some n => .returned (.tuple #[.int .i64 n, .int .i64 0])
  | none => .returned (.tuple #[.int .i64 0, .int .i64 92])
theorem whT_size (s : ByteArray) : (whT s).size ≤ s.size ∧ (neB s = true → (whT s).size + 1 = s.size) := by
  unfold whT
  cases hn : neB s with
  | false => simp
  | true =>
    have h0 : 0 < s.size := by unfold neB at hn; simp only [Bool.and_eq_true, decide_eq_true_eq] at hn; exact hn.1
    rw [if_pos rfl, ByteArray.size_extract]
    omega
theorem whN_size {s : ByteArray} (h : ¬ (1 ≤ (whT s).size ∧ (whT s).size ≤ 9)) : whN s = none := by unfold whN; rw [if_neg fun q => h ⟨q.1, q.2.1⟩]
theorem whN_digs {s : ByteArray} (h : ¬ Digs (whT s) 10 (whT s).size) : whN s = none := by unfold whN; rw [if_neg fun q => h ((digB_iff _ 10 _).1 q.2.2)]
theorem whN_yes {s : ByteArray} (h : 1 ≤ (whT s).size ∧ (whT s).size ≤ 9) (h2 : Digs (whT s) 10 (whT s).size) : whN s = some (if neB s = true then -(val (whT s) 10 (whT s).size : Int) else (val (whT s) 10 (whT s).size : Int)) := by unfold whN; rw [if_pos ⟨h.1, h.2, (digB_iff _ 10 _).2 h2⟩]
theorem val9 {T : ByteArray} (k : Nat) (hk : k ≤ 9) (h : Digs T 10 k) : val T 10 k < 1000000000 := Nat.lt_of_lt_of_le (val_lt T 10 k h) (by
  calc 10 ^ k ≤ 10 ^ 9 := Nat.pow_le_pow_right (by decide) hk
    _ = 1000000000 := by decide)
set_option maxRecDepth 100000 in
set_option maxHeartbeats 2000000 in
theorem whole_any (s : ByteArray) (w : World) (hs : s.size ≤ 9223372036854775807) : Calls Tryd.prog 11 #[.string s] w fun e w' => e = whA (whN s) ∧ w' = w := by
  have k25 := cutP_any s w hs
  have hz := whT_size s
  have k20 := number_any (whT s) 10 w (by omega)
  have hsz : ¬ (1 ≤ (whT s).size ∧ (whT s).size ≤ 9) → whA (whN s) = .returned (.tuple #[.int .i64 0, .int .i64 92]) := fun h => by rw [whN_size h]; rfl
  have hdg : ¬ Digs (whT s) 10 (whT s).size → whA (whN s) = .returned (.tuple #[.int .i64 0, .int .i64 92]) := fun h => by rw [whN_digs h]; rfl
  have hys := @whN_yes s
  obtain ⟨R, eR⟩ : ∃ R, whN s = R := ⟨_, rfl⟩
  obtain ⟨T, eT⟩ : ∃ T, whT s = T := ⟨_, rfl⟩
  obtain ⟨B, eB⟩ : ∃ B, neB s = B := ⟨_, rfl⟩
  simp only [eT, eB, eR] at k25 k20 hsz hdg hys hz
  have hT9 : T.size ≤ 9223372036854775807 := by omega
  rw [eR]
  clear eT eB eR hz
  by_cases h9 : 9 < T.size
  · have c1 : (9 : Int) < (T.size : Int) := by omega
    have HX : Hid (whA R = .returned (.tuple #[.int .i64 0, .int .i64 92])) := hsz (by omega)
    clear hsz hdg hys k20 h9
    go_enter Tryd.func11, Tryd.ntmps11
    go_wp2_with (go_at_call 25; refine k25.mono ?_; rintro e w' ⟨rfl, rfl⟩)
    exact bodyPost_ret (v := .tuple #[.int .i64 0, .int .i64 92]) (by simp [results, Tryd.results11, go_sem]) rfl ⟨HX.out.symm, rfl⟩
  · have c1 : (T.size : Int) ≤ 9 := by omega
    go_enter Tryd.func11, Tryd.ntmps11
    go_wp2_with (first | (go_at_call 25; refine k25.mono ?_; rintro e w' ⟨rfl, rfl⟩) | (go_at_call 20; refine k20.mono ?_))
    rintro e w' ⟨n, i, r, rfl, hN, rfl⟩
    have hcase : (r ≠ 0 ∧ whA R = .returned (.tuple #[.int .i64 0, .int .i64 92])) ∨ (r = 0 ∧ n < 1000000000 ∧ whA R = .returned (.tuple #[.int .i64 (if B = true then -(n : Int) else n), .int .i64 0])) := by
      have dig : ∀ k, k < T.size → 10 ≤ hx (byt T k) → ¬ Digs T 10 T.size := fun k hk hb hd => by have := hd k hk; omega
      have t10 : (10 : Int).toNat = 10 := rfl
      rcases hN with ⟨a1, a2, a3, a4⟩ | ⟨a1, a2, a3, a4, a5⟩ | ⟨a1, a2, k, a3, a4, a5, a6, a7, a8⟩ | ⟨a1, a2, a3, a4, a5, a6, a7⟩ | ⟨a1, a2, a3, a4, a5, a6, a7⟩
      · omega
      · exact .inl ⟨by omega, hsz (by omega)⟩
      · exact .inl ⟨by omega, hdg (dig k a3 a5)⟩
      · rw [t10] at a3 a4
        have := val9 T.size (by omega) a3
        omega
      · rw [t10] at a3 a4 a5
        have := val9 T.size (by omega) a3
        refine .inr ⟨a7, by omega, ?_⟩
        rw [hys ⟨by omega, by omega⟩ a3, a5]; rfl
    clear hN k20 k25 hsz hdg hys
    rcases hcase with ⟨hr, hp⟩ | ⟨rfl, hn9, hp⟩
    · have c3 : (r != 0) = true := by simpa using hr
      have HX : Hid (whA R = .returned (.tuple #[.int .i64 0, .int .i64 92])) := hp
      clear hp hr
      go_wp2
      exact bodyPost_ret (v := .tuple #[.int .i64 0, .int .i64 92]) (by simp [results, Tryd.results11, go_sem]) rfl ⟨HX.out.symm, rfl⟩
    · have w1 : IntKind.i64.wrap (n : Int) = n := IntWalk.i64_in _ (by omega)
      cases B with
      | true =>
        have HX : Hid (whA R = .returned (.tuple #[.int .i64 (-(n : Int)), .int .i64 0])) := hp
        have w2 : IntKind.i64.wrap (-(n : Int)) = -n := IntWalk.i64_in _ (by omega)
        clear hp
        go_wp2
        exact bodyPost_ret (v := .tuple #[.int .i64 (-(n : Int)), .int .i64 0]) (by simp [results, Tryd.results11, go_sem]) rfl ⟨HX.out.symm, rfl⟩
      | false =>
        have HX : Hid (whA R = .returned (.tuple #[.int .i64 (n : Int), .int .i64 0])) := hp
        clear hp
        go_wp2
        exact bodyPost_ret (v := .tuple #[.int .i64 (n : Int), .int .i64 0]) (by simp [results, Tryd.results11, go_sem]) rfl ⟨HX.out.symm, rfl⟩
end Go.Proofs.YtcjlplaepnpopaaDoor
