/-
  A code point that a field says: the program's answer.
-/
import Derived.Test.YtcjlplaepnpopaaDoorNc
import Derived.IntWalk
import Derived.OwnWalk
namespace Go.Proofs.YtcjlplaepnpopaaDoor
open Go.RowKit
/-- All of the first k bytes are digits, as a test. -/
def digB (s : ByteArray) (b : Nat) : Nat → Bool
  | 0 => true
  | k + 1 => digB s b k && decide (hx (byt s k) < b)
theorem digB_iff (s : ByteArray) (b : Nat) : ∀ k, digB s b k = true ↔ Digs s b k
  | 0 => ⟨fun _ j hj => by omega, fun _ => rfl⟩
  | k + 1 => by
    rw [digB, Bool.and_eq_true, digB_iff s b k, decide_eq_true_eq]
    exact ⟨fun h => h.1.succ h.2, fun h => ⟨fun j hj => h j (by omega), h k (by omega)⟩⟩
theorem val_lt (s : ByteArray) (b : Nat) : ∀ k, Digs s b k → val s b k < b ^ k
  | 0, _ => by simp [val]
  | k + 1, h => by
    have h1 := val_lt s b k fun j hj => h j (by omega)
    have h2 := h k (by omega)
    rw [val, Nat.pow_succ]
    calc val s b k * b + hx (byt s k) < val s b k * b + b := by omega
      _ = (val s b k + 1) * b := by rw [Nat.add_mul, Nat.one_mul]
      _ ≤ b ^ k * b := Nat.mul_le_mul_right _ h1
/-- The code point that a field says. -/
def ptN (s : ByteArray) : Option Nat := if 4 ≤ s.size ∧ s.size ≤ 6 ∧ digB s 16 s.size = true ∧ val s 16 s.size ≤ 1114111 then some (val s 16 s.size) else none
def ptA : Option Nat → Ending
  | some n => .returned (.tuple #[.int .i32 n, .int .i64 0])
  | none => .returned (.tuple #[.int .i32 0, .int .i64 90])
theorem ptN_size {s : ByteArray} (h : ¬ (4 ≤ s.size ∧ s.size ≤ 6)) : ptN s = none := by unfold ptN; rw [if_neg fun q => h ⟨q.1, q.2.1⟩]
theorem ptN_digs {s : ByteArray} (h : ¬ Digs s 16 s.size) : ptN s = none := by unfold ptN; rw [if_neg fun q => h ((digB_iff s 16 _).1 q.2.2.1)]
theorem ptN_big {s : ByteArray} (h : 1114111 < val s 16 s.size) : ptN s = none := by unfold ptN; rw [if_neg fun q => by omega]
theorem ptN_yes {s : ByteArray} (h : 4 ≤ s.size ∧ s.size ≤ 6) (h2 : Digs s 16 s.size) (h3 : val s 16 s.size ≤ 1114111) : ptN s = some (val s 16 s.size) := by unfold ptN; rw [if_pos ⟨h.1, h.2, (digB_iff s 16 _).2 h2, h3⟩]
theorem ptN_le {s : ByteArray} {n : Nat} (h : ptN s = some n) : n ≤ 1114111 := by
  unfold ptN at h
  split at h
  · rename_i q
    cases h
    exact q.2.2.2
  · cases h
set_option maxRecDepth 100000 in
set_option maxHeartbeats 2000000 in
theorem point_any (s : ByteArray) (w : World) (hs : s.size ≤ 9223372036854775807) : Calls Tryd.prog 5 #[.string s] w fun e w' => e = ptA (ptN s) ∧ w' = w := by
  have k20 := number_any s 16 w hs
  by_cases h4 : s.size < 4
  · have c1 : decide (s.size < 4) = true := decide_eq_true h4
    have HX : Hid (ptA (ptN s) = .returned (.tuple #[.int .i32 0, .int .i64 90])) := by show _ = _; rw [ptN_size (by omega)]; rfl
    clear k20
    go_enter Tryd.func5, Tryd.ntmps5
    go_wp2
    exact bodyPost_ret (v := .tuple #[.int .i32 0, .int .i64 90]) (by simp [results, Tryd.results5, go_sem]) rfl ⟨HX.out.symm, rfl⟩
  · have c1 : decide (s.size < 4) = false := decide_eq_false h4
    by_cases h6 : 6 < s.size
    · have c2 : decide (6 < s.size) = true := decide_eq_true h6
      have HX : Hid (ptA (ptN s) = .returned (.tuple #[.int .i32 0, .int .i64 90])) := by show _ = _; rw [ptN_size (by omega)]; rfl
      clear k20
      go_enter Tryd.func5, Tryd.ntmps5
      go_wp2
      exact bodyPost_ret (v := .tuple #[.int .i32 0, .int .i64 90]) (by simp [results, Tryd.results5, go_sem]) rfl ⟨HX.out.symm, rfl⟩
    · have c2 : decide (6 < s.size) = false := decide_eq_false h6
      have HS : Hid (4 ≤ s.size ∧ s.size ≤ 6) := ⟨by omega, by omega⟩
      go_enter Tryd.func5, Tryd.ntmps5
      go_wp2_with (go_at_call 20; refine k20.mono ?_)
      rintro e w' ⟨n, i, r, rfl, hN, rfl⟩
      have hcase : (r ≠ 0 ∧ ptN s = none) ∨ (r = 0 ∧ n ≤ 18446744073709551615 ∧ n = val s 16 s.size ∧ Digs s 16 s.size) := by
        have dig : ∀ k, k < s.size → 16 ≤ hx (byt s k) → ¬ Digs s 16 s.size := fun k hk hb hd => by have := hd k hk; omega
        rcases hN with ⟨a1, a2, a3, a4⟩ | ⟨a1, a2, a3, a4, a5⟩ | ⟨a1, a2, k, a3, a4, a5, a6, a7, a8⟩ | ⟨a1, a2, a3, a4, a5, a6, a7⟩ | ⟨a1, a2, a3, a4, a5, a6, a7⟩
        · omega
        · exact .inl ⟨by omega, ptN_size (by omega)⟩
        · exact .inl ⟨by omega, ptN_digs (dig k a3 a5)⟩
        · exact .inl ⟨by omega, ptN_big (by have : (16 : Int).toNat = 16 := rfl; rw [this] at a4; omega)⟩
        · exact .inr ⟨a7, by have : (16 : Int).toNat = 16 := rfl; rw [this] at a4 a5; omega, a5, a3⟩
      clear hN k20
      rcases hcase with ⟨hr, hp⟩ | ⟨rfl, hn9, hn, hd⟩
      · have c3 : (r != 0) = true := by simpa using hr
        have HX : Hid (ptA (ptN s) = .returned (.tuple #[.int .i32 0, .int .i64 90])) := by show _ = _; rw [hp]; rfl
        clear hp hr
        go_wp2
        exact bodyPost_ret (v := .tuple #[.int .i32 0, .int .i64 90]) (by simp [results, Tryd.results5, go_sem]) rfl ⟨HX.out.symm, rfl⟩
      · by_cases hb : 1114111 < n
        · have c3 : decide (1114111 < n) = true := decide_eq_true hb
          have HX : Hid (ptA (ptN s) = .returned (.tuple #[.int .i32 0, .int .i64 90])) := by show _ = _; rw [ptN_big (by omega)]; rfl
          clear hn hd
          go_wp2
          exact bodyPost_ret (v := .tuple #[.int .i32 0, .int .i64 90]) (by simp [results, Tryd.results5, go_sem]) rfl ⟨HX.out.symm, rfl⟩
        · have c3 : decide (1114111 < n) = false := decide_eq_false hb
          have w1 : IntKind.i32.wrap (n : Int) = n := IntWalk.i32_in _ (by omega)
          have HX : Hid (ptA (ptN s) = .returned (.tuple #[.int .i32 n, .int .i64 0])) := by show _ = _; rw [ptN_yes HS.out hd (by omega), ← hn]; rfl
          clear hn hd
          go_wp2
          exact bodyPost_ret (v := .tuple #[.int .i32 (n : Int), .int .i64 0]) (by simp [results, Tryd.results5, go_sem]) rfl ⟨HX.out.symm, rfl⟩
end Go.Proofs.YtcjlplaepnpopaaDoor
