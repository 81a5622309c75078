/-
  What nil tables say, and that the law's awake says yes. No conditions.
-/
import Derived.Test.YtdjdbabhcdfecaaSy
import Derived.BigQuiet
import Derived.Deep.QuietTactic
import Derived.Maps.AppendAt
import Derived.WalkSmall
namespace Go.Proofs.Ytdjdbabhcdfecaa
open Go.RowKit
set_option maxRecDepth 100000 in
theorem orn_any (w : World) : Calls Try.prog 20 #[.pointer none] w fun e w' => e = .returned (.pointer (some ⟨w.heap.size, 0, none⟩)) ∧ w' = w.alloc (.cells #[.slice none 0 0, .slice none 0 0, .slice none 0 0, .slice none 0 0, .slice none 0 0, .slice none 0 0, .slice none 0 0, .slice none 0 0, .slice none 0 0, .slice none 0 0, .slice none 0 0, .pointer none, .pointer none, .pointer none, .pointer none, .pointer none, .pointer none, .pointer none, .pointer none, .pointer none, .pointer none, .map none] 53) := by
  go_enter Try.func20, Try.ntmps20
  go_wp2
  go_ret
  exact ⟨rfl, rfl⟩
set_option maxRecDepth 100000 in
theorem says_nil (w : World) : Calls Try.prog 26 #[.pointer none] w fun e w' => e = .returned (.bool true) ∧ w' = w := by
  go_enter Try.func26, Try.ntmps26
  go_wp2
  go_ret
  exact ⟨rfl, rfl⟩
set_option maxRecDepth 100000 in
theorem look_nil (p : Int) (w : World) : Calls Try.prog 21 #[.pointer none, .int .i32 p] w fun e w' => e = .returned (.int .i64 0) ∧ w' = w := by
  go_enter Try.func21, Try.ntmps21
  go_wp2_with (go_at_call 26; refine (says_nil _).mono ?_; rintro e w' ⟨rfl, rfl⟩)
  go_ret
  exact ⟨rfl, rfl⟩
set_option maxRecDepth 100000 in
theorem class_nil (p : Int) (w : World) : Calls Try.prog 16 #[.pointer none, .int .i32 p] w fun e w' => e = .returned (.int .i64 0) ∧ Below w.heap.size w w' := by
  go_enter Try.func16, Try.ntmps16
  go_wp2_with (first | (go_at_call 20; refine (orn_any _).mono ?_; rintro e w' ⟨rfl, rfl⟩) | (go_at_call 21; refine (look_nil _ _).mono ?_; rintro e w' ⟨rfl, rfl⟩))
  go_ret
  exact ⟨rfl, (Below.refl _ _).alloc (Nat.le_refl _) _⟩
set_option maxRecDepth 100000 in
theorem chars_nil (p : Int) (w : World) : Calls Try.prog 25 #[.pointer none, .slice none 0 0, .int .i32 p] w fun e w' => e = .returned (.slice none 0 0) ∧ w' = w := by
  go_enter Try.func25, Try.ntmps25
  go_wp2_with (go_at_call 21; refine (look_nil _ _).mono ?_; rintro e w' ⟨rfl, rfl⟩)
  go_ret
  exact ⟨rfl, rfl⟩
set_option maxRecDepth 100000 in
theorem parts_nil (p : Int) (w : World) : Calls Try.prog 19 #[.pointer none, .int .i32 p] w fun e w' => e = .returned (.slice none 0 0) ∧ Below w.heap.size w w' := by
  go_enter Try.func19, Try.ntmps19
  go_wp2_with (go_at_call 20; refine (orn_any _).mono ?_; rintro e w' ⟨rfl, rfl⟩)
  go_quiet (exact Calls.quiet_of_same (chars_nil _ _))
  go_wp2
  go_ret
  exact ⟨rfl, below_drewN ((Below.refl _ _).alloc (Nat.le_refl _) _) _⟩
set_option maxRecDepth 100000 in
theorem ins_none (s c : Value) (w : World) : Calls Try.prog 31 #[s, .int .i64 0, .int .i64 0, c] w fun e w' => e = .returned (.tuple #[]) ∧ w' = w := by
  go_enter Try.func31, Try.ntmps31
  go_wp2
  go_loopw [8] (fun i wr => i = .int .i64 1 ∧ wr = w) (fun _ _ => 0)
  case atStart => exact ⟨rfl, rfl⟩
  case round =>
    obtain ⟨rfl, rfl⟩ := hrel
    go_wp2
    go_end0
    exact ⟨rfl, rfl⟩
set_option maxRecDepth 100000 in
theorem stable_none (s c : Value) (w : World) : Calls Try.prog 28 #[s, .int .i64 0, c] w fun e w' => e = .returned (.tuple #[]) ∧ Below w.heap.size w w' := by
  go_enter Try.func28, Try.ntmps28
  go_wp2
  go_loopw [7, 8] (fun i j wr => i = .int .i64 0 ∧ j = .int .i64 20 ∧ Hid (Below w.heap.size w wr)) (fun _ _ _ => 0)
  case atStart => exact ⟨rfl, rfl, Below.refl _ _⟩
  case round =>
    obtain ⟨rfl, rfl, HB⟩ := hrel
    go_wp2_with (go_at_call 31; refine (ins_none _ _ _).mono ?_; rintro e w' ⟨rfl, rfl⟩)
    go_loopw [6] (fun i wr => i = .int .i64 20 ∧ Hid (Below w.heap.size w wr)) (fun _ _ => 0)
    case atStart => exact ⟨rfl, HB⟩
    case round =>
      obtain ⟨rfl, HC⟩ := hrel
      go_wp2
      go_end0
      exact ⟨rfl, HC.out⟩
set_option maxRecDepth 100000 in
theorem sortf_none (a : Option Addr) (k : Nat) (c : Value) (w : World) : Calls Try.prog 22 #[.slice a 0 k, c] w fun e w' => e = .returned (.tuple #[]) ∧ Below w.heap.size w w' := by
  go_enter Try.func22, Try.ntmps22
  go_wp2_with (go_at_call 28; refine (stable_none _ _ _).mono ?_; rintro e w' ⟨rfl, hb⟩)
  go_end0
  exact ⟨rfl, hb⟩
set_option maxRecDepth 100000 in
theorem sort_none (a : Option Addr) (k : Nat) (w : World) : Calls Try.prog 17 #[.pointer none, .slice a 0 k] w fun e w' => e = .returned (.tuple #[]) ∧ Below w.heap.size w w' := by
  go_enter Try.func17, Try.ntmps17
  go_wp2_with (go_at_call 22; refine (sortf_none _ _ _ _).mono ?_; rintro e w' ⟨rfl, hb⟩)
  go_end0
  exact ⟨rfl, ((Below.refl _ w).alloc (Nat.le_refl _) _).trans (hb.mono (by simp))⟩
set_option maxRecDepth 100000 in
theorem put_three (g cap : Nat) (X : Nat → Int) (w : World) (hg : ∀ j, j < 3 → w.cell? ⟨g, j, none⟩ = some (.int .i32 (X j))) (hc : 3 ≤ cap) : Calls Try.prog 14 #[.pointer none, .slice (some ⟨g, 0, none⟩) 3 cap] w fun e w' => e = .returned (.tuple #[]) ∧ Below w.heap.size w w' := by
  have HG : Hid (∀ j, j < 3 → w.cell? ⟨g, j, none⟩ = some (.int .i32 (X j))) := hg
  clear hg
  go_enter Try.func14, Try.ntmps14
  go_wp2
  go_loopw [4, 9] (fun f i wr => ∃ k : Nat, f = .int .i64 k ∧ i = .int .i64 k ∧ k ≤ 3 ∧ Hid (Below w.heap.size w wr)) (fun _ i _ => 3 - (RowKit.intOf i).toNat)
  case atStart => exact ⟨0, rfl, rfl, by omega, Below.refl _ _⟩
  case round =>
    obtain ⟨k, rfl, rfl, hk, HB⟩ := hrel
    by_cases h : k < 3
    · have hi : (k : Int) < 3 := by omega
      have hcell : wr.cell? ⟨g, k, none⟩ = some (.int .i32 (X k)) := (HB.out.cell (p := ⟨g, k, none⟩) (World.block_lt_of_cell? w _ (HG.out k h))).trans (HG.out k h)
      generalize X k = x at *
      go_wp2_with (go_at_call 16; refine (class_nil _ _).mono ?_; rintro e w1 ⟨rfl, b1⟩)
      go_wp2_with (go_at_call 17; refine (sort_none _ _ _).mono ?_; rintro e w2 ⟨rfl, b2⟩)
      have HF : Hid (Below w.heap.size w w2) := (HB.out.trans (b1.mono HB.out.size)).trans (b2.mono (Nat.le_trans HB.out.size b1.size))
      exact ⟨⟨k + 1, by go_num, by go_num, by omega, HF⟩, by simp [RowKit.intOf]; omega⟩
    · have hi : ¬ (k : Int) < 3 := by omega
      have e : k = 3 := by omega
      subst e
      go_wp2_with (go_at_call 17; refine (sort_none _ _ _).mono ?_; rintro e w1 ⟨rfl, b1⟩)
      all_goals (go_end0; exact ⟨rfl, HB.out.trans (b1.mono HB.out.size)⟩)
theorem owns_below {W W' : World} {b e size n : Nat} {v : Value} {xs : List Value} (h : W.ownsRow b e size v n xs) (hb : Below W.heap.size W W') : W'.ownsRow b e size v n xs := by
  obtain ⟨h1, h2 | ⟨g, cap, cur, rfl, h3, h4, h5⟩⟩ := h
  · exact ⟨h1, .inl h2⟩
  · exact ⟨h1, .inr ⟨g, cap, cur, rfl, h3, (hb.block g (Array.getElem?_eq_some_iff.1 h4).1).trans h4, h5⟩⟩
theorem info21 : (Try.prog.info? 21).map (fun i => (i.zero, i.size, i.bytes)) = some (some (.int .i32 0), 1, 4) := by kernel_rfl
set_option maxRecDepth 100000 in
theorem full_plain (p : Int) (base n : Nat) (xs : List Value) (u : Value) (w : World) (hp : p < 44032 ∨ 55204 ≤ p) (hO : w.ownsRow base 21 1 u n xs) (hb : base ≤ w.heap.size) (hn : n ≤ 100) :
    Calls Try.prog 15 #[u, .pointer none, .int .i32 p] w fun e w' => ∃ v, e = .returned v ∧ w'.ownsRow base 21 1 v (n + 1) (xs ++ [.int .i32 p]) ∧ Below base w w' := by
  obtain ⟨i0, hi, hz0, hz1, hz2⟩ := info_parts info21
  have HO : Hid (w.ownsRow base 21 1 u n xs) := hO
  have HP : Hid (p < 44032 ∨ 55204 ≤ p) := hp
  clear hO hp
  go_enter Try.func15, Try.ntmps15
  go_wp2
  go_loopw [0, 2] (fun a b wr => a = u ∧ b = .int .i32 p ∧ wr = w) (fun _ _ _ => 0)
  case atStart => exact ⟨rfl, rfl, rfl⟩
  case round =>
    obtain ⟨rfl, rfl, rfl⟩ := hrel
    go_wp2_with (first | (go_at_call 6; refine (syl_no _ _ HP.out).mono ?_; rintro e w1 ⟨rfl, rfl⟩) | (go_at_call 19; refine (parts_nil _ _).mono ?_; rintro e w1 ⟨rfl, b1⟩) | (at_builtin; refine wpList_append_own _ rfl _ _ 32 rfl base 21 i0 (.int .i32 0) 1 4 Try.underlying32 hi hz0 hz1 hz2 rfl (by decide) _ _ _ rfl ((owns_below HO.out b1).alloc _) ⟨_, 0, none⟩ 1 1 [.int .i32 p] rfl rfl (cell_one_new _ _ _) (by simp [Value.oneCell']) (by unfold maxLen; omega) (by omega) (by have := b1.size; simp; omega) ?_; intro v' w2 hown hgrow _))
    have hown' := hown
    have hB : Below base _ w2 := ((b1.mono hb).alloc (Nat.le_trans hb b1.size) _).grown hgrow (by simp; exact Nat.le_trans hb (Nat.le_succ_of_le b1.size)) (fun j hj => ((HO.out.lt j hj).1))
    clear hown hgrow
    go_wp2
    go_ret
    exact ⟨_, rfl, hown', hB⟩
set_option maxRecDepth 100000 in
theorem jamo_two (base n : Nat) (xs : List Value) (u : Value) (l v : Int) (w : World) (hO : w.ownsRow base 21 1 u n xs) (hb : base ≤ w.heap.size) (hn : n ≤ 100) :
    Calls Try.prog 18 #[u, .int .i32 l, .int .i32 v, .int .i32 0] w fun e w' => ∃ x, e = .returned x ∧ w'.ownsRow base 21 1 x (n + 2) (xs ++ [.int .i32 l, .int .i32 v]) ∧ Below base w w' := by
  obtain ⟨i0, hi, hz0, hz1, hz2⟩ := info_parts info21
  have HO : Hid (w.ownsRow base 21 1 u n xs) := hO
  clear hO
  go_enter Try.func18, Try.ntmps18
  go_wp2_with (at_builtin; refine wpList_append_own _ rfl _ _ 32 rfl base 21 i0 (.int .i32 0) 1 4 Try.underlying32 hi hz0 hz1 hz2 rfl (by decide) _ _ _ rfl (HO.out.alloc _) ⟨_, 0, none⟩ 2 2 [.int .i32 l, .int .i32 v] rfl rfl (cell_two_new _ _ _ _) (by simp [Value.oneCell']) (by unfold maxLen; omega) (by omega) (by simp; omega) ?_; intro v' w2 hown hgrow _)
  have hB : Below base w w2 := ((Below.refl _ w).alloc hb _).grown hgrow (by simp; omega) (fun j hj => ((HO.out.lt j hj).1))
  have HN : Hid (w2.ownsRow base 21 1 v' (n + 2) (xs ++ [.int .i32 l, .int .i32 v])) := hown
  clear hown hgrow
  go_wp2
  go_ret
  exact ⟨_, rfl, HN.out, hB⟩
set_option maxRecDepth 100000 in
theorem full_first (base n : Nat) (xs : List Value) (u : Value) (w : World) (hO : w.ownsRow base 21 1 u n xs) (hb : base ≤ w.heap.size) (hn : n ≤ 100) :
    Calls Try.prog 15 #[u, .pointer none, .int .i32 44032] w fun e w' => ∃ v, e = .returned v ∧ w'.ownsRow base 21 1 v (n + 2) (xs ++ [.int .i32 4352, .int .i32 4449]) ∧ Below base w w' := by
  have KJ := jamo_two base n xs u 4352 4449 w hO hb hn
  have KS := syl_yes 44032 0 0 0 w (by decide) (by decide) (by decide) (by decide) (by decide) (by decide) (by decide)
  rw [show tJ 0 = 0 from rfl] at KS
  clear hO
  go_enter Try.func15, Try.ntmps15
  go_wp2
  go_loopw [0, 2] (fun a b wr => a = u ∧ b = .int .i32 44032 ∧ wr = w) (fun _ _ _ => 0)
  case atStart => exact ⟨rfl, rfl, rfl⟩
  case round =>
    obtain ⟨rfl, rfl, rfl⟩ := hrel
    go_wp2_with (first | (go_at_call 6; refine KS.mono ?_; rintro e w1 ⟨rfl, rfl⟩) | (go_at_call 18; refine KJ.mono ?_))
    first | rintro e w1 v1 rfl h1 b1 | rintro e w1 ⟨v1, rfl, h1, b1⟩
    go_wp2
    go_ret
    exact ⟨_, rfl, h1, b1⟩
/-- What stands behind k rounds. -/
def prK : Nat → List Value
  | 0 => []
  | 1 => [.int .i32 65]
  | _ => [.int .i32 65, .int .i32 4352, .int .i32 4449]
set_option maxRecDepth 100000 in
theorem all_two (g cap : Nat) (w : World) (h0 : w.cell? ⟨g, 0, none⟩ = some (.int .i32 65)) (h1 : w.cell? ⟨g, 1, none⟩ = some (.int .i32 44032)) :
    Calls Try.prog 13 #[.pointer none, .slice (some ⟨g, 0, none⟩) 2 cap] w fun e w' => ∃ v, e = .returned v ∧ w'.ownsRow w.heap.size 21 1 v 3 (prK 2) ∧ Below w.heap.size w w' := by
  obtain ⟨i0, hi, hz0, hz1, hz2⟩ := info_parts info21
  have hg := World.block_lt_of_cell? w _ h0
  have H0 : Hid (w.cell? ⟨g, 0, none⟩ = some (.int .i32 65)) := h0
  have H1 : Hid (w.cell? ⟨g, 1, none⟩ = some (.int .i32 44032)) := h1
  clear h0 h1
  go_enter Try.func13, Try.ntmps13
  go_wp2_with (refine wpList_make_own _ rfl _ _ 32 rfl w.heap.size 21 i0 (.int .i32 0) 1 Try.underlying32 hi hz0 hz1 .i64 .i64 2 2 rfl rfl rfl (by rw [hz2]; decide) (by decide) (Nat.le_refl _) ?_; intro w1 ho1 hg1)
  have HI : Hid (w1.ownsRow w.heap.size 21 1 (.slice (some ⟨w.heap.size, 0, none⟩) 0 2) (prK 0).length (prK 0) ∧ Below w.heap.size w w1) := ⟨ho1, (Below.refl _ w).grown hg1 (Nat.le_refl _) (fun j hj => by cases hj)⟩
  clear ho1 hg1
  go_wp2
  go_loopw [5, 13] (fun v i wr => ∃ k : Nat, i = .int .i64 k ∧ k ≤ 2 ∧ Hid (wr.ownsRow w.heap.size 21 1 v (prK k).length (prK k) ∧ Below w.heap.size w wr)) (fun _ i _ => 2 - (RowKit.intOf i).toNat)
  case atStart => exact ⟨0, rfl, by omega, HI⟩
  case round =>
    clear HI
    obtain ⟨k, rfl, hk, HI⟩ := hrel
    match k, hk, HI with
    | 0, _, HI =>
      have hc : wr.cell? ⟨g, 0, none⟩ = some (.int .i32 65) := (HI.out.2.cell (p := ⟨g, 0, none⟩) hg).trans H0.out
      have K := full_plain 65 w.heap.size 0 [] u5 wr (by decide) HI.out.1 HI.out.2.size (by decide)
      go_wp2_with (go_at_call 15; refine K.mono ?_)
      first | rintro e w2 v2 rfl o2 b2 | rintro e w2 ⟨v2, rfl, o2, b2⟩
      have HF : Hid (w2.ownsRow w.heap.size 21 1 v2 (prK 1).length (prK 1) ∧ Below w.heap.size w w2) := ⟨o2, HI.out.2.trans b2⟩
      clear o2 b2 K
      go_wp2
      exact ⟨⟨1, by go_num, by omega, HF⟩, by simp [RowKit.intOf]⟩
    | 1, _, HI =>
      have hc : wr.cell? ⟨g, 1, none⟩ = some (.int .i32 44032) := (HI.out.2.cell (p := ⟨g, 1, none⟩) hg).trans H1.out
      have K := full_first w.heap.size 1 [.int .i32 65] u5 wr HI.out.1 HI.out.2.size (by decide)
      go_wp2_with (go_at_call 15; refine K.mono ?_)
      first | rintro e w2 v2 rfl o2 b2 | rintro e w2 ⟨v2, rfl, o2, b2⟩
      have HF : Hid (w2.ownsRow w.heap.size 21 1 v2 (prK 2).length (prK 2) ∧ Below w.heap.size w w2) := ⟨o2, HI.out.2.trans b2⟩
      clear o2 b2 K
      go_wp2
      exact ⟨⟨2, by go_num, by omega, HF⟩, by simp [RowKit.intOf]⟩
    | 2, _, HI =>
      go_wp2
      go_ret
      exact ⟨_, rfl, HI.out⟩
end Go.Proofs.Ytdjdbabhcdfecaa
