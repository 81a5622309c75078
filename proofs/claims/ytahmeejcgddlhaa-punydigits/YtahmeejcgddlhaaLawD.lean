/-
  The walk of the law PunyDigits: it returns true and turns nothing that was there, for every octet, number and three of a count.
-/
import Derived.Test.YtahmeejcgddlhaaQp
import Derived.Test.YtahmeejcgddlhaaPb
import Derived.Test.YtahmeejcgddlhaaPa
import Derived.Deep.RegionWith
import Derived.RangeFuncRecord
namespace Go.Proofs.Ytahmeejcgddlhaa
open Go.RowKit
/-- What letter and Adapt answer, as letters. -/
theorem ltr_ex (d : Int) : ∃ x e : Int, (∀ w, Calls Try.prog 18 #[.int .i64 d] w fun r w' => r = .returned (.tuple #[.int .u8 x, .int .i64 e]) ∧ w' = w) ∧ (0 ≤ d ∧ d ≤ 35 → e = 0 ∧ ∀ w, Calls Try.prog 19 #[.int .i64 d] w fun r w' => r = .returned (.int .u8 x) ∧ w' = w) ∧ (¬(0 ≤ d ∧ d ≤ 35) → x = 0 ∧ e = 1) := by
  by_cases h : 0 ≤ d ∧ d ≤ 35
  · refine ⟨ltr d, 0, fun w => ?_, fun _ => ⟨rfl, fun w => rletter_any d w h.1 h.2⟩, fun c => absurd h c⟩
    have := letter_any d w
    unfold ltrV at this
    rw [if_pos h] at this
    exact this
  · refine ⟨0, 1, fun w => ?_, fun c => absurd c h, fun _ => ⟨rfl, rfl⟩⟩
    have := letter_any d w
    unfold ltrV at this
    rw [if_neg h] at this
    exact this
theorem ad_ex (m n : Int) (b : Bool) : ∃ x e : Int, (∀ w, Calls Try.prog 20 #[.int .i64 m, .int .i64 n, .bool b] w fun r w' => r = .returned (.tuple #[.int .i64 x, .int .i64 e]) ∧ Below w.heap.size w w') ∧ (0 ≤ m ∧ m ≤ 2147483647 ∧ 1 ≤ n ∧ n ≤ 2147483647 → e = 0 ∧ ∀ w, Calls Try.prog 21 #[.int .i64 m, .int .i64 n, .bool b] w fun r w' => r = .returned (.int .i64 x) ∧ w' = w) ∧ (¬(0 ≤ m ∧ m ≤ 2147483647 ∧ 1 ≤ n ∧ n ≤ 2147483647) → x = 0 ∧ e = 1) := by
  by_cases h : 0 ≤ m ∧ m ≤ 2147483647 ∧ 1 ≤ n ∧ n ≤ 2147483647
  · refine ⟨adF usual m n b, 0, fun w => ?_, fun _ => ⟨rfl, fun w => radapt_any m n b w (by omega) (by omega) (by omega) (by omega)⟩, fun c => absurd h c⟩
    have := Adapt_any m n b w
    unfold adV at this
    rw [if_pos h] at this
    exact this
  · refine ⟨0, 1, fun w => ?_, fun c => absurd c h, fun _ => ⟨rfl, rfl⟩⟩
    have := Adapt_any m n b w
    unfold adV at this
    rw [if_neg h] at this
    exact this
set_option maxRecDepth 100000 in
set_option maxHeartbeats 4000000 in
theorem law_digits (c d m n : Int) (b : Bool) (w : World) (hc : 0 ≤ c) (hc2 : c < 256) :
    Calls Try.prog 7 #[.int .u8 c, .int .i64 d, .agg #[.int .i64 m, .int .i64 n, .bool b]] w fun e w' => e = .returned (.bool true) ∧ Below w.heap.size w w' := by
  have KD := fun W => digit_any c W hc hc2
  have KQ := fun W => rdigit_any c W hc hc2
  generalize dg c = g at KD KQ
  obtain ⟨x, f, KL, KL1, KL2⟩ := ltr_ex d
  obtain ⟨y, k, KA, KA1, KA2⟩ := ad_ex m n b
  have B0 : Hid (Below w.heap.size w (w.alloc (.cells #[.int .i64 m, .int .i64 n, .bool b] 38))) := (Below.refl _ _).alloc (Nat.le_refl _) _
  have KW := awake_any (w.alloc (.cells #[.int .i64 m, .int .i64 n, .bool b] 38))
  have hc0 : (w.alloc (.cells #[.int .i64 m, .int .i64 n, .bool b] 38)).heap[w.heap.size]? = some (.cells #[.int .i64 m, .int .i64 n, .bool b] 38 (0, 0)) := World.alloc_heap_new _ _
  have HC : Hid ((w.alloc (.cells #[.int .i64 m, .int .i64 n, .bool b] 38)).heap[w.heap.size]? = some (.cells #[.int .i64 m, .int .i64 n, .bool b] 38 (0, 0))) := hc0
  clear hc0 hc hc2
  have D3 : d < 0 ∨ 35 < d ∨ (0 ≤ d ∧ d ≤ 35) := by omega
  have M5 : m < 0 ∨ (0 ≤ m ∧ 2147483647 < m) ∨ (0 ≤ m ∧ m ≤ 2147483647 ∧ n < 1) ∨ (0 ≤ m ∧ m ≤ 2147483647 ∧ 1 ≤ n ∧ 2147483647 < n) ∨ (0 ≤ m ∧ m ≤ 2147483647 ∧ 1 ≤ n ∧ n ≤ 2147483647) := by omega
  rcases D3 with d1 | d1 | ⟨d1, d2⟩
  · obtain ⟨rfl, rfl⟩ := KL2 (by omega)
    clear KL1 KL2
    rcases M5 with m1 | ⟨m1, m2⟩ | ⟨m1, m2, m3⟩ | ⟨m1, m2, m3, m4⟩ | ⟨m1, m2, m3, m4⟩
    · obtain ⟨rfl, rfl⟩ := KA2 (by omega)
      clear KA1 KA2
      go_enter Try.func7, Try.ntmps7
      go_wp2_with (go_at_call 9; refine KW.mono ?_)
      first | rintro e w1 rfl b1 | rintro e w1 ⟨rfl, b1⟩
      have B1 : Hid (Below w.heap.size w w1) := B0.out.trans (b1.mono (by simp))
      have hb := (b1.block w.heap.size (by simp)).trans HC.out
      have c0 : w1.cell? ⟨w.heap.size, 0, none⟩ = some (.int .i64 m) := by simp [World.cell?, hb]
      have c1 : w1.cell? ⟨w.heap.size, 1, none⟩ = some (.int .i64 n) := by simp [World.cell?, hb]
      have c2 : w1.cell? ⟨w.heap.size, 2, none⟩ = some (.bool b) := by simp [World.cell?, hb]
      have HB : Hid (w1.heap[w.heap.size]? = some (.cells #[.int .i64 m, .int .i64 n, .bool b] 38 (0, 0))) := hb
      have hl : w.heap.size < w1.heap.size := Nat.lt_of_lt_of_le (by simp) b1.size
      have hs : w.heap.size ≤ w1.heap.size := Nat.le_of_lt hl
      clear b1 hb KW
      go_wp2_with (first | (go_at_call 16; refine (KD _).mono ?_; rintro e w' ⟨rfl, rfl⟩) | (go_at_call 17; refine (KQ _).mono ?_; rintro e w' ⟨rfl, rfl⟩) | (go_at_call 18; refine (KL _).mono ?_; rintro e w' ⟨rfl, rfl⟩) | (go_at_call 20; refine (KA _).mono ?_))
      first | rintro e w2 rfl b2 | rintro e w2 ⟨rfl, b2⟩
      have B2 : Hid (Below w.heap.size w w2) := B1.out.trans (b2.mono hs)
      have hb2 := (b2.block w.heap.size hl).trans HB.out
      have c3 : w2.cell? ⟨w.heap.size, 0, none⟩ = some (.int .i64 m) := by simp [World.cell?, hb2]
      have c4 : w2.cell? ⟨w.heap.size, 1, none⟩ = some (.int .i64 n) := by simp [World.cell?, hb2]
      have c5 : w2.cell? ⟨w.heap.size, 2, none⟩ = some (.bool b) := by simp [World.cell?, hb2]
      clear b2 hb2 c0 c1 c2 KD KQ KL KA hs hl
      go_wp2
      go_ret
      exact ⟨rfl, B2.out⟩
    · obtain ⟨rfl, rfl⟩ := KA2 (by omega)
      clear KA1 KA2
      go_enter Try.func7, Try.ntmps7
      go_wp2_with (go_at_call 9; refine KW.mono ?_)
      first | rintro e w1 rfl b1 | rintro e w1 ⟨rfl, b1⟩
      have B1 : Hid (Below w.heap.size w w1) := B0.out.trans (b1.mono (by simp))
      have hb := (b1.block w.heap.size (by simp)).trans HC.out
      have c0 : w1.cell? ⟨w.heap.size, 0, none⟩ = some (.int .i64 m) := by simp [World.cell?, hb]
      have c1 : w1.cell? ⟨w.heap.size, 1, none⟩ = some (.int .i64 n) := by simp [World.cell?, hb]
      have c2 : w1.cell? ⟨w.heap.size, 2, none⟩ = some (.bool b) := by simp [World.cell?, hb]
      have HB : Hid (w1.heap[w.heap.size]? = some (.cells #[.int .i64 m, .int .i64 n, .bool b] 38 (0, 0))) := hb
      have hl : w.heap.size < w1.heap.size := Nat.lt_of_lt_of_le (by simp) b1.size
      have hs : w.heap.size ≤ w1.heap.size := Nat.le_of_lt hl
      clear b1 hb KW
      go_wp2_with (first | (go_at_call 16; refine (KD _).mono ?_; rintro e w' ⟨rfl, rfl⟩) | (go_at_call 17; refine (KQ _).mono ?_; rintro e w' ⟨rfl, rfl⟩) | (go_at_call 18; refine (KL _).mono ?_; rintro e w' ⟨rfl, rfl⟩) | (go_at_call 20; refine (KA _).mono ?_))
      first | rintro e w2 rfl b2 | rintro e w2 ⟨rfl, b2⟩
      have B2 : Hid (Below w.heap.size w w2) := B1.out.trans (b2.mono hs)
      have hb2 := (b2.block w.heap.size hl).trans HB.out
      have c3 : w2.cell? ⟨w.heap.size, 0, none⟩ = some (.int .i64 m) := by simp [World.cell?, hb2]
      have c4 : w2.cell? ⟨w.heap.size, 1, none⟩ = some (.int .i64 n) := by simp [World.cell?, hb2]
      have c5 : w2.cell? ⟨w.heap.size, 2, none⟩ = some (.bool b) := by simp [World.cell?, hb2]
      clear b2 hb2 c0 c1 c2 KD KQ KL KA hs hl
      go_wp2
      go_ret
      exact ⟨rfl, B2.out⟩
    · obtain ⟨rfl, rfl⟩ := KA2 (by omega)
      clear KA1 KA2
      go_enter Try.func7, Try.ntmps7
      go_wp2_with (go_at_call 9; refine KW.mono ?_)
      first | rintro e w1 rfl b1 | rintro e w1 ⟨rfl, b1⟩
      have B1 : Hid (Below w.heap.size w w1) := B0.out.trans (b1.mono (by simp))
      have hb := (b1.block w.heap.size (by simp)).trans HC.out
      have c0 : w1.cell? ⟨w.heap.size, 0, none⟩ = some (.int .i64 m) := by simp [World.cell?, hb]
      have c1 : w1.cell? ⟨w.heap.size, 1, none⟩ = some (.int .i64 n) := by simp [World.cell?, hb]
      have c2 : w1.cell? ⟨w.heap.size, 2, none⟩ = some (.bool b) := by simp [World.cell?, hb]
      have HB : Hid (w1.heap[w.heap.size]? = some (.cells #[.int .i64 m, .int .i64 n, .bool b] 38 (0, 0))) := hb
      have hl : w.heap.size < w1.heap.size := Nat.lt_of_lt_of_le (by simp) b1.size
      have hs : w.heap.size ≤ w1.heap.size := Nat.le_of_lt hl
      clear b1 hb KW
      go_wp2_with (first | (go_at_call 16; refine (KD _).mono ?_; rintro e w' ⟨rfl, rfl⟩) | (go_at_call 17; refine (KQ _).mono ?_; rintro e w' ⟨rfl, rfl⟩) | (go_at_call 18; refine (KL _).mono ?_; rintro e w' ⟨rfl, rfl⟩) | (go_at_call 20; refine (KA _).mono ?_))
      first | rintro e w2 rfl b2 | rintro e w2 ⟨rfl, b2⟩
      have B2 : Hid (Below w.heap.size w w2) := B1.out.trans (b2.mono hs)
      have hb2 := (b2.block w.heap.size hl).trans HB.out
      have c3 : w2.cell? ⟨w.heap.size, 0, none⟩ = some (.int .i64 m) := by simp [World.cell?, hb2]
      have c4 : w2.cell? ⟨w.heap.size, 1, none⟩ = some (.int .i64 n) := by simp [World.cell?, hb2]
      have c5 : w2.cell? ⟨w.heap.size, 2, none⟩ = some (.bool b) := by simp [World.cell?, hb2]
      clear b2 hb2 c0 c1 c2 KD KQ KL KA hs hl
      go_wp2
      go_ret
      exact ⟨rfl, B2.out⟩
    · obtain ⟨rfl, rfl⟩ := KA2 (by omega)
      clear KA1 KA2
      go_enter Try.func7, Try.ntmps7
      go_wp2_with (go_at_call 9; refine KW.mono ?_)
      first | rintro e w1 rfl b1 | rintro e w1 ⟨rfl, b1⟩
      have B1 : Hid (Below w.heap.size w w1) := B0.out.trans (b1.mono (by simp))
      have hb := (b1.block w.heap.size (by simp)).trans HC.out
      have c0 : w1.cell? ⟨w.heap.size, 0, none⟩ = some (.int .i64 m) := by simp [World.cell?, hb]
      have c1 : w1.cell? ⟨w.heap.size, 1, none⟩ = some (.int .i64 n) := by simp [World.cell?, hb]
      have c2 : w1.cell? ⟨w.heap.size, 2, none⟩ = some (.bool b) := by simp [World.cell?, hb]
      have HB : Hid (w1.heap[w.heap.size]? = some (.cells #[.int .i64 m, .int .i64 n, .bool b] 38 (0, 0))) := hb
      have hl : w.heap.size < w1.heap.size := Nat.lt_of_lt_of_le (by simp) b1.size
      have hs : w.heap.size ≤ w1.heap.size := Nat.le_of_lt hl
      clear b1 hb KW
      go_wp2_with (first | (go_at_call 16; refine (KD _).mono ?_; rintro e w' ⟨rfl, rfl⟩) | (go_at_call 17; refine (KQ _).mono ?_; rintro e w' ⟨rfl, rfl⟩) | (go_at_call 18; refine (KL _).mono ?_; rintro e w' ⟨rfl, rfl⟩) | (go_at_call 20; refine (KA _).mono ?_))
      first | rintro e w2 rfl b2 | rintro e w2 ⟨rfl, b2⟩
      have B2 : Hid (Below w.heap.size w w2) := B1.out.trans (b2.mono hs)
      have hb2 := (b2.block w.heap.size hl).trans HB.out
      have c3 : w2.cell? ⟨w.heap.size, 0, none⟩ = some (.int .i64 m) := by simp [World.cell?, hb2]
      have c4 : w2.cell? ⟨w.heap.size, 1, none⟩ = some (.int .i64 n) := by simp [World.cell?, hb2]
      have c5 : w2.cell? ⟨w.heap.size, 2, none⟩ = some (.bool b) := by simp [World.cell?, hb2]
      clear b2 hb2 c0 c1 c2 KD KQ KL KA hs hl
      go_wp2
      go_ret
      exact ⟨rfl, B2.out⟩
    · obtain ⟨rfl, KB⟩ := KA1 ⟨m1, m2, m3, m4⟩
      clear KA1 KA2
      go_enter Try.func7, Try.ntmps7
      go_wp2_with (go_at_call 9; refine KW.mono ?_)
      first | rintro e w1 rfl b1 | rintro e w1 ⟨rfl, b1⟩
      have B1 : Hid (Below w.heap.size w w1) := B0.out.trans (b1.mono (by simp))
      have hb := (b1.block w.heap.size (by simp)).trans HC.out
      have c0 : w1.cell? ⟨w.heap.size, 0, none⟩ = some (.int .i64 m) := by simp [World.cell?, hb]
      have c1 : w1.cell? ⟨w.heap.size, 1, none⟩ = some (.int .i64 n) := by simp [World.cell?, hb]
      have c2 : w1.cell? ⟨w.heap.size, 2, none⟩ = some (.bool b) := by simp [World.cell?, hb]
      have HB : Hid (w1.heap[w.heap.size]? = some (.cells #[.int .i64 m, .int .i64 n, .bool b] 38 (0, 0))) := hb
      have hl : w.heap.size < w1.heap.size := Nat.lt_of_lt_of_le (by simp) b1.size
      have hs : w.heap.size ≤ w1.heap.size := Nat.le_of_lt hl
      clear b1 hb KW
      go_wp2_with (first | (go_at_call 16; refine (KD _).mono ?_; rintro e w' ⟨rfl, rfl⟩) | (go_at_call 17; refine (KQ _).mono ?_; rintro e w' ⟨rfl, rfl⟩) | (go_at_call 18; refine (KL _).mono ?_; rintro e w' ⟨rfl, rfl⟩) | (go_at_call 20; refine (KA _).mono ?_))
      first | rintro e w2 rfl b2 | rintro e w2 ⟨rfl, b2⟩
      have B2 : Hid (Below w.heap.size w w2) := B1.out.trans (b2.mono hs)
      have hb2 := (b2.block w.heap.size hl).trans HB.out
      have c3 : w2.cell? ⟨w.heap.size, 0, none⟩ = some (.int .i64 m) := by simp [World.cell?, hb2]
      have c4 : w2.cell? ⟨w.heap.size, 1, none⟩ = some (.int .i64 n) := by simp [World.cell?, hb2]
      have c5 : w2.cell? ⟨w.heap.size, 2, none⟩ = some (.bool b) := by simp [World.cell?, hb2]
      clear b2 hb2 c0 c1 c2 KD KQ KL KA hs hl
      go_wp2_with (go_at_call 21; refine (KB _).mono ?_; rintro e w' ⟨rfl, rfl⟩)
      go_ret
      exact ⟨rfl, B2.out⟩
  · obtain ⟨rfl, rfl⟩ := KL2 (by omega)
    have d2 : ¬(d < 0) := by omega
    clear KL1 KL2
    rcases M5 with m1 | ⟨m1, m2⟩ | ⟨m1, m2, m3⟩ | ⟨m1, m2, m3, m4⟩ | ⟨m1, m2, m3, m4⟩
    · obtain ⟨rfl, rfl⟩ := KA2 (by omega)
      clear KA1 KA2
      go_enter Try.func7, Try.ntmps7
      go_wp2_with (go_at_call 9; refine KW.mono ?_)
      first | rintro e w1 rfl b1 | rintro e w1 ⟨rfl, b1⟩
      have B1 : Hid (Below w.heap.size w w1) := B0.out.trans (b1.mono (by simp))
      have hb := (b1.block w.heap.size (by simp)).trans HC.out
      have c0 : w1.cell? ⟨w.heap.size, 0, none⟩ = some (.int .i64 m) := by simp [World.cell?, hb]
      have c1 : w1.cell? ⟨w.heap.size, 1, none⟩ = some (.int .i64 n) := by simp [World.cell?, hb]
      have c2 : w1.cell? ⟨w.heap.size, 2, none⟩ = some (.bool b) := by simp [World.cell?, hb]
      have HB : Hid (w1.heap[w.heap.size]? = some (.cells #[.int .i64 m, .int .i64 n, .bool b] 38 (0, 0))) := hb
      have hl : w.heap.size < w1.heap.size := Nat.lt_of_lt_of_le (by simp) b1.size
      have hs : w.heap.size ≤ w1.heap.size := Nat.le_of_lt hl
      clear b1 hb KW
      go_wp2_with (first | (go_at_call 16; refine (KD _).mono ?_; rintro e w' ⟨rfl, rfl⟩) | (go_at_call 17; refine (KQ _).mono ?_; rintro e w' ⟨rfl, rfl⟩) | (go_at_call 18; refine (KL _).mono ?_; rintro e w' ⟨rfl, rfl⟩) | (go_at_call 20; refine (KA _).mono ?_))
      first | rintro e w2 rfl b2 | rintro e w2 ⟨rfl, b2⟩
      have B2 : Hid (Below w.heap.size w w2) := B1.out.trans (b2.mono hs)
      have hb2 := (b2.block w.heap.size hl).trans HB.out
      have c3 : w2.cell? ⟨w.heap.size, 0, none⟩ = some (.int .i64 m) := by simp [World.cell?, hb2]
      have c4 : w2.cell? ⟨w.heap.size, 1, none⟩ = some (.int .i64 n) := by simp [World.cell?, hb2]
      have c5 : w2.cell? ⟨w.heap.size, 2, none⟩ = some (.bool b) := by simp [World.cell?, hb2]
      clear b2 hb2 c0 c1 c2 KD KQ KL KA hs hl
      go_wp2
      go_ret
      exact ⟨rfl, B2.out⟩
    · obtain ⟨rfl, rfl⟩ := KA2 (by omega)
      clear KA1 KA2
      go_enter Try.func7, Try.ntmps7
      go_wp2_with (go_at_call 9; refine KW.mono ?_)
      first | rintro e w1 rfl b1 | rintro e w1 ⟨rfl, b1⟩
      have B1 : Hid (Below w.heap.size w w1) := B0.out.trans (b1.mono (by simp))
      have hb := (b1.block w.heap.size (by simp)).trans HC.out
      have c0 : w1.cell? ⟨w.heap.size, 0, none⟩ = some (.int .i64 m) := by simp [World.cell?, hb]
      have c1 : w1.cell? ⟨w.heap.size, 1, none⟩ = some (.int .i64 n) := by simp [World.cell?, hb]
      have c2 : w1.cell? ⟨w.heap.size, 2, none⟩ = some (.bool b) := by simp [World.cell?, hb]
      have HB : Hid (w1.heap[w.heap.size]? = some (.cells #[.int .i64 m, .int .i64 n, .bool b] 38 (0, 0))) := hb
      have hl : w.heap.size < w1.heap.size := Nat.lt_of_lt_of_le (by simp) b1.size
      have hs : w.heap.size ≤ w1.heap.size := Nat.le_of_lt hl
      clear b1 hb KW
      go_wp2_with (first | (go_at_call 16; refine (KD _).mono ?_; rintro e w' ⟨rfl, rfl⟩) | (go_at_call 17; refine (KQ _).mono ?_; rintro e w' ⟨rfl, rfl⟩) | (go_at_call 18; refine (KL _).mono ?_; rintro e w' ⟨rfl, rfl⟩) | (go_at_call 20; refine (KA _).mono ?_))
      first | rintro e w2 rfl b2 | rintro e w2 ⟨rfl, b2⟩
      have B2 : Hid (Below w.heap.size w w2) := B1.out.trans (b2.mono hs)
      have hb2 := (b2.block w.heap.size hl).trans HB.out
      have c3 : w2.cell? ⟨w.heap.size, 0, none⟩ = some (.int .i64 m) := by simp [World.cell?, hb2]
      have c4 : w2.cell? ⟨w.heap.size, 1, none⟩ = some (.int .i64 n) := by simp [World.cell?, hb2]
      have c5 : w2.cell? ⟨w.heap.size, 2, none⟩ = some (.bool b) := by simp [World.cell?, hb2]
      clear b2 hb2 c0 c1 c2 KD KQ KL KA hs hl
      go_wp2
      go_ret
      exact ⟨rfl, B2.out⟩
    · obtain ⟨rfl, rfl⟩ := KA2 (by omega)
      clear KA1 KA2
      go_enter Try.func7, Try.ntmps7
      go_wp2_with (go_at_call 9; refine KW.mono ?_)
      first | rintro e w1 rfl b1 | rintro e w1 ⟨rfl, b1⟩
      have B1 : Hid (Below w.heap.size w w1) := B0.out.trans (b1.mono (by simp))
      have hb := (b1.block w.heap.size (by simp)).trans HC.out
      have c0 : w1.cell? ⟨w.heap.size, 0, none⟩ = some (.int .i64 m) := by simp [World.cell?, hb]
      have c1 : w1.cell? ⟨w.heap.size, 1, none⟩ = some (.int .i64 n) := by simp [World.cell?, hb]
      have c2 : w1.cell? ⟨w.heap.size, 2, none⟩ = some (.bool b) := by simp [World.cell?, hb]
      have HB : Hid (w1.heap[w.heap.size]? = some (.cells #[.int .i64 m, .int .i64 n, .bool b] 38 (0, 0))) := hb
      have hl : w.heap.size < w1.heap.size := Nat.lt_of_lt_of_le (by simp) b1.size
      have hs : w.heap.size ≤ w1.heap.size := Nat.le_of_lt hl
      clear b1 hb KW
      go_wp2_with (first | (go_at_call 16; refine (KD _).mono ?_; rintro e w' ⟨rfl, rfl⟩) | (go_at_call 17; refine (KQ _).mono ?_; rintro e w' ⟨rfl, rfl⟩) | (go_at_call 18; refine (KL _).mono ?_; rintro e w' ⟨rfl, rfl⟩) | (go_at_call 20; refine (KA _).mono ?_))
      first | rintro e w2 rfl b2 | rintro e w2 ⟨rfl, b2⟩
      have B2 : Hid (Below w.heap.size w w2) := B1.out.trans (b2.mono hs)
      have hb2 := (b2.block w.heap.size hl).trans HB.out
      have c3 : w2.cell? ⟨w.heap.size, 0, none⟩ = some (.int .i64 m) := by simp [World.cell?, hb2]
      have c4 : w2.cell? ⟨w.heap.size, 1, none⟩ = some (.int .i64 n) := by simp [World.cell?, hb2]
      have c5 : w2.cell? ⟨w.heap.size, 2, none⟩ = some (.bool b) := by simp [World.cell?, hb2]
      clear b2 hb2 c0 c1 c2 KD KQ KL KA hs hl
      go_wp2
      go_ret
      exact ⟨rfl, B2.out⟩
    · obtain ⟨rfl, rfl⟩ := KA2 (by omega)
      clear KA1 KA2
      go_enter Try.func7, Try.ntmps7
      go_wp2_with (go_at_call 9; refine KW.mono ?_)
      first | rintro e w1 rfl b1 | rintro e w1 ⟨rfl, b1⟩
      have B1 : Hid (Below w.heap.size w w1) := B0.out.trans (b1.mono (by simp))
      have hb := (b1.block w.heap.size (by simp)).trans HC.out
      have c0 : w1.cell? ⟨w.heap.size, 0, none⟩ = some (.int .i64 m) := by simp [World.cell?, hb]
      have c1 : w1.cell? ⟨w.heap.size, 1, none⟩ = some (.int .i64 n) := by simp [World.cell?, hb]
      have c2 : w1.cell? ⟨w.heap.size, 2, none⟩ = some (.bool b) := by simp [World.cell?, hb]
      have HB : Hid (w1.heap[w.heap.size]? = some (.cells #[.int .i64 m, .int .i64 n, .bool b] 38 (0, 0))) := hb
      have hl : w.heap.size < w1.heap.size := Nat.lt_of_lt_of_le (by simp) b1.size
      have hs : w.heap.size ≤ w1.heap.size := Nat.le_of_lt hl
      clear b1 hb KW
      go_wp2_with (first | (go_at_call 16; refine (KD _).mono ?_; rintro e w' ⟨rfl, rfl⟩) | (go_at_call 17; refine (KQ _).mono ?_; rintro e w' ⟨rfl, rfl⟩) | (go_at_call 18; refine (KL _).mono ?_; rintro e w' ⟨rfl, rfl⟩) | (go_at_call 20; refine (KA _).mono ?_))
      first | rintro e w2 rfl b2 | rintro e w2 ⟨rfl, b2⟩
      have B2 : Hid (Below w.heap.size w w2) := B1.out.trans (b2.mono hs)
      have hb2 := (b2.block w.heap.size hl).trans HB.out
      have c3 : w2.cell? ⟨w.heap.size, 0, none⟩ = some (.int .i64 m) := by simp [World.cell?, hb2]
      have c4 : w2.cell? ⟨w.heap.size, 1, none⟩ = some (.int .i64 n) := by simp [World.cell?, hb2]
      have c5 : w2.cell? ⟨w.heap.size, 2, none⟩ = some (.bool b) := by simp [World.cell?, hb2]
      clear b2 hb2 c0 c1 c2 KD KQ KL KA hs hl
      go_wp2
      go_ret
      exact ⟨rfl, B2.out⟩
    · obtain ⟨rfl, KB⟩ := KA1 ⟨m1, m2, m3, m4⟩
      clear KA1 KA2
      go_enter Try.func7, Try.ntmps7
      go_wp2_with (go_at_call 9; refine KW.mono ?_)
      first | rintro e w1 rfl b1 | rintro e w1 ⟨rfl, b1⟩
      have B1 : Hid (Below w.heap.size w w1) := B0.out.trans (b1.mono (by simp))
      have hb := (b1.block w.heap.size (by simp)).trans HC.out
      have c0 : w1.cell? ⟨w.heap.size, 0, none⟩ = some (.int .i64 m) := by simp [World.cell?, hb]
      have c1 : w1.cell? ⟨w.heap.size, 1, none⟩ = some (.int .i64 n) := by simp [World.cell?, hb]
      have c2 : w1.cell? ⟨w.heap.size, 2, none⟩ = some (.bool b) := by simp [World.cell?, hb]
      have HB : Hid (w1.heap[w.heap.size]? = some (.cells #[.int .i64 m, .int .i64 n, .bool b] 38 (0, 0))) := hb
      have hl : w.heap.size < w1.heap.size := Nat.lt_of_lt_of_le (by simp) b1.size
      have hs : w.heap.size ≤ w1.heap.size := Nat.le_of_lt hl
      clear b1 hb KW
      go_wp2_with (first | (go_at_call 16; refine (KD _).mono ?_; rintro e w' ⟨rfl, rfl⟩) | (go_at_call 17; refine (KQ _).mono ?_; rintro e w' ⟨rfl, rfl⟩) | (go_at_call 18; refine (KL _).mono ?_; rintro e w' ⟨rfl, rfl⟩) | (go_at_call 20; refine (KA _).mono ?_))
      first | rintro e w2 rfl b2 | rintro e w2 ⟨rfl, b2⟩
      have B2 : Hid (Below w.heap.size w w2) := B1.out.trans (b2.mono hs)
      have hb2 := (b2.block w.heap.size hl).trans HB.out
      have c3 : w2.cell? ⟨w.heap.size, 0, none⟩ = some (.int .i64 m) := by simp [World.cell?, hb2]
      have c4 : w2.cell? ⟨w.heap.size, 1, none⟩ = some (.int .i64 n) := by simp [World.cell?, hb2]
      have c5 : w2.cell? ⟨w.heap.size, 2, none⟩ = some (.bool b) := by simp [World.cell?, hb2]
      clear b2 hb2 c0 c1 c2 KD KQ KL KA hs hl
      go_wp2_with (go_at_call 21; refine (KB _).mono ?_; rintro e w' ⟨rfl, rfl⟩)
      go_ret
      exact ⟨rfl, B2.out⟩
  · obtain ⟨rfl, KM⟩ := KL1 ⟨d1, d2⟩
    clear KL1 KL2
    rcases M5 with m1 | ⟨m1, m2⟩ | ⟨m1, m2, m3⟩ | ⟨m1, m2, m3, m4⟩ | ⟨m1, m2, m3, m4⟩
    · obtain ⟨rfl, rfl⟩ := KA2 (by omega)
      clear KA1 KA2
      go_enter Try.func7, Try.ntmps7
      go_wp2_with (go_at_call 9; refine KW.mono ?_)
      first | rintro e w1 rfl b1 | rintro e w1 ⟨rfl, b1⟩
      have B1 : Hid (Below w.heap.size w w1) := B0.out.trans (b1.mono (by simp))
      have hb := (b1.block w.heap.size (by simp)).trans HC.out
      have c0 : w1.cell? ⟨w.heap.size, 0, none⟩ = some (.int .i64 m) := by simp [World.cell?, hb]
      have c1 : w1.cell? ⟨w.heap.size, 1, none⟩ = some (.int .i64 n) := by simp [World.cell?, hb]
      have c2 : w1.cell? ⟨w.heap.size, 2, none⟩ = some (.bool b) := by simp [World.cell?, hb]
      have HB : Hid (w1.heap[w.heap.size]? = some (.cells #[.int .i64 m, .int .i64 n, .bool b] 38 (0, 0))) := hb
      have hl : w.heap.size < w1.heap.size := Nat.lt_of_lt_of_le (by simp) b1.size
      have hs : w.heap.size ≤ w1.heap.size := Nat.le_of_lt hl
      clear b1 hb KW
      go_wp2_with (first | (go_at_call 16; refine (KD _).mono ?_; rintro e w' ⟨rfl, rfl⟩) | (go_at_call 17; refine (KQ _).mono ?_; rintro e w' ⟨rfl, rfl⟩) | (go_at_call 18; refine (KL _).mono ?_; rintro e w' ⟨rfl, rfl⟩) | (go_at_call 19; refine (KM _).mono ?_; rintro e w' ⟨rfl, rfl⟩) | (go_at_call 20; refine (KA _).mono ?_))
      first | rintro e w2 rfl b2 | rintro e w2 ⟨rfl, b2⟩
      have B2 : Hid (Below w.heap.size w w2) := B1.out.trans (b2.mono hs)
      have hb2 := (b2.block w.heap.size hl).trans HB.out
      have c3 : w2.cell? ⟨w.heap.size, 0, none⟩ = some (.int .i64 m) := by simp [World.cell?, hb2]
      have c4 : w2.cell? ⟨w.heap.size, 1, none⟩ = some (.int .i64 n) := by simp [World.cell?, hb2]
      have c5 : w2.cell? ⟨w.heap.size, 2, none⟩ = some (.bool b) := by simp [World.cell?, hb2]
      clear b2 hb2 c0 c1 c2 KD KQ KL KA hs hl
      go_wp2
      go_ret
      exact ⟨rfl, B2.out⟩
    · obtain ⟨rfl, rfl⟩ := KA2 (by omega)
      clear KA1 KA2
      go_enter Try.func7, Try.ntmps7
      go_wp2_with (go_at_call 9; refine KW.mono ?_)
      first | rintro e w1 rfl b1 | rintro e w1 ⟨rfl, b1⟩
      have B1 : Hid (Below w.heap.size w w1) := B0.out.trans (b1.mono (by simp))
      have hb := (b1.block w.heap.size (by simp)).trans HC.out
      have c0 : w1.cell? ⟨w.heap.size, 0, none⟩ = some (.int .i64 m) := by simp [World.cell?, hb]
      have c1 : w1.cell? ⟨w.heap.size, 1, none⟩ = some (.int .i64 n) := by simp [World.cell?, hb]
      have c2 : w1.cell? ⟨w.heap.size, 2, none⟩ = some (.bool b) := by simp [World.cell?, hb]
      have HB : Hid (w1.heap[w.heap.size]? = some (.cells #[.int .i64 m, .int .i64 n, .bool b] 38 (0, 0))) := hb
      have hl : w.heap.size < w1.heap.size := Nat.lt_of_lt_of_le (by simp) b1.size
      have hs : w.heap.size ≤ w1.heap.size := Nat.le_of_lt hl
      clear b1 hb KW
      go_wp2_with (first | (go_at_call 16; refine (KD _).mono ?_; rintro e w' ⟨rfl, rfl⟩) | (go_at_call 17; refine (KQ _).mono ?_; rintro e w' ⟨rfl, rfl⟩) | (go_at_call 18; refine (KL _).mono ?_; rintro e w' ⟨rfl, rfl⟩) | (go_at_call 19; refine (KM _).mono ?_; rintro e w' ⟨rfl, rfl⟩) | (go_at_call 20; refine (KA _).mono ?_))
      first | rintro e w2 rfl b2 | rintro e w2 ⟨rfl, b2⟩
      have B2 : Hid (Below w.heap.size w w2) := B1.out.trans (b2.mono hs)
      have hb2 := (b2.block w.heap.size hl).trans HB.out
      have c3 : w2.cell? ⟨w.heap.size, 0, none⟩ = some (.int .i64 m) := by simp [World.cell?, hb2]
      have c4 : w2.cell? ⟨w.heap.size, 1, none⟩ = some (.int .i64 n) := by simp [World.cell?, hb2]
      have c5 : w2.cell? ⟨w.heap.size, 2, none⟩ = some (.bool b) := by simp [World.cell?, hb2]
      clear b2 hb2 c0 c1 c2 KD KQ KL KA hs hl
      go_wp2
      go_ret
      exact ⟨rfl, B2.out⟩
    · obtain ⟨rfl, rfl⟩ := KA2 (by omega)
      clear KA1 KA2
      go_enter Try.func7, Try.ntmps7
      go_wp2_with (go_at_call 9; refine KW.mono ?_)
      first | rintro e w1 rfl b1 | rintro e w1 ⟨rfl, b1⟩
      have B1 : Hid (Below w.heap.size w w1) := B0.out.trans (b1.mono (by simp))
      have hb := (b1.block w.heap.size (by simp)).trans HC.out
      have c0 : w1.cell? ⟨w.heap.size, 0, none⟩ = some (.int .i64 m) := by simp [World.cell?, hb]
      have c1 : w1.cell? ⟨w.heap.size, 1, none⟩ = some (.int .i64 n) := by simp [World.cell?, hb]
      have c2 : w1.cell? ⟨w.heap.size, 2, none⟩ = some (.bool b) := by simp [World.cell?, hb]
      have HB : Hid (w1.heap[w.heap.size]? = some (.cells #[.int .i64 m, .int .i64 n, .bool b] 38 (0, 0))) := hb
      have hl : w.heap.size < w1.heap.size := Nat.lt_of_lt_of_le (by simp) b1.size
      have hs : w.heap.size ≤ w1.heap.size := Nat.le_of_lt hl
      clear b1 hb KW
      go_wp2_with (first | (go_at_call 16; refine (KD _).mono ?_; rintro e w' ⟨rfl, rfl⟩) | (go_at_call 17; refine (KQ _).mono ?_; rintro e w' ⟨rfl, rfl⟩) | (go_at_call 18; refine (KL _).mono ?_; rintro e w' ⟨rfl, rfl⟩) | (go_at_call 19; refine (KM _).mono ?_; rintro e w' ⟨rfl, rfl⟩) | (go_at_call 20; refine (KA _).mono ?_))
      first | rintro e w2 rfl b2 | rintro e w2 ⟨rfl, b2⟩
      have B2 : Hid (Below w.heap.size w w2) := B1.out.trans (b2.mono hs)
      have hb2 := (b2.block w.heap.size hl).trans HB.out
      have c3 : w2.cell? ⟨w.heap.size, 0, none⟩ = some (.int .i64 m) := by simp [World.cell?, hb2]
      have c4 : w2.cell? ⟨w.heap.size, 1, none⟩ = some (.int .i64 n) := by simp [World.cell?, hb2]
      have c5 : w2.cell? ⟨w.heap.size, 2, none⟩ = some (.bool b) := by simp [World.cell?, hb2]
      clear b2 hb2 c0 c1 c2 KD KQ KL KA hs hl
      go_wp2
      go_ret
      exact ⟨rfl, B2.out⟩
    · obtain ⟨rfl, rfl⟩ := KA2 (by omega)
      clear KA1 KA2
      go_enter Try.func7, Try.ntmps7
      go_wp2_with (go_at_call 9; refine KW.mono ?_)
      first | rintro e w1 rfl b1 | rintro e w1 ⟨rfl, b1⟩
      have B1 : Hid (Below w.heap.size w w1) := B0.out.trans (b1.mono (by simp))
      have hb := (b1.block w.heap.size (by simp)).trans HC.out
      have c0 : w1.cell? ⟨w.heap.size, 0, none⟩ = some (.int .i64 m) := by simp [World.cell?, hb]
      have c1 : w1.cell? ⟨w.heap.size, 1, none⟩ = some (.int .i64 n) := by simp [World.cell?, hb]
      have c2 : w1.cell? ⟨w.heap.size, 2, none⟩ = some (.bool b) := by simp [World.cell?, hb]
      have HB : Hid (w1.heap[w.heap.size]? = some (.cells #[.int .i64 m, .int .i64 n, .bool b] 38 (0, 0))) := hb
      have hl : w.heap.size < w1.heap.size := Nat.lt_of_lt_of_le (by simp) b1.size
      have hs : w.heap.size ≤ w1.heap.size := Nat.le_of_lt hl
      clear b1 hb KW
      go_wp2_with (first | (go_at_call 16; refine (KD _).mono ?_; rintro e w' ⟨rfl, rfl⟩) | (go_at_call 17; refine (KQ _).mono ?_; rintro e w' ⟨rfl, rfl⟩) | (go_at_call 18; refine (KL _).mono ?_; rintro e w' ⟨rfl, rfl⟩) | (go_at_call 19; refine (KM _).mono ?_; rintro e w' ⟨rfl, rfl⟩) | (go_at_call 20; refine (KA _).mono ?_))
      first | rintro e w2 rfl b2 | rintro e w2 ⟨rfl, b2⟩
      have B2 : Hid (Below w.heap.size w w2) := B1.out.trans (b2.mono hs)
      have hb2 := (b2.block w.heap.size hl).trans HB.out
      have c3 : w2.cell? ⟨w.heap.size, 0, none⟩ = some (.int .i64 m) := by simp [World.cell?, hb2]
      have c4 : w2.cell? ⟨w.heap.size, 1, none⟩ = some (.int .i64 n) := by simp [World.cell?, hb2]
      have c5 : w2.cell? ⟨w.heap.size, 2, none⟩ = some (.bool b) := by simp [World.cell?, hb2]
      clear b2 hb2 c0 c1 c2 KD KQ KL KA hs hl
      go_wp2
      go_ret
      exact ⟨rfl, B2.out⟩
    · obtain ⟨rfl, KB⟩ := KA1 ⟨m1, m2, m3, m4⟩
      clear KA1 KA2
      go_enter Try.func7, Try.ntmps7
      go_wp2_with (go_at_call 9; refine KW.mono ?_)
      first | rintro e w1 rfl b1 | rintro e w1 ⟨rfl, b1⟩
      have B1 : Hid (Below w.heap.size w w1) := B0.out.trans (b1.mono (by simp))
      have hb := (b1.block w.heap.size (by simp)).trans HC.out
      have c0 : w1.cell? ⟨w.heap.size, 0, none⟩ = some (.int .i64 m) := by simp [World.cell?, hb]
      have c1 : w1.cell? ⟨w.heap.size, 1, none⟩ = some (.int .i64 n) := by simp [World.cell?, hb]
      have c2 : w1.cell? ⟨w.heap.size, 2, none⟩ = some (.bool b) := by simp [World.cell?, hb]
      have HB : Hid (w1.heap[w.heap.size]? = some (.cells #[.int .i64 m, .int .i64 n, .bool b] 38 (0, 0))) := hb
      have hl : w.heap.size < w1.heap.size := Nat.lt_of_lt_of_le (by simp) b1.size
      have hs : w.heap.size ≤ w1.heap.size := Nat.le_of_lt hl
      clear b1 hb KW
      go_wp2_with (first | (go_at_call 16; refine (KD _).mono ?_; rintro e w' ⟨rfl, rfl⟩) | (go_at_call 17; refine (KQ _).mono ?_; rintro e w' ⟨rfl, rfl⟩) | (go_at_call 18; refine (KL _).mono ?_; rintro e w' ⟨rfl, rfl⟩) | (go_at_call 19; refine (KM _).mono ?_; rintro e w' ⟨rfl, rfl⟩) | (go_at_call 20; refine (KA _).mono ?_))
      first | rintro e w2 rfl b2 | rintro e w2 ⟨rfl, b2⟩
      have B2 : Hid (Below w.heap.size w w2) := B1.out.trans (b2.mono hs)
      have hb2 := (b2.block w.heap.size hl).trans HB.out
      have c3 : w2.cell? ⟨w.heap.size, 0, none⟩ = some (.int .i64 m) := by simp [World.cell?, hb2]
      have c4 : w2.cell? ⟨w.heap.size, 1, none⟩ = some (.int .i64 n) := by simp [World.cell?, hb2]
      have c5 : w2.cell? ⟨w.heap.size, 2, none⟩ = some (.bool b) := by simp [World.cell?, hb2]
      clear b2 hb2 c0 c1 c2 KD KQ KL KA hs hl
      go_wp2_with (go_at_call 21; refine (KB _).mono ?_; rintro e w' ⟨rfl, rfl⟩)
      go_ret
      exact ⟨rfl, B2.out⟩
end Go.Proofs.Ytahmeejcgddlhaa
