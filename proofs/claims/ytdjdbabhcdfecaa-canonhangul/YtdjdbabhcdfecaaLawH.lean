/-
  The walk of the law CanonHangul: it returns true and turns nothing that was there. No conditions but that its four numbers are runes.
-/
import Derived.Test.YtdjdbabhcdfecaaAx
import Derived.Deep.RegionWith
namespace Go.Proofs.Ytdjdbabhcdfecaa
open Go.RowKit
/-- What Hangul answers: the syllable, or 0 and no. -/
theorem han_ex (l v t : Int) (hl : -2147483648 ≤ l) (hl2 : l ≤ 2147483647) (hv : -2147483648 ≤ v) (hv2 : v ≤ 2147483647) (h0 : -2147483648 ≤ t) (h0' : t ≤ 2147483647) :
    ∃ (x : Int) (ok : Bool), ∀ w, Calls Try.prog 8 #[.int .i32 l, .int .i32 v, .int .i32 t] w (fun e w' => e = .returned (.tuple #[.int .i32 x, .bool ok]) ∧ w' = w) ∧ Calls Try.prog 9 #[.int .i32 l, .int .i32 v, .int .i32 t] w (fun e w' => e = .returned (.tuple #[.int .i32 x, .bool ok]) ∧ w' = w) := by
  by_cases h : l < 4352 ∨ 4371 ≤ l ∨ v < 4449 ∨ 4470 ≤ v ∨ (t ≠ 0 ∧ (t < 4520 ∨ 4547 ≤ t))
  · exact ⟨0, false, fun w => ⟨han_no l v t w hl hl2 hv hv2 h0 h0' h, rhan_no l v t w hl hl2 hv hv2 h0 h0' h⟩⟩
  · obtain ⟨c, hc, hc0, hc1⟩ : ∃ c, t = tJ c ∧ 0 ≤ c ∧ c < 28 := by
      by_cases z : t = 0
      · exact ⟨0, by rw [z]; rfl, by omega, by omega⟩
      · exact ⟨t - 4519, by unfold tJ; rw [if_neg (by omega)]; omega, by omega, by omega⟩
    exact ⟨_, true, fun w => ⟨han_yes l v t (l - 4352) (v - 4449) c w (by omega) (by omega) hc (by omega) (by omega) (by omega) (by omega) hc0 hc1, rhan_yes l v t (l - 4352) (v - 4449) c w (by omega) (by omega) hc (by omega) (by omega) (by omega) (by omega) hc0 hc1⟩⟩
set_option maxRecDepth 100000 in
set_option maxHeartbeats 1000000 in
theorem law_hangul (p l v t : Int) (w : World) (hl : -2147483648 ≤ l) (hl2 : l ≤ 2147483647) (hv : -2147483648 ≤ v) (hv2 : v ≤ 2147483647) (h0 : -2147483648 ≤ t) (h0' : t ≤ 2147483647) :
    Calls Try.prog 3 #[.int .i32 p, .agg #[.int .i32 l, .int .i32 v, .int .i32 t]] w fun e w' => e = .returned (.bool true) ∧ Below w.heap.size w w' := by
  obtain ⟨x, ok, KH⟩ := han_ex l v t hl hl2 hv hv2 h0 h0'
  have B0 : Hid (Below w.heap.size w (w.alloc (.cells #[.int .i32 l, .int .i32 v, .int .i32 t] 23))) := (Below.refl _ _).alloc (Nat.le_refl _) _
  have KA := awake_any (w.alloc (.cells #[.int .i32 l, .int .i32 v, .int .i32 t] 23))
  have hc0 : (w.alloc (.cells #[.int .i32 l, .int .i32 v, .int .i32 t] 23)).heap[w.heap.size]? = some (.cells #[.int .i32 l, .int .i32 v, .int .i32 t] 23 (0, 0)) := World.alloc_heap_new _ _
  have HC : Hid ((w.alloc (.cells #[.int .i32 l, .int .i32 v, .int .i32 t] 23)).heap[w.heap.size]? = some (.cells #[.int .i32 l, .int .i32 v, .int .i32 t] 23 (0, 0))) := hc0
  clear hc0 hl hl2 hv hv2 h0 h0'
  by_cases hp : p < 44032 ∨ 55204 ≤ p
  · go_enter Try.func3, Try.ntmps3
    go_wp2_with (go_at_call 5; refine KA.mono ?_)
    first | rintro e w1 rfl b1 | rintro e w1 ⟨rfl, b1⟩
    have B1 : Hid (Below w.heap.size w w1) := B0.out.trans (b1.mono (by simp))
    have hb := (b1.block w.heap.size (by simp)).trans HC.out
    have c0 : w1.cell? ⟨w.heap.size, 0, none⟩ = some (.int .i32 l) := by simp [World.cell?, hb]
    have c1 : w1.cell? ⟨w.heap.size, 1, none⟩ = some (.int .i32 v) := by simp [World.cell?, hb]
    have c2 : w1.cell? ⟨w.heap.size, 2, none⟩ = some (.int .i32 t) := by simp [World.cell?, hb]
    have HP : Hid (p < 44032 ∨ 55204 ≤ p) := hp
    clear b1 hb KA hp
    go_wp2_with (first | (go_at_call 6; refine (syl_no p _ HP.out).mono ?_; rintro e w' ⟨rfl, rfl⟩) | (go_at_call 7; refine (rsyl_no p _ HP.out).mono ?_; rintro e w' ⟨rfl, rfl⟩) | (go_at_call 8; refine (KH _).1.mono ?_; rintro e w' ⟨rfl, rfl⟩) | (go_at_call 9; refine (KH _).2.mono ?_; rintro e w' ⟨rfl, rfl⟩))
    go_ret
    exact ⟨rfl, B1.out⟩
  · obtain ⟨a, b, c, ep, ha, ha2, hb0, hb2, hc, hc2⟩ : ∃ a b c : Int, p = 44032 + 588 * a + 28 * b + c ∧ 0 ≤ a ∧ a < 19 ∧ 0 ≤ b ∧ b < 21 ∧ 0 ≤ c ∧ c < 28 :=
      ⟨(p - 44032) / 588, (p - 44032) % 588 / 28, (p - 44032) % 28, by omega, by omega, by omega, by omega, by omega, by omega, by omega⟩
    have KS := fun W => syl_yes p a b c W ep ha ha2 hb0 hb2 hc hc2
    have KR := fun W => rsyl_yes p a b c W ep ha ha2 hb0 hb2 hc hc2
    have KB := fun W => han_yes (4352 + a) (4449 + b) (tJ c) a b c W rfl rfl rfl ha ha2 hb0 hb2 hc hc2
    rw [← ep] at KB
    generalize 4352 + a = a1 at *
    generalize 4449 + b = b1 at *
    generalize tJ c = c1 at *
    clear ep ha ha2 hb0 hb2 hc hc2 hp
    go_enter Try.func3, Try.ntmps3
    go_wp2_with (go_at_call 5; refine KA.mono ?_)
    first | rintro e w1 rfl b1 | rintro e w1 ⟨rfl, b1⟩
    have B1 : Hid (Below w.heap.size w w1) := B0.out.trans (b1.mono (by simp))
    have hb := (b1.block w.heap.size (by simp)).trans HC.out
    have c0 : w1.cell? ⟨w.heap.size, 0, none⟩ = some (.int .i32 l) := by simp [World.cell?, hb]
    have c1 : w1.cell? ⟨w.heap.size, 1, none⟩ = some (.int .i32 v) := by simp [World.cell?, hb]
    have c2 : w1.cell? ⟨w.heap.size, 2, none⟩ = some (.int .i32 t) := by simp [World.cell?, hb]
    clear b1 hb KA
    go_wp2_with (first | (go_at_call 6; refine (KS _).mono ?_; rintro e w' ⟨rfl, rfl⟩) | (go_at_call 7; refine (KR _).mono ?_; rintro e w' ⟨rfl, rfl⟩) | (go_at_call_of 8 (Value.int IntKind.i32 l); refine (KH _).1.mono ?_; rintro e w' ⟨rfl, rfl⟩) | (go_at_call 9; refine (KH _).2.mono ?_; rintro e w' ⟨rfl, rfl⟩) | (go_at_call_of 8 (Value.int IntKind.i32 a1); refine (KB _).mono ?_; rintro e w' ⟨rfl, rfl⟩))
    go_ret
    exact ⟨rfl, B1.out⟩
end Go.Proofs.Ytdjdbabhcdfecaa
