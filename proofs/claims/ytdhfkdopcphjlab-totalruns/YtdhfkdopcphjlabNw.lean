/-
  The contracts of Narrow, Widen and Near, and of the statement's own near and is32. Conditions: the numbers fit their types.
-/
import Derived.Test.YtdhfkdopcphjlabWa
namespace Go.Proofs.Ytdhfkdopcphjlab
open Go.RowKit
theorem u64_of (m : Int) (h1 : -9223372036854775808 ≤ m) (h2 : m ≤ 9223372036854775807) : IntKind.u64.wrap m = if m < 0 then m + 18446744073709551616 else m := by
  rw [u64_wrap']; split <;> omega
set_option maxHeartbeats 1000000 in
theorem sizeOf_any (m : Int) (w : World) (h1 : -9223372036854775808 ≤ m) (h2 : m ≤ 9223372036854775807) : Calls Try.prog 115 #[.int .i64 m] w fun e w' => e = .returned (.int .u64 (m.natAbs : Int)) ∧ w' = w := by
  have hw := u64_of m h1 h2
  by_cases c : m < 0
  · rw [if_pos c] at hw
    have hn : IntKind.u64.wrap (-(m + 18446744073709551616)) = (m.natAbs : Int) := by rw [u64_wrap']; omega
    generalize (m.natAbs : Int) = r at *
    clear h1 h2
    go_enter Try.func115, Try.ntmps115
    go_wp2
    go_ret
    exact ⟨rfl, rfl⟩
  · rw [if_neg c] at hw
    have hn : (m.natAbs : Int) = m := by omega
    rw [hn]
    clear h1 h2 hn
    go_enter Try.func115, Try.ntmps115
    go_wp2
    go_ret
    exact ⟨rfl, rfl⟩
set_option maxHeartbeats 1000000 in
theorem reach_any (x : Int) (w : World) : Calls Try.prog 116 #[.int .i64 x] w fun e w' => e = .returned (.int .i64 (min (max x (-4096)) 4096)) ∧ w' = w := by
  go_enter Try.func116, Try.ntmps116
  go_wp2
  go_ret
  exact ⟨rfl, rfl⟩
set_option maxRecDepth 100000 in
set_option maxHeartbeats 2000000 in
theorem near_any (m x : Int) (w : World) (h1 : -9223372036854775808 ≤ m) (h2 : m ≤ 9223372036854775807) : Calls Try.prog 95 #[.int .i64 m, .int .i64 x] w fun e w' => e = .returned (.float .f64 ((if m < 0 then 2 ^ 63 else 0) + nearB 52 11 1023 m.natAbs (min (max x (-4096)) 4096))) ∧ Below w.heap.size w w' := by
  have k1 := fun w => sizeOf_any m w h1 h2
  have k2 := fun w => reach_any x w
  have k3 := fun w => number_any ⟨0, decide (m < 0), m.natAbs, min (max x (-4096)) 4096, false, 0⟩ w (by show m.natAbs < _; omega) (by show -10000 ≤ min (max x (-4096)) 4096; omega) (by show min (max x (-4096)) 4096 ≤ 10000; omega)
  have hr : rndB 52 11 1023 ⟨0, decide (m < 0), m.natAbs, min (max x (-4096)) 4096, false, 0⟩ = (if m < 0 then 2 ^ 63 else 0) + nearB 52 11 1023 m.natAbs (min (max x (-4096)) 4096) := by
    unfold rndB
    simp
  rw [hr] at k3
  generalize ((if m < 0 then 2 ^ 63 else 0) + nearB 52 11 1023 m.natAbs (min (max x (-4096)) 4096) : Nat) = r at *
  unfold Pt.val at k3
  dsimp only at k3
  generalize min (max x (-4096)) 4096 = X at *
  generalize m.natAbs = M at *
  generalize hs : decide (m < 0) = ng at *
  have bl : ∀ w, (Instr.build 100 #[(1, .bool ng), (2, .int .u64 (M : Int)), (3, .int .i64 X)]).run Try.prog w = .ok (.agg #[.int .i64 0, .bool ng, .int .u64 (M : Int), .int .i64 X, .bool false, .int .u64 0]) w := fun _ => by kernel_rfl
  clear h1 h2 hr
  go_enter Try.func95, Try.ntmps95
  go_wp2_with (first | (go_at_call 115; refine (k1 _).mono ?_; rintro e w' ⟨rfl, rfl⟩) | (go_at_call 116; refine (k2 _).mono ?_; rintro e w' ⟨rfl, rfl⟩) | (go_at_call 101; refine (k3 _).mono ?_))
  intro e1 w1 hq
  first | (obtain ⟨rfl, b1⟩ : _ ∧ _ := hq) | (subst hq; intro b1)
  have B1 : Hid (Below _ _ w1) := b1
  clear b1
  go_wp2
  go_ret
  exact ⟨rfl, B1.out⟩
end Go.Proofs.Ytdhfkdopcphjlab
