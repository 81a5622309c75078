/-
  The contracts of Add64, Sub64 and changed: a word with a piece and a carry added, or taken away. Conditions: all are of 64 bits; what is carried is 0 or 1.
-/
import Derived.Test.YtdhfkdopcphjlabVm
import Derived.Test.YtdhfkdopcphjlabShelf
import Derived.Laws.Externs
import Derived.WalkKit
namespace Go.Proofs.Ytdhfkdopcphjlab
open Go.RowKit
def subEntry : Array Value → Sem Value := fun args => do
  let (x, y, b) ← Extern.MathBitsCarry.three "Sub64" args
  pure (Extern.MathBitsCarry.pair ((x + Extern.MathBitsCarry.m64 - y - b) % Extern.MathBitsCarry.m64) (if x < y + b then 1 else 0))
theorem add64_run (x y c : Nat) (hc : c ≤ 1) (w : World) :
    (callFunc 113 #[.int .u64 x, .int .u64 y, .int .u64 c]).run Try.prog w = .ok (.value (.tuple #[.int .u64 (((x + y + c) % 18446744073709551616 : Nat) : Int), .int .u64 (((x + y + c) / 18446744073709551616 : Nat) : Int)])) w := by
  rw [run_callFunc_extern Try.func113 (by kernel_rfl) (by kernel_rfl) (by kernel_rfl) (e := add64Entry) (by kernel_rfl), run_add64 x y c (by omega) (by omega) (by omega) (by omega)]
  simp only [Result.andThen]
  congr 5 <;> omega
theorem sub64_run (x y b : Nat) (hb : b ≤ 1) (w : World) :
    (callFunc 127 #[.int .u64 x, .int .u64 y, .int .u64 b]).run Try.prog w = .ok (.value (.tuple #[.int .u64 (((x + 18446744073709551616 - y - b) % 18446744073709551616 : Nat) : Int), .int .u64 ((if x < y + b then 1 else 0 : Nat) : Int)])) w := by
  rw [run_callFunc_extern Try.func127 (by kernel_rfl) (by kernel_rfl) (by kernel_rfl) (e := subEntry) (by kernel_rfl)]
  have : b = 0 ∨ b = 1 := by omega
  rcases this with rfl | rfl <;> rfl
/-- A word, changed; what is carried on. -/
def chW (ng : Bool) (x p c : Nat) : Nat := if ng = true then (x + 18446744073709551616 - p - c) % 18446744073709551616 else (x + p + c) % 18446744073709551616
def chC (ng : Bool) (x p c : Nat) : Nat := if ng = true then (if x < p + c then 1 else 0) else (x + p + c) / 18446744073709551616
theorem chW_lt (ng : Bool) (x p c : Nat) : chW ng x p c < 18446744073709551616 := by unfold chW; split <;> omega
theorem chC_le (ng : Bool) (x p c : Nat) (hx : x < 18446744073709551616) (hp : p < 18446744073709551616) (hc : c ≤ 1) : chC ng x p c ≤ 1 := by unfold chC; split; (split <;> omega); omega
set_option maxHeartbeats 400000 in
theorem changed_any (ng : Bool) (x p c : Nat) (w : World) (hc : c ≤ 1) : Calls Try.prog 112 #[.int .u64 x, .int .u64 p, .int .u64 c, .bool ng] w fun e w' => e = .returned (.tuple #[.int .u64 (chW ng x p c : Nat), .int .u64 (chC ng x p c : Nat)]) ∧ Below w.heap.size w w' := by
  have h1 := add64_run x p c hc
  have h2 := sub64_run x p c hc
  have hC := show Hid (c ≤ 1) from hc
  clear hc
  unfold chW chC
  cases ng
  · rw [if_neg (by decide), if_neg (by decide)]
    go_enter Try.func112, Try.ntmps112
    go_wp2
    go_ret2
    exact ⟨rfl, Below.refl _ _⟩
  · rw [if_pos rfl, if_pos rfl]
    generalize (x + 18446744073709551616 - p - c) % 18446744073709551616 = S at h2 ⊢
    generalize (if x < p + c then 1 else 0) = C at h2 ⊢
    go_enter Try.func112, Try.ntmps112
    go_wp2
    go_ret2
    exact ⟨rfl, Below.refl _ _⟩
end Go.Proofs.Ytdhfkdopcphjlab
