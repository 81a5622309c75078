/-
  The contract of octet.Has: it tells whether the bit of a byte is set in a set's words. Conditions: none but that the byte is one.
-/
import Derived.Test.YtoliiccmfmgmlaaDoorProg
import Derived.Test.YtoliiccmfmgmlaaDoorRow
namespace Go.Proofs.YtoliiccmfmgmlaaDoor
open Go.RowKit
theorem four_at (X : Nat → Int) (n : Nat) (h : n < 4) : [Value.int .u64 (X 0), .int .u64 (X 1), .int .u64 (X 2), .int .u64 (X 3)][n]? = some (.int .u64 (X n)) := by
  match n, h with
  | 0, _ => rfl
  | 1, _ => rfl
  | 2, _ => rfl
  | 3, _ => rfl
/-- Whether byte b is in the set whose words are X. -/
def hasB (X : Nat → Int) (b : Nat) : Bool := bits BinOp.and IntKind.u64 (X (b / 64) / 2 ^ (b % 64)) 1 == 1
set_option maxHeartbeats 400000 in
theorem has_any (X : Nat → Int) (b : Nat) (w : World) (hb : b < 256) : Calls Tryd.prog 24 #[.agg #[.int .u64 (X 0), .int .u64 (X 1), .int .u64 (X 2), .int .u64 (X 3)], .int .u8 b] w fun e w' => e = .returned (.bool (hasB X b)) ∧ w' = w.alloc (.cells #[.int .u64 (X 0), .int .u64 (X 1), .int .u64 (X 2), .int .u64 (X 3)] 27) := by
  have h4 := four_at X (b / 64) (by omega)
  go_enter Tryd.func24, Tryd.ntmps24
  go_wp2
  go_ret
  exact ⟨rfl, rfl⟩
end Go.Proofs.YtoliiccmfmgmlaaDoor
