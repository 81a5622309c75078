/-
  What the four functions between floats and their bits give. No condition.
-/
import Derived.Test.YtdhfkdopcphjlabProg
import Derived.KernelRfl
import Derived.WalkKit
namespace Go.Proofs.Ytdhfkdopcphjlab
theorem ext20 (b : Nat) (w : World) : (callFunc 84 #[.float .f64 b]).run Try.prog w = .ok (.value (.int .u64 b)) w := by kernel_rfl
theorem ext10 (n : Int) (w : World) : (callFunc 61 #[.int .u64 n]).run Try.prog w = .ok (.value (.float .f64 n.toNat)) w := by kernel_rfl
end Go.Proofs.Ytdhfkdopcphjlab
