/-
  The contract of rounded: the sum as a float. Conditions: the sum lies in one block; its size is below 2^4213.
-/
import Derived.Test.YtdhfkdopcphjlabAe
import Derived.Test.YtdhfkdopcphjlabNw
import Derived.Test.YtdhfkdopcphjlabXt
namespace Go.Proofs.Ytdhfkdopcphjlab
open Go.RowKit
noncomputable def body41 : Code := Try.f52.body.getD .skip
theorem mnan_any (w : World) : Calls Try.prog 88 #[] w fun e w' => e = .returned (.float .f64 9221120237041090561) ∧ Below w.heap.size w w' := by
  have x10 := ext10
  go_enter Try.func88, Try.ntmps88
  go_wp2
  go_ret
  exact ⟨rfl, Below.refl _ _⟩
theorem minf_any (w : World) : Calls Try.prog 89 #[.int .i64 1] w fun e w' => e = .returned (.float .f64 9218868437227405312) ∧ Below w.heap.size w w' := by
  have x10 := ext10
  go_enter Try.func89, Try.ntmps89
  go_wp2
  go_ret
  exact ⟨rfl, Below.refl _ _⟩
theorem mninf_any (w : World) : Calls Try.prog 89 #[.int .i64 (-1)] w fun e w' => e = .returned (.float .f64 18442240474082181120) ∧ Below w.heap.size w w' := by
  have x10 := ext10
  go_enter Try.func89, Try.ntmps89
  go_wp2
  go_ret
  exact ⟨rfl, Below.refl _ _⟩
theorem mcopy_any (w : World) : Calls Try.prog 90 #[.float .f64 0, .float .f64 13830554455654793216] w fun e w' => e = .returned (.float .f64 9223372036854775808) ∧ Below w.heap.size w w' := by
  have x10 := ext10
  have x20 := ext20
  have h1 : bits .andNot .u64 0 9223372036854775808 = 0 := by decide
  have h2 : bits .and .u64 13830554455654793216 9223372036854775808 = 9223372036854775808 := by decide
  have h3 : bits .or .u64 0 9223372036854775808 = 9223372036854775808 := by decide
  go_enter Try.func90, Try.ntmps90
  go_wp2
  go_ret
  exact ⟨rfl, Below.refl _ _⟩
set_option maxRecDepth 100000 in
set_option maxHeartbeats 400000 in
theorem rd_n (b : Nat) (w : World) (c66 : w.cell? ⟨b, 66, none⟩ = some (.bool true)) : Calls Try.prog 52 #[.pointer (some ⟨b, 0, none⟩)] w fun e w' => e = .returned (.float .f64 9221120237041090561) ∧ Below w.heap.size w w' := by
  go_enter Try.func52, Try.ntmps52
  go_wp2_with fail
  refine (mnan_any _).mono ?_
  rintro e w1 ⟨rfl, b1⟩
  go_wp2
  go_ret
  exact ⟨rfl, b1⟩
set_option maxRecDepth 100000 in
set_option maxHeartbeats 400000 in
theorem rd_al (b : Nat) (w : World) (c66 : w.cell? ⟨b, 66, none⟩ = some (.bool false)) (c67 : w.cell? ⟨b, 67, none⟩ = some (.bool true)) (c68 : w.cell? ⟨b, 68, none⟩ = some (.bool true)) : Calls Try.prog 52 #[.pointer (some ⟨b, 0, none⟩)] w fun e w' => e = .returned (.float .f64 9221120237041090561) ∧ Below w.heap.size w w' := by
  go_enter Try.func52, Try.ntmps52
  go_wp2_with fail
  refine (mnan_any _).mono ?_
  rintro e w1 ⟨rfl, b1⟩
  go_wp2
  go_ret
  exact ⟨rfl, b1⟩
set_option maxRecDepth 100000 in
set_option maxHeartbeats 400000 in
theorem rd_a (b : Nat) (w : World) (c66 : w.cell? ⟨b, 66, none⟩ = some (.bool false)) (c67 : w.cell? ⟨b, 67, none⟩ = some (.bool true)) (c68 : w.cell? ⟨b, 68, none⟩ = some (.bool false)) : Calls Try.prog 52 #[.pointer (some ⟨b, 0, none⟩)] w fun e w' => e = .returned (.float .f64 9218868437227405312) ∧ Below w.heap.size w w' := by
  go_enter Try.func52, Try.ntmps52
  go_wp2_with fail
  refine (minf_any _).mono ?_
  rintro e w1 ⟨rfl, b1⟩
  go_wp2
  go_ret
  exact ⟨rfl, b1⟩
set_option maxRecDepth 100000 in
set_option maxHeartbeats 400000 in
theorem rd_l (b : Nat) (w : World) (c66 : w.cell? ⟨b, 66, none⟩ = some (.bool false)) (c67 : w.cell? ⟨b, 67, none⟩ = some (.bool false)) (c68 : w.cell? ⟨b, 68, none⟩ = some (.bool true)) : Calls Try.prog 52 #[.pointer (some ⟨b, 0, none⟩)] w fun e w' => e = .returned (.float .f64 18442240474082181120) ∧ Below w.heap.size w w' := by
  go_enter Try.func52, Try.ntmps52
  go_wp2_with fail
  refine (mninf_any _).mono ?_
  rintro e w1 ⟨rfl, b1⟩
  go_wp2
  go_ret
  exact ⟨rfl, b1⟩
set_option maxRecDepth 100000 in
set_option maxHeartbeats 400000 in
theorem rd_m (b : Nat) (w : World) (c66 : w.cell? ⟨b, 66, none⟩ = some (.bool false)) (c67 : w.cell? ⟨b, 67, none⟩ = some (.bool false)) (c68 : w.cell? ⟨b, 68, none⟩ = some (.bool false)) (c69 : w.cell? ⟨b, 69, none⟩ = some (.bool true)) (c70 : w.cell? ⟨b, 70, none⟩ = some (.bool false)) : Calls Try.prog 52 #[.pointer (some ⟨b, 0, none⟩)] w fun e w' => e = .returned (.float .f64 9223372036854775808) ∧ Below w.heap.size w w' := by
  go_enter Try.func52, Try.ntmps52
  go_wp2_with fail
  refine (mcopy_any _).mono ?_
  rintro e w1 ⟨rfl, b1⟩
  go_wp2
  go_ret
  exact ⟨rfl, b1⟩
set_option maxRecDepth 100000 in
set_option maxHeartbeats 400000 in
theorem rd_0 {Q : Ending → World → Prop} (b : Nat) (m o : Bool) (w : World) (c66 : w.cell? ⟨b, 66, none⟩ = some (.bool false)) (c67 : w.cell? ⟨b, 67, none⟩ = some (.bool false)) (c68 : w.cell? ⟨b, 68, none⟩ = some (.bool false)) (c69 : w.cell? ⟨b, 69, none⟩ = some (.bool m)) (c70 : w.cell? ⟨b, 70, none⟩ = some (.bool o)) (hmo : (m && !o) = false)
    (hK : Hid (∀ a, At 75 [(0, .pointer (some ⟨b, 0, none⟩))] a → Code.wp Try.prog (sq 2 body41) (bodyPost Try.prog Try.f52 Q) a w)) : Calls Try.prog 52 #[.pointer (some ⟨b, 0, none⟩)] w Q := by
  go_enter Try.func52, Try.ntmps52
  change Code.wp _ (Code.seq (hd (sq 0 body41)) (Code.seq (hd (sq 1 body41)) (sq 2 body41))) _ _ _
  generalize sq 2 body41 = REST at hK ⊢
  conv => arg 2; arg 1; whnf
  conv => arg 2; arg 2; arg 1; whnf
  cases m
  · clear hmo
    go_wp2
    exact hK.out _ ⟨rfl, rfl, rfl, trivial⟩
  · cases o
    · cases hmo
    · clear hmo
      go_wp2
      exact hK.out _ ⟨rfl, rfl, rfl, trivial⟩
end Go.Proofs.Ytdhfkdopcphjlab
