/-
  The law's guard.
-/
import Derived.Test.YtcjlplaepnpopaaDoorPt
import Derived.OwnWalk
import Derived.WalkSmall
namespace Go.Proofs.YtcjlplaepnpopaaDoor
open Go.RowKit
theorem ptN_0041 : ptN ⟨#[48, 48, 52, 49]⟩ = some 65 := by decide +kernel
theorem awake_any (w : World) : Calls Tryd.prog 13 #[] w fun e w' => e = .returned (.bool true) ∧ w' = w := by
  have k5 := point_any ⟨#[48, 48, 52, 49]⟩ w (by decide)
  rw [ptN_0041] at k5
  simp only [ptA] at k5
  go_enter Tryd.func13, Tryd.ntmps13
  go_wp2_with (go_at_call 5; refine k5.mono ?_)
  rintro e w' ⟨rfl, hw⟩
  rw [hw]
  clear hw
  go_wp2
  exact bodyPost_ret (v := .bool true) (by simp [results, Tryd.results13, go_sem]) rfl ⟨rfl, rfl⟩
end Go.Proofs.YtcjlplaepnpopaaDoor
