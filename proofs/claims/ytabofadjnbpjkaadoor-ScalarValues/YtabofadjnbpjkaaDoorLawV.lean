/-
  The walk of the law ScalarValues: it returns true and turns nothing that was there. Condition: the library's two tables hold what their text lays.
-/
import Derived.Test.YtabofadjnbpjkaaDoorVal
namespace Go.Proofs.YtabofadjnbpjkaaDoor
open Go.RowKit Go.Lib
set_option maxHeartbeats 400000 in
theorem lawV (r : Int) (w : World) (hT : Utf8Tabs 0 1 w) (hg : 2 ≤ w.heap.size) : Calls Tryd.prog 3 #[.int .i32 r] w fun e w' => e = .returned (.bool true) ∧ Below w.heap.size w w' := by
  have k0 := awake_any w hT hg
  obtain ⟨q, hq⟩ : ∃ q, Lib.validRune r = q := ⟨_, rfl⟩
  have k1 := fun w => scalar_any r w
  have k2 := fun w => rscalar_any r w
  have k3 := fun w => width_any r w
  have k4 := fun w => rwidth_any r w
  obtain ⟨z, hz⟩ : ∃ z, widthZ r = z := ⟨_, rfl⟩
  simp only [hq] at k1 k2
  simp only [hz] at k3 k4
  clear hq hz
  cases q
  all_goals
    go_enter Tryd.func3, Tryd.ntmps3
    go_wp2_with (first | (go_at_call 9; refine k0.mono ?_; rintro e w' ⟨rfl, hb⟩) | (go_at_call 10; refine (k1 _).mono ?_; rintro e w' ⟨rfl, rfl⟩) | (go_at_call 11; refine (k2 _).mono ?_; rintro e w' ⟨rfl, rfl⟩) | (go_at_call 12; refine (k3 _).mono ?_; rintro e w' ⟨rfl, rfl⟩) | (go_at_call 13; refine (k4 _).mono ?_; rintro e w' ⟨rfl, rfl⟩))
    go_ret
    exact ⟨rfl, hb⟩
end Go.Proofs.YtabofadjnbpjkaaDoor
