/-
  The contract of Named: the set that has this number, or none and the error. No condition.
-/
import Derived.Test.YtoliiccmfmgmlaaDoorNamed
namespace Go.Proofs.YtoliiccmfmgmlaaDoor
open Go.RowKit

set_option maxHeartbeats 400000 in
theorem named8 (w : World) : Calls Tryd.prog 27 #[.int .i64 8] w fun e w' => e = .returned (.tuple #[.agg #[.int .u64 ((wd (setP 8)) 0), .int .u64 ((wd (setP 8)) 1), .int .u64 ((wd (setP 8)) 2), .int .u64 ((wd (setP 8)) 3)], .int .i64 0]) ∧ Below w.heap.size w w' := by
  go_enter Tryd.func27, Tryd.ntmps27
  go_wp2_with fail
  refine (set44_any _).mono ?_
  rintro e w1 ⟨rfl, hb1⟩
  have hR1 : Cel .u64 w1 w.heap.size 4 (fun _ => 0) := (Cel.new (n := 4) (kd := .u64) (f := fun _ => 0) w #[.int .u64 0, .int .u64 0, .int .u64 0, .int .u64 0] 27 fun j hj => zero4 j hj).below hb1 (by simp)
  have HB1 : Hid (Below w.heap.size w w1) := ((Below.refl _ _).alloc (by simp) _).trans (hb1.mono (by simp))
  clear hb1
  obtain ⟨hr0, hg0⟩ := hR1 0 (by omega)
  obtain ⟨hr1, hg1⟩ := hR1 1 (by omega)
  obtain ⟨hr2, hg2⟩ := hR1 2 (by omega)
  obtain ⟨hr3, hg3⟩ := hR1 3 (by omega)
  go_wp2
  refine bodyPost_ret (v := .tuple #[.agg #[.int .u64 ((wd (setP 8)) 0), .int .u64 ((wd (setP 8)) 1), .int .u64 ((wd (setP 8)) 2), .int .u64 ((wd (setP 8)) 3)], .int .i64 0]) (by simp [results, Tryd.results27, go_sem, hr0, hr1, hr2, hr3]) rfl ⟨rfl, ?_⟩
  exact (((HB1.out.setCell (by simp) _).setCell (by simp) _).setCell (by simp) _).setCell (by simp) _

/-- The number of the set, 0 for none; the error's number. -/
def nameK (n : Int) : Nat := if 1 ≤ n ∧ n ≤ 10 then n.toNat else 0
def nameE (n : Int) : Int := if 1 ≤ n ∧ n ≤ 10 then 0 else 10
end Go.Proofs.YtoliiccmfmgmlaaDoor
