/-
  The contract of Named: the set that has this number, or none and the error. No condition.
-/
import Derived.Test.YtgfgkhgohoaneaaHost
namespace Go.Proofs.Ytgfgkhgohoaneaa
open Go.RowKit

set_option maxHeartbeats 400000 in
theorem named1 (w : World) : Calls Try.prog 26 #[.int .i64 1] w fun e w' => e = .returned (.tuple #[.agg #[.int .u64 ((wd (setP 1)) 0), .int .u64 ((wd (setP 1)) 1), .int .u64 ((wd (setP 1)) 2), .int .u64 ((wd (setP 1)) 3)], .int .i64 0]) ∧ Below w.heap.size w w' := by
  go_enter Try.func26, Try.ntmps26
  go_wp2_with fail
  refine (set37_any _).mono ?_
  rintro e w1 ⟨rfl, hb1⟩
  have hR1 : Cel .u64 w1 w.heap.size 4 (fun _ => 0) := (Cel.new (n := 4) (kd := .u64) (f := fun _ => 0) w #[.int .u64 0, .int .u64 0, .int .u64 0, .int .u64 0] 32 fun j hj => zero4 j hj).below hb1 (by simp)
  have HB1 : Hid (Below w.heap.size w w1) := ((Below.refl _ _).alloc (by simp) _).trans (hb1.mono (by simp))
  clear hb1
  obtain ⟨hr0, hg0⟩ := hR1 0 (by omega)
  obtain ⟨hr1, hg1⟩ := hR1 1 (by omega)
  obtain ⟨hr2, hg2⟩ := hR1 2 (by omega)
  obtain ⟨hr3, hg3⟩ := hR1 3 (by omega)
  go_wp2
  refine bodyPost_ret (v := .tuple #[.agg #[.int .u64 ((wd (setP 1)) 0), .int .u64 ((wd (setP 1)) 1), .int .u64 ((wd (setP 1)) 2), .int .u64 ((wd (setP 1)) 3)], .int .i64 0]) (by simp [results, Try.results26, go_sem, hr0, hr1, hr2, hr3]) rfl ⟨rfl, ?_⟩
  exact (((HB1.out.setCell (by simp) _).setCell (by simp) _).setCell (by simp) _).setCell (by simp) _

set_option maxHeartbeats 400000 in
theorem named2 (w : World) : Calls Try.prog 26 #[.int .i64 2] w fun e w' => e = .returned (.tuple #[.agg #[.int .u64 ((wd (setP 2)) 0), .int .u64 ((wd (setP 2)) 1), .int .u64 ((wd (setP 2)) 2), .int .u64 ((wd (setP 2)) 3)], .int .i64 0]) ∧ Below w.heap.size w w' := by
  go_enter Try.func26, Try.ntmps26
  go_wp2_with fail
  refine (set38_any _).mono ?_
  rintro e w1 ⟨rfl, hb1⟩
  have hR1 : Cel .u64 w1 w.heap.size 4 (fun _ => 0) := (Cel.new (n := 4) (kd := .u64) (f := fun _ => 0) w #[.int .u64 0, .int .u64 0, .int .u64 0, .int .u64 0] 32 fun j hj => zero4 j hj).below hb1 (by simp)
  have HB1 : Hid (Below w.heap.size w w1) := ((Below.refl _ _).alloc (by simp) _).trans (hb1.mono (by simp))
  clear hb1
  obtain ⟨hr0, hg0⟩ := hR1 0 (by omega)
  obtain ⟨hr1, hg1⟩ := hR1 1 (by omega)
  obtain ⟨hr2, hg2⟩ := hR1 2 (by omega)
  obtain ⟨hr3, hg3⟩ := hR1 3 (by omega)
  go_wp2
  refine bodyPost_ret (v := .tuple #[.agg #[.int .u64 ((wd (setP 2)) 0), .int .u64 ((wd (setP 2)) 1), .int .u64 ((wd (setP 2)) 2), .int .u64 ((wd (setP 2)) 3)], .int .i64 0]) (by simp [results, Try.results26, go_sem, hr0, hr1, hr2, hr3]) rfl ⟨rfl, ?_⟩
  exact (((HB1.out.setCell (by simp) _).setCell (by simp) _).setCell (by simp) _).setCell (by simp) _

set_option maxHeartbeats 400000 in
theorem named3 (w : World) : Calls Try.prog 26 #[.int .i64 3] w fun e w' => e = .returned (.tuple #[.agg #[.int .u64 ((wd (setP 3)) 0), .int .u64 ((wd (setP 3)) 1), .int .u64 ((wd (setP 3)) 2), .int .u64 ((wd (setP 3)) 3)], .int .i64 0]) ∧ Below w.heap.size w w' := by
  go_enter Try.func26, Try.ntmps26
  go_wp2_with fail
  refine (set39_any _).mono ?_
  rintro e w1 ⟨rfl, hb1⟩
  have hR1 : Cel .u64 w1 w.heap.size 4 (fun _ => 0) := (Cel.new (n := 4) (kd := .u64) (f := fun _ => 0) w #[.int .u64 0, .int .u64 0, .int .u64 0, .int .u64 0] 32 fun j hj => zero4 j hj).below hb1 (by simp)
  have HB1 : Hid (Below w.heap.size w w1) := ((Below.refl _ _).alloc (by simp) _).trans (hb1.mono (by simp))
  clear hb1
  obtain ⟨hr0, hg0⟩ := hR1 0 (by omega)
  obtain ⟨hr1, hg1⟩ := hR1 1 (by omega)
  obtain ⟨hr2, hg2⟩ := hR1 2 (by omega)
  obtain ⟨hr3, hg3⟩ := hR1 3 (by omega)
  go_wp2
  refine bodyPost_ret (v := .tuple #[.agg #[.int .u64 ((wd (setP 3)) 0), .int .u64 ((wd (setP 3)) 1), .int .u64 ((wd (setP 3)) 2), .int .u64 ((wd (setP 3)) 3)], .int .i64 0]) (by simp [results, Try.results26, go_sem, hr0, hr1, hr2, hr3]) rfl ⟨rfl, ?_⟩
  exact (((HB1.out.setCell (by simp) _).setCell (by simp) _).setCell (by simp) _).setCell (by simp) _

set_option maxHeartbeats 400000 in
theorem named4 (w : World) : Calls Try.prog 26 #[.int .i64 4] w fun e w' => e = .returned (.tuple #[.agg #[.int .u64 ((wd (setP 4)) 0), .int .u64 ((wd (setP 4)) 1), .int .u64 ((wd (setP 4)) 2), .int .u64 ((wd (setP 4)) 3)], .int .i64 0]) ∧ Below w.heap.size w w' := by
  go_enter Try.func26, Try.ntmps26
  go_wp2_with fail
  refine (set40_any _).mono ?_
  rintro e w1 ⟨rfl, hb1⟩
  have hR1 : Cel .u64 w1 w.heap.size 4 (fun _ => 0) := (Cel.new (n := 4) (kd := .u64) (f := fun _ => 0) w #[.int .u64 0, .int .u64 0, .int .u64 0, .int .u64 0] 32 fun j hj => zero4 j hj).below hb1 (by simp)
  have HB1 : Hid (Below w.heap.size w w1) := ((Below.refl _ _).alloc (by simp) _).trans (hb1.mono (by simp))
  clear hb1
  obtain ⟨hr0, hg0⟩ := hR1 0 (by omega)
  obtain ⟨hr1, hg1⟩ := hR1 1 (by omega)
  obtain ⟨hr2, hg2⟩ := hR1 2 (by omega)
  obtain ⟨hr3, hg3⟩ := hR1 3 (by omega)
  go_wp2
  refine bodyPost_ret (v := .tuple #[.agg #[.int .u64 ((wd (setP 4)) 0), .int .u64 ((wd (setP 4)) 1), .int .u64 ((wd (setP 4)) 2), .int .u64 ((wd (setP 4)) 3)], .int .i64 0]) (by simp [results, Try.results26, go_sem, hr0, hr1, hr2, hr3]) rfl ⟨rfl, ?_⟩
  exact (((HB1.out.setCell (by simp) _).setCell (by simp) _).setCell (by simp) _).setCell (by simp) _

set_option maxHeartbeats 400000 in
theorem named5 (w : World) : Calls Try.prog 26 #[.int .i64 5] w fun e w' => e = .returned (.tuple #[.agg #[.int .u64 ((wd (setP 5)) 0), .int .u64 ((wd (setP 5)) 1), .int .u64 ((wd (setP 5)) 2), .int .u64 ((wd (setP 5)) 3)], .int .i64 0]) ∧ Below w.heap.size w w' := by
  go_enter Try.func26, Try.ntmps26
  go_wp2_with fail
  refine (set41_any _).mono ?_
  rintro e w1 ⟨rfl, hb1⟩
  have hR1 : Cel .u64 w1 w.heap.size 4 (fun _ => 0) := (Cel.new (n := 4) (kd := .u64) (f := fun _ => 0) w #[.int .u64 0, .int .u64 0, .int .u64 0, .int .u64 0] 32 fun j hj => zero4 j hj).below hb1 (by simp)
  have HB1 : Hid (Below w.heap.size w w1) := ((Below.refl _ _).alloc (by simp) _).trans (hb1.mono (by simp))
  clear hb1
  obtain ⟨hr0, hg0⟩ := hR1 0 (by omega)
  obtain ⟨hr1, hg1⟩ := hR1 1 (by omega)
  obtain ⟨hr2, hg2⟩ := hR1 2 (by omega)
  obtain ⟨hr3, hg3⟩ := hR1 3 (by omega)
  go_wp2
  refine bodyPost_ret (v := .tuple #[.agg #[.int .u64 ((wd (setP 5)) 0), .int .u64 ((wd (setP 5)) 1), .int .u64 ((wd (setP 5)) 2), .int .u64 ((wd (setP 5)) 3)], .int .i64 0]) (by simp [results, Try.results26, go_sem, hr0, hr1, hr2, hr3]) rfl ⟨rfl, ?_⟩
  exact (((HB1.out.setCell (by simp) _).setCell (by simp) _).setCell (by simp) _).setCell (by simp) _

set_option maxHeartbeats 400000 in
theorem named6 (w : World) : Calls Try.prog 26 #[.int .i64 6] w fun e w' => e = .returned (.tuple #[.agg #[.int .u64 ((wd (setP 6)) 0), .int .u64 ((wd (setP 6)) 1), .int .u64 ((wd (setP 6)) 2), .int .u64 ((wd (setP 6)) 3)], .int .i64 0]) ∧ Below w.heap.size w w' := by
  go_enter Try.func26, Try.ntmps26
  go_wp2_with fail
  refine (set42_any _).mono ?_
  rintro e w1 ⟨rfl, hb1⟩
  have hR1 : Cel .u64 w1 w.heap.size 4 (fun _ => 0) := (Cel.new (n := 4) (kd := .u64) (f := fun _ => 0) w #[.int .u64 0, .int .u64 0, .int .u64 0, .int .u64 0] 32 fun j hj => zero4 j hj).below hb1 (by simp)
  have HB1 : Hid (Below w.heap.size w w1) := ((Below.refl _ _).alloc (by simp) _).trans (hb1.mono (by simp))
  clear hb1
  obtain ⟨hr0, hg0⟩ := hR1 0 (by omega)
  obtain ⟨hr1, hg1⟩ := hR1 1 (by omega)
  obtain ⟨hr2, hg2⟩ := hR1 2 (by omega)
  obtain ⟨hr3, hg3⟩ := hR1 3 (by omega)
  go_wp2
  refine bodyPost_ret (v := .tuple #[.agg #[.int .u64 ((wd (setP 6)) 0), .int .u64 ((wd (setP 6)) 1), .int .u64 ((wd (setP 6)) 2), .int .u64 ((wd (setP 6)) 3)], .int .i64 0]) (by simp [results, Try.results26, go_sem, hr0, hr1, hr2, hr3]) rfl ⟨rfl, ?_⟩
  exact (((HB1.out.setCell (by simp) _).setCell (by simp) _).setCell (by simp) _).setCell (by simp) _

set_option maxHeartbeats 400000 in
theorem named7 (w : World) : Calls Try.prog 26 #[.int .i64 7] w fun e w' => e = .returned (.tuple #[.agg #[.int .u64 ((wd (setP 7)) 0), .int .u64 ((wd (setP 7)) 1), .int .u64 ((wd (setP 7)) 2), .int .u64 ((wd (setP 7)) 3)], .int .i64 0]) ∧ Below w.heap.size w w' := by
  go_enter Try.func26, Try.ntmps26
  go_wp2_with fail
  refine (set43_any _).mono ?_
  rintro e w1 ⟨rfl, hb1⟩
  have hR1 : Cel .u64 w1 w.heap.size 4 (fun _ => 0) := (Cel.new (n := 4) (kd := .u64) (f := fun _ => 0) w #[.int .u64 0, .int .u64 0, .int .u64 0, .int .u64 0] 32 fun j hj => zero4 j hj).below hb1 (by simp)
  have HB1 : Hid (Below w.heap.size w w1) := ((Below.refl _ _).alloc (by simp) _).trans (hb1.mono (by simp))
  clear hb1
  obtain ⟨hr0, hg0⟩ := hR1 0 (by omega)
  obtain ⟨hr1, hg1⟩ := hR1 1 (by omega)
  obtain ⟨hr2, hg2⟩ := hR1 2 (by omega)
  obtain ⟨hr3, hg3⟩ := hR1 3 (by omega)
  go_wp2
  refine bodyPost_ret (v := .tuple #[.agg #[.int .u64 ((wd (setP 7)) 0), .int .u64 ((wd (setP 7)) 1), .int .u64 ((wd (setP 7)) 2), .int .u64 ((wd (setP 7)) 3)], .int .i64 0]) (by simp [results, Try.results26, go_sem, hr0, hr1, hr2, hr3]) rfl ⟨rfl, ?_⟩
  exact (((HB1.out.setCell (by simp) _).setCell (by simp) _).setCell (by simp) _).setCell (by simp) _

set_option maxHeartbeats 400000 in
theorem named8 (w : World) : Calls Try.prog 26 #[.int .i64 8] w fun e w' => e = .returned (.tuple #[.agg #[.int .u64 ((wd (setP 8)) 0), .int .u64 ((wd (setP 8)) 1), .int .u64 ((wd (setP 8)) 2), .int .u64 ((wd (setP 8)) 3)], .int .i64 0]) ∧ Below w.heap.size w w' := by
  go_enter Try.func26, Try.ntmps26
  go_wp2_with fail
  refine (set44_any _).mono ?_
  rintro e w1 ⟨rfl, hb1⟩
  have hR1 : Cel .u64 w1 w.heap.size 4 (fun _ => 0) := (Cel.new (n := 4) (kd := .u64) (f := fun _ => 0) w #[.int .u64 0, .int .u64 0, .int .u64 0, .int .u64 0] 32 fun j hj => zero4 j hj).below hb1 (by simp)
  have HB1 : Hid (Below w.heap.size w w1) := ((Below.refl _ _).alloc (by simp) _).trans (hb1.mono (by simp))
  clear hb1
  obtain ⟨hr0, hg0⟩ := hR1 0 (by omega)
  obtain ⟨hr1, hg1⟩ := hR1 1 (by omega)
  obtain ⟨hr2, hg2⟩ := hR1 2 (by omega)
  obtain ⟨hr3, hg3⟩ := hR1 3 (by omega)
  go_wp2
  refine bodyPost_ret (v := .tuple #[.agg #[.int .u64 ((wd (setP 8)) 0), .int .u64 ((wd (setP 8)) 1), .int .u64 ((wd (setP 8)) 2), .int .u64 ((wd (setP 8)) 3)], .int .i64 0]) (by simp [results, Try.results26, go_sem, hr0, hr1, hr2, hr3]) rfl ⟨rfl, ?_⟩
  exact (((HB1.out.setCell (by simp) _).setCell (by simp) _).setCell (by simp) _).setCell (by simp) _

set_option maxHeartbeats 400000 in
theorem named9 (w : World) : Calls Try.prog 26 #[.int .i64 9] w fun e w' => e = .returned (.tuple #[.agg #[.int .u64 ((wd (setP 9)) 0), .int .u64 ((wd (setP 9)) 1), .int .u64 ((wd (setP 9)) 2), .int .u64 ((wd (setP 9)) 3)], .int .i64 0]) ∧ Below w.heap.size w w' := by
  go_enter Try.func26, Try.ntmps26
  go_wp2_with fail
  refine (set45_any _).mono ?_
  rintro e w1 ⟨rfl, hb1⟩
  have hR1 : Cel .u64 w1 w.heap.size 4 (fun _ => 0) := (Cel.new (n := 4) (kd := .u64) (f := fun _ => 0) w #[.int .u64 0, .int .u64 0, .int .u64 0, .int .u64 0] 32 fun j hj => zero4 j hj).below hb1 (by simp)
  have HB1 : Hid (Below w.heap.size w w1) := ((Below.refl _ _).alloc (by simp) _).trans (hb1.mono (by simp))
  clear hb1
  obtain ⟨hr0, hg0⟩ := hR1 0 (by omega)
  obtain ⟨hr1, hg1⟩ := hR1 1 (by omega)
  obtain ⟨hr2, hg2⟩ := hR1 2 (by omega)
  obtain ⟨hr3, hg3⟩ := hR1 3 (by omega)
  go_wp2
  refine bodyPost_ret (v := .tuple #[.agg #[.int .u64 ((wd (setP 9)) 0), .int .u64 ((wd (setP 9)) 1), .int .u64 ((wd (setP 9)) 2), .int .u64 ((wd (setP 9)) 3)], .int .i64 0]) (by simp [results, Try.results26, go_sem, hr0, hr1, hr2, hr3]) rfl ⟨rfl, ?_⟩
  exact (((HB1.out.setCell (by simp) _).setCell (by simp) _).setCell (by simp) _).setCell (by simp) _

set_option maxHeartbeats 400000 in
theorem named10 (w : World) : Calls Try.prog 26 #[.int .i64 10] w fun e w' => e = .returned (.tuple #[.agg #[.int .u64 ((wd (setP 10)) 0), .int .u64 ((wd (setP 10)) 1), .int .u64 ((wd (setP 10)) 2), .int .u64 ((wd (setP 10)) 3)], .int .i64 0]) ∧ Below w.heap.size w w' := by
  go_enter Try.func26, Try.ntmps26
  go_wp2_with fail
  refine (set46_any _).mono ?_
  rintro e w1 ⟨rfl, hb1⟩
  have hR1 : Cel .u64 w1 w.heap.size 4 (fun _ => 0) := (Cel.new (n := 4) (kd := .u64) (f := fun _ => 0) w #[.int .u64 0, .int .u64 0, .int .u64 0, .int .u64 0] 32 fun j hj => zero4 j hj).below hb1 (by simp)
  have HB1 : Hid (Below w.heap.size w w1) := ((Below.refl _ _).alloc (by simp) _).trans (hb1.mono (by simp))
  clear hb1
  obtain ⟨hr0, hg0⟩ := hR1 0 (by omega)
  obtain ⟨hr1, hg1⟩ := hR1 1 (by omega)
  obtain ⟨hr2, hg2⟩ := hR1 2 (by omega)
  obtain ⟨hr3, hg3⟩ := hR1 3 (by omega)
  go_wp2
  refine bodyPost_ret (v := .tuple #[.agg #[.int .u64 ((wd (setP 10)) 0), .int .u64 ((wd (setP 10)) 1), .int .u64 ((wd (setP 10)) 2), .int .u64 ((wd (setP 10)) 3)], .int .i64 0]) (by simp [results, Try.results26, go_sem, hr0, hr1, hr2, hr3]) rfl ⟨rfl, ?_⟩
  exact (((HB1.out.setCell (by simp) _).setCell (by simp) _).setCell (by simp) _).setCell (by simp) _

set_option maxHeartbeats 400000 in
theorem named_no (n : Int) (w : World) (h1 : (n == 1) = false) (h2 : (n == 2) = false) (h3 : (n == 3) = false) (h4 : (n == 4) = false) (h5 : (n == 5) = false) (h6 : (n == 6) = false) (h7 : (n == 7) = false) (h8 : (n == 8) = false) (h9 : (n == 9) = false) (h10 : (n == 10) = false) : Calls Try.prog 26 #[.int .i64 n] w fun e w' => e = .returned (.tuple #[.agg #[.int .u64 ((wd (setP 0)) 0), .int .u64 ((wd (setP 0)) 1), .int .u64 ((wd (setP 0)) 2), .int .u64 ((wd (setP 0)) 3)], .int .i64 10]) ∧ Below w.heap.size w w' := by
  have hz : ∀ i, wd (setP 0) i = 0 := fun i => by rw [show setP 0 = fun _ => false from by simp [setP]]; exact wd_none i
  rw [hz 0, hz 1, hz 2, hz 3]
  clear hz
  go_enter Try.func26, Try.ntmps26
  go_wp2
  refine bodyPost_ret (v := .tuple #[.agg #[.int .u64 0, .int .u64 0, .int .u64 0, .int .u64 0], .int .i64 10]) (by simp [results, Try.results26, go_sem]) rfl ⟨rfl, ?_⟩
  exact (Below.refl _ _).alloc (by simp) _
/-- The number of the set, 0 for none; the error's number. -/
def nameK (n : Int) : Nat := if 1 ≤ n ∧ n ≤ 10 then n.toNat else 0
def nameE (n : Int) : Int := if 1 ≤ n ∧ n ≤ 10 then 0 else 10
theorem named_any (n : Int) (w : World) : Calls Try.prog 26 #[.int .i64 n] w fun e w' => e = .returned (.tuple #[.agg #[.int .u64 ((wd (setP (nameK n))) 0), .int .u64 ((wd (setP (nameK n))) 1), .int .u64 ((wd (setP (nameK n))) 2), .int .u64 ((wd (setP (nameK n))) 3)], .int .i64 (nameE n)]) ∧ Below w.heap.size w w' := by
  by_cases h : 1 ≤ n ∧ n ≤ 10
  · rcases (show n = 1 ∨ n = 2 ∨ n = 3 ∨ n = 4 ∨ n = 5 ∨ n = 6 ∨ n = 7 ∨ n = 8 ∨ n = 9 ∨ n = 10 from by omega) with rfl | rfl | rfl | rfl | rfl | rfl | rfl | rfl | rfl | rfl
    · exact named1 w
    · exact named2 w
    · exact named3 w
    · exact named4 w
    · exact named5 w
    · exact named6 w
    · exact named7 w
    · exact named8 w
    · exact named9 w
    · exact named10 w
  · have e1 : nameK n = 0 := if_neg h
    have e2 : nameE n = 10 := if_neg h
    rw [e1, e2]
    exact named_no n w (beq_eq_false_iff_ne.2 (by omega)) (beq_eq_false_iff_ne.2 (by omega)) (beq_eq_false_iff_ne.2 (by omega)) (beq_eq_false_iff_ne.2 (by omega)) (beq_eq_false_iff_ne.2 (by omega)) (beq_eq_false_iff_ne.2 (by omega)) (beq_eq_false_iff_ne.2 (by omega)) (beq_eq_false_iff_ne.2 (by omega)) (beq_eq_false_iff_ne.2 (by omega)) (beq_eq_false_iff_ne.2 (by omega))
end Go.Proofs.Ytgfgkhgohoaneaa
