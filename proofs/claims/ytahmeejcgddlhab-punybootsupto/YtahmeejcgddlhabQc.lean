/-
  The comparison by which places are put in order.
-/
import Derived.Test.YtahmeejcgddlhabQb
import Derived.Test.YtahmeejcgddlhabPt
namespace Go.Proofs.Ytahmeejcgddlhab
open Go.RowKit
def cmpV (x y : Int) : Int := if x < y then -1 else if y < x then 1 else 0
set_option maxRecDepth 100000 in
theorem isNaN_any (x : Int) (w : World) : Calls Try.prog 57 #[.int .i32 x] w fun e w' => e = .returned (.bool false) ∧ w' = w := by
  go_enter Try.func57, Try.ntmps57
  go_wp2
  go_ret
  simp
set_option maxRecDepth 100000 in
theorem Compare_any (x y : Int) (w : World) : Calls Try.prog 51 #[.int .i32 x, .int .i32 y] w fun e w' => e = .returned (.int .i64 (cmpV x y)) ∧ w' = w := by
  unfold cmpV
  have k := fun z w => isNaN_any z w
  by_cases c : x < y
  · rw [if_pos c]
    have c' : decide (x < y) = true := decide_eq_true c
    go_enter Try.func51, Try.ntmps51
    go_wp2_with (go_at_call 57; refine (k _ _).mono ?_; rintro e w' ⟨rfl, hw⟩; rw [hw]; clear hw)
    go_ret
    exact ⟨rfl, rfl⟩
  · rw [if_neg c]
    have c' : decide (x < y) = false := decide_eq_false c
    by_cases d : y < x
    · rw [if_pos d]
      have d' : decide (y < x) = true := decide_eq_true d
      go_enter Try.func51, Try.ntmps51
      go_wp2_with (go_at_call 57; refine (k _ _).mono ?_; rintro e w' ⟨rfl, hw⟩; rw [hw]; clear hw)
      go_ret
      exact ⟨rfl, rfl⟩
    · rw [if_neg d]
      have d' : decide (y < x) = false := decide_eq_false d
      go_enter Try.func51, Try.ntmps51
      go_wp2_with (go_at_call 57; refine (k _ _).mono ?_; rintro e w' ⟨rfl, hw⟩; rw [hw]; clear hw)
      go_ret
      exact ⟨rfl, rfl⟩
/-- The list that the comparison reads: below a line. -/
structure InL (B lb : Nat) (zs : List Int) (w : World) : Prop where
  lt : lb < B
  ex : ∃ gz off c, gz < B ∧ w.heap[lb]? = some (.cells #[.slice (some ⟨gz, off, none⟩) zs.length c] 24 (0, 0)) ∧ ∀ j, j < zs.length → w.cell? ⟨gz, off + j, none⟩ = some (.int .i32 (zs.getD j 0))
theorem InL.below {B lb : Nat} {zs : List Int} {w w' : World} (h : InL B lb zs w) (hb : Below B w w') : InL B lb zs w' := by
  obtain ⟨h1, gz, off, c, h2, h3, h4⟩ := h
  exact ⟨h1, gz, off, c, h2, (hb.block lb h1).trans h3, fun j hj => (hb.cell (p := ⟨gz, off + j, none⟩) h2).trans (h4 j hj)⟩
theorem InL.only {B lb g : Nat} {zs : List Int} {w w' : World} (h : InL B lb zs w) (hb : Only g w w') (hg : B ≤ g) : InL B lb zs w' := by
  obtain ⟨h1, gz, off, c, h2, h3, h4⟩ := h
  have hl := (Array.getElem?_eq_some_iff.1 h3).1
  refine ⟨h1, gz, off, c, h2, (hb.block lb hl (by intro q; cases q; omega)).trans h3, fun j hj => ?_⟩
  have := World.block_lt_of_cell? w _ (h4 j hj)
  exact (World.cell?_of_block (hb.block gz (by simpa using this) (by intro q; cases q; omega))).trans (h4 j hj)
theorem InL.drew {B lb : Nat} {zs : List Int} {w : World} (h : InL B lb zs w) (q : Nat) : InL B lb zs (w.drewN q) := h.below (below_drewN (Below.refl _ _) _)
set_option maxRecDepth 100000 in
set_option maxHeartbeats 1000000 in
theorem clo49_any (B lb : Nat) (zs : List Int) (a b : Nat) (w : World) (hI : InL B lb zs w) (ha : a < zs.length) (hb : b < zs.length)  : Calls Try.prog 50 #[.int .i64 (a : Int), .int .i64 (b : Int), .pointer (some ⟨lb, 0, none⟩)] w fun e w' => e = .returned (.int .i64 (cmpV (zs.getD a 0) (zs.getD b 0))) ∧ ∃ q, w' = w.drewN q := by
  obtain ⟨h1, gz, off, c, h2, h3, h4⟩ := hI
  have c0 : w.cell? ⟨lb, 0, none⟩ = some (.slice (some ⟨gz, off, none⟩) zs.length c) := by simp [World.cell?, h3]
  have c1 := h4 a ha
  have c2 := h4 b hb
  have a1 : (a : Int) < (zs.length : Int) := by omega
  have b1 : (b : Int) < (zs.length : Int) := by omega
  clear h1 h2 h3 h4 ha hb
  generalize zs.getD a 0 = X at *
  generalize zs.getD b 0 = Y at *
  have k := fun w => Compare_any X Y w
  generalize cmpV X Y = R at *
  go_enter Try.func50, Try.ntmps50
  go_wp2
  go_quiet (first | (go_at_call 51; refine Calls.quiet_of_same (k _)))
  go_wp2
  go_ret
  exact ⟨rfl, _, rfl⟩
end Go.Proofs.Ytahmeejcgddlhab
