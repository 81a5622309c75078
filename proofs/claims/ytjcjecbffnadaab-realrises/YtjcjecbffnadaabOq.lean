/-
  The contracts of Of and Of32 for any parts: the float whose parts these are, or the error. Condition: the numbers in the parts fit their types. And of what a statement asks first of all.
-/
import Derived.Test.YtjcjecbffnadaabBo
import Derived.Test.YtjcjecbffnadaabOf
import Derived.Test.YtjcjecbffnadaabPs
import Derived.Test.YtjcjecbffnadaabUp
namespace Go.Proofs.Ytjcjecbffnadaab
open Go.RowKit
theorem pt_small {p k : Nat} {bi : Int} (L : Lay p k bi) (b : Nat) : (pt p k bi b).mant < 18446744073709551616 ∧ (pt p k bi b).load < 18446744073709551616 := by
  have hp := L.pp
  have hF : b % 2 ^ p < 2 ^ p := Nat.mod_lt _ (by omega)
  have hM : b % 2 ^ p % 2 ^ (p - 1) ≤ b % 2 ^ p := Nat.mod_le _ _
  unfold pt
  repeat' split
  all_goals (dsimp only; constructor <;> omega)
/-- What Of answers. -/
def ofV (fk : FloatKind) (r : Option Nat) : Value := match r with | some b => .tuple #[.float fk b, .int .i64 0] | none => .tuple #[.float fk 0, .int .i64 40]
theorem of_any (x : Pt) (hm : x.mant < 18446744073709551616) (hl : x.load < 18446744073709551616) (w : World) : Calls Try.prog 47 #[x.val] w fun e w' => e = .returned (ofV .f64 (ofB 52 11 1023 x)) ∧ Below w.heap.size w w' := by
  obtain ⟨B, hB, hu, hc⟩ := bitsOf_any lay64 x hm hl
  have key := of_by x.kind x.exp x.neg x.quiet (decide (pt 52 11 1023 B = x)) x.mant x.load B w hc
  by_cases e : pt 52 11 1023 B = x
  · rw [ofB_some lay64 hB e]
    rw [decide_eq_true e] at key
    exact key
  · rw [ofB_none fun b hb h => e (by rw [hu b hb h]; exact h)]
    rw [decide_eq_false e] at key
    exact key
theorem of_pt (b : Nat) (hb : b < 18446744073709551616) (w : World) : Calls Try.prog 47 #[(pt 52 11 1023 b).val] w fun e w' => e = .returned (.tuple #[.float .f64 b, .int .i64 0]) ∧ Below w.heap.size w w' := by
  have key := of_any _ (pt_small lay64 b).1 (pt_small lay64 b).2 w
  rw [ofB_pt lay64 (Nat.lt_of_lt_of_le hb (by decide))] at key
  exact key
set_option maxHeartbeats 1000000 in
/-- What every statement asks first. -/
theorem awake_any (w : World) : Calls Try.prog 9 #[] w fun e w' => e = .returned (.bool true) ∧ Below w.heap.size w w' := by
  have hx : pt 52 11 1023 4609434218613702656 = ⟨2, false, 6755399441055744, -52, false, 0⟩ := by decide +kernel
  have k12 : ∀ w, Calls Try.prog 46 #[.float .f64 4609434218613702656] w fun e w' => e = .returned (.agg #[.int .i64 2, .bool false, .int .u64 6755399441055744, .int .i64 (-52), .bool false, .int .u64 0]) ∧ Below w.heap.size w w' := fun w => by
    have := Parts_any 4609434218613702656 w (by decide)
    rw [hx] at this
    exact this
  have k18 : ∀ w, Calls Try.prog 47 #[.agg #[.int .i64 2, .bool false, .int .u64 6755399441055744, .int .i64 (-52), .bool false, .int .u64 0]] w fun e w' => e = .returned (.tuple #[.float .f64 4609434218613702656, .int .i64 0]) ∧ Below w.heap.size w w' := fun w => by
    have := of_pt 4609434218613702656 (by decide) w
    rw [hx] at this
    exact this
  have k25 : ∀ w, Calls Try.prog 21 #[.float .f64 4607182418800017408] w fun e w' => e = .returned (.float .f64 4607182418800017409) ∧ w' = w := fun w => by
    have := up_any 4607182418800017408 w (by decide)
    rw [show upB 4607182418800017408 = 4607182418800017409 from by decide +kernel] at this
    exact this
  have o1 : (FloatKind.f64.format.order 4609434218613702656 4609434218613702656 == some .eq) = true := by decide +kernel
  have o2 : (FloatKind.f64.format.order 4607182418800017409 4607182418800017408 == some .gt) = true := by decide +kernel
  clear hx
  go_enter Try.func9, Try.ntmps9
  go_wp2_with (go_at_call 46; refine (k12 _).mono ?_)
  rintro e w1 ⟨rfl, b1⟩
  have B1 : Hid (Below w.heap.size w w1) := b1
  go_wp2_with (go_at_call 47; refine (k18 _).mono ?_)
  rintro e w2 ⟨rfl, b2⟩
  have z1 := b1.size
  have z2 := b2.size
  have q2 := (b2.block w1.heap.size (by simp)).trans (heap_alloc_last _ _)
  have B2 : Hid (Below w.heap.size w w2) := (B1.out.alloc (by omega) _).trans (b2.mono (by simp; omega))
  have e0 := (cells6 q2).1
  have e1 := (cells6 q2).2.1
  have e2 := (cells6 q2).2.2.1
  have e3 := (cells6 q2).2.2.2.1
  clear b1 b2 q2
  go_wp2_with (go_at_call 21; refine (k25 _).mono ?_)
  rintro e w3 ⟨rfl, rfl⟩
  go_wp2
  go_ret
  exact ⟨rfl, B2.out⟩
end Go.Proofs.Ytjcjecbffnadaab
