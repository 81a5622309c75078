/-
  The contracts of size, count, Count, reaching, has and Has. Conditions: the lists' spans may be.
-/
import Derived.Test.YtddoanmhikldiabPs
import Derived.Test.YtddoanmhikldiabSo
namespace Go.Proofs.Ytddoanmhikldiab
open Go.RowKit
theorem size_any (x y : Int) (w : World) (hm : mayB (x, y) = true) : Calls Try.prog 21 #[.agg #[.int .i32 x, .int .i32 y]] w fun e w' => e = .returned (.int .i64 (y - x + 1)) ∧ Below w.heap.size w w' := by
  obtain ⟨m1, m2, m3⟩ := may_iff.1 hm
  simp only at m1 m2 m3
  have hb : Hid (Below w.heap.size w (w.alloc (.cells #[.int .i32 x, .int .i32 y] 41))) := (Below.refl _ _).alloc (Nat.le_refl _) _
  go_enter Try.func21, Try.ntmps21
  go_wp2
  go_ret
  exact ⟨rfl, hb.out⟩
theorem cnt_take (L : List Sn) (k : Nat) (h : k < L.length) : cntL (L.take (k + 1)) = cntL (L.take k) + szI (L.getD k (0, 0)) := by
  rw [take_snoc L k h, cnt_app, cnt_cons, cnt_nil, Int.add_zero]
theorem cnt_le : ∀ (L : List Sn), (∀ s ∈ L, mayB s = true) → 0 ≤ cntL L ∧ cntL L ≤ 1114112 * L.length := by
  intro L
  induction L with
  | nil => intro _; exact ⟨by rw [cnt_nil]; exact Int.le_refl _, by rw [cnt_nil]; simp⟩
  | cons s L ih =>
    intro h
    have h1 := ih fun t ht => h t (by simp [ht])
    have h2 := may_iff.1 (h s (by simp))
    have hz : szI s = s.2 - s.1 + 1 := rfl
    rw [cnt_cons]
    simp only [List.length_cons]
    omega
theorem isB_iff2 {L : List Sn} : isB L = true ↔ L.length ≤ 65536 ∧ isS 0 L = true := by simp [isB]
theorem cmp_lt (y p : Int) : Lib.compareInt y p < 0 ↔ y < p := by
  unfold Lib.compareInt
  by_cases h1 : y < p
  · simp [h1]
  · by_cases h2 : p < y <;> simp [h1, h2]
end Go.Proofs.Ytddoanmhikldiab
