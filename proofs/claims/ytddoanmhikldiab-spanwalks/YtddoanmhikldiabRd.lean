/-
  Spans in memory; the contracts of mayBe and of the document's May. No conditions.
-/
import Derived.Test.YtddoanmhikldiabSp
import Derived.Test.YtddoanmhikldiabCt
import Derived.Test.YtddoanmhikldiabChecked
import Derived.OwnWalk
import Derived.Maps.AppendAt
import Derived.Deep.DeepMust
import Derived.Deep.LoopGhost
import Derived.BigQuiet
import Derived.Deep.QuietTactic
namespace Go.Proofs.Ytddoanmhikldiab
open Go.RowKit
/-- A slice that reads as these spans. -/
def RdS (w : World) (v : Value) (L : List Sn) : Prop :=
  ∃ a c, v = .slice a L.length c ∧ L.length ≤ c ∧ (0 < L.length → ∃ g off, a = some ⟨g, off, none⟩ ∧ ∀ j, j < L.length → w.cell? ⟨g, off + j * 2, none⟩ = some (.int .i32 (L.getD j (0, 0)).1) ∧ w.cell? ⟨g, off + j * 2 + 1, none⟩ = some (.int .i32 (L.getD j (0, 0)).2))
theorem RdS.below {w w' : World} {v : Value} {L : List Sn} (h : RdS w v L) (hb : Below w.heap.size w w') : RdS w' v L := by
  obtain ⟨a, c, rfl, hl, hc⟩ := h
  refine ⟨a, c, rfl, hl, fun hp => ?_⟩
  obtain ⟨g, off, rfl, hd⟩ := hc hp
  refine ⟨g, off, rfl, fun j hj => ?_⟩
  obtain ⟨h1, h2⟩ := hd j hj
  have g1 := World.block_lt_of_cell? w _ h1
  exact ⟨(hb.cell (p := ⟨g, off + j * 2, none⟩) (by simpa using g1)).trans h1, (hb.cell (p := ⟨g, off + j * 2 + 1, none⟩) (by simpa using g1)).trans h2⟩
def fitS (L : List Sn) : Prop := ∀ s ∈ L, -2147483648 ≤ s.1 ∧ s.1 ≤ 2147483647 ∧ -2147483648 ≤ s.2 ∧ s.2 ≤ 2147483647
def spV (s : Sn) : Value := .agg #[.int .i32 s.1, .int .i32 s.2]
theorem box2 (w : World) (x y : Int) (t : TypeId) : (w.alloc (.cells #[.int .i32 x, .int .i32 y] t)).cell? ⟨w.heap.size, 0, none⟩ = some (.int .i32 x) ∧ (w.alloc (.cells #[.int .i32 x, .int .i32 y] t)).cell? ⟨w.heap.size, 1, none⟩ = some (.int .i32 y) := by
  have h := heap_alloc_last w (.cells #[.int .i32 x, .int .i32 y] t)
  obtain ⟨W, hW⟩ : ∃ W, w.alloc (.cells #[.int .i32 x, .int .i32 y] t) = W := ⟨_, rfl⟩
  rw [hW] at h ⊢
  constructor <;> simp [World.cell?, h]
theorem box2_below {w w' : World} {x y : Int} {t : TypeId} (hb : Below (w.alloc (.cells #[.int .i32 x, .int .i32 y] t)).heap.size (w.alloc (.cells #[.int .i32 x, .int .i32 y] t)) w') : w'.cell? ⟨w.heap.size, 0, none⟩ = some (.int .i32 x) ∧ w'.cell? ⟨w.heap.size, 1, none⟩ = some (.int .i32 y) := by
  obtain ⟨h1, h2⟩ := box2 w x y t
  exact ⟨(hb.cell (p := ⟨w.heap.size, 0, none⟩) (by simp)).trans h1, (hb.cell (p := ⟨w.heap.size, 1, none⟩) (by simp)).trans h2⟩
theorem below_box {w w1 w2 : World} {o : Obj} (h : Below w.heap.size w w1) (hb : Below (w1.alloc o).heap.size (w1.alloc o) w2) : Below w.heap.size w w2 :=
  (h.alloc h.size _).trans (hb.mono (by have := h.size; simp; omega))
theorem may_any (x y : Int) (w : World) : Calls Try.prog 26 #[.agg #[.int .i32 x, .int .i32 y]] w fun e w' => e = .returned (.bool (mayB (x, y))) ∧ Below w.heap.size w w' := by
  have hb : Below w.heap.size w (w.alloc (.cells #[.int .i32 x, .int .i32 y] 41)) := (Below.refl _ _).alloc (Nat.le_refl _) _
  by_cases c1 : 0 ≤ x
  · by_cases c2 : x ≤ y
    · by_cases c3 : y ≤ 1114111
      · have hm : mayB (x, y) = true := may_iff.2 ⟨c1, c2, c3⟩
        rw [hm]; clear hm
        go_enter Try.func26, Try.ntmps26
        go_wp2
        go_ret
        exact ⟨rfl, hb⟩
      · have hm : mayB (x, y) = false := by rw [Bool.eq_false_iff]; intro h; have := may_iff.1 h; simp only at this; omega
        rw [hm]; clear hm
        go_enter Try.func26, Try.ntmps26
        go_wp2
        go_ret
        exact ⟨rfl, hb⟩
    · have hm : mayB (x, y) = false := by rw [Bool.eq_false_iff]; intro h; have := may_iff.1 h; simp only at this; omega
      rw [hm]; clear hm
      go_enter Try.func26, Try.ntmps26
      go_wp2
      go_ret
      exact ⟨rfl, hb⟩
  · have hm : mayB (x, y) = false := by rw [Bool.eq_false_iff]; intro h; have := may_iff.1 h; simp only at this; omega
    rw [hm]; clear hm
    go_enter Try.func26, Try.ntmps26
    go_wp2
    go_ret
    exact ⟨rfl, hb⟩
theorem rmay_any (x y : Int) (w : World) : Calls Try.prog 17 #[.agg #[.int .i32 x, .int .i32 y]] w fun e w' => e = .returned (.bool (mayB (x, y))) ∧ Below w.heap.size w w' := by
  have hb : Below w.heap.size w (w.alloc (.cells #[.int .i32 x, .int .i32 y] 44)) := (Below.refl _ _).alloc (Nat.le_refl _) _
  by_cases c1 : 0 ≤ x
  · by_cases c2 : x ≤ y
    · by_cases c3 : y ≤ 1114111
      · have hm : mayB (x, y) = true := may_iff.2 ⟨c1, c2, c3⟩
        rw [hm]; clear hm
        go_enter Try.func17, Try.ntmps17
        go_wp2
        go_ret
        exact ⟨rfl, hb⟩
      · have hm : mayB (x, y) = false := by rw [Bool.eq_false_iff]; intro h; have := may_iff.1 h; simp only at this; omega
        rw [hm]; clear hm
        go_enter Try.func17, Try.ntmps17
        go_wp2
        go_ret
        exact ⟨rfl, hb⟩
    · have hm : mayB (x, y) = false := by rw [Bool.eq_false_iff]; intro h; have := may_iff.1 h; simp only at this; omega
      rw [hm]; clear hm
      go_enter Try.func17, Try.ntmps17
      go_wp2
      go_ret
      exact ⟨rfl, hb⟩
  · have hm : mayB (x, y) = false := by rw [Bool.eq_false_iff]; intro h; have := may_iff.1 h; simp only at this; omega
    rw [hm]; clear hm
    go_enter Try.func17, Try.ntmps17
    go_wp2
    go_ret
    exact ⟨rfl, hb⟩
end Go.Proofs.Ytddoanmhikldiab
