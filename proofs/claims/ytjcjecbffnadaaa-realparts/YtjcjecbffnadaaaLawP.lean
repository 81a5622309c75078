/-
  What the statement of parts asks, walked. Condition: the bits fit their sizes.
-/
import Derived.Test.YtjcjecbffnadaaaOq
import Derived.Test.YtjcjecbffnadaaaRp
namespace Go.Proofs.Ytjcjecbffnadaaa
open Go.RowKit
set_option maxHeartbeats 2000000 in
theorem law_parts (b c : Nat) (w : World) (hb : b < 18446744073709551616) (hc : c < 4294967296) : Calls Try.prog 3 #[.int .u64 (b : Int), .int .u32 (c : Int)] w fun e w' => e = .returned (.bool true) ∧ Below w.heap.size w w' := by
  have k9 := awake_any
  have k12 : ∀ w, Calls Try.prog 12 #[.float .f64 b] w fun e w' => e = .returned ((pt 52 11 1023 b).val) ∧ Below w.heap.size w w' := fun w => Parts_any b w hb
  have k13 : ∀ w, Calls Try.prog 13 #[.float .f32 c] w fun e w' => e = .returned ((pt 23 8 127 c).val) ∧ Below w.heap.size w w' := fun w => Parts32_any c w hc
  have k15 : ∀ w, Calls Try.prog 15 #[.int .u64 (b : Int), .agg #[.int .i64 52, .int .i64 2047, .int .i64 1023]] w fun e w' => e = .returned ((pt 52 11 1023 b).val) ∧ Below w.heap.size w w' := fun w => rparts_any lay64 b w hb
  have k15b : ∀ w, Calls Try.prog 15 #[.int .u64 (c : Int), .agg #[.int .i64 23, .int .i64 255, .int .i64 127]] w fun e w' => e = .returned ((pt 23 8 127 c).val) ∧ Below w.heap.size w w' := fun w => rparts_any lay32 c w (by omega)
  have k16 : ∀ w, Calls Try.prog 16 #[] w fun e w' => e = .returned (.agg #[.int .i64 52, .int .i64 2047, .int .i64 1023]) ∧ Below w.heap.size w w' := size64_any
  have k17 : ∀ w, Calls Try.prog 17 #[] w fun e w' => e = .returned (.agg #[.int .i64 23, .int .i64 255, .int .i64 127]) ∧ Below w.heap.size w w' := size32_any
  have k14 := same_parts (pt 52 11 1023 b)
  have k14b := same_parts (pt 23 8 127 c)
  have k18 := fun w => of_pt b hb w
  have k19 := fun w => of32_pt c hc w
  have x10 := ext10
  have x11 := ext11
  have x20 := ext20
  have x21 := ext21
  have hwc : (Value.int .u64 (c : Int)) = .int .u64 (IntKind.u64.wrap (c : Int)) := by rw [u64_small c (by omega)]
  generalize pt 52 11 1023 b = x at k12 k15 k14 k18
  generalize pt 23 8 127 c = y at k13 k15b k14b k19
  obtain ⟨kdx, ngx, Mx, Xx, qux, LDx⟩ := x
  obtain ⟨kdy, ngy, My, Xy, quy, LDy⟩ := y
  unfold Pt.val at k12 k13 k15 k15b k14 k14b k18 k19
  dsimp only at k12 k13 k15 k15b k14 k14b k18 k19
  have hwc := Hid.mk hwc
  go_enter Try.func3, Try.ntmps3
  go_wp2_with (go_at_call 9; refine (k9 _).mono ?_)
  rintro e w1 ⟨rfl, b1⟩
  have B1 : Hid (Below w.heap.size w w1) := b1
  clear b1
  go_wp2_with (go_at_call 12; refine (k12 _).mono ?_)
  rintro e w2 ⟨rfl, b2⟩
  have B2 : Hid (Below w.heap.size w w2) := B1.out.trans (b2.mono B1.out.size)
  clear b2 B1
  go_wp2_with (go_at_call 13; refine (k13 _).mono ?_)
  rintro e w3 ⟨rfl, b3⟩
  have B3 : Hid (Below w.heap.size w w3) := B2.out.trans (b3.mono B2.out.size)
  clear b3 B2
  replace hwc := hwc.out
  go_wp2_with fail
  refine wp_region_vals (a1 := ?a1r5n1) (grown _) [.agg #[.int .i64 kdx, .bool ngx, .int .u64 Mx, .int .i64 Xx, .bool qux, .int .u64 LDx], .int .u64 b, .agg #[.int .i64 52, .int .i64 2047, .int .i64 1023], .agg #[.int .i64 kdx, .bool ngx, .int .u64 Mx, .int .i64 Xx, .bool qux, .int .u64 LDx], .bool true, .bool false, .bool false, .agg #[.int .i64 kdy, .bool ngy, .int .u64 My, .int .i64 Xy, .bool quy, .int .u64 LDy], .int .u32 c, .int .u64 c, .agg #[.int .i64 23, .int .i64 255, .int .i64 127], .agg #[.int .i64 kdy, .bool ngy, .int .u64 My, .int .i64 Xy, .bool quy, .int .u64 LDy], .bool true, .bool false, .bool false] 66 rfl (by kernel_rfl) (by kernel_rfl) (grown_start _) ⟨?o0r5n1, ?o1r5n1, ?o2r5n1, ?o3r5n1, ?o4r5n1, ?o5r5n1, ?o6r5n1, ?o7r5n1, ?o8r5n1, ?o9r5n1, ?o10r5n1, ?o11r5n1, ?o12r5n1, ?o13r5n1, ?o14r5n1, trivial⟩ ?har5n1 ?hdoner5n1
  case har5n1 => simp [putAll, Act.put]; exact rfl
  case o0r5n1 => exact ValOp.pure (grown_steady _ 0) [(7, .pointer (some ⟨w3.heap.size, 0, none⟩))] rfl (fun _ _ h2 => ⟨(h2 7 (by kernel_rfl)).trans rfl, trivial⟩) (by kernel_rfl) (fun _ _ _ hg _ => run_read rfl rfl (run_loadVar_row _ _ _ _ _ _ _ (below_at ((Below.heap_alloc _ _ _ (by simp)).trans (heap_alloc_last _ _)) hg) Try.underlying30 rfl (by kernel_rfl)))
  case o1r5n1 => exact ValOp.pure (grown_steady _ 1) [(0, .int .u64 b)] rfl (fun _ _ h2 => ⟨(h2 0 (by kernel_rfl)).trans rfl, trivial⟩) (by kernel_rfl) (fun _ _ _ _ _ => by kernel_rfl)
  case o2r5n1 => exact ValOp.call (grown_steady _ 2) [] rfl (fun _ _ _ => trivial) (by kernel_rfl) 16 #[] (fun _ => by kernel_rfl) (fun _ w _ => k16 w)
  case o3r5n1 => exact ValOp.call (grown_steady _ 3) [(24, .int .u64 b), (25, .agg #[.int .i64 52, .int .i64 2047, .int .i64 1023])] rfl (fun _ h1 _ => ⟨h1 1 24 (by kernel_rfl), h1 2 25 (by kernel_rfl), trivial⟩) (by kernel_rfl) 15 #[.int .u64 b, .agg #[.int .i64 52, .int .i64 2047, .int .i64 1023]] (fun _ => by kernel_rfl) (fun _ w _ => k15 w)
  case o4r5n1 => exact ValOp.call (grown_steady _ 4) [(23, .agg #[.int .i64 kdx, .bool ngx, .int .u64 Mx, .int .i64 Xx, .bool qux, .int .u64 LDx]), (26, .agg #[.int .i64 kdx, .bool ngx, .int .u64 Mx, .int .i64 Xx, .bool qux, .int .u64 LDx])] rfl (fun _ h1 _ => ⟨h1 0 23 (by kernel_rfl), h1 3 26 (by kernel_rfl), trivial⟩) (by kernel_rfl) 14 #[.agg #[.int .i64 kdx, .bool ngx, .int .u64 Mx, .int .i64 Xx, .bool qux, .int .u64 LDx], .agg #[.int .i64 kdx, .bool ngx, .int .u64 Mx, .int .i64 Xx, .bool qux, .int .u64 LDx]] (fun _ => by kernel_rfl) (fun _ w _ => k14 w)
  case o5r5n1 => exact ValOp.pure (grown_steady _ 5) [(27, .bool true)] rfl (fun _ h1 _ => ⟨h1 4 27 (by kernel_rfl), trivial⟩) (by kernel_rfl) (fun _ _ _ _ _ => by kernel_rfl)
  case o6r5n1 => exact ValOp.pure (grown_steady _ 6) [(28, .bool false)] rfl (fun _ h1 _ => ⟨h1 5 28 (by kernel_rfl), trivial⟩) (by kernel_rfl) (fun _ _ _ _ _ => by kernel_rfl)
  case o7r5n1 => exact ValOp.pure (grown_steady _ 7) [(8, .pointer (some ⟨(w3.heap.size + 1), 0, none⟩))] ⟨29, _, rfl, rfl, by kernel_rfl, rfl⟩ (fun _ _ h2 => ⟨(h2 8 (by kernel_rfl)).trans rfl, trivial⟩) (by kernel_rfl) (fun _ _ _ hg _ => run_read rfl rfl (run_loadVar_row _ _ _ _ _ _ _ (below_at (last_at _ _ (by simp)) hg) Try.underlying30 rfl (by kernel_rfl)))
  case o8r5n1 => exact ValOp.pure (grown_steady _ 8) [(1, .int .u32 c)] ⟨29, _, rfl, rfl, by kernel_rfl, rfl⟩ (fun _ _ h2 => ⟨(h2 1 (by kernel_rfl)).trans rfl, trivial⟩) (by kernel_rfl) (fun _ _ _ _ _ => by kernel_rfl)
  case o9r5n1 => exact ValOp.pure (grown_steady _ 9) [(31, .int .u32 c)] ⟨29, _, rfl, rfl, by kernel_rfl, rfl⟩ (fun _ h1 _ => ⟨h1 8 31 (by kernel_rfl), trivial⟩) (by kernel_rfl) (fun _ _ _ _ _ => by show _ = Result.ok (Next.value (.int .u64 (c : Int))) _; rw [hwc]; kernel_rfl)
  case o10r5n1 => exact ValOp.call (grown_steady _ 10) [] ⟨29, _, rfl, rfl, by kernel_rfl, rfl⟩ (fun _ _ _ => trivial) (by kernel_rfl) 17 #[] (fun _ => by kernel_rfl) (fun _ w _ => k17 w)
  case o11r5n1 => exact ValOp.call (grown_steady _ 11) [(32, .int .u64 c), (33, .agg #[.int .i64 23, .int .i64 255, .int .i64 127])] ⟨29, _, rfl, rfl, by kernel_rfl, rfl⟩ (fun _ h1 _ => ⟨h1 9 32 (by kernel_rfl), h1 10 33 (by kernel_rfl), trivial⟩) (by kernel_rfl) 15 #[.int .u64 c, .agg #[.int .i64 23, .int .i64 255, .int .i64 127]] (fun _ => by kernel_rfl) (fun _ w _ => k15b w)
  case o12r5n1 => exact ValOp.call (grown_steady _ 12) [(30, .agg #[.int .i64 kdy, .bool ngy, .int .u64 My, .int .i64 Xy, .bool quy, .int .u64 LDy]), (34, .agg #[.int .i64 kdy, .bool ngy, .int .u64 My, .int .i64 Xy, .bool quy, .int .u64 LDy])] ⟨29, _, rfl, rfl, by kernel_rfl, rfl⟩ (fun _ h1 _ => ⟨h1 7 30 (by kernel_rfl), h1 11 34 (by kernel_rfl), trivial⟩) (by kernel_rfl) 14 #[.agg #[.int .i64 kdy, .bool ngy, .int .u64 My, .int .i64 Xy, .bool quy, .int .u64 LDy], .agg #[.int .i64 kdy, .bool ngy, .int .u64 My, .int .i64 Xy, .bool quy, .int .u64 LDy]] (fun _ => by kernel_rfl) (fun _ w _ => k14b w)
  case o13r5n1 => exact ValOp.pure (grown_steady _ 13) [(35, .bool true)] ⟨29, _, rfl, rfl, by kernel_rfl, rfl⟩ (fun _ h1 _ => ⟨h1 12 35 (by kernel_rfl), trivial⟩) (by kernel_rfl) (fun _ _ _ _ _ => by kernel_rfl)
  case o14r5n1 => exact ValOp.pure (grown_steady _ 14) [(29, .bool false), (36, .bool false)] rfl (fun _ h1 _ => ⟨h1 6 29 (by kernel_rfl), h1 13 36 (by kernel_rfl), trivial⟩) (by kernel_rfl) (fun _ _ _ _ _ => by kernel_rfl)
  intro w4 s4 _ hb4
  replace hb4 : Below _ _ w4 := hb4
  have p4 : w4.heap[w3.heap.size]? = some (.cells #[.int .i64 kdx, .bool ngx, .int .u64 Mx, .int .i64 Xx, .bool qux, .int .u64 LDx] 30 (0, 0)) := below_at ((Below.heap_alloc _ _ _ (by simp)).trans (heap_alloc_last _ _)) hb4
  have q4 : w4.heap[w3.heap.size + 1]? = some (.cells #[.int .i64 kdy, .bool ngy, .int .u64 My, .int .i64 Xy, .bool quy, .int .u64 LDy] 30 (0, 0)) := below_at (last_at _ _ (by simp)) hb4
  have z4 : w3.heap.size + 2 ≤ w4.heap.size := by have := hb4.size; simpa using this
  have z3 := B3.out.size
  have B4 : Hid (Below w.heap.size w w4) := by
    have h : Below w.heap.size _ w4 := hb4.mono (by simp <;> omega)
    exact ((B3.out.alloc (by omega) _).alloc (by simp; omega) _).trans h
  clear hb4 hwc
  refine (by assumption : ∀ (a : Act) (w : World), Code.wp Try.prog (Code.cond _ _ _) _ a w → _) _ _ ?_
  have d0 := (cells6 p4).1
  have d1 := (cells6 p4).2.1
  have d2 := (cells6 p4).2.2.1
  have d3 := (cells6 p4).2.2.2.1
  have d4 := (cells6 p4).2.2.2.2.1
  have d5 := (cells6 p4).2.2.2.2.2
  go_wp2_with (go_at_call 18; refine (k18 _).mono ?_)
  rintro e w5 ⟨rfl, b5⟩
  have q5 := (b5.block _ (by omega)).trans q4
  have B5 : Hid (Below w.heap.size w w5) := B4.out.trans (b5.mono B4.out.size)
  clear b5 B4 p4 q4 d0 d1 d2 d3 d4 d5
  have d0 := (cells6 q5).1
  have d1 := (cells6 q5).2.1
  have d2 := (cells6 q5).2.2.1
  have d3 := (cells6 q5).2.2.2.1
  have d4 := (cells6 q5).2.2.2.2.1
  have d5 := (cells6 q5).2.2.2.2.2
  go_wp2_with (go_at_call 19; refine (k19 _).mono ?_)
  rintro e w6 ⟨rfl, b6⟩
  have B6 : Hid (Below w.heap.size w w6) := B5.out.trans (b6.mono B5.out.size)
  clear b6 B5 q5 d0 d1 d2 d3 d4 d5
  go_wp2
  go_ret
  exact ⟨by simp, B6.out⟩
end Go.Proofs.Ytjcjecbffnadaaa
