/-
  The contracts of Parts, Parts32, Of and Of32. Condition: the bits fit their size.
-/
import Derived.Test.YtjcjecbffnadaabPe
import Derived.Test.YtjcjecbffnadaabXt
namespace Go.Proofs.Ytjcjecbffnadaab
open Go.RowKit
set_option maxHeartbeats 1000000 in
theorem of_by (kd X : Int) (ng qu EQ : Bool) (M LD B : Nat) (w : World) (k45 : ∀ w, Calls Try.prog 71 #[.agg #[.int .i64 52, .int .u64 2047, .int .i64 1023], .agg #[.int .i64 kd, .bool ng, .int .u64 M, .int .i64 X, .bool qu, .int .u64 LD]] w fun e w' => e = .returned (.tuple #[.int .u64 (B : Int), .bool EQ]) ∧ Below w.heap.size w w') :
    Calls Try.prog 47 #[.agg #[.int .i64 kd, .bool ng, .int .u64 M, .int .i64 X, .bool qu, .int .u64 LD]] w fun e w' => e = .returned (if EQ then .tuple #[.float .f64 B, .int .i64 0] else .tuple #[.float .f64 0, .int .i64 40]) ∧ Below w.heap.size w w' := by
  have k41 : ∀ w, Calls Try.prog 64 #[] w fun e w' => e = .returned (.agg #[.int .i64 52, .int .u64 2047, .int .i64 1023]) ∧ Below w.heap.size w w' := double_any
  have x10 := ext10
  cases EQ
  · go_enter Try.func47, Try.ntmps47
    go_wp2_with fail
    refine wp_region_vals (a1 := ?a1r1n1) (grown _) [.agg #[.int .i64 52, .int .u64 2047, .int .i64 1023], .agg #[.int .i64 kd, .bool ng, .int .u64 M, .int .i64 X, .bool qu, .int .u64 LD], .tuple #[.int .u64 B, .bool false], .tuple #[.int .u64 B, .bool false], .int .u64 B, .bool false, .int .u64 B, .bool false] 16 rfl (by kernel_rfl) (by kernel_rfl) (grown_start _) ⟨?o0r1n1, ?o1r1n1, ?o2r1n1, ?o3r1n1, ?o4r1n1, ?o5r1n1, ?o6r1n1, ?o7r1n1, trivial⟩ ?har1n1 ?hdoner1n1
    case har1n1 => simp [putAll, Act.put]; exact rfl
    case o0r1n1 => exact ValOp.call (grown_steady _ 0) [] rfl (fun _ _ _ => trivial) (by kernel_rfl) 64 #[] (fun _ => by kernel_rfl) (fun _ w _ => k41 w)
    case o1r1n1 => exact ValOp.pure (grown_steady _ 1) [(1, .pointer (some ⟨w.heap.size, 0, none⟩))] rfl (fun _ _ h2 => ⟨(h2 1 (by kernel_rfl)).trans rfl, trivial⟩) (by kernel_rfl) (fun _ _ _ hg _ => run_read rfl rfl (run_loadVar_row _ _ _ _ _ _ _ (below_at (heap_alloc_last _ _) hg) Try.underlying66 rfl (by kernel_rfl)))
    case o2r1n1 => exact ValOp.call (grown_steady _ 2) [(7, .agg #[.int .i64 52, .int .u64 2047, .int .i64 1023]), (8, .agg #[.int .i64 kd, .bool ng, .int .u64 M, .int .i64 X, .bool qu, .int .u64 LD])] rfl (fun _ h1 _ => ⟨h1 0 7 (by kernel_rfl), h1 1 8 (by kernel_rfl), trivial⟩) (by kernel_rfl) 71 #[.agg #[.int .i64 52, .int .u64 2047, .int .i64 1023], .agg #[.int .i64 kd, .bool ng, .int .u64 M, .int .i64 X, .bool qu, .int .u64 LD]] (fun _ => by kernel_rfl) (fun _ w _ => k45 w)
    case o3r1n1 => exact ValOp.pure (grown_steady _ 3) [(9, .tuple #[.int .u64 B, .bool false])] rfl (fun _ h1 _ => ⟨h1 2 9 (by kernel_rfl), trivial⟩) (by kernel_rfl) (fun _ _ _ _ _ => by kernel_rfl)
    case o4r1n1 => exact ValOp.pure (grown_steady _ 4) [(6, .tuple #[.int .u64 B, .bool false])] rfl (fun _ h1 _ => ⟨h1 3 6 (by kernel_rfl), trivial⟩) (by kernel_rfl) (fun _ _ _ _ _ => by kernel_rfl)
    case o5r1n1 => exact ValOp.pure (grown_steady _ 5) [(6, .tuple #[.int .u64 B, .bool false])] rfl (fun _ h1 _ => ⟨h1 3 6 (by kernel_rfl), trivial⟩) (by kernel_rfl) (fun _ _ _ _ _ => by kernel_rfl)
    case o6r1n1 => exact ValOp.pure (grown_steady _ 6) [(10, .int .u64 B)] rfl (fun _ h1 _ => ⟨h1 4 10 (by kernel_rfl), trivial⟩) (by kernel_rfl) (fun _ _ _ _ _ => by kernel_rfl)
    case o7r1n1 => exact ValOp.pure (grown_steady _ 7) [(11, .bool false)] rfl (fun _ h1 _ => ⟨h1 5 11 (by kernel_rfl), trivial⟩) (by kernel_rfl) (fun _ _ _ _ _ => by kernel_rfl)
    intro w1 s1 _ hb
    replace hb : Below _ _ w1 := hb
    have B1 : Hid (Below w.heap.size w w1) := ((Below.refl _ _).alloc (Nat.le_refl _) _).trans (hb.mono (by simp))
    clear hb
    refine (by assumption : ∀ (a : Act) (w : World), Code.wp Try.prog (Code.seq _ _) _ a w → _) _ _ ?_
    go_wp2
    refine bodyPost_ret (v := .tuple #[.float .f64 0, .int .i64 40]) (by simp [results, Try.results47, go_sem]) rfl ⟨rfl, B1.out⟩
  · go_enter Try.func47, Try.ntmps47
    go_wp2_with fail
    refine wp_region_vals (a1 := ?a1r1n2) (grown _) [.agg #[.int .i64 52, .int .u64 2047, .int .i64 1023], .agg #[.int .i64 kd, .bool ng, .int .u64 M, .int .i64 X, .bool qu, .int .u64 LD], .tuple #[.int .u64 B, .bool true], .tuple #[.int .u64 B, .bool true], .int .u64 B, .bool true, .int .u64 B, .bool true] 16 rfl (by kernel_rfl) (by kernel_rfl) (grown_start _) ⟨?o0r1n2, ?o1r1n2, ?o2r1n2, ?o3r1n2, ?o4r1n2, ?o5r1n2, ?o6r1n2, ?o7r1n2, trivial⟩ ?har1n2 ?hdoner1n2
    case har1n2 => simp [putAll, Act.put]; exact rfl
    case o0r1n2 => exact ValOp.call (grown_steady _ 0) [] rfl (fun _ _ _ => trivial) (by kernel_rfl) 64 #[] (fun _ => by kernel_rfl) (fun _ w _ => k41 w)
    case o1r1n2 => exact ValOp.pure (grown_steady _ 1) [(1, .pointer (some ⟨w.heap.size, 0, none⟩))] rfl (fun _ _ h2 => ⟨(h2 1 (by kernel_rfl)).trans rfl, trivial⟩) (by kernel_rfl) (fun _ _ _ hg _ => run_read rfl rfl (run_loadVar_row _ _ _ _ _ _ _ (below_at (heap_alloc_last _ _) hg) Try.underlying66 rfl (by kernel_rfl)))
    case o2r1n2 => exact ValOp.call (grown_steady _ 2) [(7, .agg #[.int .i64 52, .int .u64 2047, .int .i64 1023]), (8, .agg #[.int .i64 kd, .bool ng, .int .u64 M, .int .i64 X, .bool qu, .int .u64 LD])] rfl (fun _ h1 _ => ⟨h1 0 7 (by kernel_rfl), h1 1 8 (by kernel_rfl), trivial⟩) (by kernel_rfl) 71 #[.agg #[.int .i64 52, .int .u64 2047, .int .i64 1023], .agg #[.int .i64 kd, .bool ng, .int .u64 M, .int .i64 X, .bool qu, .int .u64 LD]] (fun _ => by kernel_rfl) (fun _ w _ => k45 w)
    case o3r1n2 => exact ValOp.pure (grown_steady _ 3) [(9, .tuple #[.int .u64 B, .bool true])] rfl (fun _ h1 _ => ⟨h1 2 9 (by kernel_rfl), trivial⟩) (by kernel_rfl) (fun _ _ _ _ _ => by kernel_rfl)
    case o4r1n2 => exact ValOp.pure (grown_steady _ 4) [(6, .tuple #[.int .u64 B, .bool true])] rfl (fun _ h1 _ => ⟨h1 3 6 (by kernel_rfl), trivial⟩) (by kernel_rfl) (fun _ _ _ _ _ => by kernel_rfl)
    case o5r1n2 => exact ValOp.pure (grown_steady _ 5) [(6, .tuple #[.int .u64 B, .bool true])] rfl (fun _ h1 _ => ⟨h1 3 6 (by kernel_rfl), trivial⟩) (by kernel_rfl) (fun _ _ _ _ _ => by kernel_rfl)
    case o6r1n2 => exact ValOp.pure (grown_steady _ 6) [(10, .int .u64 B)] rfl (fun _ h1 _ => ⟨h1 4 10 (by kernel_rfl), trivial⟩) (by kernel_rfl) (fun _ _ _ _ _ => by kernel_rfl)
    case o7r1n2 => exact ValOp.pure (grown_steady _ 7) [(11, .bool true)] rfl (fun _ h1 _ => ⟨h1 5 11 (by kernel_rfl), trivial⟩) (by kernel_rfl) (fun _ _ _ _ _ => by kernel_rfl)
    intro w1 s1 _ hb
    replace hb : Below _ _ w1 := hb
    have B1 : Hid (Below w.heap.size w w1) := ((Below.refl _ _).alloc (Nat.le_refl _) _).trans (hb.mono (by simp))
    clear hb
    refine (by assumption : ∀ (a : Act) (w : World), Code.wp Try.prog (Code.seq _ _) _ a w → _) _ _ ?_
    go_wp2
    refine bodyPost_ret (v := .tuple #[.float .f64 B, .int .i64 0]) (by simp [results, Try.results47, go_sem]) rfl ⟨rfl, B1.out⟩
end Go.Proofs.Ytjcjecbffnadaab
