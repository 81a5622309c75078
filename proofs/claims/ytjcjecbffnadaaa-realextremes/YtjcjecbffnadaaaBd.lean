/-
  The contract of the bits that are made of parts, by the numbers that stand in it: no numbers that are not quiet.
-/
import Derived.Test.YtjcjecbffnadaaaPa
namespace Go.Proofs.Ytjcjecbffnadaaa
open Go.RowKit
set_option maxHeartbeats 2000000 in
theorem bits_loud {p : Nat} {bi : Int} (w : World) (_h1 : 1 ≤ p) (_h2 : p ≤ 52) (K S V VM B M LD : Nat) (X : Int) (ng qu EQ : Bool) (PV : Value) (hS1 : IntKind.u64.wrap ((S : Int) - 1) = (S : Int) - 1) (hVM : bits .and .u64 V ((S : Int) - 1) = VM)
    (k56 : ∀ w, Calls Try.prog 56 #[.agg #[.int .i64 p, .int .u64 K, .int .i64 bi]] w fun e w' => e = .returned (.int .u64 S) ∧ Below w.heap.size w w')
    (k60 : ∀ w, Calls Try.prog 60 #[.agg #[.int .i64 p, .int .u64 K, .int .i64 bi], .int .u64 VM, .bool ng] w fun e w' => e = .returned (.int .u64 B) ∧ Below w.heap.size w w')
    (k42 : ∀ w, Calls Try.prog 42 #[.agg #[.int .i64 p, .int .u64 K, .int .i64 bi], .int .u64 B] w fun e w' => e = .returned PV ∧ Below w.heap.size w w')
    (INF V4 : Nat) (hV4 : bits .or .u64 INF LD = V4) (hV : V4 = V) (hq : qu = false)
    (k59 : ∀ w, Calls Try.prog 59 #[.agg #[.int .i64 p, .int .u64 K, .int .i64 bi]] w fun e w' => e = .returned (.int .u64 INF) ∧ Below w.heap.size w w')
    (hEG : ∀ w, (eqGuard .eql 30 (.tmp 57) (.tmp 58) PV (.agg #[.int .i64 4, .bool ng, .int .u64 M, .int .i64 X, .bool qu, .int .u64 LD])).run Try.prog w = .ok () w) (hEQ : ∀ w, (binOp .eql 30 PV (.agg #[.int .i64 4, .bool ng, .int .u64 M, .int .i64 X, .bool qu, .int .u64 LD])).run Try.prog w = .ok (.bool EQ) w) :
    Calls Try.prog 45 #[.agg #[.int .i64 p, .int .u64 K, .int .i64 bi], .agg #[.int .i64 4, .bool ng, .int .u64 M, .int .i64 X, .bool qu, .int .u64 LD]] w fun e w' => e = .returned (.tuple #[.int .u64 B, .bool EQ]) ∧ Below w.heap.size w w' := by
  subst hV
  subst hq
  go_enter Try.func45, Try.ntmps45
  go_wp2_with fail
  refine wp_region_vals (a1 := ?a1r10) (grown _) [.agg #[.int .i64 p, .int .u64 K, .int .i64 bi], .int .u64 INF, .pointer (some ⟨(w.heap.size + 1), 5, none⟩), .int .u64 LD, .int .u64 V4, .int .u64 V4] 60 rfl (by kernel_rfl) (by kernel_rfl) (grown_start _) ⟨?o0r10, ?o1r10, ?o2r10, ?o3r10, ?o4r10, ?o5r10, trivial⟩ ?har10 ?hdoner10
  case har10 => simp [putAll, Act.put]; exact rfl
  case o0r10 => exact ValOp.pure (grown_steady _ 0) [(2, .pointer (some ⟨w.heap.size, 0, none⟩))] rfl (fun _ _ h2 => ⟨(h2 2 (by kernel_rfl)).trans rfl, trivial⟩) (by kernel_rfl) (fun _ _ _ hg _ => run_read rfl rfl (run_loadVar_row _ _ _ _ _ _ _ (below_at ((Below.heap_alloc _ _ _ (by simp)).trans (heap_alloc_last _ _)) hg) Try.underlying75 rfl (by kernel_rfl)))
  case o1r10 => exact ValOp.call (grown_steady _ 1) [(34, .agg #[.int .i64 p, .int .u64 K, .int .i64 bi])] rfl (fun _ h1 _ => ⟨h1 0 34 (by kernel_rfl), trivial⟩) (by kernel_rfl) 59 #[.agg #[.int .i64 p, .int .u64 K, .int .i64 bi]] (fun _ => by kernel_rfl) (fun _ w _ => k59 w)
  case o2r10 => exact ValOp.pure (grown_steady _ 2) [(3, .pointer (some ⟨(w.heap.size + 1), 0, none⟩))] rfl (fun _ _ h2 => ⟨(h2 3 (by kernel_rfl)).trans rfl, trivial⟩) (by kernel_rfl) (fun _ _ _ _ _ => by kernel_rfl)
  case o3r10 => exact ValOp.pure (grown_steady _ 3) [(36, .pointer (some ⟨(w.heap.size + 1), 5, none⟩))] rfl (fun _ h1 _ => ⟨h1 2 36 (by kernel_rfl), trivial⟩) (by kernel_rfl) (fun _ _ _ hg _ => run_read rfl rfl (run_cell (below_at (last_at _ _ (by simp)) hg) rfl (Try.isAgg22 _)))
  case o4r10 => exact ValOp.pure (grown_steady _ 4) [(35, .int .u64 INF), (37, .int .u64 LD)] rfl (fun _ h1 _ => ⟨h1 1 35 (by kernel_rfl), h1 3 37 (by kernel_rfl), trivial⟩) (by kernel_rfl) (fun _ _ _ _ _ => run_bin (a := .int .u64 INF) (b := .int .u64 LD) rfl rfl rfl (by kernel_rfl) (by simp [go_sem, hV4]))
  case o5r10 => exact ValOp.pure (grown_steady _ 5) [(38, .int .u64 V4)] rfl (fun _ h1 _ => ⟨h1 4 38 (by kernel_rfl), trivial⟩) (by kernel_rfl) (fun _ _ _ _ _ => by kernel_rfl)
  intro w1 s1 _ hb1
  replace hb1 : Below _ _ w1 := hb1
  have l1 : w1.heap[w.heap.size]? = some (.cells #[.int .i64 p, .int .u64 K, .int .i64 bi] 75 (0, 0)) := below_at ((Below.heap_alloc _ _ _ (by simp)).trans (heap_alloc_last _ _)) hb1
  have x1 : w1.heap[w.heap.size + 1]? = some (.cells #[.int .i64 4, .bool ng, .int .u64 M, .int .i64 X, .bool false, .int .u64 LD] 30 (0, 0)) := below_at (last_at _ _ (by simp)) hb1
  have z1 : w.heap.size + 2 ≤ w1.heap.size := by have := hb1.size; simpa using this
  have B1 : Hid (Below w.heap.size w w1) := by
    have h : Below w.heap.size _ w1 := hb1.mono (by simp <;> omega)
    exact (((Below.refl _ _).alloc (Nat.le_refl _) _).alloc (by simp) _).trans h
  clear hb1
  have d0 := (cells6 x1).1
  have d1 := (cells6 x1).2.1
  have d2 := (cells6 x1).2.2.1
  have d3 := (cells6 x1).2.2.2.1
  have d4 := (cells6 x1).2.2.2.2.1
  have d5 := (cells6 x1).2.2.2.2.2
  refine (by assumption : ∀ (a : Act) (w : World), Code.wp Try.prog ((Code.region 11 _ _).seq _) _ a w → _) _ _ ?_
  go_wp2_with fail
  refine wp_region_vals (a1 := ?a1r13) (grown _) [.agg #[.int .i64 p, .int .u64 K, .int .i64 bi], .int .u64 V4, .agg #[.int .i64 p, .int .u64 K, .int .i64 bi], .int .u64 S, .int .u64 (S - 1), .int .u64 VM, .pointer (some ⟨(w.heap.size + 1), 1, none⟩), .bool ng, .int .u64 B, .int .u64 B] 60 rfl (by kernel_rfl) (by kernel_rfl) (grown_start _) ⟨?o0r13, ?o1r13, ?o2r13, ?o3r13, ?o4r13, ?o5r13, ?o6r13, ?o7r13, ?o8r13, ?o9r13, trivial⟩ ?har13 ?hdoner13
  case har13 => simp [putAll, Act.put]; exact rfl
  case o0r13 => exact ValOp.pure (grown_steady _ 0) [(2, .pointer (some ⟨w.heap.size, 0, none⟩))] rfl (fun _ _ h2 => ⟨(h2 2 (by kernel_rfl)).trans rfl, trivial⟩) (by kernel_rfl) (fun _ _ _ hg _ => run_read rfl rfl (run_loadVar_row _ _ _ _ _ _ _ (below_at l1 hg) Try.underlying75 rfl (by kernel_rfl)))
  case o1r13 => exact ValOp.pure (grown_steady _ 1) [(6, .int .u64 V4)] rfl (fun _ _ h2 => ⟨(h2 6 (by kernel_rfl)).trans rfl, trivial⟩) (by kernel_rfl) (fun _ _ _ _ _ => by kernel_rfl)
  case o2r13 => exact ValOp.pure (grown_steady _ 2) [(2, .pointer (some ⟨w.heap.size, 0, none⟩))] rfl (fun _ _ h2 => ⟨(h2 2 (by kernel_rfl)).trans rfl, trivial⟩) (by kernel_rfl) (fun _ _ _ hg _ => run_read rfl rfl (run_loadVar_row _ _ _ _ _ _ _ (below_at l1 hg) Try.underlying75 rfl (by kernel_rfl)))
  case o3r13 => exact ValOp.call (grown_steady _ 3) [(47, .agg #[.int .i64 p, .int .u64 K, .int .i64 bi])] rfl (fun _ h1 _ => ⟨h1 2 47 (by kernel_rfl), trivial⟩) (by kernel_rfl) 56 #[.agg #[.int .i64 p, .int .u64 K, .int .i64 bi]] (fun _ => by kernel_rfl) (fun _ w _ => k56 w)
  case o4r13 => exact ValOp.pure (grown_steady _ 4) [(48, .int .u64 S)] rfl (fun _ h1 _ => ⟨h1 3 48 (by kernel_rfl), trivial⟩) (by kernel_rfl) (fun _ _ _ _ _ => run_bin (a := .int .u64 S) (b := .int .u64 1) rfl rfl rfl (by kernel_rfl) (by simp [go_sem, hS1]))
  case o5r13 => exact ValOp.pure (grown_steady _ 5) [(46, .int .u64 V4), (49, .int .u64 (S - 1))] rfl (fun _ h1 _ => ⟨h1 1 46 (by kernel_rfl), h1 4 49 (by kernel_rfl), trivial⟩) (by kernel_rfl) (fun _ _ _ _ _ => run_bin (a := .int .u64 V4) (b := .int .u64 (S - 1)) rfl rfl rfl (by kernel_rfl) (by simp [go_sem, hVM]))
  case o6r13 => exact ValOp.pure (grown_steady _ 6) [(3, .pointer (some ⟨(w.heap.size + 1), 0, none⟩))] rfl (fun _ _ h2 => ⟨(h2 3 (by kernel_rfl)).trans rfl, trivial⟩) (by kernel_rfl) (fun _ _ _ _ _ => by kernel_rfl)
  case o7r13 => exact ValOp.pure (grown_steady _ 7) [(51, .pointer (some ⟨(w.heap.size + 1), 1, none⟩))] rfl (fun _ h1 _ => ⟨h1 6 51 (by kernel_rfl), trivial⟩) (by kernel_rfl) (fun _ _ _ hg _ => run_read rfl rfl (run_cell (below_at x1 hg) rfl (Try.isAgg4 _)))
  case o8r13 => exact ValOp.call (grown_steady _ 8) [(45, .agg #[.int .i64 p, .int .u64 K, .int .i64 bi]), (50, .int .u64 VM), (52, .bool ng)] rfl (fun _ h1 _ => ⟨h1 0 45 (by kernel_rfl), h1 5 50 (by kernel_rfl), h1 7 52 (by kernel_rfl), trivial⟩) (by kernel_rfl) 60 #[.agg #[.int .i64 p, .int .u64 K, .int .i64 bi], .int .u64 VM, .bool ng] (fun _ => by kernel_rfl) (fun _ w _ => k60 w)
  case o9r13 => exact ValOp.pure (grown_steady _ 9) [(53, .int .u64 B)] rfl (fun _ h1 _ => ⟨h1 8 53 (by kernel_rfl), trivial⟩) (by kernel_rfl) (fun _ _ _ _ _ => by kernel_rfl)
  intro w3 s3 _ hb3
  replace hb3 : Below _ _ w3 := hb3
  have l3 : w3.heap[w.heap.size]? = some (.cells #[.int .i64 p, .int .u64 K, .int .i64 bi] 75 (0, 0)) := below_at l1 hb3
  have x3 : w3.heap[w.heap.size + 1]? = some (.cells #[.int .i64 4, .bool ng, .int .u64 M, .int .i64 X, .bool false, .int .u64 LD] 30 (0, 0)) := below_at x1 hb3
  have B3 : Hid (Below w.heap.size w w3) := B1.out.trans (hb3.mono (by omega))
  clear hb3
  refine (by assumption : ∀ (a : Act) (w : World), Code.wp Try.prog ((Code.region 14 _ _).seq _) _ a w → _) _ _ ?_
  go_wp2_with fail
  refine wp_region_vals (a1 := ?a1r14) (grown _) [.int .u64 B, .agg #[.int .i64 p, .int .u64 K, .int .i64 bi], .int .u64 B, PV, .agg #[.int .i64 4, .bool ng, .int .u64 M, .int .i64 X, .bool false, .int .u64 LD], .bool EQ, .int .u64 B, .bool EQ] 60 rfl (by kernel_rfl) (by kernel_rfl) (grown_start _) ⟨?o0r14, ?o1r14, ?o2r14, ?o3r14, ?o4r14, ?o5r14, ?o6r14, ?o7r14, trivial⟩ ?har14 ?hdoner14
  case har14 => simp [putAll, Act.put]; exact rfl
  case o0r14 => exact ValOp.pure (grown_steady _ 0) [(6, .int .u64 B)] rfl (fun _ _ h2 => ⟨(h2 6 (by kernel_rfl)).trans rfl, trivial⟩) (by kernel_rfl) (fun _ _ _ _ _ => by kernel_rfl)
  case o1r14 => exact ValOp.pure (grown_steady _ 1) [(2, .pointer (some ⟨w.heap.size, 0, none⟩))] rfl (fun _ _ h2 => ⟨(h2 2 (by kernel_rfl)).trans rfl, trivial⟩) (by kernel_rfl) (fun _ _ _ hg _ => run_read rfl rfl (run_loadVar_row _ _ _ _ _ _ _ (below_at l3 hg) Try.underlying75 rfl (by kernel_rfl)))
  case o2r14 => exact ValOp.pure (grown_steady _ 2) [(6, .int .u64 B)] rfl (fun _ _ h2 => ⟨(h2 6 (by kernel_rfl)).trans rfl, trivial⟩) (by kernel_rfl) (fun _ _ _ _ _ => by kernel_rfl)
  case o3r14 => exact ValOp.call (grown_steady _ 3) [(55, .agg #[.int .i64 p, .int .u64 K, .int .i64 bi]), (56, .int .u64 B)] rfl (fun _ h1 _ => ⟨h1 1 55 (by kernel_rfl), h1 2 56 (by kernel_rfl), trivial⟩) (by kernel_rfl) 42 #[.agg #[.int .i64 p, .int .u64 K, .int .i64 bi], .int .u64 B] (fun _ => by kernel_rfl) (fun _ w _ => k42 w)
  case o4r14 => exact ValOp.pure (grown_steady _ 4) [(3, .pointer (some ⟨(w.heap.size + 1), 0, none⟩))] rfl (fun _ _ h2 => ⟨(h2 3 (by kernel_rfl)).trans rfl, trivial⟩) (by kernel_rfl) (fun _ _ _ hg _ => run_read rfl rfl (run_loadVar_row _ _ _ _ _ _ _ (below_at x3 hg) Try.underlying30 rfl (by kernel_rfl)))
  case o5r14 => exact ValOp.pure (grown_steady _ 5) [(57, PV), (58, .agg #[.int .i64 4, .bool ng, .int .u64 M, .int .i64 X, .bool false, .int .u64 LD])] rfl (fun _ h1 _ => ⟨h1 3 57 (by kernel_rfl), h1 4 58 (by kernel_rfl), trivial⟩) (by kernel_rfl) (fun _ _ _ _ _ => run_bin (a := PV) (b := .agg #[.int .i64 4, .bool ng, .int .u64 M, .int .i64 X, .bool false, .int .u64 LD]) rfl rfl rfl (hEG _) (hEQ _))
  case o6r14 => exact ValOp.pure (grown_steady _ 6) [(54, .int .u64 B)] rfl (fun _ h1 _ => ⟨h1 0 54 (by kernel_rfl), trivial⟩) (by kernel_rfl) (fun _ _ _ _ _ => by kernel_rfl)
  case o7r14 => exact ValOp.pure (grown_steady _ 7) [(59, .bool EQ)] rfl (fun _ h1 _ => ⟨h1 5 59 (by kernel_rfl), trivial⟩) (by kernel_rfl) (fun _ _ _ _ _ => by kernel_rfl)
  intro w4 s4 _ hb4
  replace hb4 : Below _ _ w4 := hb4
  refine (by assumption : ∀ (a : Act) (w : World), Code.wp Try.prog Code.ret _ a w → _) _ _ ?_
  refine wp_ret (bodyPost_ret (v := .tuple #[.int .u64 B, .bool EQ]) (by simp [results, Try.results45, go_sem]) rfl ⟨rfl, B3.out.trans (hb4.mono B3.out.size)⟩)
end Go.Proofs.Ytjcjecbffnadaaa
