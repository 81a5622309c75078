/-
  The contract of the bits that are made of parts, by the numbers that stand in it: noughts, others, subnormal ones.
-/
import Derived.Test.YtjcjecbffnadaabPa
namespace Go.Proofs.Ytjcjecbffnadaab
open Go.RowKit
set_option maxHeartbeats 2000000 in
theorem bits_other {p : Nat} {bi : Int} (w : World) (_h1 : 1 ≤ p) (_h2 : p ≤ 52) (K S V VM B M LD : Nat) (X : Int) (ng qu EQ : Bool) (PV : Value) (hS1 : IntKind.u64.wrap ((S : Int) - 1) = (S : Int) - 1) (_hVM : bits .and .u64 V ((S : Int) - 1) = VM)
    (k56 : ∀ w, Calls Try.prog 65 #[.agg #[.int .i64 p, .int .u64 K, .int .i64 bi]] w fun e w' => e = .returned (.int .u64 S) ∧ Below w.heap.size w w')
    (k60 : ∀ w, Calls Try.prog 74 #[.agg #[.int .i64 p, .int .u64 K, .int .i64 bi], .int .u64 VM, .bool ng] w fun e w' => e = .returned (.int .u64 B) ∧ Below w.heap.size w w')
    (k42 : ∀ w, Calls Try.prog 69 #[.agg #[.int .i64 p, .int .u64 K, .int .i64 bi], .int .u64 B] w fun e w' => e = .returned PV ∧ Below w.heap.size w w')
    (kd : Int) (hVM0 : bits .and .u64 (0 : Int) ((S : Int) - 1) = VM) (n1 : ¬ kd = 1) (n2 : ¬ kd = 2) (n3 : ¬ kd = 3) (n4 : ¬ kd = 4)
    (hEG : ∀ w, (eqGuard .eql 66 (.tmp 57) (.tmp 58) PV (.agg #[.int .i64 kd, .bool ng, .int .u64 M, .int .i64 X, .bool qu, .int .u64 LD])).run Try.prog w = .ok () w) (hEQ : ∀ w, (binOp .eql 66 PV (.agg #[.int .i64 kd, .bool ng, .int .u64 M, .int .i64 X, .bool qu, .int .u64 LD])).run Try.prog w = .ok (.bool EQ) w) :
    Calls Try.prog 71 #[.agg #[.int .i64 p, .int .u64 K, .int .i64 bi], .agg #[.int .i64 kd, .bool ng, .int .u64 M, .int .i64 X, .bool qu, .int .u64 LD]] w fun e w' => e = .returned (.tuple #[.int .u64 B, .bool EQ]) ∧ Below w.heap.size w w' := by
  go_enter Try.func71, Try.ntmps71
  go_wp2_with fail
  refine wp_region_vals (a1 := ?a1r13) (grown _) [.agg #[.int .i64 p, .int .u64 K, .int .i64 bi], .int .u64 0, .agg #[.int .i64 p, .int .u64 K, .int .i64 bi], .int .u64 S, .int .u64 (S - 1), .int .u64 VM, .pointer (some ⟨(w.heap.size + 1), 1, none⟩), .bool ng, .int .u64 B, .int .u64 B] 60 rfl (by kernel_rfl) (by kernel_rfl) (grown_start _) ⟨?o0r13, ?o1r13, ?o2r13, ?o3r13, ?o4r13, ?o5r13, ?o6r13, ?o7r13, ?o8r13, ?o9r13, trivial⟩ ?har13 ?hdoner13
  case har13 => simp [putAll, Act.put]; exact rfl
  case o0r13 => exact ValOp.pure (grown_steady _ 0) [(2, .pointer (some ⟨w.heap.size, 0, none⟩))] rfl (fun _ _ h2 => ⟨(h2 2 (by kernel_rfl)).trans rfl, trivial⟩) (by kernel_rfl) (fun _ _ _ hg _ => run_read rfl rfl (run_loadVar_row _ _ _ _ _ _ _ (below_at ((Below.heap_alloc _ _ _ (by simp)).trans (heap_alloc_last _ _)) hg) Try.underlying76 rfl (by kernel_rfl)))
  case o1r13 => exact ValOp.pure (grown_steady _ 1) [(6, .int .u64 0)] rfl (fun _ _ h2 => ⟨(h2 6 (by kernel_rfl)).trans rfl, trivial⟩) (by kernel_rfl) (fun _ _ _ _ _ => by kernel_rfl)
  case o2r13 => exact ValOp.pure (grown_steady _ 2) [(2, .pointer (some ⟨w.heap.size, 0, none⟩))] rfl (fun _ _ h2 => ⟨(h2 2 (by kernel_rfl)).trans rfl, trivial⟩) (by kernel_rfl) (fun _ _ _ hg _ => run_read rfl rfl (run_loadVar_row _ _ _ _ _ _ _ (below_at ((Below.heap_alloc _ _ _ (by simp)).trans (heap_alloc_last _ _)) hg) Try.underlying76 rfl (by kernel_rfl)))
  case o3r13 => exact ValOp.call (grown_steady _ 3) [(47, .agg #[.int .i64 p, .int .u64 K, .int .i64 bi])] rfl (fun _ h1 _ => ⟨h1 2 47 (by kernel_rfl), trivial⟩) (by kernel_rfl) 65 #[.agg #[.int .i64 p, .int .u64 K, .int .i64 bi]] (fun _ => by kernel_rfl) (fun _ w _ => k56 w)
  case o4r13 => exact ValOp.pure (grown_steady _ 4) [(48, .int .u64 S)] rfl (fun _ h1 _ => ⟨h1 3 48 (by kernel_rfl), trivial⟩) (by kernel_rfl) (fun _ _ _ _ _ => run_bin (a := .int .u64 S) (b := .int .u64 1) rfl rfl rfl (by kernel_rfl) (by simp [go_sem, hS1]))
  case o5r13 => exact ValOp.pure (grown_steady _ 5) [(46, .int .u64 0), (49, .int .u64 (S - 1))] rfl (fun _ h1 _ => ⟨h1 1 46 (by kernel_rfl), h1 4 49 (by kernel_rfl), trivial⟩) (by kernel_rfl) (fun _ _ _ _ _ => run_bin (a := .int .u64 0) (b := .int .u64 (S - 1)) rfl rfl rfl (by kernel_rfl) (by simp [go_sem, hVM0]))
  case o6r13 => exact ValOp.pure (grown_steady _ 6) [(3, .pointer (some ⟨(w.heap.size + 1), 0, none⟩))] rfl (fun _ _ h2 => ⟨(h2 3 (by kernel_rfl)).trans rfl, trivial⟩) (by kernel_rfl) (fun _ _ _ _ _ => by kernel_rfl)
  case o7r13 => exact ValOp.pure (grown_steady _ 7) [(51, .pointer (some ⟨(w.heap.size + 1), 1, none⟩))] rfl (fun _ h1 _ => ⟨h1 6 51 (by kernel_rfl), trivial⟩) (by kernel_rfl) (fun _ _ _ hg _ => run_read rfl rfl (run_cell (below_at (last_at _ _ (by simp)) hg) rfl (Try.isAgg4 _)))
  case o8r13 => exact ValOp.call (grown_steady _ 8) [(45, .agg #[.int .i64 p, .int .u64 K, .int .i64 bi]), (50, .int .u64 VM), (52, .bool ng)] rfl (fun _ h1 _ => ⟨h1 0 45 (by kernel_rfl), h1 5 50 (by kernel_rfl), h1 7 52 (by kernel_rfl), trivial⟩) (by kernel_rfl) 74 #[.agg #[.int .i64 p, .int .u64 K, .int .i64 bi], .int .u64 VM, .bool ng] (fun _ => by kernel_rfl) (fun _ w _ => k60 w)
  case o9r13 => exact ValOp.pure (grown_steady _ 9) [(53, .int .u64 B)] rfl (fun _ h1 _ => ⟨h1 8 53 (by kernel_rfl), trivial⟩) (by kernel_rfl) (fun _ _ _ _ _ => by kernel_rfl)
  intro w3 s3 _ hb3
  replace hb3 : Below _ _ w3 := hb3
  have l3 : w3.heap[w.heap.size]? = some (.cells #[.int .i64 p, .int .u64 K, .int .i64 bi] 76 (0, 0)) := below_at ((Below.heap_alloc _ _ _ (by simp)).trans (heap_alloc_last _ _)) hb3
  have x3 : w3.heap[w.heap.size + 1]? = some (.cells #[.int .i64 kd, .bool ng, .int .u64 M, .int .i64 X, .bool qu, .int .u64 LD] 66 (0, 0)) := below_at (last_at _ _ (by simp)) hb3
  have B3 : Hid (Below w.heap.size w w3) := by
    have h : Below w.heap.size _ w3 := hb3.mono (by simp <;> omega)
    exact (((Below.refl _ _).alloc (Nat.le_refl _) _).alloc (by simp) _).trans h
  clear hb3
  refine (by assumption : ∀ (a : Act) (w : World), Code.wp Try.prog ((Code.region 14 _ _).seq _) _ a w → _) _ _ ?_
  go_wp2_with fail
  refine wp_region_vals (a1 := ?a1r14) (grown _) [.int .u64 B, .agg #[.int .i64 p, .int .u64 K, .int .i64 bi], .int .u64 B, PV, .agg #[.int .i64 kd, .bool ng, .int .u64 M, .int .i64 X, .bool qu, .int .u64 LD], .bool EQ, .int .u64 B, .bool EQ] 60 rfl (by kernel_rfl) (by kernel_rfl) (grown_start _) ⟨?o0r14, ?o1r14, ?o2r14, ?o3r14, ?o4r14, ?o5r14, ?o6r14, ?o7r14, trivial⟩ ?har14 ?hdoner14
  case har14 => simp [putAll, Act.put]; exact rfl
  case o0r14 => exact ValOp.pure (grown_steady _ 0) [(6, .int .u64 B)] rfl (fun _ _ h2 => ⟨(h2 6 (by kernel_rfl)).trans rfl, trivial⟩) (by kernel_rfl) (fun _ _ _ _ _ => by kernel_rfl)
  case o1r14 => exact ValOp.pure (grown_steady _ 1) [(2, .pointer (some ⟨w.heap.size, 0, none⟩))] rfl (fun _ _ h2 => ⟨(h2 2 (by kernel_rfl)).trans rfl, trivial⟩) (by kernel_rfl) (fun _ _ _ hg _ => run_read rfl rfl (run_loadVar_row _ _ _ _ _ _ _ (below_at l3 hg) Try.underlying76 rfl (by kernel_rfl)))
  case o2r14 => exact ValOp.pure (grown_steady _ 2) [(6, .int .u64 B)] rfl (fun _ _ h2 => ⟨(h2 6 (by kernel_rfl)).trans rfl, trivial⟩) (by kernel_rfl) (fun _ _ _ _ _ => by kernel_rfl)
  case o3r14 => exact ValOp.call (grown_steady _ 3) [(55, .agg #[.int .i64 p, .int .u64 K, .int .i64 bi]), (56, .int .u64 B)] rfl (fun _ h1 _ => ⟨h1 1 55 (by kernel_rfl), h1 2 56 (by kernel_rfl), trivial⟩) (by kernel_rfl) 69 #[.agg #[.int .i64 p, .int .u64 K, .int .i64 bi], .int .u64 B] (fun _ => by kernel_rfl) (fun _ w _ => k42 w)
  case o4r14 => exact ValOp.pure (grown_steady _ 4) [(3, .pointer (some ⟨(w.heap.size + 1), 0, none⟩))] rfl (fun _ _ h2 => ⟨(h2 3 (by kernel_rfl)).trans rfl, trivial⟩) (by kernel_rfl) (fun _ _ _ hg _ => run_read rfl rfl (run_loadVar_row _ _ _ _ _ _ _ (below_at x3 hg) Try.underlying66 rfl (by kernel_rfl)))
  case o5r14 => exact ValOp.pure (grown_steady _ 5) [(57, PV), (58, .agg #[.int .i64 kd, .bool ng, .int .u64 M, .int .i64 X, .bool qu, .int .u64 LD])] rfl (fun _ h1 _ => ⟨h1 3 57 (by kernel_rfl), h1 4 58 (by kernel_rfl), trivial⟩) (by kernel_rfl) (fun _ _ _ _ _ => run_bin (a := PV) (b := .agg #[.int .i64 kd, .bool ng, .int .u64 M, .int .i64 X, .bool qu, .int .u64 LD]) rfl rfl rfl (hEG _) (hEQ _))
  case o6r14 => exact ValOp.pure (grown_steady _ 6) [(54, .int .u64 B)] rfl (fun _ h1 _ => ⟨h1 0 54 (by kernel_rfl), trivial⟩) (by kernel_rfl) (fun _ _ _ _ _ => by kernel_rfl)
  case o7r14 => exact ValOp.pure (grown_steady _ 7) [(59, .bool EQ)] rfl (fun _ h1 _ => ⟨h1 5 59 (by kernel_rfl), trivial⟩) (by kernel_rfl) (fun _ _ _ _ _ => by kernel_rfl)
  intro w4 s4 _ hb4
  replace hb4 : Below _ _ w4 := hb4
  refine (by assumption : ∀ (a : Act) (w : World), Code.wp Try.prog Code.ret _ a w → _) _ _ ?_
  refine wp_ret (bodyPost_ret (v := .tuple #[.int .u64 B, .bool EQ]) (by simp [results, Try.results71, go_sem]) rfl ⟨rfl, B3.out.trans (hb4.mono B3.out.size)⟩)
set_option maxHeartbeats 2000000 in
theorem bits_sub {p : Nat} {bi : Int} (w : World) (_h1 : 1 ≤ p) (_h2 : p ≤ 52) (K S V VM B M LD : Nat) (X : Int) (ng qu EQ : Bool) (PV : Value) (hS1 : IntKind.u64.wrap ((S : Int) - 1) = (S : Int) - 1) (hVM : bits .and .u64 V ((S : Int) - 1) = VM)
    (k56 : ∀ w, Calls Try.prog 65 #[.agg #[.int .i64 p, .int .u64 K, .int .i64 bi]] w fun e w' => e = .returned (.int .u64 S) ∧ Below w.heap.size w w')
    (k60 : ∀ w, Calls Try.prog 74 #[.agg #[.int .i64 p, .int .u64 K, .int .i64 bi], .int .u64 VM, .bool ng] w fun e w' => e = .returned (.int .u64 B) ∧ Below w.heap.size w w')
    (k42 : ∀ w, Calls Try.prog 69 #[.agg #[.int .i64 p, .int .u64 K, .int .i64 bi], .int .u64 B] w fun e w' => e = .returned PV ∧ Below w.heap.size w w')
    (hV : M = V)
    (hEG : ∀ w, (eqGuard .eql 66 (.tmp 57) (.tmp 58) PV (.agg #[.int .i64 1, .bool ng, .int .u64 M, .int .i64 X, .bool qu, .int .u64 LD])).run Try.prog w = .ok () w) (hEQ : ∀ w, (binOp .eql 66 PV (.agg #[.int .i64 1, .bool ng, .int .u64 M, .int .i64 X, .bool qu, .int .u64 LD])).run Try.prog w = .ok (.bool EQ) w) :
    Calls Try.prog 71 #[.agg #[.int .i64 p, .int .u64 K, .int .i64 bi], .agg #[.int .i64 1, .bool ng, .int .u64 M, .int .i64 X, .bool qu, .int .u64 LD]] w fun e w' => e = .returned (.tuple #[.int .u64 B, .bool EQ]) ∧ Below w.heap.size w w' := by
  subst hV
  go_enter Try.func71, Try.ntmps71
  go_wp2_with fail
  refine wp_region_vals (a1 := ?a1r13) (grown _) [.agg #[.int .i64 p, .int .u64 K, .int .i64 bi], .int .u64 M, .agg #[.int .i64 p, .int .u64 K, .int .i64 bi], .int .u64 S, .int .u64 (S - 1), .int .u64 VM, .pointer (some ⟨(w.heap.size + 1), 1, none⟩), .bool ng, .int .u64 B, .int .u64 B] 60 rfl (by kernel_rfl) (by kernel_rfl) (grown_start _) ⟨?o0r13, ?o1r13, ?o2r13, ?o3r13, ?o4r13, ?o5r13, ?o6r13, ?o7r13, ?o8r13, ?o9r13, trivial⟩ ?har13 ?hdoner13
  case har13 => simp [putAll, Act.put]; exact rfl
  case o0r13 => exact ValOp.pure (grown_steady _ 0) [(2, .pointer (some ⟨w.heap.size, 0, none⟩))] rfl (fun _ _ h2 => ⟨(h2 2 (by kernel_rfl)).trans rfl, trivial⟩) (by kernel_rfl) (fun _ _ _ hg _ => run_read rfl rfl (run_loadVar_row _ _ _ _ _ _ _ (below_at ((Below.heap_alloc _ _ _ (by simp)).trans (heap_alloc_last _ _)) hg) Try.underlying76 rfl (by kernel_rfl)))
  case o1r13 => exact ValOp.pure (grown_steady _ 1) [(6, .int .u64 M)] rfl (fun _ _ h2 => ⟨(h2 6 (by kernel_rfl)).trans rfl, trivial⟩) (by kernel_rfl) (fun _ _ _ _ _ => by kernel_rfl)
  case o2r13 => exact ValOp.pure (grown_steady _ 2) [(2, .pointer (some ⟨w.heap.size, 0, none⟩))] rfl (fun _ _ h2 => ⟨(h2 2 (by kernel_rfl)).trans rfl, trivial⟩) (by kernel_rfl) (fun _ _ _ hg _ => run_read rfl rfl (run_loadVar_row _ _ _ _ _ _ _ (below_at ((Below.heap_alloc _ _ _ (by simp)).trans (heap_alloc_last _ _)) hg) Try.underlying76 rfl (by kernel_rfl)))
  case o3r13 => exact ValOp.call (grown_steady _ 3) [(47, .agg #[.int .i64 p, .int .u64 K, .int .i64 bi])] rfl (fun _ h1 _ => ⟨h1 2 47 (by kernel_rfl), trivial⟩) (by kernel_rfl) 65 #[.agg #[.int .i64 p, .int .u64 K, .int .i64 bi]] (fun _ => by kernel_rfl) (fun _ w _ => k56 w)
  case o4r13 => exact ValOp.pure (grown_steady _ 4) [(48, .int .u64 S)] rfl (fun _ h1 _ => ⟨h1 3 48 (by kernel_rfl), trivial⟩) (by kernel_rfl) (fun _ _ _ _ _ => run_bin (a := .int .u64 S) (b := .int .u64 1) rfl rfl rfl (by kernel_rfl) (by simp [go_sem, hS1]))
  case o5r13 => exact ValOp.pure (grown_steady _ 5) [(46, .int .u64 M), (49, .int .u64 (S - 1))] rfl (fun _ h1 _ => ⟨h1 1 46 (by kernel_rfl), h1 4 49 (by kernel_rfl), trivial⟩) (by kernel_rfl) (fun _ _ _ _ _ => run_bin (a := .int .u64 M) (b := .int .u64 (S - 1)) rfl rfl rfl (by kernel_rfl) (by simp [go_sem, hVM]))
  case o6r13 => exact ValOp.pure (grown_steady _ 6) [(3, .pointer (some ⟨(w.heap.size + 1), 0, none⟩))] rfl (fun _ _ h2 => ⟨(h2 3 (by kernel_rfl)).trans rfl, trivial⟩) (by kernel_rfl) (fun _ _ _ _ _ => by kernel_rfl)
  case o7r13 => exact ValOp.pure (grown_steady _ 7) [(51, .pointer (some ⟨(w.heap.size + 1), 1, none⟩))] rfl (fun _ h1 _ => ⟨h1 6 51 (by kernel_rfl), trivial⟩) (by kernel_rfl) (fun _ _ _ hg _ => run_read rfl rfl (run_cell (below_at (last_at _ _ (by simp)) hg) rfl (Try.isAgg4 _)))
  case o8r13 => exact ValOp.call (grown_steady _ 8) [(45, .agg #[.int .i64 p, .int .u64 K, .int .i64 bi]), (50, .int .u64 VM), (52, .bool ng)] rfl (fun _ h1 _ => ⟨h1 0 45 (by kernel_rfl), h1 5 50 (by kernel_rfl), h1 7 52 (by kernel_rfl), trivial⟩) (by kernel_rfl) 74 #[.agg #[.int .i64 p, .int .u64 K, .int .i64 bi], .int .u64 VM, .bool ng] (fun _ => by kernel_rfl) (fun _ w _ => k60 w)
  case o9r13 => exact ValOp.pure (grown_steady _ 9) [(53, .int .u64 B)] rfl (fun _ h1 _ => ⟨h1 8 53 (by kernel_rfl), trivial⟩) (by kernel_rfl) (fun _ _ _ _ _ => by kernel_rfl)
  intro w3 s3 _ hb3
  replace hb3 : Below _ _ w3 := hb3
  have l3 : w3.heap[w.heap.size]? = some (.cells #[.int .i64 p, .int .u64 K, .int .i64 bi] 76 (0, 0)) := below_at ((Below.heap_alloc _ _ _ (by simp)).trans (heap_alloc_last _ _)) hb3
  have x3 : w3.heap[w.heap.size + 1]? = some (.cells #[.int .i64 1, .bool ng, .int .u64 M, .int .i64 X, .bool qu, .int .u64 LD] 66 (0, 0)) := below_at (last_at _ _ (by simp)) hb3
  have B3 : Hid (Below w.heap.size w w3) := by
    have h : Below w.heap.size _ w3 := hb3.mono (by simp <;> omega)
    exact (((Below.refl _ _).alloc (Nat.le_refl _) _).alloc (by simp) _).trans h
  clear hb3
  refine (by assumption : ∀ (a : Act) (w : World), Code.wp Try.prog ((Code.region 14 _ _).seq _) _ a w → _) _ _ ?_
  go_wp2_with fail
  refine wp_region_vals (a1 := ?a1r14) (grown _) [.int .u64 B, .agg #[.int .i64 p, .int .u64 K, .int .i64 bi], .int .u64 B, PV, .agg #[.int .i64 1, .bool ng, .int .u64 M, .int .i64 X, .bool qu, .int .u64 LD], .bool EQ, .int .u64 B, .bool EQ] 60 rfl (by kernel_rfl) (by kernel_rfl) (grown_start _) ⟨?o0r14, ?o1r14, ?o2r14, ?o3r14, ?o4r14, ?o5r14, ?o6r14, ?o7r14, trivial⟩ ?har14 ?hdoner14
  case har14 => simp [putAll, Act.put]; exact rfl
  case o0r14 => exact ValOp.pure (grown_steady _ 0) [(6, .int .u64 B)] rfl (fun _ _ h2 => ⟨(h2 6 (by kernel_rfl)).trans rfl, trivial⟩) (by kernel_rfl) (fun _ _ _ _ _ => by kernel_rfl)
  case o1r14 => exact ValOp.pure (grown_steady _ 1) [(2, .pointer (some ⟨w.heap.size, 0, none⟩))] rfl (fun _ _ h2 => ⟨(h2 2 (by kernel_rfl)).trans rfl, trivial⟩) (by kernel_rfl) (fun _ _ _ hg _ => run_read rfl rfl (run_loadVar_row _ _ _ _ _ _ _ (below_at l3 hg) Try.underlying76 rfl (by kernel_rfl)))
  case o2r14 => exact ValOp.pure (grown_steady _ 2) [(6, .int .u64 B)] rfl (fun _ _ h2 => ⟨(h2 6 (by kernel_rfl)).trans rfl, trivial⟩) (by kernel_rfl) (fun _ _ _ _ _ => by kernel_rfl)
  case o3r14 => exact ValOp.call (grown_steady _ 3) [(55, .agg #[.int .i64 p, .int .u64 K, .int .i64 bi]), (56, .int .u64 B)] rfl (fun _ h1 _ => ⟨h1 1 55 (by kernel_rfl), h1 2 56 (by kernel_rfl), trivial⟩) (by kernel_rfl) 69 #[.agg #[.int .i64 p, .int .u64 K, .int .i64 bi], .int .u64 B] (fun _ => by kernel_rfl) (fun _ w _ => k42 w)
  case o4r14 => exact ValOp.pure (grown_steady _ 4) [(3, .pointer (some ⟨(w.heap.size + 1), 0, none⟩))] rfl (fun _ _ h2 => ⟨(h2 3 (by kernel_rfl)).trans rfl, trivial⟩) (by kernel_rfl) (fun _ _ _ hg _ => run_read rfl rfl (run_loadVar_row _ _ _ _ _ _ _ (below_at x3 hg) Try.underlying66 rfl (by kernel_rfl)))
  case o5r14 => exact ValOp.pure (grown_steady _ 5) [(57, PV), (58, .agg #[.int .i64 1, .bool ng, .int .u64 M, .int .i64 X, .bool qu, .int .u64 LD])] rfl (fun _ h1 _ => ⟨h1 3 57 (by kernel_rfl), h1 4 58 (by kernel_rfl), trivial⟩) (by kernel_rfl) (fun _ _ _ _ _ => run_bin (a := PV) (b := .agg #[.int .i64 1, .bool ng, .int .u64 M, .int .i64 X, .bool qu, .int .u64 LD]) rfl rfl rfl (hEG _) (hEQ _))
  case o6r14 => exact ValOp.pure (grown_steady _ 6) [(54, .int .u64 B)] rfl (fun _ h1 _ => ⟨h1 0 54 (by kernel_rfl), trivial⟩) (by kernel_rfl) (fun _ _ _ _ _ => by kernel_rfl)
  case o7r14 => exact ValOp.pure (grown_steady _ 7) [(59, .bool EQ)] rfl (fun _ h1 _ => ⟨h1 5 59 (by kernel_rfl), trivial⟩) (by kernel_rfl) (fun _ _ _ _ _ => by kernel_rfl)
  intro w4 s4 _ hb4
  replace hb4 : Below _ _ w4 := hb4
  refine (by assumption : ∀ (a : Act) (w : World), Code.wp Try.prog Code.ret _ a w → _) _ _ ?_
  refine wp_ret (bodyPost_ret (v := .tuple #[.int .u64 B, .bool EQ]) (by simp [results, Try.results71, go_sem]) rfl ⟨rfl, B3.out.trans (hb4.mono B3.out.size)⟩)
set_option maxHeartbeats 2000000 in
theorem bits_normal {p : Nat} {bi : Int} (w : World) (h1 : 1 ≤ p) (h2 : p ≤ 52) (K S V VM B M LD : Nat) (X : Int) (ng qu EQ : Bool) (PV : Value) (hS1 : IntKind.u64.wrap ((S : Int) - 1) = (S : Int) - 1) (hVM : bits .and .u64 V ((S : Int) - 1) = VM)
    (k56 : ∀ w, Calls Try.prog 65 #[.agg #[.int .i64 p, .int .u64 K, .int .i64 bi]] w fun e w' => e = .returned (.int .u64 S) ∧ Below w.heap.size w w')
    (k60 : ∀ w, Calls Try.prog 74 #[.agg #[.int .i64 p, .int .u64 K, .int .i64 bi], .int .u64 VM, .bool ng] w fun e w' => e = .returned (.int .u64 B) ∧ Below w.heap.size w w')
    (k42 : ∀ w, Calls Try.prog 69 #[.agg #[.int .i64 p, .int .u64 K, .int .i64 bi], .int .u64 B] w fun e w' => e = .returned PV ∧ Below w.heap.size w w')
    (LOW : Int) (DD GG : Nat) (hDD : IntKind.u64.wrap (IntKind.u64.wrap X - IntKind.u64.wrap LOW) = DD) (hGG : IntKind.u64.wrap ((DD : Int) * 2 ^ p) = GG) (hV : IntKind.u64.wrap ((GG : Int) + M) = V)
    (k58 : ∀ w, Calls Try.prog 78 #[.agg #[.int .i64 p, .int .u64 K, .int .i64 bi]] w fun e w' => e = .returned (.int .i64 LOW) ∧ Below w.heap.size w w')
    (hEG : ∀ w, (eqGuard .eql 66 (.tmp 57) (.tmp 58) PV (.agg #[.int .i64 2, .bool ng, .int .u64 M, .int .i64 X, .bool qu, .int .u64 LD])).run Try.prog w = .ok () w) (hEQ : ∀ w, (binOp .eql 66 PV (.agg #[.int .i64 2, .bool ng, .int .u64 M, .int .i64 X, .bool qu, .int .u64 LD])).run Try.prog w = .ok (.bool EQ) w) :
    Calls Try.prog 71 #[.agg #[.int .i64 p, .int .u64 K, .int .i64 bi], .agg #[.int .i64 2, .bool ng, .int .u64 M, .int .i64 X, .bool qu, .int .u64 LD]] w fun e w' => e = .returned (.tuple #[.int .u64 B, .bool EQ]) ∧ Below w.heap.size w w' := by
  go_enter Try.func71, Try.ntmps71
  go_wp2_with fail
  refine wp_region_vals (a1 := ?a1r6) (grown _) [.pointer (some ⟨(w.heap.size + 1), 3, none⟩), .int .i64 X, .int .u64 (IntKind.u64.wrap X), .agg #[.int .i64 p, .int .u64 K, .int .i64 bi], .int .i64 LOW, .int .u64 (IntKind.u64.wrap LOW), .int .u64 DD, .pointer (some ⟨w.heap.size, 0, none⟩), .int .i64 p, .int .u64 GG, .pointer (some ⟨(w.heap.size + 1), 2, none⟩), .int .u64 M, .int .u64 V, .int .u64 V] 60 rfl (by kernel_rfl) (by kernel_rfl) (grown_start _) ⟨?o0r6, ?o1r6, ?o2r6, ?o3r6, ?o4r6, ?o5r6, ?o6r6, ?o7r6, ?o8r6, ?o9r6, ?o10r6, ?o11r6, ?o12r6, ?o13r6, trivial⟩ ?har6 ?hdoner6
  case har6 => simp [putAll, Act.put]; exact rfl
  case o0r6 => exact ValOp.pure (grown_steady _ 0) [(3, .pointer (some ⟨(w.heap.size + 1), 0, none⟩))] rfl (fun _ _ h2 => ⟨(h2 3 (by kernel_rfl)).trans rfl, trivial⟩) (by kernel_rfl) (fun _ _ _ _ _ => by kernel_rfl)
  case o1r6 => exact ValOp.pure (grown_steady _ 1) [(15, .pointer (some ⟨(w.heap.size + 1), 3, none⟩))] rfl (fun _ h1 _ => ⟨h1 0 15 (by kernel_rfl), trivial⟩) (by kernel_rfl) (fun _ _ _ hg _ => run_read rfl rfl (run_cell (below_at (last_at _ _ (by simp)) hg) rfl (Try.isAgg3 _)))
  case o2r6 => exact ValOp.pure (grown_steady _ 2) [(16, .int .i64 X)] rfl (fun _ h1 _ => ⟨h1 1 16 (by kernel_rfl), trivial⟩) (by kernel_rfl) (fun _ _ _ _ _ => by kernel_rfl)
  case o3r6 => exact ValOp.pure (grown_steady _ 3) [(2, .pointer (some ⟨w.heap.size, 0, none⟩))] rfl (fun _ _ h2 => ⟨(h2 2 (by kernel_rfl)).trans rfl, trivial⟩) (by kernel_rfl) (fun _ _ _ hg _ => run_read rfl rfl (run_loadVar_row _ _ _ _ _ _ _ (below_at ((Below.heap_alloc _ _ _ (by simp)).trans (heap_alloc_last _ _)) hg) Try.underlying76 rfl (by kernel_rfl)))
  case o4r6 => exact ValOp.call (grown_steady _ 4) [(18, .agg #[.int .i64 p, .int .u64 K, .int .i64 bi])] rfl (fun _ h1 _ => ⟨h1 3 18 (by kernel_rfl), trivial⟩) (by kernel_rfl) 78 #[.agg #[.int .i64 p, .int .u64 K, .int .i64 bi]] (fun _ => by kernel_rfl) (fun _ w _ => k58 w)
  case o5r6 => exact ValOp.pure (grown_steady _ 5) [(19, .int .i64 LOW)] rfl (fun _ h1 _ => ⟨h1 4 19 (by kernel_rfl), trivial⟩) (by kernel_rfl) (fun _ _ _ _ _ => by kernel_rfl)
  case o6r6 => exact ValOp.pure (grown_steady _ 6) [(17, .int .u64 (IntKind.u64.wrap X)), (20, .int .u64 (IntKind.u64.wrap LOW))] rfl (fun _ h1 _ => ⟨h1 2 17 (by kernel_rfl), h1 5 20 (by kernel_rfl), trivial⟩) (by kernel_rfl) (fun _ _ _ _ _ => run_bin (a := .int .u64 (IntKind.u64.wrap X)) (b := .int .u64 (IntKind.u64.wrap LOW)) rfl rfl rfl (by kernel_rfl) (by simp [go_sem, hDD]))
  case o7r6 => exact ValOp.pure (grown_steady _ 7) [(2, .pointer (some ⟨w.heap.size, 0, none⟩))] rfl (fun _ _ h2 => ⟨(h2 2 (by kernel_rfl)).trans rfl, trivial⟩) (by kernel_rfl) (fun _ _ _ _ _ => by kernel_rfl)
  case o8r6 => exact ValOp.pure (grown_steady _ 8) [(22, .pointer (some ⟨w.heap.size, 0, none⟩))] rfl (fun _ h1 _ => ⟨h1 7 22 (by kernel_rfl), trivial⟩) (by kernel_rfl) (fun _ _ _ hg _ => run_read rfl rfl (run_cell (below_at ((Below.heap_alloc _ _ _ (by simp)).trans (heap_alloc_last _ _)) hg) rfl (Try.isAgg3 _)))
  case o9r6 => exact ValOp.pure (grown_steady _ 9) [(21, .int .u64 DD), (23, .int .i64 p)] rfl (fun _ h1 _ => ⟨h1 6 21 (by kernel_rfl), h1 8 23 (by kernel_rfl), trivial⟩) (by kernel_rfl) (fun _ _ _ _ _ => run_bin (a := .int .u64 DD) (b := .int .i64 p) rfl rfl rfl (by kernel_rfl) (by simp [go_sem, hGG]))
  case o10r6 => exact ValOp.pure (grown_steady _ 10) [(3, .pointer (some ⟨(w.heap.size + 1), 0, none⟩))] rfl (fun _ _ h2 => ⟨(h2 3 (by kernel_rfl)).trans rfl, trivial⟩) (by kernel_rfl) (fun _ _ _ _ _ => by kernel_rfl)
  case o11r6 => exact ValOp.pure (grown_steady _ 11) [(25, .pointer (some ⟨(w.heap.size + 1), 2, none⟩))] rfl (fun _ h1 _ => ⟨h1 10 25 (by kernel_rfl), trivial⟩) (by kernel_rfl) (fun _ _ _ hg _ => run_read rfl rfl (run_cell (below_at (last_at _ _ (by simp)) hg) rfl (Try.isAgg22 _)))
  case o12r6 => exact ValOp.pure (grown_steady _ 12) [(24, .int .u64 GG), (26, .int .u64 M)] rfl (fun _ h1 _ => ⟨h1 9 24 (by kernel_rfl), h1 11 26 (by kernel_rfl), trivial⟩) (by kernel_rfl) (fun _ _ _ _ _ => run_bin (a := .int .u64 GG) (b := .int .u64 M) rfl rfl rfl (by kernel_rfl) (by simp [go_sem, hV]))
  case o13r6 => exact ValOp.pure (grown_steady _ 13) [(27, .int .u64 V)] rfl (fun _ h1 _ => ⟨h1 12 27 (by kernel_rfl), trivial⟩) (by kernel_rfl) (fun _ _ _ _ _ => by kernel_rfl)
  intro w1 s1 _ hb1
  replace hb1 : Below _ _ w1 := hb1
  have l1 : w1.heap[w.heap.size]? = some (.cells #[.int .i64 p, .int .u64 K, .int .i64 bi] 76 (0, 0)) := below_at ((Below.heap_alloc _ _ _ (by simp)).trans (heap_alloc_last _ _)) hb1
  have x1 : w1.heap[w.heap.size + 1]? = some (.cells #[.int .i64 2, .bool ng, .int .u64 M, .int .i64 X, .bool qu, .int .u64 LD] 66 (0, 0)) := below_at (last_at _ _ (by simp)) hb1
  have z1 : w.heap.size + 2 ≤ w1.heap.size := by have := hb1.size; simpa using this
  have B1 : Hid (Below w.heap.size w w1) := by
    have h : Below w.heap.size _ w1 := hb1.mono (by simp <;> omega)
    exact (((Below.refl _ _).alloc (Nat.le_refl _) _).alloc (by simp) _).trans h
  clear hb1
  refine (by assumption : ∀ (a : Act) (w : World), Code.wp Try.prog ((Code.region 13 _ _).seq _) _ a w → _) _ _ ?_
  go_wp2_with fail
  refine wp_region_vals (a1 := ?a1r13) (grown _) [.agg #[.int .i64 p, .int .u64 K, .int .i64 bi], .int .u64 V, .agg #[.int .i64 p, .int .u64 K, .int .i64 bi], .int .u64 S, .int .u64 (S - 1), .int .u64 VM, .pointer (some ⟨(w.heap.size + 1), 1, none⟩), .bool ng, .int .u64 B, .int .u64 B] 60 rfl (by kernel_rfl) (by kernel_rfl) (grown_start _) ⟨?o0r13, ?o1r13, ?o2r13, ?o3r13, ?o4r13, ?o5r13, ?o6r13, ?o7r13, ?o8r13, ?o9r13, trivial⟩ ?har13 ?hdoner13
  case har13 => simp [putAll, Act.put]; exact rfl
  case o0r13 => exact ValOp.pure (grown_steady _ 0) [(2, .pointer (some ⟨w.heap.size, 0, none⟩))] rfl (fun _ _ h2 => ⟨(h2 2 (by kernel_rfl)).trans rfl, trivial⟩) (by kernel_rfl) (fun _ _ _ hg _ => run_read rfl rfl (run_loadVar_row _ _ _ _ _ _ _ (below_at l1 hg) Try.underlying76 rfl (by kernel_rfl)))
  case o1r13 => exact ValOp.pure (grown_steady _ 1) [(6, .int .u64 V)] rfl (fun _ _ h2 => ⟨(h2 6 (by kernel_rfl)).trans rfl, trivial⟩) (by kernel_rfl) (fun _ _ _ _ _ => by kernel_rfl)
  case o2r13 => exact ValOp.pure (grown_steady _ 2) [(2, .pointer (some ⟨w.heap.size, 0, none⟩))] rfl (fun _ _ h2 => ⟨(h2 2 (by kernel_rfl)).trans rfl, trivial⟩) (by kernel_rfl) (fun _ _ _ hg _ => run_read rfl rfl (run_loadVar_row _ _ _ _ _ _ _ (below_at l1 hg) Try.underlying76 rfl (by kernel_rfl)))
  case o3r13 => exact ValOp.call (grown_steady _ 3) [(47, .agg #[.int .i64 p, .int .u64 K, .int .i64 bi])] rfl (fun _ h1 _ => ⟨h1 2 47 (by kernel_rfl), trivial⟩) (by kernel_rfl) 65 #[.agg #[.int .i64 p, .int .u64 K, .int .i64 bi]] (fun _ => by kernel_rfl) (fun _ w _ => k56 w)
  case o4r13 => exact ValOp.pure (grown_steady _ 4) [(48, .int .u64 S)] rfl (fun _ h1 _ => ⟨h1 3 48 (by kernel_rfl), trivial⟩) (by kernel_rfl) (fun _ _ _ _ _ => run_bin (a := .int .u64 S) (b := .int .u64 1) rfl rfl rfl (by kernel_rfl) (by simp [go_sem, hS1]))
  case o5r13 => exact ValOp.pure (grown_steady _ 5) [(46, .int .u64 V), (49, .int .u64 (S - 1))] rfl (fun _ h1 _ => ⟨h1 1 46 (by kernel_rfl), h1 4 49 (by kernel_rfl), trivial⟩) (by kernel_rfl) (fun _ _ _ _ _ => run_bin (a := .int .u64 V) (b := .int .u64 (S - 1)) rfl rfl rfl (by kernel_rfl) (by simp [go_sem, hVM]))
  case o6r13 => exact ValOp.pure (grown_steady _ 6) [(3, .pointer (some ⟨(w.heap.size + 1), 0, none⟩))] rfl (fun _ _ h2 => ⟨(h2 3 (by kernel_rfl)).trans rfl, trivial⟩) (by kernel_rfl) (fun _ _ _ _ _ => by kernel_rfl)
  case o7r13 => exact ValOp.pure (grown_steady _ 7) [(51, .pointer (some ⟨(w.heap.size + 1), 1, none⟩))] rfl (fun _ h1 _ => ⟨h1 6 51 (by kernel_rfl), trivial⟩) (by kernel_rfl) (fun _ _ _ hg _ => run_read rfl rfl (run_cell (below_at x1 hg) rfl (Try.isAgg4 _)))
  case o8r13 => exact ValOp.call (grown_steady _ 8) [(45, .agg #[.int .i64 p, .int .u64 K, .int .i64 bi]), (50, .int .u64 VM), (52, .bool ng)] rfl (fun _ h1 _ => ⟨h1 0 45 (by kernel_rfl), h1 5 50 (by kernel_rfl), h1 7 52 (by kernel_rfl), trivial⟩) (by kernel_rfl) 74 #[.agg #[.int .i64 p, .int .u64 K, .int .i64 bi], .int .u64 VM, .bool ng] (fun _ => by kernel_rfl) (fun _ w _ => k60 w)
  case o9r13 => exact ValOp.pure (grown_steady _ 9) [(53, .int .u64 B)] rfl (fun _ h1 _ => ⟨h1 8 53 (by kernel_rfl), trivial⟩) (by kernel_rfl) (fun _ _ _ _ _ => by kernel_rfl)
  intro w3 s3 _ hb3
  replace hb3 : Below _ _ w3 := hb3
  have l3 : w3.heap[w.heap.size]? = some (.cells #[.int .i64 p, .int .u64 K, .int .i64 bi] 76 (0, 0)) := below_at l1 hb3
  have x3 : w3.heap[w.heap.size + 1]? = some (.cells #[.int .i64 2, .bool ng, .int .u64 M, .int .i64 X, .bool qu, .int .u64 LD] 66 (0, 0)) := below_at x1 hb3
  have B3 : Hid (Below w.heap.size w w3) := B1.out.trans (hb3.mono (by omega))
  clear hb3
  refine (by assumption : ∀ (a : Act) (w : World), Code.wp Try.prog ((Code.region 14 _ _).seq _) _ a w → _) _ _ ?_
  go_wp2_with fail
  refine wp_region_vals (a1 := ?a1r14) (grown _) [.int .u64 B, .agg #[.int .i64 p, .int .u64 K, .int .i64 bi], .int .u64 B, PV, .agg #[.int .i64 2, .bool ng, .int .u64 M, .int .i64 X, .bool qu, .int .u64 LD], .bool EQ, .int .u64 B, .bool EQ] 60 rfl (by kernel_rfl) (by kernel_rfl) (grown_start _) ⟨?o0r14, ?o1r14, ?o2r14, ?o3r14, ?o4r14, ?o5r14, ?o6r14, ?o7r14, trivial⟩ ?har14 ?hdoner14
  case har14 => simp [putAll, Act.put]; exact rfl
  case o0r14 => exact ValOp.pure (grown_steady _ 0) [(6, .int .u64 B)] rfl (fun _ _ h2 => ⟨(h2 6 (by kernel_rfl)).trans rfl, trivial⟩) (by kernel_rfl) (fun _ _ _ _ _ => by kernel_rfl)
  case o1r14 => exact ValOp.pure (grown_steady _ 1) [(2, .pointer (some ⟨w.heap.size, 0, none⟩))] rfl (fun _ _ h2 => ⟨(h2 2 (by kernel_rfl)).trans rfl, trivial⟩) (by kernel_rfl) (fun _ _ _ hg _ => run_read rfl rfl (run_loadVar_row _ _ _ _ _ _ _ (below_at l3 hg) Try.underlying76 rfl (by kernel_rfl)))
  case o2r14 => exact ValOp.pure (grown_steady _ 2) [(6, .int .u64 B)] rfl (fun _ _ h2 => ⟨(h2 6 (by kernel_rfl)).trans rfl, trivial⟩) (by kernel_rfl) (fun _ _ _ _ _ => by kernel_rfl)
  case o3r14 => exact ValOp.call (grown_steady _ 3) [(55, .agg #[.int .i64 p, .int .u64 K, .int .i64 bi]), (56, .int .u64 B)] rfl (fun _ h1 _ => ⟨h1 1 55 (by kernel_rfl), h1 2 56 (by kernel_rfl), trivial⟩) (by kernel_rfl) 69 #[.agg #[.int .i64 p, .int .u64 K, .int .i64 bi], .int .u64 B] (fun _ => by kernel_rfl) (fun _ w _ => k42 w)
  case o4r14 => exact ValOp.pure (grown_steady _ 4) [(3, .pointer (some ⟨(w.heap.size + 1), 0, none⟩))] rfl (fun _ _ h2 => ⟨(h2 3 (by kernel_rfl)).trans rfl, trivial⟩) (by kernel_rfl) (fun _ _ _ hg _ => run_read rfl rfl (run_loadVar_row _ _ _ _ _ _ _ (below_at x3 hg) Try.underlying66 rfl (by kernel_rfl)))
  case o5r14 => exact ValOp.pure (grown_steady _ 5) [(57, PV), (58, .agg #[.int .i64 2, .bool ng, .int .u64 M, .int .i64 X, .bool qu, .int .u64 LD])] rfl (fun _ h1 _ => ⟨h1 3 57 (by kernel_rfl), h1 4 58 (by kernel_rfl), trivial⟩) (by kernel_rfl) (fun _ _ _ _ _ => run_bin (a := PV) (b := .agg #[.int .i64 2, .bool ng, .int .u64 M, .int .i64 X, .bool qu, .int .u64 LD]) rfl rfl rfl (hEG _) (hEQ _))
  case o6r14 => exact ValOp.pure (grown_steady _ 6) [(54, .int .u64 B)] rfl (fun _ h1 _ => ⟨h1 0 54 (by kernel_rfl), trivial⟩) (by kernel_rfl) (fun _ _ _ _ _ => by kernel_rfl)
  case o7r14 => exact ValOp.pure (grown_steady _ 7) [(59, .bool EQ)] rfl (fun _ h1 _ => ⟨h1 5 59 (by kernel_rfl), trivial⟩) (by kernel_rfl) (fun _ _ _ _ _ => by kernel_rfl)
  intro w4 s4 _ hb4
  replace hb4 : Below _ _ w4 := hb4
  refine (by assumption : ∀ (a : Act) (w : World), Code.wp Try.prog Code.ret _ a w → _) _ _ ?_
  refine wp_ret (bodyPost_ret (v := .tuple #[.int .u64 B, .bool EQ]) (by simp [results, Try.results71, go_sem]) rfl ⟨rfl, B3.out.trans (hb4.mono B3.out.size)⟩)
set_option maxHeartbeats 2000000 in
theorem bits_inf {p : Nat} {bi : Int} (w : World) (_h1 : 1 ≤ p) (_h2 : p ≤ 52) (K S V VM B M LD : Nat) (X : Int) (ng qu EQ : Bool) (PV : Value) (hS1 : IntKind.u64.wrap ((S : Int) - 1) = (S : Int) - 1) (hVM : bits .and .u64 V ((S : Int) - 1) = VM)
    (k56 : ∀ w, Calls Try.prog 65 #[.agg #[.int .i64 p, .int .u64 K, .int .i64 bi]] w fun e w' => e = .returned (.int .u64 S) ∧ Below w.heap.size w w')
    (k60 : ∀ w, Calls Try.prog 74 #[.agg #[.int .i64 p, .int .u64 K, .int .i64 bi], .int .u64 VM, .bool ng] w fun e w' => e = .returned (.int .u64 B) ∧ Below w.heap.size w w')
    (k42 : ∀ w, Calls Try.prog 69 #[.agg #[.int .i64 p, .int .u64 K, .int .i64 bi], .int .u64 B] w fun e w' => e = .returned PV ∧ Below w.heap.size w w')
    (INF : Nat) (hV : INF = V)
    (k59 : ∀ w, Calls Try.prog 72 #[.agg #[.int .i64 p, .int .u64 K, .int .i64 bi]] w fun e w' => e = .returned (.int .u64 INF) ∧ Below w.heap.size w w')
    (hEG : ∀ w, (eqGuard .eql 66 (.tmp 57) (.tmp 58) PV (.agg #[.int .i64 3, .bool ng, .int .u64 M, .int .i64 X, .bool qu, .int .u64 LD])).run Try.prog w = .ok () w) (hEQ : ∀ w, (binOp .eql 66 PV (.agg #[.int .i64 3, .bool ng, .int .u64 M, .int .i64 X, .bool qu, .int .u64 LD])).run Try.prog w = .ok (.bool EQ) w) :
    Calls Try.prog 71 #[.agg #[.int .i64 p, .int .u64 K, .int .i64 bi], .agg #[.int .i64 3, .bool ng, .int .u64 M, .int .i64 X, .bool qu, .int .u64 LD]] w fun e w' => e = .returned (.tuple #[.int .u64 B, .bool EQ]) ∧ Below w.heap.size w w' := by
  subst hV
  go_enter Try.func71, Try.ntmps71
  go_wp2_with (go_at_call 72; refine (k59 _).mono ?_)
  rintro e w1 ⟨rfl, hb1⟩
  have l1 : w1.heap[w.heap.size]? = some (.cells #[.int .i64 p, .int .u64 K, .int .i64 bi] 76 (0, 0)) := below_at ((Below.heap_alloc _ _ _ (by simp)).trans (heap_alloc_last _ _)) hb1
  have x1 : w1.heap[w.heap.size + 1]? = some (.cells #[.int .i64 3, .bool ng, .int .u64 M, .int .i64 X, .bool qu, .int .u64 LD] 66 (0, 0)) := below_at (last_at _ _ (by simp)) hb1
  have z1 : w.heap.size + 2 ≤ w1.heap.size := by have := hb1.size; simpa using this
  have B1 : Hid (Below w.heap.size w w1) := by
    have h : Below w.heap.size _ w1 := hb1.mono (by simp <;> omega)
    exact (((Below.refl _ _).alloc (Nat.le_refl _) _).alloc (by simp) _).trans h
  clear hb1
  obtain ⟨c10, c11, c12⟩ := cells3 l1
  have d0 := (cells6 x1).1
  have d1 := (cells6 x1).2.1
  have d2 := (cells6 x1).2.2.1
  have d3 := (cells6 x1).2.2.2.1
  have d4 := (cells6 x1).2.2.2.2.1
  have d5 := (cells6 x1).2.2.2.2.2
  go_wp2_with fail
  refine wp_region_vals (a1 := ?a1r13) (grown _) [.agg #[.int .i64 p, .int .u64 K, .int .i64 bi], .int .u64 INF, .agg #[.int .i64 p, .int .u64 K, .int .i64 bi], .int .u64 S, .int .u64 (S - 1), .int .u64 VM, .pointer (some ⟨(w.heap.size + 1), 1, none⟩), .bool ng, .int .u64 B, .int .u64 B] 60 rfl (by kernel_rfl) (by kernel_rfl) (grown_start _) ⟨?o0r13, ?o1r13, ?o2r13, ?o3r13, ?o4r13, ?o5r13, ?o6r13, ?o7r13, ?o8r13, ?o9r13, trivial⟩ ?har13 ?hdoner13
  case har13 => simp [putAll, Act.put]; exact rfl
  case o0r13 => exact ValOp.pure (grown_steady _ 0) [(2, .pointer (some ⟨w.heap.size, 0, none⟩))] rfl (fun _ _ h2 => ⟨(h2 2 (by kernel_rfl)).trans rfl, trivial⟩) (by kernel_rfl) (fun _ _ _ hg _ => run_read rfl rfl (run_loadVar_row _ _ _ _ _ _ _ (below_at l1 hg) Try.underlying76 rfl (by kernel_rfl)))
  case o1r13 => exact ValOp.pure (grown_steady _ 1) [(6, .int .u64 INF)] rfl (fun _ _ h2 => ⟨(h2 6 (by kernel_rfl)).trans rfl, trivial⟩) (by kernel_rfl) (fun _ _ _ _ _ => by kernel_rfl)
  case o2r13 => exact ValOp.pure (grown_steady _ 2) [(2, .pointer (some ⟨w.heap.size, 0, none⟩))] rfl (fun _ _ h2 => ⟨(h2 2 (by kernel_rfl)).trans rfl, trivial⟩) (by kernel_rfl) (fun _ _ _ hg _ => run_read rfl rfl (run_loadVar_row _ _ _ _ _ _ _ (below_at l1 hg) Try.underlying76 rfl (by kernel_rfl)))
  case o3r13 => exact ValOp.call (grown_steady _ 3) [(47, .agg #[.int .i64 p, .int .u64 K, .int .i64 bi])] rfl (fun _ h1 _ => ⟨h1 2 47 (by kernel_rfl), trivial⟩) (by kernel_rfl) 65 #[.agg #[.int .i64 p, .int .u64 K, .int .i64 bi]] (fun _ => by kernel_rfl) (fun _ w _ => k56 w)
  case o4r13 => exact ValOp.pure (grown_steady _ 4) [(48, .int .u64 S)] rfl (fun _ h1 _ => ⟨h1 3 48 (by kernel_rfl), trivial⟩) (by kernel_rfl) (fun _ _ _ _ _ => run_bin (a := .int .u64 S) (b := .int .u64 1) rfl rfl rfl (by kernel_rfl) (by simp [go_sem, hS1]))
  case o5r13 => exact ValOp.pure (grown_steady _ 5) [(46, .int .u64 INF), (49, .int .u64 (S - 1))] rfl (fun _ h1 _ => ⟨h1 1 46 (by kernel_rfl), h1 4 49 (by kernel_rfl), trivial⟩) (by kernel_rfl) (fun _ _ _ _ _ => run_bin (a := .int .u64 INF) (b := .int .u64 (S - 1)) rfl rfl rfl (by kernel_rfl) (by simp [go_sem, hVM]))
  case o6r13 => exact ValOp.pure (grown_steady _ 6) [(3, .pointer (some ⟨(w.heap.size + 1), 0, none⟩))] rfl (fun _ _ h2 => ⟨(h2 3 (by kernel_rfl)).trans rfl, trivial⟩) (by kernel_rfl) (fun _ _ _ _ _ => by kernel_rfl)
  case o7r13 => exact ValOp.pure (grown_steady _ 7) [(51, .pointer (some ⟨(w.heap.size + 1), 1, none⟩))] rfl (fun _ h1 _ => ⟨h1 6 51 (by kernel_rfl), trivial⟩) (by kernel_rfl) (fun _ _ _ hg _ => run_read rfl rfl (run_cell (below_at x1 hg) rfl (Try.isAgg4 _)))
  case o8r13 => exact ValOp.call (grown_steady _ 8) [(45, .agg #[.int .i64 p, .int .u64 K, .int .i64 bi]), (50, .int .u64 VM), (52, .bool ng)] rfl (fun _ h1 _ => ⟨h1 0 45 (by kernel_rfl), h1 5 50 (by kernel_rfl), h1 7 52 (by kernel_rfl), trivial⟩) (by kernel_rfl) 74 #[.agg #[.int .i64 p, .int .u64 K, .int .i64 bi], .int .u64 VM, .bool ng] (fun _ => by kernel_rfl) (fun _ w _ => k60 w)
  case o9r13 => exact ValOp.pure (grown_steady _ 9) [(53, .int .u64 B)] rfl (fun _ h1 _ => ⟨h1 8 53 (by kernel_rfl), trivial⟩) (by kernel_rfl) (fun _ _ _ _ _ => by kernel_rfl)
  intro w3 s3 _ hb3
  replace hb3 : Below _ _ w3 := hb3
  have l3 : w3.heap[w.heap.size]? = some (.cells #[.int .i64 p, .int .u64 K, .int .i64 bi] 76 (0, 0)) := below_at l1 hb3
  have x3 : w3.heap[w.heap.size + 1]? = some (.cells #[.int .i64 3, .bool ng, .int .u64 M, .int .i64 X, .bool qu, .int .u64 LD] 66 (0, 0)) := below_at x1 hb3
  have B3 : Hid (Below w.heap.size w w3) := B1.out.trans (hb3.mono (by omega))
  clear hb3
  refine (by assumption : ∀ (a : Act) (w : World), Code.wp Try.prog ((Code.region 14 _ _).seq _) _ a w → _) _ _ ?_
  go_wp2_with fail
  refine wp_region_vals (a1 := ?a1r14) (grown _) [.int .u64 B, .agg #[.int .i64 p, .int .u64 K, .int .i64 bi], .int .u64 B, PV, .agg #[.int .i64 3, .bool ng, .int .u64 M, .int .i64 X, .bool qu, .int .u64 LD], .bool EQ, .int .u64 B, .bool EQ] 60 rfl (by kernel_rfl) (by kernel_rfl) (grown_start _) ⟨?o0r14, ?o1r14, ?o2r14, ?o3r14, ?o4r14, ?o5r14, ?o6r14, ?o7r14, trivial⟩ ?har14 ?hdoner14
  case har14 => simp [putAll, Act.put]; exact rfl
  case o0r14 => exact ValOp.pure (grown_steady _ 0) [(6, .int .u64 B)] rfl (fun _ _ h2 => ⟨(h2 6 (by kernel_rfl)).trans rfl, trivial⟩) (by kernel_rfl) (fun _ _ _ _ _ => by kernel_rfl)
  case o1r14 => exact ValOp.pure (grown_steady _ 1) [(2, .pointer (some ⟨w.heap.size, 0, none⟩))] rfl (fun _ _ h2 => ⟨(h2 2 (by kernel_rfl)).trans rfl, trivial⟩) (by kernel_rfl) (fun _ _ _ hg _ => run_read rfl rfl (run_loadVar_row _ _ _ _ _ _ _ (below_at l3 hg) Try.underlying76 rfl (by kernel_rfl)))
  case o2r14 => exact ValOp.pure (grown_steady _ 2) [(6, .int .u64 B)] rfl (fun _ _ h2 => ⟨(h2 6 (by kernel_rfl)).trans rfl, trivial⟩) (by kernel_rfl) (fun _ _ _ _ _ => by kernel_rfl)
  case o3r14 => exact ValOp.call (grown_steady _ 3) [(55, .agg #[.int .i64 p, .int .u64 K, .int .i64 bi]), (56, .int .u64 B)] rfl (fun _ h1 _ => ⟨h1 1 55 (by kernel_rfl), h1 2 56 (by kernel_rfl), trivial⟩) (by kernel_rfl) 69 #[.agg #[.int .i64 p, .int .u64 K, .int .i64 bi], .int .u64 B] (fun _ => by kernel_rfl) (fun _ w _ => k42 w)
  case o4r14 => exact ValOp.pure (grown_steady _ 4) [(3, .pointer (some ⟨(w.heap.size + 1), 0, none⟩))] rfl (fun _ _ h2 => ⟨(h2 3 (by kernel_rfl)).trans rfl, trivial⟩) (by kernel_rfl) (fun _ _ _ hg _ => run_read rfl rfl (run_loadVar_row _ _ _ _ _ _ _ (below_at x3 hg) Try.underlying66 rfl (by kernel_rfl)))
  case o5r14 => exact ValOp.pure (grown_steady _ 5) [(57, PV), (58, .agg #[.int .i64 3, .bool ng, .int .u64 M, .int .i64 X, .bool qu, .int .u64 LD])] rfl (fun _ h1 _ => ⟨h1 3 57 (by kernel_rfl), h1 4 58 (by kernel_rfl), trivial⟩) (by kernel_rfl) (fun _ _ _ _ _ => run_bin (a := PV) (b := .agg #[.int .i64 3, .bool ng, .int .u64 M, .int .i64 X, .bool qu, .int .u64 LD]) rfl rfl rfl (hEG _) (hEQ _))
  case o6r14 => exact ValOp.pure (grown_steady _ 6) [(54, .int .u64 B)] rfl (fun _ h1 _ => ⟨h1 0 54 (by kernel_rfl), trivial⟩) (by kernel_rfl) (fun _ _ _ _ _ => by kernel_rfl)
  case o7r14 => exact ValOp.pure (grown_steady _ 7) [(59, .bool EQ)] rfl (fun _ h1 _ => ⟨h1 5 59 (by kernel_rfl), trivial⟩) (by kernel_rfl) (fun _ _ _ _ _ => by kernel_rfl)
  intro w4 s4 _ hb4
  replace hb4 : Below _ _ w4 := hb4
  refine (by assumption : ∀ (a : Act) (w : World), Code.wp Try.prog Code.ret _ a w → _) _ _ ?_
  refine wp_ret (bodyPost_ret (v := .tuple #[.int .u64 B, .bool EQ]) (by simp [results, Try.results71, go_sem]) rfl ⟨rfl, B3.out.trans (hb4.mono B3.out.size)⟩)
set_option maxHeartbeats 2000000 in
theorem bits_loud {p : Nat} {bi : Int} (w : World) (_h1 : 1 ≤ p) (_h2 : p ≤ 52) (K S V VM B M LD : Nat) (X : Int) (ng qu EQ : Bool) (PV : Value) (hS1 : IntKind.u64.wrap ((S : Int) - 1) = (S : Int) - 1) (hVM : bits .and .u64 V ((S : Int) - 1) = VM)
    (k56 : ∀ w, Calls Try.prog 65 #[.agg #[.int .i64 p, .int .u64 K, .int .i64 bi]] w fun e w' => e = .returned (.int .u64 S) ∧ Below w.heap.size w w')
    (k60 : ∀ w, Calls Try.prog 74 #[.agg #[.int .i64 p, .int .u64 K, .int .i64 bi], .int .u64 VM, .bool ng] w fun e w' => e = .returned (.int .u64 B) ∧ Below w.heap.size w w')
    (k42 : ∀ w, Calls Try.prog 69 #[.agg #[.int .i64 p, .int .u64 K, .int .i64 bi], .int .u64 B] w fun e w' => e = .returned PV ∧ Below w.heap.size w w')
    (INF V4 : Nat) (hV4 : bits .or .u64 INF LD = V4) (hV : V4 = V) (hq : qu = false)
    (k59 : ∀ w, Calls Try.prog 72 #[.agg #[.int .i64 p, .int .u64 K, .int .i64 bi]] w fun e w' => e = .returned (.int .u64 INF) ∧ Below w.heap.size w w')
    (hEG : ∀ w, (eqGuard .eql 66 (.tmp 57) (.tmp 58) PV (.agg #[.int .i64 4, .bool ng, .int .u64 M, .int .i64 X, .bool qu, .int .u64 LD])).run Try.prog w = .ok () w) (hEQ : ∀ w, (binOp .eql 66 PV (.agg #[.int .i64 4, .bool ng, .int .u64 M, .int .i64 X, .bool qu, .int .u64 LD])).run Try.prog w = .ok (.bool EQ) w) :
    Calls Try.prog 71 #[.agg #[.int .i64 p, .int .u64 K, .int .i64 bi], .agg #[.int .i64 4, .bool ng, .int .u64 M, .int .i64 X, .bool qu, .int .u64 LD]] w fun e w' => e = .returned (.tuple #[.int .u64 B, .bool EQ]) ∧ Below w.heap.size w w' := by
  subst hV
  subst hq
  go_enter Try.func71, Try.ntmps71
  go_wp2_with fail
  refine wp_region_vals (a1 := ?a1r10) (grown _) [.agg #[.int .i64 p, .int .u64 K, .int .i64 bi], .int .u64 INF, .pointer (some ⟨(w.heap.size + 1), 5, none⟩), .int .u64 LD, .int .u64 V4, .int .u64 V4] 60 rfl (by kernel_rfl) (by kernel_rfl) (grown_start _) ⟨?o0r10, ?o1r10, ?o2r10, ?o3r10, ?o4r10, ?o5r10, trivial⟩ ?har10 ?hdoner10
  case har10 => simp [putAll, Act.put]; exact rfl
  case o0r10 => exact ValOp.pure (grown_steady _ 0) [(2, .pointer (some ⟨w.heap.size, 0, none⟩))] rfl (fun _ _ h2 => ⟨(h2 2 (by kernel_rfl)).trans rfl, trivial⟩) (by kernel_rfl) (fun _ _ _ hg _ => run_read rfl rfl (run_loadVar_row _ _ _ _ _ _ _ (below_at ((Below.heap_alloc _ _ _ (by simp)).trans (heap_alloc_last _ _)) hg) Try.underlying76 rfl (by kernel_rfl)))
  case o1r10 => exact ValOp.call (grown_steady _ 1) [(34, .agg #[.int .i64 p, .int .u64 K, .int .i64 bi])] rfl (fun _ h1 _ => ⟨h1 0 34 (by kernel_rfl), trivial⟩) (by kernel_rfl) 72 #[.agg #[.int .i64 p, .int .u64 K, .int .i64 bi]] (fun _ => by kernel_rfl) (fun _ w _ => k59 w)
  case o2r10 => exact ValOp.pure (grown_steady _ 2) [(3, .pointer (some ⟨(w.heap.size + 1), 0, none⟩))] rfl (fun _ _ h2 => ⟨(h2 3 (by kernel_rfl)).trans rfl, trivial⟩) (by kernel_rfl) (fun _ _ _ _ _ => by kernel_rfl)
  case o3r10 => exact ValOp.pure (grown_steady _ 3) [(36, .pointer (some ⟨(w.heap.size + 1), 5, none⟩))] rfl (fun _ h1 _ => ⟨h1 2 36 (by kernel_rfl), trivial⟩) (by kernel_rfl) (fun _ _ _ hg _ => run_read rfl rfl (run_cell (below_at (last_at _ _ (by simp)) hg) rfl (Try.isAgg22 _)))
  case o4r10 => exact ValOp.pure (grown_steady _ 4) [(35, .int .u64 INF), (37, .int .u64 LD)] rfl (fun _ h1 _ => ⟨h1 1 35 (by kernel_rfl), h1 3 37 (by kernel_rfl), trivial⟩) (by kernel_rfl) (fun _ _ _ _ _ => run_bin (a := .int .u64 INF) (b := .int .u64 LD) rfl rfl rfl (by kernel_rfl) (by simp [go_sem, hV4]))
  case o5r10 => exact ValOp.pure (grown_steady _ 5) [(38, .int .u64 V4)] rfl (fun _ h1 _ => ⟨h1 4 38 (by kernel_rfl), trivial⟩) (by kernel_rfl) (fun _ _ _ _ _ => by kernel_rfl)
  intro w1 s1 _ hb1
  replace hb1 : Below _ _ w1 := hb1
  have l1 : w1.heap[w.heap.size]? = some (.cells #[.int .i64 p, .int .u64 K, .int .i64 bi] 76 (0, 0)) := below_at ((Below.heap_alloc _ _ _ (by simp)).trans (heap_alloc_last _ _)) hb1
  have x1 : w1.heap[w.heap.size + 1]? = some (.cells #[.int .i64 4, .bool ng, .int .u64 M, .int .i64 X, .bool false, .int .u64 LD] 66 (0, 0)) := below_at (last_at _ _ (by simp)) hb1
  have z1 : w.heap.size + 2 ≤ w1.heap.size := by have := hb1.size; simpa using this
  have B1 : Hid (Below w.heap.size w w1) := by
    have h : Below w.heap.size _ w1 := hb1.mono (by simp <;> omega)
    exact (((Below.refl _ _).alloc (Nat.le_refl _) _).alloc (by simp) _).trans h
  clear hb1
  have d0 := (cells6 x1).1
  have d1 := (cells6 x1).2.1
  have d2 := (cells6 x1).2.2.1
  have d3 := (cells6 x1).2.2.2.1
  have d4 := (cells6 x1).2.2.2.2.1
  have d5 := (cells6 x1).2.2.2.2.2
  refine (by assumption : ∀ (a : Act) (w : World), Code.wp Try.prog ((Code.region 11 _ _).seq _) _ a w → _) _ _ ?_
  go_wp2_with fail
  refine wp_region_vals (a1 := ?a1r13) (grown _) [.agg #[.int .i64 p, .int .u64 K, .int .i64 bi], .int .u64 V4, .agg #[.int .i64 p, .int .u64 K, .int .i64 bi], .int .u64 S, .int .u64 (S - 1), .int .u64 VM, .pointer (some ⟨(w.heap.size + 1), 1, none⟩), .bool ng, .int .u64 B, .int .u64 B] 60 rfl (by kernel_rfl) (by kernel_rfl) (grown_start _) ⟨?o0r13, ?o1r13, ?o2r13, ?o3r13, ?o4r13, ?o5r13, ?o6r13, ?o7r13, ?o8r13, ?o9r13, trivial⟩ ?har13 ?hdoner13
  case har13 => simp [putAll, Act.put]; exact rfl
  case o0r13 => exact ValOp.pure (grown_steady _ 0) [(2, .pointer (some ⟨w.heap.size, 0, none⟩))] rfl (fun _ _ h2 => ⟨(h2 2 (by kernel_rfl)).trans rfl, trivial⟩) (by kernel_rfl) (fun _ _ _ hg _ => run_read rfl rfl (run_loadVar_row _ _ _ _ _ _ _ (below_at l1 hg) Try.underlying76 rfl (by kernel_rfl)))
  case o1r13 => exact ValOp.pure (grown_steady _ 1) [(6, .int .u64 V4)] rfl (fun _ _ h2 => ⟨(h2 6 (by kernel_rfl)).trans rfl, trivial⟩) (by kernel_rfl) (fun _ _ _ _ _ => by kernel_rfl)
  case o2r13 => exact ValOp.pure (grown_steady _ 2) [(2, .pointer (some ⟨w.heap.size, 0, none⟩))] rfl (fun _ _ h2 => ⟨(h2 2 (by kernel_rfl)).trans rfl, trivial⟩) (by kernel_rfl) (fun _ _ _ hg _ => run_read rfl rfl (run_loadVar_row _ _ _ _ _ _ _ (below_at l1 hg) Try.underlying76 rfl (by kernel_rfl)))
  case o3r13 => exact ValOp.call (grown_steady _ 3) [(47, .agg #[.int .i64 p, .int .u64 K, .int .i64 bi])] rfl (fun _ h1 _ => ⟨h1 2 47 (by kernel_rfl), trivial⟩) (by kernel_rfl) 65 #[.agg #[.int .i64 p, .int .u64 K, .int .i64 bi]] (fun _ => by kernel_rfl) (fun _ w _ => k56 w)
  case o4r13 => exact ValOp.pure (grown_steady _ 4) [(48, .int .u64 S)] rfl (fun _ h1 _ => ⟨h1 3 48 (by kernel_rfl), trivial⟩) (by kernel_rfl) (fun _ _ _ _ _ => run_bin (a := .int .u64 S) (b := .int .u64 1) rfl rfl rfl (by kernel_rfl) (by simp [go_sem, hS1]))
  case o5r13 => exact ValOp.pure (grown_steady _ 5) [(46, .int .u64 V4), (49, .int .u64 (S - 1))] rfl (fun _ h1 _ => ⟨h1 1 46 (by kernel_rfl), h1 4 49 (by kernel_rfl), trivial⟩) (by kernel_rfl) (fun _ _ _ _ _ => run_bin (a := .int .u64 V4) (b := .int .u64 (S - 1)) rfl rfl rfl (by kernel_rfl) (by simp [go_sem, hVM]))
  case o6r13 => exact ValOp.pure (grown_steady _ 6) [(3, .pointer (some ⟨(w.heap.size + 1), 0, none⟩))] rfl (fun _ _ h2 => ⟨(h2 3 (by kernel_rfl)).trans rfl, trivial⟩) (by kernel_rfl) (fun _ _ _ _ _ => by kernel_rfl)
  case o7r13 => exact ValOp.pure (grown_steady _ 7) [(51, .pointer (some ⟨(w.heap.size + 1), 1, none⟩))] rfl (fun _ h1 _ => ⟨h1 6 51 (by kernel_rfl), trivial⟩) (by kernel_rfl) (fun _ _ _ hg _ => run_read rfl rfl (run_cell (below_at x1 hg) rfl (Try.isAgg4 _)))
  case o8r13 => exact ValOp.call (grown_steady _ 8) [(45, .agg #[.int .i64 p, .int .u64 K, .int .i64 bi]), (50, .int .u64 VM), (52, .bool ng)] rfl (fun _ h1 _ => ⟨h1 0 45 (by kernel_rfl), h1 5 50 (by kernel_rfl), h1 7 52 (by kernel_rfl), trivial⟩) (by kernel_rfl) 74 #[.agg #[.int .i64 p, .int .u64 K, .int .i64 bi], .int .u64 VM, .bool ng] (fun _ => by kernel_rfl) (fun _ w _ => k60 w)
  case o9r13 => exact ValOp.pure (grown_steady _ 9) [(53, .int .u64 B)] rfl (fun _ h1 _ => ⟨h1 8 53 (by kernel_rfl), trivial⟩) (by kernel_rfl) (fun _ _ _ _ _ => by kernel_rfl)
  intro w3 s3 _ hb3
  replace hb3 : Below _ _ w3 := hb3
  have l3 : w3.heap[w.heap.size]? = some (.cells #[.int .i64 p, .int .u64 K, .int .i64 bi] 76 (0, 0)) := below_at l1 hb3
  have x3 : w3.heap[w.heap.size + 1]? = some (.cells #[.int .i64 4, .bool ng, .int .u64 M, .int .i64 X, .bool false, .int .u64 LD] 66 (0, 0)) := below_at x1 hb3
  have B3 : Hid (Below w.heap.size w w3) := B1.out.trans (hb3.mono (by omega))
  clear hb3
  refine (by assumption : ∀ (a : Act) (w : World), Code.wp Try.prog ((Code.region 14 _ _).seq _) _ a w → _) _ _ ?_
  go_wp2_with fail
  refine wp_region_vals (a1 := ?a1r14) (grown _) [.int .u64 B, .agg #[.int .i64 p, .int .u64 K, .int .i64 bi], .int .u64 B, PV, .agg #[.int .i64 4, .bool ng, .int .u64 M, .int .i64 X, .bool false, .int .u64 LD], .bool EQ, .int .u64 B, .bool EQ] 60 rfl (by kernel_rfl) (by kernel_rfl) (grown_start _) ⟨?o0r14, ?o1r14, ?o2r14, ?o3r14, ?o4r14, ?o5r14, ?o6r14, ?o7r14, trivial⟩ ?har14 ?hdoner14
  case har14 => simp [putAll, Act.put]; exact rfl
  case o0r14 => exact ValOp.pure (grown_steady _ 0) [(6, .int .u64 B)] rfl (fun _ _ h2 => ⟨(h2 6 (by kernel_rfl)).trans rfl, trivial⟩) (by kernel_rfl) (fun _ _ _ _ _ => by kernel_rfl)
  case o1r14 => exact ValOp.pure (grown_steady _ 1) [(2, .pointer (some ⟨w.heap.size, 0, none⟩))] rfl (fun _ _ h2 => ⟨(h2 2 (by kernel_rfl)).trans rfl, trivial⟩) (by kernel_rfl) (fun _ _ _ hg _ => run_read rfl rfl (run_loadVar_row _ _ _ _ _ _ _ (below_at l3 hg) Try.underlying76 rfl (by kernel_rfl)))
  case o2r14 => exact ValOp.pure (grown_steady _ 2) [(6, .int .u64 B)] rfl (fun _ _ h2 => ⟨(h2 6 (by kernel_rfl)).trans rfl, trivial⟩) (by kernel_rfl) (fun _ _ _ _ _ => by kernel_rfl)
  case o3r14 => exact ValOp.call (grown_steady _ 3) [(55, .agg #[.int .i64 p, .int .u64 K, .int .i64 bi]), (56, .int .u64 B)] rfl (fun _ h1 _ => ⟨h1 1 55 (by kernel_rfl), h1 2 56 (by kernel_rfl), trivial⟩) (by kernel_rfl) 69 #[.agg #[.int .i64 p, .int .u64 K, .int .i64 bi], .int .u64 B] (fun _ => by kernel_rfl) (fun _ w _ => k42 w)
  case o4r14 => exact ValOp.pure (grown_steady _ 4) [(3, .pointer (some ⟨(w.heap.size + 1), 0, none⟩))] rfl (fun _ _ h2 => ⟨(h2 3 (by kernel_rfl)).trans rfl, trivial⟩) (by kernel_rfl) (fun _ _ _ hg _ => run_read rfl rfl (run_loadVar_row _ _ _ _ _ _ _ (below_at x3 hg) Try.underlying66 rfl (by kernel_rfl)))
  case o5r14 => exact ValOp.pure (grown_steady _ 5) [(57, PV), (58, .agg #[.int .i64 4, .bool ng, .int .u64 M, .int .i64 X, .bool false, .int .u64 LD])] rfl (fun _ h1 _ => ⟨h1 3 57 (by kernel_rfl), h1 4 58 (by kernel_rfl), trivial⟩) (by kernel_rfl) (fun _ _ _ _ _ => run_bin (a := PV) (b := .agg #[.int .i64 4, .bool ng, .int .u64 M, .int .i64 X, .bool false, .int .u64 LD]) rfl rfl rfl (hEG _) (hEQ _))
  case o6r14 => exact ValOp.pure (grown_steady _ 6) [(54, .int .u64 B)] rfl (fun _ h1 _ => ⟨h1 0 54 (by kernel_rfl), trivial⟩) (by kernel_rfl) (fun _ _ _ _ _ => by kernel_rfl)
  case o7r14 => exact ValOp.pure (grown_steady _ 7) [(59, .bool EQ)] rfl (fun _ h1 _ => ⟨h1 5 59 (by kernel_rfl), trivial⟩) (by kernel_rfl) (fun _ _ _ _ _ => by kernel_rfl)
  intro w4 s4 _ hb4
  replace hb4 : Below _ _ w4 := hb4
  refine (by assumption : ∀ (a : Act) (w : World), Code.wp Try.prog Code.ret _ a w → _) _ _ ?_
  refine wp_ret (bodyPost_ret (v := .tuple #[.int .u64 B, .bool EQ]) (by simp [results, Try.results71, go_sem]) rfl ⟨rfl, B3.out.trans (hb4.mono B3.out.size)⟩)
set_option maxHeartbeats 2000000 in
theorem bits_quiet {p : Nat} {bi : Int} (w : World) (_h1 : 1 ≤ p) (_h2 : p ≤ 52) (K S V VM B M LD : Nat) (X : Int) (ng qu EQ : Bool) (PV : Value) (hS1 : IntKind.u64.wrap ((S : Int) - 1) = (S : Int) - 1) (hVM : bits .and .u64 V ((S : Int) - 1) = VM)
    (k56 : ∀ w, Calls Try.prog 65 #[.agg #[.int .i64 p, .int .u64 K, .int .i64 bi]] w fun e w' => e = .returned (.int .u64 S) ∧ Below w.heap.size w w')
    (k60 : ∀ w, Calls Try.prog 74 #[.agg #[.int .i64 p, .int .u64 K, .int .i64 bi], .int .u64 VM, .bool ng] w fun e w' => e = .returned (.int .u64 B) ∧ Below w.heap.size w w')
    (k42 : ∀ w, Calls Try.prog 69 #[.agg #[.int .i64 p, .int .u64 K, .int .i64 bi], .int .u64 B] w fun e w' => e = .returned PV ∧ Below w.heap.size w w')
    (INF V4 Q : Nat) (hV4 : bits .or .u64 INF LD = V4) (hV : bits .or .u64 V4 Q = V) (hq : qu = true)
    (k57 : ∀ w, Calls Try.prog 73 #[.agg #[.int .i64 p, .int .u64 K, .int .i64 bi]] w fun e w' => e = .returned (.int .u64 Q) ∧ Below w.heap.size w w')
    (k59 : ∀ w, Calls Try.prog 72 #[.agg #[.int .i64 p, .int .u64 K, .int .i64 bi]] w fun e w' => e = .returned (.int .u64 INF) ∧ Below w.heap.size w w')
    (hEG : ∀ w, (eqGuard .eql 66 (.tmp 57) (.tmp 58) PV (.agg #[.int .i64 4, .bool ng, .int .u64 M, .int .i64 X, .bool qu, .int .u64 LD])).run Try.prog w = .ok () w) (hEQ : ∀ w, (binOp .eql 66 PV (.agg #[.int .i64 4, .bool ng, .int .u64 M, .int .i64 X, .bool qu, .int .u64 LD])).run Try.prog w = .ok (.bool EQ) w) :
    Calls Try.prog 71 #[.agg #[.int .i64 p, .int .u64 K, .int .i64 bi], .agg #[.int .i64 4, .bool ng, .int .u64 M, .int .i64 X, .bool qu, .int .u64 LD]] w fun e w' => e = .returned (.tuple #[.int .u64 B, .bool EQ]) ∧ Below w.heap.size w w' := by
  subst hq
  go_enter Try.func71, Try.ntmps71
  go_wp2_with fail
  refine wp_region_vals (a1 := ?a1r10) (grown _) [.agg #[.int .i64 p, .int .u64 K, .int .i64 bi], .int .u64 INF, .pointer (some ⟨(w.heap.size + 1), 5, none⟩), .int .u64 LD, .int .u64 V4, .int .u64 V4] 60 rfl (by kernel_rfl) (by kernel_rfl) (grown_start _) ⟨?o0r10, ?o1r10, ?o2r10, ?o3r10, ?o4r10, ?o5r10, trivial⟩ ?har10 ?hdoner10
  case har10 => simp [putAll, Act.put]; exact rfl
  case o0r10 => exact ValOp.pure (grown_steady _ 0) [(2, .pointer (some ⟨w.heap.size, 0, none⟩))] rfl (fun _ _ h2 => ⟨(h2 2 (by kernel_rfl)).trans rfl, trivial⟩) (by kernel_rfl) (fun _ _ _ hg _ => run_read rfl rfl (run_loadVar_row _ _ _ _ _ _ _ (below_at ((Below.heap_alloc _ _ _ (by simp)).trans (heap_alloc_last _ _)) hg) Try.underlying76 rfl (by kernel_rfl)))
  case o1r10 => exact ValOp.call (grown_steady _ 1) [(34, .agg #[.int .i64 p, .int .u64 K, .int .i64 bi])] rfl (fun _ h1 _ => ⟨h1 0 34 (by kernel_rfl), trivial⟩) (by kernel_rfl) 72 #[.agg #[.int .i64 p, .int .u64 K, .int .i64 bi]] (fun _ => by kernel_rfl) (fun _ w _ => k59 w)
  case o2r10 => exact ValOp.pure (grown_steady _ 2) [(3, .pointer (some ⟨(w.heap.size + 1), 0, none⟩))] rfl (fun _ _ h2 => ⟨(h2 3 (by kernel_rfl)).trans rfl, trivial⟩) (by kernel_rfl) (fun _ _ _ _ _ => by kernel_rfl)
  case o3r10 => exact ValOp.pure (grown_steady _ 3) [(36, .pointer (some ⟨(w.heap.size + 1), 5, none⟩))] rfl (fun _ h1 _ => ⟨h1 2 36 (by kernel_rfl), trivial⟩) (by kernel_rfl) (fun _ _ _ hg _ => run_read rfl rfl (run_cell (below_at (last_at _ _ (by simp)) hg) rfl (Try.isAgg22 _)))
  case o4r10 => exact ValOp.pure (grown_steady _ 4) [(35, .int .u64 INF), (37, .int .u64 LD)] rfl (fun _ h1 _ => ⟨h1 1 35 (by kernel_rfl), h1 3 37 (by kernel_rfl), trivial⟩) (by kernel_rfl) (fun _ _ _ _ _ => run_bin (a := .int .u64 INF) (b := .int .u64 LD) rfl rfl rfl (by kernel_rfl) (by simp [go_sem, hV4]))
  case o5r10 => exact ValOp.pure (grown_steady _ 5) [(38, .int .u64 V4)] rfl (fun _ h1 _ => ⟨h1 4 38 (by kernel_rfl), trivial⟩) (by kernel_rfl) (fun _ _ _ _ _ => by kernel_rfl)
  intro w1 s1 _ hb1
  replace hb1 : Below _ _ w1 := hb1
  have l1 : w1.heap[w.heap.size]? = some (.cells #[.int .i64 p, .int .u64 K, .int .i64 bi] 76 (0, 0)) := below_at ((Below.heap_alloc _ _ _ (by simp)).trans (heap_alloc_last _ _)) hb1
  have x1 : w1.heap[w.heap.size + 1]? = some (.cells #[.int .i64 4, .bool ng, .int .u64 M, .int .i64 X, .bool true, .int .u64 LD] 66 (0, 0)) := below_at (last_at _ _ (by simp)) hb1
  have z1 : w.heap.size + 2 ≤ w1.heap.size := by have := hb1.size; simpa using this
  have B1 : Hid (Below w.heap.size w w1) := by
    have h : Below w.heap.size _ w1 := hb1.mono (by simp <;> omega)
    exact (((Below.refl _ _).alloc (Nat.le_refl _) _).alloc (by simp) _).trans h
  clear hb1
  have d0 := (cells6 x1).1
  have d1 := (cells6 x1).2.1
  have d2 := (cells6 x1).2.2.1
  have d3 := (cells6 x1).2.2.2.1
  have d4 := (cells6 x1).2.2.2.2.1
  have d5 := (cells6 x1).2.2.2.2.2
  obtain ⟨c10, c11, c12⟩ := cells3 l1
  refine (by assumption : ∀ (a : Act) (w : World), Code.wp Try.prog ((Code.region 11 _ _).seq _) _ a w → _) _ _ ?_
  go_wp2_with (go_at_call 73; refine (k57 _).mono ?_)
  rintro e w2 ⟨rfl, hb2⟩
  have l2 : w2.heap[w.heap.size]? = some (.cells #[.int .i64 p, .int .u64 K, .int .i64 bi] 76 (0, 0)) := below_at l1 hb2
  have x2 : w2.heap[w.heap.size + 1]? = some (.cells #[.int .i64 4, .bool ng, .int .u64 M, .int .i64 X, .bool true, .int .u64 LD] 66 (0, 0)) := below_at x1 hb2
  have z2 : w.heap.size + 2 ≤ w2.heap.size := Nat.le_trans z1 hb2.size
  have B2 : Hid (Below w.heap.size w w2) := B1.out.trans (hb2.mono (by omega))
  clear hb2
  go_wp2_with fail
  refine wp_region_vals (a1 := ?a1r13) (grown _) [.agg #[.int .i64 p, .int .u64 K, .int .i64 bi], .int .u64 V, .agg #[.int .i64 p, .int .u64 K, .int .i64 bi], .int .u64 S, .int .u64 (S - 1), .int .u64 VM, .pointer (some ⟨(w.heap.size + 1), 1, none⟩), .bool ng, .int .u64 B, .int .u64 B] 60 rfl (by kernel_rfl) (by kernel_rfl) (grown_start _) ⟨?o0r13, ?o1r13, ?o2r13, ?o3r13, ?o4r13, ?o5r13, ?o6r13, ?o7r13, ?o8r13, ?o9r13, trivial⟩ ?har13 ?hdoner13
  case har13 => simp [putAll, Act.put]; exact rfl
  case o0r13 => exact ValOp.pure (grown_steady _ 0) [(2, .pointer (some ⟨w.heap.size, 0, none⟩))] rfl (fun _ _ h2 => ⟨(h2 2 (by kernel_rfl)).trans rfl, trivial⟩) (by kernel_rfl) (fun _ _ _ hg _ => run_read rfl rfl (run_loadVar_row _ _ _ _ _ _ _ (below_at l2 hg) Try.underlying76 rfl (by kernel_rfl)))
  case o1r13 => exact ValOp.pure (grown_steady _ 1) [(6, .int .u64 V)] rfl (fun _ _ h2 => ⟨(h2 6 (by kernel_rfl)).trans rfl, trivial⟩) (by kernel_rfl) (fun _ _ _ _ _ => by kernel_rfl)
  case o2r13 => exact ValOp.pure (grown_steady _ 2) [(2, .pointer (some ⟨w.heap.size, 0, none⟩))] rfl (fun _ _ h2 => ⟨(h2 2 (by kernel_rfl)).trans rfl, trivial⟩) (by kernel_rfl) (fun _ _ _ hg _ => run_read rfl rfl (run_loadVar_row _ _ _ _ _ _ _ (below_at l2 hg) Try.underlying76 rfl (by kernel_rfl)))
  case o3r13 => exact ValOp.call (grown_steady _ 3) [(47, .agg #[.int .i64 p, .int .u64 K, .int .i64 bi])] rfl (fun _ h1 _ => ⟨h1 2 47 (by kernel_rfl), trivial⟩) (by kernel_rfl) 65 #[.agg #[.int .i64 p, .int .u64 K, .int .i64 bi]] (fun _ => by kernel_rfl) (fun _ w _ => k56 w)
  case o4r13 => exact ValOp.pure (grown_steady _ 4) [(48, .int .u64 S)] rfl (fun _ h1 _ => ⟨h1 3 48 (by kernel_rfl), trivial⟩) (by kernel_rfl) (fun _ _ _ _ _ => run_bin (a := .int .u64 S) (b := .int .u64 1) rfl rfl rfl (by kernel_rfl) (by simp [go_sem, hS1]))
  case o5r13 => exact ValOp.pure (grown_steady _ 5) [(46, .int .u64 V), (49, .int .u64 (S - 1))] rfl (fun _ h1 _ => ⟨h1 1 46 (by kernel_rfl), h1 4 49 (by kernel_rfl), trivial⟩) (by kernel_rfl) (fun _ _ _ _ _ => run_bin (a := .int .u64 V) (b := .int .u64 (S - 1)) rfl rfl rfl (by kernel_rfl) (by simp [go_sem, hVM]))
  case o6r13 => exact ValOp.pure (grown_steady _ 6) [(3, .pointer (some ⟨(w.heap.size + 1), 0, none⟩))] rfl (fun _ _ h2 => ⟨(h2 3 (by kernel_rfl)).trans rfl, trivial⟩) (by kernel_rfl) (fun _ _ _ _ _ => by kernel_rfl)
  case o7r13 => exact ValOp.pure (grown_steady _ 7) [(51, .pointer (some ⟨(w.heap.size + 1), 1, none⟩))] rfl (fun _ h1 _ => ⟨h1 6 51 (by kernel_rfl), trivial⟩) (by kernel_rfl) (fun _ _ _ hg _ => run_read rfl rfl (run_cell (below_at x2 hg) rfl (Try.isAgg4 _)))
  case o8r13 => exact ValOp.call (grown_steady _ 8) [(45, .agg #[.int .i64 p, .int .u64 K, .int .i64 bi]), (50, .int .u64 VM), (52, .bool ng)] rfl (fun _ h1 _ => ⟨h1 0 45 (by kernel_rfl), h1 5 50 (by kernel_rfl), h1 7 52 (by kernel_rfl), trivial⟩) (by kernel_rfl) 74 #[.agg #[.int .i64 p, .int .u64 K, .int .i64 bi], .int .u64 VM, .bool ng] (fun _ => by kernel_rfl) (fun _ w _ => k60 w)
  case o9r13 => exact ValOp.pure (grown_steady _ 9) [(53, .int .u64 B)] rfl (fun _ h1 _ => ⟨h1 8 53 (by kernel_rfl), trivial⟩) (by kernel_rfl) (fun _ _ _ _ _ => by kernel_rfl)
  intro w3 s3 _ hb3
  replace hb3 : Below _ _ w3 := hb3
  have l3 : w3.heap[w.heap.size]? = some (.cells #[.int .i64 p, .int .u64 K, .int .i64 bi] 76 (0, 0)) := below_at l2 hb3
  have x3 : w3.heap[w.heap.size + 1]? = some (.cells #[.int .i64 4, .bool ng, .int .u64 M, .int .i64 X, .bool true, .int .u64 LD] 66 (0, 0)) := below_at x2 hb3
  have B3 : Hid (Below w.heap.size w w3) := B2.out.trans (hb3.mono (by omega))
  clear hb3
  refine (by assumption : ∀ (a : Act) (w : World), Code.wp Try.prog ((Code.region 14 _ _).seq _) _ a w → _) _ _ ?_
  go_wp2_with fail
  refine wp_region_vals (a1 := ?a1r14) (grown _) [.int .u64 B, .agg #[.int .i64 p, .int .u64 K, .int .i64 bi], .int .u64 B, PV, .agg #[.int .i64 4, .bool ng, .int .u64 M, .int .i64 X, .bool true, .int .u64 LD], .bool EQ, .int .u64 B, .bool EQ] 60 rfl (by kernel_rfl) (by kernel_rfl) (grown_start _) ⟨?o0r14, ?o1r14, ?o2r14, ?o3r14, ?o4r14, ?o5r14, ?o6r14, ?o7r14, trivial⟩ ?har14 ?hdoner14
  case har14 => simp [putAll, Act.put]; exact rfl
  case o0r14 => exact ValOp.pure (grown_steady _ 0) [(6, .int .u64 B)] rfl (fun _ _ h2 => ⟨(h2 6 (by kernel_rfl)).trans rfl, trivial⟩) (by kernel_rfl) (fun _ _ _ _ _ => by kernel_rfl)
  case o1r14 => exact ValOp.pure (grown_steady _ 1) [(2, .pointer (some ⟨w.heap.size, 0, none⟩))] rfl (fun _ _ h2 => ⟨(h2 2 (by kernel_rfl)).trans rfl, trivial⟩) (by kernel_rfl) (fun _ _ _ hg _ => run_read rfl rfl (run_loadVar_row _ _ _ _ _ _ _ (below_at l3 hg) Try.underlying76 rfl (by kernel_rfl)))
  case o2r14 => exact ValOp.pure (grown_steady _ 2) [(6, .int .u64 B)] rfl (fun _ _ h2 => ⟨(h2 6 (by kernel_rfl)).trans rfl, trivial⟩) (by kernel_rfl) (fun _ _ _ _ _ => by kernel_rfl)
  case o3r14 => exact ValOp.call (grown_steady _ 3) [(55, .agg #[.int .i64 p, .int .u64 K, .int .i64 bi]), (56, .int .u64 B)] rfl (fun _ h1 _ => ⟨h1 1 55 (by kernel_rfl), h1 2 56 (by kernel_rfl), trivial⟩) (by kernel_rfl) 69 #[.agg #[.int .i64 p, .int .u64 K, .int .i64 bi], .int .u64 B] (fun _ => by kernel_rfl) (fun _ w _ => k42 w)
  case o4r14 => exact ValOp.pure (grown_steady _ 4) [(3, .pointer (some ⟨(w.heap.size + 1), 0, none⟩))] rfl (fun _ _ h2 => ⟨(h2 3 (by kernel_rfl)).trans rfl, trivial⟩) (by kernel_rfl) (fun _ _ _ hg _ => run_read rfl rfl (run_loadVar_row _ _ _ _ _ _ _ (below_at x3 hg) Try.underlying66 rfl (by kernel_rfl)))
  case o5r14 => exact ValOp.pure (grown_steady _ 5) [(57, PV), (58, .agg #[.int .i64 4, .bool ng, .int .u64 M, .int .i64 X, .bool true, .int .u64 LD])] rfl (fun _ h1 _ => ⟨h1 3 57 (by kernel_rfl), h1 4 58 (by kernel_rfl), trivial⟩) (by kernel_rfl) (fun _ _ _ _ _ => run_bin (a := PV) (b := .agg #[.int .i64 4, .bool ng, .int .u64 M, .int .i64 X, .bool true, .int .u64 LD]) rfl rfl rfl (hEG _) (hEQ _))
  case o6r14 => exact ValOp.pure (grown_steady _ 6) [(54, .int .u64 B)] rfl (fun _ h1 _ => ⟨h1 0 54 (by kernel_rfl), trivial⟩) (by kernel_rfl) (fun _ _ _ _ _ => by kernel_rfl)
  case o7r14 => exact ValOp.pure (grown_steady _ 7) [(59, .bool EQ)] rfl (fun _ h1 _ => ⟨h1 5 59 (by kernel_rfl), trivial⟩) (by kernel_rfl) (fun _ _ _ _ _ => by kernel_rfl)
  intro w4 s4 _ hb4
  replace hb4 : Below _ _ w4 := hb4
  refine (by assumption : ∀ (a : Act) (w : World), Code.wp Try.prog Code.ret _ a w → _) _ _ ?_
  refine wp_ret (bodyPost_ret (v := .tuple #[.int .u64 B, .bool EQ]) (by simp [results, Try.results71, go_sem]) rfl ⟨rfl, B3.out.trans (hb4.mono B3.out.size)⟩)
end Go.Proofs.Ytjcjecbffnadaab
