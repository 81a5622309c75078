/-
  The contract of the document's Of, by the numbers that stand in it: noughts and others.
-/
import Derived.Test.YtjcjecbffnadaabPa
namespace Go.Proofs.Ytjcjecbffnadaab
open Go.RowKit
set_option maxHeartbeats 2000000 in
theorem rof_o_load {p : Nat} {bi : Int} (w : World) (h1 : 1 ≤ p) (h2 : p ≤ 52) (_hb0 : 0 ≤ bi) (_hb1 : bi ≤ 1023) (K P P2 M LD : Nat) (X : Int) (ng qu : Bool) (_hK0 : 3 ≤ K) (_hK1 : K ≤ 2047) (hP : IntKind.u64.wrap ((2 : Int) ^ p) = P) (_hP2 : IntKind.u64.wrap ((2 : Int) ^ (p + 1)) = P2) (_hP1 : 1 ≤ P) (_hP3 : P ≤ 4503599627370496)
    (kd : Int) (n1 : ¬ kd = 1) (n2 : ¬ kd = 2) (n3 : ¬ kd = 3) (n4 : ¬ kd = 4) 
    (c1 : (P : Int) < LD) :
    Calls Try.prog 66 #[.agg #[.int .i64 kd, .bool ng, .int .u64 M, .int .i64 X, .bool qu, .int .u64 LD], .agg #[.int .i64 p, .int .i64 K, .int .i64 bi]] w fun e w' => e = .returned (.tuple #[.int .u64 0, .int .i64 40]) ∧ Below w.heap.size w w' := by
  go_enter Try.func66, Try.ntmps66
  go_wp2
  refine bodyPost_ret (v := .tuple #[.int .u64 0, .int .i64 40]) (by simp [results, Try.results66, go_sem]) rfl ⟨rfl, ((Below.refl _ _).alloc (Nat.le_refl _) _).alloc (by simp) _⟩
set_option maxHeartbeats 2000000 in
theorem rof_o_mant {p : Nat} {bi : Int} (w : World) (h1 : 1 ≤ p) (h2 : p ≤ 52) (_hb0 : 0 ≤ bi) (_hb1 : bi ≤ 1023) (K P P2 M LD : Nat) (X : Int) (ng qu : Bool) (_hK0 : 3 ≤ K) (_hK1 : K ≤ 2047) (hP : IntKind.u64.wrap ((2 : Int) ^ p) = P) (hP2 : IntKind.u64.wrap ((2 : Int) ^ (p + 1)) = P2) (_hP1 : 1 ≤ P) (_hP3 : P ≤ 4503599627370496)
    (kd : Int) (n1 : ¬ kd = 1) (n2 : ¬ kd = 2) (n3 : ¬ kd = 3) (n4 : ¬ kd = 4) 
    (c1 : ¬ (P : Int) < LD) (c2 : (P2 : Int) < M) :
    Calls Try.prog 66 #[.agg #[.int .i64 kd, .bool ng, .int .u64 M, .int .i64 X, .bool qu, .int .u64 LD], .agg #[.int .i64 p, .int .i64 K, .int .i64 bi]] w fun e w' => e = .returned (.tuple #[.int .u64 0, .int .i64 40]) ∧ Below w.heap.size w w' := by
  go_enter Try.func66, Try.ntmps66
  go_wp2
  refine bodyPost_ret (v := .tuple #[.int .u64 0, .int .i64 40]) (by simp [results, Try.results66, go_sem]) rfl ⟨rfl, ((Below.refl _ _).alloc (Nat.le_refl _) _).alloc (by simp) _⟩
set_option maxHeartbeats 2000000 in
theorem rof_o_false {p : Nat} {bi : Int} (w : World) (h1 : 1 ≤ p) (h2 : p ≤ 52) (_hb0 : 0 ≤ bi) (_hb1 : bi ≤ 1023) (K P P2 M LD : Nat) (X : Int) (qu : Bool) (_hK0 : 3 ≤ K) (_hK1 : K ≤ 2047) (hP : IntKind.u64.wrap ((2 : Int) ^ p) = P) (hP2 : IntKind.u64.wrap ((2 : Int) ^ (p + 1)) = P2) (_hP1 : 1 ≤ P) (_hP3 : P ≤ 4503599627370496)
    (kd : Int) (n1 : ¬ kd = 1) (n2 : ¬ kd = 2) (n3 : ¬ kd = 3) (n4 : ¬ kd = 4) 
    (c1 : ¬ (P : Int) < LD) (c2 : ¬ (P2 : Int) < M) (PV : Value) (NE : Bool) (k15 : ∀ w, Calls Try.prog 11 #[.int .u64 0, .agg #[.int .i64 p, .int .i64 K, .int .i64 bi]] w fun e w' => e = .returned PV ∧ Below w.heap.size w w') (hNG : ∀ w, (eqGuard .neq 27 (.tmp 123) (.tmp 124) PV (.agg #[.int .i64 kd, .bool false, .int .u64 M, .int .i64 X, .bool qu, .int .u64 LD])).run Try.prog w = .ok () w) (hNE : ∀ w, (binOp .neq 27 PV (.agg #[.int .i64 kd, .bool false, .int .u64 M, .int .i64 X, .bool qu, .int .u64 LD])).run Try.prog w = .ok (.bool NE) w) :
    Calls Try.prog 66 #[.agg #[.int .i64 kd, .bool false, .int .u64 M, .int .i64 X, .bool qu, .int .u64 LD], .agg #[.int .i64 p, .int .i64 K, .int .i64 bi]] w fun e w' => e = .returned (if NE then .tuple #[.int .u64 0, .int .i64 40] else .tuple #[.int .u64 0, .int .i64 0]) ∧ Below w.heap.size w w' := by
  go_enter Try.func66, Try.ntmps66
  go_wp2_with fail
  refine wp_region_vals (a1 := ?a1r19n1) (grown _) [.int .u64 0, .agg #[.int .i64 p, .int .i64 K, .int .i64 bi], PV, .agg #[.int .i64 kd, .bool false, .int .u64 M, .int .i64 X, .bool qu, .int .u64 LD], .bool NE] 127 rfl (by kernel_rfl) (by kernel_rfl) (grown_start _) ⟨?o0r19n1, ?o1r19n1, ?o2r19n1, ?o3r19n1, ?o4r19n1, trivial⟩ ?har19n1 ?hdoner19n1
  case har19n1 => simp [putAll, Act.put]; exact rfl
  case o0r19n1 => exact ValOp.pure (grown_steady _ 0) [(6, .int .u64 0)] rfl (fun _ _ h2 => ⟨(h2 6 (by kernel_rfl)).trans rfl, trivial⟩) (by kernel_rfl) (fun _ _ _ _ _ => by kernel_rfl)
  case o1r19n1 => exact ValOp.pure (grown_steady _ 1) [(3, .pointer (some ⟨(w.heap.size + 1), 0, none⟩))] rfl (fun _ _ h2 => ⟨(h2 3 (by kernel_rfl)).trans rfl, trivial⟩) (by kernel_rfl) (fun _ _ _ hg _ => run_read rfl rfl (run_loadVar_row _ _ _ _ _ _ _ (below_at (last_at _ _ (by simp)) hg) Try.underlying30 rfl (by kernel_rfl)))
  case o2r19n1 => exact ValOp.call (grown_steady _ 2) [(121, .int .u64 0), (122, .agg #[.int .i64 p, .int .i64 K, .int .i64 bi])] rfl (fun _ h1 _ => ⟨h1 0 121 (by kernel_rfl), h1 1 122 (by kernel_rfl), trivial⟩) (by kernel_rfl) 11 #[.int .u64 0, .agg #[.int .i64 p, .int .i64 K, .int .i64 bi]] (fun _ => by kernel_rfl) (fun _ w _ => k15 w)
  case o3r19n1 => exact ValOp.pure (grown_steady _ 3) [(2, .pointer (some ⟨w.heap.size, 0, none⟩))] rfl (fun _ _ h2 => ⟨(h2 2 (by kernel_rfl)).trans rfl, trivial⟩) (by kernel_rfl) (fun _ _ _ hg _ => run_read rfl rfl (run_loadVar_row _ _ _ _ _ _ _ (below_at ((Below.heap_alloc _ _ _ (by simp)).trans (heap_alloc_last _ _)) hg) Try.underlying27 rfl (by kernel_rfl)))
  case o4r19n1 => exact ValOp.pure (grown_steady _ 4) [(123, PV), (124, .agg #[.int .i64 kd, .bool false, .int .u64 M, .int .i64 X, .bool qu, .int .u64 LD])] rfl (fun _ h1 _ => ⟨h1 2 123 (by kernel_rfl), h1 3 124 (by kernel_rfl), trivial⟩) (by kernel_rfl) (fun _ _ _ _ _ => run_bin (a := PV) (b := .agg #[.int .i64 kd, .bool false, .int .u64 M, .int .i64 X, .bool qu, .int .u64 LD]) rfl rfl rfl (hNG _) (hNE _))
  intro w2 s2 _ hb2
  replace hb2 : Below _ _ w2 := hb2
  have B2 : Hid (Below w.heap.size w w2) := by
    have h : Below w.heap.size _ w2 := hb2.mono (by simp <;> omega)
    exact (((Below.refl _ _).alloc (Nat.le_refl _) _).alloc (by simp) _).trans h
  clear hb2
  refine (by assumption : ∀ (a : Act) (w : World), Code.wp Try.prog (Code.cond _ _ _) _ a w → _) _ _ ?_
  cases NE
  · go_wp2
    refine bodyPost_ret (v := .tuple #[.int .u64 0, .int .i64 0]) (by simp [results, Try.results66, go_sem]) rfl ⟨rfl, B2.out⟩
  · go_wp2
    refine bodyPost_ret (v := .tuple #[.int .u64 0, .int .i64 40]) (by simp [results, Try.results66, go_sem]) rfl ⟨rfl, B2.out⟩
set_option maxHeartbeats 2000000 in
theorem rof_o_true {p : Nat} {bi : Int} (w : World) (h1 : 1 ≤ p) (h2 : p ≤ 52) (_hb0 : 0 ≤ bi) (_hb1 : bi ≤ 1023) (K P P2 M LD : Nat) (X : Int) (qu : Bool) (_hK0 : 3 ≤ K) (_hK1 : K ≤ 2047) (hP : IntKind.u64.wrap ((2 : Int) ^ p) = P) (hP2 : IntKind.u64.wrap ((2 : Int) ^ (p + 1)) = P2) (_hP1 : 1 ≤ P) (_hP3 : P ≤ 4503599627370496)
    (kd : Int) (n1 : ¬ kd = 1) (n2 : ¬ kd = 2) (n3 : ¬ kd = 3) (n4 : ¬ kd = 4) 
    (S VS : Nat) (hVS : bits .or .u64 (0 : Int) S = VS) (k44 : ∀ w, Calls Try.prog 48 #[.agg #[.int .i64 p, .int .i64 K, .int .i64 bi]] w fun e w' => e = .returned (.int .u64 S) ∧ Below w.heap.size w w') (c1 : ¬ (P : Int) < LD) (c2 : ¬ (P2 : Int) < M) (PV : Value) (NE : Bool) (k15 : ∀ w, Calls Try.prog 11 #[.int .u64 VS, .agg #[.int .i64 p, .int .i64 K, .int .i64 bi]] w fun e w' => e = .returned PV ∧ Below w.heap.size w w') (hNG : ∀ w, (eqGuard .neq 27 (.tmp 123) (.tmp 124) PV (.agg #[.int .i64 kd, .bool true, .int .u64 M, .int .i64 X, .bool qu, .int .u64 LD])).run Try.prog w = .ok () w) (hNE : ∀ w, (binOp .neq 27 PV (.agg #[.int .i64 kd, .bool true, .int .u64 M, .int .i64 X, .bool qu, .int .u64 LD])).run Try.prog w = .ok (.bool NE) w) :
    Calls Try.prog 66 #[.agg #[.int .i64 kd, .bool true, .int .u64 M, .int .i64 X, .bool qu, .int .u64 LD], .agg #[.int .i64 p, .int .i64 K, .int .i64 bi]] w fun e w' => e = .returned (if NE then .tuple #[.int .u64 0, .int .i64 40] else .tuple #[.int .u64 VS, .int .i64 0]) ∧ Below w.heap.size w w' := by
  go_enter Try.func66, Try.ntmps66
  go_wp2_with (go_at_call 48; refine (k44 _).mono ?_)
  rintro e w1 rfl bb1
  have x1 : w1.heap[w.heap.size]? = some (.cells #[.int .i64 kd, .bool true, .int .u64 M, .int .i64 X, .bool qu, .int .u64 LD] 27 (0, 0)) := (bb1.block _ (by omega)).trans ((Below.heap_alloc _ _ _ (by simp)).trans (heap_alloc_last _ _))
  have z1 : w1.heap[w.heap.size + 1]? = some (.cells #[.int .i64 p, .int .i64 K, .int .i64 bi] 30 (0, 0)) := (bb1.block _ (by omega)).trans (last_at _ _ (by simp))
  have B1 : Hid (Below w.heap.size w w1) := by
    have h : Below w.heap.size _ w1 := bb1.mono (by omega)
    exact (((Below.refl _ _).alloc (Nat.le_refl _) _).alloc (by simp) _).trans h
  clear bb1
  go_wp2_with fail
  refine wp_region_vals (a1 := ?a1r19n2) (grown _) [.int .u64 VS, .agg #[.int .i64 p, .int .i64 K, .int .i64 bi], PV, .agg #[.int .i64 kd, .bool true, .int .u64 M, .int .i64 X, .bool qu, .int .u64 LD], .bool NE] 127 rfl (by kernel_rfl) (by kernel_rfl) (grown_start _) ⟨?o0r19n2, ?o1r19n2, ?o2r19n2, ?o3r19n2, ?o4r19n2, trivial⟩ ?har19n2 ?hdoner19n2
  case har19n2 => simp [putAll, Act.put]; exact rfl
  case o0r19n2 => exact ValOp.pure (grown_steady _ 0) [(6, .int .u64 VS)] rfl (fun _ _ h2 => ⟨(h2 6 (by kernel_rfl)).trans rfl, trivial⟩) (by kernel_rfl) (fun _ _ _ _ _ => by kernel_rfl)
  case o1r19n2 => exact ValOp.pure (grown_steady _ 1) [(3, .pointer (some ⟨(w.heap.size + 1), 0, none⟩))] rfl (fun _ _ h2 => ⟨(h2 3 (by kernel_rfl)).trans rfl, trivial⟩) (by kernel_rfl) (fun _ _ _ hg _ => run_read rfl rfl (run_loadVar_row _ _ _ _ _ _ _ (below_at z1 hg) Try.underlying30 rfl (by kernel_rfl)))
  case o2r19n2 => exact ValOp.call (grown_steady _ 2) [(121, .int .u64 VS), (122, .agg #[.int .i64 p, .int .i64 K, .int .i64 bi])] rfl (fun _ h1 _ => ⟨h1 0 121 (by kernel_rfl), h1 1 122 (by kernel_rfl), trivial⟩) (by kernel_rfl) 11 #[.int .u64 VS, .agg #[.int .i64 p, .int .i64 K, .int .i64 bi]] (fun _ => by kernel_rfl) (fun _ w _ => k15 w)
  case o3r19n2 => exact ValOp.pure (grown_steady _ 3) [(2, .pointer (some ⟨w.heap.size, 0, none⟩))] rfl (fun _ _ h2 => ⟨(h2 2 (by kernel_rfl)).trans rfl, trivial⟩) (by kernel_rfl) (fun _ _ _ hg _ => run_read rfl rfl (run_loadVar_row _ _ _ _ _ _ _ (below_at x1 hg) Try.underlying27 rfl (by kernel_rfl)))
  case o4r19n2 => exact ValOp.pure (grown_steady _ 4) [(123, PV), (124, .agg #[.int .i64 kd, .bool true, .int .u64 M, .int .i64 X, .bool qu, .int .u64 LD])] rfl (fun _ h1 _ => ⟨h1 2 123 (by kernel_rfl), h1 3 124 (by kernel_rfl), trivial⟩) (by kernel_rfl) (fun _ _ _ _ _ => run_bin (a := PV) (b := .agg #[.int .i64 kd, .bool true, .int .u64 M, .int .i64 X, .bool qu, .int .u64 LD]) rfl rfl rfl (hNG _) (hNE _))
  intro w2 s2 _ hb2
  replace hb2 : Below _ _ w2 := hb2
  have B2 : Hid (Below w.heap.size w w2) := B1.out.trans (hb2.mono B1.out.size)
  clear hb2
  refine (by assumption : ∀ (a : Act) (w : World), Code.wp Try.prog (Code.cond _ _ _) _ a w → _) _ _ ?_
  cases NE
  · go_wp2
    refine bodyPost_ret (v := .tuple #[.int .u64 VS, .int .i64 0]) (by simp [results, Try.results66, go_sem]) rfl ⟨rfl, B2.out⟩
  · go_wp2
    refine bodyPost_ret (v := .tuple #[.int .u64 0, .int .i64 40]) (by simp [results, Try.results66, go_sem]) rfl ⟨rfl, B2.out⟩
end Go.Proofs.Ytjcjecbffnadaab
